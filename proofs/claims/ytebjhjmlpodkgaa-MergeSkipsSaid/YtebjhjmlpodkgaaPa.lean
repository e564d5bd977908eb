/-
  Merges: runs in memory, what is wrong with them; checkRuns on both sides.
-/
import Derived.Test.YtebjhjmlpodkgaaLa
namespace Go.Proofs.Ytebjhjmlpodkgaa.KK
open Go.ChangeShapes Go.WideShapes Go.ChangeAt Go.RowKit Go.Proofs

/-- a run: where it lies, its capacity, its entries -/
abbrev Rn := Option Addr × Nat × List El.En
/-- a slice of runs lies there -/
def RsAt (w : World) (A : Option Addr) (rs : List Rn) : Prop :=
  rs = [] ∨ ∃ b off, A = some ⟨b, off, none⟩ ∧ b < w.heap.size ∧ ∀ (i : Nat) (h : i < rs.length),
    w.cell? ⟨b, off + i, none⟩ = some (.slice rs[i].1 rs[i].2.2.length rs[i].2.1) ∧ EsAt w rs[i].1 rs[i].2.2
theorem EsAt.chg {S : Nat → Prop} {w w' : World} {A : Option Addr} {xs : List El.En} (h : EsAt w A xs) (hc : Chg S w w') (hS : ∀ a, A = some a → ¬ S a.block) : EsAt w' A xs := by
  rcases h with h | ⟨b, off, rfl, hb, hh⟩
  · exact .inl h
  · exact .inr ⟨b, off, rfl, Nat.lt_of_lt_of_le hb hc.size, fun i hi => ⟨hc.cell (hh i hi).1 (hS _ rfl), hc.cell (hh i hi).2.1 (hS _ rfl), hc.cell (hh i hi).2.2.1 (hS _ rfl), hc.cell (hh i hi).2.2.2 (hS _ rfl)⟩⟩
theorem RsAt.chg {S : Nat → Prop} {w w' : World} {A : Option Addr} {rs : List Rn} (h : RsAt w A rs) (hc : Chg S w w') (hS : ∀ a, A = some a → ¬ S a.block) (hR : ∀ r ∈ rs, ∀ a, r.1 = some a → ¬ S a.block) : RsAt w' A rs := by
  rcases h with h | ⟨b, off, rfl, hb, hh⟩
  · exact .inl h
  · exact .inr ⟨b, off, rfl, Nat.lt_of_lt_of_le hb hc.size, fun i hi => ⟨hc.cell (hh i hi).1 (hS _ rfl), (hh i hi).2.chg hc (hR _ (List.getElem_mem hi))⟩⟩
theorem RsAt.below {B : Nat} {w w' : World} {A : Option Addr} {rs : List Rn} (h : RsAt w A rs) (hb : Below B w w') (hB : w.heap.size ≤ B) : RsAt w' A rs :=
  h.chg (S := fun _ => False) (.of_below (hb.mono hB)) (fun _ _ g => g) (fun _ _ _ _ g => g)
theorem EsAt.lt {w : World} {A : Option Addr} {xs : List El.En} (h : EsAt w A xs) (hne : xs ≠ []) : ∀ a, A = some a → a.block < w.heap.size := by
  rcases h with h | ⟨b, off, rfl, hb, hh⟩
  · exact absurd h hne
  · intro a e; cases e; exact hb
def SizedR (rs : List Rn) : Prop := ∀ r ∈ rs, r.2.2.length ≤ 4294967295 ∧ Sized r.2.2
/-- the entries of runs -/
def ess (rs : List Rn) : List (List El.En) := rs.map (·.2.2)
theorem ess_len (rs : List Rn) : (ess rs).length = rs.length := by simp [ess]
theorem ess_get {rs : List Rn} {i : Nat} (h : i < rs.length) : (ess rs)[i]'(by rw [ess_len]; exact h) = rs[i].2.2 := by simp [ess]
/-- the first run that is wrong -/
def firstR : Nat → List (List El.En) → Int × Int
  | _, [] => (0, 0)
  | i, l :: t => if (listE l).2 = 0 then firstR (i + 1) t else ((i : Int), (listE l).2)
/-- what is wrong with runs -/
def runsE (xss : List (List El.En)) : Int × Int := if xss.length = 0 then (-1, 6) else if 32 < xss.length then (-1, 3) else firstR 0 xss
theorem firstR_ok {rs : List Rn} {k : Nat} (h : k < rs.length) (g : (listE rs[k].2.2).2 = 0) : firstR k ((ess rs).drop k) = firstR (k + 1) ((ess rs).drop (k + 1)) := by
  rw [List.drop_eq_getElem_cons (by rw [ess_len]; exact h), ess_get h]; exact if_pos g
theorem firstR_no {rs : List Rn} {k : Nat} (h : k < rs.length) (g : (listE rs[k].2.2).2 ≠ 0) : firstR k ((ess rs).drop k) = ((k : Int), (listE rs[k].2.2).2) := by
  rw [List.drop_eq_getElem_cons (by rw [ess_len]; exact h), ess_get h]; exact if_neg g
theorem firstR_end {rs : List Rn} {k : Nat} (h : ¬ k < rs.length) : firstR k ((ess rs).drop k) = (0, 0) := by
  rw [List.drop_eq_nil_of_le (by rw [ess_len]; omega)]; rfl
theorem firstR_all : ∀ {xss : List (List El.En)} {i : Nat}, (firstR i xss).2 = 0 → ∀ l ∈ xss, (listE l).2 = 0
  | [], _, _, l, h => by cases h
  | y :: t, i, h, l, hl => by
    by_cases g : (listE y).2 = 0
    · rcases List.mem_cons.1 hl with rfl | hl
      · exact g
      · exact firstR_all (i := i + 1) (by rw [firstR, if_pos g] at h; exact h) l hl
    · rw [firstR, if_neg g] at h; exact absurd h g
theorem runsE_ok {xss : List (List El.En)} (h : (runsE xss).2 = 0) : 1 ≤ xss.length ∧ xss.length ≤ 32 ∧ (∀ l ∈ xss, (listE l).2 = 0) ∧ (runsE xss) = (0, 0) := by
  unfold runsE at h ⊢
  split at h
  · cases h
  · split at h
    · cases h
    · rename_i h0 h32
      rw [if_neg h0, if_neg h32]
      have hz : ∀ (i : Nat) (l : List (List El.En)), (firstR i l).2 = 0 → firstR i l = (0, 0) := by
        intro i l
        induction l generalizing i with
        | nil => intro _; rfl
        | cons y t ih =>
          intro e
          by_cases g : (listE y).2 = 0
          · rw [firstR, if_pos g] at e ⊢; exact ih _ e
          · rw [firstR, if_neg g] at e; exact absurd e g
      exact ⟨by omega, by omega, firstR_all h, hz _ _ h⟩
set_option maxHeartbeats 1000000 in
theorem pRuns_any (A : Option Addr) (c : Nat) (rs : List Rn) (w : World) (hf : RsAt w A rs) (hn : rs.length ≤ 4294967295) (hs : SizedR rs) :
    Calls Try.prog 44 #[.slice A rs.length c] w fun e w' => e = .returned (.tuple #[.int .i64 (runsE (ess rs)).1, .int .i64 (runsE (ess rs)).2]) ∧ Below w.heap.size w w' := by
  by_cases h0 : rs.length = 0
  · have H : Hid (runsE (ess rs) = (-1, 6)) := Lib.hid (by unfold runsE; rw [ess_len, if_pos h0])
    rw [h0]
    clear h0 hf hs
    go_enter Try.func44, Try.ntmps44
    go_wp2_with fail
    go_ret2
    exact ⟨retP H.out rfl rfl, Below.refl _ _⟩
  by_cases h32 : 32 < rs.length
  · have H : Hid (runsE (ess rs) = (-1, 3)) := Lib.hid (by unfold runsE; rw [ess_len, if_neg h0, if_pos h32])
    clear hf hs
    have hz : ((rs.length : Int) == 0) = false := by rw [beq_eq_false_iff_ne]; omega
    go_enter Try.func44, Try.ntmps44
    go_wp2_with fail
    go_ret2
    exact ⟨retP H.out rfl rfl, Below.refl _ _⟩
  have HAL : Hid (runsE (ess rs) = firstR 0 ((ess rs).drop 0)) := Lib.hid (by unfold runsE; rw [ess_len, if_neg h0, if_neg h32]; rfl)
  have HF := Lib.hid hf
  have HS := Lib.hid hs
  obtain ⟨n, hnn⟩ : ∃ n, rs.length = n := ⟨_, rfl⟩
  rw [hnn] at hn h0 h32 ⊢
  have HN := Lib.hid hnn
  have hz : ((n : Int) == 0) = false := by rw [beq_eq_false_iff_ne]; omega
  clear hf hs hnn
  go_enter Try.func44, Try.ntmps44
  go_wp2_with fail
  go_loopw [16] (fun i wr => ∃ k : Nat, k ≤ n ∧ i = .int .i64 k ∧ Below w.heap.size w wr ∧ Hid (firstR 0 ((ess rs).drop 0) = firstR k ((ess rs).drop k))) (fun i _ => n - (intOf i).toNat)
  case atStart => exact ⟨0, Nat.zero_le _, rfl, Below.refl _ _, Lib.hid rfl⟩
  case round =>
    obtain ⟨k, hk, rfl, hb, HA⟩ := hrel
    have hsz := hb.size
    have HB := Lib.hid hb
    have hf' := HF.out.below hb (Nat.le_refl _)
    clear hb
    by_cases hlt : k < n
    · have hl' : k < rs.length := by rw [HN.out]; exact hlt
      rcases hf' with h0 | ⟨b, off, rfl, hbl, hc⟩
      · subst h0; simp at hl'
      obtain ⟨g0, g1⟩ := hc k hl'
      have J := Lib.hid (eList_any rs[k].1 rs[k].2.1 rs[k].2.2 wr g1 (HS.out _ (List.getElem_mem hl')).1 (HS.out _ (List.getElem_mem hl')).2)
      have l1 : (k : Int) < (n : Int) := by omega
      by_cases hkk : (listE rs[k].2.2).2 = 0
      · have HL := Lib.hid (firstR_ok hl' hkk)
        rw [hkk] at J
        clear hc hkk g1
        generalize rs[k].1 = A1 at *
        generalize rs[k].2.1 = c1 at *
        generalize (listE rs[k].2.2).1 = i1 at *
        generalize rs[k].2.2.length = n1 at *
        go_wp2_with fail
        refine J.out.mono ?_
        rintro e w1 ⟨rfl, hb1⟩
        have HB1 := Lib.hid (eb_of HB.out hb1 (Nat.le_refl _))
        clear hb1
        go_wp2_with fail
        go_roundw
        case rel => exact ⟨k + 1, by omega, by go_num, HB1.out, Lib.hid (HA.out.trans HL.out)⟩
        case measure => simp [intOf]; omega
      · have HL := Lib.hid (firstR_no hl' hkk)
        obtain ⟨b1, b2⟩ := ne_b hkk
        clear hc hkk g1
        generalize rs[k].1 = A1 at *
        generalize rs[k].2.1 = c1 at *
        generalize (listE rs[k].2.2).1 = i1 at *
        generalize (listE rs[k].2.2).2 = e1 at *
        generalize rs[k].2.2.length = n1 at *
        go_wp2_with fail
        refine J.out.mono ?_
        rintro e w1 ⟨rfl, hb1⟩
        have HB1 := Lib.hid (eb_of HB.out hb1 (Nat.le_refl _))
        clear hb1
        go_wp2_with fail
        go_ret2
        exact ⟨retP (HAL.out.trans (HA.out.trans HL.out)) rfl rfl, HB1.out⟩
    · have HL := Lib.hid (firstR_end (rs := rs) (k := k) (by rw [HN.out]; omega))
      clear hf'
      go_wp2_with fail
      go_ret2
      exact ⟨retP (HAL.out.trans (HA.out.trans HL.out)) rfl rfl, HB.out⟩
set_option maxHeartbeats 1000000 in
theorem rRuns_any (A : Option Addr) (c : Nat) (rs : List Rn) (w : World) (hf : RsAt w A rs) (hn : rs.length ≤ 4294967295) (hs : SizedR rs) :
    Calls Try.prog 47 #[.slice A rs.length c] w fun e w' => e = .returned (.tuple #[.int .i64 (runsE (ess rs)).1, .int .i64 (runsE (ess rs)).2]) ∧ Below w.heap.size w w' := by
  by_cases h0 : rs.length = 0
  · have H : Hid (runsE (ess rs) = (-1, 6)) := Lib.hid (by unfold runsE; rw [ess_len, if_pos h0])
    rw [h0]
    clear h0 hf hs
    go_enter Try.func47, Try.ntmps47
    go_wp2_with fail
    go_ret2
    exact ⟨retP H.out rfl rfl, Below.refl _ _⟩
  by_cases h32 : 32 < rs.length
  · have H : Hid (runsE (ess rs) = (-1, 3)) := Lib.hid (by unfold runsE; rw [ess_len, if_neg h0, if_pos h32])
    clear hf hs
    have hz : ((rs.length : Int) == 0) = false := by rw [beq_eq_false_iff_ne]; omega
    go_enter Try.func47, Try.ntmps47
    go_wp2_with fail
    go_ret2
    exact ⟨retP H.out rfl rfl, Below.refl _ _⟩
  have HAL : Hid (runsE (ess rs) = firstR 0 ((ess rs).drop 0)) := Lib.hid (by unfold runsE; rw [ess_len, if_neg h0, if_neg h32]; rfl)
  have HF := Lib.hid hf
  have HS := Lib.hid hs
  obtain ⟨n, hnn⟩ : ∃ n, rs.length = n := ⟨_, rfl⟩
  rw [hnn] at hn h0 h32 ⊢
  have HN := Lib.hid hnn
  have hz : ((n : Int) == 0) = false := by rw [beq_eq_false_iff_ne]; omega
  clear hf hs hnn
  go_enter Try.func47, Try.ntmps47
  go_wp2_with fail
  go_loopw [4] (fun i wr => ∃ k : Nat, k ≤ n ∧ i = .int .i64 k ∧ Below w.heap.size w wr ∧ Hid (firstR 0 ((ess rs).drop 0) = firstR k ((ess rs).drop k))) (fun i _ => n - (intOf i).toNat)
  case atStart => exact ⟨0, Nat.zero_le _, rfl, Below.refl _ _, Lib.hid rfl⟩
  case round =>
    obtain ⟨k, hk, rfl, hb, HA⟩ := hrel
    have hsz := hb.size
    have HB := Lib.hid hb
    have hf' := HF.out.below hb (Nat.le_refl _)
    clear hb
    by_cases hlt : k < n
    · have hl' : k < rs.length := by rw [HN.out]; exact hlt
      rcases hf' with h0 | ⟨b, off, rfl, hbl, hc⟩
      · subst h0; simp at hl'
      obtain ⟨g0, g1⟩ := hc k hl'
      have J := Lib.hid (fList_any rs[k].1 rs[k].2.1 rs[k].2.2 wr g1 (HS.out _ (List.getElem_mem hl')).1 (HS.out _ (List.getElem_mem hl')).2)
      have l1 : (k : Int) < (n : Int) := by omega
      by_cases hkk : (listE rs[k].2.2).2 = 0
      · have HL := Lib.hid (firstR_ok hl' hkk)
        rw [hkk] at J
        clear hc hkk g1
        generalize rs[k].1 = A1 at *
        generalize rs[k].2.1 = c1 at *
        generalize (listE rs[k].2.2).1 = i1 at *
        generalize rs[k].2.2.length = n1 at *
        go_wp2_with fail
        refine J.out.mono ?_
        rintro e w1 ⟨rfl, hb1⟩
        have HB1 := Lib.hid (eb_of HB.out hb1 (Nat.le_refl _))
        clear hb1
        go_wp2_with fail
        go_roundw
        case rel => exact ⟨k + 1, by omega, by go_num, HB1.out, Lib.hid (HA.out.trans HL.out)⟩
        case measure => simp [intOf]; omega
      · have HL := Lib.hid (firstR_no hl' hkk)
        obtain ⟨b1, b2⟩ := ne_b hkk
        clear hc hkk g1
        generalize rs[k].1 = A1 at *
        generalize rs[k].2.1 = c1 at *
        generalize (listE rs[k].2.2).1 = i1 at *
        generalize (listE rs[k].2.2).2 = e1 at *
        generalize rs[k].2.2.length = n1 at *
        go_wp2_with fail
        refine J.out.mono ?_
        rintro e w1 ⟨rfl, hb1⟩
        have HB1 := Lib.hid (eb_of HB.out hb1 (Nat.le_refl _))
        clear hb1
        go_wp2_with fail
        go_ret2
        exact ⟨retP (HAL.out.trans (HA.out.trans HL.out)) rfl rfl, HB1.out⟩
    · have HL := Lib.hid (firstR_end (rs := rs) (k := k) (by rw [HN.out]; omega))
      clear hf'
      go_wp2_with fail
      go_ret2
      exact ⟨retP (HAL.out.trans (HA.out.trans HL.out)) rfl rfl, HB.out⟩
end Go.Proofs.Ytebjhjmlpodkgaa.KK
