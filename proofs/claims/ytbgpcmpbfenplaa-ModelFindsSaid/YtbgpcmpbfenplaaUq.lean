/-
  Part of a plain map, on both sides.
-/
import Derived.Test.YtbgpcmpbfenplaaUp
import Derived.Test.YtbgpcmpbfenplaaKn
namespace Go.Proofs.Ytbgpcmpbfenplaa.KK
open Go.ChangeShapes Go.WideShapes Go.ChangeAt Go.RowKit Go.Proofs

def partP (lo hi : ByteArray) (b : Bool) (xs : List Pr) : List Pr := xs.filter fun p => hasB lo hi b p.1
def partE (xs : List Pr) (lo hi : ByteArray) (b : Bool) : Int := if (mapE xs).2 ≠ 0 then (mapE xs).2 else chkR lo hi b
def partL (xs : List Pr) (lo hi : ByteArray) (b : Bool) : List Pr := if partE xs lo hi b = 0 then partP lo hi b xs else []
theorem partE_no {xs : List Pr} {lo hi : ByteArray} {b : Bool} (h : (mapE xs).2 ≠ 0) : partE xs lo hi b = (mapE xs).2 := if_pos h
theorem partE_ok {xs : List Pr} {lo hi : ByteArray} {b : Bool} (h : (mapE xs).2 = 0) : partE xs lo hi b = chkR lo hi b := if_neg (by rw [h]; simp)
theorem partP_yes {lo hi : ByteArray} {b : Bool} {xs : List Pr} {k : Nat} (h : k < xs.length) (g : hasB lo hi b xs[k].1 = true) : partP lo hi b (xs.take (k + 1)) = partP lo hi b (xs.take k) ++ [xs[k]] := by
  unfold partP; rw [List.take_succ_eq_append_getElem h, List.filter_append]; simp [g]
theorem partP_no {lo hi : ByteArray} {b : Bool} {xs : List Pr} {k : Nat} (h : k < xs.length) (g : hasB lo hi b xs[k].1 = false) : partP lo hi b (xs.take (k + 1)) = partP lo hi b (xs.take k) := by
  unfold partP; rw [List.take_succ_eq_append_getElem h, List.filter_append]; simp [g]
theorem partP_le (lo hi : ByteArray) (b : Bool) (xs : List Pr) (k : Nat) : (partP lo hi b (xs.take k)).length ≤ k := by
  unfold partP; exact Nat.le_trans (List.length_filter_le _ _) (by rw [List.length_take]; omega)
/-- behind a call of Part -/
def POut (xs : List Pr) (lo hi : ByteArray) (b : Bool) (w : World) (e : Ending) (w' : World) : Prop :=
  ∃ A c, e = .returned (.tuple #[.slice A (partL xs lo hi b).length c, .int .i64 (partE xs lo hi b)]) ∧ PsAt w' A (partL xs lo hi b) ∧ Below w.heap.size w w'
theorem POut.no {xs : List Pr} {lo hi : ByteArray} {b : Bool} {w w' : World} {r : Int} (h : partE xs lo hi b = r) (hr : r ≠ 0) (hb : Below w.heap.size w w') : POut xs lo hi b w (.returned (.tuple #[.slice none 0 0, .int .i64 r])) w' := by
  have hM : partL xs lo hi b = [] := if_neg (by rw [h]; exact hr)
  exact ⟨none, 0, by rw [hM, h]; rfl, .inl hM, hb⟩
theorem POut.ok {xs : List Pr} {lo hi : ByteArray} {b : Bool} {w w' : World} {A : Option Addr} {n c : Nat} (h : partE xs lo hi b = 0) (hn : n = (partP lo hi b xs).length) (hf : PsAt w' A (partP lo hi b xs)) (hb : Below w.heap.size w w') : POut xs lo hi b w (.returned (.tuple #[.slice A n c, .int .i64 0])) w' := by
  have hM : partL xs lo hi b = partP lo hi b xs := if_pos h
  exact ⟨A, c, by rw [hM, h, hn], by rw [hM]; exact hf, hb⟩
theorem own_bel {w w' : World} {base n sz : Nat} {v : Value} {e : TypeId} {xs : List Value} (h : w.ownsRow base e sz v n xs) (hb : Below w.heap.size w w') : w'.ownsRow base e sz v n xs := own_base' h (grown_of_below' hb) (fun r h => by cases h)
theorem boxRm (lo hi : ByteArray) (b : Bool) (w : World) : Hid (∀ w', Below (w.alloc (.cells #[.string lo, .string hi, .bool b] 24)).heap.size (w.alloc (.cells #[.string lo, .string hi, .bool b] 24)) w' →
    w'.cell? ⟨w.heap.size, 0, none⟩ = some (.string lo) ∧ w'.cell? ⟨w.heap.size, 1, none⟩ = some (.string hi) ∧ w'.cell? ⟨w.heap.size, 2, none⟩ = some (.bool b) ∧ w.heap.size < w'.heap.size ∧ Below w.heap.size w w') := Lib.hid fun w' h =>
  ⟨(h.cell (p := ⟨w.heap.size, 0, none⟩) (by simp)).trans (cell_of_row _ w.heap.size 0 _ _ _ (heap_alloc_new w _)), (h.cell (p := ⟨w.heap.size, 1, none⟩) (by simp)).trans (cell_of_row _ w.heap.size 1 _ _ _ (heap_alloc_new w _)), (h.cell (p := ⟨w.heap.size, 2, none⟩) (by simp)).trans (cell_of_row _ w.heap.size 2 _ _ _ (heap_alloc_new w _)), by have := h.size; simp at this; omega, (alloc_below w _).trans (h.mono (by simp))⟩
theorem in_has {lo hi : ByteArray} {b : Bool} {k : ByteArray} (h : chkR lo hi b = 0) (hk : k.size ≤ 32) : inE lo hi b k = 0 ∧ inV lo hi b k = hasB lo hi b k := by
  have e : inE lo hi b k = 0 := by unfold inE; rw [if_neg (by rw [h]; simp), chk1_ok hk]
  exact ⟨e, by unfold inV; rw [decide_eq_true e, Bool.true_and]⟩
theorem newP (w : World) (k v : ByteArray) : ∀ (j : Nat) (u : Value), ([.string k, .string v] : List Value)[j]? = some u → (w.alloc (.cells #[.string k, .string v] 31)).cell? ((⟨w.heap.size, 0, none⟩ : Addr).add j) = some u :=
  World.news_of_block (cs := #[.string k, .string v]) (t := 31) (fr := (0, 0)) (heap_alloc_new w _)
theorem own_snocP {w : World} {base n : Nat} {v : Value} {ys : List Pr} {k x : ByteArray} (h : w.ownsRow base 31 2 v (n + 1) (cellsP ys ++ [.string k, .string x])) : w.ownsRow base 31 2 v (n + 1) (cellsP (ys ++ [(k, x)])) := by
  rw [cellsP_app]; exact h
set_option maxRecDepth 100000 in
set_option maxHeartbeats 4000000 in
theorem part_any (A : Option Addr) (c : Nat) (xs : List Pr) (lo hi : ByteArray) (b : Bool) (w : World) (hf : PsAt w A xs) (hn : xs.length ≤ 4294967295) (hs : SizedP xs) (h1 : lo.size ≤ 9223372036854775807) (h2 : hi.size ≤ 9223372036854775807) :
    Calls Try.prog 17 #[.slice A xs.length c, .agg #[.string lo, .string hi, .bool b]] w (POut xs lo hi b w) := by
  have HX := boxRm lo hi b w
  obtain ⟨x0, x1, x2, x3, x4⟩ := HX.out _ (Below.refl _ _)
  have HB := Lib.hid x4
  have J1 := Lib.hid (fun w1 (h : Below w.heap.size w w1) => mCheck_any A c xs w1 (hf.below h (Nat.le_refl _)) hn hs)
  have JR := Lib.hid (fun w => kCheckRange_any lo hi b w h1 h2)
  have HC := Lib.hid (Below.refl (w.alloc (.cells #[.string lo, .string hi, .bool b] 24)).heap.size (w.alloc (.cells #[.string lo, .string hi, .bool b] 24)))
  clear x3 x4
  by_cases hm : (mapE xs).2 = 0
  rotate_left
  · have HL := Lib.hid (partE_no (lo := lo) (hi := hi) (b := b) hm)
    obtain ⟨b1, b2⟩ := ne_b hm
    clear hf hs
    generalize (mapE xs).1 = r0 at *
    generalize (mapE xs).2 = r at *
    go_enter Try.func17, Try.ntmps17
    go_wp2_with fail
    refine (J1.out _ HB.out).mono ?_
    rintro e w1 ⟨rfl, hb⟩
    have HB1 := Lib.hid (eb_of HB.out hb (by simp))
    clear hb
    go_wp2_with fail
    go_ret2
    exact POut.no HL.out hm HB1.out
  rw [hm] at J1
  by_cases hc : chkR lo hi b = 0
  rotate_left
  · have HL := Lib.hid ((partE_ok (lo := lo) (hi := hi) (b := b) hm))
    obtain ⟨b1, b2⟩ := ne_b hc
    clear hf hs hm
    generalize (mapE xs).1 = r0 at *
    generalize chkR lo hi b = r at *
    go_enter Try.func17, Try.ntmps17
    go_wp2_with fail
    refine (J1.out _ HB.out).mono ?_
    rintro e w1 ⟨rfl, hb⟩
    clear x0 x1 x2
    obtain ⟨x0, x1, x2, x3, x4⟩ := HX.out _ hb
    have HB1 := Lib.hid x4
    clear hb x3 x4
    go_wp2_with fail
    refine (JR.out _).mono ?_
    rintro e w2 ⟨rfl, hb⟩
    have HB2 := Lib.hid (eb_of HB1.out hb (Nat.le_refl _))
    clear hb
    go_wp2_with fail
    go_ret2
    exact POut.no HL.out hc HB2.out
  have HL : Hid (partE xs lo hi b = 0) := Lib.hid (by rw [partE_ok hm]; exact hc)
  rw [hc] at JR
  obtain ⟨m1, m2, _⟩ := map_ok hm
  obtain ⟨i0, hi0, hz0, hz1, hz2⟩ := info_parts infoP
  have HF := Lib.hid hf
  clear hf hm
  generalize (mapE xs).1 = r0 at *
  go_enter Try.func17, Try.ntmps17
  go_wp2_with fail
  refine (J1.out _ HB.out).mono ?_
  rintro e w1 ⟨rfl, hb⟩
  have HC := Lib.hid (eb_of HC.out hb (Nat.le_refl _))
  clear hb x0 x1 x2
  obtain ⟨x0, x1, x2, x3, x4⟩ := HX.out _ HC.out
  clear x3 x4
  go_wp2_with fail
  refine (JR.out _).mono ?_
  rintro e w2 ⟨rfl, hb⟩
  have HC := Lib.hid (eb_of HC.out hb (Nat.le_refl _))
  clear hb x0 x1 x2
  go_wp2_with fail
  go_loopw [9, 29] (fun v i wr => ∃ (k n c' : Nat) (B : Option Addr), k ≤ xs.length ∧ i = .int .i64 k ∧ v = .slice B n c' ∧ n = (partP lo hi b (xs.take k)).length ∧ wr.ownsRow (w.heap.size + 1) 31 2 (.slice B n c') n (cellsP (partP lo hi b (xs.take k))) ∧ Below (w.alloc (.cells #[.string lo, .string hi, .bool b] 24)).heap.size (w.alloc (.cells #[.string lo, .string hi, .bool b] 24)) wr) (fun _ i _ => xs.length - (intOf i).toNat)
  case atStart => exact ⟨0, 0, 0, none, Nat.zero_le _, rfl, rfl, rfl, World.ownsRow_nil _ _ _ _, HC.out⟩
  case round =>
    obtain ⟨k, n, c', B, hk, rfl, rfl, hnn, hown, hb⟩ := hrel
    have HN := Lib.hid hnn
    have hnk : n ≤ k := by rw [hnn]; exact partP_le lo hi b xs k
    clear hnn
    obtain ⟨x0, x1, x2, x3, x4⟩ := HX.out _ hb
    have HD := Lib.hid hb
    have HW := Lib.hid x4
    clear hb
    by_cases hlt : k < xs.length
    rotate_left
    · have hke : xs.take k = xs := List.take_of_length_le (by omega)
      rw [hke] at hown HN
      have HE := Lib.hid (PsAt.of_own hown)
      clear hown
      go_wp2_with fail
      go_ret2
      exact POut.ok HL.out HN.out HE.out HW.out
    have hsk := hs.at hlt
    have hz := (szE_of (m2 _ (List.getElem_mem hlt))).1
    rcases HF.out.below HW.out (Nat.le_refl _) with h0 | ⟨bb, off, rfl, hbl, hcl⟩
    · subst h0; simp at hlt
    obtain ⟨g0, g1⟩ := hcl k hlt
    clear hcl
    obtain ⟨q1, q2⟩ := in_has hc hz
    have J := Lib.hid (fun w => by have K := kIn_any lo hi b xs[k].1 w h1 h2 hsk.1; rw [q1, q2] at K; exact K)
    have HY := Lib.hid (partP_yes (lo := lo) (hi := hi) (b := b) hlt)
    have HNo := Lib.hid (partP_no (lo := lo) (hi := hi) (b := b) hlt)
    clear q1 q2 hz hsk
    obtain ⟨kk, hkk⟩ : ∃ kk, xs[k].1 = kk := ⟨_, rfl⟩
    obtain ⟨vv, hvv⟩ : ∃ vv, xs[k].2 = vv := ⟨_, rfl⟩
    have HKV : Hid (xs[k] = (kk, vv)) := Lib.hid (by rw [← hkk, ← hvv])
    rw [hkk] at J HY HNo g0
    rw [hvv] at g1
    clear hkk hvv
    cases hhb : hasB lo hi b kk with
    | true =>
      have HT := Lib.hid (HY.out hhb)
      rw [HKV.out] at HT
      rw [hhb] at J
      clear hhb HY HNo
      go_wp2_with fail
      refine (J.out _).mono ?_
      rintro e w4 ⟨rfl, hb⟩
      have hb4 : Below wr.heap.size wr w4 := (alloc_below wr (.cells #[.string kk, .string vv] 31)).trans (hb.mono (by simp))
      have HD4 := Lib.hid (eb_of HD.out hb4 (Nat.le_refl _))
      have hown := own_bel hown hb4
      have f0 : w4.cell? ⟨wr.heap.size, 0, none⟩ = some (.string kk) := (hb.cell (p := ⟨wr.heap.size, 0, none⟩) (by simp)).trans (cell_of_row _ wr.heap.size 0 _ _ _ (heap_alloc_new wr _))
      have f1 : w4.cell? ⟨wr.heap.size, 1, none⟩ = some (.string vv) := (hb.cell (p := ⟨wr.heap.size, 1, none⟩) (by simp)).trans (cell_of_row _ wr.heap.size 1 _ _ _ (heap_alloc_new wr _))
      have hl4 := HD4.out.size
      simp at hl4
      clear hb hb4
      go_wp2_with (at_builtin; go_loud (refine wpList_append_own _ rfl (.tmp 41) (.tmp 43) 22 rfl (w.heap.size + 1) 31 i0 (.agg #[.string ⟨#[]⟩, .string ⟨#[]⟩]) 2 32 Try.underlying22 hi0 hz0 hz1 hz2 rfl (by decide) _ n _ rfl (hown.alloc _) ⟨w4.heap.size, 0, none⟩ 1 1 [.string kk, .string vv] rfl rfl (newP w4 kk vv) (by simp [Value.oneCell']) (by unfold maxLen; omega) (by omega) (by simp; omega) ?_; intro v5 w5 hown5 hg5 _; obtain ⟨A5, c5, hv5, _, _⟩ := own_cap2 hown5; subst hv5; have hb5 := (HD4.out.alloc HD4.out.size (.cells #[.string kk, .string vv] 31)).grown hg5 (by simp; omega) (fun g hg => by have := (hown.lt g hg).1; simp; omega); have HD5 := Lib.hid hb5; have HO5 := Lib.hid (own_snocP hown5); clear hg5 hb5 hown5))
      go_roundw
      case rel => exact ⟨k + 1, n + 1, c5, A5, by omega, by go_num, rfl, by rw [HT.out, List.length_append, ← HN.out]; rfl, by rw [HT.out]; exact HO5.out, HD5.out⟩
      case measure => simp [intOf]; omega
    | false =>
      have HT := Lib.hid (HNo.out hhb)
      rw [hhb] at J
      clear hhb HY HNo
      go_wp2_with fail
      refine (J.out _).mono ?_
      rintro e w4 ⟨rfl, hb⟩
      have hb4 : Below wr.heap.size wr w4 := (alloc_below wr (.cells #[.string kk, .string vv] 31)).trans (hb.mono (by simp))
      have HD4 := Lib.hid (eb_of HD.out hb4 (Nat.le_refl _))
      have HO4 := Lib.hid (own_bel hown hb4)
      clear hb hb4
      go_wp2_with fail
      go_roundw
      case rel => exact ⟨k + 1, n, c', B, by omega, by go_num, rfl, by rw [HT.out]; exact HN.out, by rw [HT.out]; exact HO4.out, HD4.out⟩
      case measure => simp [intOf]; omega
end Go.Proofs.Ytbgpcmpbfenplaa.KK
