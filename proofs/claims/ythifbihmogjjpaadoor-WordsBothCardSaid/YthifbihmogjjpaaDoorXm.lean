/-
  The walk of WordsBoth.
-/
import Derived.Test.YthifbihmogjjpaaDoorXi
import Derived.Test.YthifbihmogjjpaaDoorPr
import Derived.Test.YthifbihmogjjpaaDoorWs
import Derived.Test.YthifbihmogjjpaaDoorWm
namespace Go.Proofs.YthifbihmogjjpaaDoor
open Go.ChangeShapes Go.WideShapes Go.ChangeAt Go.RowKit Go.Proofs

theorem farL_len {fs : List (List UInt8 × Bool)} (h : farL fs = false) : fs.length ≤ 70 := by
  unfold farL at h
  rw [Bool.or_eq_false_iff, Bool.or_eq_false_iff] at h
  simpa using h.1.1
theorem FldsAt.cells {w : World} {A : Option Addr} {fs : List (List UInt8 × Bool)} (h : FldsAt w A fs) (hne : fs ≠ []) :
    ∃ b off, A = some ⟨b, off, none⟩ ∧ ∀ j u, (cellsF fs)[j]? = some u → w.cell? ⟨b, off + j, none⟩ = some u := by
  rcases h with h | ⟨b, off, rfl, hlt, hc⟩
  · exact absurd h hne
  · refine ⟨b, off, rfl, fun j u hj => ?_⟩
    have hlen := cellsF_len fs
    have hjl : j < (cellsF fs).length := (List.getElem?_eq_some_iff.1 hj).1
    have hi : j / 2 < fs.length := by omega
    obtain ⟨c0, c1⟩ := cellsF_get fs (j / 2) hi
    obtain ⟨d0, d1⟩ := hc (j / 2) hi
    rcases Nat.mod_two_eq_zero_or_one j with e | e
    · have e' : j = j / 2 * 2 := by omega
      rw [← e', hj] at c0
      rw [← e', ← c0] at d0
      exact d0
    · have e' : j = j / 2 * 2 + 1 := by omega
      rw [← e', hj] at c1
      rw [show off + j / 2 * 2 + 1 = off + j by omega, ← c1] at d1
      exact d1
theorem cellsF_one (fs : List (List UInt8 × Bool)) : ∀ u ∈ cellsF fs, u.oneCell' = true := by
  intro u hu
  unfold cellsF at hu
  rw [List.mem_flatMap] at hu
  obtain ⟨f, _, hf⟩ := hu
  simp only [List.mem_cons, List.not_mem_nil, or_false] at hf
  rcases hf with rfl | rfl <;> rfl
theorem cat3 (t u : List UInt8) : (⟨t.toArray⟩ : ByteArray) ++ ⟨#[32]⟩ ++ ⟨u.toArray⟩ = ⟨(t ++ 32 :: u).toArray⟩ := by
  rw [show (⟨#[32]⟩ : ByteArray) = ⟨[32].toArray⟩ from rfl, bytes_app, bytes_app]
  simp
theorem add_at' (b off j : Nat) : (⟨b, off, none⟩ : Addr).add j = ⟨b, off + j, none⟩ := by unfold Addr.add; split <;> simp_all
theorem cell_lt {w : World} {a : Addr} {v : Value} (h : w.cell? a = some v) : a.block < w.heap.size := by
  rcases Nat.lt_or_ge a.block w.heap.size with h' | h'
  · exact h'
  · simp [World.cell?, Array.getElem?_eq_none h'] at h
theorem cellsF_app (l m : List (List UInt8 × Bool)) : cellsF (l ++ m) = cellsF l ++ cellsF m := by unfold cellsF; rw [List.flatMap_append]
theorem join_out (fs : List (List UInt8 × Bool)) : (Pl.join fs).1 = 0 ∨ (Pl.join fs).1 ≠ 0 := by omega
theorem eq_mk {a b : List UInt8} (h : a = b) : (⟨a.toArray⟩ : ByteArray) = ⟨b.toArray⟩ := by rw [h]

set_option maxRecDepth 100000 in
set_option maxHeartbeats 2000000 in
theorem both_main (A B : Option Addr) (c d : Nat) (fs gs : List (List UInt8 × Bool)) (w : World) (he : Env w) (hf : FldsAt w A fs) (hg : FldsAt w B gs) (hn : fs.length ≤ 9223372036854775807) (hm : gs.length ≤ 9223372036854775807)
    (f1 : farL fs = false) (f2 : farL gs = false) (n1 : fs ≠ []) (n2 : gs ≠ []) :
    Calls Tryd.prog 6 #[.slice A fs.length c, .slice B gs.length d] w fun e w' => e = .returned (.bool true) ∧ Below w.heap.size w w' := by
  have h70 := farL_len f1
  have g70 := farL_len f2
  have p1 := List.length_pos_iff.2 n1
  have p2 := List.length_pos_iff.2 n2
  have z1 : ((fs.length : Int) == 0) = false := by rw [beq_eq_false_iff_ne]; omega
  have z2 : ((gs.length : Int) == 0) = false := by rw [beq_eq_false_iff_ne]; omega
  obtain ⟨⟨e1, a1⟩, hj1⟩ : ∃ y, Pl.join fs = y := ⟨_, rfl⟩
  obtain ⟨⟨e2, a2⟩, hj2⟩ : ∃ y, Pl.join gs = y := ⟨_, rfl⟩
  obtain ⟨⟨e3, a3⟩, hj3⟩ : ∃ y, Pl.join (fs ++ gs) = y := ⟨_, rfl⟩
  have K1 := fun w he hf => Join_any A c fs w he hf (by omega)
  have K2 := fun w he hf => Join_any B d gs w he hf (by omega)
  have K3 : ∀ A c w, EscAt w → FldsAt w A (fs ++ gs) → Calls Tryd.prog 14 #[.slice A (fs.length + gs.length) c] w fun e w' => e = .returned (.tuple #[.string ⟨a3.toArray⟩, .int .i64 e3]) ∧ Below w.heap.size w w' := fun A c w he hf => by
    have := Join_any A c (fs ++ gs) w he hf (by rw [List.length_append]; omega)
    rwa [hj3, List.length_append] at this
  have V1 := fun w hf => far_any A c fs w hf hn
  have V2 := fun w hf => far_any B d gs w hf hm
  rw [hj1] at K1
  rw [hj2] at K2
  rw [f1] at V1
  rw [f2] at V2
  have J1 := Lib.hid K1
  have J2 := Lib.hid K2
  have J3 := Lib.hid K3
  have F1 := Lib.hid V1
  have F2 := Lib.hid V2
  have HE := Lib.hid he
  have HF := Lib.hid hf
  have HG := Lib.hid hg
  have N1 := Lib.hid n1
  have N2 := Lib.hid n2
  have HJ : Hid ((e1 = 0 → e2 = 0 → (if 64 < fs.length + gs.length ∨ 8192 < a1.length + 1 + a2.length then e3 = 3 ∧ a3 = [] else e3 = 0 ∧ a3 = a1 ++ 32 :: a2)) ∧ (e3 = 0 → e1 = 0 ∧ e2 = 0)) := Lib.hid (by
    refine ⟨fun q1 q2 => ?_, fun q3 => ?_⟩
    · have := Pl.join_both n1 n2 (by rw [hj1]; exact q1) (by rw [hj2]; exact q2)
      have r1 := (Pl.join_ok (fs := fs) (by rw [hj1]; exact q1)).2.2.2
      have r2 := (Pl.join_ok (fs := gs) (by rw [hj2]; exact q2)).2.2.2
      rw [hj1] at r1
      rw [hj2] at r2
      simp only [Prod.mk.injEq] at r1 r2
      rw [hj3, ← r1.2, ← r2.2] at this
      split at this
      · rename_i hc
        rw [if_pos hc]
        simpa using this
      · rename_i hc
        rw [if_neg hc]
        simpa using this
    · obtain ⟨r1, r2, _⟩ := Pl.join_app n1 n2 (by rw [hj3]; exact q3)
      rw [hj1] at r1
      rw [hj2] at r2
      exact ⟨r1, r2⟩)
  have hla : a1.length ≤ 8192 := by
    have := Pl.joinf_len fs
    rw [hj1] at this; exact this
  have hlb : a2.length ≤ 8192 := by
    have := Pl.joinf_len gs
    rw [hj2] at this; exact this
  have hsa := size_mk a1
  have hsb := size_mk a2
  clear hj1 hj2 hj3 K1 K2 K3 V1 V2 f1 f2 he hf hg n1 n2
  obtain ⟨i0, hi, hz0, hz1, hz2⟩ := info_parts infoF
  go_enter Tryd.func6, Tryd.ntmps6
  go_wp2_with fail
  refine (F1.out _ HF.out).mono ?_
  rintro e w' ⟨rfl, rfl⟩
  go_wp2_with fail
  refine (F2.out _ HG.out).mono ?_
  rintro e w' ⟨rfl, rfl⟩
  go_wp2_with fail
  have HB := Lib.hid (Below.refl w.heap.size w)
  refine (J1.out _ HE.out.1 HF.out).mono ?_
  rintro e w1 ⟨rfl, hb⟩
  have HB := Lib.hid (below_of HB.out hb (Nat.le_refl _))
  have HE := Lib.hid (HE.out.below hb)
  have HF := Lib.hid (HF.out.below hb (Nat.le_refl _))
  have HG := Lib.hid (HG.out.below hb (Nat.le_refl _))
  clear hb
  go_wp2_with fail
  refine (J2.out _ HE.out.1 HG.out).mono ?_
  rintro e w2 ⟨rfl, hb⟩
  have HB := Lib.hid (below_of HB.out hb (Nat.le_refl _))
  have HE := Lib.hid (HE.out.below hb)
  have HF := Lib.hid (HF.out.below hb (Nat.le_refl _))
  have HG := Lib.hid (HG.out.below hb (Nat.le_refl _))
  clear hb
  obtain ⟨bf, off, rfl, hcf⟩ := HF.out.cells N1.out
  obtain ⟨bg, ofg, rfl, hcg⟩ := HG.out.cells N2.out
  have HCF := Lib.hid hcf
  have HCG := Lib.hid hcg
  clear hcf hcg
  have hmade : (w2.alloc (.cells #[] 48)).ownsRow w2.heap.size 48 2 (.slice (some ⟨w2.heap.size, 0, none⟩) 0 0) 0 [] := World.ownsRow_made w2 #[] 0 (Nat.le_refl _) (Nat.zero_le _) rfl
  go_wp2_with (first
    | (at_builtin; (refine wpList_append_own _ rfl (.tmp 39) (.tmp 40) 23 rfl w2.heap.size 48 i0 (.agg #[.string ⟨#[]⟩, .bool false]) 2 24 Tryd.underlying23 hi hz0 hz1 hz2 rfl (by decide) _ 0 [] rfl hmade ⟨bf, off, none⟩ fs.length c (cellsF fs) rfl (cellsF_len fs) (fun j u hj => by rw [add_at']; exact Lib.cell?_alloc_some _ (HCF.out j u hj)) (cellsF_one fs) (by unfold maxLen; omega) (by omega) (by simp) ?_; intro v4 w4 hown4 hg4 _; have hb4 : Below w2.heap.size w2 w4 := ((Below.refl w2.heap.size w2).alloc (Nat.le_refl _) _).grown hg4 (by simp) (fun k hk => (hmade.lt k hk).1); have HB4 := Lib.hid hb4; clear hb4 hg4))
    | (at_builtin; refine wpList_append_own _ rfl (.tmp 41) (.tmp 42) 23 rfl w2.heap.size 48 i0 (.agg #[.string ⟨#[]⟩, .bool false]) 2 24 Tryd.underlying23 hi hz0 hz1 hz2 rfl (by decide) _ (0 + fs.length) ([] ++ cellsF fs) rfl hown4 ⟨bg, ofg, none⟩ gs.length d (cellsF gs) rfl (cellsF_len gs) (fun j u hj => by rw [add_at']; have h := HCG.out j u hj; rw [← h]; exact HB4.out.cell (p := ⟨bg, ofg + j, none⟩) (cell_lt h)) (cellsF_one gs) (by unfold maxLen; omega) (by omega) HB4.out.size ?_; intro v5 w5 hown5 hg5 _; have hb5 : Below w2.heap.size w2 w5 := HB4.out.grown hg5 HB4.out.size (fun k hk => (hown4.lt k hk).1); have HB := Lib.hid (below_of HB.out hb5 (Nat.le_refl _)); have HE := Lib.hid (HE.out.below hb5); rw [Nat.zero_add] at hown5; obtain ⟨A5, c5, rfl⟩ := own_slice hown5; have hff : FldsAt w5 A5 (fs ++ gs) := FldsAt.of_own (c := c5) (by rw [List.length_append, cellsF_app]; exact hown5); have HFF := Lib.hid hff; clear hb5 hg5 hff hown5))
  refine (J3.out A5 c5 w5 HE.out.1 HFF.out).mono ?_
  rintro e w6 ⟨rfl, hb⟩
  have HB := Lib.hid (below_of HB.out hb (Nat.le_refl _))
  have HE := Lib.hid (HE.out.below hb)
  clear hb hown4
  have hjj := HJ.out
  by_cases q1 : e1 = 0
  · subst q1
    by_cases q2 : e2 = 0
    · subst q2
      have hj := hjj.1 rfl rfl
      clear hjj
      by_cases hbig : 64 < fs.length + gs.length ∨ 8192 < a1.length + 1 + a2.length
      · rw [if_pos hbig] at hj
        obtain ⟨rfl, rfl⟩ := hj
        by_cases h64 : 64 < fs.length + gs.length
        all_goals
          have h64' := h64
          go_wp2_with fail
          refine (shown_any _ HE.out).mono ?_
          rintro e w9 ⟨rfl, hb⟩
          have HB := Lib.hid (below_of HB.out hb (Nat.le_refl _))
          clear hb
          go_wp2_with fail
          go_ret
          exact ⟨by simp [Array.getD], HB.out⟩
      · rw [if_neg hbig] at hj
        obtain ⟨rfl, rfl⟩ := hj
        have hc3 := cat3 a1 a2
        have hcat : ((⟨a1.toArray⟩ : ByteArray) ++ ⟨#[32]⟩ ++ ⟨a2.toArray⟩).toList = a1 ++ 32 :: a2 := by rw [hc3, Lib.toList_data]
        clear hc3
        go_wp2_with fail
        refine (shown_any _ HE.out).mono ?_
        rintro e w9 ⟨rfl, hb⟩
        have HB := Lib.hid (below_of HB.out hb (Nat.le_refl _))
        clear hb
        go_wp2_with fail
        go_ret
        exact ⟨by simp [Array.getD], HB.out⟩
    · have hz : ¬ e3 = 0 := fun h => q2 (hjj.2 h).2
      clear hjj
      have b1 : (e3 == 0) = false := by rw [beq_eq_false_iff_ne]; exact hz
      have b2 : (e3 != 0) = true := by simpa using hz
      have b3 : (e2 == 0) = false := by rw [beq_eq_false_iff_ne]; exact q2
      have b4 : (e2 != 0) = true := by simpa using q2
      clear hz q2
      go_wp2_with fail
      refine (shown_any _ HE.out).mono ?_
      rintro e w9 ⟨rfl, hb⟩
      have HB := Lib.hid (below_of HB.out hb (Nat.le_refl _))
      clear hb
      go_wp2_with fail
      go_ret
      exact ⟨by simp [Array.getD], HB.out⟩
  · have hz : ¬ e3 = 0 := fun h => q1 (hjj.2 h).1
    clear hjj
    have b1 : (e3 == 0) = false := by rw [beq_eq_false_iff_ne]; exact hz
    have b2 : (e3 != 0) = true := by simpa using hz
    have b3 : (e1 == 0) = false := by rw [beq_eq_false_iff_ne]; exact q1
    have b4 : (e1 != 0) = true := by simpa using q1
    clear hz q1
    go_wp2_with fail
    refine (shown_any _ HE.out).mono ?_
    rintro e w9 ⟨rfl, hb⟩
    have HB := Lib.hid (below_of HB.out hb (Nat.le_refl _))
    clear hb
    go_wp2_with fail
    go_ret
    exact ⟨by simp [Array.getD], HB.out⟩
end Go.Proofs.YthifbihmogjjpaaDoor
