/-
  Contracts of a builder's Len, Room, Last; of above.
-/
import Derived.Test.YtkphadkmmjcmnaaBb
namespace Go.Proofs.Ytkphadkmmjcmnaa.KK
open Go.ChangeShapes Go.WideShapes Go.ChangeAt Go.RowKit Go.Proofs

set_option maxRecDepth 100000 in
theorem above_any (a b : ByteArray) (w : World) (ha : a.size ≤ 32) (hb : b.size ≤ 32) :
    Calls Try.prog 50 #[.string a, .string b] w fun e w' => e = .returned (.bool (decide (0 < Kl.ord (Kl.L a) (Kl.L b)))) ∧ Below w.heap.size w w' := by
  have J := Lib.hid (fun w => by have K := kCompare_any a b w (by omega) (by omega); rw [cmpV_ok ha hb, chk2_ok ha hb] at K; exact K)
  clear ha hb
  generalize Kl.ord (Kl.L a) (Kl.L b) = r at *
  go_enter Try.func50, Try.ntmps50
  go_wp2_with fail
  refine (J.out _).mono ?_
  rintro e w1 ⟨rfl, hb1⟩
  have HB := Lib.hid hb1
  clear hb1
  go_wp2_with fail
  go_ret
  exact ⟨rfl, HB.out⟩
set_option maxRecDepth 100000 in
theorem len_any {M most n c : Nat} {st : Int} {A : Option Addr} {w : World} (h : Bd w M st most (.slice A n c)) (hst : st ≠ 0) (hn : n ≤ 5000) : Calls Try.prog 25 #[.pointer (some ⟨M, 0, none⟩)] w fun e w' => e = .returned (.int .i64 n) ∧ Below w.heap.size w w' := by
  have J := Lib.hid (now_any h)
  obtain ⟨b1, b2⟩ := ne_b hst
  have H := Lib.hid h
  clear h hst
  go_enter Try.func25, Try.ntmps25
  go_wp2_with fail
  refine J.out.mono ?_
  rintro e w1 ⟨rfl, hb⟩
  have c3 := (H.out.below hb).c3
  have HB := Lib.hid hb
  clear hb
  go_wp2_with fail
  go_ret
  exact ⟨rfl, HB.out⟩
set_option maxRecDepth 100000 in
theorem len_no {x : Value} {w : World} (h : NM x w) : Calls Try.prog 25 #[x] w fun e w' => e = .returned (.int .i64 0) ∧ Below w.heap.size w w' := by
  have J := Lib.hid (h w (Below.refl _ _))
  clear h
  go_enter Try.func25, Try.ntmps25
  go_wp2_with fail
  refine J.out.mono ?_
  rintro e w1 ⟨rfl, hb⟩
  go_wp2_with fail
  go_ret
  exact ⟨rfl, hb⟩
set_option maxRecDepth 100000 in
theorem Room_open {M most n c : Nat} {A : Option Addr} {w : World} (h : Bd w M 1 most (.slice A n c)) (hm : most ≤ 5000) (hn : n ≤ most) : Calls Try.prog 26 #[.pointer (some ⟨M, 0, none⟩)] w fun e w' => e = .returned (.int .i64 ((most - n : Nat) : Int)) ∧ Below w.heap.size w w' := by
  have J := Lib.hid (open_yes h)
  have J2 := Lib.hid (fun (w' : World) (hb : Below w.heap.size w w') => room_any (h.below hb) hm hn)
  clear h hm hn
  generalize ((most - n : Nat) : Int) = r at *
  go_enter Try.func26, Try.ntmps26
  go_wp2_with fail
  refine J.out.mono ?_
  rintro e w1 ⟨rfl, hb⟩
  have HB := Lib.hid hb
  clear hb
  go_wp2_with fail
  refine (J2.out _ HB.out).mono ?_
  rintro e w2 ⟨rfl, hb⟩
  have HB2 := Lib.hid (eb_of HB.out hb (Nat.le_refl _))
  clear hb
  go_wp2_with fail
  go_ret
  exact ⟨rfl, HB2.out⟩
set_option maxRecDepth 100000 in
theorem Room_sealed {M most : Nat} {v : Value} {w : World} (h : Bd w M 2 most v) : Calls Try.prog 26 #[.pointer (some ⟨M, 0, none⟩)] w fun e w' => e = .returned (.int .i64 0) ∧ Below w.heap.size w w' := by
  have J := Lib.hid (open_sealed h)
  clear h
  go_enter Try.func26, Try.ntmps26
  go_wp2_with fail
  refine J.out.mono ?_
  rintro e w1 ⟨rfl, hb⟩
  go_wp2_with fail
  go_ret
  exact ⟨rfl, hb⟩
set_option maxRecDepth 100000 in
theorem Room_no {x : Value} {w : World} (h : NM x w) : Calls Try.prog 26 #[x] w fun e w' => e = .returned (.int .i64 0) ∧ Below w.heap.size w w' := by
  have J := Lib.hid (open_no h)
  clear h
  go_enter Try.func26, Try.ntmps26
  go_wp2_with fail
  refine J.out.mono ?_
  rintro e w1 ⟨rfl, hb⟩
  go_wp2_with fail
  go_ret
  exact ⟨rfl, hb⟩
set_option maxRecDepth 100000 in
set_option maxHeartbeats 1000000 in
theorem Last_any {M most c : Nat} {st : Int} {A : Option Addr} {xs : List El.En} {w : World} (h : Bd w M st most (.slice A xs.length c)) (hst : st ≠ 0) (he : EsAt w A xs) (hn : xs.length ≤ 5000) : Calls Try.prog 23 #[.pointer (some ⟨M, 0, none⟩)] w fun e w' => e = .returned (.tuple #[valE (lastE xs), .int .i64 (if xs = [] then 4 else 0)]) ∧ Below w.heap.size w w' := by
  have J := Lib.hid (fun (w' : World) (hb : Below w.heap.size w w') => now_any (h.below hb))
  have J2 := Lib.hid (fun (w' : World) (hb : Below w.heap.size w w') => llast_any (h.below hb) (he.below hb (Nat.le_refl _)) hn)
  obtain ⟨b1, b2⟩ := ne_b hst
  have hb0 := alloc_below w (.cells #[.string ⟨#[]⟩, .string ⟨#[]⟩, .bool false, .int .i64 0] 36)
  have HR := Row4.new w 36 (.string ⟨#[]⟩) (.string ⟨#[]⟩) (.bool false) (.int .i64 0)
  clear h hst he
  by_cases hx : xs = []
  · rw [if_pos hx]
    rw [show decide (xs ≠ []) = false by simp [hx]] at J2
    have hl : lastE xs = (⟨#[]⟩, ⟨#[]⟩, false, 0) := by rw [hx]; rfl
    obtain ⟨xk, hk⟩ : ∃ k : ByteArray, k = ⟨#[]⟩ := ⟨_, rfl⟩
    obtain ⟨xv, hv⟩ : ∃ k : ByteArray, k = ⟨#[]⟩ := ⟨_, rfl⟩
    rw [hl] at J2 ⊢
    unfold valE at J2 ⊢
    simp only at J2 ⊢
    clear hx hl
    generalize xs.length = n at *
    go_enter Try.func23, Try.ntmps23
    go_wp2_with fail
    refine (J.out _ hb0).mono ?_
    rintro e w1 ⟨rfl, hb1⟩
    have HB1 := Lib.hid (eb_of hb0 hb1 (Nat.le_refl _))
    have HR1 := HR.below hb1 (Nat.le_refl _)
    clear hb1 hb0 HR
    go_wp2_with fail
    refine (J2.out _ HB1.out).mono ?_
    rintro e w2 ⟨rfl, hb2⟩
    have HB2 := Lib.hid (eb_of HB1.out hb2 (Nat.le_refl _))
    have HR2 := HR1.below hb2 (Nat.le_refl _)
    clear hb2 HR1
    have z := HR2.fz
    have z0 := z 0
    have z1 := z 1
    have z2 := z 2
    have z3 := z 3
    have r0 := HR2.c0
    have r1 := HR2.c1
    have r2 := HR2.c2
    have r3 := HR2.c3
    have hlt := HR2.lt
    clear z
    go_wp2_with fail
    have HX := (HR2.set (.string ⟨#[]⟩) (.string ⟨#[]⟩) (.bool false) (.int .i64 0)).below (alloc_below _ (.cells #[.string ⟨#[]⟩, .string ⟨#[]⟩, .bool false, .int .i64 0] 36)) (Nat.le_refl _)
    have HB3 := Lib.hid (set4_below HB2.out (Nat.le_refl _) (.string ⟨#[]⟩) (.string ⟨#[]⟩) (.bool false) (.int .i64 0))
    have k0 := HX.c0
    have k1 := HX.c1
    have k2 := HX.c2
    have k3 := HX.c3
    refine bodyPost_ret (v := .tuple #[.agg #[.string ⟨#[]⟩, .string ⟨#[]⟩, .bool false, .int .i64 0], .int .i64 4]) (by simp [results, Try.f23, go_sem, k0, k1, k2, k3]) rfl ?_
    exact ⟨rfl, HB3.out.alloc HB3.out.size _⟩
  · rw [if_neg hx]
    rw [show decide (xs ≠ []) = true by simp [hx]] at J2
    obtain ⟨⟨xk, xv, xd, xq⟩, hl⟩ : ∃ x, lastE xs = x := ⟨_, rfl⟩
    rw [hl] at J2 ⊢
    unfold valE at J2 ⊢
    simp only at J2 ⊢
    clear hx hl
    generalize xs.length = n at *
    go_enter Try.func23, Try.ntmps23
    go_wp2_with fail
    refine (J.out _ hb0).mono ?_
    rintro e w1 ⟨rfl, hb1⟩
    have HB1 := Lib.hid (eb_of hb0 hb1 (Nat.le_refl _))
    have HR1 := HR.below hb1 (Nat.le_refl _)
    clear hb1 hb0 HR
    go_wp2_with fail
    refine (J2.out _ HB1.out).mono ?_
    rintro e w2 ⟨rfl, hb2⟩
    have HB2 := Lib.hid (eb_of HB1.out hb2 (Nat.le_refl _))
    have HR2 := HR1.below hb2 (Nat.le_refl _)
    clear hb2 HR1
    have z := HR2.fz
    have z0 := z 0
    have z1 := z 1
    have z2 := z 2
    have z3 := z 3
    have r0 := HR2.c0
    have r1 := HR2.c1
    have r2 := HR2.c2
    have r3 := HR2.c3
    have hlt := HR2.lt
    clear z
    go_wp2_with fail
    have HX := (HR2.set (.string xk) (.string xv) (.bool xd) (.int .i64 xq)).below (alloc_below _ (.cells #[.string xk, .string xv, .bool xd, .int .i64 xq] 36)) (Nat.le_refl _)
    have HB3 := Lib.hid (set4_below HB2.out (Nat.le_refl _) (.string xk) (.string xv) (.bool xd) (.int .i64 xq))
    have k0 := HX.c0
    have k1 := HX.c1
    have k2 := HX.c2
    have k3 := HX.c3
    refine bodyPost_ret (v := .tuple #[.agg #[.string xk, .string xv, .bool xd, .int .i64 xq], .int .i64 0]) (by simp [results, Try.f23, go_sem, k0, k1, k2, k3]) rfl ?_
    exact ⟨rfl, HB3.out.alloc HB3.out.size _⟩

set_option maxRecDepth 100000 in
set_option maxHeartbeats 1000000 in
theorem Last_no {x : Value} {w : World} (h : NM x w) : Calls Try.prog 23 #[x] w fun e w' => e = .returned (.tuple #[.agg #[.string ⟨#[]⟩, .string ⟨#[]⟩, .bool false, .int .i64 0], .int .i64 1]) ∧ Below w.heap.size w w' := by
  have hb0 := alloc_below w (.cells #[.string ⟨#[]⟩, .string ⟨#[]⟩, .bool false, .int .i64 0] 36)
  have HR := Row4.new w 36 (.string ⟨#[]⟩) (.string ⟨#[]⟩) (.bool false) (.int .i64 0)
  have J := Lib.hid (h _ hb0)
  clear h
  go_enter Try.func23, Try.ntmps23
  go_wp2_with fail
  refine J.out.mono ?_
  rintro e w1 ⟨rfl, hb1⟩
  have HB1 := Lib.hid (eb_of hb0 hb1 (Nat.le_refl _))
  have HR3 := HR.below hb1 (Nat.le_refl _)
  clear hb1 hb0 HR
  have z := HR3.fz
  have z0 := z 0
  have z1 := z 1
  have z2 := z 2
  have z3 := z 3
  have r0 := HR3.c0
  have r1 := HR3.c1
  have r2 := HR3.c2
  have r3 := HR3.c3
  clear z
  go_wp2_with fail
  have HX := HR3.set (.string ⟨#[]⟩) (.string ⟨#[]⟩) (.bool false) (.int .i64 0)
  have k0 := HX.c0
  have k1 := HX.c1
  have k2 := HX.c2
  have k3 := HX.c3
  refine bodyPost_ret (v := .tuple #[.agg #[.string ⟨#[]⟩, .string ⟨#[]⟩, .bool false, .int .i64 0], .int .i64 1]) (by simp [results, Try.f23, go_sem, k0, k1, k2, k3]) rfl ?_
  exact ⟨rfl, set4_below HB1.out (Nat.le_refl _) _ _ _ _⟩
end Go.Proofs.Ytkphadkmmjcmnaa.KK
