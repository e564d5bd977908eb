/-
  Trees of losers: awake.
-/
import Derived.Test.YtggmnhlfgjjgaaaLr
namespace Go.Proofs.Ytggmnhlfgjjgaaa.KK
open Go.ChangeShapes Go.WideShapes Go.ChangeAt Go.RowKit Go.Proofs

theorem isNew {W : World} {Z : Array Value} {L : List Int} {b : Nat} (h : Z.toList = intsV L) (hb : b = W.heap.size) : IsAt (W.alloc (.cells Z 3)) (some ⟨b, 0, none⟩) L := by
  subst hb; exact (CR.new h).is
/-- a tree in a box that was just made, its rows older: all of it in whatever comes -/
theorem boxTree {w w2 : World} {kb lb cp cl n : Nat} {ks : List LK} {L : List Int} {win : Int} (h : Below w.heap.size w w2) (hk : CR w2 kb (keysV ks)) (hl : CR w2 lb (intsV L)) : Hid (∀ w', Below (w2.alloc (.cells #[.slice (some ⟨kb, 0, none⟩) n cp, .slice (some ⟨lb, 0, none⟩) n cl, .int .i64 win] 28)).heap.size (w2.alloc (.cells #[.slice (some ⟨kb, 0, none⟩) n cp, .slice (some ⟨lb, 0, none⟩) n cl, .int .i64 win] 28)) w' →
    Row3 w' w2.heap.size 28 (.slice (some ⟨kb, 0, none⟩) n cp) (.slice (some ⟨lb, 0, none⟩) n cl) (.int .i64 win) ∧ KsAt w' (some ⟨kb, 0, none⟩) ks ∧ IsAt w' (some ⟨lb, 0, none⟩) L ∧ Below w.heap.size w w' ∧ Below w2.heap.size w2 w') := Lib.hid fun w' hb => by
  have h2 := eb_of (alloc_below w2 (.cells #[.slice (some ⟨kb, 0, none⟩) n cp, .slice (some ⟨lb, 0, none⟩) n cl, .int .i64 win] 28)) hb (by simp)
  exact ⟨(hb.block _ (by simp)).trans (heap_alloc_new w2 _), (hk.below h2 hk.lt).ks, (hl.below h2 hl.lt).is, eb_of h h2 (Nat.le_refl _), h2⟩
set_option maxRecDepth 100000 in
set_option maxHeartbeats 4000000 in
theorem awake10_any (w : World) : Calls Try.prog 30 #[] w fun e w' => e = .returned (.bool true) ∧ Below w.heap.size w w' := by
  go_enter Try.func30, Try.ntmps30
  go_wp2_with fail
  refine (ex_any _).mono ?_
  rintro e w1 ⟨A, rfl, hk, hb⟩
  have HK1 := Lib.hid hk
  have HB1 := Lib.hid hb
  clear hk hb
  go_wp2_with fail
  refine (ex_build A 4 w1 HK1.out).mono ?_
  rintro e w2 ⟨kb, lb, cp, cl, rfl, ht⟩
  have HT := boxTree (n := 4) (cp := cp) (cl := cl) (win := 1) (eb_of HB1.out ht.below (Nat.le_refl _)) ht.keys ht.lose
  clear ht HK1 HB1
  obtain ⟨w3, hw3⟩ : ∃ w3, w3 = w2.alloc (.cells #[.slice (some ⟨kb, 0, none⟩) 4 cp, .slice (some ⟨lb, 0, none⟩) 4 cl, .int .i64 1] 28) := ⟨_, rfl⟩
  go_wp2_with fail
  rw [← hw3]
  rw [← hw3] at HT
  clear hw3
  obtain ⟨q0, q1, q2, q3, q4⟩ := HT.out w3 (Below.refl _ _)
  refine (ex_winner _ _ cp cl w3 q1 q2).mono ?_
  rintro e w4 ⟨rfl, hb4⟩
  clear q0 q1 q2 q3 q4
  obtain ⟨q0, q1, q2, q3, q4⟩ := HT.out w4 hb4
  have HB4 := Lib.hid hb4
  have HK := Lib.hid q1
  have HL := Lib.hid q2
  have c0 := q0.c0
  have c1 := q0.c1
  have c2 := q0.c2
  clear hb4 q0 q1 q2 q3 q4
  go_wp2_with fail
  refine (ex_replace _ _ cp cl w4 HK.out HL.out).mono ?_
  rintro e w5 ⟨kb5, lb5, cp5, cl5, rfl, ht5⟩
  have HU := boxTree (n := 4) (cp := cp5) (cl := cl5) (win := 3) (eb_of HB4.out ht5.below (Nat.le_refl _)) ht5.keys ht5.lose
  clear ht5 c0 c1 c2 HK HL HB4
  obtain ⟨w6, hw6⟩ : ∃ w6, w6 = w5.alloc (.cells #[.slice (some ⟨kb5, 0, none⟩) 4 cp5, .slice (some ⟨lb5, 0, none⟩) 4 cl5, .int .i64 3] 28) := ⟨_, rfl⟩
  rw [← hw6] at HU
  obtain ⟨v0, v1, v2, v3, v4⟩ := HU.out w6 (Below.refl _ _)
  obtain ⟨q0, q1, q2, q3, q4⟩ := HT.out w6 v3
  have HK := Lib.hid q1
  have HL := Lib.hid q2
  have c0 := q0.c0
  have c1 := q0.c1
  have c2 := q0.c2
  rw [hw6] at c0 c1 c2
  clear q0 q1 q2 q3 q4 v0 v1 v2 v3 v4
  go_wp2_with fail
  rw [← hw6]
  clear hw6 c0 c1 c2
  refine (ex_order _ _ cp cl w6 HK.out HL.out).mono ?_
  rintro e w7 ⟨ob, oc, rfl, hco, hb7⟩
  obtain ⟨v0, v1, v2, v3, v4⟩ := HU.out w7 hb7
  obtain ⟨q0, q1, q2, q3, q4⟩ := HT.out w7 v3
  have HCO := Lib.hid hco
  have HB7 := Lib.hid hb7
  have HK7 := Lib.hid q1
  have HL7 := Lib.hid q2
  have c0 := q0.c0
  have c1 := q0.c1
  have c2 := q0.c2
  clear q0 q1 q2 q3 q4 v0 v1 v2 v3 v4 hco hb7 HK HL
  go_wp2_with fail
  refine (ex_rep0 _ _ cp cl w7 HK7.out HL7.out).mono ?_
  rintro e w8 ⟨rfl, hb8⟩
  have HB8 := Lib.hid hb8
  clear hb8 c0 c1 c2 HK7 HL7
  go_wp2_with fail
  refine (nil_build _).mono ?_
  rintro e w10 ⟨rfl, hb10⟩
  have HB10 := Lib.hid ((eb_of HB8.out (alloc_below w8 (.cells #[.slice none 0 0, .slice none 0 0, .int .i64 0] 28)) (Nat.le_refl _)).trans (hb10.mono (by have := HB8.out.size; simp; omega)))
  have HE := Lib.hid (HCO.out.below HB10.out HCO.out.lt).is
  have HB6 := Lib.hid (eb_of HB7.out HB10.out (Nat.le_refl _))
  clear hb10 HB8 HB10 HCO HB7
  obtain ⟨v0, v1, v2, v3, v4⟩ := HU.out w10 HB6.out
  obtain ⟨q0, q1, q2, q3, q4⟩ := HT.out w10 v3
  have HLL := Lib.hid q2
  have HL5 := Lib.hid v2
  have HB := Lib.hid q3
  have c1 := q0.c1
  have d1 := v0.c1
  have d2 := v0.c2
  have hl1 := q0.lt
  have hl2 := v0.lt
  clear q0 q1 q2 q3 q4 v0 v1 v2 v3 v4
  have HZ : Hid (∀ w', Below w10.heap.size w10 w' → IsAt w' (some ⟨lb, 0, none⟩) [0, 3, 0, 2] ∧ IsAt w' (some ⟨lb5, 0, none⟩) [0, 0, 1, 2] ∧ IsAt w' (some ⟨ob, 0, none⟩) [1, 3, 2, 0] ∧ w'.cell? ⟨w5.heap.size, 1, none⟩ = some (.slice (some ⟨lb5, 0, none⟩) 4 cl5) ∧ w'.cell? ⟨w5.heap.size, 2, none⟩ = some (.int .i64 3) ∧ Below w.heap.size w w') := Lib.hid (fun w' h =>
    ⟨HLL.out.below h (Nat.le_refl _), HL5.out.below h (Nat.le_refl _), HE.out.below h (Nat.le_refl _), (h.cell (p := ⟨w5.heap.size, 1, none⟩) hl2).trans d1, (h.cell (p := ⟨w5.heap.size, 2, none⟩) hl2).trans d2, eb_of HB.out h (Nat.le_refl _)⟩)
  clear HLL HL5 HE HB HU HT HB6
  go_wp2_with fail
  refine (ints_eq _ _ cl 4 [0, 3, 0, 2] _ (HZ.out _ (alloc2_below w10 _ _)).1 (isNew rfl (by simp)) (by simp)).mono ?_
  rintro e w11 ⟨rfl, hb⟩
  have HB11 : Hid (Below w10.heap.size w10 w11) := Lib.hid (eb_of (alloc2_below w10 _ _) hb (Nat.le_refl _))
  clear hb c1 d1 d2
  obtain ⟨_, _, _, d1, d2, _⟩ := HZ.out w11 HB11.out
  go_wp2_with fail
  refine (ints_eq _ _ cl5 4 [0, 0, 1, 2] _ (HZ.out _ (eb_of HB11.out (alloc_below w11 _) (Nat.le_refl _))).2.1 (isNew rfl (by simp)) (by simp)).mono ?_
  rintro e w12 ⟨rfl, hb⟩
  have HB12 : Hid (Below w10.heap.size w10 w12) := Lib.hid (eb_of HB11.out (eb_of (alloc_below w11 _) hb (Nat.le_refl _)) (Nat.le_refl _))
  clear hb d1 d2
  obtain ⟨_, _, _, d1, d2, _⟩ := HZ.out w12 HB12.out
  go_wp2_with fail
  refine (ints_eq _ _ oc 4 [1, 3, 2, 0] _ (HZ.out _ (eb_of HB12.out (alloc_below w12 _) (Nat.le_refl _))).2.2.1 (isNew rfl (by simp)) (by simp)).mono ?_
  rintro e w13 ⟨rfl, hb⟩
  have HB13 : Hid (Below w10.heap.size w10 w13) := Lib.hid (eb_of HB12.out (eb_of (alloc_below w12 _) hb (Nat.le_refl _)) (Nat.le_refl _))
  clear hb d1 d2
  go_wp2_with fail
  go_ret
  exact ⟨rfl, (HZ.out w13 HB13.out).2.2.2.2.2⟩
end Go.Proofs.Ytggmnhlfgjjgaaa.KK
