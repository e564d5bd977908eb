/-
  The walk of KeysRanges.
-/
import Derived.Test.YtgljgjkoaaibnaaKs
import Derived.Test.YtgljgjkoaaibnaaKx
namespace Go.Proofs.Ytgljgjkoaaibnaa.KK
open Go.ChangeShapes Go.WideShapes Go.ChangeAt Go.RowKit Go.Proofs

theorem rows2 {w w1 : World} {r s : Obj} (hb : Below ((w.alloc r).alloc s).heap.size ((w.alloc r).alloc s) w1) :
    w1.heap[w.heap.size]? = some r ∧ w1.heap[w.heap.size + 1]? = some s := by
  have h0 := heap_alloc_new w r
  have h1 := heap_alloc_new (w.alloc r) s
  rw [show (w.alloc r).heap.size = w.heap.size + 1 by simp] at h1
  have a0 := row_below h0 ((Below.refl _ _).alloc (Nat.le_refl _) s)
  exact ⟨row_below a0 hb, row_below h1 hb⟩
theorem cell_lt {w : World} {g o : Nat} {v : Value} (h : w.cell? ⟨g, o, none⟩ = some v) : g < w.heap.size := by
  rcases Nat.lt_or_ge g w.heap.size with h1 | h1
  · exact h1
  · exfalso
    unfold World.cell? at h
    simp [Array.getElem?_eq_none h1] at h
theorem keep9 {w w1 : World} {a b c : Nat} {u0 u1 u2 u3 u4 u5 u6 u7 u8 : Value} (hb : Below w.heap.size w w1)
    (h : w.cell? ⟨a, 0, none⟩ = some u0 ∧ w.cell? ⟨a, 1, none⟩ = some u1 ∧ w.cell? ⟨a, 2, none⟩ = some u2 ∧ w.cell? ⟨b, 0, none⟩ = some u3 ∧ w.cell? ⟨b, 1, none⟩ = some u4 ∧ w.cell? ⟨b, 2, none⟩ = some u5 ∧ w.cell? ⟨c, 0, none⟩ = some u6 ∧ w.cell? ⟨c, 1, none⟩ = some u7 ∧ w.cell? ⟨c, 2, none⟩ = some u8) :
    w1.cell? ⟨a, 0, none⟩ = some u0 ∧ w1.cell? ⟨a, 1, none⟩ = some u1 ∧ w1.cell? ⟨a, 2, none⟩ = some u2 ∧ w1.cell? ⟨b, 0, none⟩ = some u3 ∧ w1.cell? ⟨b, 1, none⟩ = some u4 ∧ w1.cell? ⟨b, 2, none⟩ = some u5 ∧ w1.cell? ⟨c, 0, none⟩ = some u6 ∧ w1.cell? ⟨c, 1, none⟩ = some u7 ∧ w1.cell? ⟨c, 2, none⟩ = some u8 := by
  have k : ∀ {g o : Nat} {v : Value}, w.cell? ⟨g, o, none⟩ = some v → w1.cell? ⟨g, o, none⟩ = some v := fun {g o v} h =>
    (hb.cell (p := ⟨g, o, none⟩) (cell_lt h)).trans h
  obtain ⟨h0, h1, h2, h3, h4, h5, h6, h7, h8⟩ := h
  exact ⟨k h0, k h1, k h2, k h3, k h4, k h5, k h6, k h7, k h8⟩
theorem b2x {w w1 w2 : World} (h : Below w.drew.heap.size w.drew w1) (g : Below w1.heap.size w1 w2) : Below w.heap.size w w2 := below_of (undrew h) g (Nat.le_refl _)
theorem cell_keep {w w1 : World} {g o : Nat} {v : Value} (hb : Below w.heap.size w w1) (h : w.cell? ⟨g, o, none⟩ = some v) : w1.cell? ⟨g, o, none⟩ = some v :=
  (hb.cell (p := ⟨g, o, none⟩) (cell_lt h)).trans h

set_option maxRecDepth 100000 in
theorem KeysRanges_long0 (lo hi : ByteArray) (b : Bool) (lo2 hi2 : ByteArray) (b2 : Bool) (k : ByteArray) (w : World) (hlo : lo.size ≤ 9223372036854775807) (hhi : hi.size ≤ 9223372036854775807) (hlo2 : lo2.size ≤ 9223372036854775807) (hhi2 : hi2.size ≤ 9223372036854775807) (hk : k.size ≤ 9223372036854775807)  (y : 200 < lo.size) :
    Calls Try.prog 5 #[.agg #[.string lo, .string hi, .bool b], .agg #[.string lo2, .string hi2, .bool b2], .string k] w fun e w' => e = .returned (.bool true) ∧ Below w.heap.size w w' := by
  have Flo := Lib.hid (fun w => far_yes lo w hlo y)
  clear y
  go_enter Try.func5, Try.ntmps5
  go_wp2_with fail
  refine (Flo.out _).mono ?_
  rintro e w' ⟨rfl, rfl⟩
  go_wp2_with fail
  refine (awake_any _).mono ?_
  rintro e w1 ⟨rfl, hb⟩
  have HB := Lib.hid ((((Below.refl w.heap.size w).alloc (Nat.le_refl _) _).alloc (by simp) _).trans (hb.mono (by first | (simp; done) | (simp; omega))))
  clear hb
  go_wp2_with fail
  go_ret
  exact ⟨rfl, HB.out⟩

set_option maxRecDepth 100000 in
theorem KeysRanges_long1 (lo hi : ByteArray) (b : Bool) (lo2 hi2 : ByteArray) (b2 : Bool) (k : ByteArray) (w : World) (hlo : lo.size ≤ 9223372036854775807) (hhi : hi.size ≤ 9223372036854775807) (hlo2 : lo2.size ≤ 9223372036854775807) (hhi2 : hi2.size ≤ 9223372036854775807) (hk : k.size ≤ 9223372036854775807) (nlo : ¬ 200 < lo.size) (y : 200 < hi.size) :
    Calls Try.prog 5 #[.agg #[.string lo, .string hi, .bool b], .agg #[.string lo2, .string hi2, .bool b2], .string k] w fun e w' => e = .returned (.bool true) ∧ Below w.heap.size w w' := by
  have Flo := Lib.hid (fun w => far_no lo w hlo nlo)
  have Fhi := Lib.hid (fun w => far_yes hi w hhi y)
  clear nlo y
  go_enter Try.func5, Try.ntmps5
  go_wp2_with fail
  refine (Flo.out _).mono ?_
  rintro e w' ⟨rfl, rfl⟩
  go_wp2_with fail
  refine (Fhi.out _).mono ?_
  rintro e w' ⟨rfl, rfl⟩
  go_wp2_with fail
  refine (awake_any _).mono ?_
  rintro e w1 ⟨rfl, hb⟩
  have HB := Lib.hid ((((Below.refl w.heap.size w).alloc (Nat.le_refl _) _).alloc (by simp) _).trans (hb.mono (by first | (simp; done) | (simp; omega))))
  clear hb
  go_wp2_with fail
  go_ret
  exact ⟨rfl, HB.out⟩

set_option maxRecDepth 100000 in
theorem KeysRanges_long2 (lo hi : ByteArray) (b : Bool) (lo2 hi2 : ByteArray) (b2 : Bool) (k : ByteArray) (w : World) (hlo : lo.size ≤ 9223372036854775807) (hhi : hi.size ≤ 9223372036854775807) (hlo2 : lo2.size ≤ 9223372036854775807) (hhi2 : hi2.size ≤ 9223372036854775807) (hk : k.size ≤ 9223372036854775807) (nlo : ¬ 200 < lo.size) (nhi : ¬ 200 < hi.size) (y : 200 < lo2.size) :
    Calls Try.prog 5 #[.agg #[.string lo, .string hi, .bool b], .agg #[.string lo2, .string hi2, .bool b2], .string k] w fun e w' => e = .returned (.bool true) ∧ Below w.heap.size w w' := by
  have Flo := Lib.hid (fun w => far_no lo w hlo nlo)
  have Fhi := Lib.hid (fun w => far_no hi w hhi nhi)
  have Flo2 := Lib.hid (fun w => far_yes lo2 w hlo2 y)
  clear nlo nhi y
  go_enter Try.func5, Try.ntmps5
  go_wp2_with fail
  refine (Flo.out _).mono ?_
  rintro e w' ⟨rfl, rfl⟩
  go_wp2_with fail
  refine (Fhi.out _).mono ?_
  rintro e w' ⟨rfl, rfl⟩
  go_wp2_with fail
  refine (Flo2.out _).mono ?_
  rintro e w' ⟨rfl, rfl⟩
  go_wp2_with fail
  refine (awake_any _).mono ?_
  rintro e w1 ⟨rfl, hb⟩
  have HB := Lib.hid ((((Below.refl w.heap.size w).alloc (Nat.le_refl _) _).alloc (by simp) _).trans (hb.mono (by first | (simp; done) | (simp; omega))))
  clear hb
  go_wp2_with fail
  go_ret
  exact ⟨rfl, HB.out⟩

set_option maxRecDepth 100000 in
theorem KeysRanges_long3 (lo hi : ByteArray) (b : Bool) (lo2 hi2 : ByteArray) (b2 : Bool) (k : ByteArray) (w : World) (hlo : lo.size ≤ 9223372036854775807) (hhi : hi.size ≤ 9223372036854775807) (hlo2 : lo2.size ≤ 9223372036854775807) (hhi2 : hi2.size ≤ 9223372036854775807) (hk : k.size ≤ 9223372036854775807) (nlo : ¬ 200 < lo.size) (nhi : ¬ 200 < hi.size) (nlo2 : ¬ 200 < lo2.size) (y : 200 < hi2.size) :
    Calls Try.prog 5 #[.agg #[.string lo, .string hi, .bool b], .agg #[.string lo2, .string hi2, .bool b2], .string k] w fun e w' => e = .returned (.bool true) ∧ Below w.heap.size w w' := by
  have Flo := Lib.hid (fun w => far_no lo w hlo nlo)
  have Fhi := Lib.hid (fun w => far_no hi w hhi nhi)
  have Flo2 := Lib.hid (fun w => far_no lo2 w hlo2 nlo2)
  have Fhi2 := Lib.hid (fun w => far_yes hi2 w hhi2 y)
  clear nlo nhi nlo2 y
  go_enter Try.func5, Try.ntmps5
  go_wp2_with fail
  refine (Flo.out _).mono ?_
  rintro e w' ⟨rfl, rfl⟩
  go_wp2_with fail
  refine (Fhi.out _).mono ?_
  rintro e w' ⟨rfl, rfl⟩
  go_wp2_with fail
  refine (Flo2.out _).mono ?_
  rintro e w' ⟨rfl, rfl⟩
  go_wp2_with fail
  refine (Fhi2.out _).mono ?_
  rintro e w' ⟨rfl, rfl⟩
  go_wp2_with fail
  refine (awake_any _).mono ?_
  rintro e w1 ⟨rfl, hb⟩
  have HB := Lib.hid ((((Below.refl w.heap.size w).alloc (Nat.le_refl _) _).alloc (by simp) _).trans (hb.mono (by first | (simp; done) | (simp; omega))))
  clear hb
  go_wp2_with fail
  go_ret
  exact ⟨rfl, HB.out⟩

set_option maxRecDepth 100000 in
theorem KeysRanges_long4 (lo hi : ByteArray) (b : Bool) (lo2 hi2 : ByteArray) (b2 : Bool) (k : ByteArray) (w : World) (hlo : lo.size ≤ 9223372036854775807) (hhi : hi.size ≤ 9223372036854775807) (hlo2 : lo2.size ≤ 9223372036854775807) (hhi2 : hi2.size ≤ 9223372036854775807) (hk : k.size ≤ 9223372036854775807) (nlo : ¬ 200 < lo.size) (nhi : ¬ 200 < hi.size) (nlo2 : ¬ 200 < lo2.size) (nhi2 : ¬ 200 < hi2.size) (y : 200 < k.size) :
    Calls Try.prog 5 #[.agg #[.string lo, .string hi, .bool b], .agg #[.string lo2, .string hi2, .bool b2], .string k] w fun e w' => e = .returned (.bool true) ∧ Below w.heap.size w w' := by
  have Flo := Lib.hid (fun w => far_no lo w hlo nlo)
  have Fhi := Lib.hid (fun w => far_no hi w hhi nhi)
  have Flo2 := Lib.hid (fun w => far_no lo2 w hlo2 nlo2)
  have Fhi2 := Lib.hid (fun w => far_no hi2 w hhi2 nhi2)
  have Fk := Lib.hid (fun w => far_yes k w hk y)
  clear nlo nhi nlo2 nhi2 y
  go_enter Try.func5, Try.ntmps5
  go_wp2_with fail
  refine (Flo.out _).mono ?_
  rintro e w' ⟨rfl, rfl⟩
  go_wp2_with fail
  refine (Fhi.out _).mono ?_
  rintro e w' ⟨rfl, rfl⟩
  go_wp2_with fail
  refine (Flo2.out _).mono ?_
  rintro e w' ⟨rfl, rfl⟩
  go_wp2_with fail
  refine (Fhi2.out _).mono ?_
  rintro e w' ⟨rfl, rfl⟩
  go_wp2_with fail
  refine (Fk.out _).mono ?_
  rintro e w' ⟨rfl, rfl⟩
  go_wp2_with fail
  refine (awake_any _).mono ?_
  rintro e w1 ⟨rfl, hb⟩
  have HB := Lib.hid ((((Below.refl w.heap.size w).alloc (Nat.le_refl _) _).alloc (by simp) _).trans (hb.mono (by first | (simp; done) | (simp; omega))))
  clear hb
  go_wp2_with fail
  go_ret
  exact ⟨rfl, HB.out⟩

set_option maxRecDepth 100000 in
set_option maxHeartbeats 4000000 in
theorem KeysRanges_short (lo hi : ByteArray) (b : Bool) (lo2 hi2 : ByteArray) (b2 : Bool) (k : ByteArray) (w : World) (hlo : lo.size ≤ 9223372036854775807) (hhi : hi.size ≤ 9223372036854775807) (hlo2 : lo2.size ≤ 9223372036854775807) (hhi2 : hi2.size ≤ 9223372036854775807) (hk : k.size ≤ 9223372036854775807) (nlo : ¬ 200 < lo.size) (nhi : ¬ 200 < hi.size) (nlo2 : ¬ 200 < lo2.size) (nhi2 : ¬ 200 < hi2.size) (nk : ¬ 200 < k.size) :
    Calls Try.prog 5 #[.agg #[.string lo, .string hi, .bool b], .agg #[.string lo2, .string hi2, .bool b2], .string k] w fun e w' => e = .returned (.bool true) ∧ Below w.heap.size w w' := by
  have Flo := Lib.hid (fun w => far_no lo w hlo nlo)
  have Fhi := Lib.hid (fun w => far_no hi w hhi nhi)
  have Flo2 := Lib.hid (fun w => far_no lo2 w hlo2 nlo2)
  have Fhi2 := Lib.hid (fun w => far_no hi2 w hhi2 nhi2)
  have Fk := Lib.hid (fun w => far_no k w hk nk)
  have K1 := fun w => kIn_any lo hi b k w hlo hhi hk
  have K2 := fun w => rIn_any lo hi b k w hlo hhi hk
  have K3 := fun w => kEmpty_any lo hi b w hlo hhi
  have K4 := fun w => rEmpty_any lo hi b w hlo hhi
  have K5 := fun w => kMeet_any lo hi b lo2 hi2 b2 w hlo hhi hlo2 hhi2
  have K6 := fun w => rMeet_any lo hi b lo2 hi2 b2 w hlo hhi hlo2 hhi2
  have K7 := fun w => kCheckRange_any lo hi b w hlo hhi
  have K8 := fun w => rCheckRange_any lo hi b w hlo hhi
  have K9 := fun w => kOf_any k w hk
  have K10 := fun w => rOf_any k w hk
  obtain ⟨v1, hv1⟩ : ∃ v, inV lo hi b k = v := ⟨_, rfl⟩
  obtain ⟨e1, he1⟩ : ∃ v, inE lo hi b k = v := ⟨_, rfl⟩
  obtain ⟨v2, hv2⟩ : ∃ v, emptyV lo hi b = v := ⟨_, rfl⟩
  obtain ⟨e2, he2⟩ : ∃ v, chkR lo hi b = v := ⟨_, rfl⟩
  obtain ⟨m1, hm1⟩ : ∃ v, (meetV lo hi b lo2 hi2 b2).1 = v := ⟨_, rfl⟩
  obtain ⟨m2, hm2⟩ : ∃ v, (meetV lo hi b lo2 hi2 b2).2.1 = v := ⟨_, rfl⟩
  obtain ⟨m3, hm3⟩ : ∃ v, (meetV lo hi b lo2 hi2 b2).2.2 = v := ⟨_, rfl⟩
  obtain ⟨e3, he3⟩ : ∃ v, mErr lo hi b lo2 hi2 b2 = v := ⟨_, rfl⟩
  obtain ⟨o1, ho1⟩ : ∃ v : ByteArray, ⟨(ofLo (Kl.L k)).toArray⟩ = v := ⟨_, rfl⟩
  obtain ⟨o2, ho2⟩ : ∃ v : ByteArray, ⟨(ofHi (Kl.L k)).toArray⟩ = v := ⟨_, rfl⟩
  obtain ⟨o3, ho3⟩ : ∃ v, ofB (Kl.L k) = v := ⟨_, rfl⟩
  obtain ⟨e4, he4⟩ : ∃ v, chk1 k.size = v := ⟨_, rfl⟩
  rw [hv1, he1] at K1 K2
  rw [hv2, he2] at K3 K4
  rw [hm1, hm2, hm3, he3] at K5 K6
  rw [he2] at K7 K8
  rw [ho1, ho2, ho3, he4] at K9 K10
  have J1 := Lib.hid K1
  have J2 := Lib.hid K2
  have J3 := Lib.hid K3
  have J4 := Lib.hid K4
  have J5 := Lib.hid K5
  have J6 := Lib.hid K6
  have J7 := Lib.hid K7
  have J8 := Lib.hid K8
  have J9 := Lib.hid K9
  have J10 := Lib.hid K10
  clear K1 K2 K3 K4 K5 K6 K7 K8 K9 K10 hv1 he1 hv2 he2 hm1 hm2 hm3 he3 ho1 ho2 ho3 he4 nlo nhi nlo2 nhi2 nk
  go_enter Try.func5, Try.ntmps5
  go_wp2_with fail
  refine (Flo.out _).mono ?_
  rintro e w' ⟨rfl, rfl⟩
  go_wp2_with fail
  refine (Fhi.out _).mono ?_
  rintro e w' ⟨rfl, rfl⟩
  go_wp2_with fail
  refine (Flo2.out _).mono ?_
  rintro e w' ⟨rfl, rfl⟩
  go_wp2_with fail
  refine (Fhi2.out _).mono ?_
  rintro e w' ⟨rfl, rfl⟩
  go_wp2_with fail
  refine (Fk.out _).mono ?_
  rintro e w' ⟨rfl, rfl⟩
  go_wp2_with fail
  refine (J1.out _).mono ?_
  rintro e w1 ⟨rfl, hb⟩
  obtain ⟨R0, R1⟩ := rows2 hb
  have HB := Lib.hid ((((Below.refl w.heap.size w).alloc (Nat.le_refl _) _).alloc (by simp) _).trans (hb.mono (by first | (simp; done) | (simp; omega))))
  clear hb
  obtain ⟨p0, p1, p2, p3, p4, p5⟩ := row3 R0
  obtain ⟨q0, q1, q2, q3, q4, q5⟩ := row3 R1
  go_wp2_with fail
  clear p0 p1 p2 p3 p4 p5 q0 q1 q2 q3 q4 q5
  refine (J2.out _).mono ?_
  rintro e w2 ⟨rfl, hb⟩
  have R0 := row_below R0 hb
  have R1 := row_below R1 hb
  have HB := Lib.hid (below_of HB.out hb (Nat.le_refl _))
  have l0 := lt_of_row R0
  have l1 := lt_of_row R1
  have hs2 := hb.size
  clear hb
  obtain ⟨p0, p1, p2, p3, p4, p5⟩ := row3 R0
  obtain ⟨q0, q1, q2, q3, q4, q5⟩ := row3 R1
  go_wp2_with fail
  clear p0 p1 p2 p3 p4 p5 q0 q1 q2 q3 q4 q5
  refine (J3.out _).mono ?_
  rintro e w3 ⟨rfl, hb⟩
  have R0 := row_below R0 hb
  have R1 := row_below R1 hb
  have HB := Lib.hid (below_of HB.out hb (Nat.le_refl _))
  have l0 := lt_of_row R0
  have l1 := lt_of_row R1
  have hs3 := hb.size
  clear hb
  obtain ⟨p0, p1, p2, p3, p4, p5⟩ := row3 R0
  obtain ⟨q0, q1, q2, q3, q4, q5⟩ := row3 R1
  go_wp2_with fail
  clear p0 p1 p2 p3 p4 p5 q0 q1 q2 q3 q4 q5
  refine (J4.out _).mono ?_
  rintro e w4 ⟨rfl, hb⟩
  have R0 := row_below R0 hb
  have R1 := row_below R1 hb
  have HB := Lib.hid (below_of HB.out hb (Nat.le_refl _))
  have l0 := lt_of_row R0
  have l1 := lt_of_row R1
  have hs4 := hb.size
  clear hb
  obtain ⟨p0, p1, p2, p3, p4, p5⟩ := row3 R0
  obtain ⟨q0, q1, q2, q3, q4, q5⟩ := row3 R1
  go_wp2_with fail
  clear p0 p1 p2 p3 p4 p5 q0 q1 q2 q3 q4 q5
  refine (J5.out _).mono ?_
  rintro e w5 ⟨rfl, hb⟩
  have R0 := row_below R0 hb
  have R1 := row_below R1 hb
  have HB := Lib.hid (below_of HB.out hb (Nat.le_refl _))
  have l0 := lt_of_row R0
  have l1 := lt_of_row R1
  have hs5 := hb.size
  clear hb
  obtain ⟨p0, p1, p2, p3, p4, p5⟩ := row3 R0
  obtain ⟨q0, q1, q2, q3, q4, q5⟩ := row3 R1
  go_wp2_with fail
  clear p0 p1 p2 p3 p4 p5 q0 q1 q2 q3 q4 q5
  refine (J6.out _).mono ?_
  rintro e w6 ⟨rfl, hb⟩
  have R2 := row_new hb
  have R0 := row_old R0 hb
  have R1 := row_old R1 hb
  have HB := Lib.hid ((HB.out.alloc (by omega) _).trans (hb.mono (by first | (simp; done) | (simp; omega))))
  obtain ⟨g, hg⟩ : ∃ g, w5.heap.size = g := ⟨_, rfl⟩
  rw [hg] at R2 l0 l1
  rw [hg]
  have l2 := lt_of_row R2
  clear hb
  obtain ⟨p0, p1, p2, p3, p4, p5⟩ := row3 R0
  obtain ⟨q0, q1, q2, q3, q4, q5⟩ := row3 R1
  obtain ⟨r0, r1, r2, r3, r4, r5⟩ := row3 R2
  go_wp2_with fail
  have hb7 : Below w6.heap.size w6 (w6.alloc (.cells #[.string m1, .string m2, .bool m3] 33)) := (Below.refl _ _).alloc (Nat.le_refl _) _
  have lgg := lt_of_row R2
  have R3 := heap_alloc_new w6 (.cells #[.string m1, .string m2, .bool m3] 33)
  have R0 := row_below R0 hb7
  have R1 := row_below R1 hb7
  have R2 := row_below R2 hb7
  have HB := Lib.hid (below_of HB.out hb7 (Nat.le_refl _))
  obtain ⟨g2, hg2⟩ : ∃ g2, w6.heap.size = g2 := ⟨_, rfl⟩
  obtain ⟨w7, hw7⟩ : ∃ w7, w6.alloc (.cells #[.string m1, .string m2, .bool m3] 33) = w7 := ⟨_, rfl⟩
  rw [hg2] at lgg
  rw [hg2, hw7] at R3
  rw [hw7] at R0 R1 R2 HB
  rw [hg2, hw7]
  have l3 := lt_of_row R3
  clear hb7 hw7 hg2 p0 p1 p2 p3 p4 p5 q0 q1 q2 q3 q4 q5 r0 r1 r2 r3 r4 r5
  obtain ⟨p0, p1, p2, _, _, _⟩ := row3 R0
  obtain ⟨r0, r1, r2, _, _, _⟩ := row3 R2
  obtain ⟨s0, s1, s2, _, _, _⟩ := row3 R3
  go_region_held3 (fun w' => w'.cell? ⟨w.heap.size, 0, none⟩ = some (.string lo) ∧ w'.cell? ⟨w.heap.size, 1, none⟩ = some (.string hi) ∧ w'.cell? ⟨w.heap.size, 2, none⟩ = some (.bool b)
      ∧ w'.cell? ⟨g, 0, none⟩ = some (.string m1) ∧ w'.cell? ⟨g, 1, none⟩ = some (.string m2) ∧ w'.cell? ⟨g, 2, none⟩ = some (.bool m3)
      ∧ w'.cell? ⟨g2, 0, none⟩ = some (.string m1) ∧ w'.cell? ⟨g2, 1, none⟩ = some (.string m2) ∧ w'.cell? ⟨g2, 2, none⟩ = some (.bool m3))
    (first
      | go_keep
      | (exact keep9 (undrew (by assumption)) ⟨p0, p1, p2, r0, r1, r2, s0, s1, s2⟩)
      | (exact keep9 (by assumption) (by assumption)))
    (first
      | (go_at_call 31; refine (J7.out _).mono ?_; rintro e w8 ⟨rfl, hb8⟩)
      | (go_at_call 32; refine (J8.out _).mono ?_; rintro e w9 ⟨rfl, hb9⟩))
  all_goals
    have HB9 := Lib.hid (below_of HB.out (b2x hb8 hb9) (Nat.le_refl _))
    have R2 := row_below R2 (b2x hb8 hb9)
    have R3 := row_below R3 (b2x hb8 hb9)
    clear hb8 hb9
    obtain ⟨r0, r1, r2, r3, r4, r5⟩ := row3 R2
    obtain ⟨s0, s1, s2, s3, s4, s5⟩ := row3 R3
    go_wp2_with fail
    refine (J9.out _).mono ?_
    rintro e w10 ⟨rfl, hb⟩
    have R2 := row_below R2 hb
    have R3 := row_below R3 hb
    have HB := Lib.hid (below_of HB9.out hb (Nat.le_refl _))
    have l2 := lt_of_row R2
    have l3 := lt_of_row R3
    clear hb r0 r1 r2 r3 r4 r5 s0 s1 s2 s3 s4 s5
    obtain ⟨r0, r1, r2, r3, r4, r5⟩ := row3 R2
    obtain ⟨s0, s1, s2, s3, s4, s5⟩ := row3 R3
    go_wp2_with fail
    refine (J10.out _).mono ?_
    rintro e w11 ⟨rfl, hb⟩
    have x0 := hb.cell (p := ⟨g, 0, none⟩) (by first | omega | (simp; done) | (simp; omega))
    have x1 := hb.cell (p := ⟨g, 1, none⟩) (by first | omega | (simp; done) | (simp; omega))
    have x2 := hb.cell (p := ⟨g, 2, none⟩) (by first | omega | (simp; done) | (simp; omega))
    have y0 := hb.cell (p := ⟨g2, 0, none⟩) (by first | omega | (simp; done) | (simp; omega))
    have y1 := hb.cell (p := ⟨g2, 1, none⟩) (by first | omega | (simp; done) | (simp; omega))
    have y2 := hb.cell (p := ⟨g2, 2, none⟩) (by first | omega | (simp; done) | (simp; omega))
    have y3 := hb.frozen (p := ⟨g2, 0, none⟩) (by first | omega | (simp; done) | (simp; omega))
    have y4 := hb.frozen (p := ⟨g2, 1, none⟩) (by first | omega | (simp; done) | (simp; omega))
    have y5 := hb.frozen (p := ⟨g2, 2, none⟩) (by first | omega | (simp; done) | (simp; omega))
    have n2 : g < w11.heap.size := by have := hb.size; first | omega | (simp at this; omega)
    have n3 : g2 < w11.heap.size := by have := hb.size; first | omega | (simp at this; omega)
    have HB := Lib.hid (below_of (set3 HB.out (show w.heap.size ≤ g by omega) _ _ _) hb (by first | omega | (simp; done) | (simp; omega)))
    clear hb
    go_wp2_with fail
    refine (awake_any _).mono ?_
    rintro e w12 ⟨rfl, hb⟩
    have HB := Lib.hid (below_of (set3 HB.out (show w.heap.size ≤ g2 by omega) _ _ _) hb (by first | omega | (simp; done) | (simp; omega)))
    clear hb
    go_wp2_with fail
    go_ret
    exact ⟨by simp [Array.getD], HB.out⟩

theorem KeysRanges_any (lo hi : ByteArray) (b : Bool) (lo2 hi2 : ByteArray) (b2 : Bool) (k : ByteArray) (w : World) (hlo : lo.size ≤ 9223372036854775807) (hhi : hi.size ≤ 9223372036854775807) (hlo2 : lo2.size ≤ 9223372036854775807) (hhi2 : hi2.size ≤ 9223372036854775807) (hk : k.size ≤ 9223372036854775807) :
    Calls Try.prog 5 #[.agg #[.string lo, .string hi, .bool b], .agg #[.string lo2, .string hi2, .bool b2], .string k] w fun e w' => e = .returned (.bool true) ∧ Below w.heap.size w w' := by
  by_cases n0 : 200 < lo.size
  · exact KeysRanges_long0 lo hi b lo2 hi2 b2 k w hlo hhi hlo2 hhi2 hk n0
  by_cases n1 : 200 < hi.size
  · exact KeysRanges_long1 lo hi b lo2 hi2 b2 k w hlo hhi hlo2 hhi2 hk n0 n1
  by_cases n2 : 200 < lo2.size
  · exact KeysRanges_long2 lo hi b lo2 hi2 b2 k w hlo hhi hlo2 hhi2 hk n0 n1 n2
  by_cases n3 : 200 < hi2.size
  · exact KeysRanges_long3 lo hi b lo2 hi2 b2 k w hlo hhi hlo2 hhi2 hk n0 n1 n2 n3
  by_cases n4 : 200 < k.size
  · exact KeysRanges_long4 lo hi b lo2 hi2 b2 k w hlo hhi hlo2 hhi2 hk n0 n1 n2 n3 n4
  exact KeysRanges_short lo hi b lo2 hi2 b2 k w hlo hhi hlo2 hhi2 hk n0 n1 n2 n3 n4
end Go.Proofs.Ytgljgjkoaaibnaa.KK
