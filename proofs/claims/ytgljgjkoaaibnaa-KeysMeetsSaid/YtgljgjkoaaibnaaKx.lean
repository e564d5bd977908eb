/-
  The walks of KeysOrders and KeysNexts.
-/
import Derived.Test.YtgljgjkoaaibnaaKk
namespace Go.Proofs.Ytgljgjkoaaibnaa.KK
open Go.ChangeShapes Go.WideShapes Go.ChangeAt Go.RowKit Go.Proofs

theorem far_yes (s : ByteArray) (w : World) (hs : s.size ≤ 9223372036854775807) (h : 200 < s.size) :
    Calls Try.prog 11 #[.string s] w fun e w' => e = .returned (.bool true) ∧ w = w' := by
  have := far_any s w hs
  rwa [decide_eq_true h] at this
theorem far_no (s : ByteArray) (w : World) (hs : s.size ≤ 9223372036854775807) (h : ¬ 200 < s.size) :
    Calls Try.prog 11 #[.string s] w fun e w' => e = .returned (.bool false) ∧ w = w' := by
  have := far_any s w hs
  rwa [decide_eq_false h] at this
theorem strE_eta (r : Int × List UInt8) : strE r = .tuple #[.string ⟨r.2.toArray⟩, .int .i64 r.1] := rfl

theorem KeysOrders_long0 (a b : ByteArray) (w : World) (ha : a.size ≤ 9223372036854775807) (hb : b.size ≤ 9223372036854775807)  (y : 200 < a.size) :
    Calls Try.prog 3 #[.string a, .string b] w fun e w' => e = .returned (.bool true) ∧ Below w.heap.size w w' := by
  have Fa := Lib.hid (fun w => far_yes a w ha y)
  clear y
  go_enter Try.func3, Try.ntmps3
  go_wp2_with fail
  refine (Fa.out _).mono ?_
  rintro e w' ⟨rfl, rfl⟩
  go_wp2_with fail
  refine (awake_any _).mono ?_
  rintro e w1 ⟨rfl, hb⟩
  have HB := Lib.hid hb
  clear hb
  go_wp2_with fail
  go_ret
  exact ⟨rfl, HB.out⟩

theorem KeysOrders_long1 (a b : ByteArray) (w : World) (ha : a.size ≤ 9223372036854775807) (hb : b.size ≤ 9223372036854775807) (na : ¬ 200 < a.size) (y : 200 < b.size) :
    Calls Try.prog 3 #[.string a, .string b] w fun e w' => e = .returned (.bool true) ∧ Below w.heap.size w w' := by
  have Fa := Lib.hid (fun w => far_no a w ha na)
  have Fb := Lib.hid (fun w => far_yes b w hb y)
  clear na y
  go_enter Try.func3, Try.ntmps3
  go_wp2_with fail
  refine (Fa.out _).mono ?_
  rintro e w' ⟨rfl, rfl⟩
  go_wp2_with fail
  refine (Fb.out _).mono ?_
  rintro e w' ⟨rfl, rfl⟩
  go_wp2_with fail
  refine (awake_any _).mono ?_
  rintro e w1 ⟨rfl, hb⟩
  have HB := Lib.hid hb
  clear hb
  go_wp2_with fail
  go_ret
  exact ⟨rfl, HB.out⟩

set_option maxRecDepth 100000 in
set_option maxHeartbeats 1000000 in
theorem KeysOrders_short (a b : ByteArray) (w : World) (ha : a.size ≤ 9223372036854775807) (hb : b.size ≤ 9223372036854775807) (na : ¬ 200 < a.size) (nb : ¬ 200 < b.size) :
    Calls Try.prog 3 #[.string a, .string b] w fun e w' => e = .returned (.bool true) ∧ Below w.heap.size w w' := by
  have Fa := Lib.hid (fun w => far_no a w ha na)
  have Fb := Lib.hid (fun w => far_no b w hb nb)
  obtain ⟨x, hx⟩ : ∃ x, cmpV a b = x := ⟨_, rfl⟩
  obtain ⟨y, hy⟩ : ∃ y, comV a b = y := ⟨_, rfl⟩
  obtain ⟨z, hz⟩ : ∃ z, chk2 a.size b.size = z := ⟨_, rfl⟩
  obtain ⟨u, hu⟩ : ∃ u, chk1 a.size = u := ⟨_, rfl⟩
  have K1 := fun w => kCompare_any a b w ha hb
  have K2 := fun w => rCompare_any a b w ha hb
  have K3 := fun w => kCommon_any a b w ha hb
  have K4 := fun w => rCommon_any a b w ha hb
  have K5 := fun w => kCheck_any a w ha
  have K6 := fun w => rCheck_any a w ha
  rw [hx, hz] at K1 K2
  rw [hy, hz] at K3 K4
  rw [hu] at K5 K6
  have J1 := Lib.hid K1
  have J2 := Lib.hid K2
  have J3 := Lib.hid K3
  have J4 := Lib.hid K4
  have J5 := Lib.hid K5
  have J6 := Lib.hid K6
  clear K1 K2 K3 K4 K5 K6 hx hy hz hu na nb
  have HB := Lib.hid (Below.refl w.heap.size w)
  go_enter Try.func3, Try.ntmps3
  go_wp2_with fail
  refine (Fa.out _).mono ?_
  rintro e w' ⟨rfl, rfl⟩
  go_wp2_with fail
  refine (Fb.out _).mono ?_
  rintro e w' ⟨rfl, rfl⟩
  go_wp2_with fail
  refine (J1.out _).mono ?_
  rintro e w1 ⟨rfl, hb⟩
  have HB := Lib.hid (below_of HB.out hb (Nat.le_refl _))
  clear hb
  go_wp2_with fail
  refine (J2.out _).mono ?_
  rintro e w2 ⟨rfl, hb⟩
  have HB := Lib.hid (below_of HB.out hb (Nat.le_refl _))
  clear hb
  go_wp2_with fail
  refine (J3.out _).mono ?_
  rintro e w3 ⟨rfl, hb⟩
  have HB := Lib.hid (below_of HB.out hb (Nat.le_refl _))
  clear hb
  go_wp2_with fail
  refine (J4.out _).mono ?_
  rintro e w4 ⟨rfl, hb⟩
  have HB := Lib.hid (below_of HB.out hb (Nat.le_refl _))
  clear hb
  go_wp2_with fail
  refine (J5.out _).mono ?_
  rintro e w' ⟨rfl, rfl⟩
  go_wp2_with fail
  refine (J6.out _).mono ?_
  rintro e w' ⟨rfl, rfl⟩
  go_wp2_with fail
  refine (awake_any _).mono ?_
  rintro e w5 ⟨rfl, hb⟩
  have HB := Lib.hid (below_of HB.out hb (Nat.le_refl _))
  clear hb
  go_wp2_with fail
  go_ret
  exact ⟨by simp [Array.getD], HB.out⟩

theorem KeysOrders_any (a b : ByteArray) (w : World) (ha : a.size ≤ 9223372036854775807) (hb : b.size ≤ 9223372036854775807) :
    Calls Try.prog 3 #[.string a, .string b] w fun e w' => e = .returned (.bool true) ∧ Below w.heap.size w w' := by
  by_cases na : 200 < a.size
  · exact KeysOrders_long0 a b w ha hb  na
  by_cases nb : 200 < b.size
  · exact KeysOrders_long1 a b w ha hb  na nb
  exact KeysOrders_short a b w ha hb  na nb

theorem KeysNexts_long0 (a b : ByteArray) (w : World) (ha : a.size ≤ 9223372036854775807) (hb : b.size ≤ 9223372036854775807)  (y : 200 < a.size) :
    Calls Try.prog 4 #[.string a, .string b] w fun e w' => e = .returned (.bool true) ∧ Below w.heap.size w w' := by
  have Fa := Lib.hid (fun w => far_yes a w ha y)
  clear y
  go_enter Try.func4, Try.ntmps4
  go_wp2_with fail
  refine (Fa.out _).mono ?_
  rintro e w' ⟨rfl, rfl⟩
  go_wp2_with fail
  refine (awake_any _).mono ?_
  rintro e w1 ⟨rfl, hb⟩
  have HB := Lib.hid hb
  clear hb
  go_wp2_with fail
  go_ret
  exact ⟨rfl, HB.out⟩

theorem KeysNexts_long1 (a b : ByteArray) (w : World) (ha : a.size ≤ 9223372036854775807) (hb : b.size ≤ 9223372036854775807) (na : ¬ 200 < a.size) (y : 200 < b.size) :
    Calls Try.prog 4 #[.string a, .string b] w fun e w' => e = .returned (.bool true) ∧ Below w.heap.size w w' := by
  have Fa := Lib.hid (fun w => far_no a w ha na)
  have Fb := Lib.hid (fun w => far_yes b w hb y)
  clear na y
  go_enter Try.func4, Try.ntmps4
  go_wp2_with fail
  refine (Fa.out _).mono ?_
  rintro e w' ⟨rfl, rfl⟩
  go_wp2_with fail
  refine (Fb.out _).mono ?_
  rintro e w' ⟨rfl, rfl⟩
  go_wp2_with fail
  refine (awake_any _).mono ?_
  rintro e w1 ⟨rfl, hb⟩
  have HB := Lib.hid hb
  clear hb
  go_wp2_with fail
  go_ret
  exact ⟨rfl, HB.out⟩

set_option maxRecDepth 100000 in
set_option maxHeartbeats 1000000 in
theorem KeysNexts_short (a b : ByteArray) (w : World) (ha : a.size ≤ 9223372036854775807) (hb : b.size ≤ 9223372036854775807) (na : ¬ 200 < a.size) (nb : ¬ 200 < b.size) :
    Calls Try.prog 4 #[.string a, .string b] w fun e w' => e = .returned (.bool true) ∧ Below w.heap.size w w' := by
  have Fa := Lib.hid (fun w => far_no a w ha na)
  have Fb := Lib.hid (fun w => far_no b w hb nb)
  have K1 := fun w => kNext_any a w ha
  have K2 := fun w => rNext_any a w ha
  have K3 := fun w => kPast_any a w ha
  have K4 := fun w => rPast_any a w ha
  have K5 := fun w => kBetween_any a b w ha hb
  have K6 := fun w => rBetween_any a b w ha hb
  rw [strE_eta] at K1 K2 K3 K4 K5 K6
  obtain ⟨x1, hx1⟩ : ∃ x : ByteArray, ⟨(nextE (Kl.L a)).2.toArray⟩ = x := ⟨_, rfl⟩
  obtain ⟨y1, hy1⟩ : ∃ y, (nextE (Kl.L a)).1 = y := ⟨_, rfl⟩
  obtain ⟨x2, hx2⟩ : ∃ x : ByteArray, ⟨(pastE (Kl.L a)).2.toArray⟩ = x := ⟨_, rfl⟩
  obtain ⟨y2, hy2⟩ : ∃ y, (pastE (Kl.L a)).1 = y := ⟨_, rfl⟩
  obtain ⟨x3, hx3⟩ : ∃ x : ByteArray, ⟨(btwE (Kl.L a) (Kl.L b)).2.toArray⟩ = x := ⟨_, rfl⟩
  obtain ⟨y3, hy3⟩ : ∃ y, (btwE (Kl.L a) (Kl.L b)).1 = y := ⟨_, rfl⟩
  rw [hx1, hy1] at K1 K2
  rw [hx2, hy2] at K3 K4
  rw [hx3, hy3] at K5 K6
  have J1 := Lib.hid K1
  have J2 := Lib.hid K2
  have J3 := Lib.hid K3
  have J4 := Lib.hid K4
  have J5 := Lib.hid K5
  have J6 := Lib.hid K6
  clear K1 K2 K3 K4 K5 K6 hx1 hx2 hx3 hy1 hy2 hy3 na nb
  have HB := Lib.hid (Below.refl w.heap.size w)
  go_enter Try.func4, Try.ntmps4
  go_wp2_with fail
  refine (Fa.out _).mono ?_
  rintro e w' ⟨rfl, rfl⟩
  go_wp2_with fail
  refine (Fb.out _).mono ?_
  rintro e w' ⟨rfl, rfl⟩
  go_wp2_with fail
  refine (J1.out _).mono ?_
  rintro e w1 ⟨rfl, hb⟩
  have HB := Lib.hid (below_of HB.out hb (Nat.le_refl _))
  clear hb
  go_wp2_with fail
  refine (J2.out _).mono ?_
  rintro e w2 ⟨rfl, hb⟩
  have HB := Lib.hid (below_of HB.out hb (Nat.le_refl _))
  clear hb
  go_wp2_with fail
  refine (J3.out _).mono ?_
  rintro e w3 ⟨rfl, hb⟩
  have HB := Lib.hid (below_of HB.out hb (Nat.le_refl _))
  clear hb
  go_wp2_with fail
  refine (J4.out _).mono ?_
  rintro e w4 ⟨rfl, hb⟩
  have HB := Lib.hid (below_of HB.out hb (Nat.le_refl _))
  clear hb
  go_wp2_with fail
  refine (J5.out _).mono ?_
  rintro e w5 ⟨rfl, hb⟩
  have HB := Lib.hid (below_of HB.out hb (Nat.le_refl _))
  clear hb
  go_wp2_with fail
  refine (J6.out _).mono ?_
  rintro e w6 ⟨rfl, hb⟩
  have HB := Lib.hid (below_of HB.out hb (Nat.le_refl _))
  clear hb
  go_wp2_with fail
  refine (awake_any _).mono ?_
  rintro e w7 ⟨rfl, hb⟩
  have HB := Lib.hid (below_of HB.out hb (Nat.le_refl _))
  clear hb
  go_wp2_with fail
  go_ret
  exact ⟨by simp [Array.getD], HB.out⟩

theorem KeysNexts_any (a b : ByteArray) (w : World) (ha : a.size ≤ 9223372036854775807) (hb : b.size ≤ 9223372036854775807) :
    Calls Try.prog 4 #[.string a, .string b] w fun e w' => e = .returned (.bool true) ∧ Below w.heap.size w w' := by
  by_cases na : 200 < a.size
  · exact KeysNexts_long0 a b w ha hb  na
  by_cases nb : 200 < b.size
  · exact KeysNexts_long1 a b w ha hb  na nb
  exact KeysNexts_short a b w ha hb  na nb
end Go.Proofs.Ytgljgjkoaaibnaa.KK
