/-
  The walk of KeysSorted.
-/
import Derived.Test.YtgljgjkoaaibnaaKx
namespace Go.Proofs.Ytgljgjkoaaibnaa.KK
open Go.ChangeShapes Go.WideShapes Go.ChangeAt Go.RowKit Go.Proofs

theorem chk_yes (s : ByteArray) (w : World) (hs : s.size ≤ 9223372036854775807) (h : s.size ≤ 32) :
    Calls Try.prog 17 #[.string s] w fun e w' => e = .returned (.int .i64 0) ∧ w = w' := by
  have := kCheck_any s w hs
  rwa [chk1_ok h] at this
theorem chk_not (s : ByteArray) (w : World) (hs : s.size ≤ 9223372036854775807) (h : ¬ s.size ≤ 32) :
    Calls Try.prog 17 #[.string s] w fun e w' => e = .returned (.int .i64 3) ∧ w = w' := by
  have := kCheck_any s w hs
  rwa [chk1_no h] at this
theorem less_key (a b : ByteArray) (w : World) (v : Bool) (ha : a.size ≤ 32) (hb : b.size ≤ 32) (hv : Kl.lt (Kl.L a) (Kl.L b) = v) :
    Calls Try.prog 39 #[.string a, .string b] w fun e w' => e = .returned (.bool v) ∧ Below w.heap.size w w' := by
  have := less_any a b w (by omega) (by omega)
  rwa [decide_eq_true (And.intro ha hb), Bool.true_and, hv] at this
theorem cmp_key (a b : ByteArray) (w : World) (o : Int) (ha : a.size ≤ 32) (hb : b.size ≤ 32) (ho : Kl.ord (Kl.L a) (Kl.L b) = o) :
    Calls Try.prog 13 #[.string a, .string b] w fun e w' => e = .returned (.tuple #[.int .i64 o, .int .i64 0]) ∧ Below w.heap.size w w' := by
  have := kCompare_any a b w (by omega) (by omega)
  rwa [chk2_ok ha hb, cmpV_ok ha hb, ho] at this
theorem com_key (a b : ByteArray) (w : World) (c : Nat) (ha : a.size ≤ 32) (hb : b.size ≤ 32) (hc : Kl.cm (Kl.L a) (Kl.L b) = c) :
    Calls Try.prog 15 #[.string a, .string b] w fun e w' => e = .returned (.tuple #[.int .i64 (c : Int), .int .i64 0]) ∧ Below w.heap.size w w' := by
  have := kCommon_any a b w (by omega) (by omega)
  rwa [chk2_ok ha hb, comV_ok ha hb, hc] at this
theorem L_inj {a b : ByteArray} (h : Kl.L a = Kl.L b) : a = b := by rw [mk_L a, mk_L b, h]
theorem toList_L' (s : ByteArray) : s.toList = Kl.L s := by rw [Lib.toList_data]; rfl
theorem beq_str (a b : ByteArray) (v : Bool) (h : decide (Kl.ord (Kl.L a) (Kl.L b) = 0) = v) : (a.toList == b.toList) = v := by
  rw [toList_L', toList_L', ← h, Bool.eq_iff_iff, beq_iff_eq, decide_eq_true_iff]
  exact Kl.ord_eq.symm

set_option maxRecDepth 100000 in
theorem KeysSorted_early0 (a b c : ByteArray) (w : World) (ha : a.size ≤ 9223372036854775807) (hb : b.size ≤ 9223372036854775807) (hc : c.size ≤ 9223372036854775807)   (y : 200 < a.size) :
    Calls Try.prog 8 #[.string a, .string b, .string c] w fun e w' => e = .returned (.bool true) ∧ Below w.heap.size w w' := by
  have Fa := Lib.hid (fun w => far_yes a w ha y)
  have HB := Lib.hid (Below.refl w.heap.size w)
  clear y
  go_enter Try.func8, Try.ntmps8
  go_wp2_with fail
  refine (Fa.out _).mono ?_
  rintro e w' ⟨rfl, rfl⟩
  go_wp2_with fail
  refine (awake_any _).mono ?_
  rintro e w1 ⟨rfl, hbl⟩
  have HB := Lib.hid (below_of HB.out hbl (Nat.le_refl _))
  clear hbl
  go_wp2_with fail
  go_ret
  exact ⟨by first | rfl | simp [Array.getD], HB.out⟩

set_option maxRecDepth 100000 in
theorem KeysSorted_early1 (a b c : ByteArray) (w : World) (ha : a.size ≤ 9223372036854775807) (hb : b.size ≤ 9223372036854775807) (hc : c.size ≤ 9223372036854775807) (na : ¬ 200 < a.size)  (y : 200 < b.size) :
    Calls Try.prog 8 #[.string a, .string b, .string c] w fun e w' => e = .returned (.bool true) ∧ Below w.heap.size w w' := by
  have Fa := Lib.hid (fun w => far_no a w ha na)
  have Fb := Lib.hid (fun w => far_yes b w hb y)
  have HB := Lib.hid (Below.refl w.heap.size w)
  clear y na
  go_enter Try.func8, Try.ntmps8
  go_wp2_with fail
  refine (Fa.out _).mono ?_
  rintro e w' ⟨rfl, rfl⟩
  go_wp2_with fail
  refine (Fb.out _).mono ?_
  rintro e w' ⟨rfl, rfl⟩
  go_wp2_with fail
  refine (awake_any _).mono ?_
  rintro e w1 ⟨rfl, hbl⟩
  have HB := Lib.hid (below_of HB.out hbl (Nat.le_refl _))
  clear hbl
  go_wp2_with fail
  go_ret
  exact ⟨by first | rfl | simp [Array.getD], HB.out⟩

set_option maxRecDepth 100000 in
theorem KeysSorted_early2 (a b c : ByteArray) (w : World) (ha : a.size ≤ 9223372036854775807) (hb : b.size ≤ 9223372036854775807) (hc : c.size ≤ 9223372036854775807) (na : ¬ 200 < a.size) (nb : ¬ 200 < b.size)  (y : 200 < c.size) :
    Calls Try.prog 8 #[.string a, .string b, .string c] w fun e w' => e = .returned (.bool true) ∧ Below w.heap.size w w' := by
  have Fa := Lib.hid (fun w => far_no a w ha na)
  have Fb := Lib.hid (fun w => far_no b w hb nb)
  have Fc := Lib.hid (fun w => far_yes c w hc y)
  have HB := Lib.hid (Below.refl w.heap.size w)
  clear y na nb
  go_enter Try.func8, Try.ntmps8
  go_wp2_with fail
  refine (Fa.out _).mono ?_
  rintro e w' ⟨rfl, rfl⟩
  go_wp2_with fail
  refine (Fb.out _).mono ?_
  rintro e w' ⟨rfl, rfl⟩
  go_wp2_with fail
  refine (Fc.out _).mono ?_
  rintro e w' ⟨rfl, rfl⟩
  go_wp2_with fail
  refine (awake_any _).mono ?_
  rintro e w1 ⟨rfl, hbl⟩
  have HB := Lib.hid (below_of HB.out hbl (Nat.le_refl _))
  clear hbl
  go_wp2_with fail
  go_ret
  exact ⟨by first | rfl | simp [Array.getD], HB.out⟩

set_option maxRecDepth 100000 in
theorem KeysSorted_early3 (a b c : ByteArray) (w : World) (ha : a.size ≤ 9223372036854775807) (hb : b.size ≤ 9223372036854775807) (hc : c.size ≤ 9223372036854775807) (na : ¬ 200 < a.size) (nb : ¬ 200 < b.size) (nc : ¬ 200 < c.size)  (y : ¬ a.size ≤ 32) :
    Calls Try.prog 8 #[.string a, .string b, .string c] w fun e w' => e = .returned (.bool true) ∧ Below w.heap.size w w' := by
  have Fa := Lib.hid (fun w => far_no a w ha na)
  have Fb := Lib.hid (fun w => far_no b w hb nb)
  have Fc := Lib.hid (fun w => far_no c w hc nc)
  have Ca := Lib.hid (fun w => chk_not a w ha y)
  have HB := Lib.hid (Below.refl w.heap.size w)
  clear y na nb nc
  go_enter Try.func8, Try.ntmps8
  go_wp2_with fail
  refine (Fa.out _).mono ?_
  rintro e w' ⟨rfl, rfl⟩
  go_wp2_with fail
  refine (Fb.out _).mono ?_
  rintro e w' ⟨rfl, rfl⟩
  go_wp2_with fail
  refine (Fc.out _).mono ?_
  rintro e w' ⟨rfl, rfl⟩
  go_wp2_with fail
  refine (Ca.out _).mono ?_
  rintro e w' ⟨rfl, rfl⟩
  go_wp2_with fail
  refine (awake_any _).mono ?_
  rintro e w1 ⟨rfl, hbl⟩
  have HB := Lib.hid (below_of HB.out hbl (Nat.le_refl _))
  clear hbl
  go_wp2_with fail
  go_ret
  exact ⟨by first | rfl | simp [Array.getD], HB.out⟩

set_option maxRecDepth 100000 in
theorem KeysSorted_early4 (a b c : ByteArray) (w : World) (ha : a.size ≤ 9223372036854775807) (hb : b.size ≤ 9223372036854775807) (hc : c.size ≤ 9223372036854775807) (na : ¬ 200 < a.size) (nb : ¬ 200 < b.size) (nc : ¬ 200 < c.size) (ka : a.size ≤ 32) (y : ¬ b.size ≤ 32) :
    Calls Try.prog 8 #[.string a, .string b, .string c] w fun e w' => e = .returned (.bool true) ∧ Below w.heap.size w w' := by
  have Fa := Lib.hid (fun w => far_no a w ha na)
  have Fb := Lib.hid (fun w => far_no b w hb nb)
  have Fc := Lib.hid (fun w => far_no c w hc nc)
  have Ca := Lib.hid (fun w => chk_yes a w ha ka)
  have Cb := Lib.hid (fun w => chk_not b w hb y)
  have HB := Lib.hid (Below.refl w.heap.size w)
  clear y na nb nc ka
  go_enter Try.func8, Try.ntmps8
  go_wp2_with fail
  refine (Fa.out _).mono ?_
  rintro e w' ⟨rfl, rfl⟩
  go_wp2_with fail
  refine (Fb.out _).mono ?_
  rintro e w' ⟨rfl, rfl⟩
  go_wp2_with fail
  refine (Fc.out _).mono ?_
  rintro e w' ⟨rfl, rfl⟩
  go_wp2_with fail
  refine (Ca.out _).mono ?_
  rintro e w' ⟨rfl, rfl⟩
  go_wp2_with fail
  refine (Cb.out _).mono ?_
  rintro e w' ⟨rfl, rfl⟩
  go_wp2_with fail
  refine (awake_any _).mono ?_
  rintro e w1 ⟨rfl, hbl⟩
  have HB := Lib.hid (below_of HB.out hbl (Nat.le_refl _))
  clear hbl
  go_wp2_with fail
  go_ret
  exact ⟨by first | rfl | simp [Array.getD], HB.out⟩

set_option maxRecDepth 100000 in
theorem KeysSorted_early5 (a b c : ByteArray) (w : World) (ha : a.size ≤ 9223372036854775807) (hb : b.size ≤ 9223372036854775807) (hc : c.size ≤ 9223372036854775807) (na : ¬ 200 < a.size) (nb : ¬ 200 < b.size) (nc : ¬ 200 < c.size) (ka : a.size ≤ 32) (kb : b.size ≤ 32) (y : ¬ c.size ≤ 32) :
    Calls Try.prog 8 #[.string a, .string b, .string c] w fun e w' => e = .returned (.bool true) ∧ Below w.heap.size w w' := by
  have Fa := Lib.hid (fun w => far_no a w ha na)
  have Fb := Lib.hid (fun w => far_no b w hb nb)
  have Fc := Lib.hid (fun w => far_no c w hc nc)
  have Ca := Lib.hid (fun w => chk_yes a w ha ka)
  have Cb := Lib.hid (fun w => chk_yes b w hb kb)
  have Cc := Lib.hid (fun w => chk_not c w hc y)
  have HB := Lib.hid (Below.refl w.heap.size w)
  clear y na nb nc ka kb
  go_enter Try.func8, Try.ntmps8
  go_wp2_with fail
  refine (Fa.out _).mono ?_
  rintro e w' ⟨rfl, rfl⟩
  go_wp2_with fail
  refine (Fb.out _).mono ?_
  rintro e w' ⟨rfl, rfl⟩
  go_wp2_with fail
  refine (Fc.out _).mono ?_
  rintro e w' ⟨rfl, rfl⟩
  go_wp2_with fail
  refine (Ca.out _).mono ?_
  rintro e w' ⟨rfl, rfl⟩
  go_wp2_with fail
  refine (Cb.out _).mono ?_
  rintro e w' ⟨rfl, rfl⟩
  go_wp2_with fail
  refine (Cc.out _).mono ?_
  rintro e w' ⟨rfl, rfl⟩
  go_wp2_with fail
  refine (awake_any _).mono ?_
  rintro e w1 ⟨rfl, hbl⟩
  have HB := Lib.hid (below_of HB.out hbl (Nat.le_refl _))
  clear hbl
  go_wp2_with fail
  go_ret
  exact ⟨by first | rfl | simp [Array.getD], HB.out⟩

set_option maxRecDepth 100000 in
set_option maxHeartbeats 1000000 in
theorem KeysSorted_gt (a b c : ByteArray) (w : World) (ka : a.size ≤ 32) (kb : b.size ≤ 32) (kc : c.size ≤ 32) (ho : Kl.ord (Kl.L a) (Kl.L b) = 1) :
    Calls Try.prog 8 #[.string a, .string b, .string c] w fun e w' => e = .returned (.bool true) ∧ Below w.heap.size w w' := by
  have Fa := Lib.hid (fun w => far_no a w (by omega) (by omega))
  have Fb := Lib.hid (fun w => far_no b w (by omega) (by omega))
  have Fc := Lib.hid (fun w => far_no c w (by omega) (by omega))
  have Ca := Lib.hid (fun w => chk_yes a w (by omega) ka)
  have Cb := Lib.hid (fun w => chk_yes b w (by omega) kb)
  have Cc := Lib.hid (fun w => chk_yes c w (by omega) kc)
  have hba : Kl.lt (Kl.L b) (Kl.L a) = true := by
    have := Kl.ord_pos (a := Kl.L a) (b := Kl.L b)
    rw [ho] at this
    simpa using this
  have J1 := Lib.hid (fun w => cmp_key a b w (1) ka kb ho)
  have J2 := Lib.hid (fun w => cmp_key b a w (-1) kb ka (by rw [Kl.ord_swap, ho]; first | done | rfl))
  have J3 := Lib.hid (fun w => cmp_key a a w 0 ka ka (Kl.ord_eq.2 rfl))
  have J4 := Lib.hid (fun w => less_key b a w _ kb ka hba)
  have q1 : (a.toList == b.toList) = false := beq_str a b _ (by rw [ho]; rfl)
  have HB := Lib.hid (Below.refl w.heap.size w)
  clear ho hba
  go_enter Try.func8, Try.ntmps8
  go_wp2_with fail
  refine (Fa.out _).mono ?_
  rintro e w' ⟨rfl, rfl⟩
  go_wp2_with fail
  refine (Fb.out _).mono ?_
  rintro e w' ⟨rfl, rfl⟩
  go_wp2_with fail
  refine (Fc.out _).mono ?_
  rintro e w' ⟨rfl, rfl⟩
  go_wp2_with fail
  refine (Ca.out _).mono ?_
  rintro e w' ⟨rfl, rfl⟩
  go_wp2_with fail
  refine (Cb.out _).mono ?_
  rintro e w' ⟨rfl, rfl⟩
  go_wp2_with fail
  refine (Cc.out _).mono ?_
  rintro e w' ⟨rfl, rfl⟩
  go_wp2_with fail
  refine (J1.out _).mono ?_
  rintro e w1 ⟨rfl, hbl⟩
  have HB := Lib.hid (below_of HB.out hbl (Nat.le_refl _))
  clear hbl
  go_wp2_with fail
  refine (J2.out _).mono ?_
  rintro e w2 ⟨rfl, hbl⟩
  have HB := Lib.hid (below_of HB.out hbl (Nat.le_refl _))
  clear hbl
  go_wp2_with fail
  refine (J3.out _).mono ?_
  rintro e w3 ⟨rfl, hbl⟩
  have HB := Lib.hid (below_of HB.out hbl (Nat.le_refl _))
  clear hbl
  go_wp2_with fail
  refine (J4.out _).mono ?_
  rintro e w4 ⟨rfl, hbl⟩
  have HB := Lib.hid (below_of HB.out hbl (Nat.le_refl _))
  clear hbl
  go_wp2_with fail
  refine (awake_any _).mono ?_
  rintro e w5 ⟨rfl, hbl⟩
  have HB := Lib.hid (below_of HB.out hbl (Nat.le_refl _))
  clear hbl
  go_wp2_with fail
  go_ret
  exact ⟨by first | rfl | simp [Array.getD], HB.out⟩

set_option maxRecDepth 100000 in
set_option maxHeartbeats 1000000 in
theorem KeysSorted_cb1 (a b c : ByteArray) (w : World) (ka : a.size ≤ 32) (kb : b.size ≤ 32) (kc : c.size ≤ 32) (ho : Kl.ord (Kl.L a) (Kl.L b) = -1) (hcb : Kl.lt (Kl.L c) (Kl.L b) = true) :
    Calls Try.prog 8 #[.string a, .string b, .string c] w fun e w' => e = .returned (.bool true) ∧ Below w.heap.size w w' := by
  have Fa := Lib.hid (fun w => far_no a w (by omega) (by omega))
  have Fb := Lib.hid (fun w => far_no b w (by omega) (by omega))
  have Fc := Lib.hid (fun w => far_no c w (by omega) (by omega))
  have Ca := Lib.hid (fun w => chk_yes a w (by omega) ka)
  have Cb := Lib.hid (fun w => chk_yes b w (by omega) kb)
  have Cc := Lib.hid (fun w => chk_yes c w (by omega) kc)
  have hba : Kl.lt (Kl.L b) (Kl.L a) = false := by
    have := Kl.ord_pos (a := Kl.L a) (b := Kl.L b)
    rw [ho] at this
    simpa using this
  have J1 := Lib.hid (fun w => cmp_key a b w (-1) ka kb ho)
  have J2 := Lib.hid (fun w => cmp_key b a w (1) kb ka (by rw [Kl.ord_swap, ho]; first | done | rfl))
  have J3 := Lib.hid (fun w => cmp_key a a w 0 ka ka (Kl.ord_eq.2 rfl))
  have J4 := Lib.hid (fun w => less_key b a w _ kb ka hba)
  have q1 : (a.toList == b.toList) = false := beq_str a b _ (by rw [ho]; rfl)
  have J5 := Lib.hid (fun w => less_key c b w _ kc kb hcb)
  have HB := Lib.hid (Below.refl w.heap.size w)
  clear ho hba hcb
  go_enter Try.func8, Try.ntmps8
  go_wp2_with fail
  refine (Fa.out _).mono ?_
  rintro e w' ⟨rfl, rfl⟩
  go_wp2_with fail
  refine (Fb.out _).mono ?_
  rintro e w' ⟨rfl, rfl⟩
  go_wp2_with fail
  refine (Fc.out _).mono ?_
  rintro e w' ⟨rfl, rfl⟩
  go_wp2_with fail
  refine (Ca.out _).mono ?_
  rintro e w' ⟨rfl, rfl⟩
  go_wp2_with fail
  refine (Cb.out _).mono ?_
  rintro e w' ⟨rfl, rfl⟩
  go_wp2_with fail
  refine (Cc.out _).mono ?_
  rintro e w' ⟨rfl, rfl⟩
  go_wp2_with fail
  refine (J1.out _).mono ?_
  rintro e w1 ⟨rfl, hbl⟩
  have HB := Lib.hid (below_of HB.out hbl (Nat.le_refl _))
  clear hbl
  go_wp2_with fail
  refine (J2.out _).mono ?_
  rintro e w2 ⟨rfl, hbl⟩
  have HB := Lib.hid (below_of HB.out hbl (Nat.le_refl _))
  clear hbl
  go_wp2_with fail
  refine (J3.out _).mono ?_
  rintro e w3 ⟨rfl, hbl⟩
  have HB := Lib.hid (below_of HB.out hbl (Nat.le_refl _))
  clear hbl
  go_wp2_with fail
  refine (J4.out _).mono ?_
  rintro e w4 ⟨rfl, hbl⟩
  have HB := Lib.hid (below_of HB.out hbl (Nat.le_refl _))
  clear hbl
  go_wp2_with fail
  refine (J5.out _).mono ?_
  rintro e w5 ⟨rfl, hbl⟩
  have HB := Lib.hid (below_of HB.out hbl (Nat.le_refl _))
  clear hbl
  go_wp2_with fail
  refine (awake_any _).mono ?_
  rintro e w6 ⟨rfl, hbl⟩
  have HB := Lib.hid (below_of HB.out hbl (Nat.le_refl _))
  clear hbl
  go_wp2_with fail
  go_ret
  exact ⟨by first | rfl | simp [Array.getD], HB.out⟩

set_option maxRecDepth 100000 in
set_option maxHeartbeats 1000000 in
theorem KeysSorted_cb0 (a b c : ByteArray) (w : World) (ka : a.size ≤ 32) (kb : b.size ≤ 32) (kc : c.size ≤ 32) (ho : Kl.ord (Kl.L a) (Kl.L b) = 0) (hcb : Kl.lt (Kl.L c) (Kl.L b) = true) :
    Calls Try.prog 8 #[.string a, .string b, .string c] w fun e w' => e = .returned (.bool true) ∧ Below w.heap.size w w' := by
  have Fa := Lib.hid (fun w => far_no a w (by omega) (by omega))
  have Fb := Lib.hid (fun w => far_no b w (by omega) (by omega))
  have Fc := Lib.hid (fun w => far_no c w (by omega) (by omega))
  have Ca := Lib.hid (fun w => chk_yes a w (by omega) ka)
  have Cb := Lib.hid (fun w => chk_yes b w (by omega) kb)
  have Cc := Lib.hid (fun w => chk_yes c w (by omega) kc)
  have hba : Kl.lt (Kl.L b) (Kl.L a) = false := by
    have := Kl.ord_pos (a := Kl.L a) (b := Kl.L b)
    rw [ho] at this
    simpa using this
  have J1 := Lib.hid (fun w => cmp_key a b w (0) ka kb ho)
  have J2 := Lib.hid (fun w => cmp_key b a w (0) kb ka (by rw [Kl.ord_swap, ho]; first | done | rfl))
  have J3 := Lib.hid (fun w => cmp_key a a w 0 ka ka (Kl.ord_eq.2 rfl))
  have J4 := Lib.hid (fun w => less_key b a w _ kb ka hba)
  have q1 : (a.toList == b.toList) = true := beq_str a b _ (by rw [ho]; rfl)
  have J5 := Lib.hid (fun w => less_key c b w _ kc kb hcb)
  have HB := Lib.hid (Below.refl w.heap.size w)
  clear ho hba hcb
  go_enter Try.func8, Try.ntmps8
  go_wp2_with fail
  refine (Fa.out _).mono ?_
  rintro e w' ⟨rfl, rfl⟩
  go_wp2_with fail
  refine (Fb.out _).mono ?_
  rintro e w' ⟨rfl, rfl⟩
  go_wp2_with fail
  refine (Fc.out _).mono ?_
  rintro e w' ⟨rfl, rfl⟩
  go_wp2_with fail
  refine (Ca.out _).mono ?_
  rintro e w' ⟨rfl, rfl⟩
  go_wp2_with fail
  refine (Cb.out _).mono ?_
  rintro e w' ⟨rfl, rfl⟩
  go_wp2_with fail
  refine (Cc.out _).mono ?_
  rintro e w' ⟨rfl, rfl⟩
  go_wp2_with fail
  refine (J1.out _).mono ?_
  rintro e w1 ⟨rfl, hbl⟩
  have HB := Lib.hid (below_of HB.out hbl (Nat.le_refl _))
  clear hbl
  go_wp2_with fail
  refine (J2.out _).mono ?_
  rintro e w2 ⟨rfl, hbl⟩
  have HB := Lib.hid (below_of HB.out hbl (Nat.le_refl _))
  clear hbl
  go_wp2_with fail
  refine (J3.out _).mono ?_
  rintro e w3 ⟨rfl, hbl⟩
  have HB := Lib.hid (below_of HB.out hbl (Nat.le_refl _))
  clear hbl
  go_wp2_with fail
  refine (J4.out _).mono ?_
  rintro e w4 ⟨rfl, hbl⟩
  have HB := Lib.hid (below_of HB.out hbl (Nat.le_refl _))
  clear hbl
  go_wp2_with fail
  refine (J5.out _).mono ?_
  rintro e w5 ⟨rfl, hbl⟩
  have HB := Lib.hid (below_of HB.out hbl (Nat.le_refl _))
  clear hbl
  go_wp2_with fail
  refine (awake_any _).mono ?_
  rintro e w6 ⟨rfl, hbl⟩
  have HB := Lib.hid (below_of HB.out hbl (Nat.le_refl _))
  clear hbl
  go_wp2_with fail
  go_ret
  exact ⟨by first | rfl | simp [Array.getD], HB.out⟩

set_option maxRecDepth 100000 in
set_option maxHeartbeats 1000000 in
theorem KeysSorted_main1 (a b c : ByteArray) (w : World) (ka : a.size ≤ 32) (kb : b.size ≤ 32) (kc : c.size ≤ 32) (ho : Kl.ord (Kl.L a) (Kl.L b) = -1) (hcb : Kl.lt (Kl.L c) (Kl.L b) = false) :
    Calls Try.prog 8 #[.string a, .string b, .string c] w fun e w' => e = .returned (.bool true) ∧ Below w.heap.size w w' := by
  have Fa := Lib.hid (fun w => far_no a w (by omega) (by omega))
  have Fb := Lib.hid (fun w => far_no b w (by omega) (by omega))
  have Fc := Lib.hid (fun w => far_no c w (by omega) (by omega))
  have Ca := Lib.hid (fun w => chk_yes a w (by omega) ka)
  have Cb := Lib.hid (fun w => chk_yes b w (by omega) kb)
  have Cc := Lib.hid (fun w => chk_yes c w (by omega) kc)
  have hba : Kl.lt (Kl.L b) (Kl.L a) = false := by
    have := Kl.ord_pos (a := Kl.L a) (b := Kl.L b)
    rw [ho] at this
    simpa using this
  have J1 := Lib.hid (fun w => cmp_key a b w (-1) ka kb ho)
  have J2 := Lib.hid (fun w => cmp_key b a w (1) kb ka (by rw [Kl.ord_swap, ho]; first | done | rfl))
  have J3 := Lib.hid (fun w => cmp_key a a w 0 ka ka (Kl.ord_eq.2 rfl))
  have J4 := Lib.hid (fun w => less_key b a w _ kb ka hba)
  have q1 : (a.toList == b.toList) = false := beq_str a b _ (by rw [ho]; rfl)
  have J5 := Lib.hid (fun w => less_key c b w _ kc kb hcb)
  have J6 := Lib.hid (fun w => less_key c a w false kc ka (Kl.le_le hba hcb))
  have h3 := Kl.cm_three (Kl.L a) (Kl.L b) (Kl.L c) hba hcb
  obtain ⟨x, hx⟩ : ∃ x, Kl.cm (Kl.L a) (Kl.L b) = x := ⟨_, rfl⟩
  obtain ⟨y, hy⟩ : ∃ x, Kl.cm (Kl.L b) (Kl.L c) = x := ⟨_, rfl⟩
  have lx := (Kl.cm_le (Kl.L a) (Kl.L b)).1
  have ly := (Kl.cm_le (Kl.L b) (Kl.L c)).1
  rw [hx, Kl.L_length] at lx
  rw [hy, Kl.L_length] at ly
  rw [hx, hy] at h3
  have J7 := Lib.hid (fun w => com_key a b w x ka kb hx)
  have J8 := Lib.hid (fun w => com_key b c w y kb kc hy)
  have J9 := Lib.hid (fun w => com_key a c w (min x y) ka kc h3)
  have HM := Lib.hid (Nat.le_total x y)
  clear hx hy h3
  have HB := Lib.hid (Below.refl w.heap.size w)
  clear ho hba hcb
  go_enter Try.func8, Try.ntmps8
  go_wp2_with fail
  refine (Fa.out _).mono ?_
  rintro e w' ⟨rfl, rfl⟩
  go_wp2_with fail
  refine (Fb.out _).mono ?_
  rintro e w' ⟨rfl, rfl⟩
  go_wp2_with fail
  refine (Fc.out _).mono ?_
  rintro e w' ⟨rfl, rfl⟩
  go_wp2_with fail
  refine (Ca.out _).mono ?_
  rintro e w' ⟨rfl, rfl⟩
  go_wp2_with fail
  refine (Cb.out _).mono ?_
  rintro e w' ⟨rfl, rfl⟩
  go_wp2_with fail
  refine (Cc.out _).mono ?_
  rintro e w' ⟨rfl, rfl⟩
  go_wp2_with fail
  refine (J1.out _).mono ?_
  rintro e w1 ⟨rfl, hbl⟩
  have HB := Lib.hid (below_of HB.out hbl (Nat.le_refl _))
  clear hbl
  go_wp2_with fail
  refine (J2.out _).mono ?_
  rintro e w2 ⟨rfl, hbl⟩
  have HB := Lib.hid (below_of HB.out hbl (Nat.le_refl _))
  clear hbl
  go_wp2_with fail
  refine (J3.out _).mono ?_
  rintro e w3 ⟨rfl, hbl⟩
  have HB := Lib.hid (below_of HB.out hbl (Nat.le_refl _))
  clear hbl
  go_wp2_with fail
  refine (J4.out _).mono ?_
  rintro e w4 ⟨rfl, hbl⟩
  have HB := Lib.hid (below_of HB.out hbl (Nat.le_refl _))
  clear hbl
  go_wp2_with fail
  refine (J5.out _).mono ?_
  rintro e w5 ⟨rfl, hbl⟩
  have HB := Lib.hid (below_of HB.out hbl (Nat.le_refl _))
  clear hbl
  go_wp2_with fail
  refine (J6.out _).mono ?_
  rintro e w6 ⟨rfl, hbl⟩
  have HB := Lib.hid (below_of HB.out hbl (Nat.le_refl _))
  clear hbl
  go_wp2_with fail
  refine (J7.out _).mono ?_
  rintro e w7 ⟨rfl, hbl⟩
  have HB := Lib.hid (below_of HB.out hbl (Nat.le_refl _))
  clear hbl
  go_wp2_with fail
  refine (J8.out _).mono ?_
  rintro e w8 ⟨rfl, hbl⟩
  have HB := Lib.hid (below_of HB.out hbl (Nat.le_refl _))
  clear hbl
  go_wp2_with fail
  refine (J9.out _).mono ?_
  rintro e w9 ⟨rfl, hbl⟩
  have HB := Lib.hid (below_of HB.out hbl (Nat.le_refl _))
  clear hbl
  rcases HM.out with hxy | hxy
  · have e1 : min x y = x := Nat.min_eq_left hxy
    have e2 : min (x : Int) (y : Int) = x := by omega
    rw [e1]
    clear e1
    go_wp2_with fail
    refine (awake_any _).mono ?_
    rintro e w10 ⟨rfl, hbl⟩
    have HB := Lib.hid (below_of HB.out hbl (Nat.le_refl _))
    clear hbl
    go_wp2_with fail
    go_ret
    exact ⟨by first | rfl | simp [Array.getD], HB.out⟩
  · have e1 : min x y = y := Nat.min_eq_right hxy
    have e2 : min (x : Int) (y : Int) = y := by omega
    rw [e1]
    clear e1
    go_wp2_with fail
    refine (awake_any _).mono ?_
    rintro e w10 ⟨rfl, hbl⟩
    have HB := Lib.hid (below_of HB.out hbl (Nat.le_refl _))
    clear hbl
    go_wp2_with fail
    go_ret
    exact ⟨by first | rfl | simp [Array.getD], HB.out⟩

set_option maxRecDepth 100000 in
set_option maxHeartbeats 1000000 in
theorem KeysSorted_main0 (a b c : ByteArray) (w : World) (ka : a.size ≤ 32) (kb : b.size ≤ 32) (kc : c.size ≤ 32) (ho : Kl.ord (Kl.L a) (Kl.L b) = 0) (hcb : Kl.lt (Kl.L c) (Kl.L b) = false) :
    Calls Try.prog 8 #[.string a, .string b, .string c] w fun e w' => e = .returned (.bool true) ∧ Below w.heap.size w w' := by
  have Fa := Lib.hid (fun w => far_no a w (by omega) (by omega))
  have Fb := Lib.hid (fun w => far_no b w (by omega) (by omega))
  have Fc := Lib.hid (fun w => far_no c w (by omega) (by omega))
  have Ca := Lib.hid (fun w => chk_yes a w (by omega) ka)
  have Cb := Lib.hid (fun w => chk_yes b w (by omega) kb)
  have Cc := Lib.hid (fun w => chk_yes c w (by omega) kc)
  have hba : Kl.lt (Kl.L b) (Kl.L a) = false := by
    have := Kl.ord_pos (a := Kl.L a) (b := Kl.L b)
    rw [ho] at this
    simpa using this
  have J1 := Lib.hid (fun w => cmp_key a b w (0) ka kb ho)
  have J2 := Lib.hid (fun w => cmp_key b a w (0) kb ka (by rw [Kl.ord_swap, ho]; first | done | rfl))
  have J3 := Lib.hid (fun w => cmp_key a a w 0 ka ka (Kl.ord_eq.2 rfl))
  have J4 := Lib.hid (fun w => less_key b a w _ kb ka hba)
  have q1 : (a.toList == b.toList) = true := beq_str a b _ (by rw [ho]; rfl)
  have J5 := Lib.hid (fun w => less_key c b w _ kc kb hcb)
  have J6 := Lib.hid (fun w => less_key c a w false kc ka (Kl.le_le hba hcb))
  have h3 := Kl.cm_three (Kl.L a) (Kl.L b) (Kl.L c) hba hcb
  obtain ⟨x, hx⟩ : ∃ x, Kl.cm (Kl.L a) (Kl.L b) = x := ⟨_, rfl⟩
  obtain ⟨y, hy⟩ : ∃ x, Kl.cm (Kl.L b) (Kl.L c) = x := ⟨_, rfl⟩
  have lx := (Kl.cm_le (Kl.L a) (Kl.L b)).1
  have ly := (Kl.cm_le (Kl.L b) (Kl.L c)).1
  rw [hx, Kl.L_length] at lx
  rw [hy, Kl.L_length] at ly
  rw [hx, hy] at h3
  have J7 := Lib.hid (fun w => com_key a b w x ka kb hx)
  have J8 := Lib.hid (fun w => com_key b c w y kb kc hy)
  have J9 := Lib.hid (fun w => com_key a c w (min x y) ka kc h3)
  have HM := Lib.hid (Nat.le_total x y)
  clear hx hy h3
  have HB := Lib.hid (Below.refl w.heap.size w)
  clear ho hba hcb
  go_enter Try.func8, Try.ntmps8
  go_wp2_with fail
  refine (Fa.out _).mono ?_
  rintro e w' ⟨rfl, rfl⟩
  go_wp2_with fail
  refine (Fb.out _).mono ?_
  rintro e w' ⟨rfl, rfl⟩
  go_wp2_with fail
  refine (Fc.out _).mono ?_
  rintro e w' ⟨rfl, rfl⟩
  go_wp2_with fail
  refine (Ca.out _).mono ?_
  rintro e w' ⟨rfl, rfl⟩
  go_wp2_with fail
  refine (Cb.out _).mono ?_
  rintro e w' ⟨rfl, rfl⟩
  go_wp2_with fail
  refine (Cc.out _).mono ?_
  rintro e w' ⟨rfl, rfl⟩
  go_wp2_with fail
  refine (J1.out _).mono ?_
  rintro e w1 ⟨rfl, hbl⟩
  have HB := Lib.hid (below_of HB.out hbl (Nat.le_refl _))
  clear hbl
  go_wp2_with fail
  refine (J2.out _).mono ?_
  rintro e w2 ⟨rfl, hbl⟩
  have HB := Lib.hid (below_of HB.out hbl (Nat.le_refl _))
  clear hbl
  go_wp2_with fail
  refine (J3.out _).mono ?_
  rintro e w3 ⟨rfl, hbl⟩
  have HB := Lib.hid (below_of HB.out hbl (Nat.le_refl _))
  clear hbl
  go_wp2_with fail
  refine (J4.out _).mono ?_
  rintro e w4 ⟨rfl, hbl⟩
  have HB := Lib.hid (below_of HB.out hbl (Nat.le_refl _))
  clear hbl
  go_wp2_with fail
  refine (J5.out _).mono ?_
  rintro e w5 ⟨rfl, hbl⟩
  have HB := Lib.hid (below_of HB.out hbl (Nat.le_refl _))
  clear hbl
  go_wp2_with fail
  refine (J6.out _).mono ?_
  rintro e w6 ⟨rfl, hbl⟩
  have HB := Lib.hid (below_of HB.out hbl (Nat.le_refl _))
  clear hbl
  go_wp2_with fail
  refine (J7.out _).mono ?_
  rintro e w7 ⟨rfl, hbl⟩
  have HB := Lib.hid (below_of HB.out hbl (Nat.le_refl _))
  clear hbl
  go_wp2_with fail
  refine (J8.out _).mono ?_
  rintro e w8 ⟨rfl, hbl⟩
  have HB := Lib.hid (below_of HB.out hbl (Nat.le_refl _))
  clear hbl
  go_wp2_with fail
  refine (J9.out _).mono ?_
  rintro e w9 ⟨rfl, hbl⟩
  have HB := Lib.hid (below_of HB.out hbl (Nat.le_refl _))
  clear hbl
  rcases HM.out with hxy | hxy
  · have e1 : min x y = x := Nat.min_eq_left hxy
    have e2 : min (x : Int) (y : Int) = x := by omega
    rw [e1]
    clear e1
    go_wp2_with fail
    refine (awake_any _).mono ?_
    rintro e w10 ⟨rfl, hbl⟩
    have HB := Lib.hid (below_of HB.out hbl (Nat.le_refl _))
    clear hbl
    go_wp2_with fail
    go_ret
    exact ⟨by first | rfl | simp [Array.getD], HB.out⟩
  · have e1 : min x y = y := Nat.min_eq_right hxy
    have e2 : min (x : Int) (y : Int) = y := by omega
    rw [e1]
    clear e1
    go_wp2_with fail
    refine (awake_any _).mono ?_
    rintro e w10 ⟨rfl, hbl⟩
    have HB := Lib.hid (below_of HB.out hbl (Nat.le_refl _))
    clear hbl
    go_wp2_with fail
    go_ret
    exact ⟨by first | rfl | simp [Array.getD], HB.out⟩

theorem KeysSorted_main (a b c : ByteArray) (w : World) (ka : a.size ≤ 32) (kb : b.size ≤ 32) (kc : c.size ≤ 32) :
    Calls Try.prog 8 #[.string a, .string b, .string c] w fun e w' => e = .returned (.bool true) ∧ Below w.heap.size w w' := by
  have hr := Kl.ord_range (Kl.L a) (Kl.L b)
  rcases (show Kl.ord (Kl.L a) (Kl.L b) = -1 ∨ Kl.ord (Kl.L a) (Kl.L b) = 0 ∨ Kl.ord (Kl.L a) (Kl.L b) = 1 by omega) with ho | ho | ho
  · cases h : Kl.lt (Kl.L c) (Kl.L b)
    · exact KeysSorted_main1 a b c w ka kb kc ho h
    · exact KeysSorted_cb1 a b c w ka kb kc ho h
  · cases h : Kl.lt (Kl.L c) (Kl.L b)
    · exact KeysSorted_main0 a b c w ka kb kc ho h
    · exact KeysSorted_cb0 a b c w ka kb kc ho h
  · exact KeysSorted_gt a b c w ka kb kc ho

theorem KeysSorted_any (a b c : ByteArray) (w : World) (ha : a.size ≤ 9223372036854775807) (hb : b.size ≤ 9223372036854775807) (hc : c.size ≤ 9223372036854775807) :
    Calls Try.prog 8 #[.string a, .string b, .string c] w fun e w' => e = .returned (.bool true) ∧ Below w.heap.size w w' := by
  by_cases na : 200 < a.size
  · exact KeysSorted_early0 a b c w ha hb hc na
  by_cases nb : 200 < b.size
  · exact KeysSorted_early1 a b c w ha hb hc na nb
  by_cases nc : 200 < c.size
  · exact KeysSorted_early2 a b c w ha hb hc na nb nc
  by_cases ka : a.size ≤ 32
  rotate_left
  · exact KeysSorted_early3 a b c w ha hb hc na nb nc ka
  by_cases kb : b.size ≤ 32
  rotate_left
  · exact KeysSorted_early4 a b c w ha hb hc na nb nc ka kb
  by_cases kc : c.size ≤ 32
  rotate_left
  · exact KeysSorted_early5 a b c w ha hb hc na nb nc ka kb kc
  exact KeysSorted_main a b c w ka kb kc
end Go.Proofs.Ytgljgjkoaaibnaa.KK
