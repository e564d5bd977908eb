/-
  The walk of KeysLeast.
-/
import Derived.Test.YtgljgjkoaaibnaaLb
import Derived.Deep.DeepCutAuto
namespace Go.Proofs.Ytgljgjkoaaibnaa.KK
open Go.ChangeShapes Go.WideShapes Go.ChangeAt Go.RowKit Go.Proofs

theorem next_law {a c : List UInt8} (ha : a.length ≤ 32) (hc : c.length ≤ 32) :
    (∃ n, nextE a = (0, n) ∧ n.length ≤ 32 ∧ Kl.lt a n = true ∧ (Kl.lt a c = true → Kl.lt c n = false)) ∨ (nextE a = (9, []) ∧ Kl.lt a c = false) := by
  unfold nextE
  rw [if_neg (by omega)]
  by_cases h : a.length < 32
  · left
    rw [if_pos h]
    exact ⟨_, rfl, by simp; omega, Kl.zero_above a, fun g => Kl.zero_least a c g⟩
  · rw [if_neg h]
    cases hr : Kl.rai a with
    | none => exact .inr ⟨rfl, Kl.rai_greatest hr (by omega)⟩
    | some p =>
      have := Kl.rai_length hr
      exact .inl ⟨p, rfl, by omega, Kl.rai_above hr, fun g => Kl.rai_least hr (by omega) g⟩
theorem pre_bool {a c : List UInt8} {v : Bool} (h : a <+: c ↔ v = true) : a.isPrefixOf c = v := by
  rw [Bool.eq_iff_iff, List.isPrefixOf_iff_prefix]; exact h
theorem past_law {a c : List UInt8} (ha : a.length ≤ 32) :
    (∃ p, pastE a = (0, p) ∧ p.length ≤ 32 ∧ a.isPrefixOf c = (!Kl.lt c a && Kl.lt c p)) ∨ (pastE a = (4, []) ∧ a.isPrefixOf c = !Kl.lt c a) := by
  unfold pastE
  rw [if_neg (by omega)]
  cases hr : Kl.rai a with
  | none => exact .inr ⟨rfl, pre_bool (by rw [Kl.rai_none hr c]; simp)⟩
  | some p =>
    have := Kl.rai_length hr
    exact .inl ⟨p, rfl, by omega, pre_bool (by rw [Kl.rai_some hr c]; simp)⟩
theorem pre_take {a c : ByteArray} (h : a.size ≤ c.size) : ((c.extract 0 a.size).toList == a.toList) = (Kl.L a).isPrefixOf (Kl.L c) := by
  rw [toList_L', toList_L', L_ext]
  rw [Bool.eq_iff_iff, beq_iff_eq, List.isPrefixOf_iff_prefix, List.prefix_iff_eq_take, Kl.L_length]
  exact ⟨Eq.symm, Eq.symm⟩
theorem pre_short {a c : ByteArray} (h : ¬ a.size ≤ c.size) : (Kl.L a).isPrefixOf (Kl.L c) = false := by
  rw [Bool.eq_false_iff]
  intro hp
  have := (List.isPrefixOf_iff_prefix.1 hp).length_le
  rw [Kl.L_length, Kl.L_length] at this
  omega
theorem next_key (a : ByteArray) (w : World) (e : Int) (n : List UInt8) (ha : a.size ≤ 32) (h : nextE (Kl.L a) = (e, n)) :
    Calls Try.prog 19 #[.string a] w fun e' w' => e' = .returned (.tuple #[.string ⟨n.toArray⟩, .int .i64 e]) ∧ Below w.heap.size w w' := by
  have := kNext_any a w (by omega)
  rwa [h] at this
theorem past_key (a : ByteArray) (w : World) (e : Int) (n : List UInt8) (ha : a.size ≤ 32) (h : pastE (Kl.L a) = (e, n)) :
    Calls Try.prog 21 #[.string a] w fun e' w' => e' = .returned (.tuple #[.string ⟨n.toArray⟩, .int .i64 e]) ∧ Below w.heap.size w w' := by
  have := kPast_any a w (by omega)
  rwa [h] at this
theorem btw_key (a b : ByteArray) (w : World) (e : Int) (n : List UInt8) (ha : a.size ≤ 32) (hb : b.size ≤ 32) (h : btwE (Kl.L a) (Kl.L b) = (e, n)) :
    Calls Try.prog 23 #[.string a, .string b] w fun e' w' => e' = .returned (.tuple #[.string ⟨n.toArray⟩, .int .i64 e]) ∧ Below w.heap.size w w' := by
  have := kBetween_any a b w (by omega) (by omega)
  rwa [h] at this

set_option maxRecDepth 100000 in
theorem KeysLeast_early0 (a b c : ByteArray) (w : World) (ha : a.size ≤ 9223372036854775807) (hb : b.size ≤ 9223372036854775807) (hc : c.size ≤ 9223372036854775807)   (y : 200 < a.size) :
    Calls Try.prog 7 #[.string a, .string b, .string c] w fun e w' => e = .returned (.bool true) ∧ Below w.heap.size w w' := by
  have Fa := Lib.hid (fun w => far_yes a w ha y)
  have HB := Lib.hid (Below.refl w.heap.size w)
  clear y
  go_enter Try.func7, Try.ntmps7
  go_wp2_with fail
  refine (Fa.out _).mono ?_
  rintro e w' ⟨rfl, rfl⟩
  go_wp2_with fail
  refine (awake_any _).mono ?_
  rintro e w1 ⟨rfl, hbl⟩
  have HB := Lib.hid (below_of HB.out hbl (Nat.le_refl _))
  clear hbl
  go_wp2_with fail
  go_ret
  exact ⟨by first | rfl | simp [Array.getD], HB.out⟩

set_option maxRecDepth 100000 in
theorem KeysLeast_early1 (a b c : ByteArray) (w : World) (ha : a.size ≤ 9223372036854775807) (hb : b.size ≤ 9223372036854775807) (hc : c.size ≤ 9223372036854775807) (na : ¬ 200 < a.size)  (y : 200 < b.size) :
    Calls Try.prog 7 #[.string a, .string b, .string c] w fun e w' => e = .returned (.bool true) ∧ Below w.heap.size w w' := by
  have Fa := Lib.hid (fun w => far_no a w ha na)
  have Fb := Lib.hid (fun w => far_yes b w hb y)
  have HB := Lib.hid (Below.refl w.heap.size w)
  clear y na
  go_enter Try.func7, Try.ntmps7
  go_wp2_with fail
  refine (Fa.out _).mono ?_
  rintro e w' ⟨rfl, rfl⟩
  go_wp2_with fail
  refine (Fb.out _).mono ?_
  rintro e w' ⟨rfl, rfl⟩
  go_wp2_with fail
  refine (awake_any _).mono ?_
  rintro e w1 ⟨rfl, hbl⟩
  have HB := Lib.hid (below_of HB.out hbl (Nat.le_refl _))
  clear hbl
  go_wp2_with fail
  go_ret
  exact ⟨by first | rfl | simp [Array.getD], HB.out⟩

set_option maxRecDepth 100000 in
theorem KeysLeast_early2 (a b c : ByteArray) (w : World) (ha : a.size ≤ 9223372036854775807) (hb : b.size ≤ 9223372036854775807) (hc : c.size ≤ 9223372036854775807) (na : ¬ 200 < a.size) (nb : ¬ 200 < b.size)  (y : 200 < c.size) :
    Calls Try.prog 7 #[.string a, .string b, .string c] w fun e w' => e = .returned (.bool true) ∧ Below w.heap.size w w' := by
  have Fa := Lib.hid (fun w => far_no a w ha na)
  have Fb := Lib.hid (fun w => far_no b w hb nb)
  have Fc := Lib.hid (fun w => far_yes c w hc y)
  have HB := Lib.hid (Below.refl w.heap.size w)
  clear y na nb
  go_enter Try.func7, Try.ntmps7
  go_wp2_with fail
  refine (Fa.out _).mono ?_
  rintro e w' ⟨rfl, rfl⟩
  go_wp2_with fail
  refine (Fb.out _).mono ?_
  rintro e w' ⟨rfl, rfl⟩
  go_wp2_with fail
  refine (Fc.out _).mono ?_
  rintro e w' ⟨rfl, rfl⟩
  go_wp2_with fail
  refine (awake_any _).mono ?_
  rintro e w1 ⟨rfl, hbl⟩
  have HB := Lib.hid (below_of HB.out hbl (Nat.le_refl _))
  clear hbl
  go_wp2_with fail
  go_ret
  exact ⟨by first | rfl | simp [Array.getD], HB.out⟩

set_option maxRecDepth 100000 in
theorem KeysLeast_early3 (a b c : ByteArray) (w : World) (ha : a.size ≤ 9223372036854775807) (hb : b.size ≤ 9223372036854775807) (hc : c.size ≤ 9223372036854775807) (na : ¬ 200 < a.size) (nb : ¬ 200 < b.size) (nc : ¬ 200 < c.size)  (y : ¬ a.size ≤ 32) :
    Calls Try.prog 7 #[.string a, .string b, .string c] w fun e w' => e = .returned (.bool true) ∧ Below w.heap.size w w' := by
  have Fa := Lib.hid (fun w => far_no a w ha na)
  have Fb := Lib.hid (fun w => far_no b w hb nb)
  have Fc := Lib.hid (fun w => far_no c w hc nc)
  have Ca := Lib.hid (fun w => chk_not a w ha y)
  have HB := Lib.hid (Below.refl w.heap.size w)
  clear y na nb nc
  go_enter Try.func7, Try.ntmps7
  go_wp2_with fail
  refine (Fa.out _).mono ?_
  rintro e w' ⟨rfl, rfl⟩
  go_wp2_with fail
  refine (Fb.out _).mono ?_
  rintro e w' ⟨rfl, rfl⟩
  go_wp2_with fail
  refine (Fc.out _).mono ?_
  rintro e w' ⟨rfl, rfl⟩
  go_wp2_with fail
  refine (Ca.out _).mono ?_
  rintro e w' ⟨rfl, rfl⟩
  go_wp2_with fail
  refine (awake_any _).mono ?_
  rintro e w1 ⟨rfl, hbl⟩
  have HB := Lib.hid (below_of HB.out hbl (Nat.le_refl _))
  clear hbl
  go_wp2_with fail
  go_ret
  exact ⟨by first | rfl | simp [Array.getD], HB.out⟩

set_option maxRecDepth 100000 in
theorem KeysLeast_early4 (a b c : ByteArray) (w : World) (ha : a.size ≤ 9223372036854775807) (hb : b.size ≤ 9223372036854775807) (hc : c.size ≤ 9223372036854775807) (na : ¬ 200 < a.size) (nb : ¬ 200 < b.size) (nc : ¬ 200 < c.size) (ka : a.size ≤ 32) (y : ¬ b.size ≤ 32) :
    Calls Try.prog 7 #[.string a, .string b, .string c] w fun e w' => e = .returned (.bool true) ∧ Below w.heap.size w w' := by
  have Fa := Lib.hid (fun w => far_no a w ha na)
  have Fb := Lib.hid (fun w => far_no b w hb nb)
  have Fc := Lib.hid (fun w => far_no c w hc nc)
  have Ca := Lib.hid (fun w => chk_yes a w ha ka)
  have Cb := Lib.hid (fun w => chk_not b w hb y)
  have HB := Lib.hid (Below.refl w.heap.size w)
  clear y na nb nc ka
  go_enter Try.func7, Try.ntmps7
  go_wp2_with fail
  refine (Fa.out _).mono ?_
  rintro e w' ⟨rfl, rfl⟩
  go_wp2_with fail
  refine (Fb.out _).mono ?_
  rintro e w' ⟨rfl, rfl⟩
  go_wp2_with fail
  refine (Fc.out _).mono ?_
  rintro e w' ⟨rfl, rfl⟩
  go_wp2_with fail
  refine (Ca.out _).mono ?_
  rintro e w' ⟨rfl, rfl⟩
  go_wp2_with fail
  refine (Cb.out _).mono ?_
  rintro e w' ⟨rfl, rfl⟩
  go_wp2_with fail
  refine (awake_any _).mono ?_
  rintro e w1 ⟨rfl, hbl⟩
  have HB := Lib.hid (below_of HB.out hbl (Nat.le_refl _))
  clear hbl
  go_wp2_with fail
  go_ret
  exact ⟨by first | rfl | simp [Array.getD], HB.out⟩

set_option maxRecDepth 100000 in
theorem KeysLeast_early5 (a b c : ByteArray) (w : World) (ha : a.size ≤ 9223372036854775807) (hb : b.size ≤ 9223372036854775807) (hc : c.size ≤ 9223372036854775807) (na : ¬ 200 < a.size) (nb : ¬ 200 < b.size) (nc : ¬ 200 < c.size) (ka : a.size ≤ 32) (kb : b.size ≤ 32) (y : ¬ c.size ≤ 32) :
    Calls Try.prog 7 #[.string a, .string b, .string c] w fun e w' => e = .returned (.bool true) ∧ Below w.heap.size w w' := by
  have Fa := Lib.hid (fun w => far_no a w ha na)
  have Fb := Lib.hid (fun w => far_no b w hb nb)
  have Fc := Lib.hid (fun w => far_no c w hc nc)
  have Ca := Lib.hid (fun w => chk_yes a w ha ka)
  have Cb := Lib.hid (fun w => chk_yes b w hb kb)
  have Cc := Lib.hid (fun w => chk_not c w hc y)
  have HB := Lib.hid (Below.refl w.heap.size w)
  clear y na nb nc ka kb
  go_enter Try.func7, Try.ntmps7
  go_wp2_with fail
  refine (Fa.out _).mono ?_
  rintro e w' ⟨rfl, rfl⟩
  go_wp2_with fail
  refine (Fb.out _).mono ?_
  rintro e w' ⟨rfl, rfl⟩
  go_wp2_with fail
  refine (Fc.out _).mono ?_
  rintro e w' ⟨rfl, rfl⟩
  go_wp2_with fail
  refine (Ca.out _).mono ?_
  rintro e w' ⟨rfl, rfl⟩
  go_wp2_with fail
  refine (Cb.out _).mono ?_
  rintro e w' ⟨rfl, rfl⟩
  go_wp2_with fail
  refine (Cc.out _).mono ?_
  rintro e w' ⟨rfl, rfl⟩
  go_wp2_with fail
  refine (awake_any _).mono ?_
  rintro e w1 ⟨rfl, hbl⟩
  have HB := Lib.hid (below_of HB.out hbl (Nat.le_refl _))
  clear hbl
  go_wp2_with fail
  go_ret
  exact ⟨by first | rfl | simp [Array.getD], HB.out⟩

set_option maxRecDepth 100000 in
set_option maxHeartbeats 4000000 in
theorem KeysLeast_main (a b c : ByteArray) (w : World) (ka : a.size ≤ 32) (kb : b.size ≤ 32) (kc : c.size ≤ 32) :
    Calls Try.prog 7 #[.string a, .string b, .string c] w fun e w' => e = .returned (.bool true) ∧ Below w.heap.size w w' := by
  have Fa := Lib.hid (fun w => far_no a w (by omega) (by omega))
  have Fb := Lib.hid (fun w => far_no b w (by omega) (by omega))
  have Fc := Lib.hid (fun w => far_no c w (by omega) (by omega))
  have Ca := Lib.hid (fun w => chk_yes a w (by omega) ka)
  have Cb := Lib.hid (fun w => chk_yes b w (by omega) kb)
  have Cc := Lib.hid (fun w => chk_yes c w (by omega) kc)
  have HB := Lib.hid (Below.refl w.heap.size w)
  have HK := Lib.hid (And.intro ka (And.intro kb kc))
  have HN := Lib.hid (next_law (a := Kl.L a) (c := Kl.L c) (by rw [Kl.L_length]; exact ka) (by rw [Kl.L_length]; exact kc))
  have HP := Lib.hid (past_law (a := Kl.L a) (c := Kl.L c) (by rw [Kl.L_length]; exact ka))
  go_enter Try.func7, Try.ntmps7
  obtain ⟨e1, n1, hn1, hN⟩ : ∃ e1 n1, nextE (Kl.L a) = (e1, n1) ∧ ((e1 = 0 ∧ n1.length ≤ 32 ∧ Kl.lt (Kl.L a) n1 = true ∧ (Kl.lt (Kl.L a) (Kl.L c) = true → Kl.lt (Kl.L c) n1 = false)) ∨ (e1 = 9 ∧ Kl.lt (Kl.L a) (Kl.L c) = false)) := by
    rcases HN.out with ⟨n, h1, h2, h3, h4⟩ | ⟨h1, h2⟩
    · exact ⟨0, n, h1, .inl ⟨rfl, h2, h3, h4⟩⟩
    · exact ⟨9, [], h1, .inr ⟨rfl, h2⟩⟩
  have JN := Lib.hid (fun w => next_key a w e1 n1 HK.out.1 hn1)
  have HNN := Lib.hid hN
  clear hn1 hN
  go_wp2_with fail
  refine (Fa.out _).mono ?_
  rintro e w' ⟨rfl, rfl⟩
  go_wp2_with fail
  refine (Fb.out _).mono ?_
  rintro e w' ⟨rfl, rfl⟩
  go_wp2_with fail
  refine (Fc.out _).mono ?_
  rintro e w' ⟨rfl, rfl⟩
  go_wp2_with fail
  refine (Ca.out _).mono ?_
  rintro e w' ⟨rfl, rfl⟩
  go_wp2_with fail
  refine (Cb.out _).mono ?_
  rintro e w' ⟨rfl, rfl⟩
  go_wp2_with fail
  refine (Cc.out _).mono ?_
  rintro e w' ⟨rfl, rfl⟩
  go_wp2_with fail
  refine (JN.out _).mono ?_
  rintro e w1 ⟨rfl, hbl⟩
  have HB := Lib.hid (below_of HB.out hbl (Nat.le_refl _))
  clear hbl
  go_upto_if 46 with fail
  go_cut [] (fun wx => Below w.heap.size w wx)
  case first =>
    rcases HNN.out with ⟨he, h2, h3, h4⟩ | ⟨he, h2⟩
    · have d1 : (e1 == 0) = true := by rw [he]; rfl
      have hsz : (⟨n1.toArray⟩ : ByteArray).size ≤ 32 := by rw [size_mk]; exact h2
      have J1 := Lib.hid (fun w => chk_yes ⟨n1.toArray⟩ w (by omega) hsz)
      have J2 := Lib.hid (fun w => less_key a ⟨n1.toArray⟩ w true HK.out.1 hsz h3)
      cases hac : Kl.lt (Kl.L a) (Kl.L c) with
      | true =>
        have J3 := Lib.hid (fun w => less_key a c w true HK.out.1 HK.out.2.2 hac)
        have J4 := Lib.hid (fun w => less_key c ⟨n1.toArray⟩ w false HK.out.2.2 hsz (h4 hac))
        clear he h2 h3 h4 hsz hac
        go_wp2_with fail
        refine (J1.out _).mono ?_
        rintro e w' ⟨rfl, rfl⟩
        go_wp2_with fail
        refine (J2.out _).mono ?_
        rintro e w2 ⟨rfl, hbl⟩
        have HB := Lib.hid (below_of HB.out hbl (Nat.le_refl _))
        clear hbl
        go_wp2_with fail
        refine (J3.out _).mono ?_
        rintro e w3 ⟨rfl, hbl⟩
        have HB := Lib.hid (below_of HB.out hbl (Nat.le_refl _))
        clear hbl
        go_wp2_with fail
        refine (J4.out _).mono ?_
        rintro e w4 ⟨rfl, hbl⟩
        have HB := Lib.hid (below_of HB.out hbl (Nat.le_refl _))
        clear hbl
        go_wp2_with fail
        go_meet
        exact HB.out
      | false =>
        have J3 := Lib.hid (fun w => less_key a c w false HK.out.1 HK.out.2.2 hac)
        clear he h2 h3 h4 hsz hac
        go_wp2_with fail
        refine (J1.out _).mono ?_
        rintro e w' ⟨rfl, rfl⟩
        go_wp2_with fail
        refine (J2.out _).mono ?_
        rintro e w2 ⟨rfl, hbl⟩
        have HB := Lib.hid (below_of HB.out hbl (Nat.le_refl _))
        clear hbl
        go_wp2_with fail
        refine (J3.out _).mono ?_
        rintro e w3 ⟨rfl, hbl⟩
        have HB := Lib.hid (below_of HB.out hbl (Nat.le_refl _))
        clear hbl
        go_wp2_with fail
        go_meet
        exact HB.out
    · have d1 : (e1 == 0) = false := by rw [he]; rfl
      have d2 : (e1 != 9) = false := by rw [he]; rfl
      have d3 : (e1 == 9) = true := by rw [he]; rfl
      have J3 := Lib.hid (fun w => less_key a c w false HK.out.1 HK.out.2.2 h2)
      clear he h2
      go_wp2_with fail
      refine (J3.out _).mono ?_
      rintro e w3 ⟨rfl, hbl⟩
      have HB := Lib.hid (below_of HB.out hbl (Nat.le_refl _))
      clear hbl
      go_wp2_with fail
      go_meet
      exact HB.out
  case rest =>
    have HB := Lib.hid hcut
    clear hcut
    clear HNN HN JN
    obtain ⟨bg, hbg⟩ : ∃ bg, (Kl.L a).isPrefixOf (Kl.L c) = bg := ⟨_, rfl⟩
    rw [hbg] at HP
    have HG := Lib.hid hbg
    clear hbg
    go_upto_region 9 with fail
    go_cut [9] (fun v wx => v = .bool bg ∧ Below w.heap.size w wx)
    case first =>
      by_cases hle : a.size ≤ c.size
      · have e1 := pre_take hle
        rw [HG.out] at e1
        have d1 : decide ((a.size : Int) ≤ (c.size : Int)) = true := by simp; omega
        have d2 : decide (a.size ≤ c.size) = true := by simp; omega
        have e2 : min (a.size : Int) (c.size : Int) = (a.size : Int) := by omega
        go_wp2_with fail
        go_meet
        exact ⟨rfl, HB.out⟩
      · have hs := pre_short hle
        rw [HG.out] at hs
        subst hs
        have d1 : decide ((a.size : Int) ≤ (c.size : Int)) = false := by simp; omega
        have d2 : decide (a.size ≤ c.size) = false := by simp; omega
        go_wp2_with fail
        go_meet
        exact ⟨rfl, HB.out⟩
    case rest =>
      obtain ⟨rfl, hcut⟩ := hcut
      have HB := Lib.hid hcut
      clear hcut
      obtain ⟨e2, p2, hp2, hPP⟩ : ∃ e2 p2, pastE (Kl.L a) = (e2, p2) ∧ ((e2 = 0 ∧ p2.length ≤ 32 ∧ bg = (!Kl.lt (Kl.L c) (Kl.L a) && Kl.lt (Kl.L c) p2)) ∨ (e2 = 4 ∧ bg = !Kl.lt (Kl.L c) (Kl.L a))) := by
        rcases HP.out with ⟨n, h1, h2, h3⟩ | ⟨h1, h2⟩
        · exact ⟨0, n, h1, .inl ⟨rfl, h2, h3⟩⟩
        · exact ⟨4, [], h1, .inr ⟨rfl, h2⟩⟩
      have JP := Lib.hid (fun w => past_key a w e2 p2 HK.out.1 hp2)
      have HPP := Lib.hid hPP
      clear hp2 hPP
      go_wp2_with fail
      refine (JP.out _).mono ?_
      rintro e w5 ⟨rfl, hbl⟩
      have HB := Lib.hid (below_of HB.out hbl (Nat.le_refl _))
      clear hbl
      go_upto_if 95 with fail
      go_cut [] (fun wx => Below w.heap.size w wx)
      case first =>
        rcases HPP.out with ⟨he, h2, h3⟩ | ⟨he, h2⟩
        · have d1 : (e2 == 0) = true := by rw [he]; rfl
          have hsz : (⟨p2.toArray⟩ : ByteArray).size ≤ 32 := by rw [size_mk]; exact h2
          obtain ⟨x, hx⟩ : ∃ x, Kl.lt (Kl.L c) (Kl.L a) = x := ⟨_, rfl⟩
          obtain ⟨y, hy⟩ : ∃ y, Kl.lt (Kl.L c) p2 = y := ⟨_, rfl⟩
          rw [hx, hy] at h3
          have J1 := Lib.hid (fun w => less_key c a w x HK.out.2.2 HK.out.1 hx)
          have J2 := Lib.hid (fun w => less_key c ⟨p2.toArray⟩ w y HK.out.2.2 hsz hy)
          subst h3
          clear he h2 hsz hx hy
          cases x with
          | true =>
            go_wp2_with fail
            refine (J1.out _).mono ?_
            rintro e w6 ⟨rfl, hbl⟩
            have HB := Lib.hid (below_of HB.out hbl (Nat.le_refl _))
            clear hbl
            go_wp2_with fail
            go_meet
            exact HB.out
          | false =>
            go_wp2_with fail
            refine (J1.out _).mono ?_
            rintro e w6 ⟨rfl, hbl⟩
            have HB := Lib.hid (below_of HB.out hbl (Nat.le_refl _))
            clear hbl
            go_wp2_with fail
            refine (J2.out _).mono ?_
            rintro e w7 ⟨rfl, hbl⟩
            have HB := Lib.hid (below_of HB.out hbl (Nat.le_refl _))
            clear hbl
            go_wp2_with fail
            go_meet
            exact HB.out
        · have d1 : (e2 == 0) = false := by rw [he]; rfl
          have d2 : (e2 != 4) = false := by rw [he]; rfl
          have d3 : (e2 == 4) = true := by rw [he]; rfl
          obtain ⟨x, hx⟩ : ∃ x, Kl.lt (Kl.L c) (Kl.L a) = x := ⟨_, rfl⟩
          rw [hx] at h2
          have J1 := Lib.hid (fun w => less_key c a w x HK.out.2.2 HK.out.1 hx)
          subst h2
          clear he hx
          cases x
          all_goals
            go_wp2_with fail
            refine (J1.out _).mono ?_
            rintro e w6 ⟨rfl, hbl⟩
            have HB := Lib.hid (below_of HB.out hbl (Nat.le_refl _))
            clear hbl
            go_wp2_with fail
            go_meet
            exact HB.out
      case rest =>
        have HB := Lib.hid hcut
        clear hcut HPP HP JP
        cases hab : Kl.lt (Kl.L a) (Kl.L b) with
        | false =>
          have Hhab := Lib.hid hab
          clear hab
          have HE : Hid (btwE (Kl.L a) (Kl.L b) = (6, [])) := Lib.hid (by unfold btwE; rw [if_neg (by rw [Kl.L_length, Kl.L_length]; simpa using And.intro HK.out.1 HK.out.2.1), Hhab.out]; rfl)
          have J1 := Lib.hid (fun w => btw_key a b w 6 [] HK.out.1 HK.out.2.1 HE.out)
          have J2 := Lib.hid (fun w => less_key a b w false HK.out.1 HK.out.2.1 Hhab.out)
          go_wp2_with fail
          refine (J1.out _).mono ?_
          rintro e w11 ⟨rfl, hbl⟩
          have HB := Lib.hid (below_of HB.out hbl (Nat.le_refl _))
          clear hbl
          go_wp2_with fail
          refine (J2.out _).mono ?_
          rintro e w12 ⟨rfl, hbl⟩
          have HB := Lib.hid (below_of HB.out hbl (Nat.le_refl _))
          clear hbl
          go_wp2_with fail
          refine (awake_any _).mono ?_
          rintro e w13 ⟨rfl, hbl⟩
          have HB := Lib.hid (below_of HB.out hbl (Nat.le_refl _))
          clear hbl
          go_wp2_with fail
          go_ret
          exact ⟨by first | rfl | simp [Array.getD], HB.out⟩
        | true =>
          have Hhab := Lib.hid hab
          clear hab
          obtain ⟨b1, b2, b3, b4, b5⟩ := Kl.btw_law Hhab.out
          have HE : Hid (btwE (Kl.L a) (Kl.L b) = (0, Kl.btw (Kl.L a) (Kl.L b))) := Lib.hid (by unfold btwE; rw [if_neg (by rw [Kl.L_length, Kl.L_length]; simpa using And.intro HK.out.1 HK.out.2.1), Hhab.out]; rfl)
          have lc := Kl.cm_le (Kl.L a) (Kl.L b)
          rw [Kl.L_length, Kl.L_length] at lc
          obtain ⟨s, hs⟩ : ∃ s : ByteArray, (⟨(Kl.btw (Kl.L a) (Kl.L b)).toArray⟩ : ByteArray) = s := ⟨_, rfl⟩
          have hLs : Kl.btw (Kl.L a) (Kl.L b) = Kl.L s := by rw [← hs]; rfl
          obtain ⟨cm, hcm⟩ : ∃ cm, Kl.cm (Kl.L a) (Kl.L b) = cm := ⟨_, rfl⟩
          rw [hLs] at b1 b2 b3 b4 b5
          rw [hcm] at b3 b4 lc
          rw [Kl.L_length] at b3
          have hc31 : cm + 1 ≤ 32 := by
            have := Kl.below_shape Hhab.out
            have k1 := HK.out.1
            have k2 := HK.out.2.1
            rcases this with ⟨y, b', e, hb⟩ | ⟨q, x, a', y, b', e, ha', _, _⟩
            · have := congrArg List.length hb
              rw [Kl.L_length, List.length_append, Kl.L_length] at this
              rw [hcm, Kl.L_length] at e
              simp at this
              omega
            · have := congrArg List.length ha'
              rw [Kl.L_length, List.length_append] at this
              rw [hcm] at e
              simp at this
              omega
          have hss : s.size ≤ 32 := by omega
          have J1 := Lib.hid (fun w => btw_key a b w 0 _ HK.out.1 HK.out.2.1 HE.out)
          rw [hs] at J1
          have J2 := Lib.hid (fun w => less_key a b w true HK.out.1 HK.out.2.1 Hhab.out)
          have J3 := Lib.hid (fun w => com_key a b w cm HK.out.1 HK.out.2.1 hcm)
          have J4 := Lib.hid (fun w => less_key a s w true HK.out.1 hss b1)
          have J5 := Lib.hid (fun w => less_key b s w false HK.out.2.1 hss b2)
          have q1 : ((s.extract 0 cm).toList == (b.extract 0 cm).toList) = true := by rw [toList_L', toList_L', L_ext, L_ext, b4]; simp
          have q2 : ((s.size : Int) == (cm : Int) + 1) = true := by rw [beq_iff_eq]; omega
          have q8 : ((s.size : Int) != (cm : Int) + 1) = false := by rw [bne_eq_false_iff_eq]; omega
          have lw : IntKind.i64.wrap ((cm : Int) + 1) = (cm : Int) + 1 := IntWalk.i64_in _ (by omega)
          have q3 : ¬ s.size < cm := by omega
          have q4 : ¬ b.size < cm := by omega
          have q5 : cm ≤ s.size := by omega
          have q6 : cm ≤ b.size := by omega
          have q7 : (0 : Int) ≤ (cm : Int) := by omega
          have HS := Lib.hid b3
          have B5 := Lib.hid b5
          clear b1 b2 b3 b4 b5 hs hLs lc hcm HE hss
          go_wp2_with fail
          refine (J1.out _).mono ?_
          rintro e w11 ⟨rfl, hbl⟩
          have HB := Lib.hid (below_of HB.out hbl (Nat.le_refl _))
          clear hbl
          go_wp2_with fail
          refine (J2.out _).mono ?_
          rintro e w12 ⟨rfl, hbl⟩
          have HB := Lib.hid (below_of HB.out hbl (Nat.le_refl _))
          clear hbl
          go_wp2_with fail
          refine (J3.out _).mono ?_
          rintro e w13 ⟨rfl, hbl⟩
          have HB := Lib.hid (below_of HB.out hbl (Nat.le_refl _))
          clear hbl
          go_wp2_with fail
          go_upto_region 20 with fail
          go_cut [173] (fun v wx => v = .bool false ∧ Below w.heap.size w wx)
          case first =>
            go_region_held3 (fun w' => True)
              (first
                | go_keep
                | trivial)
              (first
                | (go_at_call_of 39 (Value.string a); refine (J4.out _).mono ?_; rintro e w14 ⟨rfl, hb4⟩)
                | (go_at_call_of 39 (Value.string b); refine (J5.out _).mono ?_; rintro e w15 ⟨rfl, hb5⟩))
            all_goals
              go_wp2_with fail
              go_meet
              refine ⟨rfl, ?_⟩
              first
                | exact below_of (below_of HB.out (undrew hb4) (Nat.le_refl _)) hb5 (Nat.le_refl _)
                | exact below_of (below_of HB.out hb4 (Nat.le_refl _)) hb5 (Nat.le_refl _)
                | exact redrew (below_of (below_of HB.out hb4 (Nat.le_refl _)) hb5 (Nat.le_refl _))
          case rest =>
            obtain ⟨rfl, hcut⟩ := hcut
            have HB := Lib.hid hcut
            clear hcut q1 q2 q3 q4 q5 q6 q7 q8 lw
            cases hac : Kl.lt (Kl.L a) (Kl.L c) with
            | false =>
              have J6 := Lib.hid (fun w => less_key a c w false HK.out.1 HK.out.2.2 hac)
              clear hac
              go_wp2_with fail
              refine (J6.out _).mono ?_
              rintro e w16 ⟨rfl, hbl⟩
              have HB := Lib.hid (below_of HB.out hbl (Nat.le_refl _))
              clear hbl
              go_wp2_with fail
              refine (awake_any _).mono ?_
              rintro e w19 ⟨rfl, hbl⟩
              have HB := Lib.hid (below_of HB.out hbl (Nat.le_refl _))
              clear hbl
              go_wp2_with fail
              go_ret
              exact ⟨by first | rfl | simp [Array.getD], HB.out⟩
            | true =>
              have J6 := Lib.hid (fun w => less_key a c w true HK.out.1 HK.out.2.2 hac)
              cases hbc : Kl.lt (Kl.L b) (Kl.L c) with
              | true =>
                have J7 := Lib.hid (fun w => less_key b c w true HK.out.2.1 HK.out.2.2 hbc)
                clear hac hbc
                go_wp2_with fail
                refine (J6.out _).mono ?_
                rintro e w16 ⟨rfl, hbl⟩
                have HB := Lib.hid (below_of HB.out hbl (Nat.le_refl _))
                clear hbl
                go_wp2_with fail
                refine (J7.out _).mono ?_
                rintro e w17 ⟨rfl, hbl⟩
                have HB := Lib.hid (below_of HB.out hbl (Nat.le_refl _))
                clear hbl
                go_wp2_with fail
                refine (awake_any _).mono ?_
                rintro e w19 ⟨rfl, hbl⟩
                have HB := Lib.hid (below_of HB.out hbl (Nat.le_refl _))
                clear hbl
                go_wp2_with fail
                go_ret
                exact ⟨by first | rfl | simp [Array.getD], HB.out⟩
              | false =>
                have J7 := Lib.hid (fun w => less_key b c w false HK.out.2.1 HK.out.2.2 hbc)
                by_cases hlen : s.size < c.size
                · have d1 : decide ((s.size : Int) < (c.size : Int)) = true := by simp; omega
                  have d2 : decide (s.size < c.size) = true := by simp; omega
                  clear hac hbc
                  go_wp2_with fail
                  refine (J6.out _).mono ?_
                  rintro e w16 ⟨rfl, hbl⟩
                  have HB := Lib.hid (below_of HB.out hbl (Nat.le_refl _))
                  clear hbl
                  go_wp2_with fail
                  refine (J7.out _).mono ?_
                  rintro e w17 ⟨rfl, hbl⟩
                  have HB := Lib.hid (below_of HB.out hbl (Nat.le_refl _))
                  clear hbl
                  go_wp2_with fail
                  refine (awake_any _).mono ?_
                  rintro e w19 ⟨rfl, hbl⟩
                  have HB := Lib.hid (below_of HB.out hbl (Nat.le_refl _))
                  clear hbl
                  go_wp2_with fail
                  go_ret
                  exact ⟨by first | rfl | simp [Array.getD], HB.out⟩
                · have d1 : decide ((s.size : Int) < (c.size : Int)) = false := by simp; omega
                  have d2 : decide (s.size < c.size) = false := by simp; omega
                  have J8 := Lib.hid (fun w => less_key c s w false HK.out.2.2 (by have := HS.out; omega) (B5.out _ hac hbc (by rw [Kl.L_length, Kl.L_length]; omega)))
                  clear hac hbc hlen
                  go_wp2_with fail
                  refine (J6.out _).mono ?_
                  rintro e w16 ⟨rfl, hbl⟩
                  have HB := Lib.hid (below_of HB.out hbl (Nat.le_refl _))
                  clear hbl
                  go_wp2_with fail
                  refine (J7.out _).mono ?_
                  rintro e w17 ⟨rfl, hbl⟩
                  have HB := Lib.hid (below_of HB.out hbl (Nat.le_refl _))
                  clear hbl
                  go_wp2_with fail
                  refine (J8.out _).mono ?_
                  rintro e w18 ⟨rfl, hbl⟩
                  have HB := Lib.hid (below_of HB.out hbl (Nat.le_refl _))
                  clear hbl
                  go_wp2_with fail
                  refine (awake_any _).mono ?_
                  rintro e w19 ⟨rfl, hbl⟩
                  have HB := Lib.hid (below_of HB.out hbl (Nat.le_refl _))
                  clear hbl
                  go_wp2_with fail
                  go_ret
                  exact ⟨by first | rfl | simp [Array.getD], HB.out⟩

theorem KeysLeast_any (a b c : ByteArray) (w : World) (ha : a.size ≤ 9223372036854775807) (hb : b.size ≤ 9223372036854775807) (hc : c.size ≤ 9223372036854775807) :
    Calls Try.prog 7 #[.string a, .string b, .string c] w fun e w' => e = .returned (.bool true) ∧ Below w.heap.size w w' := by
  by_cases na : 200 < a.size
  · exact KeysLeast_early0 a b c w ha hb hc na
  by_cases nb : 200 < b.size
  · exact KeysLeast_early1 a b c w ha hb hc na nb
  by_cases nc : 200 < c.size
  · exact KeysLeast_early2 a b c w ha hb hc na nb nc
  by_cases ka : a.size ≤ 32
  rotate_left
  · exact KeysLeast_early3 a b c w ha hb hc na nb nc ka
  by_cases kb : b.size ≤ 32
  rotate_left
  · exact KeysLeast_early4 a b c w ha hb hc na nb nc ka kb
  by_cases kc : c.size ≤ 32
  rotate_left
  · exact KeysLeast_early5 a b c w ha hb hc na nb nc ka kb kc
  exact KeysLeast_main a b c w ka kb kc
end Go.Proofs.Ytgljgjkoaaibnaa.KK
