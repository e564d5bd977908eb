/-
  Contracts of ranges: CheckRange, has, In, Empty, on both sides.
-/
import Derived.Test.YtpgngiegpigfiaaKg
import Derived.Test.YtpgngiegpigfiaaEa
import Derived.Lib.MinMaxS
namespace Go.Proofs.Ytpgngiegpigfiaa.KK
open Go.ChangeShapes Go.WideShapes Go.ChangeAt Go.RowKit Go.Proofs

theorem bytesLess_lt : ∀ a b : List UInt8, Op.bytesLess a b = Kl.lt a b
  | _, [] => by simp [Op.bytesLess, Kl.lt]
  | [], _ :: _ => by simp [Op.bytesLess, Kl.lt]
  | x :: a, y :: b => by
    unfold Op.bytesLess Kl.lt
    rw [bytesLess_lt a b]
    by_cases h : x = y
    · subst h; simp
    · have h1 : (x == y) = false := by simpa using h
      rw [h1, if_neg h, Bool.false_and, Bool.or_false]
      exact decide_eq_decide.2 UInt8.lt_iff_toNat_lt
theorem toList_L (s : ByteArray) : s.toList = Kl.L s := by rw [Lib.toList_data]; rfl

/-- the error of a range -/
def chkR (lo hi : ByteArray) (b : Bool) : Int := if ¬ (lo.size ≤ 32 ∧ hi.size ≤ 32) then 3 else if b = false ∧ hi.size ≠ 0 then 6 else 0
def hasB (lo hi : ByteArray) (b : Bool) (k : ByteArray) : Bool := !Kl.lt (Kl.L k) (Kl.L lo) && (!b || Kl.lt (Kl.L k) (Kl.L hi))
set_option maxHeartbeats 1000000 in
theorem kCheckRange_any (lo hi : ByteArray) (b : Bool) (w : World) (h1 : lo.size ≤ 9223372036854775807) (h2 : hi.size ≤ 9223372036854775807) :
    Calls Try.prog 71 #[.agg #[.string lo, .string hi, .bool b]] w fun e w' => e = .returned (.int .i64 (chkR lo hi b)) ∧ Below w.heap.size w w' := by
  have K := fun w => checkBoth_any lo hi w h1 h2
  by_cases h : lo.size ≤ 32 ∧ hi.size ≤ 32
  · rw [chk2_ok h.1 h.2] at K
    have J := Lib.hid K
    by_cases hz : hi.size = 0
    · have H : Hid (chkR lo hi b = 0) := Lib.hid (by unfold chkR; rw [if_neg (by simpa using h), if_neg (by omega)])
      have z1 := str_empty hi hz
      clear K h hz
      cases b
      all_goals
        go_enter Try.func71, Try.ntmps71
        go_wp2_with (go_at_call 64; refine (J.out _).mono ?_; rintro e w' ⟨rfl, rfl⟩)
        go_ret
        exact ⟨by rw [H.out]; rfl, (Below.refl _ _).alloc (Nat.le_refl _) _⟩
    · obtain ⟨z1, z2⟩ := str_full hi hz
      cases b with
      | false =>
        have H : Hid (chkR lo hi false = 6) := Lib.hid (by unfold chkR; rw [if_neg (by simpa using h), if_pos ⟨rfl, hz⟩])
        clear K h hz
        go_enter Try.func71, Try.ntmps71
        go_wp2_with (go_at_call 64; refine (J.out _).mono ?_; rintro e w' ⟨rfl, rfl⟩)
        go_ret
        exact ⟨by rw [H.out]; rfl, (Below.refl _ _).alloc (Nat.le_refl _) _⟩
      | true =>
        have H : Hid (chkR lo hi true = 0) := Lib.hid (by unfold chkR; rw [if_neg (by simpa using h), if_neg (by simp)])
        clear K h hz
        go_enter Try.func71, Try.ntmps71
        go_wp2_with (go_at_call 64; refine (J.out _).mono ?_; rintro e w' ⟨rfl, rfl⟩)
        go_ret
        exact ⟨by rw [H.out]; rfl, (Below.refl _ _).alloc (Nat.le_refl _) _⟩
  · rw [chk2_no h] at K
    have J := Lib.hid K
    have H : Hid (chkR lo hi b = 3) := Lib.hid (by unfold chkR; rw [if_pos h])
    clear K h
    go_enter Try.func71, Try.ntmps71
    go_wp2_with (go_at_call 64; refine (J.out _).mono ?_; rintro e w' ⟨rfl, rfl⟩)
    go_ret
    exact ⟨by rw [H.out]; rfl, (Below.refl _ _).alloc (Nat.le_refl _) _⟩
set_option maxHeartbeats 1000000 in
theorem rCheckRange_any (lo hi : ByteArray) (b : Bool) (w : World) (h1 : lo.size ≤ 9223372036854775807) (h2 : hi.size ≤ 9223372036854775807) :
    Calls Try.prog 54 #[.agg #[.string lo, .string hi, .bool b]] w fun e w' => e = .returned (.int .i64 (chkR lo hi b)) ∧ Below w.heap.size w w' := by
  have K := fun w => two_any lo hi w h1 h2
  by_cases h : lo.size ≤ 32 ∧ hi.size ≤ 32
  · rw [chk2_ok h.1 h.2] at K
    have J := Lib.hid K
    by_cases hz : hi.size = 0
    · have H : Hid (chkR lo hi b = 0) := Lib.hid (by unfold chkR; rw [if_neg (by simpa using h), if_neg (by omega)])
      have z1 := str_empty hi hz
      clear K h hz
      cases b
      all_goals
        go_enter Try.func54, Try.ntmps54
        go_wp2_with (go_at_call 68; refine (J.out _).mono ?_; rintro e w' ⟨rfl, rfl⟩)
        go_ret
        exact ⟨by rw [H.out]; rfl, (Below.refl _ _).alloc (Nat.le_refl _) _⟩
    · obtain ⟨z1, z2⟩ := str_full hi hz
      cases b with
      | false =>
        have H : Hid (chkR lo hi false = 6) := Lib.hid (by unfold chkR; rw [if_neg (by simpa using h), if_pos ⟨rfl, hz⟩])
        clear K h hz
        go_enter Try.func54, Try.ntmps54
        go_wp2_with (go_at_call 68; refine (J.out _).mono ?_; rintro e w' ⟨rfl, rfl⟩)
        go_ret
        exact ⟨by rw [H.out]; rfl, (Below.refl _ _).alloc (Nat.le_refl _) _⟩
      | true =>
        have H : Hid (chkR lo hi true = 0) := Lib.hid (by unfold chkR; rw [if_neg (by simpa using h), if_neg (by simp)])
        clear K h hz
        go_enter Try.func54, Try.ntmps54
        go_wp2_with (go_at_call 68; refine (J.out _).mono ?_; rintro e w' ⟨rfl, rfl⟩)
        go_ret
        exact ⟨by rw [H.out]; rfl, (Below.refl _ _).alloc (Nat.le_refl _) _⟩
  · rw [chk2_no h] at K
    have J := Lib.hid K
    have H : Hid (chkR lo hi b = 3) := Lib.hid (by unfold chkR; rw [if_pos h])
    clear K h
    go_enter Try.func54, Try.ntmps54
    go_wp2_with (go_at_call 68; refine (J.out _).mono ?_; rintro e w' ⟨rfl, rfl⟩)
    go_ret
    exact ⟨by rw [H.out]; rfl, (Below.refl _ _).alloc (Nat.le_refl _) _⟩

set_option maxHeartbeats 1000000 in
theorem has_any (lo hi : ByteArray) (b : Bool) (k : ByteArray) (w : World) :
    Calls Try.prog 72 #[.agg #[.string lo, .string hi, .bool b], .string k] w fun e w' => e = .returned (.bool (hasB lo hi b k)) ∧ Below w.heap.size w w' := by
  have e1 : Op.bytesLess k.toList lo.toList = Kl.lt (Kl.L k) (Kl.L lo) := by rw [bytesLess_lt, toList_L, toList_L]
  have e2 : Op.bytesLess k.toList hi.toList = Kl.lt (Kl.L k) (Kl.L hi) := by rw [bytesLess_lt, toList_L, toList_L]
  cases h1 : Kl.lt (Kl.L k) (Kl.L lo) <;> cases b <;> cases h2 : Kl.lt (Kl.L k) (Kl.L hi)
  all_goals
    have H1 := Lib.hid h1
    have H2 := Lib.hid h2
    rw [h1] at e1
    rw [h2] at e2
    clear h1 h2
    go_enter Try.func72, Try.ntmps72
    go_wp2_with fail
    go_ret
    exact ⟨retB (by unfold hasB; rw [H1.out, H2.out]; rfl), (Below.refl _ _).alloc (Nat.le_refl _) _⟩
set_option maxHeartbeats 1000000 in
theorem Has_any (lo hi : ByteArray) (b : Bool) (k : ByteArray) (w : World) (h1 : lo.size ≤ 9223372036854775807) (h2 : hi.size ≤ 9223372036854775807) (h3 : k.size ≤ 9223372036854775807) :
    Calls Try.prog 32 #[.agg #[.string lo, .string hi, .bool b], .string k] w fun e w' => e = .returned (.bool (hasB lo hi b k)) ∧ Below w.heap.size w w' := by
  have K1 := fun w => Order_any k lo w h3 h1
  have K2 := fun w => Order_any k hi w h3 h2
  have s1 := Kl.ord_neg (a := Kl.L k) (b := Kl.L lo)
  have s2 := Kl.ord_neg (a := Kl.L k) (b := Kl.L hi)
  obtain ⟨o1, ho1⟩ : ∃ o, Kl.ord (Kl.L k) (Kl.L lo) = o := ⟨_, rfl⟩
  obtain ⟨o2, ho2⟩ : ∃ o, Kl.ord (Kl.L k) (Kl.L hi) = o := ⟨_, rfl⟩
  rw [ho1] at K1 s1
  rw [ho2] at K2 s2
  have J1 := Lib.hid K1
  have J2 := Lib.hid K2
  clear K1 K2 ho1 ho2
  cases p1 : Kl.lt (Kl.L k) (Kl.L lo) with
  | true =>
    have d1 : decide ((0 : Int) ≤ o1) = false := by have := s1.2 p1; simp; omega
    have P1 := Lib.hid p1
    clear p1 s1 s2
    go_enter Try.func32, Try.ntmps32
    go_wp2_with fail
    refine (J1.out _).mono ?_
    rintro e w1 ⟨rfl, hb⟩
    have HB1 := Lib.hid (((Below.refl w.heap.size w).alloc (Nat.le_refl _) _).trans (hb.mono (by simp)))
    clear hb
    go_wp2_with fail
    go_ret
    exact ⟨retB (by unfold hasB; rw [P1.out]; rfl), HB1.out⟩
  | false =>
    have d1 : decide ((0 : Int) ≤ o1) = true := by
      rcases Int.lt_or_le o1 0 with h | h
      · rw [s1.1 h] at p1; cases p1
      · simpa using h
    have P1 := Lib.hid p1
    clear p1 s1
    cases b with
    | false =>
      clear s2
      go_enter Try.func32, Try.ntmps32
      go_wp2_with fail
      refine (J1.out _).mono ?_
      rintro e w1 ⟨rfl, hb⟩
      have q := hb.cell (p := ⟨w.heap.size, 2, none⟩) (by simp)
      have HB1 := Lib.hid (((Below.refl w.heap.size w).alloc (Nat.le_refl _) _).trans (hb.mono (by simp)))
      clear hb
      go_wp2_with fail
      go_ret
      exact ⟨retB (by unfold hasB; rw [P1.out]; rfl), HB1.out⟩
    | true =>
      have d2 : decide (o2 < 0) = Kl.lt (Kl.L k) (Kl.L hi) := by rw [Bool.eq_iff_iff, decide_eq_true_iff]; exact s2
      clear s2
      cases p2 : Kl.lt (Kl.L k) (Kl.L hi)
      all_goals
        have P2 := Lib.hid p2
        rw [p2] at d2
        clear p2
        go_enter Try.func32, Try.ntmps32
        go_wp2_with fail
        refine (J1.out _).mono ?_
        rintro e w1 ⟨rfl, hb⟩
        have q1 := hb.cell (p := ⟨w.heap.size, 1, none⟩) (by simp)
        have q2 := hb.cell (p := ⟨w.heap.size, 2, none⟩) (by simp)
        have HB1 := Lib.hid (((Below.refl w.heap.size w).alloc (Nat.le_refl _) _).trans (hb.mono (by simp)))
        clear hb
        go_wp2_with fail
        refine (J2.out _).mono ?_
        rintro e w2 ⟨rfl, hb⟩
        have HB2 := Lib.hid (below_of HB1.out hb (Nat.le_refl _))
        clear hb
        go_wp2_with fail
        go_ret
        exact ⟨retB (by unfold hasB; rw [P1.out, P2.out]; simp [d2]), HB2.out⟩
end Go.Proofs.Ytpgngiegpigfiaa.KK
