/-
  Contracts of Past, Between, and the reference's Next, Past, Between.
-/
import Derived.Test.YtpgngiegpigfiaaKe
namespace Go.Proofs.Ytpgngiegpigfiaa.KK
open Go.ChangeShapes Go.WideShapes Go.ChangeAt Go.RowKit Go.Proofs

theorem getD_at (s : ByteArray) (c : Nat) (h : c < s.size) : (Kl.L s).getD c 0 = s[c] := by
  rw [List.getD_eq_getElem?_getD, List.getElem?_eq_getElem (by rw [Kl.L_length]; exact h)]; rfl
set_option maxHeartbeats 1000000 in
theorem kBetween_any (a b : ByteArray) (w : World) (ha : a.size ≤ 9223372036854775807) (hb : b.size ≤ 9223372036854775807) :
    Calls Try.prog 39 #[.string a, .string b] w fun e w' => e = .returned (strE (btwE (Kl.L a) (Kl.L b))) ∧ Below w.heap.size w w' := by
  have K1 := fun w => checkBoth_any a b w ha hb
  have K2 := fun w => compare_any a b w ha hb
  by_cases h : a.size ≤ 32 ∧ b.size ≤ 32
  rotate_left
  · rw [chk2_no h] at K1
    have J1 := Lib.hid K1
    have H : Hid (btwE (Kl.L a) (Kl.L b) = (3, [])) := Lib.hid (by unfold btwE; rw [Kl.L_length, Kl.L_length, if_pos h])
    clear K1 K2 h
    go_enter Try.func39, Try.ntmps39
    go_wp2_with fail
    refine (J1.out _).mono ?_
    rintro e w' ⟨rfl, rfl⟩
    go_wp2_with fail
    go_ret2
    exact ⟨by rw [H.out]; rfl, Below.refl _ _⟩
  rw [chk2_ok h.1 h.2] at K1
  have J1 := Lib.hid K1
  clear K1
  have hbt : btwE (Kl.L a) (Kl.L b) = if Kl.lt (Kl.L a) (Kl.L b) then (0, Kl.btw (Kl.L a) (Kl.L b)) else (6, []) := by unfold btwE; rw [Kl.L_length, Kl.L_length, if_neg (by simpa using h)]
  obtain ⟨o, ho⟩ : ∃ o, Kl.ord (Kl.L a) (Kl.L b) = o := ⟨_, rfl⟩
  obtain ⟨c, hc⟩ : ∃ c, Kl.cm (Kl.L a) (Kl.L b) = c := ⟨_, rfl⟩
  have hcl := Kl.cm_le (Kl.L a) (Kl.L b)
  rw [hc, Kl.L_length, Kl.L_length] at hcl
  rw [ho, hc] at K2
  have J2 := Lib.hid K2
  clear K2
  by_cases hl : Kl.lt (Kl.L a) (Kl.L b) = true
  rotate_left
  · rw [if_neg hl] at hbt
    have H := Lib.hid hbt
    have h0 : 0 ≤ o := by rw [← ho]; exact Kl.ord_nonneg.2 (by simpa using hl)
    clear hbt hl ho hc
    go_enter Try.func39, Try.ntmps39
    go_wp2_with fail
    refine (J1.out _).mono ?_
    rintro e w' ⟨rfl, rfl⟩
    go_wp2_with fail
    refine (J2.out _).mono ?_
    rintro e w1 ⟨rfl, hb1⟩
    have HB := Lib.hid hb1
    clear hb1
    go_wp2_with fail
    go_ret2
    exact ⟨by rw [H.out]; rfl, HB.out⟩
  rw [if_pos hl] at hbt
  have h0 : o < 0 := by rw [← ho]; exact Kl.ord_neg.2 hl
  have hsh := Kl.below_shape hl
  by_cases hca : c = a.size
  · have hb2 : Kl.btw (Kl.L a) (Kl.L b) = Kl.L a ++ [0] := by unfold Kl.btw; rw [hc, Kl.L_length, if_pos hca]
    rw [hb2] at hbt
    have H := Lib.hid hbt
    have HZ := Lib.hid (next_zero a)
    have q : ((c : Int) == (a.size : Int)) = true := by simp; omega
    clear hbt hb2 ho hc hsh hl hca
    go_enter Try.func39, Try.ntmps39
    go_wp2_with fail
    refine (J1.out _).mono ?_
    rintro e w' ⟨rfl, rfl⟩
    go_wp2_with fail
    refine (J2.out _).mono ?_
    rintro e w1 ⟨rfl, hb1⟩
    have HB := Lib.hid hb1
    clear hb1
    go_wp2_with fail
    go_ret2
    exact ⟨by rw [H.out]; unfold strE; dsimp only; rw [← HZ.out]; rfl, HB.out⟩
  · have hlt : c < a.size := by omega
    have ht := Kl.cm_take (Kl.L a) (Kl.L b)
    have hb2 : Kl.btw (Kl.L a) (Kl.L b) = (Kl.L a).take c ++ [UInt8.ofNat (a[c].toNat + 1)] := by
      unfold Kl.btw; rw [hc, Kl.L_length, if_neg hca, getD_at a c hlt]; rw [hc] at ht; rw [ht]
    have h255 : a[c].toNat < 255 := by
      rcases hsh with ⟨y, b', e, _⟩ | ⟨q, x, a', y, b', e1, e2, e3, e4⟩
      · rw [hc, Kl.L_length] at e; omega
      · rw [hc] at e1
        have hx : (Kl.L a).getD c 0 = x := by rw [e2, List.getD_eq_getElem?_getD]; simp [e1]
        rw [← getD_at a c hlt, hx]
        have := y.toNat_lt
        omega
    rw [hb2] at hbt
    have H := Lib.hid hbt
    have q : ((c : Int) == (a.size : Int)) = false := by rw [beq_eq_false_iff_ne]; omega
    have K := fun w => raised_any (a.extract 0 (c + 1)) c w (by simp; omega) (by simp; omega) (by simp; omega) (by rw [ext_at a (c + 1) c (by omega) hlt]; exact h255)
    have e1 : (Kl.L (a.extract 0 (c + 1))).take c = (Kl.L a).take c := by rw [ext_take]; show ((Kl.L a).take (c + 1)).take c = _; rw [List.take_take]; congr 1; omega
    have e2 : ((a.extract 0 (c + 1))[c]'(by simp; omega)) = a[c] := ext_at a (c + 1) c (by omega) hlt
    rw [e1, e2] at K
    have HK := Lib.hid K
    have h1c : c + 1 ≤ a.size := by omega
    clear hbt hb2 ho hc hsh hl hca ht K e1 e2 h255
    go_enter Try.func39, Try.ntmps39
    go_wp2_with fail
    refine (J1.out _).mono ?_
    rintro e w' ⟨rfl, rfl⟩
    go_wp2_with fail
    refine (J2.out _).mono ?_
    rintro e w1 ⟨rfl, hb1⟩
    have HB := Lib.hid hb1
    clear hb1
    go_wp2_with fail
    refine (HK.out _).mono ?_
    rintro e w2 ⟨rfl, hb1⟩
    have HB := Lib.hid (below_of HB.out hb1 (Nat.le_refl _))
    clear hb1
    go_wp2_with fail
    go_ret2
    exact ⟨by rw [H.out]; rfl, HB.out⟩
end Go.Proofs.Ytpgngiegpigfiaa.KK
