/-
  The reference's Read.
-/
import Derived.Test.YtgljgjkoaaibnaaMf
namespace Go.Proofs.Ytgljgjkoaaibnaa.KK
open Go.ChangeShapes Go.WideShapes Go.ChangeAt Go.RowKit Go.Proofs

set_option maxRecDepth 100000 in
set_option maxHeartbeats 1000000 in
theorem rRead_any (s : ByteArray) (w : World) (hs : s.size ≤ 4294967295) :
    Calls Try.prog 38 #[.string s] w fun e w' => e = .returned (strE (Kl.readE (Kl.L s))) ∧ Below w.heap.size w w' := by
  by_cases h128 : 128 < s.size
  · have d1 : decide ((128 : Int) < (s.size : Int)) = true := by simp; omega
    have H : Hid (Kl.readE (Kl.L s) = (3, [])) := Lib.hid (by unfold Kl.readE; rw [Kl.L_length, if_pos h128])
    clear h128
    go_enter Try.func38, Try.ntmps38
    go_wp2_with fail
    go_ret2
    exact ⟨by rw [H.out]; rfl, Below.refl _ _⟩
  have d1 : decide ((128 : Int) < (s.size : Int)) = false := by simp; omega
  have hrd : Kl.readE (Kl.L s) = match Kl.unt (Kl.L s) with | none => (6, []) | some k => if Kl.txt k ≠ Kl.L s then (6, []) else if 32 < k.length then (3, []) else (0, k) := by
    unfold Kl.readE; rw [Kl.L_length, if_neg h128]; try rfl
  have K1 := fun w => bytes_any s w hs
  cases hu : Kl.unt (Kl.L s) with
  | none =>
    rw [hu] at K1 hrd
    have J1 := Lib.hid K1
    have H := Lib.hid hrd
    clear K1 hrd hu h128
    go_enter Try.func38, Try.ntmps38
    go_wp2_with fail
    refine (J1.out _).mono ?_
    rintro e w1 ⟨rfl, hb⟩
    have HB := Lib.hid hb
    clear hb
    unfold unV
    go_wp2_with fail
    go_ret2
    exact ⟨by rw [H.out]; rfl, HB.out⟩
  | some k =>
    have hkl := Kl.unt_length (Kl.L s).length (Kl.L s) k (Nat.le_refl _) hu
    rw [Kl.L_length] at hkl
    rw [hu] at K1 hrd
    have hks : (⟨k.toArray⟩ : ByteArray).size = k.length := size_mk k
    have K2 := fun w => rtext_any ⟨k.toArray⟩ w (by rw [hks]; omega)
    have hLk : Kl.L ⟨k.toArray⟩ = k := rfl
    rw [hLk] at K2
    have J1 := Lib.hid K1
    have J2 := Lib.hid K2
    dsimp only at hrd
    by_cases ht : Kl.txt k = Kl.L s
    · rw [if_neg (by simpa using ht)] at hrd
      have q1 : ((⟨(Kl.txt k).toArray⟩ : ByteArray).toList == s.toList) = true := by
        rw [Lib.toList_data, Lib.toList_data, beq_iff_eq]; exact ht
      have K3 := fun w => rCheck_any ⟨k.toArray⟩ w (by rw [hks]; omega)
      rw [hks] at K3
      obtain ⟨tx, htx⟩ : ∃ tx : ByteArray, ⟨(Kl.txt k).toArray⟩ = tx := ⟨_, rfl⟩
      rw [htx] at q1 J2
      by_cases h32 : 32 < k.length
      · rw [if_pos h32] at hrd
        rw [chk1_no (by omega)] at K3
        have J3 := Lib.hid K3
        have H := Lib.hid hrd
        clear K1 K2 K3 hrd hu h128 ht hks hLk htx
        go_enter Try.func38, Try.ntmps38
        go_wp2_with fail
        refine (J1.out _).mono ?_
        rintro e w1 ⟨rfl, hb⟩
        have HB := Lib.hid hb
        clear hb
        unfold unV
        go_wp2_with fail
        refine (J2.out _).mono ?_
        rintro e w2 ⟨rfl, hb⟩
        have HB := Lib.hid (below_of HB.out hb (Nat.le_refl _))
        clear hb
        go_wp2_with fail
        refine (J3.out _).mono ?_
        rintro e w' ⟨rfl, rfl⟩
        go_wp2_with fail
        go_ret2
        exact ⟨by rw [H.out]; rfl, HB.out⟩
      · rw [if_neg h32] at hrd
        rw [chk1_ok (by omega)] at K3
        have J3 := Lib.hid K3
        have H := Lib.hid hrd
        clear K1 K2 K3 hrd hu h128 ht hks hLk htx
        go_enter Try.func38, Try.ntmps38
        go_wp2_with fail
        refine (J1.out _).mono ?_
        rintro e w1 ⟨rfl, hb⟩
        have HB := Lib.hid hb
        clear hb
        unfold unV
        go_wp2_with fail
        refine (J2.out _).mono ?_
        rintro e w2 ⟨rfl, hb⟩
        have HB := Lib.hid (below_of HB.out hb (Nat.le_refl _))
        clear hb
        go_wp2_with fail
        refine (J3.out _).mono ?_
        rintro e w' ⟨rfl, rfl⟩
        go_wp2_with fail
        go_ret2
        exact ⟨by rw [H.out]; rfl, HB.out⟩
    · rw [if_pos ht] at hrd
      have q1 : ((⟨(Kl.txt k).toArray⟩ : ByteArray).toList == s.toList) = false := by
        rw [Lib.toList_data, Lib.toList_data, beq_eq_false_iff_ne]; exact ht
      obtain ⟨tx, htx⟩ : ∃ tx : ByteArray, ⟨(Kl.txt k).toArray⟩ = tx := ⟨_, rfl⟩
      rw [htx] at q1 J2
      have H := Lib.hid hrd
      clear K1 K2 hrd hu h128 ht hks hLk htx
      go_enter Try.func38, Try.ntmps38
      go_wp2_with fail
      refine (J1.out _).mono ?_
      rintro e w1 ⟨rfl, hb⟩
      have HB := Lib.hid hb
      clear hb
      unfold unV
      go_wp2_with fail
      refine (J2.out _).mono ?_
      rintro e w2 ⟨rfl, hb⟩
      have HB := Lib.hid (below_of HB.out hb (Nat.le_refl _))
      clear hb
      go_wp2_with fail
      go_ret2
      exact ⟨by rw [H.out]; rfl, HB.out⟩
end Go.Proofs.Ytgljgjkoaaibnaa.KK
