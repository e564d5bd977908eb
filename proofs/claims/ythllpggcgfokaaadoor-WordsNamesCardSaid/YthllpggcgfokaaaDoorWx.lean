/-
  The walk of WordsNames.
-/
import Derived.Test.YthllpggcgfokaaaDoorWu
import Derived.Test.YthllpggcgfokaaaDoorWv
import Derived.Test.YthllpggcgfokaaaDoorWs
namespace Go.Proofs.YthllpggcgfokaaaDoor
open Go.ChangeShapes Go.WideShapes Go.ChangeAt Go.RowKit Go.Proofs

set_option maxRecDepth 100000 in
theorem namesLong (s : ByteArray) (lo hi : Int) (w : World) (he : Env w) (hs : 1000 < s.size) (hb : s.size ≤ 9223372036854775807) :
    Calls Tryd.prog 3 #[.string s, .int .i64 lo, .int .i64 hi] w fun e w' => e = .returned (.bool true) ∧ Below w.heap.size w w' := by
  have HE := Lib.hid he
  clear he
  have q : decide ((1000 : Int) < (s.size : Int)) = true := by simp; omega
  go_enter Tryd.func3, Tryd.ntmps3
  go_wp2_with (go_at_call 11; refine (shown_any _ HE.out).mono ?_; rintro e w1 ⟨rfl, hb2⟩; have HB := Lib.hid hb2; clear hb2)
  go_ret
  exact ⟨rfl, HB.out⟩

set_option maxRecDepth 100000 in
set_option maxHeartbeats 1000000 in
theorem namesShort (s : ByteArray) (lo hi : Int) (w : World) (he : Env w) (hs : s.size ≤ 1000) (l0 : -9223372036854775808 ≤ lo) (l1 : lo ≤ 9223372036854775807) (h0 : -9223372036854775808 ≤ hi) (h1 : hi ≤ 9223372036854775807) :
    Calls Tryd.prog 3 #[.string s, .int .i64 lo, .int .i64 hi] w fun e w' => e = .returned (.bool true) ∧ Below w.heap.size w w' := by
  have HE := Lib.hid he
  have q : decide ((1000 : Int) < (s.size : Int)) = false := by simp; omega
  obtain ⟨⟨a, b⟩, hab⟩ : ∃ r, Pl.intE (Pl.L s) lo hi = r := ⟨_, rfl⟩
  obtain ⟨x, hx⟩ : ∃ r, Lib.itoa lo = r := ⟨_, rfl⟩
  obtain ⟨y, hy⟩ : ∃ r, Lib.itoa hi = r := ⟨_, rfl⟩
  obtain ⟨z, hz⟩ : ∃ r, Pl.name (Pl.L s) = r := ⟨_, rfl⟩
  have K1 := fun w he => Int_any s lo hi w he (by omega) l0 l1 h0 h1
  have K2 := fun w => rInt_any s lo hi w (by omega) l0 l1 h0 h1
  have K3 := fun w he => Digits_any lo w he l0 l1
  have K4 := fun w => rDigits_any lo w l0 l1
  have K5 := fun w he => Digits_any hi w he h0 h1
  have K6 := fun w => rDigits_any hi w h0 h1
  have K7 := fun w => Name_any s w (by omega)
  have K8 := fun w => rName_any s w (by omega)
  rw [hab] at K1 K2
  rw [hx] at K3 K4
  rw [hy] at K5 K6
  rw [hz] at K7 K8
  have J1 := Lib.hid K1
  clear K1
  have J2 := Lib.hid K2
  clear K2
  have J3 := Lib.hid K3
  clear K3
  have J4 := Lib.hid K4
  clear K4
  have J5 := Lib.hid K5
  clear K5
  have J6 := Lib.hid K6
  clear K6
  have J7 := Lib.hid K7
  clear K7
  have J8 := Lib.hid K8
  clear K8
  clear he hab hx hy hz
  go_enter Tryd.func3, Tryd.ntmps3
  have HB := Lib.hid (Below.refl w.heap.size w)
  go_wp2_with fail
  refine (J1.out _ HE.out.2.1).mono ?_
  rintro e w1 ⟨rfl, hb⟩
  have HB := Lib.hid (below_of HB.out hb (Nat.le_refl _))
  have HE := Lib.hid (HE.out.below hb)
  clear hb
  go_wp2_with fail
  refine (J2.out _).mono ?_
  rintro e w' ⟨rfl, rfl⟩
  go_wp2_with fail
  refine (J7.out _).mono ?_
  rintro e w' ⟨rfl, rfl⟩
  go_wp2_with fail
  refine (J8.out _).mono ?_
  rintro e w' ⟨rfl, rfl⟩
  go_wp2_with fail
  refine (J3.out _ HE.out.2.1).mono ?_
  rintro e w3 ⟨rfl, hb⟩
  have HB := Lib.hid (below_of HB.out hb (Nat.le_refl _))
  have HE := Lib.hid (HE.out.below hb)
  clear hb
  go_wp2_with fail
  refine (J4.out _).mono ?_
  rintro e w4 ⟨rfl, hb⟩
  have HB := Lib.hid (below_of HB.out hb (Nat.le_refl _))
  have HE := Lib.hid (HE.out.below hb)
  clear hb
  go_wp2_with fail
  refine (J5.out _ HE.out.2.1).mono ?_
  rintro e w5 ⟨rfl, hb⟩
  have HB := Lib.hid (below_of HB.out hb (Nat.le_refl _))
  have HE := Lib.hid (HE.out.below hb)
  clear hb
  go_wp2_with fail
  refine (J6.out _).mono ?_
  rintro e w6 ⟨rfl, hb⟩
  have HB := Lib.hid (below_of HB.out hb (Nat.le_refl _))
  have HE := Lib.hid (HE.out.below hb)
  clear hb
  go_wp2_with fail
  refine (shown_any _ HE.out).mono ?_
  rintro e w9 ⟨rfl, hb⟩
  have HB := Lib.hid (below_of HB.out hb (Nat.le_refl _))
  clear hb
  go_wp2_with fail
  go_ret
  exact ⟨by simp [Array.getD], HB.out⟩

theorem names_any (s : ByteArray) (lo hi : Int) (w : World) (he : Env w) (l0 : -9223372036854775808 ≤ lo) (l1 : lo ≤ 9223372036854775807) (h0 : -9223372036854775808 ≤ hi) (h1 : hi ≤ 9223372036854775807) (hs : s.size ≤ 9223372036854775807) :
    Calls Tryd.prog 3 #[.string s, .int .i64 lo, .int .i64 hi] w fun e w' => e = .returned (.bool true) ∧ Below w.heap.size w w' := by
  by_cases h : 1000 < s.size
  · exact namesLong s lo hi w he h hs
  · exact namesShort s lo hi w he (by omega) l0 l1 h0 h1
end Go.Proofs.YthllpggcgfokaaaDoor
