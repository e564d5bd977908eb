/-
  The walk of WordsJoins.
-/
import Derived.Test.YthllpggcgfokaaaDoorXj
import Derived.Test.YthllpggcgfokaaaDoorWs
namespace Go.Proofs.YthllpggcgfokaaaDoor
open Go.ChangeShapes Go.WideShapes Go.ChangeAt Go.RowKit Go.Proofs

theorem farL_len {fs : List (List UInt8 × Bool)} (h : farL fs = false) : fs.length ≤ 70 := by
  unfold farL at h
  rw [Bool.or_eq_false_iff, Bool.or_eq_false_iff] at h
  simpa using h.1.1

set_option maxRecDepth 100000 in
set_option maxHeartbeats 1000000 in
theorem joins_any (A : Option Addr) (c : Nat) (fs : List (List UInt8 × Bool)) (w : World) (he : Env w) (hf : FldsAt w A fs) (hn : fs.length ≤ 9223372036854775807) :
    Calls Tryd.prog 6 #[.slice A fs.length c] w fun e w' => e = .returned (.bool true) ∧ Below w.heap.size w w' := by
  have HE := Lib.hid he
  have HF := Lib.hid hf
  cases hfar : farL fs with
  | true =>
    have hfa := far_any A c fs w hf hn
    rw [hfar] at hfa
    have HFA := Lib.hid hfa
    clear hfa hfar he hf
    go_enter Tryd.func6, Tryd.ntmps6
    go_wp2_with fail
    refine HFA.out.mono ?_
    rintro e w' ⟨rfl, rfl⟩
    go_wp2_with fail
    refine (shown_any _ HE.out).mono ?_
    rintro e w9 ⟨rfl, hb⟩
    have HB := Lib.hid hb
    clear hb
    go_wp2_with fail
    go_ret
    exact ⟨by simp [Array.getD], HB.out⟩
  | false =>
    have h70 := farL_len hfar
    have hfa := far_any A c fs w hf hn
    rw [hfar] at hfa
    obtain ⟨⟨n, t⟩, hj⟩ : ∃ y, Pl.join fs = y := ⟨_, rfl⟩
    have K1 := fun w he hf => Join_any A c fs w he hf (by omega)
    have K2 := fun w hf => rJoin_any A c fs w hf (by omega)
    rw [hj] at K1 K2
    have J1 := Lib.hid K1
    have J2 := Lib.hid K2
    have HFA := Lib.hid hfa
    clear hfa hfar he hf hj K1 K2
    go_enter Tryd.func6, Tryd.ntmps6
    go_wp2_with fail
    refine HFA.out.mono ?_
    rintro e w' ⟨rfl, rfl⟩
    have HB := Lib.hid (Below.refl w.heap.size w)
    go_wp2_with fail
    refine (J1.out _ HE.out.1 HF.out).mono ?_
    rintro e w1 ⟨rfl, hb⟩
    have HB := Lib.hid (below_of HB.out hb (Nat.le_refl _))
    have HE := Lib.hid (HE.out.below hb)
    have HF := Lib.hid (HF.out.below hb (Nat.le_refl _))
    clear hb
    go_wp2_with fail
    refine (J2.out _ HF.out).mono ?_
    rintro e w2 ⟨rfl, hb⟩
    have HB := Lib.hid (below_of HB.out hb (Nat.le_refl _))
    have HE := Lib.hid (HE.out.below hb)
    clear hb
    go_wp2_with fail
    refine (shown_any _ HE.out).mono ?_
    rintro e w9 ⟨rfl, hb⟩
    have HB := Lib.hid (below_of HB.out hb (Nat.le_refl _))
    clear hb
    go_wp2_with fail
    go_ret
    exact ⟨by simp [Array.getD], HB.out⟩
end Go.Proofs.YthllpggcgfokaaaDoor
