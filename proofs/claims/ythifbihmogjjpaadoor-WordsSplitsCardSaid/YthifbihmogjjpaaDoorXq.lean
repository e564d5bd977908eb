/-
  The walk of WordsSplits.
-/
import Derived.Test.YthifbihmogjjpaaDoorXn
import Derived.Test.YthifbihmogjjpaaDoorWs
namespace Go.Proofs.YthifbihmogjjpaaDoor
open Go.ChangeShapes Go.WideShapes Go.ChangeAt Go.RowKit Go.Proofs

theorem rSplit_any (s : ByteArray) (w : World) (hs : s.size ≤ 4294967295) : Calls Tryd.prog 10 #[.string s] w (SplitOut (Pl.L s) w) := by
  by_cases h : 8192 < s.size
  · exact rSplit_long s w h hs
  · by_cases h0 : s.size = 0
    · exact rSplit_nil s w h0
    · exact rSplit_main s w (by omega) (by omega)
theorem split_few (s : ByteArray) : (Pl.split (Pl.L s)).2.length ≤ 64 := by
  unfold Pl.split
  split
  · exact Nat.zero_le _
  split
  · exact Nat.zero_le _
  split
  · exact Nat.zero_le _
  · rename_i h
    rw [Bool.not_eq_true] at h
    unfold Pl.tooL at h
    rw [Bool.or_eq_false_iff] at h
    simpa using h.1

set_option maxRecDepth 100000 in
set_option maxHeartbeats 1000000 in
theorem splits_any (s : ByteArray) (w : World) (he : Env w) (hs : s.size ≤ 9223372036854775807) :
    Calls Tryd.prog 3 #[.string s] w fun e w' => e = .returned (.bool true) ∧ Below w.heap.size w w' := by
  have HE := Lib.hid he
  clear he
  by_cases hb : 9000 < s.size
  · go_enter Tryd.func3, Tryd.ntmps3
    have h1 : ¬ s.size ≤ 8192 := by omega
    go_wp2_with fail
    refine (shown_any _ HE.out).mono ?_
    rintro e w9 ⟨rfl, hb⟩
    have HB := Lib.hid hb
    clear hb
    go_wp2_with fail
    go_ret
    exact ⟨by simp [Array.getD], HB.out⟩
  by_cases hm : 3000 < s.size ∧ s.size ≤ 8192
  · obtain ⟨h1, h2⟩ := hm
    go_enter Tryd.func3, Tryd.ntmps3
    go_wp2_with fail
    refine (shown_any _ HE.out).mono ?_
    rintro e w9 ⟨rfl, hb⟩
    have HB := Lib.hid hb
    clear hb
    go_wp2_with fail
    go_ret
    exact ⟨by simp [Array.getD], HB.out⟩
  · have hfew := split_few s
    obtain ⟨⟨ev, fs⟩, hj⟩ : ∃ y, Pl.split (Pl.L s) = y := ⟨_, rfl⟩
    have K1 : ∀ w, EscAt w → Calls Tryd.prog 9 #[.string s] w fun e w' => ∃ A c, e = .returned (.tuple #[.slice A fs.length c, .int .i64 ev]) ∧ FldsAt w' A fs ∧ Below w.heap.size w w' := fun w h => by
      have := Split_any s w h (by omega)
      unfold SplitOut at this
      rwa [hj] at this
    have K2 : ∀ w, Calls Tryd.prog 10 #[.string s] w fun e w' => ∃ A c, e = .returned (.tuple #[.slice A fs.length c, .int .i64 ev]) ∧ FldsAt w' A fs ∧ Below w.heap.size w w' := fun w => by
      have := rSplit_any s w (by omega)
      unfold SplitOut at this
      rwa [hj] at this
    rw [hj] at hfew
    replace hfew : fs.length ≤ 64 := hfew
    have J1 := Lib.hid K1
    have J2 := Lib.hid K2
    clear K1 K2 hj
    by_cases h1 : 3000 < s.size
    all_goals
      go_enter Tryd.func3, Tryd.ntmps3
      (try have h2 : ¬ s.size ≤ 8192 := by omega)
      clear hm
      go_wp2_with fail
      refine (J1.out _ HE.out.1).mono ?_
      rintro e w1 ⟨A, c, rfl, hf, hb1⟩
      have HB := Lib.hid hb1
      have HE := Lib.hid (HE.out.below hb1)
      have HF := Lib.hid hf
      clear hb1 hf
      go_wp2_with fail
      refine (J2.out _).mono ?_
      rintro e w2 ⟨B, d, rfl, hg, hb1⟩
      have HB := Lib.hid (below_of HB.out hb1 (Nat.le_refl _))
      have HE := Lib.hid (HE.out.below hb1)
      have HF := Lib.hid (HF.out.below hb1 (Nat.le_refl _))
      have HG := Lib.hid hg
      clear hb1 hg
      go_wp2_with fail
      refine (Same_any A B c d fs fs w2 HF.out HG.out (by omega) (by omega)).mono ?_
      rw [decide_eq_true (rfl : fs = fs)]
      rintro e w3 ⟨rfl, hb1⟩
      have HB := Lib.hid (below_of HB.out hb1 (Nat.le_refl _))
      have HE := Lib.hid (HE.out.below hb1)
      clear hb1
      go_wp2_with fail
      refine (shown_any _ HE.out).mono ?_
      rintro e w9 ⟨rfl, hb1⟩
      have HB := Lib.hid (below_of HB.out hb1 (Nat.le_refl _))
      clear hb1
      go_wp2_with fail
      go_ret
      exact ⟨by simp [Array.getD], HB.out⟩
end Go.Proofs.YthifbihmogjjpaaDoor
