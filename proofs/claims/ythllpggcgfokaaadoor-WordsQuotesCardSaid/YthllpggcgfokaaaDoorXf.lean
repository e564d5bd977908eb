/-
  The walk of WordsQuotes.
-/
import Derived.Test.YthllpggcgfokaaaDoorXe
import Derived.Test.YthllpggcgfokaaaDoorWs
namespace Go.Proofs.YthllpggcgfokaaaDoor
open Go.ChangeShapes Go.WideShapes Go.ChangeAt Go.RowKit Go.Proofs

set_option maxRecDepth 100000 in
theorem quotesLong (s : ByteArray) (w : World) (he : Env w) (hs : 1000 < s.size) (hb : s.size ≤ 9223372036854775807) :
    Calls Tryd.prog 4 #[.string s] w fun e w' => e = .returned (.bool true) ∧ Below w.heap.size w w' := by
  have HE := Lib.hid he
  clear he
  have q : decide ((1000 : Int) < (s.size : Int)) = true := by simp; omega
  go_enter Tryd.func4, Tryd.ntmps4
  go_wp2_with (go_at_call 11; refine (shown_any _ HE.out).mono ?_; rintro e w1 ⟨rfl, hb2⟩; have HB := Lib.hid hb2; clear hb2)
  go_ret
  exact ⟨rfl, HB.out⟩

theorem Unquote_any (s : ByteArray) (w : World) (he : EscAt w) (hs : s.size ≤ 4294967295) :
    Calls Tryd.prog 18 #[.string s] w fun e w' => e = .returned (unqV (Pl.unq (Pl.L s))) ∧ Below w.heap.size w w' := by
  cases h : Pl.unq (Pl.L s) with
  | some T => exact Unquote_yes s T w he hs h
  | none => exact Unquote_no s w he hs h

set_option maxRecDepth 100000 in
set_option maxHeartbeats 1000000 in
theorem quotesShort (s : ByteArray) (w : World) (he : Env w) (hs : s.size ≤ 1000) :
    Calls Tryd.prog 4 #[.string s] w fun e w' => e = .returned (.bool true) ∧ Below w.heap.size w w' := by
  have HE := Lib.hid he
  have q : decide ((1000 : Int) < (s.size : Int)) = false := by simp; omega
  have huv : ∃ (t : ByteArray) (n : Int), unqV (Pl.unq (Pl.L s)) = .tuple #[.string t, .int .i64 n] := by
    cases Pl.unq (Pl.L s) with
    | some T => exact ⟨_, _, rfl⟩
    | none => exact ⟨_, _, rfl⟩
  obtain ⟨t, n, huv⟩ := huv
  obtain ⟨y, hy⟩ : ∃ r : ByteArray, ⟨(Pl.quote (Pl.L s)).toArray⟩ = r := ⟨_, rfl⟩
  have K1 := fun w he => Unquote_any s w he (by omega)
  have K2 := fun w => rUnquote_any s w (by omega)
  have K3 := fun w he => Quote_any s w he (by omega)
  have K4 := fun w => rQuote_any s w (by omega)
  rw [huv] at K1 K2
  rw [hy] at K3 K4
  have J1 := Lib.hid K1
  have J2 := Lib.hid K2
  have J3 := Lib.hid K3
  have J4 := Lib.hid K4
  clear he huv hy K1 K2 K3 K4
  go_enter Tryd.func4, Tryd.ntmps4
  have HB := Lib.hid (Below.refl w.heap.size w)
  go_wp2_with fail
  refine (J1.out _ HE.out.1).mono ?_
  rintro e w1 ⟨rfl, hb⟩
  have HB := Lib.hid (below_of HB.out hb (Nat.le_refl _))
  have HE := Lib.hid (HE.out.below hb)
  clear hb
  go_wp2_with fail
  refine (J2.out _).mono ?_
  rintro e w2 ⟨rfl, hb⟩
  have HB := Lib.hid (below_of HB.out hb (Nat.le_refl _))
  have HE := Lib.hid (HE.out.below hb)
  clear hb
  go_wp2_with fail
  refine (J3.out _ HE.out.1).mono ?_
  rintro e w3 ⟨rfl, hb⟩
  have HB := Lib.hid (below_of HB.out hb (Nat.le_refl _))
  have HE := Lib.hid (HE.out.below hb)
  clear hb
  go_wp2_with fail
  refine (J4.out _).mono ?_
  rintro e w4 ⟨rfl, hb⟩
  have HB := Lib.hid (below_of HB.out hb (Nat.le_refl _))
  have HE := Lib.hid (HE.out.below hb)
  clear hb
  go_wp2_with fail
  refine (shown_any _ HE.out).mono ?_
  rintro e w9 ⟨rfl, hb⟩
  have HB := Lib.hid (below_of HB.out hb (Nat.le_refl _))
  clear hb
  go_wp2_with fail
  go_ret
  exact ⟨by simp [Array.getD], HB.out⟩

theorem quotes_any (s : ByteArray) (w : World) (he : Env w) (hs : s.size ≤ 9223372036854775807) :
    Calls Tryd.prog 4 #[.string s] w fun e w' => e = .returned (.bool true) ∧ Below w.heap.size w w' := by
  by_cases h : 1000 < s.size
  · exact quotesLong s w he h hs
  · exact quotesShort s w he (by omega)
end Go.Proofs.YthllpggcgfokaaaDoor
