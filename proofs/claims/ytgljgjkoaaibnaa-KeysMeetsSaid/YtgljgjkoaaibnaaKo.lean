/-
  Contracts of Of, on both sides.
-/
import Derived.Test.YtgljgjkoaaibnaaKn
namespace Go.Proofs.Ytgljgjkoaaibnaa.KK
open Go.ChangeShapes Go.WideShapes Go.ChangeAt Go.RowKit Go.Proofs

theorem bcell {W w1 : World} (hb : Below W.heap.size W w1) : (∀ b o, b < W.heap.size → w1.cell? ⟨b, o, none⟩ = W.cell? ⟨b, o, none⟩) ∧ (∀ b o, b < W.heap.size → w1.frozen? ⟨b, o, none⟩ = W.frozen? ⟨b, o, none⟩) :=
  ⟨fun b o h => hb.cell (p := ⟨b, o, none⟩) h, fun b o h => hb.frozen (p := ⟨b, o, none⟩) h⟩
/-- what Of answers: the range's ends, whether it is bound, and the error -/
def ofHi (l : List UInt8) : List UInt8 := if l.length ≤ 32 then (Kl.rai l).getD [] else []
def ofB (l : List UInt8) : Bool := if l.length ≤ 32 then (Kl.rai l).isSome else false
def ofLo (l : List UInt8) : List UInt8 := if l.length ≤ 32 then l else []

theorem set3 {B : Nat} {w w1 : World} {g : Nat} (h : Below B w w1) (hg : B ≤ g) (a b c : Value) : Below B w (((w1.setCell ⟨g, 0, none⟩ a).setCell ⟨g, 1, none⟩ b).setCell ⟨g, 2, none⟩ c) :=
  ((h.setCell hg _).setCell hg _).setCell hg _

set_option maxRecDepth 100000 in
set_option maxHeartbeats 1000000 in
theorem kOf_any (s : ByteArray) (w : World) (hs : s.size ≤ 9223372036854775807) :
    Calls Try.prog 33 #[.string s] w fun e w' => e = .returned (.tuple #[.agg #[.string ⟨(ofLo (Kl.L s)).toArray⟩, .string ⟨(ofHi (Kl.L s)).toArray⟩, .bool (ofB (Kl.L s))], .int .i64 (chk1 s.size)]) ∧ Below w.heap.size w w' := by
  have K1 := fun w => kCheck_any s w hs
  have K2 := fun w => past_any s w hs
  by_cases h : s.size ≤ 32
  · rw [chk1_ok h]
    rw [chk1_ok h] at K1
    have J1 := Lib.hid K1
    have HL : Hid ((⟨(ofLo (Kl.L s)).toArray⟩ : ByteArray) = s) := Lib.hid (by unfold ofLo; rw [Kl.L_length, if_pos h, ← mk_L])
    cases hr : Kl.rai (Kl.L s) with
    | none =>
      rw [hr] at K2
      have J2 := Lib.hid K2
      have HH : Hid (ofHi (Kl.L s) = []) := Lib.hid (by unfold ofHi; rw [Kl.L_length, if_pos h, hr]; rfl)
      have HBB : Hid (ofB (Kl.L s) = false) := Lib.hid (by unfold ofB; rw [Kl.L_length, if_pos h, hr]; rfl)
      rw [HL.out, HH.out, HBB.out]
      clear K2 hr h K1
      go_enter Try.func33, Try.ntmps33
      go_wp2_with fail
      refine (J1.out _).mono ?_
      rintro e w' ⟨rfl, rfl⟩
      go_wp2_with fail
      refine (J2.out _).mono ?_
      rintro e w1 ⟨rfl, hb⟩
      obtain ⟨hc, hf⟩ := bcell hb
      have hz : w.heap.size + 1 ≤ w1.heap.size := by have := hb.size; simpa using this
      have hz' : w.heap.size < w1.heap.size := by omega
      have HB := Lib.hid (((Below.refl w.heap.size w).alloc (Nat.le_refl _) _).trans (hb.mono (by simp)))
      clear hb
      unfold pastV
      go_wp2_with fail
      exact bodyPost_ret (v := .tuple #[.agg #[.string s, .string ⟨#[]⟩, .bool false], .int .i64 0]) (by simp [results, Try.results33, go_sem, hc, hf, hz']) rfl ⟨rfl, by first | exact set3 HB.out (Nat.le_refl _) _ _ _ | exact HB.out⟩
    | some p =>
      rw [hr] at K2
      have J2 := Lib.hid K2
      have HH : Hid (ofHi (Kl.L s) = p) := Lib.hid (by unfold ofHi; rw [Kl.L_length, if_pos h, hr]; rfl)
      have HBB : Hid (ofB (Kl.L s) = true) := Lib.hid (by unfold ofB; rw [Kl.L_length, if_pos h, hr]; rfl)
      rw [HL.out, HH.out, HBB.out]
      clear K2 hr h K1
      go_enter Try.func33, Try.ntmps33
      go_wp2_with fail
      refine (J1.out _).mono ?_
      rintro e w' ⟨rfl, rfl⟩
      go_wp2_with fail
      refine (J2.out _).mono ?_
      rintro e w1 ⟨rfl, hb⟩
      obtain ⟨hc, hf⟩ := bcell hb
      have hz : w.heap.size + 1 ≤ w1.heap.size := by have := hb.size; simpa using this
      have hz' : w.heap.size < w1.heap.size := by omega
      have HB := Lib.hid (((Below.refl w.heap.size w).alloc (Nat.le_refl _) _).trans (hb.mono (by simp)))
      clear hb
      unfold pastV
      go_wp2_with fail
      exact bodyPost_ret (v := .tuple #[.agg #[.string s, .string ⟨p.toArray⟩, .bool true], .int .i64 0]) (by simp [results, Try.results33, go_sem, hc, hf, hz']) rfl ⟨rfl, by first | exact set3 HB.out (Nat.le_refl _) _ _ _ | exact HB.out⟩
  · rw [chk1_no h]
    rw [chk1_no h] at K1
    have J1 := Lib.hid K1
    have HL : Hid (ofLo (Kl.L s) = []) := Lib.hid (by unfold ofLo; rw [Kl.L_length, if_neg h])
    have HH : Hid (ofHi (Kl.L s) = []) := Lib.hid (by unfold ofHi; rw [Kl.L_length, if_neg h])
    have HBB : Hid (ofB (Kl.L s) = false) := Lib.hid (by unfold ofB; rw [Kl.L_length, if_neg h])
    rw [HL.out, HH.out, HBB.out]
    clear K2 h K1
    go_enter Try.func33, Try.ntmps33
    go_wp2_with fail
    refine (J1.out _).mono ?_
    rintro e w' ⟨rfl, rfl⟩
    go_wp2_with fail
    exact bodyPost_ret (v := .tuple #[.agg #[.string ⟨#[]⟩, .string ⟨#[]⟩, .bool false], .int .i64 3]) (by simp [results, Try.results33, go_sem]) rfl ⟨rfl, by first | exact set3 ((Below.refl w.heap.size w).alloc (Nat.le_refl _) _) (Nat.le_refl _) _ _ _ | exact (Below.refl w.heap.size w).alloc (Nat.le_refl _) _⟩

set_option maxRecDepth 100000 in
set_option maxHeartbeats 1000000 in
theorem rOf_any (s : ByteArray) (w : World) (hs : s.size ≤ 9223372036854775807) :
    Calls Try.prog 34 #[.string s] w fun e w' => e = .returned (.tuple #[.agg #[.string ⟨(ofLo (Kl.L s)).toArray⟩, .string ⟨(ofHi (Kl.L s)).toArray⟩, .bool (ofB (Kl.L s))], .int .i64 (chk1 s.size)]) ∧ Below w.heap.size w w' := by
  have K2 := fun w => rPast_any s w hs
  by_cases h : s.size ≤ 32
  · rw [chk1_ok h]
    have HL : Hid ((⟨(ofLo (Kl.L s)).toArray⟩ : ByteArray) = s) := Lib.hid (by unfold ofLo; rw [Kl.L_length, if_pos h, ← mk_L])
    cases hr : Kl.rai (Kl.L s) with
    | none =>
      have hp : pastE (Kl.L s) = (4, []) := by unfold pastE; rw [Kl.L_length, if_neg (by omega), hr]
      rw [hp] at K2
      have J2 := Lib.hid K2
      have HH : Hid (ofHi (Kl.L s) = []) := Lib.hid (by unfold ofHi; rw [Kl.L_length, if_pos h, hr]; rfl)
      have HBB : Hid (ofB (Kl.L s) = false) := Lib.hid (by unfold ofB; rw [Kl.L_length, if_pos h, hr]; rfl)
      rw [HL.out, HH.out, HBB.out]
      clear K2 hr h hp
      go_enter Try.func34, Try.ntmps34
      go_wp2_with fail
      refine (J2.out _).mono ?_
      rintro e w1 ⟨rfl, hb⟩
      obtain ⟨hc, hf⟩ := bcell hb
      have hz : w.heap.size + 1 ≤ w1.heap.size := by have := hb.size; simpa using this
      have hz' : w.heap.size < w1.heap.size := by omega
      have HB := Lib.hid (((Below.refl w.heap.size w).alloc (Nat.le_refl _) _).trans (hb.mono (by simp)))
      clear hb
      unfold strE
      go_wp2_with fail
      exact bodyPost_ret (v := .tuple #[.agg #[.string s, .string ⟨#[]⟩, .bool false], .int .i64 0]) (by simp [results, Try.results34, go_sem, hc, hf, hz']) rfl ⟨rfl, by first | exact set3 HB.out (Nat.le_refl _) _ _ _ | exact HB.out⟩
    | some p =>
      have hp : pastE (Kl.L s) = (0, p) := by unfold pastE; rw [Kl.L_length, if_neg (by omega), hr]
      rw [hp] at K2
      have J2 := Lib.hid K2
      have HH : Hid (ofHi (Kl.L s) = p) := Lib.hid (by unfold ofHi; rw [Kl.L_length, if_pos h, hr]; rfl)
      have HBB : Hid (ofB (Kl.L s) = true) := Lib.hid (by unfold ofB; rw [Kl.L_length, if_pos h, hr]; rfl)
      rw [HL.out, HH.out, HBB.out]
      clear K2 hr h hp
      go_enter Try.func34, Try.ntmps34
      go_wp2_with fail
      refine (J2.out _).mono ?_
      rintro e w1 ⟨rfl, hb⟩
      obtain ⟨hc, hf⟩ := bcell hb
      have hz : w.heap.size + 1 ≤ w1.heap.size := by have := hb.size; simpa using this
      have hz' : w.heap.size < w1.heap.size := by omega
      have HB := Lib.hid (((Below.refl w.heap.size w).alloc (Nat.le_refl _) _).trans (hb.mono (by simp)))
      clear hb
      unfold strE
      go_wp2_with fail
      exact bodyPost_ret (v := .tuple #[.agg #[.string s, .string ⟨p.toArray⟩, .bool true], .int .i64 0]) (by simp [results, Try.results34, go_sem, hc, hf, hz']) rfl ⟨rfl, by first | exact set3 HB.out (Nat.le_refl _) _ _ _ | exact HB.out⟩
  · rw [chk1_no h]
    have hp : pastE (Kl.L s) = (3, []) := by unfold pastE; rw [Kl.L_length, if_pos (by omega)]
    rw [hp] at K2
    have J1 := Lib.hid K2
    have HL : Hid (ofLo (Kl.L s) = []) := Lib.hid (by unfold ofLo; rw [Kl.L_length, if_neg h])
    have HH : Hid (ofHi (Kl.L s) = []) := Lib.hid (by unfold ofHi; rw [Kl.L_length, if_neg h])
    have HBB : Hid (ofB (Kl.L s) = false) := Lib.hid (by unfold ofB; rw [Kl.L_length, if_neg h])
    rw [HL.out, HH.out, HBB.out]
    clear K2 h hp
    go_enter Try.func34, Try.ntmps34
    go_wp2_with fail
    refine (J1.out _).mono ?_
    rintro e w1 ⟨rfl, hb⟩
    obtain ⟨hc, hf⟩ := bcell hb
    have hz : w.heap.size + 1 ≤ w1.heap.size := by have := hb.size; simpa using this
    have hz' : w.heap.size < w1.heap.size := by omega
    have HB := Lib.hid (((Below.refl w.heap.size w).alloc (Nat.le_refl _) _).trans (hb.mono (by simp)))
    clear hb
    unfold strE
    go_wp2_with fail
    exact bodyPost_ret (v := .tuple #[.agg #[.string ⟨#[]⟩, .string ⟨#[]⟩, .bool false], .int .i64 3]) (by simp [results, Try.results34, go_sem, hc, hf, hz']) rfl ⟨rfl, by first | exact set3 HB.out (Nat.le_refl _) _ _ _ | exact HB.out⟩
end Go.Proofs.Ytgljgjkoaaibnaa.KK
