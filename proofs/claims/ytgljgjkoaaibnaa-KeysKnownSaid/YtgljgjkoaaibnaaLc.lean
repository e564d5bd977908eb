/-
  The walk of KeysKnown.
-/
import Derived.Test.YtgljgjkoaaibnaaMb
import Derived.Test.YtgljgjkoaaibnaaKs
import Derived.Test.YtgljgjkoaaibnaaKy
namespace Go.Proofs.Ytgljgjkoaaibnaa.KK
open Go.ChangeShapes Go.WideShapes Go.ChangeAt Go.RowKit Go.Proofs

def tms (l : List UInt8) : Nat → List UInt8
  | 0 => []
  | n + 1 => tms l n ++ l
theorem tms_length (l : List UInt8) : ∀ n, (tms l n).length = n * l.length
  | 0 => by simp [tms]
  | n + 1 => by rw [tms, List.length_append, tms_length l n, Nat.succ_mul]
theorem times_any (c : UInt8) (n : Nat) (w : World) (hn : n ≤ 1000) :
    Calls Try.prog 40 #[.string ⟨#[c]⟩, .int .i64 (n : Int)] w fun e w' => e = .returned (.string ⟨(tms [c] n).toArray⟩) ∧ w = w' := by
  go_enter Try.func40, Try.ntmps40
  go_wp2_with fail
  go_loop [5, 6] (fun v i => ∃ k : Nat, k ≤ n ∧ i = .int .i64 k ∧ v = .string ⟨(tms [c] k).toArray⟩) (fun _ i => n - (intOf i).toNat)
  case atStart => exact ⟨0, Nat.zero_le _, rfl, rfl⟩
  case round =>
    obtain ⟨k, hk, rfl, rfl⟩ := hrel
    by_cases hlt : k < n
    · have hl := tms_length [c] k
      have hz : ¬ 9223372036854775807 < (tms [c] k).length + 1 := by rw [hl]; simp; omega
      have HE : Hid ((⟨(tms [c] (k + 1)).toArray⟩ : ByteArray) = ⟨(tms [c] k).toArray⟩ ++ ⟨#[c]⟩) := Lib.hid (by rw [tms, ← bytes_app])
      have d1 : decide (k < n) = true := by simpa using hlt
      clear hl
      go_wp2_with fail
      go_round
      case rel => exact ⟨k + 1, by omega, by go_num, by rw [HE.out]⟩
      case measure => simp [intOf]; omega
    · have d1 : decide (k < n) = false := by simpa using hlt
      obtain rfl : k = n := by omega
      go_wp2_with fail
      go_ret
      exact ⟨rfl, rfl⟩
theorem next_is (s : ByteArray) (t : ByteArray) (e : Int) (w : World) (hs : s.size ≤ 9223372036854775807) (h : nextE (Kl.L s) = (e, Kl.L t)) :
    Calls Try.prog 19 #[.string s] w fun e' w' => e' = .returned (.tuple #[.string t, .int .i64 e]) ∧ Below w.heap.size w w' := by
  have := kNext_any s w hs
  rw [h, strE_eta, ← mk_L] at this
  exact this
theorem past_is (s : ByteArray) (t : ByteArray) (e : Int) (w : World) (hs : s.size ≤ 9223372036854775807) (h : pastE (Kl.L s) = (e, Kl.L t)) :
    Calls Try.prog 21 #[.string s] w fun e' w' => e' = .returned (.tuple #[.string t, .int .i64 e]) ∧ Below w.heap.size w w' := by
  have := kPast_any s w hs
  rw [h, strE_eta, ← mk_L] at this
  exact this
theorem btw_is (a b : ByteArray) (t : ByteArray) (e : Int) (w : World) (ha : a.size ≤ 9223372036854775807) (hb : b.size ≤ 9223372036854775807) (h : btwE (Kl.L a) (Kl.L b) = (e, Kl.L t)) :
    Calls Try.prog 23 #[.string a, .string b] w fun e' w' => e' = .returned (.tuple #[.string t, .int .i64 e]) ∧ Below w.heap.size w w' := by
  have := kBetween_any a b w ha hb
  rw [h, strE_eta, ← mk_L] at this
  exact this
theorem read_is (s : ByteArray) (t : ByteArray) (e : Int) (w : World) (hs : s.size ≤ 4294967295) (h : Kl.readE (Kl.L s) = (e, Kl.L t)) :
    Calls Try.prog 37 #[.string s] w fun e' w' => e' = .returned (.tuple #[.string t, .int .i64 e]) ∧ Below w.heap.size w w' := by
  have := kRead_any s w hs
  rw [h, strE_eta, ← mk_L] at this
  exact this
theorem ex_of (w : World) : Calls Try.prog 33 #[.string ⟨#[97, 98]⟩] w fun e w' => e = .returned (.tuple #[.agg #[.string ⟨#[97, 98]⟩, .string ⟨#[97, 99]⟩, .bool true], .int .i64 0]) ∧ Below w.heap.size w w' := by
  have h := kOf_any ⟨#[97, 98]⟩ w (by decide)
  have e1 : ofLo (Kl.L ⟨#[97, 98]⟩) = [97, 98] := by decide +kernel
  have e2 : ofHi (Kl.L ⟨#[97, 98]⟩) = [97, 99] := by decide +kernel
  have e3 : ofB (Kl.L ⟨#[97, 98]⟩) = true := by decide +kernel
  rw [e1, e2, e3] at h
  exact h
theorem ex_meet (w : World) : Calls Try.prog 29 #[.agg #[.string ⟨#[97, 98]⟩, .string ⟨#[97, 99]⟩, .bool true], .agg #[.string ⟨#[97, 98, 99]⟩, .string ⟨#[]⟩, .bool false]] w fun e w' => e = .returned (.tuple #[.agg #[.string ⟨#[97, 98, 99]⟩, .string ⟨#[97, 99]⟩, .bool true], .int .i64 0]) ∧ Below w.heap.size w w' := by
  have h := kMeet_any ⟨#[97, 98]⟩ ⟨#[97, 99]⟩ true ⟨#[97, 98, 99]⟩ ⟨#[]⟩ false w (by decide) (by decide) (by decide) (by decide)
  have e1 : mErr ⟨#[97, 98]⟩ ⟨#[97, 99]⟩ true ⟨#[97, 98, 99]⟩ ⟨#[]⟩ false = 0 := by decide +kernel
  have e2 : meetV ⟨#[97, 98]⟩ ⟨#[97, 99]⟩ true ⟨#[97, 98, 99]⟩ ⟨#[]⟩ false = (⟨#[97, 98, 99]⟩, ⟨#[97, 99]⟩, true) := by decide +kernel
  rw [e1, e2] at h
  exact h

set_option maxRecDepth 100000 in
set_option maxHeartbeats 4000000 in
theorem KeysKnown_any (w : World) :
    Calls Try.prog 10 #[] w fun e w' => e = .returned (.bool true) ∧ Below w.heap.size w w' := by
  have T32 := fun w => times_any 97 32 w (by decide)
  have T31 := fun w => times_any 97 31 w (by decide)
  have T30 := fun w => times_any 97 30 w (by decide)
  have U32 := fun w => times_any 255 32 w (by decide)
  obtain ⟨A32, hA32⟩ : ∃ x : ByteArray, ⟨(tms [97] 32).toArray⟩ = x := ⟨_, rfl⟩
  obtain ⟨A31, hA31⟩ : ∃ x : ByteArray, ⟨(tms [97] 31).toArray⟩ = x := ⟨_, rfl⟩
  obtain ⟨A30, hA30⟩ : ∃ x : ByteArray, ⟨(tms [97] 30).toArray⟩ = x := ⟨_, rfl⟩
  obtain ⟨F32, hF32⟩ : ∃ x : ByteArray, ⟨(tms [255] 32).toArray⟩ = x := ⟨_, rfl⟩
  have N1 := Lib.hid (fun w => next_is A32 (A31 ++ ⟨#[98]⟩) 0 w (by rw [← hA32]; decide +kernel) (by rw [L_app, ← hA32, ← hA31]; decide +kernel))
  have N2 := Lib.hid (fun w => next_is (A31 ++ ⟨#[255]⟩) (A30 ++ ⟨#[98]⟩) 0 w (by rw [← Kl.L_length, L_app, ← hA31]; decide +kernel) (by rw [L_app, L_app, ← hA30, ← hA31]; decide +kernel))
  have N3 := Lib.hid (fun w => next_is F32 ⟨#[]⟩ 9 w (by rw [← hF32]; decide +kernel) (by rw [← hF32]; decide +kernel))
  have s31 : A31.size = 31 := by rw [← hA31]; decide +kernel
  have s30 : A30.size = 30 := by rw [← hA30]; decide +kernel
  rw [hA32] at T32
  rw [hA31] at T31
  rw [hA30] at T30
  rw [hF32] at U32
  have J32 := Lib.hid T32
  have J31 := Lib.hid T31
  have J30 := Lib.hid T30
  have V32 := Lib.hid U32
  clear T32 T31 T30 U32 hA32 hA31 hA30 hF32
  have B1 := Lib.hid (fun w => kCompare_any ⟨#[98]⟩ ⟨#[97, 98, 99]⟩ w (by decide) (by decide))
  have B2 := Lib.hid (fun w => kCommon_any ⟨#[97, 98, 99]⟩ ⟨#[97, 98, 100]⟩ w (by decide) (by decide))
  have v1 : cmpV ⟨#[98]⟩ ⟨#[97, 98, 99]⟩ = 1 := by decide +kernel
  have v2 : chk2 (⟨#[98]⟩ : ByteArray).size (⟨#[97, 98, 99]⟩ : ByteArray).size = 0 := by decide +kernel
  have v3 : comV ⟨#[97, 98, 99]⟩ ⟨#[97, 98, 100]⟩ = 2 := by decide +kernel
  have v4 : chk2 (⟨#[97, 98, 99]⟩ : ByteArray).size (⟨#[97, 98, 100]⟩ : ByteArray).size = 0 := by decide +kernel
  rw [v1, v2] at B1
  rw [v3, v4] at B2
  have P1 := Lib.hid (fun w => past_is ⟨#[97, 98]⟩ ⟨#[97, 99]⟩ 0 w (by decide) (by decide +kernel))
  have P2 := Lib.hid (fun w => past_is ⟨#[255]⟩ ⟨#[]⟩ 4 w (by decide) (by decide +kernel))
  have P3 := Lib.hid (fun w => past_is ⟨#[]⟩ ⟨#[]⟩ 4 w (by decide) (by decide +kernel))
  have D1 := Lib.hid (fun w => btw_is ⟨#[97, 98]⟩ ⟨#[97, 98, 120, 121, 122]⟩ ⟨#[97, 98, 0]⟩ 0 w (by decide) (by decide) (by decide +kernel))
  have D2 := Lib.hid (fun w => btw_is ⟨#[97]⟩ ⟨#[98]⟩ ⟨#[98]⟩ 0 w (by decide) (by decide) (by decide +kernel))
  have D3 := Lib.hid (fun w => btw_is ⟨#[98]⟩ ⟨#[97]⟩ ⟨#[]⟩ 6 w (by decide) (by decide) (by decide +kernel))
  have E1 := Lib.hid (fun w => read_is ⟨#[92, 120, 54, 49]⟩ ⟨#[]⟩ 6 w (by decide) (by decide +kernel))
  have E2 := Lib.hid (fun w => read_is ⟨#[92, 120, 67, 51]⟩ ⟨#[]⟩ 6 w (by decide) (by decide +kernel))
  have E3 := Lib.hid (fun w => read_is ⟨#[92]⟩ ⟨#[]⟩ 6 w (by decide) (by decide +kernel))
  clear v1 v2 v3 v4
  have HB := Lib.hid (Below.refl w.heap.size w)
  go_enter Try.func10, Try.ntmps10
  go_wp2_with fail
  refine (B1.out _).mono ?_
  rintro e w1 ⟨rfl, hb⟩
  have HB := Lib.hid (below_of HB.out hb (Nat.le_refl _))
  clear hb
  go_wp2_with fail
  refine (B2.out _).mono ?_
  rintro e w2 ⟨rfl, hb⟩
  have HB := Lib.hid (below_of HB.out hb (Nat.le_refl _))
  clear hb
  go_wp2_with fail
  refine (J32.out _).mono ?_
  rintro e w' ⟨rfl, rfl⟩
  go_wp2_with fail
  refine (N1.out _).mono ?_
  rintro e w3 ⟨rfl, hb⟩
  have HB := Lib.hid (below_of HB.out hb (Nat.le_refl _))
  clear hb
  go_wp2_with fail
  refine (J31.out _).mono ?_
  rintro e w' ⟨rfl, rfl⟩
  go_wp2_with fail
  refine (N2.out _).mono ?_
  rintro e w4 ⟨rfl, hb⟩
  have HB := Lib.hid (below_of HB.out hb (Nat.le_refl _))
  clear hb
  go_wp2_with fail
  refine (V32.out _).mono ?_
  rintro e w' ⟨rfl, rfl⟩
  go_wp2_with fail
  refine (N3.out _).mono ?_
  rintro e w5 ⟨rfl, hb⟩
  have HB := Lib.hid (below_of HB.out hb (Nat.le_refl _))
  clear hb
  go_wp2_with fail
  refine (P1.out _).mono ?_
  rintro e w6 ⟨rfl, hb⟩
  have HB := Lib.hid (below_of HB.out hb (Nat.le_refl _))
  clear hb
  go_wp2_with fail
  refine (P2.out _).mono ?_
  rintro e w7 ⟨rfl, hb⟩
  have HB := Lib.hid (below_of HB.out hb (Nat.le_refl _))
  clear hb
  go_wp2_with fail
  refine (P3.out _).mono ?_
  rintro e w8 ⟨rfl, hb⟩
  have HB := Lib.hid (below_of HB.out hb (Nat.le_refl _))
  clear hb
  go_wp2_with fail
  refine (J31.out _).mono ?_
  rintro e w' ⟨rfl, rfl⟩
  go_wp2_with fail
  refine (J30.out _).mono ?_
  rintro e w' ⟨rfl, rfl⟩
  go_wp2_with fail
  refine (D1.out _).mono ?_
  rintro e w9 ⟨rfl, hb⟩
  have HB := Lib.hid (below_of HB.out hb (Nat.le_refl _))
  clear hb
  go_wp2_with fail
  refine (D2.out _).mono ?_
  rintro e w10 ⟨rfl, hb⟩
  have HB := Lib.hid (below_of HB.out hb (Nat.le_refl _))
  clear hb
  go_wp2_with fail
  refine (D3.out _).mono ?_
  rintro e w11 ⟨rfl, hb⟩
  have HB := Lib.hid (below_of HB.out hb (Nat.le_refl _))
  clear hb
  go_wp2_with fail
  refine (ex_of _).mono ?_
  rintro e w12 ⟨rfl, hb⟩
  have HB := Lib.hid (below_of HB.out hb (Nat.le_refl _))
  clear hb
  go_wp2_with fail
  refine (ex_meet _).mono ?_
  rintro e wm ⟨rfl, hb⟩
  have R0 := row_new hb
  have HB := Lib.hid ((HB.out.alloc HB.out.size _).trans (hb.mono (by have := HB.out.size; first | (simp; done) | (simp; omega))))
  obtain ⟨g, hg⟩ : ∃ g, w12.heap.size = g := ⟨_, rfl⟩
  rw [hg] at R0
  rw [hg]
  have l0 := lt_of_row R0
  clear hb hg
  obtain ⟨p0, p1, p2, _, _, _⟩ := row3 R0
  go_wp2_with fail
  clear p0 p1 p2
  refine (E1.out _).mono ?_
  rintro e we1 ⟨rfl, hb⟩
  have R1 := row_new hb
  have R0 := row_old R0 hb
  have HB := Lib.hid ((HB.out.alloc HB.out.size _).trans (hb.mono (by have := HB.out.size; first | (simp; done) | (simp; omega))))
  obtain ⟨g1, hg⟩ : ∃ g, wm.heap.size = g := ⟨_, rfl⟩
  rw [hg] at R1
  rw [hg]
  clear hb hg
  obtain ⟨p0, p1, p2, _, _, _⟩ := row3 R0
  obtain ⟨q0, q1, q2, _, _, _⟩ := row3 R1
  go_wp2_with fail
  clear p0 p1 p2 q0 q1 q2
  refine (E2.out _).mono ?_
  rintro e we2 ⟨rfl, hb⟩
  have R0 := row_below R0 hb
  have R1 := row_below R1 hb
  have HB := Lib.hid (below_of HB.out hb (Nat.le_refl _))
  clear hb
  obtain ⟨p0, p1, p2, _, _, _⟩ := row3 R0
  obtain ⟨q0, q1, q2, _, _, _⟩ := row3 R1
  go_wp2_with fail
  clear p0 p1 p2 q0 q1 q2
  refine (E3.out _).mono ?_
  rintro e we3 ⟨rfl, hb⟩
  have R0 := row_below R0 hb
  have R1 := row_below R1 hb
  have HB := Lib.hid (below_of HB.out hb (Nat.le_refl _))
  clear hb
  obtain ⟨p0, p1, p2, _, _, _⟩ := row3 R0
  obtain ⟨q0, q1, q2, _, _, _⟩ := row3 R1
  go_wp2_with fail
  refine (awake_any _).mono ?_
  rintro e wz ⟨rfl, hb⟩
  have HB := Lib.hid (below_of HB.out hb (Nat.le_refl _))
  clear hb
  go_wp2_with fail
  go_ret
  exact ⟨by first | rfl | simp [Array.getD], HB.out⟩
end Go.Proofs.Ytgljgjkoaaibnaa.KK
