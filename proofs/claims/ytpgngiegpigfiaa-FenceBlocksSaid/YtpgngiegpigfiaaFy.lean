/-
  FenceBlocks: the walk.
-/
import Derived.Test.YtpgngiegpigfiaaFx
namespace Go.Proofs.Ytpgngiegpigfiaa.KK
open Go.ChangeShapes Go.WideShapes Go.ChangeAt Go.RowKit Go.Proofs

set_option maxRecDepth 100000 in
set_option maxHeartbeats 8000000 in
theorem FenceBlocks_any (s : Int) (A : Option Addr) (c : Nat) (ms : List ByteArray) (key : ByteArray) (lo hi : ByteArray) (b : Bool) (w : World) (hf : SsAt w A ms) (hn : ms.length ≤ 9223372036854775807) (hs : SizedS ms) (hk : key.size ≤ 9223372036854775807) (hlo : lo.size ≤ 9223372036854775807) (hhi : hi.size ≤ 9223372036854775807) :
    Calls Try.prog 4 #[.agg #[.int .i64 s, .slice A ms.length c], .string key, .agg #[.string lo, .string hi, .bool b]] w fun e w' => e = .returned (.bool true) ∧ Below w.heap.size w w' := by
  have HY := boxFR s A ms.length c lo hi b w
  obtain ⟨x0, x1, x2, x3, x4, hlx, hbx⟩ := HY.out _ (Below.refl _ _)
  have HB := Lib.hid hbx
  clear hlx hbx
  have HC := Lib.hid (Below.refl ((w.alloc (.cells #[.int .i64 s, .slice A ms.length c] 25)).alloc (.cells #[.string lo, .string hi, .bool b] 37)).heap.size ((w.alloc (.cells #[.int .i64 s, .slice A ms.length c] 25)).alloc (.cells #[.string lo, .string hi, .bool b] 37)))
  have JW := Lib.hid (fun w1 (h : Below w.heap.size w w1) => wide7_any s A c ms w1 (hf.below h (Nat.le_refl _)) hn hs)
  cases hw : wideF ms with
  | true =>
    rw [hw] at JW
    clear hf hs hw
    go_enter Try.func4, Try.ntmps4
    go_wp2_with fail
    refine (JW.out _ HB.out).mono ?_
    rintro e w1 ⟨rfl, hb⟩
    have HC := Lib.hid (eb_of HC.out hb (Nat.le_refl _))
    clear hb x0 x1 x2 x3 x4
    obtain ⟨x0, x1, x2, x3, x4, hlx, hbx⟩ := HY.out _ HC.out
    have HB := Lib.hid hbx
    clear hlx hbx
    go_wp2_with fail
    refine (awake7_any _).mono ?_
    rintro e w99 ⟨rfl, hb⟩
    have HBz := Lib.hid (eb_of HB.out hb (by first | exact Nat.le_refl _ | (simp; omega)))
    clear hb
    go_wp2_with fail
    go_ret
    exact ⟨by first | rfl | simp, HBz.out⟩
  | false =>
    rw [hw] at JW
    have hlen := wide_len hw
    clear hw
    have J1 := Lib.hid (fun w1 (h : Below w.heap.size w w1) => pCheck7_any s A c ms w1 (hf.below h (Nat.le_refl _)) (by omega) hs)
    have J2 := Lib.hid (fun w1 (h : Below w.heap.size w w1) => rCheck7_any s A c ms w1 (hf.below h (Nat.le_refl _)) (by omega) hs)
    have J3 := Lib.hid (fun w1 (h : Below w.heap.size w w1) => pBlock7_any s A c ms key w1 (hf.below h (Nat.le_refl _)) (by omega) hs hk)
    have J4 := Lib.hid (fun w1 (h : Below w.heap.size w w1) => rBlock7_any s A c ms key w1 (hf.below h (Nat.le_refl _)) (by omega) hs hk)
    have J5 := Lib.hid (fun w1 (h : Below w.heap.size w w1) => pBlocks7_any s A c ms lo hi b w1 (hf.below h (Nat.le_refl _)) (by omega) hs hlo hhi)
    have J6 := Lib.hid (fun w1 (h : Below w.heap.size w w1) => rBlocks7_any s A c ms lo hi b w1 (hf.below h (Nat.le_refl _)) (by omega) hs hlo hhi)
    have J7 := Lib.hid (fun w1 (h : Below w.heap.size w w1) => pSize7_any s A c ms w1 (hf.below h (Nat.le_refl _)) (by omega) hs)
    have J8 := Lib.hid (fun w1 (h : Below w.heap.size w w1) => rSize7_any s A c ms w1 (hf.below h (Nat.le_refl _)) (by omega) hs)
    generalize (chkF s ms).1 = q0 at *
    generalize (chkF s ms).2 = q1 at *
    generalize (blockE s ms key).1 = q2 at *
    generalize (blockE s ms key).2 = q3 at *
    generalize (blocksE s ms lo hi b).1 = q4 at *
    generalize (blocksE s ms lo hi b).2.1 = q5 at *
    generalize (blocksE s ms lo hi b).2.2 = q6 at *
    generalize (sizeE s ms).1 = q7 at *
    generalize (sizeE s ms).2 = q8 at *
    clear hf hs
    by_cases l1 : 100 < key.size
    · have l1' : (100 : Int) < (key.size : Int) := by omega
      clear J1 J2 J3 J4 J5 J6 J7 J8
      go_enter Try.func4, Try.ntmps4
      go_wp2_with fail
      refine (JW.out _ HB.out).mono ?_
      rintro e w1 ⟨rfl, hb⟩
      have HC := Lib.hid (eb_of HC.out hb (Nat.le_refl _))
      clear hb x0 x1 x2 x3 x4
      obtain ⟨x0, x1, x2, x3, x4, hlx, hbx⟩ := HY.out _ HC.out
      have HB := Lib.hid hbx
      clear hlx hbx
      go_wp2_with fail
      refine (awake7_any _).mono ?_
      rintro e w99 ⟨rfl, hb⟩
      have HBz := Lib.hid (eb_of HB.out hb (by first | exact Nat.le_refl _ | (simp; omega)))
      clear hb
      go_wp2_with fail
      go_ret
      exact ⟨by first | rfl | simp, HBz.out⟩
    have l1' : ¬ (100 : Int) < (key.size : Int) := by omega
    by_cases l2 : 100 < lo.size
    · have l2' : (100 : Int) < (lo.size : Int) := by omega
      clear J1 J2 J3 J4 J5 J6 J7 J8
      go_enter Try.func4, Try.ntmps4
      go_wp2_with fail
      refine (JW.out _ HB.out).mono ?_
      rintro e w1 ⟨rfl, hb⟩
      have HC := Lib.hid (eb_of HC.out hb (Nat.le_refl _))
      clear hb x0 x1 x2 x3 x4
      obtain ⟨x0, x1, x2, x3, x4, hlx, hbx⟩ := HY.out _ HC.out
      have HB := Lib.hid hbx
      clear hlx hbx
      go_wp2_with fail
      refine (awake7_any _).mono ?_
      rintro e w99 ⟨rfl, hb⟩
      have HBz := Lib.hid (eb_of HB.out hb (by first | exact Nat.le_refl _ | (simp; omega)))
      clear hb
      go_wp2_with fail
      go_ret
      exact ⟨by first | rfl | simp, HBz.out⟩
    have l2' : ¬ (100 : Int) < (lo.size : Int) := by omega
    by_cases l3 : 100 < hi.size
    · have l3' : (100 : Int) < (hi.size : Int) := by omega
      clear J1 J2 J3 J4 J5 J6 J7 J8
      go_enter Try.func4, Try.ntmps4
      go_wp2_with fail
      refine (JW.out _ HB.out).mono ?_
      rintro e w1 ⟨rfl, hb⟩
      have HC := Lib.hid (eb_of HC.out hb (Nat.le_refl _))
      clear hb x0 x1 x2 x3 x4
      obtain ⟨x0, x1, x2, x3, x4, hlx, hbx⟩ := HY.out _ HC.out
      have HB := Lib.hid hbx
      clear hlx hbx
      go_wp2_with fail
      refine (awake7_any _).mono ?_
      rintro e w99 ⟨rfl, hb⟩
      have HBz := Lib.hid (eb_of HB.out hb (by first | exact Nat.le_refl _ | (simp; omega)))
      clear hb
      go_wp2_with fail
      go_ret
      exact ⟨by first | rfl | simp, HBz.out⟩
    have l3' : ¬ (100 : Int) < (hi.size : Int) := by omega
    go_enter Try.func4, Try.ntmps4
    go_wp2_with fail
    refine (JW.out _ HB.out).mono ?_
    rintro e w1 ⟨rfl, hb⟩
    have HC := Lib.hid (eb_of HC.out hb (Nat.le_refl _))
    clear hb x0 x1 x2 x3 x4
    obtain ⟨x0, x1, x2, x3, x4, hlx, hbx⟩ := HY.out _ HC.out
    have HB := Lib.hid hbx
    clear hlx hbx
    go_wp2_with fail
    refine (J1.out _ HB.out).mono ?_
    rintro e w2 ⟨rfl, hb⟩
    have HC := Lib.hid (eb_of HC.out hb (Nat.le_refl _))
    clear hb x0 x1 x2 x3 x4
    obtain ⟨x0, x1, x2, x3, x4, hlx, hbx⟩ := HY.out _ HC.out
    have HB := Lib.hid hbx
    clear hlx hbx
    go_wp2_with fail
    refine (J2.out _ HB.out).mono ?_
    rintro e w3 ⟨rfl, hb⟩
    have HC := Lib.hid (eb_of HC.out hb (Nat.le_refl _))
    clear hb x0 x1 x2 x3 x4
    obtain ⟨x0, x1, x2, x3, x4, hlx, hbx⟩ := HY.out _ HC.out
    have HB := Lib.hid hbx
    clear hlx hbx
    go_wp2_with fail
    refine (J3.out _ HB.out).mono ?_
    rintro e w4 ⟨rfl, hb⟩
    have HC := Lib.hid (eb_of HC.out hb (Nat.le_refl _))
    clear hb x0 x1 x2 x3 x4
    obtain ⟨x0, x1, x2, x3, x4, hlx, hbx⟩ := HY.out _ HC.out
    have HB := Lib.hid hbx
    clear hlx hbx
    go_wp2_with fail
    refine (J4.out _ HB.out).mono ?_
    rintro e w5 ⟨rfl, hb⟩
    have HC := Lib.hid (eb_of HC.out hb (Nat.le_refl _))
    clear hb x0 x1 x2 x3 x4
    obtain ⟨x0, x1, x2, x3, x4, hlx, hbx⟩ := HY.out _ HC.out
    have HB := Lib.hid hbx
    clear hlx hbx
    go_wp2_with fail
    refine (J5.out _ HB.out).mono ?_
    rintro e w6 ⟨rfl, hb⟩
    have HC := Lib.hid (eb_of HC.out hb (Nat.le_refl _))
    clear hb x0 x1 x2 x3 x4
    obtain ⟨x0, x1, x2, x3, x4, hlx, hbx⟩ := HY.out _ HC.out
    have HB := Lib.hid hbx
    clear hlx hbx
    go_wp2_with fail
    refine (J6.out _ HB.out).mono ?_
    rintro e w7 ⟨rfl, hb⟩
    have HC := Lib.hid (eb_of HC.out hb (Nat.le_refl _))
    clear hb x0 x1 x2 x3 x4
    obtain ⟨x0, x1, x2, x3, x4, hlx, hbx⟩ := HY.out _ HC.out
    have HB := Lib.hid hbx
    clear hlx hbx
    go_wp2_with fail
    refine (J7.out _ HB.out).mono ?_
    rintro e w8 ⟨rfl, hb⟩
    have HC := Lib.hid (eb_of HC.out hb (Nat.le_refl _))
    clear hb x0 x1 x2 x3 x4
    obtain ⟨x0, x1, x2, x3, x4, hlx, hbx⟩ := HY.out _ HC.out
    have HB := Lib.hid hbx
    clear hlx hbx
    go_wp2_with fail
    refine (J8.out _ HB.out).mono ?_
    rintro e w9 ⟨rfl, hb⟩
    have HC := Lib.hid (eb_of HC.out hb (Nat.le_refl _))
    clear hb x0 x1 x2 x3 x4
    obtain ⟨x0, x1, x2, x3, x4, hlx, hbx⟩ := HY.out _ HC.out
    have HB := Lib.hid hbx
    clear hlx hbx
    go_wp2_with fail
    refine (awake7_any _).mono ?_
    rintro e w99 ⟨rfl, hb⟩
    have HBz := Lib.hid (eb_of HB.out hb (by first | exact Nat.le_refl _ | (simp; omega)))
    clear hb
    go_wp2_with fail
    go_ret
    exact ⟨by first | rfl | simp, HBz.out⟩
end Go.Proofs.Ytpgngiegpigfiaa.KK
