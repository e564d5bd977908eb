/-
  FenceFinds: the walk.
-/
import Derived.Test.YtpgngiegpigfiaaFx
namespace Go.Proofs.Ytpgngiegpigfiaa.KK
open Go.ChangeShapes Go.WideShapes Go.ChangeAt Go.RowKit Go.Proofs

set_option maxRecDepth 100000 in
set_option maxHeartbeats 8000000 in
theorem FenceFinds_any (s : Int) (A : Option Addr) (c : Nat) (ms : List ByteArray) (B : Option Addr) (d : Nat) (xs : List El.En) (key : ByteArray) (n : Int) (w : World) (hf : SsAt w A ms) (hn : ms.length ≤ 9223372036854775807) (hs : SizedS ms) (hg : EsAt w B xs) (hm : xs.length ≤ 9223372036854775807) (ht : Sized xs) (hcap : xs.length ≤ d) (hnil : B = none → d = 0) (hk : key.size ≤ 9223372036854775807) :
    Calls Try.prog 5 #[.agg #[.int .i64 s, .slice A ms.length c], .slice B xs.length d, .agg #[.string key, .int .i64 n]] w fun e w' => e = .returned (.bool true) ∧ Below w.heap.size w w' := by
  have HY := boxFA s A ms.length c key n w
  obtain ⟨x0, x1, x2, x3, hlx, hbx⟩ := HY.out _ (Below.refl _ _)
  have HB := Lib.hid hbx
  clear hlx hbx
  have HC := Lib.hid (Below.refl ((w.alloc (.cells #[.int .i64 s, .slice A ms.length c] 25)).alloc (.cells #[.string key, .int .i64 n] 45)).heap.size ((w.alloc (.cells #[.int .i64 s, .slice A ms.length c] 25)).alloc (.cells #[.string key, .int .i64 n] 45)))
  have JW := Lib.hid (fun w1 (h : Below w.heap.size w w1) => wide7_any s A c ms w1 (hf.below h (Nat.le_refl _)) hn hs)
  have JF := Lib.hid (fun w1 (h : Below w.heap.size w w1) => far7_any B d xs w1 (hg.below h (Nat.le_refl _)) hm ht)
  cases hfar : farF xs with
  | true =>
    rw [hfar] at JF
    clear hf hs hg ht hfar JW
    generalize xs.length = nx at *
    go_enter Try.func5, Try.ntmps5
    go_wp2_with fail
    refine (JF.out _ HB.out).mono ?_
    rintro e w0 ⟨rfl, rfl⟩
    go_wp2_with fail
    refine (awake7_any _).mono ?_
    rintro e w99 ⟨rfl, hb⟩
    have HBz := Lib.hid (eb_of HB.out hb (by first | exact Nat.le_refl _ | (simp; omega)))
    clear hb
    go_wp2_with fail
    go_ret
    exact ⟨by first | rfl | simp, HBz.out⟩
  | false =>
    rw [hfar] at JF
    have hlx := far_len hfar
    clear hfar
    cases hw : wideF ms with
    | true =>
      rw [hw] at JW
      clear hf hs hg ht hw
      generalize xs.length = nx at *
      go_enter Try.func5, Try.ntmps5
      go_wp2_with fail
      refine (JF.out _ HB.out).mono ?_
      rintro e w0 ⟨rfl, rfl⟩
      go_wp2_with fail
      refine (JW.out _ HB.out).mono ?_
      rintro e w1 ⟨rfl, hb⟩
      have HC := Lib.hid (eb_of HC.out hb (Nat.le_refl _))
      clear hb x0 x1 x2 x3
      obtain ⟨x0, x1, x2, x3, hlx, hbx⟩ := HY.out _ HC.out
      have HB := Lib.hid hbx
      clear hlx hbx
      go_wp2_with fail
      refine (awake7_any _).mono ?_
      rintro e w99 ⟨rfl, hb⟩
      have HBz := Lib.hid (eb_of HB.out hb (by first | exact Nat.le_refl _ | (simp; omega)))
      clear hb
      go_wp2_with fail
      go_ret
      exact ⟨by first | rfl | simp, HBz.out⟩
    | false =>
      rw [hw] at JW
      have hlen := wide_len hw
      clear hw
      have J1 := Lib.hid (fun w1 (h : Below w.heap.size w w1) => pFind7_any s A c ms B d xs key w1 (hf.below h (Nat.le_refl _)) (hg.below h (Nat.le_refl _)) (by omega) (by omega) hs ht hcap hnil hk)
      have J2 := Lib.hid (fun w1 (h : Below w.heap.size w w1) => rFind7_any s A c ms B d xs key w1 (hf.below h (Nat.le_refl _)) (hg.below h (Nat.le_refl _)) (by omega) (by omega) hs ht hcap hk)
      have J3 := Lib.hid (fun w1 (h : Below w.heap.size w w1) => pSpan7_any s A c ms n key w1 (hf.below h (Nat.le_refl _)) (by omega) hs hk)
      have J4 := Lib.hid (fun w1 (h : Below w.heap.size w w1) => rSpan7_any s A c ms n key w1 (hf.below h (Nat.le_refl _)) (by omega) hs hk)
      generalize (findF s ms xs key).1 = q0 at *
      generalize (findF s ms xs key).2 = q1 at *
      generalize (spanE s ms n key).1 = q2 at *
      generalize (spanE s ms n key).2.1 = q3 at *
      generalize (spanE s ms n key).2.2 = q4 at *
      clear hf hs hg ht hcap hnil
      generalize xs.length = nx at *
      by_cases l1 : 100 < key.size
      · have l1' : (100 : Int) < (key.size : Int) := by omega
        clear J1 J2 J3 J4
        go_enter Try.func5, Try.ntmps5
        go_wp2_with fail
        refine (JF.out _ HB.out).mono ?_
        rintro e w0 ⟨rfl, rfl⟩
        go_wp2_with fail
        refine (JW.out _ HB.out).mono ?_
        rintro e w1 ⟨rfl, hb⟩
        have HC := Lib.hid (eb_of HC.out hb (Nat.le_refl _))
        clear hb x0 x1 x2 x3
        obtain ⟨x0, x1, x2, x3, hlx, hbx⟩ := HY.out _ HC.out
        have HB := Lib.hid hbx
        clear hlx hbx
        go_wp2_with fail
        refine (awake7_any _).mono ?_
        rintro e w99 ⟨rfl, hb⟩
        have HBz := Lib.hid (eb_of HB.out hb (by first | exact Nat.le_refl _ | (simp; omega)))
        clear hb
        go_wp2_with fail
        go_ret
        exact ⟨by first | rfl | simp, HBz.out⟩
      have l1' : ¬ (100 : Int) < (key.size : Int) := by omega
      go_enter Try.func5, Try.ntmps5
      go_wp2_with fail
      refine (JF.out _ HB.out).mono ?_
      rintro e w0 ⟨rfl, rfl⟩
      go_wp2_with fail
      refine (JW.out _ HB.out).mono ?_
      rintro e w1 ⟨rfl, hb⟩
      have HC := Lib.hid (eb_of HC.out hb (Nat.le_refl _))
      clear hb x0 x1 x2 x3
      obtain ⟨x0, x1, x2, x3, hlx, hbx⟩ := HY.out _ HC.out
      have HB := Lib.hid hbx
      clear hlx hbx
      go_wp2_with fail
      refine (J1.out _ HB.out).mono ?_
      rintro e w2 ⟨rfl, hb⟩
      have HC := Lib.hid (eb_of HC.out hb (Nat.le_refl _))
      clear hb x0 x1 x2 x3
      obtain ⟨x0, x1, x2, x3, hlx, hbx⟩ := HY.out _ HC.out
      have HB := Lib.hid hbx
      clear hlx hbx
      go_wp2_with fail
      refine (J2.out _ HB.out).mono ?_
      rintro e w3 ⟨rfl, hb⟩
      have HC := Lib.hid (eb_of HC.out hb (Nat.le_refl _))
      clear hb x0 x1 x2 x3
      obtain ⟨x0, x1, x2, x3, hlx, hbx⟩ := HY.out _ HC.out
      have HB := Lib.hid hbx
      clear hlx hbx
      go_wp2_with fail
      refine (J3.out _ HB.out).mono ?_
      rintro e w4 ⟨rfl, hb⟩
      have HC := Lib.hid (eb_of HC.out hb (Nat.le_refl _))
      clear hb x0 x1 x2 x3
      obtain ⟨x0, x1, x2, x3, hlx, hbx⟩ := HY.out _ HC.out
      have HB := Lib.hid hbx
      clear hlx hbx
      go_wp2_with fail
      refine (J4.out _ HB.out).mono ?_
      rintro e w5 ⟨rfl, hb⟩
      have HC := Lib.hid (eb_of HC.out hb (Nat.le_refl _))
      clear hb x0 x1 x2 x3
      obtain ⟨x0, x1, x2, x3, hlx, hbx⟩ := HY.out _ HC.out
      have HB := Lib.hid hbx
      clear hlx hbx
      go_wp2_with fail
      refine (awake7_any _).mono ?_
      rintro e w99 ⟨rfl, hb⟩
      have HBz := Lib.hid (eb_of HB.out hb (by first | exact Nat.le_refl _ | (simp; omega)))
      clear hb
      go_wp2_with fail
      go_ret
      exact ⟨by first | rfl | simp, HBz.out⟩
end Go.Proofs.Ytpgngiegpigfiaa.KK
