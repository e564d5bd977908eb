/-
  FenceMakes: the walk.
-/
import Derived.Test.YtpgngiegpigfiaaFx
namespace Go.Proofs.Ytpgngiegpigfiaa.KK
open Go.ChangeShapes Go.WideShapes Go.ChangeAt Go.RowKit Go.Proofs

theorem mkMs_len {s : Int} {xs : List El.En} (h : xs.length ≤ 5010) : (mkMs s xs).length ≤ 4294967295 := by
  unfold mkMs
  by_cases g : mkEr s xs = 0
  · rw [if_pos g, makeM_len]; have := mk_le (n := xs.length) (st := s.toNat); omega
  · rw [if_neg g]; simp
set_option maxRecDepth 100000 in
set_option maxHeartbeats 8000000 in
theorem FenceMakes_any (B : Option Addr) (d : Nat) (xs : List El.En) (st : Int) (s : Int) (A : Option Addr) (c : Nat) (ms : List ByteArray) (w : World) (hg : EsAt w B xs) (hm : xs.length ≤ 9223372036854775807) (ht : Sized xs) (hcap : xs.length ≤ d) (hnil : B = none → d = 0) (hf : SsAt w A ms) (hn : ms.length ≤ 9223372036854775807) (hs : SizedS ms) :
    Calls Try.prog 3 #[.slice B xs.length d, .int .i64 st, .agg #[.int .i64 s, .slice A ms.length c]] w fun e w' => e = .returned (.bool true) ∧ Below w.heap.size w w' := by
  have HY := boxF s A ms.length c w
  obtain ⟨x0, x1, hlx, hbx⟩ := HY.out _ (Below.refl _ _)
  have HB := Lib.hid hbx
  clear hlx hbx
  have HC := Lib.hid (Below.refl (w.alloc (.cells #[.int .i64 s, .slice A ms.length c] 25)).heap.size (w.alloc (.cells #[.int .i64 s, .slice A ms.length c] 25)))
  have JW := Lib.hid (fun w1 (h : Below w.heap.size w w1) => wide7_any s A c ms w1 (hf.below h (Nat.le_refl _)) hn hs)
  have JF := Lib.hid (fun w1 (h : Below w.heap.size w w1) => far7_any B d xs w1 (hg.below h (Nat.le_refl _)) hm ht)
  cases hfar : farF xs with
  | true =>
    rw [hfar] at JF
    clear hf hs hg ht hfar JW
    generalize xs.length = nx at *
    go_enter Try.func3, Try.ntmps3
    go_wp2_with fail
    refine (JF.out _ HB.out).mono ?_
    rintro e w0 ⟨rfl, rfl⟩
    go_wp2_with fail
    refine (awake7_any _).mono ?_
    rintro e w99 ⟨rfl, hb⟩
    have HBz := Lib.hid (eb_of HB.out hb (by first | exact Nat.le_refl _ | (simp; omega)))
    clear hb
    go_wp2_with fail
    go_ret
    exact ⟨by first | rfl | simp, HBz.out⟩
  | false =>
    rw [hfar] at JF
    have hlx := far_len hfar
    clear hfar
    cases hw : wideF ms with
    | true =>
      rw [hw] at JW
      clear hf hs hg ht hw
      generalize xs.length = nx at *
      go_enter Try.func3, Try.ntmps3
      go_wp2_with fail
      refine (JF.out _ HB.out).mono ?_
      rintro e w0 ⟨rfl, rfl⟩
      go_wp2_with fail
      refine (JW.out _ HB.out).mono ?_
      rintro e w1 ⟨rfl, hb⟩
      have HC := Lib.hid (eb_of HC.out hb (Nat.le_refl _))
      clear hb x0 x1
      obtain ⟨x0, x1, hlx, hbx⟩ := HY.out _ HC.out
      have HB := Lib.hid hbx
      clear hlx hbx
      go_wp2_with fail
      refine (awake7_any _).mono ?_
      rintro e w99 ⟨rfl, hb⟩
      have HBz := Lib.hid (eb_of HB.out hb (by first | exact Nat.le_refl _ | (simp; omega)))
      clear hb
      go_wp2_with fail
      go_ret
      exact ⟨by first | rfl | simp, HBz.out⟩
    | false =>
      rw [hw] at JW
      have hlen := wide_len hw
      clear hw
      have J1 := Lib.hid (fun w1 (h : Below w.heap.size w w1) => pMake7_any B d xs st w1 (hg.below h (Nat.le_refl _)) (by omega) ht hcap)
      have J2 := Lib.hid (fun w1 (h : Below w.heap.size w w1) => rMake7_any B d xs st w1 (hg.below h (Nat.le_refl _)) (by omega) ht hcap)
      have J3 := Lib.hid (fun w1 (h : Below w.heap.size w w1) => pFits7_any s A c ms B d xs w1 (hf.below h (Nat.le_refl _)) (hg.below h (Nat.le_refl _)) (by omega) (by omega) hs ht hcap)
      have J4 := Lib.hid (fun w1 (h : Below w.heap.size w w1) => rFits7_any s A c ms B d xs w1 (hf.below h (Nat.le_refl _)) (hg.below h (Nat.le_refl _)) (by omega) (by omega) hs ht hcap)
      have J5 := Lib.hid (fun A1 c1 A2 c2 w1 (h1 : SsAt w1 A1 (mkMs st xs)) (h2 : SsAt w1 A2 (mkMs st xs)) => by
        have K := Same7_any (mkSt st xs) (mkSt st xs) A1 A2 c1 c2 (mkMs st xs) (mkMs st xs) w1 h1 h2 (mkMs_len (by omega)) (mkMs_len (by omega))
        rw [show (decide (mkSt st xs = mkSt st xs) && decide (mkMs st xs = mkMs st xs)) = true by simp] at K
        exact K)
      unfold MakeOut at J1 J2
      generalize (fitsR s ms xs).1 = q0 at *
      generalize (fitsR s ms xs).2 = q1 at *
      generalize mkSt st xs = ks at *
      generalize mkMs st xs = km at *
      generalize mkEr st xs = ke at *
      clear hf hs hg ht hcap
      generalize xs.length = nx at *
      go_enter Try.func3, Try.ntmps3
      go_wp2_with fail
      refine (JF.out _ HB.out).mono ?_
      rintro e w0 ⟨rfl, rfl⟩
      go_wp2_with fail
      refine (JW.out _ HB.out).mono ?_
      rintro e w1 ⟨rfl, hb⟩
      have HC := Lib.hid (eb_of HC.out hb (Nat.le_refl _))
      clear hb x0 x1
      obtain ⟨x0, x1, hlx, hbx⟩ := HY.out _ HC.out
      have HB := Lib.hid hbx
      clear hlx hbx
      go_wp2_with fail
      refine (J1.out _ HB.out).mono ?_
      rintro e w2 ⟨A1, c1, rfl, hm1, hb⟩
      have HM1 := Lib.hid hm1
      have HX1 := boxF ks A1 km.length c1 w2
      have HC := Lib.hid (eb_of HC.out hb (Nat.le_refl _))
      obtain ⟨y0, y1, hl1, hb1⟩ := HX1.out _ (Below.refl _ _)
      have HC1 := Lib.hid (eb_of HC.out hb1 (Nat.le_refl _))
      clear hb x0 x1 hm1 hl1 hb1
      obtain ⟨x0, x1, hlx, hbx⟩ := HY.out _ HC1.out
      have HB := Lib.hid hbx
      clear hlx hbx
      have HE1 := Lib.hid (Below.refl (w2.alloc (.cells #[.int .i64 ks, .slice A1 km.length c1] 25)).heap.size (w2.alloc (.cells #[.int .i64 ks, .slice A1 km.length c1] 25)))
      go_wp2_with fail
      refine (J2.out _ HB.out).mono ?_
      rintro e w3 ⟨A2, c2, rfl, hm2, hb⟩
      have HM2 := Lib.hid hm2
      have HX2 := boxF ks A2 km.length c2 w3
      have HE1 := Lib.hid (eb_of HE1.out hb (Nat.le_refl _))
      have HC1 := Lib.hid (eb_of HC1.out hb (Nat.le_refl _))
      obtain ⟨z0, z1, hl2, hb2⟩ := HX2.out _ (Below.refl _ _)
      have HE1 := Lib.hid (eb_of HE1.out hb2 (Nat.le_refl _))
      have HC1 := Lib.hid (eb_of HC1.out hb2 (Nat.le_refl _))
      have HE2 := Lib.hid (Below.refl (w3.alloc (.cells #[.int .i64 ks, .slice A2 km.length c2] 25)).heap.size (w3.alloc (.cells #[.int .i64 ks, .slice A2 km.length c2] 25)))
      clear hb x0 x1 y0 y1 hm2 hl2 hb2
      obtain ⟨x0, x1, hlx, hbx⟩ := HY.out _ HC1.out
      have HB := Lib.hid hbx
      clear hlx hbx
      go_wp2_with fail
      refine (J3.out _ HB.out).mono ?_
      rintro e w4 ⟨rfl, hb⟩
      have HE1 := Lib.hid (eb_of HE1.out hb (Nat.le_refl _))
      have HC1 := Lib.hid (eb_of HC1.out hb (Nat.le_refl _))
      have HE2 := Lib.hid (eb_of HE2.out hb (Nat.le_refl _))
      clear hb x0 x1 z0 z1
      obtain ⟨x0, x1, hlx, hbx⟩ := HY.out _ HC1.out
      have HB := Lib.hid hbx
      clear hlx hbx
      go_wp2_with fail
      refine (J4.out _ HB.out).mono ?_
      rintro e w5 ⟨rfl, hb⟩
      have HE1 := Lib.hid (eb_of HE1.out hb (Nat.le_refl _))
      have HC1 := Lib.hid (eb_of HC1.out hb (Nat.le_refl _))
      have HE2 := Lib.hid (eb_of HE2.out hb (Nat.le_refl _))
      clear hb x0 x1
      obtain ⟨x0, x1, hlx, hbx⟩ := HY.out _ HC1.out
      have HB := Lib.hid hbx
      clear hlx hbx
      obtain ⟨y0, y1, hl1, hb1⟩ := HX1.out _ HE1.out
      obtain ⟨z0, z1, hl2, hb2⟩ := HX2.out _ HE2.out
      have HN1 := Lib.hid (HM1.out.below hb1 (Nat.le_refl _))
      have HN2 := Lib.hid (HM2.out.below hb2 (Nat.le_refl _))
      clear hl1 hb1 hl2 hb2
      go_wp2_with fail
      refine (J5.out A1 c1 A2 c2 _ HN1.out HN2.out).mono ?_
      rintro e w6 ⟨rfl, hb⟩
      have HB := Lib.hid (eb_of HB.out hb (Nat.le_refl _))
      clear hb
      go_wp2_with fail
      refine (awake7_any _).mono ?_
      rintro e w99 ⟨rfl, hb⟩
      have HBz := Lib.hid (eb_of HB.out hb (by first | exact Nat.le_refl _ | (simp; omega)))
      clear hb
      go_wp2_with fail
      go_ret
      exact ⟨by first | rfl | simp, HBz.out⟩
end Go.Proofs.Ytpgngiegpigfiaa.KK
