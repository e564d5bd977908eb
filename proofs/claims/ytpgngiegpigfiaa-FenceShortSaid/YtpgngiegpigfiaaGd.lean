/-
  FenceShort: the walk.
-/
import Derived.Test.YtpgngiegpigfiaaFx
namespace Go.Proofs.Ytpgngiegpigfiaa.KK
open Go.ChangeShapes Go.WideShapes Go.ChangeAt Go.RowKit Go.Proofs

theorem make_chk {st : Nat} {xs : List El.En} (h1 : 1 ≤ st) (h64 : st ≤ 64) (hl : (listE xs).2 = 0) : chkF st (makeM st xs) = (0, 0) := by
  obtain ⟨a1, a2, a3⟩ := list_ok hl
  exact good_chk (make_good ⟨h1, h64⟩ a1 a2 a3)
theorem make_fitsR {st : Nat} {xs : List El.En} (h1 : 1 ≤ st) (h64 : st ≤ 64) (hl : (listE xs).2 = 0) : fitsR st (makeM st xs) xs = (true, 0) := by
  obtain ⟨a1, a2, a3⟩ := list_ok hl
  have hb : bothE st (makeM st xs) xs = 0 := by
    rw [bothE_ok (by rw [make_chk h1 h64 hl])]; exact hl
  rw [fitsR_ok hb, show ((st : Nat) : Int).toNat = st by omega, make_fits h1 a3]
theorem make_size {st : Nat} {xs : List El.En} (h1 : 1 ≤ st) (h64 : st ≤ 64) (hl : (listE xs).2 = 0) : sizeE st (makeM st xs) = (((sizeM (makeM st xs) : Nat) : Int), 0) := sizeE_ok (by rw [make_chk h1 h64 hl])
theorem make_sized {st : Nat} {xs : List El.En} (h1 : 1 ≤ st) (h64 : st ≤ 64) (hl : (listE xs).2 = 0) : SizedS (makeM st xs) := fun m hm => by
  obtain ⟨a1, a2, a3⟩ := list_ok hl
  have := (make_good ⟨h1, h64⟩ a1 a2 a3).key m hm
  omega
theorem mkEr_zero {s : Int} {xs : List El.En} (h : mkEr s xs = 0) : (listE xs).2 = 0 ∧ ∃ st : Nat, s = (st : Int) ∧ 1 ≤ st ∧ st ≤ 64 := by
  by_cases hl : (listE xs).2 = 0
  · refine ⟨hl, ?_⟩
    cases hs : stepB s with
    | false => rw [mkEr_step hl hs] at h; exact absurd h (by decide)
    | true =>
      have : 1 ≤ s ∧ s ≤ 64 := by simpa [stepB] using hs
      exact ⟨s.toNat, by omega, by omega, by omega⟩
  · rw [mkEr_list hl] at h; exact absurd h hl
theorem SsAt.at0 {w : World} {A : Option Addr} {ms : List ByteArray} (h : SsAt w A ms) {k : Nat} (hk : k < ms.length) : ∃ b off, A = some ⟨b, off, none⟩ ∧ b < w.heap.size ∧ w.cell? ⟨b, off + k, none⟩ = some (.string ms[k]) := by
  rcases h with h | ⟨b, off, hA, hlt, hc⟩
  · subst h; simp at hk
  · exact ⟨b, off, hA, hlt, hc k hk⟩
set_option maxRecDepth 100000 in
set_option maxHeartbeats 8000000 in
theorem FenceShort_any (B : Option Addr) (d : Nat) (xs : List El.En) (s : Int) (A : Option Addr) (c : Nat) (ms : List ByteArray) (w : World) (hg : EsAt w B xs) (hm : xs.length ≤ 9223372036854775807) (ht : Sized xs) (hcap : xs.length ≤ d) (hnil : B = none → d = 0) (hf : SsAt w A ms) (hn : ms.length ≤ 9223372036854775807) (hs : SizedS ms) :
    Calls Try.prog 8 #[.slice B xs.length d, .agg #[.int .i64 s, .slice A ms.length c]] w fun e w' => e = .returned (.bool true) ∧ Below w.heap.size w w' := by
  have HY := boxF s A ms.length c w
  obtain ⟨x0, x1, hlx, hbx⟩ := HY.out _ (Below.refl _ _)
  have HB := Lib.hid hbx
  clear hlx hbx
  have HC := Lib.hid (Below.refl (w.alloc (.cells #[.int .i64 s, .slice A ms.length c] 25)).heap.size (w.alloc (.cells #[.int .i64 s, .slice A ms.length c] 25)))
  have JW := Lib.hid (fun w1 (h : Below w.heap.size w w1) => wide7_any s A c ms w1 (hf.below h (Nat.le_refl _)) hn hs)
  have JF := Lib.hid (fun w1 (h : Below w.heap.size w w1) => far7_any B d xs w1 (hg.below h (Nat.le_refl _)) hm ht)
  cases hfar : farF xs with
  | true =>
    rw [hfar] at JF
    clear hf hs hg ht hfar JW
    generalize xs.length = nx at *
    go_enter Try.func8, Try.ntmps8
    go_wp2_with fail
    refine (JF.out _ HB.out).mono ?_
    rintro e w0 ⟨rfl, rfl⟩
    go_wp2_with fail
    refine (awake7_any _).mono ?_
    rintro e w99 ⟨rfl, hb⟩
    have HBz := Lib.hid (eb_of HB.out hb (by first | exact Nat.le_refl _ | (simp; omega)))
    clear hb
    go_wp2_with fail
    go_ret
    exact ⟨by first | rfl | simp, HBz.out⟩
  | false =>
    rw [hfar] at JF
    have hlx := far_len hfar
    clear hfar
    cases hw : wideF ms with
    | true =>
      rw [hw] at JW
      clear hf hs hg ht hw
      generalize xs.length = nx at *
      go_enter Try.func8, Try.ntmps8
      go_wp2_with fail
      refine (JF.out _ HB.out).mono ?_
      rintro e w0 ⟨rfl, rfl⟩
      go_wp2_with fail
      refine (JW.out _ HB.out).mono ?_
      rintro e w1 ⟨rfl, hb⟩
      have HC := Lib.hid (eb_of HC.out hb (Nat.le_refl _))
      clear hb x0 x1
      obtain ⟨x0, x1, hlx, hbx⟩ := HY.out _ HC.out
      have HB := Lib.hid hbx
      clear hlx hbx
      go_wp2_with fail
      refine (awake7_any _).mono ?_
      rintro e w99 ⟨rfl, hb⟩
      have HBz := Lib.hid (eb_of HB.out hb (by first | exact Nat.le_refl _ | (simp; omega)))
      clear hb
      go_wp2_with fail
      go_ret
      exact ⟨by first | rfl | simp, HBz.out⟩
    | false =>
      rw [hw] at JW
      have hlen := wide_len hw
      clear hw
      have J1 := Lib.hid (fun w1 (h : Below w.heap.size w w1) => pMake7_any B d xs s w1 (hg.below h (Nat.le_refl _)) (by omega) ht hcap)
      unfold MakeOut at J1
      by_cases hke : mkEr s xs = 0
      rotate_left
      · have e1 : mkMs s xs = [] := by unfold mkMs; rw [if_neg hke]
        have e2 : mkSt s xs = 0 := by unfold mkSt; rw [if_neg hke]
        rw [e1, e2] at J1
        simp only [List.length_nil] at J1
        obtain ⟨b1, b2⟩ := ne_b hke
        clear hf hs hg ht hcap hnil hke e1 e2
        generalize mkEr s xs = r at *
        generalize xs.length = nx at *
        go_enter Try.func8, Try.ntmps8
        go_wp2_with fail
        refine (JF.out _ HB.out).mono ?_
        rintro e w0 ⟨rfl, rfl⟩
        go_wp2_with fail
        refine (JW.out _ HB.out).mono ?_
        rintro e w1 ⟨rfl, hb⟩
        have HC := Lib.hid (eb_of HC.out hb (Nat.le_refl _))
        clear hb x0 x1
        obtain ⟨x0, x1, hlx, hbx⟩ := HY.out _ HC.out
        have HB := Lib.hid hbx
        clear hlx hbx
        go_wp2_with fail
        refine (J1.out _ HB.out).mono ?_
        rintro e w2 ⟨A1, c1, rfl, hm1, hb⟩
        have HM1 := Lib.hid hm1
        have HX1 := boxF 0 A1 0 c1 w2
        have HC := Lib.hid (eb_of HC.out hb (Nat.le_refl _))
        obtain ⟨y0, y1, hl1, hb1⟩ := HX1.out _ (Below.refl _ _)
        have HC1 := Lib.hid (eb_of HC.out hb1 (Nat.le_refl _))
        clear hb x0 x1 hm1 hl1 hb1
        obtain ⟨x0, x1, hlx, hbx⟩ := HY.out _ HC1.out
        have HB := Lib.hid hbx
        clear hlx hbx
        have HE1 := Lib.hid (Below.refl (w2.alloc (.cells #[.int .i64 0, .slice A1 0 c1] 25)).heap.size (w2.alloc (.cells #[.int .i64 0, .slice A1 0 c1] 25)))
        go_wp2_with fail
        refine (awake7_any _).mono ?_
        rintro e w99 ⟨rfl, hb⟩
        have HBz := Lib.hid (eb_of HB.out hb (by first | exact Nat.le_refl _ | (simp; omega)))
        clear hb
        go_wp2_with fail
        go_ret
        exact ⟨by first | rfl | simp, HBz.out⟩
      obtain ⟨hl, st, rfl, h1, h64⟩ := mkEr_zero hke
      have e1 : mkMs st xs = makeM st xs := by unfold mkMs; rw [if_pos hke, show ((st : Nat) : Int).toNat = st by omega]
      have e2 : mkSt st xs = (st : Int) := by unfold mkSt; rw [if_pos hke]
      rw [hke, e1, e2] at J1
      have hal : (makeM st xs).length = mk xs.length st := makeM_len st xs
      have hal2 : mk xs.length st ≤ xs.length := mk_le
      have hz2 := make_sized h1 h64 hl
      have J2 := Lib.hid (fun A1 c1 w1 (h : Below w.heap.size w w1) (hm1 : SsAt w1 A1 (makeM st xs)) => by
        have K := pFits7_any st A1 c1 (makeM st xs) B d xs w1 hm1 (hg.below h (Nat.le_refl _)) (by omega) (by omega) hz2 ht hcap
        rw [make_fitsR h1 h64 hl] at K
        exact K)
      have J3 := Lib.hid (fun A1 c1 w1 (hm1 : SsAt w1 A1 (makeM st xs)) => by
        have K := pCheck7_any st A1 c1 (makeM st xs) w1 hm1 (by omega) hz2
        rw [make_chk h1 h64 hl] at K
        exact K)
      have J4 := Lib.hid (fun w1 (h : Below w.heap.size w w1) => pFits7_any st A c ms B d xs w1 (hf.below h (Nat.le_refl _)) (hg.below h (Nat.le_refl _)) (by omega) (by omega) hs ht hcap)
      by_cases hb0 : bothE st ms xs = 0
      rotate_left
      · rw [fitsR_no hb0] at J4
        obtain ⟨b1, b2⟩ := ne_b hb0
        clear hf hs hg ht hcap hnil hb0 hke e1 e2 hal hal2 hz2 hl
        generalize bothE st ms xs = r at *
        generalize makeM st xs = am at *
        generalize xs.length = nx at *
        go_enter Try.func8, Try.ntmps8
        go_wp2_with fail
        refine (JF.out _ HB.out).mono ?_
        rintro e w0 ⟨rfl, rfl⟩
        go_wp2_with fail
        refine (JW.out _ HB.out).mono ?_
        rintro e w1 ⟨rfl, hb⟩
        have HC := Lib.hid (eb_of HC.out hb (Nat.le_refl _))
        clear hb x0 x1
        obtain ⟨x0, x1, hlx, hbx⟩ := HY.out _ HC.out
        have HB := Lib.hid hbx
        clear hlx hbx
        go_wp2_with fail
        refine (J1.out _ HB.out).mono ?_
        rintro e w2 ⟨A1, c1, rfl, hm1, hb⟩
        have HM1 := Lib.hid hm1
        have HX1 := boxF st A1 am.length c1 w2
        have HC := Lib.hid (eb_of HC.out hb (Nat.le_refl _))
        obtain ⟨y0, y1, hl1, hb1⟩ := HX1.out _ (Below.refl _ _)
        have HC1 := Lib.hid (eb_of HC.out hb1 (Nat.le_refl _))
        clear hb x0 x1 hm1 hl1 hb1
        obtain ⟨x0, x1, hlx, hbx⟩ := HY.out _ HC1.out
        have HB := Lib.hid hbx
        clear hlx hbx
        have HE1 := Lib.hid (Below.refl (w2.alloc (.cells #[.int .i64 st, .slice A1 am.length c1] 25)).heap.size (w2.alloc (.cells #[.int .i64 st, .slice A1 am.length c1] 25)))
        have HN1 := Lib.hid (HM1.out.below (HX1.out _ HE1.out).2.2.2 (Nat.le_refl _))
        go_wp2_with fail
        refine (J2.out A1 c1 _ HB.out HN1.out).mono ?_
        rintro e w3 ⟨rfl, hb⟩
        have HE1 := Lib.hid (eb_of HE1.out hb (Nat.le_refl _))
        have HC1 := Lib.hid (eb_of HC1.out hb (Nat.le_refl _))
        clear hb x0 x1 y0 y1
        obtain ⟨x0, x1, hlx, hbx⟩ := HY.out _ HC1.out
        obtain ⟨y0, y1, hl1, hb1⟩ := HX1.out _ HE1.out
        have HB := Lib.hid hbx
        have HN1 := Lib.hid (HM1.out.below hb1 (Nat.le_refl _))
        clear hlx hbx hl1 hb1
        go_wp2_with fail
        refine (J3.out A1 c1 _ HN1.out).mono ?_
        rintro e w4 ⟨rfl, hb⟩
        have HE1 := Lib.hid (eb_of HE1.out hb (Nat.le_refl _))
        have HC1 := Lib.hid (eb_of HC1.out hb (Nat.le_refl _))
        clear hb x0 x1 y0 y1
        obtain ⟨x0, x1, hlx, hbx⟩ := HY.out _ HC1.out
        obtain ⟨y0, y1, hl1, hb1⟩ := HX1.out _ HE1.out
        have HB := Lib.hid hbx
        have HN1 := Lib.hid (HM1.out.below hb1 (Nat.le_refl _))
        clear hlx hbx hl1 hb1
        go_wp2_with fail
        refine (J4.out _ HB.out).mono ?_
        rintro e w5 ⟨rfl, hb⟩
        have HE1 := Lib.hid (eb_of HE1.out hb (Nat.le_refl _))
        have HC1 := Lib.hid (eb_of HC1.out hb (Nat.le_refl _))
        clear hb x0 x1 y0 y1
        obtain ⟨x0, x1, hlx, hbx⟩ := HY.out _ HC1.out
        obtain ⟨y0, y1, hl1, hb1⟩ := HX1.out _ HE1.out
        have HB := Lib.hid hbx
        have HN1 := Lib.hid (HM1.out.below hb1 (Nat.le_refl _))
        clear hlx hbx hl1 hb1
        go_wp2_with fail
        refine (awake7_any _).mono ?_
        rintro e w99 ⟨rfl, hb⟩
        have HBz := Lib.hid (eb_of HB.out hb (by first | exact Nat.le_refl _ | (simp; omega)))
        clear hb
        go_wp2_with fail
        go_ret
        exact ⟨by first | rfl | simp, HBz.out⟩
      rw [fitsR_ok hb0, show ((st : Nat) : Int).toNat = st by omega] at J4
      cases hft : fitsF st ms xs with
      | false =>
        rw [hft] at J4
        clear hf hs hg ht hcap hnil hb0 hke e1 e2 hal hal2 hz2 hl hft
        generalize makeM st xs = am at *
        generalize xs.length = nx at *
        go_enter Try.func8, Try.ntmps8
        go_wp2_with fail
        refine (JF.out _ HB.out).mono ?_
        rintro e w0 ⟨rfl, rfl⟩
        go_wp2_with fail
        refine (JW.out _ HB.out).mono ?_
        rintro e w1 ⟨rfl, hb⟩
        have HC := Lib.hid (eb_of HC.out hb (Nat.le_refl _))
        clear hb x0 x1
        obtain ⟨x0, x1, hlx, hbx⟩ := HY.out _ HC.out
        have HB := Lib.hid hbx
        clear hlx hbx
        go_wp2_with fail
        refine (J1.out _ HB.out).mono ?_
        rintro e w2 ⟨A1, c1, rfl, hm1, hb⟩
        have HM1 := Lib.hid hm1
        have HX1 := boxF st A1 am.length c1 w2
        have HC := Lib.hid (eb_of HC.out hb (Nat.le_refl _))
        obtain ⟨y0, y1, hl1, hb1⟩ := HX1.out _ (Below.refl _ _)
        have HC1 := Lib.hid (eb_of HC.out hb1 (Nat.le_refl _))
        clear hb x0 x1 hm1 hl1 hb1
        obtain ⟨x0, x1, hlx, hbx⟩ := HY.out _ HC1.out
        have HB := Lib.hid hbx
        clear hlx hbx
        have HE1 := Lib.hid (Below.refl (w2.alloc (.cells #[.int .i64 st, .slice A1 am.length c1] 25)).heap.size (w2.alloc (.cells #[.int .i64 st, .slice A1 am.length c1] 25)))
        have HN1 := Lib.hid (HM1.out.below (HX1.out _ HE1.out).2.2.2 (Nat.le_refl _))
        go_wp2_with fail
        refine (J2.out A1 c1 _ HB.out HN1.out).mono ?_
        rintro e w3 ⟨rfl, hb⟩
        have HE1 := Lib.hid (eb_of HE1.out hb (Nat.le_refl _))
        have HC1 := Lib.hid (eb_of HC1.out hb (Nat.le_refl _))
        clear hb x0 x1 y0 y1
        obtain ⟨x0, x1, hlx, hbx⟩ := HY.out _ HC1.out
        obtain ⟨y0, y1, hl1, hb1⟩ := HX1.out _ HE1.out
        have HB := Lib.hid hbx
        have HN1 := Lib.hid (HM1.out.below hb1 (Nat.le_refl _))
        clear hlx hbx hl1 hb1
        go_wp2_with fail
        refine (J3.out A1 c1 _ HN1.out).mono ?_
        rintro e w4 ⟨rfl, hb⟩
        have HE1 := Lib.hid (eb_of HE1.out hb (Nat.le_refl _))
        have HC1 := Lib.hid (eb_of HC1.out hb (Nat.le_refl _))
        clear hb x0 x1 y0 y1
        obtain ⟨x0, x1, hlx, hbx⟩ := HY.out _ HC1.out
        obtain ⟨y0, y1, hl1, hb1⟩ := HX1.out _ HE1.out
        have HB := Lib.hid hbx
        have HN1 := Lib.hid (HM1.out.below hb1 (Nat.le_refl _))
        clear hlx hbx hl1 hb1
        go_wp2_with fail
        refine (J4.out _ HB.out).mono ?_
        rintro e w5 ⟨rfl, hb⟩
        have HE1 := Lib.hid (eb_of HE1.out hb (Nat.le_refl _))
        have HC1 := Lib.hid (eb_of HC1.out hb (Nat.le_refl _))
        clear hb x0 x1 y0 y1
        obtain ⟨x0, x1, hlx, hbx⟩ := HY.out _ HC1.out
        obtain ⟨y0, y1, hl1, hb1⟩ := HX1.out _ HE1.out
        have HB := Lib.hid hbx
        have HN1 := Lib.hid (HM1.out.below hb1 (Nat.le_refl _))
        clear hlx hbx hl1 hb1
        go_wp2_with fail
        refine (awake7_any _).mono ?_
        rintro e w99 ⟨rfl, hb⟩
        have HBz := Lib.hid (eb_of HB.out hb (by first | exact Nat.le_refl _ | (simp; omega)))
        clear hb
        go_wp2_with fail
        go_ret
        exact ⟨by first | rfl | simp, HBz.out⟩
      | true =>
        rw [hft] at J4
        have hasc := (list_ok hl).2.2
        have hml := fits_len hft
        have HSH := Lib.hid (fun i (hi : i < (makeM st xs).length) (hj : i < ms.length) => make_short h1 hasc hft hi hj)
        have hall : (makeM st xs).length = ms.length := by omega
        have HLE := Lib.hid (sizeM_le hall (fun i hi hj => (make_short h1 hasc hft hi hj).1))
        have J5 := Lib.hid (fun A1 c1 w1 (hm1 : SsAt w1 A1 (makeM st xs)) => by
          have K := pSize7_any st A1 c1 (makeM st xs) w1 hm1 (by omega) hz2
          rw [make_size h1 h64 hl] at K
          exact K)
        have J6 := Lib.hid (fun w1 (h : Below w.heap.size w w1) => by
          have K := pSize7_any st A c ms w1 (hf.below h (Nat.le_refl _)) (by omega) hs
          rw [sizeE_ok (bothE_zero hb0).1] at K
          exact K)
        have HALL := Lib.hid hall
        have HF := Lib.hid hf
        have HSZ := Lib.hid hs
        have HZ2 := Lib.hid hz2
        clear hf hs hg ht hcap hnil hb0 hke e1 e2 hal2 hl hft hasc hml hal hz2 hall
        generalize makeM st xs = am at *
        generalize xs.length = nx at *
        go_enter Try.func8, Try.ntmps8
        go_wp2_with fail
        refine (JF.out _ HB.out).mono ?_
        rintro e w0 ⟨rfl, rfl⟩
        go_wp2_with fail
        refine (JW.out _ HB.out).mono ?_
        rintro e w1 ⟨rfl, hb⟩
        have HC := Lib.hid (eb_of HC.out hb (Nat.le_refl _))
        clear hb x0 x1
        obtain ⟨x0, x1, hlx, hbx⟩ := HY.out _ HC.out
        have HB := Lib.hid hbx
        clear hlx hbx
        go_wp2_with fail
        refine (J1.out _ HB.out).mono ?_
        rintro e w2 ⟨A1, c1, rfl, hm1, hb⟩
        have HM1 := Lib.hid hm1
        have HX1 := boxF st A1 am.length c1 w2
        have HC := Lib.hid (eb_of HC.out hb (Nat.le_refl _))
        obtain ⟨y0, y1, hl1, hb1⟩ := HX1.out _ (Below.refl _ _)
        have HC1 := Lib.hid (eb_of HC.out hb1 (Nat.le_refl _))
        clear hb x0 x1 hm1 hl1 hb1
        obtain ⟨x0, x1, hlx, hbx⟩ := HY.out _ HC1.out
        have HB := Lib.hid hbx
        clear hlx hbx
        have HE1 := Lib.hid (Below.refl (w2.alloc (.cells #[.int .i64 st, .slice A1 am.length c1] 25)).heap.size (w2.alloc (.cells #[.int .i64 st, .slice A1 am.length c1] 25)))
        have HN1 := Lib.hid (HM1.out.below (HX1.out _ HE1.out).2.2.2 (Nat.le_refl _))
        go_wp2_with fail
        refine (J2.out A1 c1 _ HB.out HN1.out).mono ?_
        rintro e w3 ⟨rfl, hb⟩
        have HE1 := Lib.hid (eb_of HE1.out hb (Nat.le_refl _))
        have HC1 := Lib.hid (eb_of HC1.out hb (Nat.le_refl _))
        clear hb x0 x1 y0 y1
        obtain ⟨x0, x1, hlx, hbx⟩ := HY.out _ HC1.out
        obtain ⟨y0, y1, hl1, hb1⟩ := HX1.out _ HE1.out
        have HB := Lib.hid hbx
        have HN1 := Lib.hid (HM1.out.below hb1 (Nat.le_refl _))
        clear hlx hbx hl1 hb1
        go_wp2_with fail
        refine (J3.out A1 c1 _ HN1.out).mono ?_
        rintro e w4 ⟨rfl, hb⟩
        have HE1 := Lib.hid (eb_of HE1.out hb (Nat.le_refl _))
        have HC1 := Lib.hid (eb_of HC1.out hb (Nat.le_refl _))
        clear hb x0 x1 y0 y1
        obtain ⟨x0, x1, hlx, hbx⟩ := HY.out _ HC1.out
        obtain ⟨y0, y1, hl1, hb1⟩ := HX1.out _ HE1.out
        have HB := Lib.hid hbx
        have HN1 := Lib.hid (HM1.out.below hb1 (Nat.le_refl _))
        clear hlx hbx hl1 hb1
        go_wp2_with fail
        refine (J4.out _ HB.out).mono ?_
        rintro e w5 ⟨rfl, hb⟩
        have HE1 := Lib.hid (eb_of HE1.out hb (Nat.le_refl _))
        have HC1 := Lib.hid (eb_of HC1.out hb (Nat.le_refl _))
        clear hb x0 x1 y0 y1
        obtain ⟨x0, x1, hlx, hbx⟩ := HY.out _ HC1.out
        obtain ⟨y0, y1, hl1, hb1⟩ := HX1.out _ HE1.out
        have HB := Lib.hid hbx
        have HN1 := Lib.hid (HM1.out.below hb1 (Nat.le_refl _))
        clear hlx hbx hl1 hb1
        go_wp2_with fail
        go_loopw [11] (fun i wr => ∃ k : Nat, k ≤ am.length ∧ i = .int .i64 k ∧ Below (w.alloc (.cells #[.int .i64 (st : Int), .slice A ms.length c] 25)).heap.size (w.alloc (.cells #[.int .i64 (st : Int), .slice A ms.length c] 25)) wr ∧ Below (w2.alloc (.cells #[.int .i64 (st : Int), .slice A1 am.length c1] 25)).heap.size (w2.alloc (.cells #[.int .i64 (st : Int), .slice A1 am.length c1] 25)) wr) (fun i _ => am.length - (intOf i).toNat)
        case atStart => exact ⟨0, Nat.zero_le _, rfl, HC1.out, HE1.out⟩
        case round =>
          obtain ⟨k, hk, rfl, hbc, hbe⟩ := hrel
          have HCr := Lib.hid hbc
          have HEr := Lib.hid hbe
          have HC1 := Lib.hid hbc
          have HE1 := Lib.hid hbe
          clear x0 x1 y0 y1
          obtain ⟨x0, x1, hl2, hb2⟩ := HY.out _ hbc
          obtain ⟨y0, y1, hl1, hb1⟩ := HX1.out _ hbe
          have HB := Lib.hid hb2
          have HN1 := Lib.hid (HM1.out.below hb1 (Nat.le_refl _))
          clear hl1 hl2
          by_cases hlt : k < am.length
          · have hlt2 : k < ms.length := by have := HALL.out; omega
            have hall' : (k : Int) < (ms.length : Int) := by omega
            obtain ⟨ba, oa, rfl, hbl1, g1⟩ := HN1.out.at0 hlt
            obtain ⟨bm, om, rfl, hbl2, g2⟩ := (HF.out.below hb2 (Nat.le_refl _)).at0 hlt2
            obtain ⟨s1, s2⟩ := HSH.out k hlt hlt2
            have z1 := HZ2.out.at hlt
            have z2 := HSZ.out.at hlt2
            have d0 : ¬ (ms[k].size : Int) < (am[k].size : Int) := by omega
            have K := Lib.hid (fun w => Order_any am[k] ms[k] w z1 z2)
            have S2 := Lib.hid s2
            clear hb2 s1 s2 hbc hbe hb1
            generalize am[k] = ak at *
            generalize ms[k] = mk' at *
            by_cases he : ak.size = mk'.size
            · have d1 : ((ak.size : Int) == (mk'.size : Int)) = true := by simp; omega
              have d2 : ¬ (0 < Kl.ord (Kl.L ak) (Kl.L mk')) := by
                rw [Kl.ord_pos]; have := S2.out he; unfold ltK at this; rw [this]; simp
              generalize Kl.ord (Kl.L ak) (Kl.L mk') = r at *
              clear he
              go_wp2_with fail
              go_quiet (fail)
              go_wp2_with fail
              refine (K.out _).mono ?_
              rintro e w6 ⟨rfl, hb⟩
              have HC2 := Lib.hid (eb_of HCr.out ((below_drewN' (w := wr) _).trans (hb.mono (Nat.le_refl _))) (Nat.le_refl _))
              have HE2 := Lib.hid (eb_of HEr.out ((below_drewN' (w := wr) _).trans (hb.mono (Nat.le_refl _))) (Nat.le_refl _))
              clear hb
              go_wp2_with fail
              go_roundw
              case rel => exact ⟨k + 1, by omega, by go_num, HC2.out, HE2.out⟩
              case measure => simp [intOf]; omega
            · have d1 : ((ak.size : Int) == (mk'.size : Int)) = false := by rw [beq_eq_false_iff_ne]; omega
              have d3 : ¬ ((ak.size : Int) = (mk'.size : Int)) := by omega
              clear he K
              go_wp2_with fail
              go_quiet (fail)
              go_wp2_with fail
              go_roundw
              case rel => exact ⟨k + 1, by omega, by go_num, eb_of HCr.out (below_drewN' (w := wr) _) (Nat.le_refl _), eb_of HEr.out (below_drewN' (w := wr) _) (Nat.le_refl _)⟩
              case measure => simp [intOf]; omega
          · clear hb2 hbc hbe hb1
            have hle := HLE.out
            have hle2 : ((sizeM am : Nat) : Int) ≤ ((sizeM ms : Nat) : Int) := by omega
            generalize sizeM am = z1 at *
            generalize sizeM ms = z2 at *
            have hll : ((am.length : Int) == (ms.length : Int)) = true := by have := HALL.out; simp; omega
            go_wp2_with fail
            refine (J5.out A1 c1 _ HN1.out).mono ?_
            rintro e w6 ⟨rfl, hb⟩
            have HE1 := Lib.hid (eb_of HE1.out hb (Nat.le_refl _))
            have HC1 := Lib.hid (eb_of HC1.out hb (Nat.le_refl _))
            clear hb x0 x1 y0 y1
            obtain ⟨x0, x1, hlx, hbx⟩ := HY.out _ HC1.out
            obtain ⟨y0, y1, hl1, hb1⟩ := HX1.out _ HE1.out
            have HB := Lib.hid hbx
            have HN1 := Lib.hid (HM1.out.below hb1 (Nat.le_refl _))
            clear hlx hbx hl1 hb1
            go_wp2_with fail
            refine (J6.out _ HB.out).mono ?_
            rintro e w7 ⟨rfl, hb⟩
            have HE1 := Lib.hid (eb_of HE1.out hb (Nat.le_refl _))
            have HC1 := Lib.hid (eb_of HC1.out hb (Nat.le_refl _))
            clear hb x0 x1 y0 y1
            obtain ⟨x0, x1, hlx, hbx⟩ := HY.out _ HC1.out
            obtain ⟨y0, y1, hl1, hb1⟩ := HX1.out _ HE1.out
            have HB := Lib.hid hbx
            have HN1 := Lib.hid (HM1.out.below hb1 (Nat.le_refl _))
            clear hlx hbx hl1 hb1
            go_wp2_with fail
            refine (awake7_any _).mono ?_
            rintro e w99 ⟨rfl, hb⟩
            have HBz := Lib.hid (eb_of HB.out hb (by first | exact Nat.le_refl _ | (simp; omega)))
            clear hb
            go_wp2_with fail
            go_ret
            exact ⟨by first | rfl | simp, HBz.out⟩
end Go.Proofs.Ytpgngiegpigfiaa.KK
