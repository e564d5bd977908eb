/-
  ModelDiffs: the walk.
-/
import Derived.Test.YtbgpcmpbfenplaaWc
import Derived.Test.YtbgpcmpbfenplaaWd
namespace Go.Proofs.Ytbgpcmpbfenplaa.KK
open Go.ChangeShapes Go.WideShapes Go.ChangeAt Go.RowKit Go.Proofs

theorem diff_out (A B : Option Addr) (c c2 : Nat) (xs ys : List Pr) (w : World) (hf : PsAt w A xs) (hn : xs.length ≤ 4294967295) (hs : SizedP xs) (hg : PsAt w B ys) (hn2 : ys.length ≤ 4294967295) (hs2 : SizedP ys) :
    Calls Try.prog 20 #[.slice A xs.length c, .slice B ys.length c2] w (DOut xs ys w) := by
  refine (diff_any A B c c2 xs ys w hf hn hs hg hn2 hs2).mono ?_
  rintro e w' ⟨v, rfl, ho, hb⟩
  obtain ⟨A5, c5, hv5, _, _⟩ := own_cap2 ho
  subst hv5
  exact ⟨A5, c5, rfl, ItAt.of_own ho, hb⟩
set_option maxRecDepth 100000 in
set_option maxHeartbeats 8000000 in
theorem Diffs_any (A : Option Addr) (c : Nat) (xs : List Pr) (B : Option Addr) (c2 : Nat) (ys : List Pr) (D : Option Addr) (c3 : Nat) (ls : List It) (w : World) (hf : PsAt w A xs) (hn : xs.length ≤ 9223372036854775807) (hs : SizedP xs) (hcx : xs.length ≤ c) (hg : PsAt w B ys) (hn2 : ys.length ≤ 9223372036854775807) (hs2 : SizedP ys) (hcy : ys.length ≤ c2) (hl : ItAt w D ls) :
    Calls Try.prog 4 #[.slice A xs.length c, .slice B ys.length c2, .slice D ls.length c3] w fun e w' => e = .returned (.bool true) ∧ Below w.heap.size w w' := by
  have JF1 := Lib.hid (far_any A c xs w hf hn hs)
  have JF2 := Lib.hid (fun w1 (hb : Below w.heap.size w w1) => far_any B c2 ys w1 (hg.below hb (Nat.le_refl _)) hn2 hs2)
  have JA := Lib.hid (fun w1 => awake_any w1)
  have J1 := Lib.hid (fun (h : xs.length ≤ 4005) (h2 : ys.length ≤ 4005) w1 (hb : Below w.heap.size w w1) => diff_out A B c c2 xs ys w1 (hf.below hb (Nat.le_refl _)) (by omega) hs (hg.below hb (Nat.le_refl _)) (by omega) hs2)
  have J2 := Lib.hid (fun (h : xs.length ≤ 4005) (h2 : ys.length ≤ 4005) w1 (hb : Below w.heap.size w w1) => rDiff_any A B c c2 xs ys w1 (hf.below hb (Nat.le_refl _)) (by omega) hs hcx (hg.below hb (Nat.le_refl _)) (by omega) hs2 hcy)
  have J3 := Lib.hid (fun (h : xs.length ≤ 4005) (h2 : ys.length ≤ 4005) w1 (hb : Below w.heap.size w w1) => diff_out B A c2 c ys xs w1 (hg.below hb (Nat.le_refl _)) (by omega) hs2 (hf.below hb (Nat.le_refl _)) (by omega) hs)
  have JS := Lib.hid (fun (h : xs.length ≤ 4005) (h2 : ys.length ≤ 4005) A1 c1 A2 c2 w1 (p1 : ItAt w1 A1 (diffM xs ys)) (p2 : ItAt w1 A2 (diffM xs ys)) => by
    have hz := diffM_len xs ys
    have K := sameI_any A1 A2 c1 c2 _ _ w1 p1 p2 (by omega) (by omega)
    rw [show decide (diffM xs ys = diffM xs ys) = true by simp] at K
    exact K)
  have JT := Lib.hid (fun (h : ls.length ≤ 60) w1 (hb : Below w.heap.size w w1) => turn_any D c3 ls w1 (hl.below hb (Nat.le_refl _)) (by omega))
  have JU := Lib.hid (fun (h : ls.length ≤ 60) w1 (hb : Below w.heap.size w w1) => rTurn_any D c3 ls w1 (hl.below hb (Nat.le_refl _)) (by omega))
  have JV := Lib.hid (fun (h : ls.length ≤ 60) A1 c1 A2 c2 w1 (p1 : ItAt w1 A1 (turnL ls)) (p2 : ItAt w1 A2 (turnL ls)) => by
    have K := sameI_any A1 A2 c1 c2 _ _ w1 p1 p2 (by rw [turn_len]; omega) (by rw [turn_len]; omega)
    rw [show decide (turnL ls = turnL ls) = true by simp, turn_len] at K
    exact K)
  have JX := Lib.hid (fun (h : xs.length ≤ 4005) (h2 : ys.length ≤ 4005) A1 c1 w1 (p1 : ItAt w1 A1 (diffM xs ys)) => turn_any A1 c1 (diffM xs ys) w1 p1 (by have hz := diffM_len xs ys; omega))
  have JZ := Lib.hid (fun (h : xs.length ≤ 4005) (h2 : ys.length ≤ 4005) A1 c1 A2 c2 w1 (p1 : ItAt w1 A1 (diffM ys xs)) (p2 : ItAt w1 A2 (turnL (diffM xs ys))) => by
    have hz := diffM_len xs ys
    have hy := diffM_len ys xs
    have K := sameI_any A1 A2 c1 c2 _ _ w1 p1 p2 (by omega) (by rw [turn_len]; omega)
    rw [show decide (diffM ys xs = turnL (diffM xs ys)) = true by rw [← diffM_turn]; simp, turn_len] at K
    exact K)
  have HE := Lib.hid (diffE_turn xs ys)
  unfold DOut at J1 J2 J3
  unfold TOut at JT JU JX
  generalize diffM ys xs = dz at *
  generalize diffM xs ys = d at *
  generalize diffE ys xs = df at *
  generalize diffE xs ys = de at *
  generalize turnL d = td at *
  generalize turnL ls = tl at *
  generalize d.length = nd at *
  generalize dz.length = nz at *
  clear hf hs hg hs2 hl
  generalize xs.length = nx at *
  generalize ys.length = ny at *
  generalize ls.length = nl at *
  go_enter Try.func4, Try.ntmps4
  go_wp2_with fail
  refine JF1.out.mono ?_
  rintro e w1 ⟨ba, rfl, hb5, hb⟩
  have HB := Lib.hid hb
  have H5 := Lib.hid hb5
  clear hb hb5
  cases ba with
  | true =>
    go_wp2_with fail
    refine (JA.out _).mono ?_
    rintro e w99 ⟨rfl, hb⟩
    have HBz := Lib.hid (eb_of HB.out hb (Nat.le_refl _))
    clear hb
    go_wp2_with fail
    go_ret
    exact ⟨by first | rfl | simp, HBz.out⟩
  | false =>
    go_wp2_with fail
    refine (JF2.out _ HB.out).mono ?_
    rintro e w2 ⟨bb, rfl, hb5, hb⟩
    have HB := Lib.hid (eb_of HB.out hb (Nat.le_refl _))
    have H6 := Lib.hid hb5
    clear hb hb5
    cases bb with
    | true =>
      go_wp2_with fail
      refine (JA.out _).mono ?_
      rintro e w99 ⟨rfl, hb⟩
      have HBz := Lib.hid (eb_of HB.out hb (Nat.le_refl _))
      clear hb
      go_wp2_with fail
      go_ret
      exact ⟨by first | rfl | simp, HBz.out⟩
    | false =>
      by_cases q : 60 < nl
      · have q' : (60 : Int) < (nl : Int) := by omega
        go_wp2_with fail
        refine (JA.out _).mono ?_
        rintro e w99 ⟨rfl, hb⟩
        have HBz := Lib.hid (eb_of HB.out hb (Nat.le_refl _))
        clear hb
        go_wp2_with fail
        go_ret
        exact ⟨by first | rfl | simp, HBz.out⟩
      have q' : ¬ (60 : Int) < (nl : Int) := by omega
      have hx := H5.out (by simp)
      have hy := H6.out (by simp)
      have hq : nl ≤ 60 := by omega
      go_wp2_with fail
      refine (J1.out hx hy _ HB.out).mono ?_
      rintro e w3 ⟨X1, k1, rfl, i1, hb⟩
      have HB3 := Lib.hid (eb_of HB.out hb (Nat.le_refl _))
      have HX := Lib.hid i1
      clear hb i1
      go_wp2_with fail
      refine (J2.out hx hy _ HB3.out).mono ?_
      rintro e w4 ⟨X2, k2, rfl, i2, hb⟩
      have HB4 := Lib.hid (eb_of HB3.out hb (Nat.le_refl _))
      have HX4 := Lib.hid (HX.out.below hb (Nat.le_refl _))
      have HY := Lib.hid i2
      clear hb i2
      go_wp2_with fail
      refine (JS.out hx hy _ _ _ _ _ HX4.out HY.out).mono ?_
      rintro e w5 ⟨rfl, hb⟩
      have HB5 := Lib.hid (eb_of HB4.out hb (Nat.le_refl _))
      have HX5 := Lib.hid (HX4.out.below hb (Nat.le_refl _))
      clear hb
      go_wp2_with fail
      refine (JT.out hq _ HB5.out).mono ?_
      rintro e w6 ⟨X3, k3, rfl, i3, hb⟩
      have HB6 := Lib.hid (eb_of HB5.out hb (Nat.le_refl _))
      have HX6 := Lib.hid (HX5.out.below hb (Nat.le_refl _))
      have HT := Lib.hid i3
      clear hb i3
      go_wp2_with fail
      refine (JU.out hq _ HB6.out).mono ?_
      rintro e w7 ⟨X4, k4, rfl, i4, hb⟩
      have HB7 := Lib.hid (eb_of HB6.out hb (Nat.le_refl _))
      have HX7 := Lib.hid (HX6.out.below hb (Nat.le_refl _))
      have HT7 := Lib.hid (HT.out.below hb (Nat.le_refl _))
      have HU := Lib.hid i4
      clear hb i4
      go_wp2_with fail
      refine (JV.out hq _ _ _ _ _ HT7.out HU.out).mono ?_
      rintro e w8 ⟨rfl, hb⟩
      have HB8 := Lib.hid (eb_of HB7.out hb (Nat.le_refl _))
      have HX8 := Lib.hid (HX7.out.below hb (Nat.le_refl _))
      clear hb
      go_wp2_with fail
      refine (J3.out hx hy _ HB8.out).mono ?_
      rintro e w9 ⟨X5, k5, rfl, i5, hb⟩
      have HB9 := Lib.hid (eb_of HB8.out hb (Nat.le_refl _))
      have HX9 := Lib.hid (HX8.out.below hb (Nat.le_refl _))
      have HZ := Lib.hid i5
      clear hb i5
      by_cases hd : de = 0
      · have hd2 := HE.out.1 hd
        subst hd hd2
        go_wp2_with fail
        refine (JX.out hx hy _ _ _ HX9.out).mono ?_
        rintro e w10 ⟨X6, k6, rfl, i6, hb⟩
        have HB10 := Lib.hid (eb_of HB9.out hb (Nat.le_refl _))
        have HZ10 := Lib.hid (HZ.out.below hb (Nat.le_refl _))
        have HW := Lib.hid i6
        clear hb i6
        go_wp2_with fail
        refine (JZ.out hx hy _ _ _ _ _ HZ10.out HW.out).mono ?_
        rintro e w11 ⟨rfl, hb⟩
        have HB := Lib.hid (eb_of HB10.out hb (Nat.le_refl _))
        clear hb
        go_wp2_with fail
        refine (JA.out _).mono ?_
        rintro e w99 ⟨rfl, hb⟩
        have HBz := Lib.hid (eb_of HB.out hb (Nat.le_refl _))
        clear hb
        go_wp2_with fail
        go_ret
        exact ⟨by first | rfl | simp, HBz.out⟩
      · have hd2 : ¬ df = 0 := fun g => hd (HE.out.2 g)
        obtain ⟨b1, b2⟩ := ne_b hd
        obtain ⟨b3, b4⟩ := ne_b hd2
        go_wp2_with fail
        refine (JX.out hx hy _ _ _ HX9.out).mono ?_
        rintro e w10 ⟨X6, k6, rfl, i6, hb⟩
        have HB10 := Lib.hid (eb_of HB9.out hb (Nat.le_refl _))
        have HZ10 := Lib.hid (HZ.out.below hb (Nat.le_refl _))
        have HW := Lib.hid i6
        clear hb i6
        go_wp2_with fail
        refine (JZ.out hx hy _ _ _ _ _ HZ10.out HW.out).mono ?_
        rintro e w11 ⟨rfl, hb⟩
        have HB := Lib.hid (eb_of HB10.out hb (Nat.le_refl _))
        clear hb
        go_wp2_with fail
        refine (JA.out _).mono ?_
        rintro e w99 ⟨rfl, hb⟩
        have HBz := Lib.hid (eb_of HB.out hb (Nat.le_refl _))
        clear hb
        go_wp2_with fail
        go_ret
        exact ⟨by first | rfl | simp, HBz.out⟩
end Go.Proofs.Ytbgpcmpbfenplaa.KK
