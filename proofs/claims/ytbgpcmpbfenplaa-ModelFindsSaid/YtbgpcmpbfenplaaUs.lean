/-
  ModelFinds: the walk.
-/
import Derived.Test.YtbgpcmpbfenplaaUr
namespace Go.Proofs.Ytbgpcmpbfenplaa.KK
open Go.ChangeShapes Go.WideShapes Go.ChangeAt Go.RowKit Go.Proofs

theorem partL_len (xs : List Pr) (lo hi : ByteArray) (b : Bool) : (partL xs lo hi b).length ≤ xs.length := by
  unfold partL
  by_cases h : partE xs lo hi b = 0
  · rw [if_pos h]; unfold partP; exact List.length_filter_le _ _
  · rw [if_neg h]; simp
set_option maxRecDepth 100000 in
set_option maxHeartbeats 8000000 in
theorem Finds_any (A : Option Addr) (c : Nat) (xs : List Pr) (key : ByteArray) (lo hi : ByteArray) (b : Bool) (w : World) (hf : PsAt w A xs) (hn : xs.length ≤ 9223372036854775807) (hs : SizedP xs) (hk : key.size ≤ 9223372036854775807) (h1 : lo.size ≤ 9223372036854775807) (h2 : hi.size ≤ 9223372036854775807) :
    Calls Try.prog 3 #[.slice A xs.length c, .string key, .agg #[.string lo, .string hi, .bool b]] w fun e w' => e = .returned (.bool true) ∧ Below w.heap.size w w' := by
  have HX := boxRm lo hi b w
  obtain ⟨x0, x1, x2, x3, x4⟩ := HX.out _ (Below.refl _ _)
  have HB := Lib.hid x4
  have HC := Lib.hid (Below.refl (w.alloc (.cells #[.string lo, .string hi, .bool b] 24)).heap.size (w.alloc (.cells #[.string lo, .string hi, .bool b] 24)))
  clear x3 x4
  have JFar := Lib.hid (far_any A c xs (w.alloc (.cells #[.string lo, .string hi, .bool b] 24)) (hf.below HB.out (Nat.le_refl _)) hn hs)
  have JA := Lib.hid (fun w1 => awake_any w1)
  have J1 := Lib.hid (fun (h : xs.length ≤ 4005) w1 (hb : Below w.heap.size w w1) => get_any A c xs key w1 (hf.below hb (Nat.le_refl _)) (by omega) hs hk)
  have J2 := Lib.hid (fun (h : xs.length ≤ 4005) w1 (hb : Below w.heap.size w w1) => rGet_any A c xs key w1 (hf.below hb (Nat.le_refl _)) (by omega) hs hk)
  have J3 := Lib.hid (fun (h : xs.length ≤ 4005) w1 (hb : Below w.heap.size w w1) => floor_any A c xs key w1 (hf.below hb (Nat.le_refl _)) (by omega) hs hk)
  have J4 := Lib.hid (fun (h : xs.length ≤ 4005) w1 (hb : Below w.heap.size w w1) => rFloor_any A c xs key w1 (hf.below hb (Nat.le_refl _)) (by omega) hs hk)
  have J5 := Lib.hid (fun (h : xs.length ≤ 4005) w1 (hb : Below w.heap.size w w1) => ceil_any A c xs key w1 (hf.below hb (Nat.le_refl _)) (by omega) hs hk)
  have J6 := Lib.hid (fun (h : xs.length ≤ 4005) w1 (hb : Below w.heap.size w w1) => rCeil_any A c xs key w1 (hf.below hb (Nat.le_refl _)) (by omega) hs hk)
  have J7 := Lib.hid (fun (h : xs.length ≤ 4005) w1 (hb : Below w.heap.size w w1) => part_any A c xs lo hi b w1 (hf.below hb (Nat.le_refl _)) (by omega) hs h1 h2)
  have J8 := Lib.hid (fun (h : xs.length ≤ 4005) w1 (hb : Below w.heap.size w w1) => rPart_any A c xs lo hi b w1 (hf.below hb (Nat.le_refl _)) (by omega) hs h1 h2)
  have J9 := Lib.hid (fun (h : xs.length ≤ 4005) A1 c1 A2 c2 w1 (p1 : PsAt w1 A1 (partL xs lo hi b)) (p2 : PsAt w1 A2 (partL xs lo hi b)) => by
    have hl := partL_len xs lo hi b
    have K := sameP_any A1 A2 c1 c2 _ _ w1 p1 p2 (by omega) (by omega)
    rw [show decide (partL xs lo hi b = partL xs lo hi b) = true by simp] at K
    exact K)
  unfold POut at J7 J8
  have l1 : decide ((200 : Int) < (key.size : Int)) = decide (200 < key.size) := decide_eq_decide.2 (by omega)
  have l2 : decide ((200 : Int) < (lo.size : Int)) = decide (200 < lo.size) := decide_eq_decide.2 (by omega)
  have l3 : decide ((200 : Int) < (hi.size : Int)) = decide (200 < hi.size) := decide_eq_decide.2 (by omega)
  generalize (getE xs key).1 = ge at *
  generalize (getE xs key).2 = gs at *
  generalize (floorE xs key).1 = fe at *
  generalize (floorE xs key).2.1 = fk at *
  generalize (floorE xs key).2.2 = fv at *
  generalize (ceilE xs key).1 = ce at *
  generalize (ceilE xs key).2.1 = ck at *
  generalize (ceilE xs key).2.2 = cv at *
  generalize partL xs lo hi b = pl at *
  generalize partE xs lo hi b = pe at *
  clear hf hs l1 l2 l3
  generalize xs.length = nx at *
  by_cases qa : 200 < key.size
  · have qa' : (200 : Int) < (key.size : Int) := by omega
    clear J1 J2 J3 J4 J5 J6 J7 J8 J9
    go_enter Try.func3, Try.ntmps3
    go_wp2_with fail
    refine JFar.out.mono ?_
    rintro e w1 ⟨bf, rfl, hb5, hb⟩
    have HC := Lib.hid (eb_of HC.out hb (Nat.le_refl _))
    have H5 := Lib.hid hb5
    clear hb hb5 x0 x1 x2
    obtain ⟨x0, x1, x2, x3, x4⟩ := HX.out _ HC.out
    have HB := Lib.hid x4
    clear x3 x4
    cases bf with
    | true =>
      go_wp2_with fail
      refine (JA.out _).mono ?_
      rintro e w99 ⟨rfl, hb⟩
      have HBz := Lib.hid (eb_of HB.out hb (Nat.le_refl _))
      clear hb
      go_wp2_with fail
      go_ret
      exact ⟨by first | rfl | simp, HBz.out⟩
    | false =>
      go_wp2_with fail
      refine (JA.out _).mono ?_
      rintro e w99 ⟨rfl, hb⟩
      have HBz := Lib.hid (eb_of HB.out hb (Nat.le_refl _))
      clear hb
      go_wp2_with fail
      go_ret
      exact ⟨by first | rfl | simp, HBz.out⟩
  have qa' : ¬ (200 : Int) < (key.size : Int) := by omega
  by_cases qb : 200 < lo.size
  · have qb' : (200 : Int) < (lo.size : Int) := by omega
    clear J1 J2 J3 J4 J5 J6 J7 J8 J9
    go_enter Try.func3, Try.ntmps3
    go_wp2_with fail
    refine JFar.out.mono ?_
    rintro e w1 ⟨bf, rfl, hb5, hb⟩
    have HC := Lib.hid (eb_of HC.out hb (Nat.le_refl _))
    have H5 := Lib.hid hb5
    clear hb hb5 x0 x1 x2
    obtain ⟨x0, x1, x2, x3, x4⟩ := HX.out _ HC.out
    have HB := Lib.hid x4
    clear x3 x4
    cases bf with
    | true =>
      go_wp2_with fail
      refine (JA.out _).mono ?_
      rintro e w99 ⟨rfl, hb⟩
      have HBz := Lib.hid (eb_of HB.out hb (Nat.le_refl _))
      clear hb
      go_wp2_with fail
      go_ret
      exact ⟨by first | rfl | simp, HBz.out⟩
    | false =>
      go_wp2_with fail
      refine (JA.out _).mono ?_
      rintro e w99 ⟨rfl, hb⟩
      have HBz := Lib.hid (eb_of HB.out hb (Nat.le_refl _))
      clear hb
      go_wp2_with fail
      go_ret
      exact ⟨by first | rfl | simp, HBz.out⟩
  have qb' : ¬ (200 : Int) < (lo.size : Int) := by omega
  by_cases qc : 200 < hi.size
  · have qc' : (200 : Int) < (hi.size : Int) := by omega
    clear J1 J2 J3 J4 J5 J6 J7 J8 J9
    go_enter Try.func3, Try.ntmps3
    go_wp2_with fail
    refine JFar.out.mono ?_
    rintro e w1 ⟨bf, rfl, hb5, hb⟩
    have HC := Lib.hid (eb_of HC.out hb (Nat.le_refl _))
    have H5 := Lib.hid hb5
    clear hb hb5 x0 x1 x2
    obtain ⟨x0, x1, x2, x3, x4⟩ := HX.out _ HC.out
    have HB := Lib.hid x4
    clear x3 x4
    cases bf with
    | true =>
      go_wp2_with fail
      refine (JA.out _).mono ?_
      rintro e w99 ⟨rfl, hb⟩
      have HBz := Lib.hid (eb_of HB.out hb (Nat.le_refl _))
      clear hb
      go_wp2_with fail
      go_ret
      exact ⟨by first | rfl | simp, HBz.out⟩
    | false =>
      go_wp2_with fail
      refine (JA.out _).mono ?_
      rintro e w99 ⟨rfl, hb⟩
      have HBz := Lib.hid (eb_of HB.out hb (Nat.le_refl _))
      clear hb
      go_wp2_with fail
      go_ret
      exact ⟨by first | rfl | simp, HBz.out⟩
  have qc' : ¬ (200 : Int) < (hi.size : Int) := by omega
  go_enter Try.func3, Try.ntmps3
  go_wp2_with fail
  refine JFar.out.mono ?_
  rintro e w1 ⟨bf, rfl, hb5, hb⟩
  have HC := Lib.hid (eb_of HC.out hb (Nat.le_refl _))
  have H5 := Lib.hid hb5
  clear hb hb5 x0 x1 x2
  obtain ⟨x0, x1, x2, x3, x4⟩ := HX.out _ HC.out
  have HB := Lib.hid x4
  clear x3 x4
  cases bf with
  | true =>
    go_wp2_with fail
    refine (JA.out _).mono ?_
    rintro e w99 ⟨rfl, hb⟩
    have HBz := Lib.hid (eb_of HB.out hb (Nat.le_refl _))
    clear hb
    go_wp2_with fail
    go_ret
    exact ⟨by first | rfl | simp, HBz.out⟩
  | false =>
    have hx := H5.out rfl
    go_wp2_with fail
    refine (J1.out hx _ HB.out).mono ?_
    rintro e w2 ⟨rfl, hb⟩
    have HC := Lib.hid (eb_of HC.out hb (Nat.le_refl _))
    clear hb
    clear x0 x1 x2
    obtain ⟨x0, x1, x2, x3, x4⟩ := HX.out _ HC.out
    have HB := Lib.hid x4
    clear x3 x4
    go_wp2_with fail
    refine (J2.out hx _ HB.out).mono ?_
    rintro e w3 ⟨rfl, hb⟩
    have HC := Lib.hid (eb_of HC.out hb (Nat.le_refl _))
    clear hb
    clear x0 x1 x2
    obtain ⟨x0, x1, x2, x3, x4⟩ := HX.out _ HC.out
    have HB := Lib.hid x4
    clear x3 x4
    go_wp2_with fail
    refine (J3.out hx _ HB.out).mono ?_
    rintro e w4 ⟨rfl, hb⟩
    have HC := Lib.hid (eb_of HC.out hb (Nat.le_refl _))
    have hP : w.heap.size + 1 ≤ w4.heap.size := by have := HC.out.size; simp at this; omega
    have RP := Row2.new w4 31 (.string fk) (.string fv)
    have HC := Lib.hid (eb_of HC.out (alloc_below w4 (.cells #[.string fk, .string fv] 31)) (Nat.le_refl _))
    clear hb
    clear x0 x1 x2
    obtain ⟨x0, x1, x2, x3, x4⟩ := HX.out _ HC.out
    have HB := Lib.hid x4
    clear x3 x4
    go_wp2_with fail
    refine (J4.out hx _ HB.out).mono ?_
    rintro e w5 ⟨rfl, hb⟩
    have HC := Lib.hid (eb_of HC.out hb (Nat.le_refl _))
    have RP := RP.below hb (Nat.le_refl _)
    have hPQ := RP.lt
    have RP := RP.below (alloc_below w5 (.cells #[.string fk, .string fv] 31)) (Nat.le_refl _)
    have RQ := Row2.new w5 31 (.string fk) (.string fv)
    have HC := Lib.hid (eb_of HC.out (alloc_below w5 (.cells #[.string fk, .string fv] 31)) (Nat.le_refl _))
    have p0 := RP.c0
    have p1 := RP.c1
    have q0 := RQ.c0
    have q1 := RQ.c1
    clear hb
    clear x0 x1 x2
    obtain ⟨x0, x1, x2, x3, x4⟩ := HX.out _ HC.out
    have HB := Lib.hid x4
    clear x3 x4
    go_wp2_with fail
    refine (J5.out hx _ HB.out).mono ?_
    rintro e w6 ⟨rfl, hb⟩
    have HC := Lib.hid (eb_of HC.out hb (Nat.le_refl _))
    have RP := RP.below hb (Nat.le_refl _)
    have RQ := RQ.below hb (Nat.le_refl _)
    clear hb p0 p1 q0 q1
    have p0 := RP.c0
    have p1 := RP.c1
    have z0 := RP.fz 0
    have z1 := RP.fz 1
    have RP2 := RP.set (u0 := .string ck) (u1 := .string cv)
    have RQ2 := (RQ.other (C := w4.heap.size) (by omega) 0 (.string ck)).other (C := w4.heap.size) (by omega) 1 (.string cv)
    have HC := Lib.hid (set2_below HC.out (by simp; omega) (.string ck) (.string cv) (g := w4.heap.size))
    clear RP RQ
    clear x0 x1 x2
    obtain ⟨x0, x1, x2, x3, x4⟩ := HX.out _ HC.out
    have HB := Lib.hid x4
    clear x3 x4
    go_wp2_with fail
    refine (J6.out hx _ HB.out).mono ?_
    rintro e w7 ⟨rfl, hb⟩
    have HC := Lib.hid (eb_of HC.out hb (Nat.le_refl _))
    have RP := RP2.below hb (Nat.le_refl _)
    have RQ := RQ2.below hb (Nat.le_refl _)
    clear hb p0 p1 z0 z1 RP2 RQ2
    have q0 := RQ.c0
    have q1 := RQ.c1
    have z0 := RQ.fz 0
    have z1 := RQ.fz 1
    have RQ2 := RQ.set (u0 := .string ck) (u1 := .string cv)
    have RP2 := (RP.other (C := w5.heap.size) (by omega) 0 (.string ck)).other (C := w5.heap.size) (by omega) 1 (.string cv)
    have HC := Lib.hid (set2_below HC.out (by simp; omega) (.string ck) (.string cv) (g := w5.heap.size))
    clear RP RQ
    clear x0 x1 x2
    obtain ⟨x0, x1, x2, x3, x4⟩ := HX.out _ HC.out
    have HB := Lib.hid x4
    clear x3 x4
    go_wp2_with fail
    refine (J7.out hx _ HB.out).mono ?_
    rintro e w8 ⟨A8, c8, rfl, hp8, hb⟩
    have HC := Lib.hid (eb_of HC.out hb (Nat.le_refl _))
    have RP := RP2.below hb (Nat.le_refl _)
    have RQ := RQ2.below hb (Nat.le_refl _)
    have HP8 := Lib.hid hp8
    clear hb q0 q1 z0 z1 RP2 RQ2 hp8
    clear x0 x1 x2
    obtain ⟨x0, x1, x2, x3, x4⟩ := HX.out _ HC.out
    have HB := Lib.hid x4
    clear x3 x4
    go_wp2_with fail
    refine (J8.out hx _ HB.out).mono ?_
    rintro e w9 ⟨A9, c9, rfl, hp9, hb⟩
    have HC := Lib.hid (eb_of HC.out hb (Nat.le_refl _))
    have RP := RP.below hb (Nat.le_refl _)
    have RQ := RQ.below hb (Nat.le_refl _)
    have HP8 := Lib.hid (HP8.out.below hb (Nat.le_refl _))
    have HP9 := Lib.hid hp9
    have p0 := RP.c0
    have p1 := RP.c1
    have q0 := RQ.c0
    have q1 := RQ.c1
    clear hb hp9 RP RQ
    clear x0 x1 x2
    obtain ⟨x0, x1, x2, x3, x4⟩ := HX.out _ HC.out
    have HB := Lib.hid x4
    clear x3 x4
    go_wp2_with fail
    refine (J9.out hx A8 c8 A9 c9 _ HP8.out HP9.out).mono ?_
    rintro e w10 ⟨rfl, hb⟩
    have HB := Lib.hid (eb_of HB.out hb (Nat.le_refl _))
    clear hb
    go_wp2_with fail
    refine (JA.out _).mono ?_
    rintro e w99 ⟨rfl, hb⟩
    have HBz := Lib.hid (eb_of HB.out hb (Nat.le_refl _))
    clear hb
    go_wp2_with fail
    go_ret
    exact ⟨by first | rfl | simp, HBz.out⟩
end Go.Proofs.Ytbgpcmpbfenplaa.KK
