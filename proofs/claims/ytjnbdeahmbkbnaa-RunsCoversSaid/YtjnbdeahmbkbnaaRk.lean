/-
  Runs: Count on both sides.
-/
import Derived.Test.YtjnbdeahmbkbnaaRj
namespace Go.Proofs.Ytjnbdeahmbkbnaa.KK
open Go.ChangeShapes Go.WideShapes Go.ChangeAt Go.RowKit Go.Proofs

theorem sub_next {xs : List El.En} {a k : Nat} (h : a + k < xs.length) : subR xs a (a + (k + 1)) = subR xs a (a + k) ++ [xs[a + k]] := by
  unfold subR
  rw [show a + (k + 1) - a = k + 1 by omega, show a + k - a = k by omega]
  have hk : k < (xs.drop a).length := by rw [List.length_drop]; omega
  rw [List.take_succ_eq_append_getElem hk, List.getElem_drop]
theorem sub_none (xs : List El.En) (a : Nat) : subR xs a (a + 0) = [] := by unfold subR; simp
theorem live_next {xs : List El.En} {a k : Nat} (h : a + k < xs.length) : liveN (subR xs a (a + (k + 1))) = liveN (subR xs a (a + k)) + (if xs[a + k].2.2.1 = true then 0 else 1) := by
  unfold liveN; rw [sub_next h, List.countP_append]; congr 1; cases hd : xs[a + k].2.2.1 <;> simp [List.countP_cons, hd]
theorem dead_next {xs : List El.En} {a k : Nat} (h : a + k < xs.length) : deadN (subR xs a (a + (k + 1))) = deadN (subR xs a (a + k)) + (if xs[a + k].2.2.1 = true then 1 else 0) := by
  unfold deadN; rw [sub_next h, List.countP_append]; congr 1; cases hd : xs[a + k].2.2.1 <;> simp [List.countP_cons, hd]
theorem sub_len_le (xs : List El.En) (a k : Nat) : (subR xs a (a + k)).length ≤ k := by unfold subR; rw [List.length_take]; omega
theorem live_le (xs : List El.En) (a k : Nat) : liveN (subR xs a (a + k)) ≤ k := Nat.le_trans List.countP_le_length (sub_len_le xs a k)
theorem dead_le (xs : List El.En) (a k : Nat) : deadN (subR xs a (a + k)) ≤ k := Nat.le_trans List.countP_le_length (sub_len_le xs a k)
theorem countR_no {id : Int} {xs : List El.En} {lo hi : ByteArray} {b : Bool} (h : (partR id xs lo hi b).2.2 ≠ 0) : countR id xs lo hi b = (0, 0, (partR id xs lo hi b).2.2) := if_pos h
theorem countR_ok {id : Int} {xs : List El.En} {lo hi : ByteArray} {b : Bool} (h : (partR id xs lo hi b).2.2 = 0) : countR id xs lo hi b = (((liveN (subR xs (inN xs lo) (toN xs lo hi b)) : Nat) : Int), ((deadN (subR xs (inN xs lo) (toN xs lo hi b)) : Nat) : Int), 0) := if_neg (by rw [h]; simp)
theorem part_err {id : Int} {xs : List El.En} {lo hi : ByteArray} {b : Bool} (h : (partR id xs lo hi b).2.2 ≠ 0) : (partR id xs lo hi b).1 = 0 ∧ (partR id xs lo hi b).2.1 = 0 := by
  by_cases h1 : (runE id xs).2 = 0
  · by_cases h2 : chkR lo hi b = 0
    · rw [partR_ok h1 h2] at h; exact absurd rfl h
    · rw [partR_form h1 h2]; exact ⟨rfl, rfl⟩
  · rw [partR_no h1]; exact ⟨rfl, rfl⟩
theorem part_good {id : Int} {xs : List El.En} {lo hi : ByteArray} {b : Bool} (h : (partR id xs lo hi b).2.2 = 0) : partR id xs lo hi b = (((inN xs lo : Nat) : Int), ((toN xs lo hi b : Nat) : Int), 0) ∧ (runE id xs).2 = 0 ∧ chkR lo hi b = 0 := by
  by_cases h1 : (runE id xs).2 = 0
  · by_cases h2 : chkR lo hi b = 0
    · exact ⟨partR_ok h1 h2, h1, h2⟩
    · rw [partR_form h1 h2] at h; exact absurd h h2
  · rw [partR_no h1] at h; exact absurd h h1
theorem kindOf_any (k v : ByteArray) (d : Bool) (q : Int) (w : World) :
    Calls Try.prog 42 #[.agg #[.string k, .string v, .bool d, .int .i64 q]] w fun e w' => e = .returned (.int .i64 (if d = true then 1 else 0)) ∧ Below w.heap.size w w' := by
  have hb := alloc_below w (.cells #[.string k, .string v, .bool d, .int .i64 q] 31)
  obtain ⟨x0, x1, x2, x3, x4⟩ := (box1 k v d q w).out _ (Below.refl _ _)
  cases d with
  | true =>
    go_enter Try.func42, Try.ntmps42
    go_wp2_with fail
    go_ret
    exact ⟨rfl, hb⟩
  | false =>
    go_enter Try.func42, Try.ntmps42
    go_wp2_with fail
    go_ret
    exact ⟨rfl, hb⟩
set_option maxRecDepth 100000 in
set_option maxHeartbeats 4000000 in
theorem rCount8_any (id : Int) (B : Option Addr) (d : Nat) (xs : List El.En) (lo hi : ByteArray) (b : Bool) (w : World) (hf : EsAt w B xs) (hn : xs.length ≤ 4294967295) (hs : Sized xs) (hlo : lo.size ≤ 9223372036854775807) (hhi : hi.size ≤ 9223372036854775807) :
    Calls Try.prog 22 #[.agg #[.int .i64 id, .slice B xs.length d], .agg #[.string lo, .string hi, .bool b]] w fun e w' => e = .returned (.tuple #[.int .i64 (countR id xs lo hi b).1, .int .i64 (countR id xs lo hi b).2.1, .int .i64 (countR id xs lo hi b).2.2]) ∧ Below w.heap.size w w' := by
  have HX := boxUR id B xs.length d lo hi b w
  obtain ⟨x0, x1, x2, x3, x4, x5, x6⟩ := HX.out _ (Below.refl _ _)
  have HB := Lib.hid x6
  have J1 := Lib.hid (fun w1 (h : Below w.heap.size w w1) => rPart8_any id B d xs lo hi b w1 (hf.below h (Nat.le_refl _)) hn hs hlo hhi)
  clear x5 x6
  by_cases h1 : (partR id xs lo hi b).2.2 = 0
  rotate_left
  · have HL := Lib.hid (countR_no h1)
    obtain ⟨e1, e2⟩ := part_err h1
    rw [e1, e2] at J1
    obtain ⟨b1, b2⟩ := ne_b h1
    generalize (partR id xs lo hi b).2.2 = r at *
    generalize countR id xs lo hi b = res at *
    clear h1 hf hs e1 e2
    generalize xs.length = n at *
    go_enter Try.func22, Try.ntmps22
    go_wp2_with fail
    refine (J1.out _ HB.out).mono ?_
    rintro e w1 ⟨rfl, hb⟩
    obtain ⟨y0, y1, y2, y3, y4, y5, y6⟩ := HX.out _ hb
    have HB1 := Lib.hid y6
    have HC1 := Lib.hid hb
    have y7 : w.heap.size < w1.heap.size := by omega
    clear hb x0 x1 x2 x3 x4 y6
    go_wp2_with fail
    go_loopw [10, 11, 12] (fun u v i wr => u = .int .i64 0 ∧ v = .int .i64 0 ∧ i = .int .i64 0 ∧ wr = w1) (fun _ _ i _ => 0)
    case atStart => exact ⟨rfl, rfl, rfl, rfl⟩
    case round =>
      obtain ⟨rfl, rfl, rfl, rfl⟩ := hrel
      go_wp2_with fail
      go_ret3
      exact ⟨ret3 HL.out, HB1.out⟩
  have HL := Lib.hid (countR_ok h1)
  obtain ⟨hp, hr, hc⟩ := part_good h1
  rw [hp] at J1
  obtain ⟨hft, htl⟩ := toN_le xs lo hi b
  have hn5 := (list_ok (run_list hr)).1
  have HF := Lib.hid hf
  generalize countR id xs lo hi b = res at *
  clear h1 hp hr hc hf hs
  generalize inN xs lo = f at *
  generalize toN xs lo hi b = t at *
  obtain ⟨m, rfl⟩ : ∃ m, t = f + m := ⟨t - f, by omega⟩
  go_enter Try.func22, Try.ntmps22
  go_wp2_with fail
  refine (J1.out _ HB.out).mono ?_
  rintro e w1 ⟨rfl, hb⟩
  obtain ⟨y0, y1, y2, y3, y4, y5, y6⟩ := HX.out _ hb
  have HB1 := Lib.hid y6
  have HC1 := Lib.hid hb
  have y7 : w.heap.size < w1.heap.size := by omega
  clear hb x0 x1 x2 x3 x4 y6
  go_wp2_with fail
  clear y0 y1 y2 y3 y4 y5
  have hm0 : f ≤ 5000 := by omega
  go_loopw [10, 11, 12] (fun u v i wr => ∃ k : Nat, k ≤ m ∧ u = .int .i64 (liveN (subR xs f (f + k)) : Nat) ∧ v = .int .i64 (deadN (subR xs f (f + k)) : Nat) ∧ i = .int .i64 ((f : Int) + (k : Int)) ∧ wr = w1) (fun _ _ i _ => f + m - (intOf i).toNat)
  case atStart => exact ⟨0, Nat.zero_le _, by rw [sub_none]; rfl, by rw [sub_none]; rfl, by go_num, rfl⟩
  case round =>
    obtain ⟨k, hk, rfl, rfl, rfl, rfl⟩ := hrel
    obtain ⟨y0, y1, y2, y3, y4, y5, y6⟩ := HX.out _ HC1.out
    have hf' := HF.out.below y6 (Nat.le_refl _)
    clear y6
    have hl1 := live_le xs f k
    have hd1 := dead_le xs f k
    by_cases hlt : k < m
    rotate_left
    · obtain rfl : k = m := by omega
      generalize liveN (subR xs f (f + k)) = l1 at *
      generalize deadN (subR xs f (f + k)) = d1 at *
      clear hf' HF
      go_wp2_with fail
      go_ret3
      exact ⟨ret3 HL.out, HB1.out⟩
    have hlx : f + k < xs.length := by omega
    rcases hf' with h0 | ⟨bb, off, rfl, hbl, hc⟩
    · subst h0; simp at hlx
    obtain ⟨_, _, g2, _⟩ := hc (f + k) hlx
    have N1 := Lib.hid (live_next hlx)
    have N2 := Lib.hid (dead_next hlx)
    generalize liveN (subR xs f (f + k)) = l1 at *
    generalize deadN (subR xs f (f + k)) = d1 at *
    have hk0 : (0 : Int) ≤ (f : Int) + (k : Int) := by omega
    have hk1 : (f : Int) + (k : Int) < (xs.length : Int) := by omega
    have hk2 : (f : Int) + (k : Int) < (f : Int) + (m : Int) := by omega
    have hkc : ((f + k : Nat) : Int) = (f : Int) + (k : Int) := by omega
    have ht : ((f : Int) + (k : Int)).toNat = f + k := by omega
    clear hc
    generalize xs[f + k].2.2.1 = dd at *
    cases dd with
    | true =>
      have M1 : Hid (liveN (subR xs f (f + (k + 1))) = l1) := Lib.hid (N1.out.trans (by simp))
      have M2 : Hid (deadN (subR xs f (f + (k + 1))) = d1 + 1) := Lib.hid (N2.out.trans (by simp))
      clear N1 N2
      go_wp2_with fail
      go_roundw
      case rel => exact ⟨k + 1, by omega, by rw [M1.out], by rw [M2.out]; go_num, by go_num, by first | rfl | trivial⟩
      case measure => simp [intOf]; try omega
    | false =>
      have M1 : Hid (liveN (subR xs f (f + (k + 1))) = l1 + 1) := Lib.hid (N1.out.trans (by simp))
      have M2 : Hid (deadN (subR xs f (f + (k + 1))) = d1) := Lib.hid (N2.out.trans (by simp))
      clear N1 N2
      go_wp2_with fail
      go_roundw
      case rel => exact ⟨k + 1, by omega, by rw [M1.out]; go_num, by rw [M2.out], by go_num, by first | rfl | trivial⟩
      case measure => simp [intOf]; try omega
theorem Row2.set0 {W : World} {B : Nat} {t : TypeId} {v0 v1 : Value} (h : Row2 W B t v0 v1) (u0 : Value) : Row2 (W.setCell ⟨B, 0, none⟩ u0) B t u0 v1 := by
  unfold Row2 at h ⊢; simp [World.setCell, Array.getElem?_modify, h]
set_option maxRecDepth 100000 in
set_option maxHeartbeats 4000000 in
theorem pCount8_any (id : Int) (B : Option Addr) (d : Nat) (xs : List El.En) (lo hi : ByteArray) (b : Bool) (w : World) (hf : EsAt w B xs) (hn : xs.length ≤ 4294967295) (hs : Sized xs) (hcap : xs.length ≤ d) (hnil : B = none → d = 0) (hlo : lo.size ≤ 9223372036854775807) (hhi : hi.size ≤ 9223372036854775807) :
    Calls Try.prog 21 #[.agg #[.int .i64 id, .slice B xs.length d], .agg #[.string lo, .string hi, .bool b]] w fun e w' => e = .returned (.tuple #[.int .i64 (countR id xs lo hi b).1, .int .i64 (countR id xs lo hi b).2.1, .int .i64 (countR id xs lo hi b).2.2]) ∧ Below w.heap.size w w' := by
  have HX := boxUR id B xs.length d lo hi b w
  obtain ⟨x0, x1, x2, x3, x4, x5, x6⟩ := HX.out _ (Below.refl _ _)
  have HB := Lib.hid x6
  have J1 := Lib.hid (fun w1 (h : Below w.heap.size w w1) => pPart8_any id B d xs lo hi b w1 (hf.below h (Nat.le_refl _)) hn hs hcap hnil hlo hhi)
  clear x5 x6
  by_cases h1 : (partR id xs lo hi b).2.2 = 0
  rotate_left
  · have HL := Lib.hid (countR_no h1)
    obtain ⟨e1, e2⟩ := part_err h1
    rw [e1, e2] at J1
    obtain ⟨b1, b2⟩ := ne_b h1
    generalize (partR id xs lo hi b).2.2 = r at *
    generalize countR id xs lo hi b = res at *
    clear h1 hf hs e1 e2
    generalize xs.length = n at *
    go_enter Try.func21, Try.ntmps21
    go_wp2_with fail
    refine (J1.out _ HB.out).mono ?_
    rintro e w1 ⟨rfl, hb⟩
    obtain ⟨y0, y1, y2, y3, y4, y5, y6⟩ := HX.out _ hb
    have HB1 := Lib.hid y6
    have HC1 := Lib.hid hb
    have y7 : w.heap.size < w1.heap.size := by omega
    clear hb x0 x1 x2 x3 x4 y6
    go_wp2_with fail
    go_ret3
    exact ⟨ret3 HL.out, HB1.out⟩
  have HL := Lib.hid (countR_ok h1)
  obtain ⟨hp, hr, hc⟩ := part_good h1
  rw [hp] at J1
  obtain ⟨hft, htl⟩ := toN_le xs lo hi b
  have hn5 := (list_ok (run_list hr)).1
  have HF := Lib.hid hf
  generalize countR id xs lo hi b = res at *
  clear h1 hp hr hc hf hs
  generalize inN xs lo = f at *
  generalize toN xs lo hi b = t at *
  obtain ⟨m, rfl⟩ : ∃ m, t = f + m := ⟨t - f, by omega⟩
  by_cases h0 : m = 0
  · subst h0
    rw [sub_none] at HL
    rw [show liveN [] = 0 from rfl, show deadN [] = 0 from rfl] at HL
    cases B with
    | none =>
      obtain rfl := hnil rfl
      obtain rfl : f = 0 := by omega
      generalize hnx : xs.length = n at *
      obtain rfl : n = 0 := by omega
      clear HF hnx hnil
      go_enter Try.func21, Try.ntmps21
      go_wp2_with fail
      refine (J1.out _ HB.out).mono ?_
      rintro e w1 ⟨rfl, hb⟩
      obtain ⟨y0, y1, y2, y3, y4, y5, y6⟩ := HX.out _ hb
      have HB1 := Lib.hid y6
      have HC1 := Lib.hid hb
      have y7 : w.heap.size < w1.heap.size := by omega
      clear hb x0 x1 x2 x3 x4 y6
      go_wp2_with fail
      have hrow := Row2.new w1 69 (.int .i64 0) (.int .i64 0)
      have e0 := hrow.c0
      have e1 := hrow.c1
      go_loopw [28] (fun i wr => i = .int .i64 0 ∧ wr = w1.alloc (.cells #[.int .i64 0, .int .i64 0] 69)) (fun i _ => 0)
      case atStart => exact ⟨rfl, rfl⟩
      case round =>
        obtain ⟨rfl, rfl⟩ := hrel
        go_wp2_with fail
        go_quiet (fail)
        go_wp2_with fail
        go_ret3
        exact ⟨ret3 HL.out, eb_of (eb_of HB1.out (alloc_below w1 _) (Nat.le_refl _)) (below_drewN' _) (Nat.le_refl _)⟩
    | some a =>
      clear HF hnil
      generalize xs.length = n at *
      have hfd : (f : Int) ≤ (d : Int) := by omega
      by_cases hdf : d = f
      · subst hdf
        go_enter Try.func21, Try.ntmps21
        go_wp2_with fail
        refine (J1.out _ HB.out).mono ?_
        rintro e w1 ⟨rfl, hb⟩
        obtain ⟨y0, y1, y2, y3, y4, y5, y6⟩ := HX.out _ hb
        have HB1 := Lib.hid y6
        have HC1 := Lib.hid hb
        have y7 : w.heap.size < w1.heap.size := by omega
        clear hb x0 x1 x2 x3 x4 y6
        go_wp2_with fail
        have hrow := Row2.new w1 69 (.int .i64 0) (.int .i64 0)
        have e0 := hrow.c0
        have e1 := hrow.c1
        go_loopw [28] (fun i wr => i = .int .i64 0 ∧ wr = w1.alloc (.cells #[.int .i64 0, .int .i64 0] 69)) (fun i _ => 0)
        case atStart => exact ⟨rfl, rfl⟩
        case round =>
          obtain ⟨rfl, rfl⟩ := hrel
          go_wp2_with fail
          go_quiet (fail)
          go_wp2_with fail
          go_ret3
          exact ⟨ret3 HL.out, eb_of (eb_of HB1.out (alloc_below w1 _) (Nat.le_refl _)) (below_drewN' _) (Nat.le_refl _)⟩
      · go_enter Try.func21, Try.ntmps21
        go_wp2_with fail
        refine (J1.out _ HB.out).mono ?_
        rintro e w1 ⟨rfl, hb⟩
        obtain ⟨y0, y1, y2, y3, y4, y5, y6⟩ := HX.out _ hb
        have HB1 := Lib.hid y6
        have HC1 := Lib.hid hb
        have y7 : w.heap.size < w1.heap.size := by omega
        clear hb x0 x1 x2 x3 x4 y6
        go_wp2_with fail
        have hrow := Row2.new w1 69 (.int .i64 0) (.int .i64 0)
        have e0 := hrow.c0
        have e1 := hrow.c1
        go_loopw [28] (fun i wr => i = .int .i64 0 ∧ wr = w1.alloc (.cells #[.int .i64 0, .int .i64 0] 69)) (fun i _ => 0)
        case atStart => exact ⟨rfl, rfl⟩
        case round =>
          obtain ⟨rfl, rfl⟩ := hrel
          go_wp2_with fail
          go_quiet (fail)
          go_wp2_with fail
          go_ret3
          exact ⟨ret3 HL.out, eb_of (eb_of HB1.out (alloc_below w1 _) (Nat.le_refl _)) (below_drewN' _) (Nat.le_refl _)⟩
  · have HF0 := HF.out
    rcases HF0 with h1 | ⟨bb, off, rfl, hbl, hc⟩
    · subst h1; simp at htl; omega
    have HG : Hid (∀ k (h : k < m) w', Below w.heap.size w w' → w'.cell? ⟨bb, off + f * 4 + k * 4, none⟩ = some (.string (xs[f + k]'(by omega)).1) ∧ w'.cell? ⟨bb, off + f * 4 + k * 4 + 1, none⟩ = some (.string (xs[f + k]'(by omega)).2.1) ∧ w'.cell? ⟨bb, off + f * 4 + k * 4 + 2, none⟩ = some (.bool (xs[f + k]'(by omega)).2.2.1) ∧ w'.cell? ⟨bb, off + f * 4 + k * 4 + 3, none⟩ = some (.int .i64 (xs[f + k]'(by omega)).2.2.2)) := Lib.hid (fun k h w' hb => by
      have e : ∀ o, w'.cell? ⟨bb, o, none⟩ = w.cell? ⟨bb, o, none⟩ := fun o => hb.cell (p := ⟨bb, o, none⟩) hbl
      have := hc (f + k) (by omega)
      rw [show off + f * 4 + k * 4 = off + (f + k) * 4 by omega, e, e, e, e]; exact this)
    clear HF hc hbl hnil
    obtain ⟨t, ht⟩ : ∃ t, f + m = t := ⟨_, rfl⟩
    obtain rfl : m = t - f := by omega
    rw [show f + (t - f) = t by omega] at J1 htl
    have hfd : (f : Int) < (d : Int) := by omega
    have hft' : (f : Int) ≤ (t : Int) := by omega
    have hfm : (t : Int) ≤ (d : Int) := by omega
    clear ht hft
    go_enter Try.func21, Try.ntmps21
    go_wp2_with fail
    refine (J1.out _ HB.out).mono ?_
    rintro e w1 ⟨rfl, hb⟩
    obtain ⟨y0, y1, y2, y3, y4, y5, y6⟩ := HX.out _ hb
    have HB1 := Lib.hid y6
    have HC1 := Lib.hid hb
    have y7 : w.heap.size < w1.heap.size := by omega
    clear hb x0 x1 x2 x3 x4 y6
    go_wp2_with fail
    have hrow0 := Row2.new w1 69 (.int .i64 0) (.int .i64 0)
    have hb0 := alloc_below w1 (.cells #[.int .i64 0, .int .i64 0] 69)
    go_loopw [11, 28] (fun _ i wr => ∃ k : Nat, k ≤ t - f ∧ i = .int .i64 k ∧ Row2 wr w1.heap.size 69 (.int .i64 (liveN (subR xs f (f + k)) : Nat)) (.int .i64 (deadN (subR xs f (f + k)) : Nat)) ∧ Below w1.heap.size w1 wr) (fun _ i _ => (t - f) - (intOf i).toNat)
    case atStart => exact ⟨0, Nat.zero_le _, rfl, by rw [sub_none]; exact hrow0, hb0⟩
    case round =>
      obtain ⟨k, hk, rfl, hrow, hb⟩ := hrel
      have HBr := Lib.hid hb
      have HB3 := Lib.hid (eb_of HB1.out hb (Nat.le_refl _))
      have hl1 := live_le xs f k
      have hd1 := dead_le xs f k
      clear hb hrow0 hb0 y0 y1 y2 y3 y4 y5
      by_cases hlt : k < t - f
      rotate_left
      · obtain rfl : k = t - f := by omega
        generalize liveN (subR xs f (f + (t - f))) = l1 at *
        generalize deadN (subR xs f (f + (t - f))) = d1 at *
        have e0 := hrow.c0
        have e1 := hrow.c1
        clear hrow
        go_wp2_with fail
        go_quiet (fail)
        go_wp2_with fail
        go_ret3
        exact ⟨ret3 HL.out, eb_of HB3.out (below_drewN' _) (Nat.le_refl _)⟩
      have hlx : f + k < xs.length := by omega
      have N1 := Lib.hid (live_next hlx)
      have N2 := Lib.hid (dead_next hlx)
      obtain ⟨g0, g1, g2, g3⟩ := HG.out k hlt wr HB3.out
      have HROW := Lib.hid hrow
      clear hrow
      generalize liveN (subR xs f (f + k)) = l1 at *
      generalize deadN (subR xs f (f + k)) = d1 at *
      generalize xs[f + k] = x at *
      obtain ⟨xk, xv, xd, xq⟩ := x
      dsimp only at g0 g1 g2 g3 N1 N2
      have hk0 : (0 : Int) ≤ (k : Int) := by omega
      have hk1 : (k : Int) < ((t - f : Nat) : Int) := by omega
      have JK := Lib.hid (fun w => kindOf_any xk xv xd xq w)
      have HXE := box1 xk xv xd xq wr
      obtain ⟨v0, v1, v2, v3, v4⟩ := HXE.out _ (Below.refl _ _)
      have hbe := alloc_below wr (.cells #[.string xk, .string xv, .bool xd, .int .i64 xq] 31)
      cases xd with
      | true =>
        have M1 : Hid (liveN (subR xs f (f + (k + 1))) = l1) := Lib.hid (N1.out.trans (by simp))
        have M2 : Hid (deadN (subR xs f (f + (k + 1))) = d1 + 1) := Lib.hid (N2.out.trans (by simp))
        rw [if_pos rfl] at JK
        clear N1 N2
        go_wp2_with fail
        refine (JK.out _).mono ?_
        rintro e w3 ⟨rfl, hb⟩
        have hb3 := eb_of hbe hb (by simp)
        have hr3 := HROW.out.below hb3 (Nat.le_refl _)
        have HR4 := Lib.hid (hr3.set1 (.int .i64 (((d1 : Nat) : Int) + 1)))
        have HB4 := Lib.hid ((eb_of HBr.out hb3 (Nat.le_refl _)).setCell (p := ⟨w1.heap.size, 1, none⟩) (Nat.le_refl _) (.int .i64 (((d1 : Nat) : Int) + 1)))
        have c0 := hr3.c0
        have c1 := hr3.c1
        have fz := hr3.fz
        clear hb hb3 hr3 hbe
        go_wp2_with fail
        go_roundw
        case rel => exact ⟨k + 1, by omega, by go_num, by rw [M1.out, M2.out]; exact HR4.out, HB4.out⟩
        case measure => simp [intOf]; try omega
      | false =>
        have M1 : Hid (liveN (subR xs f (f + (k + 1))) = l1 + 1) := Lib.hid (N1.out.trans (by simp))
        have M2 : Hid (deadN (subR xs f (f + (k + 1))) = d1) := Lib.hid (N2.out.trans (by simp))
        rw [if_neg (by simp)] at JK
        clear N1 N2
        go_wp2_with fail
        refine (JK.out _).mono ?_
        rintro e w3 ⟨rfl, hb⟩
        have hb3 := eb_of hbe hb (by simp)
        have hr3 := HROW.out.below hb3 (Nat.le_refl _)
        have HR4 := Lib.hid (hr3.set0 (.int .i64 (((l1 : Nat) : Int) + 1)))
        have HB4 := Lib.hid ((eb_of HBr.out hb3 (Nat.le_refl _)).setCell (p := ⟨w1.heap.size, 0, none⟩) (Nat.le_refl _) (.int .i64 (((l1 : Nat) : Int) + 1)))
        have c0 := hr3.c0
        have c1 := hr3.c1
        have fz := hr3.fz
        clear hb hb3 hr3 hbe
        go_wp2_with fail
        go_roundw
        case rel => exact ⟨k + 1, by omega, by go_num, by rw [M1.out, M2.out]; exact HR4.out, HB4.out⟩
        case measure => simp [intOf]; try omega
end Go.Proofs.Ytjnbdeahmbkbnaa.KK
