/-
  RunsNeighbours: arms without the key.
-/
import Derived.Test.YtjnbdeahmbkbnaaRo
namespace Go.Proofs.Ytjnbdeahmbkbnaa.KK
open Go.ChangeShapes Go.WideShapes Go.ChangeAt Go.RowKit Go.Proofs

set_option maxRecDepth 100000 in
set_option maxHeartbeats 8000000 in
theorem nb_000 (id : Int) (A : Option Addr) (c n : Nat) (key : ByteArray) (w : World) (hn : n ≤ 5000) (hk : ¬ 100 < key.size) (hq : 0 = n)
    (JF : Hid (∀ w1, Below w.heap.size w w1 → Calls Try.prog 9 #[.agg #[.int .i64 id, .slice A n c]] w1 fun e w' => e = .returned (.bool false) ∧ Below w1.heap.size w1 w'))
    (JG : Hid (∀ w1, Below w.heap.size w w1 → Calls Try.prog 13 #[.agg #[.int .i64 id, .slice A n c], .string key] w1 fun e w' => e = .returned (.tuple #[.agg #[.string ⟨#[]⟩, .string ⟨#[]⟩, .bool false, .int .i64 0], .int .i64 4]) ∧ Below w1.heap.size w1 w'))
    (JL : Hid (∀ w1, Below w.heap.size w w1 → Calls Try.prog 15 #[.agg #[.int .i64 id, .slice A n c], .string key, .bool true] w1 fun e w' => e = .returned (.tuple #[.agg #[.string ⟨#[]⟩, .string ⟨#[]⟩, .bool false, .int .i64 0], .int .i64 4]) ∧ Below w1.heap.size w1 w'))
    (JH : Hid (∀ w1, Below w.heap.size w w1 → Calls Try.prog 17 #[.agg #[.int .i64 id, .slice A n c], .string key, .bool true] w1 fun e w' => e = .returned (.tuple #[.agg #[.string ⟨#[]⟩, .string ⟨#[]⟩, .bool false, .int .i64 0], .int .i64 4]) ∧ Below w1.heap.size w1 w'))
    (JA : Hid (∀ w1, Below w.heap.size w w1 → Calls Try.prog 15 #[.agg #[.int .i64 id, .slice A n c], .string key, .bool false] w1 fun e w' => e = .returned (.tuple #[.agg #[.string ⟨#[]⟩, .string ⟨#[]⟩, .bool false, .int .i64 0], .int .i64 4]) ∧ Below w1.heap.size w1 w'))
    (JB : Hid (∀ w1, Below w.heap.size w w1 → Calls Try.prog 17 #[.agg #[.int .i64 id, .slice A n c], .string key, .bool false] w1 fun e w' => e = .returned (.tuple #[.agg #[.string ⟨#[]⟩, .string ⟨#[]⟩, .bool false, .int .i64 0], .int .i64 4]) ∧ Below w1.heap.size w1 w')) :
    Calls Try.prog 5 #[.agg #[.int .i64 id, .slice A n c], .string key] w fun e w' => e = .returned (.bool true) ∧ Below w.heap.size w w' := by
  have HX := boxU id A n c w
  obtain ⟨x0, x1, x2, x3⟩ := HX.out _ (Below.refl _ _)
  have HB := Lib.hid x3
  have JW := Lib.hid (fun w => awake8_any w)
  clear x2 x3
  have HQ := Lib.hid hq
  have hqa := Nat.le_of_eq hq
  have hqb := Nat.le_of_eq hq.symm
  clear hq
  have hk' : ¬ (100 : Int) < (key.size : Int) := by omega
  go_enter Try.func5, Try.ntmps5
  go_wp2_with fail
  refine (JF.out _ HB.out).mono ?_
  rintro e w0 ⟨rfl, hb⟩
  have HC0 := Lib.hid hb
  obtain ⟨y0, y1, y2, y3⟩ := HX.out _ hb
  have HB0 := Lib.hid y3
  clear hb x0 x1 y3
  go_wp2_with fail
  refine (JG.out _ HB0.out).mono ?_
  rintro e w1 ⟨rfl, hb⟩
  have HC1 := Lib.hid (eb_of HC0.out hb (Nat.le_refl _))
  clear hb y0 y1 y2
  have hbx := alloc_below w1 (.cells #[.string ⟨#[]⟩, .string ⟨#[]⟩, .bool false, .int .i64 0] 31)
  have HC2 := Lib.hid (eb_of HC1.out hbx (Nat.le_refl _))
  have RX2 := Lib.hid (Row4.new w1 31 (.string ⟨#[]⟩) (.string ⟨#[]⟩) (.bool false) (.int .i64 0))
  clear hbx
  obtain ⟨y0, y1, y2, y3⟩ := HX.out _ HC2.out
  have HB2 := Lib.hid y3
  clear y3
  go_wp2_with fail
  refine (JL.out _ HB2.out).mono ?_
  rintro e w3 ⟨rfl, hb⟩
  have HC3 := Lib.hid (eb_of HC2.out hb (Nat.le_refl _))
  have RX3 := Lib.hid (RX2.out.below hb (Nat.le_refl _))
  clear hb y0 y1 y2
  have hbx := alloc_below w3 (.cells #[.string ⟨#[]⟩, .string ⟨#[]⟩, .bool false, .int .i64 0] 31)
  have HC4 := Lib.hid (eb_of HC3.out hbx (Nat.le_refl _))
  have RX4 := Lib.hid (RX3.out.below hbx (Nat.le_refl _))
  have RL4 := Lib.hid (Row4.new w3 31 (.string ⟨#[]⟩) (.string ⟨#[]⟩) (.bool false) (.int .i64 0))
  clear hbx
  obtain ⟨y0, y1, y2, y3⟩ := HX.out _ HC4.out
  have HB4 := Lib.hid y3
  clear y3
  go_wp2_with fail
  refine (JH.out _ HB4.out).mono ?_
  rintro e w5 ⟨rfl, hb⟩
  have HC5 := Lib.hid (eb_of HC4.out hb (Nat.le_refl _))
  have RX5 := Lib.hid (RX4.out.below hb (Nat.le_refl _))
  have RL5 := Lib.hid (RL4.out.below hb (Nat.le_refl _))
  clear hb y0 y1 y2
  have hbx := alloc_below w5 (.cells #[.string ⟨#[]⟩, .string ⟨#[]⟩, .bool false, .int .i64 0] 31)
  have HC6 := Lib.hid (eb_of HC5.out hbx (Nat.le_refl _))
  have RX6 := Lib.hid (RX5.out.below hbx (Nat.le_refl _))
  have RL6 := Lib.hid (RL5.out.below hbx (Nat.le_refl _))
  have RH6 := Lib.hid (Row4.new w5 31 (.string ⟨#[]⟩) (.string ⟨#[]⟩) (.bool false) (.int .i64 0))
  clear hbx
  obtain ⟨y0, y1, y2, y3⟩ := HX.out _ HC6.out
  have HB6 := Lib.hid y3
  clear y3
  go_wp2_with fail
  refine (JA.out _ HB6.out).mono ?_
  rintro e w7 ⟨rfl, hb⟩
  have HC7 := Lib.hid (eb_of HC6.out hb (Nat.le_refl _))
  have RX7 := Lib.hid (RX6.out.below hb (Nat.le_refl _))
  have RL7 := Lib.hid (RL6.out.below hb (Nat.le_refl _))
  have RH7 := Lib.hid (RH6.out.below hb (Nat.le_refl _))
  clear hb y0 y1 y2
  have hbx := alloc_below w7 (.cells #[.string ⟨#[]⟩, .string ⟨#[]⟩, .bool false, .int .i64 0] 31)
  have HC8 := Lib.hid (eb_of HC7.out hbx (Nat.le_refl _))
  have RX8 := Lib.hid (RX7.out.below hbx (Nat.le_refl _))
  have RL8 := Lib.hid (RL7.out.below hbx (Nat.le_refl _))
  have RH8 := Lib.hid (RH7.out.below hbx (Nat.le_refl _))
  have RA8 := Lib.hid (Row4.new w7 31 (.string ⟨#[]⟩) (.string ⟨#[]⟩) (.bool false) (.int .i64 0))
  clear hbx
  obtain ⟨y0, y1, y2, y3⟩ := HX.out _ HC8.out
  have HB8 := Lib.hid y3
  clear y3
  go_wp2_with fail
  refine (JB.out _ HB8.out).mono ?_
  rintro e w9 ⟨rfl, hb⟩
  have HC9 := Lib.hid (eb_of HC8.out hb (Nat.le_refl _))
  have RX9 := Lib.hid (RX8.out.below hb (Nat.le_refl _))
  have RL9 := Lib.hid (RL8.out.below hb (Nat.le_refl _))
  have RH9 := Lib.hid (RH8.out.below hb (Nat.le_refl _))
  have RA9 := Lib.hid (RA8.out.below hb (Nat.le_refl _))
  clear hb y0 y1 y2
  have hbx := alloc_below w9 (.cells #[.string ⟨#[]⟩, .string ⟨#[]⟩, .bool false, .int .i64 0] 31)
  have HC10 := Lib.hid (eb_of HC9.out hbx (Nat.le_refl _))
  have RX10 := Lib.hid (RX9.out.below hbx (Nat.le_refl _))
  have RL10 := Lib.hid (RL9.out.below hbx (Nat.le_refl _))
  have RH10 := Lib.hid (RH9.out.below hbx (Nat.le_refl _))
  have RA10 := Lib.hid (RA9.out.below hbx (Nat.le_refl _))
  have RB10 := Lib.hid (Row4.new w9 31 (.string ⟨#[]⟩) (.string ⟨#[]⟩) (.bool false) (.int .i64 0))
  clear hbx
  obtain ⟨y0, y1, y2, y3⟩ := HX.out _ HC10.out
  have HB10 := Lib.hid y3
  clear y3
  have rx0 := RX10.out.c0
  have rx1 := RX10.out.c1
  have rx2 := RX10.out.c2
  have rx3 := RX10.out.c3
  have rl0 := RL10.out.c0
  have rl1 := RL10.out.c1
  have rl2 := RL10.out.c2
  have rl3 := RL10.out.c3
  have rh0 := RH10.out.c0
  have rh1 := RH10.out.c1
  have rh2 := RH10.out.c2
  have rh3 := RH10.out.c3
  have ra0 := RA10.out.c0
  have ra1 := RA10.out.c1
  have ra2 := RA10.out.c2
  have ra3 := RA10.out.c3
  have rb0 := RB10.out.c0
  have rb1 := RB10.out.c1
  have rb2 := RB10.out.c2
  have rb3 := RB10.out.c3
  go_wp2_with fail
  clear rx0 rx1 rx2 rx3 rl0 rl1 rl2 rl3 rh0 rh1 rh2 rh3 ra0 ra1 ra2 ra3 rb0 rb1 rb2 rb3
  have HALL : Hid (∀ w', Below (w9.alloc (.cells #[.string ⟨#[]⟩, .string ⟨#[]⟩, .bool false, .int .i64 0] 31)).heap.size (w9.alloc (.cells #[.string ⟨#[]⟩, .string ⟨#[]⟩, .bool false, .int .i64 0] 31)) w' → w'.cell? ⟨w1.heap.size, 0, none⟩ = some (.string ⟨#[]⟩) ∧ w'.cell? ⟨w1.heap.size, 1, none⟩ = some (.string ⟨#[]⟩) ∧ w'.cell? ⟨w1.heap.size, 2, none⟩ = some (.bool false) ∧ w'.cell? ⟨w1.heap.size, 3, none⟩ = some (.int .i64 0) ∧ w'.cell? ⟨w3.heap.size, 0, none⟩ = some (.string ⟨#[]⟩) ∧ w'.cell? ⟨w3.heap.size, 1, none⟩ = some (.string ⟨#[]⟩) ∧ w'.cell? ⟨w3.heap.size, 2, none⟩ = some (.bool false) ∧ w'.cell? ⟨w3.heap.size, 3, none⟩ = some (.int .i64 0) ∧ w'.cell? ⟨w5.heap.size, 0, none⟩ = some (.string ⟨#[]⟩) ∧ w'.cell? ⟨w5.heap.size, 1, none⟩ = some (.string ⟨#[]⟩) ∧ w'.cell? ⟨w5.heap.size, 2, none⟩ = some (.bool false) ∧ w'.cell? ⟨w5.heap.size, 3, none⟩ = some (.int .i64 0)) := Lib.hid (fun w' h => ⟨(RX10.out.below h (Nat.le_refl _)).c0, (RX10.out.below h (Nat.le_refl _)).c1, (RX10.out.below h (Nat.le_refl _)).c2, (RX10.out.below h (Nat.le_refl _)).c3, (RL10.out.below h (Nat.le_refl _)).c0, (RL10.out.below h (Nat.le_refl _)).c1, (RL10.out.below h (Nat.le_refl _)).c2, (RL10.out.below h (Nat.le_refl _)).c3, (RH10.out.below h (Nat.le_refl _)).c0, (RH10.out.below h (Nat.le_refl _)).c1, (RH10.out.below h (Nat.le_refl _)).c2, (RH10.out.below h (Nat.le_refl _)).c3⟩)
  clear RX10 RL10 RH10 RA10 RB10 y0 y1 y2
  generalize hwz : w9.alloc (.cells #[.string ⟨#[]⟩, .string ⟨#[]⟩, .bool false, .int .i64 0] 31) = wz at *
  clear hwz
  go_loopw [15] (fun i wr => ∃ k : Nat, k ≤ 0 ∧ i = .int .i64 k ∧ Below wz.heap.size wz wr) (fun i _ => 0 - (intOf i).toNat)
  case atStart => exact ⟨0, Nat.zero_le _, rfl, Below.refl _ _⟩
  case round =>
    obtain ⟨k, hk2, rfl, hb⟩ := hrel
    have HC := Lib.hid (HC10.out.trans (hb.mono HC10.out.size))
    have HZ := Lib.hid hb
    obtain ⟨y0, y1, y2, y3⟩ := HX.out _ HC.out
    have HBr := Lib.hid y3
    clear hb y3
    obtain rfl : k = 0 := by omega
    obtain ⟨f0, f1, f2, f3, f4, f5, f6, f7, f8, f9, f10, f11⟩ := HALL.out _ HZ.out
    have af0 := abv_c f0
    have af1 := abv_c f1
    have af2 := abv_c f2
    have af3 := abv_c f3
    have af4 := abv_c f4
    have af5 := abv_c f5
    have af6 := abv_c f6
    have af7 := abv_c f7
    have af8 := abv_c f8
    have af9 := abv_c f9
    have af10 := abv_c f10
    have af11 := abv_c f11
    have ay0 := abv_c y0
    have ay1 := abv_c y1
    have hq1 : ¬ (0 : Int) < (n : Int) := by omega
    have hq2 : (n : Int) ≤ (0 : Int) := by omega
    go_wp2_with fail
    refine wp_region_abv (by first | assumption | kernel_rfl) (by kernel_rfl) ?_
    repeat (first | go_big_quiet_step (exact callAbv (awake8_any _)) | quiet_step (exact callAbv (awake8_any _)))
    refine wpQuiet_nil ?_
    intro w7 hw7
    obtain ⟨p1, rfl⟩ := hw7
    have HZ1 := Lib.hid (eb_of HZ.out p1.h (Nat.le_refl _))
    have HB1 := Lib.hid (eb_of HBr.out p1.h (Nat.le_refl _))
    have HC1 := Lib.hid (eb_of HC.out p1.h (Nat.le_refl _))
    clear af0 af1 af2 af3 af4 af5 af6 af7 af8 af9 af10 af11 ay0 ay1 f0 f1 f2 f3 f4 f5 f6 f7 f8 f9 f10 f11 y0 y1 y2
    obtain ⟨y0, y1, y2, _⟩ := HX.out _ HC1.out
    obtain ⟨f0, f1, f2, f3, f4, f5, f6, f7, f8, f9, f10, f11⟩ := HALL.out _ HZ1.out
    have af0 := abv_c f0
    have af1 := abv_c f1
    have af2 := abv_c f2
    have af3 := abv_c f3
    have af4 := abv_c f4
    have af5 := abv_c f5
    have af6 := abv_c f6
    have af7 := abv_c f7
    have af8 := abv_c f8
    have af9 := abv_c f9
    have af10 := abv_c f10
    have af11 := abv_c f11
    have ay0 := abv_c y0
    have ay1 := abv_c y1
    go_wp2_with fail
    refine wp_region_abv (by first | assumption | kernel_rfl) (by kernel_rfl) ?_
    repeat (first | go_big_quiet_step (exact callAbv (awake8_any _)) | quiet_step (exact callAbv (awake8_any _)))
    refine wpQuiet_nil ?_
    intro w9 hw9
    obtain ⟨p3, rfl⟩ := hw9
    have HB9 := Lib.hid (eb_of HB1.out p3.h (Nat.le_refl _))
    go_wp2_with fail
    go_ret
    exact ⟨by first | rfl | (simp; done) | (simp; omega), HB9.out⟩
set_option maxRecDepth 100000 in
set_option maxHeartbeats 8000000 in
theorem nb_001 (id : Int) (b off : Nat) (c n : Nat) (key : ByteArray) (w : World) (vk vv : ByteArray) (vd : Bool) (vq : Int) (hn : n ≤ 5000) (hk : ¬ 100 < key.size) (hq : 0 < n)
    (JF : Hid (∀ w1, Below w.heap.size w w1 → Calls Try.prog 9 #[.agg #[.int .i64 id, .slice (some ⟨b, off, none⟩) n c]] w1 fun e w' => e = .returned (.bool false) ∧ Below w1.heap.size w1 w'))
    (JG : Hid (∀ w1, Below w.heap.size w w1 → Calls Try.prog 13 #[.agg #[.int .i64 id, .slice (some ⟨b, off, none⟩) n c], .string key] w1 fun e w' => e = .returned (.tuple #[.agg #[.string ⟨#[]⟩, .string ⟨#[]⟩, .bool false, .int .i64 0], .int .i64 4]) ∧ Below w1.heap.size w1 w'))
    (JL : Hid (∀ w1, Below w.heap.size w w1 → Calls Try.prog 15 #[.agg #[.int .i64 id, .slice (some ⟨b, off, none⟩) n c], .string key, .bool true] w1 fun e w' => e = .returned (.tuple #[.agg #[.string ⟨#[]⟩, .string ⟨#[]⟩, .bool false, .int .i64 0], .int .i64 4]) ∧ Below w1.heap.size w1 w'))
    (JH : Hid (∀ w1, Below w.heap.size w w1 → Calls Try.prog 17 #[.agg #[.int .i64 id, .slice (some ⟨b, off, none⟩) n c], .string key, .bool true] w1 fun e w' => e = .returned (.tuple #[.agg #[.string vk, .string vv, .bool vd, .int .i64 vq], .int .i64 0]) ∧ Below w1.heap.size w1 w'))
    (JA : Hid (∀ w1, Below w.heap.size w w1 → Calls Try.prog 15 #[.agg #[.int .i64 id, .slice (some ⟨b, off, none⟩) n c], .string key, .bool false] w1 fun e w' => e = .returned (.tuple #[.agg #[.string ⟨#[]⟩, .string ⟨#[]⟩, .bool false, .int .i64 0], .int .i64 4]) ∧ Below w1.heap.size w1 w'))
    (JB : Hid (∀ w1, Below w.heap.size w w1 → Calls Try.prog 17 #[.agg #[.int .i64 id, .slice (some ⟨b, off, none⟩) n c], .string key, .bool false] w1 fun e w' => e = .returned (.tuple #[.agg #[.string vk, .string vv, .bool vd, .int .i64 vq], .int .i64 0]) ∧ Below w1.heap.size w1 w'))
    (HE : Hid (∀ w', Below w.heap.size w w' → (w'.cell? ⟨b, off, none⟩ = some (.string vk) ∧ w'.cell? ⟨b, off + 1, none⟩ = some (.string vv) ∧ w'.cell? ⟨b, off + 2, none⟩ = some (.bool vd) ∧ w'.cell? ⟨b, off + 3, none⟩ = some (.int .i64 vq))))
    (HO : Hid (∀ k, k < n → ∃ kk r, (∀ w', Below w.heap.size w w' → w'.cell? ⟨b, off + k * 4, none⟩ = some (.string kk)) ∧ (r < 0 ↔ k < 0) ∧ ∀ w1, Calls Try.prog 27 #[.string kk, .string key] w1 fun e w' => e = .returned (.int .i64 r) ∧ Below w1.heap.size w1 w')) :
    Calls Try.prog 5 #[.agg #[.int .i64 id, .slice (some ⟨b, off, none⟩) n c], .string key] w fun e w' => e = .returned (.bool true) ∧ Below w.heap.size w w' := by
  have HX := boxU id (some ⟨b, off, none⟩) n c w
  obtain ⟨x0, x1, x2, x3⟩ := HX.out _ (Below.refl _ _)
  have HB := Lib.hid x3
  have JW := Lib.hid (fun w => awake8_any w)
  clear x2 x3
  have hk' : ¬ (100 : Int) < (key.size : Int) := by omega
  go_enter Try.func5, Try.ntmps5
  go_wp2_with fail
  refine (JF.out _ HB.out).mono ?_
  rintro e w0 ⟨rfl, hb⟩
  have HC0 := Lib.hid hb
  obtain ⟨y0, y1, y2, y3⟩ := HX.out _ hb
  have HB0 := Lib.hid y3
  clear hb x0 x1 y3
  go_wp2_with fail
  refine (JG.out _ HB0.out).mono ?_
  rintro e w1 ⟨rfl, hb⟩
  have HC1 := Lib.hid (eb_of HC0.out hb (Nat.le_refl _))
  clear hb y0 y1 y2
  have hbx := alloc_below w1 (.cells #[.string ⟨#[]⟩, .string ⟨#[]⟩, .bool false, .int .i64 0] 31)
  have HC2 := Lib.hid (eb_of HC1.out hbx (Nat.le_refl _))
  have RX2 := Lib.hid (Row4.new w1 31 (.string ⟨#[]⟩) (.string ⟨#[]⟩) (.bool false) (.int .i64 0))
  clear hbx
  obtain ⟨y0, y1, y2, y3⟩ := HX.out _ HC2.out
  have HB2 := Lib.hid y3
  clear y3
  go_wp2_with fail
  refine (JL.out _ HB2.out).mono ?_
  rintro e w3 ⟨rfl, hb⟩
  have HC3 := Lib.hid (eb_of HC2.out hb (Nat.le_refl _))
  have RX3 := Lib.hid (RX2.out.below hb (Nat.le_refl _))
  clear hb y0 y1 y2
  have hbx := alloc_below w3 (.cells #[.string ⟨#[]⟩, .string ⟨#[]⟩, .bool false, .int .i64 0] 31)
  have HC4 := Lib.hid (eb_of HC3.out hbx (Nat.le_refl _))
  have RX4 := Lib.hid (RX3.out.below hbx (Nat.le_refl _))
  have RL4 := Lib.hid (Row4.new w3 31 (.string ⟨#[]⟩) (.string ⟨#[]⟩) (.bool false) (.int .i64 0))
  clear hbx
  obtain ⟨y0, y1, y2, y3⟩ := HX.out _ HC4.out
  have HB4 := Lib.hid y3
  clear y3
  go_wp2_with fail
  refine (JH.out _ HB4.out).mono ?_
  rintro e w5 ⟨rfl, hb⟩
  have HC5 := Lib.hid (eb_of HC4.out hb (Nat.le_refl _))
  have RX5 := Lib.hid (RX4.out.below hb (Nat.le_refl _))
  have RL5 := Lib.hid (RL4.out.below hb (Nat.le_refl _))
  clear hb y0 y1 y2
  have hbx := alloc_below w5 (.cells #[.string vk, .string vv, .bool vd, .int .i64 vq] 31)
  have HC6 := Lib.hid (eb_of HC5.out hbx (Nat.le_refl _))
  have RX6 := Lib.hid (RX5.out.below hbx (Nat.le_refl _))
  have RL6 := Lib.hid (RL5.out.below hbx (Nat.le_refl _))
  have RH6 := Lib.hid (Row4.new w5 31 (.string vk) (.string vv) (.bool vd) (.int .i64 vq))
  clear hbx
  obtain ⟨y0, y1, y2, y3⟩ := HX.out _ HC6.out
  have HB6 := Lib.hid y3
  clear y3
  go_wp2_with fail
  refine (JA.out _ HB6.out).mono ?_
  rintro e w7 ⟨rfl, hb⟩
  have HC7 := Lib.hid (eb_of HC6.out hb (Nat.le_refl _))
  have RX7 := Lib.hid (RX6.out.below hb (Nat.le_refl _))
  have RL7 := Lib.hid (RL6.out.below hb (Nat.le_refl _))
  have RH7 := Lib.hid (RH6.out.below hb (Nat.le_refl _))
  clear hb y0 y1 y2
  have hbx := alloc_below w7 (.cells #[.string ⟨#[]⟩, .string ⟨#[]⟩, .bool false, .int .i64 0] 31)
  have HC8 := Lib.hid (eb_of HC7.out hbx (Nat.le_refl _))
  have RX8 := Lib.hid (RX7.out.below hbx (Nat.le_refl _))
  have RL8 := Lib.hid (RL7.out.below hbx (Nat.le_refl _))
  have RH8 := Lib.hid (RH7.out.below hbx (Nat.le_refl _))
  have RA8 := Lib.hid (Row4.new w7 31 (.string ⟨#[]⟩) (.string ⟨#[]⟩) (.bool false) (.int .i64 0))
  clear hbx
  obtain ⟨y0, y1, y2, y3⟩ := HX.out _ HC8.out
  have HB8 := Lib.hid y3
  clear y3
  go_wp2_with fail
  refine (JB.out _ HB8.out).mono ?_
  rintro e w9 ⟨rfl, hb⟩
  have HC9 := Lib.hid (eb_of HC8.out hb (Nat.le_refl _))
  have RX9 := Lib.hid (RX8.out.below hb (Nat.le_refl _))
  have RL9 := Lib.hid (RL8.out.below hb (Nat.le_refl _))
  have RH9 := Lib.hid (RH8.out.below hb (Nat.le_refl _))
  have RA9 := Lib.hid (RA8.out.below hb (Nat.le_refl _))
  clear hb y0 y1 y2
  have hbx := alloc_below w9 (.cells #[.string vk, .string vv, .bool vd, .int .i64 vq] 31)
  have HC10 := Lib.hid (eb_of HC9.out hbx (Nat.le_refl _))
  have RX10 := Lib.hid (RX9.out.below hbx (Nat.le_refl _))
  have RL10 := Lib.hid (RL9.out.below hbx (Nat.le_refl _))
  have RH10 := Lib.hid (RH9.out.below hbx (Nat.le_refl _))
  have RA10 := Lib.hid (RA9.out.below hbx (Nat.le_refl _))
  have RB10 := Lib.hid (Row4.new w9 31 (.string vk) (.string vv) (.bool vd) (.int .i64 vq))
  clear hbx
  obtain ⟨y0, y1, y2, y3⟩ := HX.out _ HC10.out
  have HB10 := Lib.hid y3
  clear y3
  have rx0 := RX10.out.c0
  have rx1 := RX10.out.c1
  have rx2 := RX10.out.c2
  have rx3 := RX10.out.c3
  have rl0 := RL10.out.c0
  have rl1 := RL10.out.c1
  have rl2 := RL10.out.c2
  have rl3 := RL10.out.c3
  have rh0 := RH10.out.c0
  have rh1 := RH10.out.c1
  have rh2 := RH10.out.c2
  have rh3 := RH10.out.c3
  have ra0 := RA10.out.c0
  have ra1 := RA10.out.c1
  have ra2 := RA10.out.c2
  have ra3 := RA10.out.c3
  have rb0 := RB10.out.c0
  have rb1 := RB10.out.c1
  have rb2 := RB10.out.c2
  have rb3 := RB10.out.c3
  go_wp2_with fail
  clear rx0 rx1 rx2 rx3 rl0 rl1 rl2 rl3 rh0 rh1 rh2 rh3 ra0 ra1 ra2 ra3 rb0 rb1 rb2 rb3
  have HALL : Hid (∀ w', Below (w9.alloc (.cells #[.string vk, .string vv, .bool vd, .int .i64 vq] 31)).heap.size (w9.alloc (.cells #[.string vk, .string vv, .bool vd, .int .i64 vq] 31)) w' → w'.cell? ⟨w1.heap.size, 0, none⟩ = some (.string ⟨#[]⟩) ∧ w'.cell? ⟨w1.heap.size, 1, none⟩ = some (.string ⟨#[]⟩) ∧ w'.cell? ⟨w1.heap.size, 2, none⟩ = some (.bool false) ∧ w'.cell? ⟨w1.heap.size, 3, none⟩ = some (.int .i64 0) ∧ w'.cell? ⟨w3.heap.size, 0, none⟩ = some (.string ⟨#[]⟩) ∧ w'.cell? ⟨w3.heap.size, 1, none⟩ = some (.string ⟨#[]⟩) ∧ w'.cell? ⟨w3.heap.size, 2, none⟩ = some (.bool false) ∧ w'.cell? ⟨w3.heap.size, 3, none⟩ = some (.int .i64 0) ∧ w'.cell? ⟨w5.heap.size, 0, none⟩ = some (.string vk) ∧ w'.cell? ⟨w5.heap.size, 1, none⟩ = some (.string vv) ∧ w'.cell? ⟨w5.heap.size, 2, none⟩ = some (.bool vd) ∧ w'.cell? ⟨w5.heap.size, 3, none⟩ = some (.int .i64 vq)) := Lib.hid (fun w' h => ⟨(RX10.out.below h (Nat.le_refl _)).c0, (RX10.out.below h (Nat.le_refl _)).c1, (RX10.out.below h (Nat.le_refl _)).c2, (RX10.out.below h (Nat.le_refl _)).c3, (RL10.out.below h (Nat.le_refl _)).c0, (RL10.out.below h (Nat.le_refl _)).c1, (RL10.out.below h (Nat.le_refl _)).c2, (RL10.out.below h (Nat.le_refl _)).c3, (RH10.out.below h (Nat.le_refl _)).c0, (RH10.out.below h (Nat.le_refl _)).c1, (RH10.out.below h (Nat.le_refl _)).c2, (RH10.out.below h (Nat.le_refl _)).c3⟩)
  clear RX10 RL10 RH10 RA10 RB10 y0 y1 y2
  generalize hwz : w9.alloc (.cells #[.string vk, .string vv, .bool vd, .int .i64 vq] 31) = wz at *
  clear hwz
  go_loopw [15] (fun i wr => ∃ k : Nat, k ≤ 0 ∧ i = .int .i64 k ∧ Below wz.heap.size wz wr) (fun i _ => 0 - (intOf i).toNat)
  case atStart => exact ⟨0, Nat.zero_le _, rfl, Below.refl _ _⟩
  case round =>
    obtain ⟨k, hk2, rfl, hb⟩ := hrel
    have HC := Lib.hid (HC10.out.trans (hb.mono HC10.out.size))
    have HZ := Lib.hid hb
    obtain ⟨y0, y1, y2, y3⟩ := HX.out _ HC.out
    have HBr := Lib.hid y3
    clear hb y3
    obtain rfl : k = 0 := by omega
    obtain ⟨kk, r, g0, hr, JO⟩ := HO.out 0 (by omega)
    have g1 := g0 _ HBr.out
    simp only [Nat.zero_mul, Nat.add_zero] at g1
    have hr0 : ¬ r < 0 := fun h => by have := hr.1 h; omega
    have JOH := Lib.hid JO
    have hk0 : (0 : Int) ≤ 0 := by omega
    have hk1 : 0 < (n : Int) := by omega
    clear g0 hr JO
    go_wp2_with fail
    refine (JOH.out _).mono ?_
    rintro e w6 ⟨rfl, hb⟩
    have HZ6 := Lib.hid (eb_of HZ.out hb (Nat.le_refl _))
    have HB6 := Lib.hid (eb_of HBr.out hb (Nat.le_refl _))
    have HC6 := Lib.hid (eb_of HC.out hb (Nat.le_refl _))
    clear hb HZ HBr HC y0 y1 y2 g1
    obtain ⟨y0, y1, y2, _⟩ := HX.out _ HC6.out
    have HZ := HZ6
    have HBr := HB6
    have HC := HC6
    obtain ⟨f0, f1, f2, f3, f4, f5, f6, f7, f8, f9, f10, f11⟩ := HALL.out _ HZ.out
    obtain ⟨hv0, hv1, hv2, hv3⟩ := HE.out _ HBr.out
    have af0 := abv_c f0
    have af1 := abv_c f1
    have af2 := abv_c f2
    have af3 := abv_c f3
    have af4 := abv_c f4
    have af5 := abv_c f5
    have af6 := abv_c f6
    have af7 := abv_c f7
    have af8 := abv_c f8
    have af9 := abv_c f9
    have af10 := abv_c f10
    have af11 := abv_c f11
    have ahv0 := abv_c hv0
    have ahv1 := abv_c hv1
    have ahv2 := abv_c hv2
    have ahv3 := abv_c hv3
    have ay0 := abv_c y0
    have ay1 := abv_c y1
    have hq1 : (0 : Int) < (n : Int) := by omega
    go_wp2_with fail
    refine wp_region_abv (by first | assumption | kernel_rfl) (by kernel_rfl) ?_
    repeat (first | go_big_quiet_step (exact callAbv (awake8_any _)) | quiet_step (exact callAbv (awake8_any _)))
    refine wpQuiet_nil ?_
    intro w7 hw7
    obtain ⟨p1, rfl⟩ := hw7
    have HZ1 := Lib.hid (eb_of HZ.out p1.h (Nat.le_refl _))
    have HB1 := Lib.hid (eb_of HBr.out p1.h (Nat.le_refl _))
    have HC1 := Lib.hid (eb_of HC.out p1.h (Nat.le_refl _))
    clear af0 af1 af2 af3 af4 af5 af6 af7 af8 af9 af10 af11 ahv0 ahv1 ahv2 ahv3 ay0 ay1 f0 f1 f2 f3 f4 f5 f6 f7 f8 f9 f10 f11 hv0 hv1 hv2 hv3 y0 y1 y2
    obtain ⟨y0, y1, y2, _⟩ := HX.out _ HC1.out
    obtain ⟨f0, f1, f2, f3, f4, f5, f6, f7, f8, f9, f10, f11⟩ := HALL.out _ HZ1.out
    obtain ⟨hv0, hv1, hv2, hv3⟩ := HE.out _ HB1.out
    have af0 := abv_c f0
    have af1 := abv_c f1
    have af2 := abv_c f2
    have af3 := abv_c f3
    have af4 := abv_c f4
    have af5 := abv_c f5
    have af6 := abv_c f6
    have af7 := abv_c f7
    have af8 := abv_c f8
    have af9 := abv_c f9
    have af10 := abv_c f10
    have af11 := abv_c f11
    have ahv0 := abv_c hv0
    have ahv1 := abv_c hv1
    have ahv2 := abv_c hv2
    have ahv3 := abv_c hv3
    have ay0 := abv_c y0
    have ay1 := abv_c y1
    go_wp2_with fail
    refine wp_region_abv (by first | assumption | kernel_rfl) (by kernel_rfl) ?_
    repeat (first | go_big_quiet_step (exact callAbv (awake8_any _)) | quiet_step (exact callAbv (awake8_any _)))
    refine wpQuiet_nil ?_
    intro w9 hw9
    obtain ⟨p3, rfl⟩ := hw9
    have HB9 := Lib.hid (eb_of HB1.out p3.h (Nat.le_refl _))
    go_wp2_with fail
    go_ret
    exact ⟨by first | rfl | (simp; done) | (simp; omega), HB9.out⟩
set_option maxRecDepth 100000 in
set_option maxHeartbeats 8000000 in
theorem nb_010 (id : Int) (b off : Nat) (c n : Nat) (key : ByteArray) (w : World) (j : Nat) (uk uv : ByteArray) (ud : Bool) (uq : Int) (hn : n ≤ 5000) (hk : ¬ 100 < key.size) (hq : (j + 1) = n)
    (JF : Hid (∀ w1, Below w.heap.size w w1 → Calls Try.prog 9 #[.agg #[.int .i64 id, .slice (some ⟨b, off, none⟩) n c]] w1 fun e w' => e = .returned (.bool false) ∧ Below w1.heap.size w1 w'))
    (JG : Hid (∀ w1, Below w.heap.size w w1 → Calls Try.prog 13 #[.agg #[.int .i64 id, .slice (some ⟨b, off, none⟩) n c], .string key] w1 fun e w' => e = .returned (.tuple #[.agg #[.string ⟨#[]⟩, .string ⟨#[]⟩, .bool false, .int .i64 0], .int .i64 4]) ∧ Below w1.heap.size w1 w'))
    (JL : Hid (∀ w1, Below w.heap.size w w1 → Calls Try.prog 15 #[.agg #[.int .i64 id, .slice (some ⟨b, off, none⟩) n c], .string key, .bool true] w1 fun e w' => e = .returned (.tuple #[.agg #[.string uk, .string uv, .bool ud, .int .i64 uq], .int .i64 0]) ∧ Below w1.heap.size w1 w'))
    (JH : Hid (∀ w1, Below w.heap.size w w1 → Calls Try.prog 17 #[.agg #[.int .i64 id, .slice (some ⟨b, off, none⟩) n c], .string key, .bool true] w1 fun e w' => e = .returned (.tuple #[.agg #[.string ⟨#[]⟩, .string ⟨#[]⟩, .bool false, .int .i64 0], .int .i64 4]) ∧ Below w1.heap.size w1 w'))
    (JA : Hid (∀ w1, Below w.heap.size w w1 → Calls Try.prog 15 #[.agg #[.int .i64 id, .slice (some ⟨b, off, none⟩) n c], .string key, .bool false] w1 fun e w' => e = .returned (.tuple #[.agg #[.string uk, .string uv, .bool ud, .int .i64 uq], .int .i64 0]) ∧ Below w1.heap.size w1 w'))
    (JB : Hid (∀ w1, Below w.heap.size w w1 → Calls Try.prog 17 #[.agg #[.int .i64 id, .slice (some ⟨b, off, none⟩) n c], .string key, .bool false] w1 fun e w' => e = .returned (.tuple #[.agg #[.string ⟨#[]⟩, .string ⟨#[]⟩, .bool false, .int .i64 0], .int .i64 4]) ∧ Below w1.heap.size w1 w'))
    (HE : Hid (∀ w', Below w.heap.size w w' → (w'.cell? ⟨b, off + j * 4, none⟩ = some (.string uk) ∧ w'.cell? ⟨b, off + j * 4 + 1, none⟩ = some (.string uv) ∧ w'.cell? ⟨b, off + j * 4 + 2, none⟩ = some (.bool ud) ∧ w'.cell? ⟨b, off + j * 4 + 3, none⟩ = some (.int .i64 uq))))
    (HO : Hid (∀ k, k < n → ∃ kk r, (∀ w', Below w.heap.size w w' → w'.cell? ⟨b, off + k * 4, none⟩ = some (.string kk)) ∧ (r < 0 ↔ k < (j + 1)) ∧ ∀ w1, Calls Try.prog 27 #[.string kk, .string key] w1 fun e w' => e = .returned (.int .i64 r) ∧ Below w1.heap.size w1 w')) :
    Calls Try.prog 5 #[.agg #[.int .i64 id, .slice (some ⟨b, off, none⟩) n c], .string key] w fun e w' => e = .returned (.bool true) ∧ Below w.heap.size w w' := by
  have HX := boxU id (some ⟨b, off, none⟩) n c w
  obtain ⟨x0, x1, x2, x3⟩ := HX.out _ (Below.refl _ _)
  have HB := Lib.hid x3
  have JW := Lib.hid (fun w => awake8_any w)
  clear x2 x3
  have HQ := Lib.hid hq
  have hqa := Nat.le_of_eq hq
  have hqb := Nat.le_of_eq hq.symm
  clear hq
  have hk' : ¬ (100 : Int) < (key.size : Int) := by omega
  go_enter Try.func5, Try.ntmps5
  go_wp2_with fail
  refine (JF.out _ HB.out).mono ?_
  rintro e w0 ⟨rfl, hb⟩
  have HC0 := Lib.hid hb
  obtain ⟨y0, y1, y2, y3⟩ := HX.out _ hb
  have HB0 := Lib.hid y3
  clear hb x0 x1 y3
  go_wp2_with fail
  refine (JG.out _ HB0.out).mono ?_
  rintro e w1 ⟨rfl, hb⟩
  have HC1 := Lib.hid (eb_of HC0.out hb (Nat.le_refl _))
  clear hb y0 y1 y2
  have hbx := alloc_below w1 (.cells #[.string ⟨#[]⟩, .string ⟨#[]⟩, .bool false, .int .i64 0] 31)
  have HC2 := Lib.hid (eb_of HC1.out hbx (Nat.le_refl _))
  have RX2 := Lib.hid (Row4.new w1 31 (.string ⟨#[]⟩) (.string ⟨#[]⟩) (.bool false) (.int .i64 0))
  clear hbx
  obtain ⟨y0, y1, y2, y3⟩ := HX.out _ HC2.out
  have HB2 := Lib.hid y3
  clear y3
  go_wp2_with fail
  refine (JL.out _ HB2.out).mono ?_
  rintro e w3 ⟨rfl, hb⟩
  have HC3 := Lib.hid (eb_of HC2.out hb (Nat.le_refl _))
  have RX3 := Lib.hid (RX2.out.below hb (Nat.le_refl _))
  clear hb y0 y1 y2
  have hbx := alloc_below w3 (.cells #[.string uk, .string uv, .bool ud, .int .i64 uq] 31)
  have HC4 := Lib.hid (eb_of HC3.out hbx (Nat.le_refl _))
  have RX4 := Lib.hid (RX3.out.below hbx (Nat.le_refl _))
  have RL4 := Lib.hid (Row4.new w3 31 (.string uk) (.string uv) (.bool ud) (.int .i64 uq))
  clear hbx
  obtain ⟨y0, y1, y2, y3⟩ := HX.out _ HC4.out
  have HB4 := Lib.hid y3
  clear y3
  go_wp2_with fail
  refine (JH.out _ HB4.out).mono ?_
  rintro e w5 ⟨rfl, hb⟩
  have HC5 := Lib.hid (eb_of HC4.out hb (Nat.le_refl _))
  have RX5 := Lib.hid (RX4.out.below hb (Nat.le_refl _))
  have RL5 := Lib.hid (RL4.out.below hb (Nat.le_refl _))
  clear hb y0 y1 y2
  have hbx := alloc_below w5 (.cells #[.string ⟨#[]⟩, .string ⟨#[]⟩, .bool false, .int .i64 0] 31)
  have HC6 := Lib.hid (eb_of HC5.out hbx (Nat.le_refl _))
  have RX6 := Lib.hid (RX5.out.below hbx (Nat.le_refl _))
  have RL6 := Lib.hid (RL5.out.below hbx (Nat.le_refl _))
  have RH6 := Lib.hid (Row4.new w5 31 (.string ⟨#[]⟩) (.string ⟨#[]⟩) (.bool false) (.int .i64 0))
  clear hbx
  obtain ⟨y0, y1, y2, y3⟩ := HX.out _ HC6.out
  have HB6 := Lib.hid y3
  clear y3
  go_wp2_with fail
  refine (JA.out _ HB6.out).mono ?_
  rintro e w7 ⟨rfl, hb⟩
  have HC7 := Lib.hid (eb_of HC6.out hb (Nat.le_refl _))
  have RX7 := Lib.hid (RX6.out.below hb (Nat.le_refl _))
  have RL7 := Lib.hid (RL6.out.below hb (Nat.le_refl _))
  have RH7 := Lib.hid (RH6.out.below hb (Nat.le_refl _))
  clear hb y0 y1 y2
  have hbx := alloc_below w7 (.cells #[.string uk, .string uv, .bool ud, .int .i64 uq] 31)
  have HC8 := Lib.hid (eb_of HC7.out hbx (Nat.le_refl _))
  have RX8 := Lib.hid (RX7.out.below hbx (Nat.le_refl _))
  have RL8 := Lib.hid (RL7.out.below hbx (Nat.le_refl _))
  have RH8 := Lib.hid (RH7.out.below hbx (Nat.le_refl _))
  have RA8 := Lib.hid (Row4.new w7 31 (.string uk) (.string uv) (.bool ud) (.int .i64 uq))
  clear hbx
  obtain ⟨y0, y1, y2, y3⟩ := HX.out _ HC8.out
  have HB8 := Lib.hid y3
  clear y3
  go_wp2_with fail
  refine (JB.out _ HB8.out).mono ?_
  rintro e w9 ⟨rfl, hb⟩
  have HC9 := Lib.hid (eb_of HC8.out hb (Nat.le_refl _))
  have RX9 := Lib.hid (RX8.out.below hb (Nat.le_refl _))
  have RL9 := Lib.hid (RL8.out.below hb (Nat.le_refl _))
  have RH9 := Lib.hid (RH8.out.below hb (Nat.le_refl _))
  have RA9 := Lib.hid (RA8.out.below hb (Nat.le_refl _))
  clear hb y0 y1 y2
  have hbx := alloc_below w9 (.cells #[.string ⟨#[]⟩, .string ⟨#[]⟩, .bool false, .int .i64 0] 31)
  have HC10 := Lib.hid (eb_of HC9.out hbx (Nat.le_refl _))
  have RX10 := Lib.hid (RX9.out.below hbx (Nat.le_refl _))
  have RL10 := Lib.hid (RL9.out.below hbx (Nat.le_refl _))
  have RH10 := Lib.hid (RH9.out.below hbx (Nat.le_refl _))
  have RA10 := Lib.hid (RA9.out.below hbx (Nat.le_refl _))
  have RB10 := Lib.hid (Row4.new w9 31 (.string ⟨#[]⟩) (.string ⟨#[]⟩) (.bool false) (.int .i64 0))
  clear hbx
  obtain ⟨y0, y1, y2, y3⟩ := HX.out _ HC10.out
  have HB10 := Lib.hid y3
  clear y3
  have rx0 := RX10.out.c0
  have rx1 := RX10.out.c1
  have rx2 := RX10.out.c2
  have rx3 := RX10.out.c3
  have rl0 := RL10.out.c0
  have rl1 := RL10.out.c1
  have rl2 := RL10.out.c2
  have rl3 := RL10.out.c3
  have rh0 := RH10.out.c0
  have rh1 := RH10.out.c1
  have rh2 := RH10.out.c2
  have rh3 := RH10.out.c3
  have ra0 := RA10.out.c0
  have ra1 := RA10.out.c1
  have ra2 := RA10.out.c2
  have ra3 := RA10.out.c3
  have rb0 := RB10.out.c0
  have rb1 := RB10.out.c1
  have rb2 := RB10.out.c2
  have rb3 := RB10.out.c3
  go_wp2_with fail
  clear rx0 rx1 rx2 rx3 rl0 rl1 rl2 rl3 rh0 rh1 rh2 rh3 ra0 ra1 ra2 ra3 rb0 rb1 rb2 rb3
  have HALL : Hid (∀ w', Below (w9.alloc (.cells #[.string ⟨#[]⟩, .string ⟨#[]⟩, .bool false, .int .i64 0] 31)).heap.size (w9.alloc (.cells #[.string ⟨#[]⟩, .string ⟨#[]⟩, .bool false, .int .i64 0] 31)) w' → w'.cell? ⟨w1.heap.size, 0, none⟩ = some (.string ⟨#[]⟩) ∧ w'.cell? ⟨w1.heap.size, 1, none⟩ = some (.string ⟨#[]⟩) ∧ w'.cell? ⟨w1.heap.size, 2, none⟩ = some (.bool false) ∧ w'.cell? ⟨w1.heap.size, 3, none⟩ = some (.int .i64 0) ∧ w'.cell? ⟨w3.heap.size, 0, none⟩ = some (.string uk) ∧ w'.cell? ⟨w3.heap.size, 1, none⟩ = some (.string uv) ∧ w'.cell? ⟨w3.heap.size, 2, none⟩ = some (.bool ud) ∧ w'.cell? ⟨w3.heap.size, 3, none⟩ = some (.int .i64 uq) ∧ w'.cell? ⟨w5.heap.size, 0, none⟩ = some (.string ⟨#[]⟩) ∧ w'.cell? ⟨w5.heap.size, 1, none⟩ = some (.string ⟨#[]⟩) ∧ w'.cell? ⟨w5.heap.size, 2, none⟩ = some (.bool false) ∧ w'.cell? ⟨w5.heap.size, 3, none⟩ = some (.int .i64 0)) := Lib.hid (fun w' h => ⟨(RX10.out.below h (Nat.le_refl _)).c0, (RX10.out.below h (Nat.le_refl _)).c1, (RX10.out.below h (Nat.le_refl _)).c2, (RX10.out.below h (Nat.le_refl _)).c3, (RL10.out.below h (Nat.le_refl _)).c0, (RL10.out.below h (Nat.le_refl _)).c1, (RL10.out.below h (Nat.le_refl _)).c2, (RL10.out.below h (Nat.le_refl _)).c3, (RH10.out.below h (Nat.le_refl _)).c0, (RH10.out.below h (Nat.le_refl _)).c1, (RH10.out.below h (Nat.le_refl _)).c2, (RH10.out.below h (Nat.le_refl _)).c3⟩)
  clear RX10 RL10 RH10 RA10 RB10 y0 y1 y2
  generalize hwz : w9.alloc (.cells #[.string ⟨#[]⟩, .string ⟨#[]⟩, .bool false, .int .i64 0] 31) = wz at *
  clear hwz
  go_loopw [15] (fun i wr => ∃ k : Nat, k ≤ (j + 1) ∧ i = .int .i64 k ∧ Below wz.heap.size wz wr) (fun i _ => (j + 1) - (intOf i).toNat)
  case atStart => exact ⟨0, Nat.zero_le _, rfl, Below.refl _ _⟩
  case round =>
    obtain ⟨k, hk2, rfl, hb⟩ := hrel
    have HC := Lib.hid (HC10.out.trans (hb.mono HC10.out.size))
    have HZ := Lib.hid hb
    obtain ⟨y0, y1, y2, y3⟩ := HX.out _ HC.out
    have HBr := Lib.hid y3
    clear hb y3
    by_cases hlt : k < (j + 1)
    · obtain ⟨kk, r, g0, hr, JO⟩ := HO.out k (by omega)
      have g1 := g0 _ HBr.out
      have hr0 : r < 0 := hr.2 hlt
      have JOH := Lib.hid JO
      have hk0 : (0 : Int) ≤ (k : Int) := by omega
      have hk1 : (k : Int) < (n : Int) := by omega
      clear g0 hr JO
      go_wp2_with fail
      refine (JOH.out _).mono ?_
      rintro e w6 ⟨rfl, hb⟩
      have HZ6 := Lib.hid (eb_of HZ.out hb (Nat.le_refl _))
      clear hb
      go_wp2_with fail
      go_roundw
      case rel => exact ⟨k + 1, by omega, by go_num, HZ6.out⟩
      case measure => simp [intOf]; try omega
    · obtain rfl : k = (j + 1) := by omega
      obtain ⟨f0, f1, f2, f3, f4, f5, f6, f7, f8, f9, f10, f11⟩ := HALL.out _ HZ.out
      obtain ⟨hu0, hu1, hu2, hu3⟩ := HE.out _ HBr.out
      have af0 := abv_c f0
      have af1 := abv_c f1
      have af2 := abv_c f2
      have af3 := abv_c f3
      have af4 := abv_c f4
      have af5 := abv_c f5
      have af6 := abv_c f6
      have af7 := abv_c f7
      have af8 := abv_c f8
      have af9 := abv_c f9
      have af10 := abv_c f10
      have af11 := abv_c f11
      have ahu0 := abv_c hu0
      have ahu1 := abv_c hu1
      have ahu2 := abv_c hu2
      have ahu3 := abv_c hu3
      have ay0 := abv_c y0
      have ay1 := abv_c y1
      have hj0 : (0 : Int) ≤ (j : Int) := by omega
      have hjn : (j : Int) < (n : Int) := by omega
      have hj1 : (j : Int) + 1 - 1 = (j : Int) := by omega
      have hq1 : ¬ ((j : Int) + 1) < (n : Int) := by omega
      have hq2 : (n : Int) ≤ ((j : Int) + 1) := by omega
      go_wp2_with fail
      refine wp_region_abv (by first | assumption | kernel_rfl) (by kernel_rfl) ?_
      repeat (first | go_big_quiet_step (exact callAbv (awake8_any _)) | quiet_step (exact callAbv (awake8_any _)))
      refine wpQuiet_nil ?_
      intro w7 hw7
      obtain ⟨p1, rfl⟩ := hw7
      have HZ1 := Lib.hid (eb_of HZ.out p1.h (Nat.le_refl _))
      have HB1 := Lib.hid (eb_of HBr.out p1.h (Nat.le_refl _))
      have HC1 := Lib.hid (eb_of HC.out p1.h (Nat.le_refl _))
      clear af0 af1 af2 af3 af4 af5 af6 af7 af8 af9 af10 af11 ahu0 ahu1 ahu2 ahu3 ay0 ay1 f0 f1 f2 f3 f4 f5 f6 f7 f8 f9 f10 f11 hu0 hu1 hu2 hu3 y0 y1 y2
      obtain ⟨y0, y1, y2, _⟩ := HX.out _ HC1.out
      obtain ⟨f0, f1, f2, f3, f4, f5, f6, f7, f8, f9, f10, f11⟩ := HALL.out _ HZ1.out
      obtain ⟨hu0, hu1, hu2, hu3⟩ := HE.out _ HB1.out
      have af0 := abv_c f0
      have af1 := abv_c f1
      have af2 := abv_c f2
      have af3 := abv_c f3
      have af4 := abv_c f4
      have af5 := abv_c f5
      have af6 := abv_c f6
      have af7 := abv_c f7
      have af8 := abv_c f8
      have af9 := abv_c f9
      have af10 := abv_c f10
      have af11 := abv_c f11
      have ahu0 := abv_c hu0
      have ahu1 := abv_c hu1
      have ahu2 := abv_c hu2
      have ahu3 := abv_c hu3
      have ay0 := abv_c y0
      have ay1 := abv_c y1
      go_wp2_with fail
      refine wp_region_abv (by first | assumption | kernel_rfl) (by kernel_rfl) ?_
      repeat (first | go_big_quiet_step (exact callAbv (awake8_any _)) | quiet_step (exact callAbv (awake8_any _)))
      refine wpQuiet_nil ?_
      intro w9 hw9
      obtain ⟨p3, rfl⟩ := hw9
      have HB9 := Lib.hid (eb_of HB1.out p3.h (Nat.le_refl _))
      go_wp2_with fail
      go_ret
      exact ⟨by first | rfl | (simp; done) | (simp; omega), HB9.out⟩
set_option maxRecDepth 100000 in
set_option maxHeartbeats 8000000 in
theorem nb_011 (id : Int) (b off : Nat) (c n : Nat) (key : ByteArray) (w : World) (j : Nat) (uk uv : ByteArray) (ud : Bool) (uq : Int) (vk vv : ByteArray) (vd : Bool) (vq : Int) (hn : n ≤ 5000) (hk : ¬ 100 < key.size) (hq : (j + 1) < n)
    (JF : Hid (∀ w1, Below w.heap.size w w1 → Calls Try.prog 9 #[.agg #[.int .i64 id, .slice (some ⟨b, off, none⟩) n c]] w1 fun e w' => e = .returned (.bool false) ∧ Below w1.heap.size w1 w'))
    (JG : Hid (∀ w1, Below w.heap.size w w1 → Calls Try.prog 13 #[.agg #[.int .i64 id, .slice (some ⟨b, off, none⟩) n c], .string key] w1 fun e w' => e = .returned (.tuple #[.agg #[.string ⟨#[]⟩, .string ⟨#[]⟩, .bool false, .int .i64 0], .int .i64 4]) ∧ Below w1.heap.size w1 w'))
    (JL : Hid (∀ w1, Below w.heap.size w w1 → Calls Try.prog 15 #[.agg #[.int .i64 id, .slice (some ⟨b, off, none⟩) n c], .string key, .bool true] w1 fun e w' => e = .returned (.tuple #[.agg #[.string uk, .string uv, .bool ud, .int .i64 uq], .int .i64 0]) ∧ Below w1.heap.size w1 w'))
    (JH : Hid (∀ w1, Below w.heap.size w w1 → Calls Try.prog 17 #[.agg #[.int .i64 id, .slice (some ⟨b, off, none⟩) n c], .string key, .bool true] w1 fun e w' => e = .returned (.tuple #[.agg #[.string vk, .string vv, .bool vd, .int .i64 vq], .int .i64 0]) ∧ Below w1.heap.size w1 w'))
    (JA : Hid (∀ w1, Below w.heap.size w w1 → Calls Try.prog 15 #[.agg #[.int .i64 id, .slice (some ⟨b, off, none⟩) n c], .string key, .bool false] w1 fun e w' => e = .returned (.tuple #[.agg #[.string uk, .string uv, .bool ud, .int .i64 uq], .int .i64 0]) ∧ Below w1.heap.size w1 w'))
    (JB : Hid (∀ w1, Below w.heap.size w w1 → Calls Try.prog 17 #[.agg #[.int .i64 id, .slice (some ⟨b, off, none⟩) n c], .string key, .bool false] w1 fun e w' => e = .returned (.tuple #[.agg #[.string vk, .string vv, .bool vd, .int .i64 vq], .int .i64 0]) ∧ Below w1.heap.size w1 w'))
    (HE : Hid (∀ w', Below w.heap.size w w' → (w'.cell? ⟨b, off + j * 4, none⟩ = some (.string uk) ∧ w'.cell? ⟨b, off + j * 4 + 1, none⟩ = some (.string uv) ∧ w'.cell? ⟨b, off + j * 4 + 2, none⟩ = some (.bool ud) ∧ w'.cell? ⟨b, off + j * 4 + 3, none⟩ = some (.int .i64 uq)) ∧ (w'.cell? ⟨b, off + (j + 1) * 4, none⟩ = some (.string vk) ∧ w'.cell? ⟨b, off + (j + 1) * 4 + 1, none⟩ = some (.string vv) ∧ w'.cell? ⟨b, off + (j + 1) * 4 + 2, none⟩ = some (.bool vd) ∧ w'.cell? ⟨b, off + (j + 1) * 4 + 3, none⟩ = some (.int .i64 vq))))
    (HO : Hid (∀ k, k < n → ∃ kk r, (∀ w', Below w.heap.size w w' → w'.cell? ⟨b, off + k * 4, none⟩ = some (.string kk)) ∧ (r < 0 ↔ k < (j + 1)) ∧ ∀ w1, Calls Try.prog 27 #[.string kk, .string key] w1 fun e w' => e = .returned (.int .i64 r) ∧ Below w1.heap.size w1 w')) :
    Calls Try.prog 5 #[.agg #[.int .i64 id, .slice (some ⟨b, off, none⟩) n c], .string key] w fun e w' => e = .returned (.bool true) ∧ Below w.heap.size w w' := by
  have HX := boxU id (some ⟨b, off, none⟩) n c w
  obtain ⟨x0, x1, x2, x3⟩ := HX.out _ (Below.refl _ _)
  have HB := Lib.hid x3
  have JW := Lib.hid (fun w => awake8_any w)
  clear x2 x3
  have hk' : ¬ (100 : Int) < (key.size : Int) := by omega
  go_enter Try.func5, Try.ntmps5
  go_wp2_with fail
  refine (JF.out _ HB.out).mono ?_
  rintro e w0 ⟨rfl, hb⟩
  have HC0 := Lib.hid hb
  obtain ⟨y0, y1, y2, y3⟩ := HX.out _ hb
  have HB0 := Lib.hid y3
  clear hb x0 x1 y3
  go_wp2_with fail
  refine (JG.out _ HB0.out).mono ?_
  rintro e w1 ⟨rfl, hb⟩
  have HC1 := Lib.hid (eb_of HC0.out hb (Nat.le_refl _))
  clear hb y0 y1 y2
  have hbx := alloc_below w1 (.cells #[.string ⟨#[]⟩, .string ⟨#[]⟩, .bool false, .int .i64 0] 31)
  have HC2 := Lib.hid (eb_of HC1.out hbx (Nat.le_refl _))
  have RX2 := Lib.hid (Row4.new w1 31 (.string ⟨#[]⟩) (.string ⟨#[]⟩) (.bool false) (.int .i64 0))
  clear hbx
  obtain ⟨y0, y1, y2, y3⟩ := HX.out _ HC2.out
  have HB2 := Lib.hid y3
  clear y3
  go_wp2_with fail
  refine (JL.out _ HB2.out).mono ?_
  rintro e w3 ⟨rfl, hb⟩
  have HC3 := Lib.hid (eb_of HC2.out hb (Nat.le_refl _))
  have RX3 := Lib.hid (RX2.out.below hb (Nat.le_refl _))
  clear hb y0 y1 y2
  have hbx := alloc_below w3 (.cells #[.string uk, .string uv, .bool ud, .int .i64 uq] 31)
  have HC4 := Lib.hid (eb_of HC3.out hbx (Nat.le_refl _))
  have RX4 := Lib.hid (RX3.out.below hbx (Nat.le_refl _))
  have RL4 := Lib.hid (Row4.new w3 31 (.string uk) (.string uv) (.bool ud) (.int .i64 uq))
  clear hbx
  obtain ⟨y0, y1, y2, y3⟩ := HX.out _ HC4.out
  have HB4 := Lib.hid y3
  clear y3
  go_wp2_with fail
  refine (JH.out _ HB4.out).mono ?_
  rintro e w5 ⟨rfl, hb⟩
  have HC5 := Lib.hid (eb_of HC4.out hb (Nat.le_refl _))
  have RX5 := Lib.hid (RX4.out.below hb (Nat.le_refl _))
  have RL5 := Lib.hid (RL4.out.below hb (Nat.le_refl _))
  clear hb y0 y1 y2
  have hbx := alloc_below w5 (.cells #[.string vk, .string vv, .bool vd, .int .i64 vq] 31)
  have HC6 := Lib.hid (eb_of HC5.out hbx (Nat.le_refl _))
  have RX6 := Lib.hid (RX5.out.below hbx (Nat.le_refl _))
  have RL6 := Lib.hid (RL5.out.below hbx (Nat.le_refl _))
  have RH6 := Lib.hid (Row4.new w5 31 (.string vk) (.string vv) (.bool vd) (.int .i64 vq))
  clear hbx
  obtain ⟨y0, y1, y2, y3⟩ := HX.out _ HC6.out
  have HB6 := Lib.hid y3
  clear y3
  go_wp2_with fail
  refine (JA.out _ HB6.out).mono ?_
  rintro e w7 ⟨rfl, hb⟩
  have HC7 := Lib.hid (eb_of HC6.out hb (Nat.le_refl _))
  have RX7 := Lib.hid (RX6.out.below hb (Nat.le_refl _))
  have RL7 := Lib.hid (RL6.out.below hb (Nat.le_refl _))
  have RH7 := Lib.hid (RH6.out.below hb (Nat.le_refl _))
  clear hb y0 y1 y2
  have hbx := alloc_below w7 (.cells #[.string uk, .string uv, .bool ud, .int .i64 uq] 31)
  have HC8 := Lib.hid (eb_of HC7.out hbx (Nat.le_refl _))
  have RX8 := Lib.hid (RX7.out.below hbx (Nat.le_refl _))
  have RL8 := Lib.hid (RL7.out.below hbx (Nat.le_refl _))
  have RH8 := Lib.hid (RH7.out.below hbx (Nat.le_refl _))
  have RA8 := Lib.hid (Row4.new w7 31 (.string uk) (.string uv) (.bool ud) (.int .i64 uq))
  clear hbx
  obtain ⟨y0, y1, y2, y3⟩ := HX.out _ HC8.out
  have HB8 := Lib.hid y3
  clear y3
  go_wp2_with fail
  refine (JB.out _ HB8.out).mono ?_
  rintro e w9 ⟨rfl, hb⟩
  have HC9 := Lib.hid (eb_of HC8.out hb (Nat.le_refl _))
  have RX9 := Lib.hid (RX8.out.below hb (Nat.le_refl _))
  have RL9 := Lib.hid (RL8.out.below hb (Nat.le_refl _))
  have RH9 := Lib.hid (RH8.out.below hb (Nat.le_refl _))
  have RA9 := Lib.hid (RA8.out.below hb (Nat.le_refl _))
  clear hb y0 y1 y2
  have hbx := alloc_below w9 (.cells #[.string vk, .string vv, .bool vd, .int .i64 vq] 31)
  have HC10 := Lib.hid (eb_of HC9.out hbx (Nat.le_refl _))
  have RX10 := Lib.hid (RX9.out.below hbx (Nat.le_refl _))
  have RL10 := Lib.hid (RL9.out.below hbx (Nat.le_refl _))
  have RH10 := Lib.hid (RH9.out.below hbx (Nat.le_refl _))
  have RA10 := Lib.hid (RA9.out.below hbx (Nat.le_refl _))
  have RB10 := Lib.hid (Row4.new w9 31 (.string vk) (.string vv) (.bool vd) (.int .i64 vq))
  clear hbx
  obtain ⟨y0, y1, y2, y3⟩ := HX.out _ HC10.out
  have HB10 := Lib.hid y3
  clear y3
  have rx0 := RX10.out.c0
  have rx1 := RX10.out.c1
  have rx2 := RX10.out.c2
  have rx3 := RX10.out.c3
  have rl0 := RL10.out.c0
  have rl1 := RL10.out.c1
  have rl2 := RL10.out.c2
  have rl3 := RL10.out.c3
  have rh0 := RH10.out.c0
  have rh1 := RH10.out.c1
  have rh2 := RH10.out.c2
  have rh3 := RH10.out.c3
  have ra0 := RA10.out.c0
  have ra1 := RA10.out.c1
  have ra2 := RA10.out.c2
  have ra3 := RA10.out.c3
  have rb0 := RB10.out.c0
  have rb1 := RB10.out.c1
  have rb2 := RB10.out.c2
  have rb3 := RB10.out.c3
  go_wp2_with fail
  clear rx0 rx1 rx2 rx3 rl0 rl1 rl2 rl3 rh0 rh1 rh2 rh3 ra0 ra1 ra2 ra3 rb0 rb1 rb2 rb3
  have HALL : Hid (∀ w', Below (w9.alloc (.cells #[.string vk, .string vv, .bool vd, .int .i64 vq] 31)).heap.size (w9.alloc (.cells #[.string vk, .string vv, .bool vd, .int .i64 vq] 31)) w' → w'.cell? ⟨w1.heap.size, 0, none⟩ = some (.string ⟨#[]⟩) ∧ w'.cell? ⟨w1.heap.size, 1, none⟩ = some (.string ⟨#[]⟩) ∧ w'.cell? ⟨w1.heap.size, 2, none⟩ = some (.bool false) ∧ w'.cell? ⟨w1.heap.size, 3, none⟩ = some (.int .i64 0) ∧ w'.cell? ⟨w3.heap.size, 0, none⟩ = some (.string uk) ∧ w'.cell? ⟨w3.heap.size, 1, none⟩ = some (.string uv) ∧ w'.cell? ⟨w3.heap.size, 2, none⟩ = some (.bool ud) ∧ w'.cell? ⟨w3.heap.size, 3, none⟩ = some (.int .i64 uq) ∧ w'.cell? ⟨w5.heap.size, 0, none⟩ = some (.string vk) ∧ w'.cell? ⟨w5.heap.size, 1, none⟩ = some (.string vv) ∧ w'.cell? ⟨w5.heap.size, 2, none⟩ = some (.bool vd) ∧ w'.cell? ⟨w5.heap.size, 3, none⟩ = some (.int .i64 vq)) := Lib.hid (fun w' h => ⟨(RX10.out.below h (Nat.le_refl _)).c0, (RX10.out.below h (Nat.le_refl _)).c1, (RX10.out.below h (Nat.le_refl _)).c2, (RX10.out.below h (Nat.le_refl _)).c3, (RL10.out.below h (Nat.le_refl _)).c0, (RL10.out.below h (Nat.le_refl _)).c1, (RL10.out.below h (Nat.le_refl _)).c2, (RL10.out.below h (Nat.le_refl _)).c3, (RH10.out.below h (Nat.le_refl _)).c0, (RH10.out.below h (Nat.le_refl _)).c1, (RH10.out.below h (Nat.le_refl _)).c2, (RH10.out.below h (Nat.le_refl _)).c3⟩)
  clear RX10 RL10 RH10 RA10 RB10 y0 y1 y2
  generalize hwz : w9.alloc (.cells #[.string vk, .string vv, .bool vd, .int .i64 vq] 31) = wz at *
  clear hwz
  go_loopw [15] (fun i wr => ∃ k : Nat, k ≤ (j + 1) ∧ i = .int .i64 k ∧ Below wz.heap.size wz wr) (fun i _ => (j + 1) - (intOf i).toNat)
  case atStart => exact ⟨0, Nat.zero_le _, rfl, Below.refl _ _⟩
  case round =>
    obtain ⟨k, hk2, rfl, hb⟩ := hrel
    have HC := Lib.hid (HC10.out.trans (hb.mono HC10.out.size))
    have HZ := Lib.hid hb
    obtain ⟨y0, y1, y2, y3⟩ := HX.out _ HC.out
    have HBr := Lib.hid y3
    clear hb y3
    by_cases hlt : k < (j + 1)
    · obtain ⟨kk, r, g0, hr, JO⟩ := HO.out k (by omega)
      have g1 := g0 _ HBr.out
      have hr0 : r < 0 := hr.2 hlt
      have JOH := Lib.hid JO
      have hk0 : (0 : Int) ≤ (k : Int) := by omega
      have hk1 : (k : Int) < (n : Int) := by omega
      clear g0 hr JO
      go_wp2_with fail
      refine (JOH.out _).mono ?_
      rintro e w6 ⟨rfl, hb⟩
      have HZ6 := Lib.hid (eb_of HZ.out hb (Nat.le_refl _))
      clear hb
      go_wp2_with fail
      go_roundw
      case rel => exact ⟨k + 1, by omega, by go_num, HZ6.out⟩
      case measure => simp [intOf]; try omega
    · obtain rfl : k = (j + 1) := by omega
      obtain ⟨kk, r, g0, hr, JO⟩ := HO.out (j + 1) (by omega)
      have g1 := g0 _ HBr.out
      have hr0 : ¬ r < 0 := fun h => by have := hr.1 h; omega
      have JOH := Lib.hid JO
      have hk0 : (0 : Int) ≤ ((j : Int) + 1) := by omega
      have hk1 : ((j : Int) + 1) < (n : Int) := by omega
      clear g0 hr JO
      go_wp2_with fail
      refine (JOH.out _).mono ?_
      rintro e w6 ⟨rfl, hb⟩
      have HZ6 := Lib.hid (eb_of HZ.out hb (Nat.le_refl _))
      have HB6 := Lib.hid (eb_of HBr.out hb (Nat.le_refl _))
      have HC6 := Lib.hid (eb_of HC.out hb (Nat.le_refl _))
      clear hb HZ HBr HC y0 y1 y2 g1
      obtain ⟨y0, y1, y2, _⟩ := HX.out _ HC6.out
      have HZ := HZ6
      have HBr := HB6
      have HC := HC6
      obtain ⟨f0, f1, f2, f3, f4, f5, f6, f7, f8, f9, f10, f11⟩ := HALL.out _ HZ.out
      obtain ⟨⟨hu0, hu1, hu2, hu3⟩, ⟨hv0, hv1, hv2, hv3⟩⟩ := HE.out _ HBr.out
      have af0 := abv_c f0
      have af1 := abv_c f1
      have af2 := abv_c f2
      have af3 := abv_c f3
      have af4 := abv_c f4
      have af5 := abv_c f5
      have af6 := abv_c f6
      have af7 := abv_c f7
      have af8 := abv_c f8
      have af9 := abv_c f9
      have af10 := abv_c f10
      have af11 := abv_c f11
      have ahu0 := abv_c hu0
      have ahu1 := abv_c hu1
      have ahu2 := abv_c hu2
      have ahu3 := abv_c hu3
      have ahv0 := abv_c hv0
      have ahv1 := abv_c hv1
      have ahv2 := abv_c hv2
      have ahv3 := abv_c hv3
      have ay0 := abv_c y0
      have ay1 := abv_c y1
      have hj0 : (0 : Int) ≤ (j : Int) := by omega
      have hjn : (j : Int) < (n : Int) := by omega
      have hj1 : (j : Int) + 1 - 1 = (j : Int) := by omega
      have hq1 : ((j : Int) + 1) < (n : Int) := by omega
      go_wp2_with fail
      refine wp_region_abv (by first | assumption | kernel_rfl) (by kernel_rfl) ?_
      repeat (first | go_big_quiet_step (exact callAbv (awake8_any _)) | quiet_step (exact callAbv (awake8_any _)))
      refine wpQuiet_nil ?_
      intro w7 hw7
      obtain ⟨p1, rfl⟩ := hw7
      have HZ1 := Lib.hid (eb_of HZ.out p1.h (Nat.le_refl _))
      have HB1 := Lib.hid (eb_of HBr.out p1.h (Nat.le_refl _))
      have HC1 := Lib.hid (eb_of HC.out p1.h (Nat.le_refl _))
      clear af0 af1 af2 af3 af4 af5 af6 af7 af8 af9 af10 af11 ahu0 ahu1 ahu2 ahu3 ahv0 ahv1 ahv2 ahv3 ay0 ay1 f0 f1 f2 f3 f4 f5 f6 f7 f8 f9 f10 f11 hu0 hu1 hu2 hu3 hv0 hv1 hv2 hv3 y0 y1 y2
      obtain ⟨y0, y1, y2, _⟩ := HX.out _ HC1.out
      obtain ⟨f0, f1, f2, f3, f4, f5, f6, f7, f8, f9, f10, f11⟩ := HALL.out _ HZ1.out
      obtain ⟨⟨hu0, hu1, hu2, hu3⟩, ⟨hv0, hv1, hv2, hv3⟩⟩ := HE.out _ HB1.out
      have af0 := abv_c f0
      have af1 := abv_c f1
      have af2 := abv_c f2
      have af3 := abv_c f3
      have af4 := abv_c f4
      have af5 := abv_c f5
      have af6 := abv_c f6
      have af7 := abv_c f7
      have af8 := abv_c f8
      have af9 := abv_c f9
      have af10 := abv_c f10
      have af11 := abv_c f11
      have ahu0 := abv_c hu0
      have ahu1 := abv_c hu1
      have ahu2 := abv_c hu2
      have ahu3 := abv_c hu3
      have ahv0 := abv_c hv0
      have ahv1 := abv_c hv1
      have ahv2 := abv_c hv2
      have ahv3 := abv_c hv3
      have ay0 := abv_c y0
      have ay1 := abv_c y1
      go_wp2_with fail
      refine wp_region_abv (by first | assumption | kernel_rfl) (by kernel_rfl) ?_
      repeat (first | go_big_quiet_step (exact callAbv (awake8_any _)) | quiet_step (exact callAbv (awake8_any _)))
      refine wpQuiet_nil ?_
      intro w9 hw9
      obtain ⟨p3, rfl⟩ := hw9
      have HB9 := Lib.hid (eb_of HB1.out p3.h (Nat.le_refl _))
      go_wp2_with fail
      go_ret
      exact ⟨by first | rfl | (simp; done) | (simp; omega), HB9.out⟩
end Go.Proofs.Ytjnbdeahmbkbnaa.KK
