/-
  Walk: awake.
-/
import Derived.Test.YticdechdgpfdfaaSm
namespace Go.Proofs.Yticdechdgpfdfaa.KK
open Go.ChangeShapes Go.WideShapes Go.ChangeAt Go.RowKit Go.Proofs Go.Sort

theorem field_run (x : Int) (a : Option Addr) (n c : Nat) (w : World) : Sem.run Try.prog (Instr.field 24 (.agg #[.int .i64 x, .slice a n c]) 1) w = .ok (.slice a n c) w := by kernel_rfl
theorem rxL_sized : Sized rxL := fun x hx => by simp [rxL] at hx; rcases hx with rfl | rfl | rfl <;> decide
theorem pSeek9_any (id : Int) (B : Option Addr) (d : Nat) (xs : List El.En) (key : ByteArray) (past : Bool) (w : World) (hf : EsAt w B xs) (hn : xs.length ≤ 4294967295) (hs : Sized xs) (hcap : xs.length ≤ d) (hnil : B = none → d = 0) (hk : key.size ≤ 9223372036854775807) :
    Calls Try.prog 23 #[.agg #[.int .i64 id, .slice B xs.length d], .string key, .bool past] w fun e w' => e = .returned (.tuple #[.agg #[.int .i64 (sekE id xs key past).1], .int .i64 (sekE id xs key past).2]) ∧ Below w.heap.size w w' := by
  by_cases h1 : askR id xs key = 0
  · exact pSeek9_ok id B d xs key past w hf hn hs hcap hnil hk h1
  · exact pSeek9_bad id B d xs key past w hf hn hs hk h1
theorem esAt_two (w : World) (x y : El.En) : EsAt (w.alloc (.cells #[.string x.1, .string x.2.1, .bool x.2.2.1, .int .i64 x.2.2.2, .string y.1, .string y.2.1, .bool y.2.2.1, .int .i64 y.2.2.2] 34)) (some ⟨w.heap.size, 0, none⟩) [x, y] := by
  have hr := fun c => cell_of_row (w.alloc (.cells #[.string x.1, .string x.2.1, .bool x.2.2.1, .int .i64 x.2.2.2, .string y.1, .string y.2.1, .bool y.2.2.1, .int .i64 y.2.2.2] 34)) w.heap.size c _ _ _ (heap_alloc_new w _)
  refine .inr ⟨w.heap.size, 0, rfl, by simp, fun i hi => ?_⟩
  have : i = 0 ∨ i = 1 := by simp at hi; omega
  rcases this with rfl | rfl
  · exact ⟨hr 0, hr 1, hr 2, hr 3⟩
  · exact ⟨hr 4, hr 5, hr 6, hr 7⟩
theorem rxNext (k : Int) (y : El.En) (p r : Int) (a : Addr) (w : World) (hf : EsAt w (some a) rxL) (h : goE 7 rxL k false (fun _ => true) = (y, p, r)) :
    Calls Try.prog 19 #[.agg #[.int .i64 7, .slice (some a) 3 3], .agg #[.int .i64 k]] w fun e w' => e = .returned (.tuple #[.agg #[.string y.1, .string y.2.1, .bool y.2.2.1, .int .i64 y.2.2.2], .agg #[.int .i64 p], .int .i64 r]) ∧ Below w.heap.size w w' :=
  (pNext9_any 7 (some a) 3 rxL k w hf (by decide) rxL_sized).mono fun e w' ⟨he, hb⟩ => ⟨by rw [he, h]; rfl, hb⟩
theorem rxPrev (k : Int) (y : El.En) (p r : Int) (a : Addr) (w : World) (hf : EsAt w (some a) rxL) (h : goE 7 rxL k true (fun _ => true) = (y, p, r)) :
    Calls Try.prog 21 #[.agg #[.int .i64 7, .slice (some a) 3 3], .agg #[.int .i64 k]] w fun e w' => e = .returned (.tuple #[.agg #[.string y.1, .string y.2.1, .bool y.2.2.1, .int .i64 y.2.2.2], .agg #[.int .i64 p], .int .i64 r]) ∧ Below w.heap.size w w' :=
  (pPrev9_any 7 (some a) 3 rxL k w hf (by decide) rxL_sized).mono fun e w' ⟨he, hb⟩ => ⟨by rw [he, h]; rfl, hb⟩
theorem rxSeek (key : ByteArray) (past : Bool) (p r : Int) (a : Addr) (w : World) (hf : EsAt w (some a) rxL) (hk : key.size ≤ 9223372036854775807) (h : sekE 7 rxL key past = (p, r)) :
    Calls Try.prog 23 #[.agg #[.int .i64 7, .slice (some a) 3 3], .string key, .bool past] w fun e w' => e = .returned (.tuple #[.agg #[.int .i64 p], .int .i64 r]) ∧ Below w.heap.size w w' :=
  (pSeek9_any 7 (some a) 3 rxL key past w hf (by decide) rxL_sized (by decide) (fun e => by cases e) hk).mono fun e w' ⟨he, hb⟩ => ⟨by rw [he, h], hb⟩
theorem rxTake (k c : Int) (l : List El.En) (p r : Int) (a : Addr) (w : World) (hf : EsAt w (some a) rxL) (h : takE 7 rxL k c = (l, p, r)) :
    Calls Try.prog 27 #[.agg #[.int .i64 7, .slice (some a) 3 3], .agg #[.int .i64 k], .int .i64 c] w fun e w' => (∃ A d, e = .returned (.tuple #[.slice A l.length d, .agg #[.int .i64 p], .int .i64 r]) ∧ EsAt w' A l) ∧ Below w.heap.size w w' :=
  (pTake9_any 7 (some a) 3 rxL k c w hf (by decide) rxL_sized).mono fun e w' ⟨A, d, he, hes, _, _, hb⟩ => ⟨⟨A, d, by rw [he, h], by rw [h] at hes; exact hes⟩, hb⟩
set_option maxRecDepth 100000 in
set_option maxHeartbeats 8000000 in
theorem awake9_any (w : World) : Calls Try.prog 12 #[] w fun e w' => e = .returned (.bool true) ∧ Below w.heap.size w w' := by
  have JS := Lib.hid (fun a w hf => rxSeek ⟨#[99]⟩ true 2 0 a w hf (by decide) (by decide +kernel))
  have JN := Lib.hid (fun a w hf => rxNext 1 rx2 2 0 a w hf (by decide +kernel))
  have JP := Lib.hid (fun a w hf => rxPrev 0 El.none 0 12 a w hf (by decide +kernel))
  have JT := Lib.hid (fun a w hf => rxTake 3 (-2) [rx3, rx2] 1 0 a w hf (by decide +kernel))
  simp only [rx2, El.none] at JN JP
  have hfield := field_run
  have HB := Lib.hid (Below.refl w.heap.size w)
  go_enter Try.func12, Try.ntmps12
  go_wp2_with fail
  refine (rx9_any _).mono ?_
  rintro e w1 ⟨a0, rfl, hes, hb⟩
  have HB1 := Lib.hid (eb_of HB.out hb (by first | exact Nat.le_refl _ | exact HB.out.size))
  clear hb
  have KE0 := Lib.hid hes
  clear hes
  go_wp2_with fail
  refine (rx9_any _).mono ?_
  rintro e w2 ⟨a1, rfl, hes, hb⟩
  have HB2 := Lib.hid (eb_of HB1.out hb (by first | exact Nat.le_refl _ | exact HB1.out.size))
  have KL0_2 := Lib.hid (EsAt.below KE0.out hb (Nat.le_refl _))
  clear HB1 KE0
  clear hb
  have KE1 := Lib.hid hes
  clear hes
  go_wp2_with fail
  refine (JS.out _ _ KE1.out).mono ?_
  rintro e w3 ⟨rfl, hb⟩
  have HB3 := Lib.hid (eb_of HB2.out hb (by first | exact Nat.le_refl _ | exact HB2.out.size))
  have KL0_3 := Lib.hid (EsAt.below KL0_2.out hb (Nat.le_refl _))
  have KL1_3 := Lib.hid (EsAt.below KE1.out hb (Nat.le_refl _))
  clear HB2 KL0_2 KE1
  clear hb
  have hb := alloc_below w3 (.cells #[.int .i64 2] 26)
  have HB4 := Lib.hid (eb_of HB3.out hb (by first | exact Nat.le_refl _ | exact HB3.out.size))
  have KL0_4 := Lib.hid (EsAt.below KL0_3.out hb (Nat.le_refl _))
  clear HB3 KL0_3
  clear hb
  have RA_4 : Hid (Boxed (w3.alloc (.cells #[.int .i64 2] 26)) (w3.heap.size) 26 (.int .i64 2)) := Lib.hid (heap_alloc_new _ _)
  go_wp2_with fail
  refine (rx9_any _).mono ?_
  rintro e w5 ⟨a2, rfl, hes, hb⟩
  have HB5 := Lib.hid (eb_of HB4.out hb (by first | exact Nat.le_refl _ | exact HB4.out.size))
  have RA_5 := Lib.hid (box_below RA_4.out hb (Nat.le_refl _))
  have KL0_5 := Lib.hid (EsAt.below KL0_4.out hb (Nat.le_refl _))
  clear HB4 RA_4 KL0_4
  clear hb
  have KE2 := Lib.hid hes
  clear hes
  go_wp2_with fail
  refine (at_any _ _).mono ?_
  rintro e w6 ⟨rfl, hb⟩
  have HB6 := Lib.hid (eb_of HB5.out hb (by first | exact Nat.le_refl _ | exact HB5.out.size))
  have RA_6 := Lib.hid (box_below RA_5.out hb (Nat.le_refl _))
  have KL0_6 := Lib.hid (EsAt.below KL0_5.out hb (Nat.le_refl _))
  have KL2_6 := Lib.hid (EsAt.below KE2.out hb (Nat.le_refl _))
  clear HB5 RA_5 KL0_5 KE2
  clear hb
  go_wp2_with fail
  refine (JN.out _ _ KL2_6.out).mono ?_
  rintro e w7 ⟨rfl, hb⟩
  have HB7 := Lib.hid (eb_of HB6.out hb (by first | exact Nat.le_refl _ | exact HB6.out.size))
  have RA_7 := Lib.hid (box_below RA_6.out hb (Nat.le_refl _))
  have KL0_7 := Lib.hid (EsAt.below KL0_6.out hb (Nat.le_refl _))
  have KL2_7 := Lib.hid (EsAt.below KL2_6.out hb (Nat.le_refl _))
  clear HB6 RA_6 KL0_6 KL2_6
  clear hb
  have hb := alloc_below w7 (.cells #[.string ⟨#[99]⟩, .string ⟨#[]⟩, .bool true, .int .i64 2] 34)
  have HB8 := Lib.hid (eb_of HB7.out hb (by first | exact Nat.le_refl _ | exact HB7.out.size))
  have RA_8 := Lib.hid (box_below RA_7.out hb (Nat.le_refl _))
  have KL0_8 := Lib.hid (EsAt.below KL0_7.out hb (Nat.le_refl _))
  clear HB7 RA_7 KL0_7
  clear hb
  have RB_8 : Hid (Row4 (w7.alloc (.cells #[.string ⟨#[99]⟩, .string ⟨#[]⟩, .bool true, .int .i64 2] 34)) (w7.heap.size) 34 (.string ⟨#[99]⟩) (.string ⟨#[]⟩) (.bool true) (.int .i64 2)) := Lib.hid (heap_alloc_new _ _)
  have hb := alloc_below (w7.alloc (.cells #[.string ⟨#[99]⟩, .string ⟨#[]⟩, .bool true, .int .i64 2] 34)) (.cells #[.int .i64 2] 26)
  have HB9 := Lib.hid (eb_of HB8.out hb (by first | exact Nat.le_refl _ | exact HB8.out.size))
  have RA_9 := Lib.hid (box_below RA_8.out hb (Nat.le_refl _))
  have RB_9 := Lib.hid (Row4.below RB_8.out hb (Nat.le_refl _))
  have KL0_9 := Lib.hid (EsAt.below KL0_8.out hb (Nat.le_refl _))
  clear HB8 RA_8 RB_8 KL0_8
  clear hb
  have RC_9 : Hid (Boxed ((w7.alloc (.cells #[.string ⟨#[99]⟩, .string ⟨#[]⟩, .bool true, .int .i64 2] 34)).alloc (.cells #[.int .i64 2] 26)) (w7.heap.size + 1) 26 (.int .i64 2)) := Lib.hid (by
    have hq := heap_alloc_new (w7.alloc (.cells #[.string ⟨#[99]⟩, .string ⟨#[]⟩, .bool true, .int .i64 2] 34)) (.cells #[.int .i64 2] 26)
    simp only [World.size_alloc] at hq
    exact hq)
  go_wp2_with fail
  refine (rx9_any _).mono ?_
  rintro e w10 ⟨a3, rfl, hes, hb⟩
  have HB10 := Lib.hid (eb_of HB9.out hb (by first | exact Nat.le_refl _ | exact HB9.out.size))
  have RA_10 := Lib.hid (box_below RA_9.out hb (Nat.le_refl _))
  have RB_10 := Lib.hid (Row4.below RB_9.out hb (Nat.le_refl _))
  have RC_10 := Lib.hid (box_below RC_9.out hb (Nat.le_refl _))
  have KL0_10 := Lib.hid (EsAt.below KL0_9.out hb (Nat.le_refl _))
  clear HB9 RA_9 RB_9 RC_9 KL0_9
  clear hb
  have KE3 := Lib.hid hes
  clear hes
  go_wp2_with fail
  refine (at_any _ _).mono ?_
  rintro e w11 ⟨rfl, hb⟩
  have HB11 := Lib.hid (eb_of HB10.out hb (by first | exact Nat.le_refl _ | exact HB10.out.size))
  have RA_11 := Lib.hid (box_below RA_10.out hb (Nat.le_refl _))
  have RB_11 := Lib.hid (Row4.below RB_10.out hb (Nat.le_refl _))
  have RC_11 := Lib.hid (box_below RC_10.out hb (Nat.le_refl _))
  have KL0_11 := Lib.hid (EsAt.below KL0_10.out hb (Nat.le_refl _))
  have KL3_11 := Lib.hid (EsAt.below KE3.out hb (Nat.le_refl _))
  clear HB10 RA_10 RB_10 RC_10 KL0_10 KE3
  clear hb
  go_wp2_with fail
  refine (JP.out _ _ KL3_11.out).mono ?_
  rintro e w12 ⟨rfl, hb⟩
  have HB12 := Lib.hid (eb_of HB11.out hb (by first | exact Nat.le_refl _ | exact HB11.out.size))
  have RA_12 := Lib.hid (box_below RA_11.out hb (Nat.le_refl _))
  have RB_12 := Lib.hid (Row4.below RB_11.out hb (Nat.le_refl _))
  have RC_12 := Lib.hid (box_below RC_11.out hb (Nat.le_refl _))
  have KL0_12 := Lib.hid (EsAt.below KL0_11.out hb (Nat.le_refl _))
  have KL3_12 := Lib.hid (EsAt.below KL3_11.out hb (Nat.le_refl _))
  clear HB11 RA_11 RB_11 RC_11 KL0_11 KL3_11
  clear hb
  have hb := alloc_below w12 (.cells #[.string ⟨#[]⟩, .string ⟨#[]⟩, .bool false, .int .i64 0] 34)
  have HB13 := Lib.hid (eb_of HB12.out hb (by first | exact Nat.le_refl _ | exact HB12.out.size))
  have RA_13 := Lib.hid (box_below RA_12.out hb (Nat.le_refl _))
  have RB_13 := Lib.hid (Row4.below RB_12.out hb (Nat.le_refl _))
  have RC_13 := Lib.hid (box_below RC_12.out hb (Nat.le_refl _))
  have KL0_13 := Lib.hid (EsAt.below KL0_12.out hb (Nat.le_refl _))
  clear HB12 RA_12 RB_12 RC_12 KL0_12
  clear hb
  have RD_13 : Hid (Row4 (w12.alloc (.cells #[.string ⟨#[]⟩, .string ⟨#[]⟩, .bool false, .int .i64 0] 34)) (w12.heap.size) 34 (.string ⟨#[]⟩) (.string ⟨#[]⟩) (.bool false) (.int .i64 0)) := Lib.hid (heap_alloc_new _ _)
  have hb := alloc_below (w12.alloc (.cells #[.string ⟨#[]⟩, .string ⟨#[]⟩, .bool false, .int .i64 0] 34)) (.cells #[.int .i64 0] 26)
  have HB14 := Lib.hid (eb_of HB13.out hb (by first | exact Nat.le_refl _ | exact HB13.out.size))
  have RA_14 := Lib.hid (box_below RA_13.out hb (Nat.le_refl _))
  have RB_14 := Lib.hid (Row4.below RB_13.out hb (Nat.le_refl _))
  have RC_14 := Lib.hid (box_below RC_13.out hb (Nat.le_refl _))
  have RD_14 := Lib.hid (Row4.below RD_13.out hb (Nat.le_refl _))
  have KL0_14 := Lib.hid (EsAt.below KL0_13.out hb (Nat.le_refl _))
  clear HB13 RA_13 RB_13 RC_13 RD_13 KL0_13
  clear hb
  have RE_14 : Hid (Boxed ((w12.alloc (.cells #[.string ⟨#[]⟩, .string ⟨#[]⟩, .bool false, .int .i64 0] 34)).alloc (.cells #[.int .i64 0] 26)) (w12.heap.size + 1) 26 (.int .i64 0)) := Lib.hid (by
    have hq := heap_alloc_new (w12.alloc (.cells #[.string ⟨#[]⟩, .string ⟨#[]⟩, .bool false, .int .i64 0] 34)) (.cells #[.int .i64 0] 26)
    simp only [World.size_alloc] at hq
    exact hq)
  go_wp2_with fail
  refine (rx9_any _).mono ?_
  rintro e w15 ⟨a4, rfl, hes, hb⟩
  have HB15 := Lib.hid (eb_of HB14.out hb (by first | exact Nat.le_refl _ | exact HB14.out.size))
  have RA_15 := Lib.hid (box_below RA_14.out hb (Nat.le_refl _))
  have RB_15 := Lib.hid (Row4.below RB_14.out hb (Nat.le_refl _))
  have RC_15 := Lib.hid (box_below RC_14.out hb (Nat.le_refl _))
  have RD_15 := Lib.hid (Row4.below RD_14.out hb (Nat.le_refl _))
  have RE_15 := Lib.hid (box_below RE_14.out hb (Nat.le_refl _))
  have KL0_15 := Lib.hid (EsAt.below KL0_14.out hb (Nat.le_refl _))
  clear HB14 RA_14 RB_14 RC_14 RD_14 RE_14 KL0_14
  clear hb
  have KE4 := Lib.hid hes
  clear hes
  go_wp2_with fail
  refine (at_any _ _).mono ?_
  rintro e w16 ⟨rfl, hb⟩
  have HB16 := Lib.hid (eb_of HB15.out hb (by first | exact Nat.le_refl _ | exact HB15.out.size))
  have RA_16 := Lib.hid (box_below RA_15.out hb (Nat.le_refl _))
  have RB_16 := Lib.hid (Row4.below RB_15.out hb (Nat.le_refl _))
  have RC_16 := Lib.hid (box_below RC_15.out hb (Nat.le_refl _))
  have RD_16 := Lib.hid (Row4.below RD_15.out hb (Nat.le_refl _))
  have RE_16 := Lib.hid (box_below RE_15.out hb (Nat.le_refl _))
  have KL0_16 := Lib.hid (EsAt.below KL0_15.out hb (Nat.le_refl _))
  have KL4_16 := Lib.hid (EsAt.below KE4.out hb (Nat.le_refl _))
  clear HB15 RA_15 RB_15 RC_15 RD_15 RE_15 KL0_15 KE4
  clear hb
  go_wp2_with fail
  refine (JT.out _ _ KL4_16.out).mono ?_
  rintro e w17 ⟨⟨A9, d9, rfl, hes⟩, hb⟩
  have HB17 := Lib.hid (eb_of HB16.out hb (by first | exact Nat.le_refl _ | exact HB16.out.size))
  have RA_17 := Lib.hid (box_below RA_16.out hb (Nat.le_refl _))
  have RB_17 := Lib.hid (Row4.below RB_16.out hb (Nat.le_refl _))
  have RC_17 := Lib.hid (box_below RC_16.out hb (Nat.le_refl _))
  have RD_17 := Lib.hid (Row4.below RD_16.out hb (Nat.le_refl _))
  have RE_17 := Lib.hid (box_below RE_16.out hb (Nat.le_refl _))
  have KL0_17 := Lib.hid (EsAt.below KL0_16.out hb (Nat.le_refl _))
  clear HB16 RA_16 RB_16 RC_16 RD_16 RE_16 KL0_16
  clear hb
  have KT := Lib.hid hes
  clear hes
  have hb := alloc_below w17 (.cells #[.int .i64 1] 26)
  have HB18 := Lib.hid (eb_of HB17.out hb (by first | exact Nat.le_refl _ | exact HB17.out.size))
  have RA_18 := Lib.hid (box_below RA_17.out hb (Nat.le_refl _))
  have RB_18 := Lib.hid (Row4.below RB_17.out hb (Nat.le_refl _))
  have RC_18 := Lib.hid (box_below RC_17.out hb (Nat.le_refl _))
  have RD_18 := Lib.hid (Row4.below RD_17.out hb (Nat.le_refl _))
  have RE_18 := Lib.hid (box_below RE_17.out hb (Nat.le_refl _))
  have KL0_18 := Lib.hid (EsAt.below KL0_17.out hb (Nat.le_refl _))
  have KT_18 := Lib.hid (EsAt.below KT.out hb (Nat.le_refl _))
  clear HB17 RA_17 RB_17 RC_17 RD_17 RE_17 KL0_17 KT
  clear hb
  have RF_18 : Hid (Boxed (w17.alloc (.cells #[.int .i64 1] 26)) (w17.heap.size) 26 (.int .i64 1)) := Lib.hid (heap_alloc_new _ _)
  simp only [List.length_cons, List.length_nil, Nat.reduceAdd] at *
  go_wp2_with fail
  generalize (w17.alloc (.cells #[.int .i64 1] 26)) = wz at *
  generalize w3.heap.size = bA at *
  generalize (w7.heap.size + 1) = bC at *
  generalize w7.heap.size = bB at *
  generalize (w12.heap.size + 1) = bE at *
  generalize w17.heap.size = bF at *
  have hb := Below.refl wz.heap.size wz
  rcases KL0_18.out with h0 | ⟨bl, ol, ha0, hbl, hc⟩
  · exact absurd h0 (by decide)
  obtain rfl : a0 = ⟨bl, ol, none⟩ := Option.some.inj ha0
  have hK1 := hc 1 (by decide)
  have hK2 := hc 2 (by decide)
  simp only [rxL, rx1, rx2, rx3, List.getElem_cons_zero, List.getElem_cons_succ, Nat.one_mul, Nat.add_zero, Nat.reduceMul, Nat.add_assoc, Nat.reduceAdd] at hK1 hK2
  obtain ⟨d0, d1, d2, d3⟩ := hK1
  obtain ⟨e0, e1, e2, e3⟩ := hK2
  have HK : Hid (∀ w', Below wz.heap.size wz w' → Below wz.heap.size wz w' ∧ w'.cell? ⟨bA, 0, none⟩ = some (.int .i64 2) ∧ w'.cell? ⟨bC, 0, none⟩ = some (.int .i64 2) ∧ w'.cell? ⟨bE, 0, none⟩ = some (.int .i64 0) ∧ w'.cell? ⟨bF, 0, none⟩ = some (.int .i64 1) ∧ w'.cell? ⟨bB, 0, none⟩ = some (.string ⟨#[99]⟩) ∧ w'.cell? ⟨bB, 1, none⟩ = some (.string ⟨#[]⟩) ∧ w'.cell? ⟨bB, 2, none⟩ = some (.bool true) ∧ w'.cell? ⟨bB, 3, none⟩ = some (.int .i64 2) ∧ w'.cell? ⟨bl, ol + 4, none⟩ = some (.string ⟨#[99]⟩) ∧ w'.cell? ⟨bl, ol + 5, none⟩ = some (.string ⟨#[]⟩) ∧ w'.cell? ⟨bl, ol + 6, none⟩ = some (.bool true) ∧ w'.cell? ⟨bl, ol + 7, none⟩ = some (.int .i64 2) ∧ w'.cell? ⟨bl, ol + 8, none⟩ = some (.string ⟨#[101]⟩) ∧ w'.cell? ⟨bl, ol + 9, none⟩ = some (.string ⟨#[50]⟩) ∧ w'.cell? ⟨bl, ol + 10, none⟩ = some (.bool false) ∧ w'.cell? ⟨bl, ol + 11, none⟩ = some (.int .i64 3)) := Lib.hid (fun w' h => by
    have rB := Row4.below RB_18.out h (Nat.le_refl _)
    exact ⟨h, (box_below RA_18.out h (Nat.le_refl _)).cell, (box_below RC_18.out h (Nat.le_refl _)).cell, (box_below RE_18.out h (Nat.le_refl _)).cell, (box_below RF_18.out h (Nat.le_refl _)).cell, rB.c0, rB.c1, rB.c2, rB.c3, (h.cell (p := ⟨bl, ol + 4, none⟩) hbl).trans d0, (h.cell (p := ⟨bl, ol + 5, none⟩) hbl).trans d1, (h.cell (p := ⟨bl, ol + 6, none⟩) hbl).trans d2, (h.cell (p := ⟨bl, ol + 7, none⟩) hbl).trans d3, (h.cell (p := ⟨bl, ol + 8, none⟩) hbl).trans e0, (h.cell (p := ⟨bl, ol + 9, none⟩) hbl).trans e1, (h.cell (p := ⟨bl, ol + 10, none⟩) hbl).trans e2, (h.cell (p := ⟨bl, ol + 11, none⟩) hbl).trans e3⟩)
  have JS1 : Hid (∀ w1 w2, Below wz.heap.size wz w1 → Below (w1.alloc (.cells #[.string ⟨#[101]⟩, .string ⟨#[50]⟩, .bool false, .int .i64 3, .string ⟨#[99]⟩, .string ⟨#[]⟩, .bool true, .int .i64 2] 34)).heap.size (w1.alloc (.cells #[.string ⟨#[101]⟩, .string ⟨#[50]⟩, .bool false, .int .i64 3, .string ⟨#[99]⟩, .string ⟨#[]⟩, .bool true, .int .i64 2] 34)) w2 → Calls Try.prog 29 #[.slice A9 2 d9, .slice (some ⟨w1.heap.size, 0, none⟩) 2 2] w2 fun e w' => e = .returned (.bool true) ∧ Below wz.heap.size wz w') := Lib.hid (fun w1 w2 h hz => by
    have ha := alloc_below w1 (.cells #[.string ⟨#[101]⟩, .string ⟨#[50]⟩, .bool false, .int .i64 3, .string ⟨#[99]⟩, .string ⟨#[]⟩, .bool true, .int .i64 2] 34)
    have h2 := eb_of (eb_of h ha (Nat.le_refl _)) hz (Nat.le_refl _)
    refine (Same_any A9 _ d9 2 [rx3, rx2] [rx3, rx2] _ (KT_18.out.below h2 (Nat.le_refl _)) ((esAt_two w1 rx3 rx2).below hz (Nat.le_refl _)) (by decide) (by decide)).mono ?_
    rintro e w' ⟨rfl, hb⟩
    exact ⟨by simp, eb_of h2 hb (Nat.le_refl _)⟩)
  have JA1 : Hid (∀ (n : Int) w1, Below wz.heap.size wz w1 → Calls Try.prog 34 #[.int .i64 n] w1 fun e w' => e = .returned (.agg #[.int .i64 n]) ∧ Below wz.heap.size wz w') := Lib.hid (fun n w1 h => (at_any n w1).mono fun e w' ⟨he, hb⟩ => ⟨he, eb_of h hb (Nat.le_refl _)⟩)
  clear hc ha0 d0 d1 d2 d3 e0 e1 e2 e3 JS JN JP JT hb
  have HF := Lib.hid (Below.refl wz.heap.size wz)
  have HBZ := HB18
  try dsimp only [List.append]
  go_region_held3 (fun w' => Below wz.heap.size wz w' ∧ w'.cell? ⟨bA, 0, none⟩ = some (.int .i64 2) ∧ w'.cell? ⟨bC, 0, none⟩ = some (.int .i64 2) ∧ w'.cell? ⟨bE, 0, none⟩ = some (.int .i64 0) ∧ w'.cell? ⟨bF, 0, none⟩ = some (.int .i64 1) ∧ w'.cell? ⟨bB, 0, none⟩ = some (.string ⟨#[99]⟩) ∧ w'.cell? ⟨bB, 1, none⟩ = some (.string ⟨#[]⟩) ∧ w'.cell? ⟨bB, 2, none⟩ = some (.bool true) ∧ w'.cell? ⟨bB, 3, none⟩ = some (.int .i64 2) ∧ w'.cell? ⟨bl, ol + 4, none⟩ = some (.string ⟨#[99]⟩) ∧ w'.cell? ⟨bl, ol + 5, none⟩ = some (.string ⟨#[]⟩) ∧ w'.cell? ⟨bl, ol + 6, none⟩ = some (.bool true) ∧ w'.cell? ⟨bl, ol + 7, none⟩ = some (.int .i64 2) ∧ w'.cell? ⟨bl, ol + 8, none⟩ = some (.string ⟨#[101]⟩) ∧ w'.cell? ⟨bl, ol + 9, none⟩ = some (.string ⟨#[50]⟩) ∧ w'.cell? ⟨bl, ol + 10, none⟩ = some (.bool false) ∧ w'.cell? ⟨bl, ol + 11, none⟩ = some (.int .i64 3))
    (first
      | (exact HK.out _ (by assumption))
      | (exact HK.out _ HF.out)
      | (exact HK.out _ (eb_of (by assumption) (below_drewN' 1) (Nat.le_refl _)))
      | (exact HK.out _ (eb_of (by assumption) (alloc_below _ _) (Nat.le_refl _)))
      | (exact HK.out _ (eb_of (And.left (by assumption)) (alloc_below _ _) (Nat.le_refl _))))
    (first
      | (go_at_call 34; refine (JA1.out _ _ (by first | assumption | exact HF.out | exact eb_of (by assumption) (below_drewN' 1) (Nat.le_refl _) | exact And.left (by assumption))).mono ?_; rintro e w122 ⟨rfl, hs122⟩)
      | (go_at_call 29; refine (JS1.out _ _ (by first | assumption | exact HF.out | exact eb_of (by assumption) (below_drewN' 1) (Nat.le_refl _) | exact And.left (by assumption)) (by first | exact Below.refl _ _ | exact below_drewN' 1)).mono ?_; rintro e w123 ⟨rfl, hs123⟩))
  all_goals
    go_wp2_with fail
    go_ret
    exact ⟨rfl, eb_of HBZ.out (by first | assumption | exact And.left (by assumption)) (by first | exact Nat.le_refl _ | exact HBZ.out.size)⟩
end Go.Proofs.Yticdechdgpfdfaa.KK
