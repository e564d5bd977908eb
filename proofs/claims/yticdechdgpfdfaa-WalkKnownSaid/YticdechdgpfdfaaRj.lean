/-
  Runs: Part on both sides.
-/
import Derived.Test.YticdechdgpfdfaaRd
namespace Go.Proofs.Yticdechdgpfdfaa.KK
open Go.ChangeShapes Go.WideShapes Go.ChangeAt Go.RowKit Go.Proofs

/-- boxes: a run, a range -/
theorem boxUR (id : Int) (B : Option Addr) (n d : Nat) (lo hi : ByteArray) (b : Bool) (w : World) : Hid (∀ w', Below ((w.alloc (.cells #[.int .i64 id, .slice B n d] 24)).alloc (.cells #[.string lo, .string hi, .bool b] 39)).heap.size ((w.alloc (.cells #[.int .i64 id, .slice B n d] 24)).alloc (.cells #[.string lo, .string hi, .bool b] 39)) w' →
    w'.cell? ⟨w.heap.size, 0, none⟩ = some (.int .i64 id) ∧ w'.cell? ⟨w.heap.size, 1, none⟩ = some (.slice B n d) ∧ w'.cell? ⟨w.heap.size + 1, 0, none⟩ = some (.string lo) ∧ w'.cell? ⟨w.heap.size + 1, 1, none⟩ = some (.string hi) ∧ w'.cell? ⟨w.heap.size + 1, 2, none⟩ = some (.bool b) ∧ w.heap.size + 1 < w'.heap.size ∧ Below w.heap.size w w') := Lib.hid fun w' h => by
  obtain ⟨y0, y1, y2, y3, y4⟩ := (boxR lo hi b (w.alloc (.cells #[.int .i64 id, .slice B n d] 24)) (w.heap.size + 1) (by simp)).out _ h
  obtain ⟨x0, x1, x2, x3⟩ := (boxU id B n d w).out _ y4
  exact ⟨x0, x1, y0, y1, y2, y3, x3⟩
/-- an index lies in a block -/
theorem ixcell {w w' : World} {B : Option Addr} {n d : Nat} {s : Int} {A : Option Addr} {m c : Nat} (h : Below (w.alloc (.cells #[.slice B n d, .int .i64 s, .slice A m c] 75)).heap.size (w.alloc (.cells #[.slice B n d, .int .i64 s, .slice A m c] 75)) w') :
    w'.cell? ⟨w.heap.size, 0, none⟩ = some (.slice B n d) ∧ w'.cell? ⟨w.heap.size, 1, none⟩ = some (.int .i64 s) ∧ w'.cell? ⟨w.heap.size, 2, none⟩ = some (.slice A m c) ∧ w.heap.size < w'.heap.size := by
  have r := row3 ((h.block w.heap.size (by simp)).trans (heap_alloc_new w _))
  exact ⟨r.1, r.2.1, r.2.2.1, by have := h.size; simp at this; omega⟩
set_option maxRecDepth 100000 in
set_option maxHeartbeats 4000000 in
theorem pPart8_any (id : Int) (B : Option Addr) (d : Nat) (xs : List El.En) (lo hi : ByteArray) (b : Bool) (w : World) (hf : EsAt w B xs) (hn : xs.length ≤ 4294967295) (hs : Sized xs) (hcap : xs.length ≤ d) (hnil : B = none → d = 0) (hlo : lo.size ≤ 9223372036854775807) (hhi : hi.size ≤ 9223372036854775807) :
    Calls Try.prog 40 #[.agg #[.int .i64 id, .slice B xs.length d], .agg #[.string lo, .string hi, .bool b]] w fun e w' => e = .returned (.tuple #[.int .i64 (partR id xs lo hi b).1, .int .i64 (partR id xs lo hi b).2.1, .int .i64 (partR id xs lo hi b).2.2]) ∧ Below w.heap.size w w' := by
  have HX := boxUR id B xs.length d lo hi b w
  obtain ⟨x0, x1, x2, x3, x4, x5, x6⟩ := HX.out _ (Below.refl _ _)
  have HB := Lib.hid x6
  have J1 := Lib.hid (fun w1 (h : Below w.heap.size w w1) => pCheck8_any id B d xs w1 (hf.below h (Nat.le_refl _)) hn hs)
  have JR := Lib.hid (fun w => kCheckRange_any lo hi b w hlo hhi)
  clear x5 x6
  by_cases h1 : (runE id xs).2 = 0
  rotate_left
  · have HL := Lib.hid (partR_no (lo := lo) (hi := hi) (b := b) h1)
    obtain ⟨b1, b2⟩ := ne_b h1
    generalize (runE id xs).2 = r at *
    generalize (runE id xs).1 = r0 at *
    generalize partR id xs lo hi b = res at *
    clear h1 hf hs
    generalize xs.length = n at *
    go_enter Try.func40, Try.ntmps40
    go_wp2_with fail
    refine (J1.out _ HB.out).mono ?_
    rintro e w1 ⟨rfl, hb⟩
    obtain ⟨y0, y1, y2, y3, y4, y5, y6⟩ := HX.out _ hb
    have HB1 := Lib.hid y6
    have HC1 := Lib.hid hb
    clear hb x0 x1 x2 x3 x4 y6
    go_wp2_with fail
    go_ret3
    exact ⟨ret3 HL.out, HB1.out⟩
  rw [h1] at J1
  by_cases h2 : chkR lo hi b = 0
  rotate_left
  · have HL := Lib.hid (partR_form h1 h2)
    obtain ⟨b1, b2⟩ := ne_b h2
    generalize chkR lo hi b = r at *
    generalize (runE id xs).1 = r0 at *
    generalize partR id xs lo hi b = res at *
    clear h1 h2 hf hs
    generalize xs.length = n at *
    go_enter Try.func40, Try.ntmps40
    go_wp2_with fail
    refine (J1.out _ HB.out).mono ?_
    rintro e w1 ⟨rfl, hb⟩
    obtain ⟨y0, y1, y2, y3, y4, y5, y6⟩ := HX.out _ hb
    have HB1 := Lib.hid y6
    have HC1 := Lib.hid hb
    clear hb x0 x1 x2 x3 x4 y6
    go_wp2_with fail
    refine (JR.out _).mono ?_
    rintro e w2 ⟨rfl, hb⟩
    have HC2 := Lib.hid (eb_of HC1.out hb (Nat.le_refl _))
    clear hb y0 y1 y2 y3 y4 y5
    obtain ⟨y0, y1, y2, y3, y4, y5, y6⟩ := HX.out _ HC2.out
    have HB2 := Lib.hid y6
    clear y6
    go_wp2_with fail
    go_ret3
    exact ⟨ret3 HL.out, HB2.out⟩
  rw [h2] at JR
  have HL := Lib.hid (partR_ok h1 h2)
  obtain ⟨hsl, hsh⟩ := chkR_sizes h2
  have hl := run_list h1
  generalize partR id xs lo hi b = res at *
  generalize (runE id xs).1 = r0 at *
  have I := ix_ok (B := B) hcap hnil hl
  have JI : Hid (∀ w1, Below w.heap.size w w1 → Calls Try.prog 50 #[.agg #[.int .i64 id, .slice B xs.length d]] w1 fun e w' => ∃ A c, e = .returned (.agg #[.slice B xs.length d, .int .i64 16, .slice A (makeM 16 xs).length c]) ∧ SsAt w' A (makeM 16 xs) ∧ Below w1.heap.size w1 w') := Lib.hid (fun w1 (h : Below w.heap.size w w1) => indexOf_any id B d xs w1 (hf.below h (Nat.le_refl _)) hn hs hcap hl)
  have JB := Lib.hid (fun A c w1 (h : Below w.heap.size w w1) (hss : SsAt w1 A (makeM 16 xs)) => before_any B d xs A c (makeM 16 xs) lo false w1 (hf.below h (Nat.le_refl _)) hss I hsl)
  have JH := Lib.hid (fun A c w1 (h : Below w.heap.size w w1) (hss : SsAt w1 A (makeM 16 xs)) => before_any B d xs A c (makeM 16 xs) hi false w1 (hf.below h (Nat.le_refl _)) hss I hsh)
  have hle := inN_le xs lo
  have hlh := inN_le xs hi
  have HT : Hid (toN xs lo hi b = if b = true then max (inN xs lo) (inN xs hi) else xs.length) := Lib.hid rfl
  rw [← befN_less, ← befN_less] at HT
  rw [← befN_less] at HL hle hlh
  generalize toN xs lo hi b = tt at *
  generalize makeM 16 xs = ms at *
  have hn5 := I.len
  clear h1 h2 hs hcap hnil hl I hf
  generalize befN xs lo false = p at *
  cases b with
  | false =>
    rw [if_neg (by simp)] at HT
    generalize xs.length = n at *
    go_enter Try.func40, Try.ntmps40
    go_wp2_with fail
    refine (J1.out _ HB.out).mono ?_
    rintro e w1 ⟨rfl, hb⟩
    obtain ⟨y0, y1, y2, y3, y4, y5, y6⟩ := HX.out _ hb
    have HB1 := Lib.hid y6
    have HC1 := Lib.hid hb
    clear hb x0 x1 x2 x3 x4 y6
    go_wp2_with fail
    refine (JR.out _).mono ?_
    rintro e w2 ⟨rfl, hb⟩
    have HC2 := Lib.hid (eb_of HC1.out hb (Nat.le_refl _))
    clear hb y0 y1 y2 y3 y4 y5
    obtain ⟨y0, y1, y2, y3, y4, y5, y6⟩ := HX.out _ HC2.out
    have HB2 := Lib.hid y6
    clear y6
    go_wp2_with fail
    refine (JI.out _ HB2.out).mono ?_
    rintro e w3 ⟨A, c, rfl, hss, hb⟩
    have hbx := alloc_below w3 (.cells #[.slice B n d, .int .i64 16, .slice A ms.length c] 75)
    have HCx := Lib.hid (eb_of (eb_of HC2.out hb (Nat.le_refl _)) hbx (Nat.le_refl _))
    have HSx := Lib.hid (hss.below hbx (Nat.le_refl _))
    obtain ⟨i0, i1, i2, i3⟩ := ixcell (Below.refl (w3.alloc (.cells #[.slice B n d, .int .i64 16, .slice A ms.length c] 75)).heap.size _)
    clear hb hbx hss y0 y1 y2 y3 y4 y5
    obtain ⟨y0, y1, y2, y3, y4, y5, y6⟩ := HX.out _ HCx.out
    have HB3 := Lib.hid y6
    clear y6
    go_wp2_with fail
    have z0 := abv_c y1
    have z1 := abv_c y2
    have z2 := abv_c i0
    have z3 := abv_c i1
    have z4 := abv_c i2
    have J4 : Hid (∀ q : Abv (w3.alloc (.cells #[.slice B n d, .int .i64 16, .slice A ms.length c] 75)), Calls Try.prog 51 #[.agg #[.slice B n d, .int .i64 16, .slice A ms.length c], .string lo, .bool false] q.world fun e w' => e = .returned (.int .i64 (p : Int)) ∧ Below q.world.heap.size q.world w') := Lib.hid (fun q => JB.out A c _ (eb_of HB3.out q.h (Nat.le_refl _)) (HSx.out.below q.h (Nat.le_refl _)))
    refine wp_region_abv (by first | assumption | kernel_rfl) (by kernel_rfl) ?_
    repeat (first | go_big_quiet_step (exact callAbv (J4.out _)) | quiet_step (exact callAbv (J4.out _)))
    refine wpQuiet_nil ?_
    intro w5 hw5
    obtain ⟨q, rfl⟩ := hw5
    have HC6 := Lib.hid (eb_of HCx.out q.h (Nat.le_refl _))
    have i0' := (q.h.cell (p := ⟨w3.heap.size, 0, none⟩) i3).trans i0
    have i1' := (q.h.cell (p := ⟨w3.heap.size, 1, none⟩) i3).trans i1
    have i2' := (q.h.cell (p := ⟨w3.heap.size, 2, none⟩) i3).trans i2
    have HS6 := Lib.hid (HSx.out.below q.h (Nat.le_refl _))
    clear y0 y1 y2 y3 y4 y5 z0 z1 z2 z3 z4 i0 i1 i2
    obtain ⟨y0, y1, y2, y3, y4, y5, y6⟩ := HX.out _ HC6.out
    have HB6 := Lib.hid y6
    clear y6
    go_wp2_with fail
    go_ret3
    exact ⟨ret3 (by rw [HL.out, HT.out]), HB6.out⟩
  | true =>
    rw [if_pos rfl] at HT
    generalize befN xs hi false = p2 at *
    generalize xs.length = n at *
    by_cases hpp : p2 ≤ p
    · rw [show max p p2 = p by omega] at HT
      have hm : (p2 : Int) ≤ (p : Int) := by omega
      go_enter Try.func40, Try.ntmps40
      go_wp2_with fail
      refine (J1.out _ HB.out).mono ?_
      rintro e w1 ⟨rfl, hb⟩
      obtain ⟨y0, y1, y2, y3, y4, y5, y6⟩ := HX.out _ hb
      have HB1 := Lib.hid y6
      have HC1 := Lib.hid hb
      clear hb x0 x1 x2 x3 x4 y6
      go_wp2_with fail
      refine (JR.out _).mono ?_
      rintro e w2 ⟨rfl, hb⟩
      have HC2 := Lib.hid (eb_of HC1.out hb (Nat.le_refl _))
      clear hb y0 y1 y2 y3 y4 y5
      obtain ⟨y0, y1, y2, y3, y4, y5, y6⟩ := HX.out _ HC2.out
      have HB2 := Lib.hid y6
      clear y6
      go_wp2_with fail
      refine (JI.out _ HB2.out).mono ?_
      rintro e w3 ⟨A, c, rfl, hss, hb⟩
      have hbx := alloc_below w3 (.cells #[.slice B n d, .int .i64 16, .slice A ms.length c] 75)
      have HCx := Lib.hid (eb_of (eb_of HC2.out hb (Nat.le_refl _)) hbx (Nat.le_refl _))
      have HSx := Lib.hid (hss.below hbx (Nat.le_refl _))
      obtain ⟨i0, i1, i2, i3⟩ := ixcell (Below.refl (w3.alloc (.cells #[.slice B n d, .int .i64 16, .slice A ms.length c] 75)).heap.size _)
      clear hb hbx hss y0 y1 y2 y3 y4 y5
      obtain ⟨y0, y1, y2, y3, y4, y5, y6⟩ := HX.out _ HCx.out
      have HB3 := Lib.hid y6
      clear y6
      go_wp2_with fail
      have z0 := abv_c y1
      have z1 := abv_c y2
      have z2 := abv_c i0
      have z3 := abv_c i1
      have z4 := abv_c i2
      have J4 : Hid (∀ q : Abv (w3.alloc (.cells #[.slice B n d, .int .i64 16, .slice A ms.length c] 75)), Calls Try.prog 51 #[.agg #[.slice B n d, .int .i64 16, .slice A ms.length c], .string lo, .bool false] q.world fun e w' => e = .returned (.int .i64 (p : Int)) ∧ Below q.world.heap.size q.world w') := Lib.hid (fun q => JB.out A c _ (eb_of HB3.out q.h (Nat.le_refl _)) (HSx.out.below q.h (Nat.le_refl _)))
      refine wp_region_abv (by first | assumption | kernel_rfl) (by kernel_rfl) ?_
      repeat (first | go_big_quiet_step (exact callAbv (J4.out _)) | quiet_step (exact callAbv (J4.out _)))
      refine wpQuiet_nil ?_
      intro w5 hw5
      obtain ⟨q, rfl⟩ := hw5
      have HC6 := Lib.hid (eb_of HCx.out q.h (Nat.le_refl _))
      have i0' := (q.h.cell (p := ⟨w3.heap.size, 0, none⟩) i3).trans i0
      have i1' := (q.h.cell (p := ⟨w3.heap.size, 1, none⟩) i3).trans i1
      have i2' := (q.h.cell (p := ⟨w3.heap.size, 2, none⟩) i3).trans i2
      have HS6 := Lib.hid (HSx.out.below q.h (Nat.le_refl _))
      clear y0 y1 y2 y3 y4 y5 z0 z1 z2 z3 z4 i0 i1 i2
      obtain ⟨y0, y1, y2, y3, y4, y5, y6⟩ := HX.out _ HC6.out
      have HB6 := Lib.hid y6
      clear y6
      go_wp2_with fail
      refine (JH.out A c _ HB6.out HS6.out).mono ?_
      rintro e w7 ⟨rfl, hb⟩
      have HB7 := Lib.hid (eb_of HB6.out hb (Nat.le_refl _))
      clear hb
      go_wp2_with fail
      go_ret3
      exact ⟨ret3 (by rw [HL.out, HT.out]; try (simp only [Prod.mk.injEq, true_and, and_true]; omega)), HB7.out⟩
    · rw [show max p p2 = p2 by omega] at HT
      have hm : ¬ (p2 : Int) ≤ (p : Int) := by omega
      have hm' : (p : Int) ≤ (p2 : Int) := by omega
      have hm2 : (p : Int) < (p2 : Int) := by omega
      go_enter Try.func40, Try.ntmps40
      go_wp2_with fail
      refine (J1.out _ HB.out).mono ?_
      rintro e w1 ⟨rfl, hb⟩
      obtain ⟨y0, y1, y2, y3, y4, y5, y6⟩ := HX.out _ hb
      have HB1 := Lib.hid y6
      have HC1 := Lib.hid hb
      clear hb x0 x1 x2 x3 x4 y6
      go_wp2_with fail
      refine (JR.out _).mono ?_
      rintro e w2 ⟨rfl, hb⟩
      have HC2 := Lib.hid (eb_of HC1.out hb (Nat.le_refl _))
      clear hb y0 y1 y2 y3 y4 y5
      obtain ⟨y0, y1, y2, y3, y4, y5, y6⟩ := HX.out _ HC2.out
      have HB2 := Lib.hid y6
      clear y6
      go_wp2_with fail
      refine (JI.out _ HB2.out).mono ?_
      rintro e w3 ⟨A, c, rfl, hss, hb⟩
      have hbx := alloc_below w3 (.cells #[.slice B n d, .int .i64 16, .slice A ms.length c] 75)
      have HCx := Lib.hid (eb_of (eb_of HC2.out hb (Nat.le_refl _)) hbx (Nat.le_refl _))
      have HSx := Lib.hid (hss.below hbx (Nat.le_refl _))
      obtain ⟨i0, i1, i2, i3⟩ := ixcell (Below.refl (w3.alloc (.cells #[.slice B n d, .int .i64 16, .slice A ms.length c] 75)).heap.size _)
      clear hb hbx hss y0 y1 y2 y3 y4 y5
      obtain ⟨y0, y1, y2, y3, y4, y5, y6⟩ := HX.out _ HCx.out
      have HB3 := Lib.hid y6
      clear y6
      go_wp2_with fail
      have z0 := abv_c y1
      have z1 := abv_c y2
      have z2 := abv_c i0
      have z3 := abv_c i1
      have z4 := abv_c i2
      have J4 : Hid (∀ q : Abv (w3.alloc (.cells #[.slice B n d, .int .i64 16, .slice A ms.length c] 75)), Calls Try.prog 51 #[.agg #[.slice B n d, .int .i64 16, .slice A ms.length c], .string lo, .bool false] q.world fun e w' => e = .returned (.int .i64 (p : Int)) ∧ Below q.world.heap.size q.world w') := Lib.hid (fun q => JB.out A c _ (eb_of HB3.out q.h (Nat.le_refl _)) (HSx.out.below q.h (Nat.le_refl _)))
      refine wp_region_abv (by first | assumption | kernel_rfl) (by kernel_rfl) ?_
      repeat (first | go_big_quiet_step (exact callAbv (J4.out _)) | quiet_step (exact callAbv (J4.out _)))
      refine wpQuiet_nil ?_
      intro w5 hw5
      obtain ⟨q, rfl⟩ := hw5
      have HC6 := Lib.hid (eb_of HCx.out q.h (Nat.le_refl _))
      have i0' := (q.h.cell (p := ⟨w3.heap.size, 0, none⟩) i3).trans i0
      have i1' := (q.h.cell (p := ⟨w3.heap.size, 1, none⟩) i3).trans i1
      have i2' := (q.h.cell (p := ⟨w3.heap.size, 2, none⟩) i3).trans i2
      have HS6 := Lib.hid (HSx.out.below q.h (Nat.le_refl _))
      clear y0 y1 y2 y3 y4 y5 z0 z1 z2 z3 z4 i0 i1 i2
      obtain ⟨y0, y1, y2, y3, y4, y5, y6⟩ := HX.out _ HC6.out
      have HB6 := Lib.hid y6
      clear y6
      go_wp2_with fail
      refine (JH.out A c _ HB6.out HS6.out).mono ?_
      rintro e w7 ⟨rfl, hb⟩
      have HB7 := Lib.hid (eb_of HB6.out hb (Nat.le_refl _))
      clear hb
      go_wp2_with fail
      go_ret3
      exact ⟨ret3 (by rw [HL.out, HT.out]; try (simp only [Prod.mk.injEq, true_and, and_true]; omega)), HB7.out⟩
theorem inN_next {xs : List El.En} {k : Nat} (h : k < xs.length) (key : ByteArray) : inN (xs.take (k + 1)) key = inN (xs.take k) key + (if ltK xs[k].1 key = true then 1 else 0) := by
  unfold inN; rw [List.take_succ_eq_append_getElem h, List.countP_append]; congr 1; simp [List.countP_cons]
def toC (xs : List El.En) (hi : ByteArray) (b : Bool) (k : Nat) : Nat := if b = true then inN (xs.take k) hi else k
theorem toC_next {xs : List El.En} {k : Nat} (h : k < xs.length) (hi : ByteArray) : toC xs hi true (k + 1) = toC xs hi true k + (if ltK xs[k].1 hi = true then 1 else 0) := inN_next h hi
theorem inN_take_le (xs : List El.En) (key : ByteArray) (k : Nat) : inN (xs.take k) key ≤ k := Nat.le_trans (inN_le _ _) (by rw [List.length_take]; omega)
theorem toC_le (xs : List El.En) (hi : ByteArray) (b : Bool) (k : Nat) : toC xs hi b k ≤ k := by
  unfold toC; cases b
  · simp
  · simpa using inN_take_le xs hi k
set_option maxRecDepth 100000 in
set_option maxHeartbeats 4000000 in
theorem rPart8_any (id : Int) (B : Option Addr) (d : Nat) (xs : List El.En) (lo hi : ByteArray) (b : Bool) (w : World) (hf : EsAt w B xs) (hn : xs.length ≤ 4294967295) (hs : Sized xs) (hlo : lo.size ≤ 9223372036854775807) (hhi : hi.size ≤ 9223372036854775807) :
    Calls Try.prog 43 #[.agg #[.int .i64 id, .slice B xs.length d], .agg #[.string lo, .string hi, .bool b]] w fun e w' => e = .returned (.tuple #[.int .i64 (partR id xs lo hi b).1, .int .i64 (partR id xs lo hi b).2.1, .int .i64 (partR id xs lo hi b).2.2]) ∧ Below w.heap.size w w' := by
  have HX := boxUR id B xs.length d lo hi b w
  obtain ⟨x0, x1, x2, x3, x4, x5, x6⟩ := HX.out _ (Below.refl _ _)
  have HB := Lib.hid x6
  have J1 := Lib.hid (fun w1 (h : Below w.heap.size w w1) => rCheck8_any id B d xs w1 (hf.below h (Nat.le_refl _)) hn hs)
  have JR := Lib.hid (fun w => rCheckRange_any lo hi b w hlo hhi)
  clear x5 x6
  by_cases h1 : (runE id xs).2 = 0
  rotate_left
  · have HL := Lib.hid (partR_no (lo := lo) (hi := hi) (b := b) h1)
    obtain ⟨b1, b2⟩ := ne_b h1
    generalize (runE id xs).2 = r at *
    generalize (runE id xs).1 = r0 at *
    generalize partR id xs lo hi b = res at *
    clear h1 hf hs
    generalize xs.length = n at *
    go_enter Try.func43, Try.ntmps43
    go_wp2_with fail
    refine (J1.out _ HB.out).mono ?_
    rintro e w1 ⟨rfl, hb⟩
    obtain ⟨y0, y1, y2, y3, y4, y5, y6⟩ := HX.out _ hb
    have HB1 := Lib.hid y6
    have HC1 := Lib.hid hb
    clear hb x0 x1 x2 x3 x4 y6
    go_wp2_with fail
    go_ret3
    exact ⟨ret3 HL.out, HB1.out⟩
  rw [h1] at J1
  by_cases h2 : chkR lo hi b = 0
  rotate_left
  · have HL := Lib.hid (partR_form h1 h2)
    obtain ⟨b1, b2⟩ := ne_b h2
    generalize chkR lo hi b = r at *
    generalize (runE id xs).1 = r0 at *
    generalize partR id xs lo hi b = res at *
    clear h1 h2 hf hs
    generalize xs.length = n at *
    go_enter Try.func43, Try.ntmps43
    go_wp2_with fail
    refine (J1.out _ HB.out).mono ?_
    rintro e w1 ⟨rfl, hb⟩
    obtain ⟨y0, y1, y2, y3, y4, y5, y6⟩ := HX.out _ hb
    have HB1 := Lib.hid y6
    have HC1 := Lib.hid hb
    clear hb x0 x1 x2 x3 x4 y6
    go_wp2_with fail
    refine (JR.out _).mono ?_
    rintro e w2 ⟨rfl, hb⟩
    have HC2 := Lib.hid (eb_of HC1.out hb (Nat.le_refl _))
    clear hb y0 y1 y2 y3 y4 y5
    obtain ⟨y0, y1, y2, y3, y4, y5, y6⟩ := HX.out _ HC2.out
    have HB2 := Lib.hid y6
    clear y6
    go_wp2_with fail
    go_ret3
    exact ⟨ret3 HL.out, HB2.out⟩
  rw [h2] at JR
  have HL := Lib.hid (partR_ok h1 h2)
  obtain ⟨hsl, hsh⟩ := chkR_sizes h2
  have hl := run_list h1
  generalize partR id xs lo hi b = res at *
  generalize (runE id xs).1 = r0 at *
  have hn5 := (list_ok hl).1
  have HK := Lib.hid (fun x (hx : x ∈ xs) => (El.chk_of ((list_ok hl).2.1 x hx)).1)
  have HF := Lib.hid hf
  have HT : Hid (toN xs lo hi b = max (toC xs hi b xs.length) (inN xs lo)) := Lib.hid (by
    unfold toN toC; cases b
    · have := inN_le xs lo; simp; omega
    · rw [List.take_length]; simp; omega)
  rw [HT.out] at HL
  have HLN := Lib.hid (show (inN xs lo, toC xs hi b xs.length) = (inN (xs.take xs.length) lo, toC xs hi b xs.length) by rw [List.take_length])
  clear h1 h2 hs hl hf HT
  go_enter Try.func43, Try.ntmps43
  go_wp2_with fail
  refine (J1.out _ HB.out).mono ?_
  rintro e w1 ⟨rfl, hb⟩
  obtain ⟨y0, y1, y2, y3, y4, y5, y6⟩ := HX.out _ hb
  have HB1 := Lib.hid y6
  have HC1 := Lib.hid hb
  clear hb x0 x1 x2 x3 x4 y6
  go_wp2_with fail
  refine (JR.out _).mono ?_
  rintro e w2 ⟨rfl, hb⟩
  have HC2 := Lib.hid (eb_of HC1.out hb (Nat.le_refl _))
  clear hb y0 y1 y2 y3 y4 y5
  obtain ⟨y0, y1, y2, y3, y4, y5, y6⟩ := HX.out _ HC2.out
  have HB2 := Lib.hid y6
  clear y6
  go_wp2_with fail
  clear y0 y1 y2 y3 y4 y5
  go_loopw [9, 10, 11] (fun u v i wr => ∃ k : Nat, k ≤ xs.length ∧ u = .int .i64 (inN (xs.take k) lo) ∧ v = .int .i64 (toC xs hi b k) ∧ i = .int .i64 k ∧ Below ((w.alloc (.cells #[.int .i64 id, .slice B xs.length d] 24)).alloc (.cells #[.string lo, .string hi, .bool b] 39)).heap.size ((w.alloc (.cells #[.int .i64 id, .slice B xs.length d] 24)).alloc (.cells #[.string lo, .string hi, .bool b] 39)) wr) (fun _ _ i _ => xs.length - (intOf i).toNat)
  case atStart => exact ⟨0, Nat.zero_le _, by simp [inN], by (unfold toC; cases b <;> simp [inN]), rfl, HC2.out⟩
  case round =>
    obtain ⟨k, hk, rfl, rfl, rfl, hb⟩ := hrel
    obtain ⟨y0, y1, y2, y3, y4, y5, y6⟩ := HX.out _ hb
    have HB3 := Lib.hid y6
    have HC3 := Lib.hid hb
    have hf' := HF.out.below y6 (Nat.le_refl _)
    clear hb y6
    have hf1 := inN_take_le xs lo k
    have ht1 := toC_le xs hi b k
    by_cases hlt : k < xs.length
    rotate_left
    · obtain rfl : k = xs.length := by omega
      rw [List.take_length] at hf1 ⊢
      generalize inN xs lo = p at *
      generalize toC xs hi b xs.length = p2 at *
      clear hf' HF HK HLN
      generalize xs.length = n at *
      by_cases hpp : p ≤ p2
      · have hm : (p : Int) ≤ (p2 : Int) := by omega
        go_wp2_with fail
        go_ret3
        exact ⟨ret3 (by rw [HL.out]; simp only [Prod.mk.injEq, true_and, and_true]; omega), HB3.out⟩
      · have hm : ¬ (p : Int) ≤ (p2 : Int) := by omega
        have hm2 : (p2 : Int) ≤ (p : Int) := by omega
        go_wp2_with fail
        go_ret3
        exact ⟨ret3 (by rw [HL.out]; simp only [Prod.mk.injEq, true_and, and_true]; omega), HB3.out⟩
    rcases hf' with h0 | ⟨bb, off, rfl, hbl, hc⟩
    · subst h0; simp at hlt
    obtain ⟨g0, _, _, _⟩ := hc k hlt
    have JO1 := Lib.hid (fun w => Order_any xs[k].1 lo w (by have := HK.out _ (List.getElem_mem hlt); omega) hlo)
    have JO2 := Lib.hid (fun w => Order_any xs[k].1 hi w (by have := HK.out _ (List.getElem_mem hlt); omega) hhi)
    have N1 := inN_next hlt lo
    have N2 := toC_next hlt hi
    have s1 := Kl.ord_neg (a := Kl.L xs[k].1) (b := Kl.L lo)
    have s2 := Kl.ord_neg (a := Kl.L xs[k].1) (b := Kl.L hi)
    have hk0 : (0 : Int) ≤ (k : Int) := by omega
    have hk1 : (k : Int) < (xs.length : Int) := by omega
    have M1 : Hid (inN (xs.take (k + 1)) lo = inN (xs.take k) lo + (if ltK xs[k].1 lo = true then 1 else 0)) := Lib.hid N1
    clear hc N1
    generalize hxk : xs[k].1 = xk at *
    clear hxk
    cases q1 : ltK xk lo with
    | false =>
      rw [q1] at M1
      have N1 : Hid (inN (xs.take (k + 1)) lo = inN (xs.take k) lo + 0) := Lib.hid (M1.out.trans (by simp))
      have o1 : ¬ Kl.ord (Kl.L xk) (Kl.L lo) < 0 := (fun h => by have e : ltK xk lo = true := s1.1 h; rw [q1] at e; cases e)
      clear M1 q1 s1
      generalize Kl.ord (Kl.L xk) (Kl.L lo) = z1 at *
      generalize inN (xs.take k) lo = f at *
      cases b with
      | false =>
        have N2 : Hid (toC xs hi false (k + 1) = k + 1) := Lib.hid rfl
        rw [show toC xs hi false k = k from rfl] at ht1 ⊢
        clear s2 JO2
        go_wp2_with fail
        refine (JO1.out _).mono ?_
        rintro e w3 ⟨rfl, hb⟩
        have HC4 := Lib.hid (eb_of HC3.out hb (Nat.le_refl _))
        clear hb y0 y1 y2 y3 y4 y5
        obtain ⟨y0, y1, y2, y3, y4, y5, y6⟩ := HX.out _ HC4.out
        clear y6
        go_wp2_with fail
        go_roundw
        case rel => exact ⟨k + 1, by omega, by rw [N1.out]; go_num, by rw [N2.out]; go_num, by go_num, HC4.out⟩
        case measure => simp [intOf]; try omega
      | true =>
        have M2 : Hid (toC xs hi true (k + 1) = toC xs hi true k + (if ltK xk hi = true then 1 else 0)) := Lib.hid N2
        clear N2
        generalize toC xs hi true k = t at *
        cases q2 : ltK xk hi with
        | false =>
          rw [q2] at M2
          have N2 : Hid (toC xs hi true (k + 1) = t + 0) := Lib.hid (M2.out.trans (by simp))
          clear M2
          have o2 : ¬ Kl.ord (Kl.L xk) (Kl.L hi) < 0 := (fun h => by have e : ltK xk hi = true := s2.1 h; rw [q2] at e; cases e)
          clear q2 s2
          generalize Kl.ord (Kl.L xk) (Kl.L hi) = z2 at *
          go_wp2_with fail
          refine (JO1.out _).mono ?_
          rintro e w3 ⟨rfl, hb⟩
          have HC4 := Lib.hid (eb_of HC3.out hb (Nat.le_refl _))
          clear hb y0 y1 y2 y3 y4 y5
          obtain ⟨y0, y1, y2, y3, y4, y5, y6⟩ := HX.out _ HC4.out
          clear y6
          go_wp2_with fail
          refine (JO2.out _).mono ?_
          rintro e w4 ⟨rfl, hb⟩
          have HC5 := Lib.hid (eb_of HC4.out hb (Nat.le_refl _))
          clear hb
          go_wp2_with fail
          go_roundw
          case rel => exact ⟨k + 1, by omega, by rw [N1.out]; go_num, by rw [N2.out]; go_num, by go_num, HC5.out⟩
          case measure => simp [intOf]; try omega
        | true =>
          rw [q2] at M2
          have N2 : Hid (toC xs hi true (k + 1) = t + 1) := Lib.hid (M2.out.trans (by simp))
          clear M2
          have o2 : Kl.ord (Kl.L xk) (Kl.L hi) < 0 := s2.2 q2
          clear q2 s2
          generalize Kl.ord (Kl.L xk) (Kl.L hi) = z2 at *
          go_wp2_with fail
          refine (JO1.out _).mono ?_
          rintro e w3 ⟨rfl, hb⟩
          have HC4 := Lib.hid (eb_of HC3.out hb (Nat.le_refl _))
          clear hb y0 y1 y2 y3 y4 y5
          obtain ⟨y0, y1, y2, y3, y4, y5, y6⟩ := HX.out _ HC4.out
          clear y6
          go_wp2_with fail
          refine (JO2.out _).mono ?_
          rintro e w4 ⟨rfl, hb⟩
          have HC5 := Lib.hid (eb_of HC4.out hb (Nat.le_refl _))
          clear hb
          go_wp2_with fail
          go_roundw
          case rel => exact ⟨k + 1, by omega, by rw [N1.out]; go_num, by rw [N2.out]; go_num, by go_num, HC5.out⟩
          case measure => simp [intOf]; try omega
    | true =>
      rw [q1] at M1
      have N1 : Hid (inN (xs.take (k + 1)) lo = inN (xs.take k) lo + 1) := Lib.hid (M1.out.trans (by simp))
      have o1 : Kl.ord (Kl.L xk) (Kl.L lo) < 0 := s1.2 q1
      clear M1 q1 s1
      generalize Kl.ord (Kl.L xk) (Kl.L lo) = z1 at *
      generalize inN (xs.take k) lo = f at *
      cases b with
      | false =>
        have N2 : Hid (toC xs hi false (k + 1) = k + 1) := Lib.hid rfl
        rw [show toC xs hi false k = k from rfl] at ht1 ⊢
        clear s2 JO2
        go_wp2_with fail
        refine (JO1.out _).mono ?_
        rintro e w3 ⟨rfl, hb⟩
        have HC4 := Lib.hid (eb_of HC3.out hb (Nat.le_refl _))
        clear hb y0 y1 y2 y3 y4 y5
        obtain ⟨y0, y1, y2, y3, y4, y5, y6⟩ := HX.out _ HC4.out
        clear y6
        go_wp2_with fail
        go_roundw
        case rel => exact ⟨k + 1, by omega, by rw [N1.out]; go_num, by rw [N2.out]; go_num, by go_num, HC4.out⟩
        case measure => simp [intOf]; try omega
      | true =>
        have M2 : Hid (toC xs hi true (k + 1) = toC xs hi true k + (if ltK xk hi = true then 1 else 0)) := Lib.hid N2
        clear N2
        generalize toC xs hi true k = t at *
        cases q2 : ltK xk hi with
        | false =>
          rw [q2] at M2
          have N2 : Hid (toC xs hi true (k + 1) = t + 0) := Lib.hid (M2.out.trans (by simp))
          clear M2
          have o2 : ¬ Kl.ord (Kl.L xk) (Kl.L hi) < 0 := (fun h => by have e : ltK xk hi = true := s2.1 h; rw [q2] at e; cases e)
          clear q2 s2
          generalize Kl.ord (Kl.L xk) (Kl.L hi) = z2 at *
          go_wp2_with fail
          refine (JO1.out _).mono ?_
          rintro e w3 ⟨rfl, hb⟩
          have HC4 := Lib.hid (eb_of HC3.out hb (Nat.le_refl _))
          clear hb y0 y1 y2 y3 y4 y5
          obtain ⟨y0, y1, y2, y3, y4, y5, y6⟩ := HX.out _ HC4.out
          clear y6
          go_wp2_with fail
          refine (JO2.out _).mono ?_
          rintro e w4 ⟨rfl, hb⟩
          have HC5 := Lib.hid (eb_of HC4.out hb (Nat.le_refl _))
          clear hb
          go_wp2_with fail
          go_roundw
          case rel => exact ⟨k + 1, by omega, by rw [N1.out]; go_num, by rw [N2.out]; go_num, by go_num, HC5.out⟩
          case measure => simp [intOf]; try omega
        | true =>
          rw [q2] at M2
          have N2 : Hid (toC xs hi true (k + 1) = t + 1) := Lib.hid (M2.out.trans (by simp))
          clear M2
          have o2 : Kl.ord (Kl.L xk) (Kl.L hi) < 0 := s2.2 q2
          clear q2 s2
          generalize Kl.ord (Kl.L xk) (Kl.L hi) = z2 at *
          go_wp2_with fail
          refine (JO1.out _).mono ?_
          rintro e w3 ⟨rfl, hb⟩
          have HC4 := Lib.hid (eb_of HC3.out hb (Nat.le_refl _))
          clear hb y0 y1 y2 y3 y4 y5
          obtain ⟨y0, y1, y2, y3, y4, y5, y6⟩ := HX.out _ HC4.out
          clear y6
          go_wp2_with fail
          refine (JO2.out _).mono ?_
          rintro e w4 ⟨rfl, hb⟩
          have HC5 := Lib.hid (eb_of HC4.out hb (Nat.le_refl _))
          clear hb
          go_wp2_with fail
          go_roundw
          case rel => exact ⟨k + 1, by omega, by rw [N1.out]; go_num, by rw [N2.out]; go_num, by go_num, HC5.out⟩
          case measure => simp [intOf]; try omega
end Go.Proofs.Yticdechdgpfdfaa.KK
