/-
  Walk: Take of the program.
-/
import Derived.Test.YticdechdgpfdfaaTf
namespace Go.Proofs.Yticdechdgpfdfaa.KK
open Go.ChangeShapes Go.WideShapes Go.ChangeAt Go.RowKit Go.Proofs Go.Sort
attribute [local go_sem] Oper.semAt_some

/-- the place after j steps -/
def plcW (k : Nat) (back : Bool) (j : Nat) : Nat := if back = true then k - j else k + j
/-- how many are taken -/
def tknW (n k : Nat) (c : Int) : Nat := min c.natAbs (ahN n k (decide (c < 0)))
def takE (id : Int) (xs : List El.En) (k : Int) (c : Int) : List El.En × Int × Int :=
  if curE id xs k ≠ 0 then ([], 0, curE id xs k) else if c < -5000 ∨ 5000 < c then ([], 0, 7)
  else (((ahL xs k.toNat (decide (c < 0))).take c.natAbs).map (·.1), ((plcW k.toNat (decide (c < 0)) (tknW xs.length k.toNat c) : Nat) : Int), 0)
theorem takE_no {id : Int} {xs : List El.En} {k c : Int} (h : curE id xs k ≠ 0) : takE id xs k c = ([], 0, curE id xs k) := if_pos h
theorem takE_out {id : Int} {xs : List El.En} {k c : Int} (h : curE id xs k = 0) (g : c < -5000 ∨ 5000 < c) : takE id xs k c = ([], 0, 7) := by
  unfold takE; rw [if_neg (by rw [h]; simp), if_pos g]
theorem takE_ok {id : Int} {xs : List El.En} {k : Nat} {c : Int} (h : curE id xs k = 0) (g : ¬ (c < -5000 ∨ 5000 < c)) : takE id xs k c = (((ahL xs k (decide (c < 0))).take c.natAbs).map (·.1), ((plcW k (decide (c < 0)) (tknW xs.length k c) : Nat) : Int), 0) := by
  unfold takE; rw [if_neg (by rw [h]; simp), if_neg g, show ((k : Int)).toNat = k by omega]
theorem plc_next {xs : List El.En} {k : Nat} {back : Bool} {j : Nat} (h : j < ahN xs.length k back) : (ahX xs k back j).2 = plcW k back (j + 1) := by
  unfold ahX plcW ahN at *; cases back <;> simp at * <;> omega
theorem plc_zero (k : Nat) (back : Bool) : plcW k back 0 = k := by unfold plcW; cases back <;> simp
def TakOut (id : Int) (xs : List El.En) (k c : Int) (w : World) (e : Ending) (w' : World) : Prop :=
  ∃ A d, e = .returned (.tuple #[.slice A (takE id xs k c).1.length d, .agg #[.int .i64 (takE id xs k c).2.1], .int .i64 (takE id xs k c).2.2]) ∧ EsAt w' A (takE id xs k c).1 ∧ (takE id xs k c).1.length ≤ d ∧ (A = none → d = 0) ∧ Below w.heap.size w w'
/-- boxes: a run, a cursor, a cursor for the answer -/
theorem boxTk (id : Int) (B : Option Addr) (n d : Nat) (k : Int) (w : World) : ∃ w1, ((w.alloc (.cells #[.int .i64 id, .slice B n d] 24)).alloc (.cells #[.int .i64 k] 26)).alloc (.cells #[.int .i64 0] 26) = w1 ∧
    Row2 w1 w.heap.size 24 (.int .i64 id) (.slice B n d) ∧ Boxed w1 (w.heap.size + 1) 26 (.int .i64 k) ∧ Boxed w1 (w.heap.size + 2) 26 (.int .i64 0) ∧ w1.heap.size = w.heap.size + 3 ∧ Below w.heap.size w w1 := by
  obtain ⟨wa, ea, r0, r1, hs, hb⟩ := boxUC id B n d k w
  rw [ea]
  have c := Boxed.new wa 26 (.int .i64 0)
  have hc := alloc_below wa (.cells #[.int .i64 0] 26)
  exact ⟨_, rfl, r0.below hc (Nat.le_refl _), box_below r1 hc (Nat.le_refl _), by rw [show w.heap.size + 2 = wa.heap.size by omega]; exact c, by simp; omega, eb_of hb hc (by omega)⟩
set_option maxRecDepth 100000 in
set_option maxHeartbeats 2000000 in
theorem take_bad (id : Int) (B : Option Addr) (d : Nat) (xs : List El.En) (k c : Int) (w : World) (hf : EsAt w B xs) (hn : xs.length ≤ 4294967295) (hs : Sized xs) (h1 : curE id xs k ≠ 0) :
    Calls Try.prog 27 #[.agg #[.int .i64 id, .slice B xs.length d], .agg #[.int .i64 k], .int .i64 c] w (TakOut id xs k c w) := by
  obtain ⟨w1, hw1, r0, b0, b2, hsz, hb⟩ := boxTk id B xs.length d k w
  have J := Lib.hid (fun w2 (h : Below w.heap.size w w2) => pCur_any id B d xs k w2 (hf.below h (Nat.le_refl _)) hn hs)
  have HL := Lib.hid (takE_no (c := c) h1)
  obtain ⟨n1, n2⟩ := ne_b h1
  clear h1
  have HB := Lib.hid hb
  have HK2 := Lib.hid b2
  have x0 := r0.c0
  have x1 := r0.c1
  have x2 := b0.cell
  unfold TakOut
  clear hf hs r0 b0 b2 hb hsz
  generalize takE id xs k c = res at *
  generalize curE id xs k = r2 at *
  generalize xs.length = n at *
  go_enter Try.func27, Try.ntmps27
  go_wp2_with fail
  refine (J.out _ HB.out).mono ?_
  rintro e w2 ⟨rfl, hb⟩
  have b2 := box_below HK2.out hb (Nat.le_refl _)
  have HZ := Lib.hid (b2.set (.int .i64 0))
  have HB2 := Lib.hid ((eb_of HB.out hb (by first | exact Nat.le_refl _ | exact HB.out.size)).setCell (p := ⟨w.heap.size + 2, 0, none⟩) (by simp) (.int .i64 0))
  have y0 := b2.cell
  have y1 := b2.frozen
  clear hb x0 x1 x2 b2
  go_wp2_with fail
  have c0 := HZ.out.cell
  refine bodyPost_ret (v := .tuple #[.slice none 0 0, .agg #[.int .i64 0], .int .i64 r2]) (by simp [results, Try.f27, go_sem, c0]) rfl ?_
  exact ⟨none, 0, by rw [HL.out]; rfl, by rw [HL.out]; exact .inl rfl, by rw [HL.out]; exact Nat.le_refl _, fun _ => rfl, HB2.out⟩
set_option maxRecDepth 100000 in
set_option maxHeartbeats 2000000 in
theorem take_lo (id : Int) (B : Option Addr) (d : Nat) (xs : List El.En) (k c : Int) (w : World) (hf : EsAt w B xs) (hn : xs.length ≤ 4294967295) (hs : Sized xs) (h1 : curE id xs k = 0) (h2 : c < -5000) :
    Calls Try.prog 27 #[.agg #[.int .i64 id, .slice B xs.length d], .agg #[.int .i64 k], .int .i64 c] w (TakOut id xs k c w) := by
  obtain ⟨w1, hw1, r0, b0, b2, hsz, hb⟩ := boxTk id B xs.length d k w
  have J := Lib.hid (fun w2 (h : Below w.heap.size w w2) => pCur_any id B d xs k w2 (hf.below h (Nat.le_refl _)) hn hs)
  have HL := Lib.hid (takE_out h1 (.inl h2))
  rw [h1] at J
  clear h1
  have HB := Lib.hid hb
  have HK2 := Lib.hid b2
  have x0 := r0.c0
  have x1 := r0.c1
  have x2 := b0.cell
  unfold TakOut
  clear hf hs r0 b0 b2 hb hsz
  generalize takE id xs k c = res at *
  generalize curE id xs k = r2 at *
  generalize xs.length = n at *
  go_enter Try.func27, Try.ntmps27
  go_wp2_with fail
  refine (J.out _ HB.out).mono ?_
  rintro e w2 ⟨rfl, hb⟩
  have b2 := box_below HK2.out hb (Nat.le_refl _)
  have HZ := Lib.hid (b2.set (.int .i64 0))
  have HB2 := Lib.hid ((eb_of HB.out hb (by first | exact Nat.le_refl _ | exact HB.out.size)).setCell (p := ⟨w.heap.size + 2, 0, none⟩) (by simp) (.int .i64 0))
  have y0 := b2.cell
  have y1 := b2.frozen
  clear hb x0 x1 x2 b2
  go_wp2_with fail
  have c0 := HZ.out.cell
  refine bodyPost_ret (v := .tuple #[.slice none 0 0, .agg #[.int .i64 0], .int .i64 7]) (by simp [results, Try.f27, go_sem, c0]) rfl ?_
  exact ⟨none, 0, by rw [HL.out]; rfl, by rw [HL.out]; exact .inl rfl, by rw [HL.out]; exact Nat.le_refl _, fun _ => rfl, HB2.out⟩
set_option maxRecDepth 100000 in
set_option maxHeartbeats 2000000 in
theorem take_hi (id : Int) (B : Option Addr) (d : Nat) (xs : List El.En) (k c : Int) (w : World) (hf : EsAt w B xs) (hn : xs.length ≤ 4294967295) (hs : Sized xs) (h1 : curE id xs k = 0) (h2 : ¬ c < -5000) (h3 : 5000 < c) :
    Calls Try.prog 27 #[.agg #[.int .i64 id, .slice B xs.length d], .agg #[.int .i64 k], .int .i64 c] w (TakOut id xs k c w) := by
  obtain ⟨w1, hw1, r0, b0, b2, hsz, hb⟩ := boxTk id B xs.length d k w
  have J := Lib.hid (fun w2 (h : Below w.heap.size w w2) => pCur_any id B d xs k w2 (hf.below h (Nat.le_refl _)) hn hs)
  have HL := Lib.hid (takE_out h1 (.inr h3))
  rw [h1] at J
  have h2' : -5000 ≤ c := by omega
  clear h1
  have HB := Lib.hid hb
  have HK2 := Lib.hid b2
  have x0 := r0.c0
  have x1 := r0.c1
  have x2 := b0.cell
  unfold TakOut
  clear hf hs r0 b0 b2 hb hsz
  generalize takE id xs k c = res at *
  generalize curE id xs k = r2 at *
  generalize xs.length = n at *
  go_enter Try.func27, Try.ntmps27
  go_wp2_with fail
  refine (J.out _ HB.out).mono ?_
  rintro e w2 ⟨rfl, hb⟩
  have b2 := box_below HK2.out hb (Nat.le_refl _)
  have HZ := Lib.hid (b2.set (.int .i64 0))
  have HB2 := Lib.hid ((eb_of HB.out hb (by first | exact Nat.le_refl _ | exact HB.out.size)).setCell (p := ⟨w.heap.size + 2, 0, none⟩) (by simp) (.int .i64 0))
  have y0 := b2.cell
  have y1 := b2.frozen
  clear hb x0 x1 x2 b2
  go_wp2_with fail
  have c0 := HZ.out.cell
  refine bodyPost_ret (v := .tuple #[.slice none 0 0, .agg #[.int .i64 0], .int .i64 7]) (by simp [results, Try.f27, go_sem, c0]) rfl ?_
  exact ⟨none, 0, by rw [HL.out]; rfl, by rw [HL.out]; exact .inl rfl, by rw [HL.out]; exact Nat.le_refl _, fun _ => rfl, HB2.out⟩
end Go.Proofs.Yticdechdgpfdfaa.KK
