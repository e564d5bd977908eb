/-
  Walk: what is ahead of a cursor (plain), and the directions.
-/
import Derived.Test.YticdechdgpfdfaaRl
import Derived.Laws.EntriesVeiled
namespace Go.Proofs.Yticdechdgpfdfaa.KK
open Go.ChangeShapes Go.WideShapes Go.ChangeAt Go.RowKit Go.Proofs

/-- the error of a cursor -/
def curE (id : Int) (xs : List El.En) (k : Int) : Int := if (runE id xs).2 ≠ 0 then (runE id xs).2 else if k < 0 ∨ (xs.length : Int) < k then 7 else 0
theorem curE_no {id : Int} {xs : List El.En} {k : Int} (h : (runE id xs).2 ≠ 0) : curE id xs k = (runE id xs).2 := if_pos h
theorem curE_out {id : Int} {xs : List El.En} {k : Int} (h : (runE id xs).2 = 0) (g : k < 0 ∨ (xs.length : Int) < k) : curE id xs k = 7 := by
  unfold curE; rw [if_neg (by rw [h]; simp), if_pos g]
theorem curE_in {id : Int} {xs : List El.En} {k : Int} (h : (runE id xs).2 = 0) (g : ¬ (k < 0 ∨ (xs.length : Int) < k)) : curE id xs k = 0 := by
  unfold curE; rw [if_neg (by rw [h]; simp), if_neg g]
theorem curE_zero {id : Int} {xs : List El.En} {k : Int} (h : curE id xs k = 0) : (runE id xs).2 = 0 ∧ ∃ m : Nat, k = m ∧ m ≤ xs.length := by
  by_cases a : (runE id xs).2 = 0
  · by_cases g : k < 0 ∨ (xs.length : Int) < k
    · rw [curE_out a g] at h; cases h
    · exact ⟨a, k.toNat, by omega, by omega⟩
  · rw [curE_no a] at h; exact absurd h a
/-- how many entries are ahead -/
def ahN (n k : Nat) (back : Bool) : Nat := if back = true then k else n - k
/-- the j-th of them, and the place behind it -/
def ahX (xs : List El.En) (k : Nat) (back : Bool) (j : Nat) : El.En × Nat := if back = true then (entR xs (k - 1 - j), k - 1 - j) else (entR xs (k + j), k + j + 1)
def ahL (xs : List El.En) (k : Nat) (back : Bool) : List (El.En × Nat) := (List.range (ahN xs.length k back)).map (ahX xs k back)
theorem ahL_length (xs : List El.En) (k : Nat) (back : Bool) : (ahL xs k back).length = ahN xs.length k back := by simp [ahL]
theorem ahL_at (xs : List El.En) (k : Nat) (back : Bool) (j : Nat) (h : j < (ahL xs k back).length) : (ahL xs k back)[j] = ahX xs k back j := by simp [ahL]
theorem ahL_take (xs : List El.En) (k : Nat) (back : Bool) (j : Nat) (h : j < ahN xs.length k back) : (ahL xs k back).take (j + 1) = (ahL xs k back).take j ++ [ahX xs k back j] := by
  rw [List.take_succ_eq_append_getElem (by rw [ahL_length]; exact h), ahL_at]
theorem ahL_pre {xs : List El.En} {k : Nat} {back : Bool} {pre : List (El.En × Nat)} {x : El.En × Nat} (h : (pre ++ [x]) <+: ahL xs k back) :
    pre.length < ahN xs.length k back ∧ pre = (ahL xs k back).take pre.length ∧ x = ahX xs k back pre.length := by
  obtain ⟨t, ht⟩ := h
  have hl : pre.length < ahN xs.length k back := by rw [← ahL_length, ← ht]; simp
  refine ⟨hl, by rw [← ht]; simp, ?_⟩
  rw [← ahL_at xs k back pre.length (by rw [ahL_length]; exact hl)]
  have : (ahL xs k back)[pre.length]? = some x := by rw [← ht]; simp
  rw [List.getElem?_eq_getElem (by rw [ahL_length]; exact hl)] at this
  exact (Option.some.inj this).symm
def encW (x : El.En × Nat) : Array Value := #[.agg #[.string x.1.1, .string x.1.2.1, .bool x.1.2.2.1, .int .i64 x.1.2.2.2], .agg #[.int .i64 (x.2 : Int)]]
/-- the two functions of a direction -/
def fLeft (back : Bool) : Value := .func (.func (if back = true then 66 else 64)) #[] #[]
def fPass (back : Bool) : Value := .func (.func (if back = true then 67 else 65)) #[] #[]
theorem left_f (k n : Nat) (w : World) (h : k ≤ n) (hn : n ≤ 5000) :
    Calls Try.prog 64 #[.int .i64 (k : Int), .int .i64 (n : Int)] w fun e w' => e = .returned (.int .i64 ((n - k : Nat) : Int)) ∧ Below w.heap.size w w' := by
  have hr : (n : Int) - (k : Int) = ((n - k : Nat) : Int) := by omega
  go_enter Try.func64, Try.ntmps64
  go_wp2
  go_ret
  exact ⟨rfl, Below.refl _ _⟩
theorem left_b (k n : Nat) (w : World) :
    Calls Try.prog 66 #[.int .i64 (k : Int), .int .i64 (n : Int)] w fun e w' => e = .returned (.int .i64 (k : Int)) ∧ Below w.heap.size w w' := by
  go_enter Try.func66, Try.ntmps66
  go_wp2
  go_ret
  exact ⟨rfl, Below.refl _ _⟩
theorem pass_f (k : Nat) (w : World) (hn : k ≤ 5000) :
    Calls Try.prog 65 #[.int .i64 (k : Int)] w fun e w' => e = .returned (.tuple #[.int .i64 (k : Int), .int .i64 ((k + 1 : Nat) : Int)]) ∧ Below w.heap.size w w' := by
  go_enter Try.func65, Try.ntmps65
  go_wp2
  go_ret2
  exact ⟨by first | rfl | (simp; done) | (push_cast; rfl), Below.refl _ _⟩
theorem pass_b (k : Nat) (w : World) (h : 0 < k) (hn : k ≤ 5000) :
    Calls Try.prog 67 #[.int .i64 (k : Int)] w fun e w' => e = .returned (.tuple #[.int .i64 ((k - 1 : Nat) : Int), .int .i64 ((k - 1 : Nat) : Int)]) ∧ Below w.heap.size w w' := by
  have hr : (k : Int) - 1 = ((k - 1 : Nat) : Int) := by omega
  go_enter Try.func67, Try.ntmps67
  go_wp2
  go_ret2
  exact ⟨by first | rfl | (rw [hr]) | (simp [hr]; done), Below.refl _ _⟩
set_option maxRecDepth 100000 in
set_option maxHeartbeats 1000000 in
theorem dirOf_any (back : Bool) (w : World) :
    Calls Try.prog 53 #[.bool back] w fun e w' => e = .returned (.agg #[fLeft back, fPass back]) ∧ Below w.heap.size w w' := by
  obtain ⟨w1, hw1⟩ : ∃ w1, (w.alloc (.cells #[.nilFunc, .nilFunc] 82)).alloc (.cells #[.nilFunc, .nilFunc, .nilFunc, .nilFunc] 94) = w1 := ⟨_, rfl⟩
  have r4 : Row4 w1 (w.heap.size + 1) 94 .nilFunc .nilFunc .nilFunc .nilFunc := by
    rw [← hw1]
    have := heap_alloc_new (w.alloc (.cells #[.nilFunc, .nilFunc] 82)) (.cells #[.nilFunc, .nilFunc, .nilFunc, .nilFunc] 94)
    rwa [World.size_alloc] at this
  have r2 : Row2 w1 w.heap.size 82 .nilFunc .nilFunc := by
    rw [← hw1]
    exact (Row2.new w 82 .nilFunc .nilFunc).below (alloc_below _ _) (Nat.le_refl _)
  have hb : Below w.heap.size w w1 := by rw [← hw1]; exact eb_of (alloc_below w _) (alloc_below _ _) (Nat.le_refl _)
  have HB := Lib.hid (set4 hb (show w.heap.size ≤ w.heap.size + 1 by omega) (.func (.func 64) #[] #[]) (.func (.func 65) #[] #[]) (.func (.func 66) #[] #[]) (.func (.func 67) #[] #[]))
  have HR := Lib.hid (r4.set (.func (.func 64) #[] #[]) (.func (.func 65) #[] #[]) (.func (.func 66) #[] #[]) (.func (.func 67) #[] #[]))
  have HR2 : Hid (Row2 ((((w1.setCell ⟨w.heap.size + 1, 0, none⟩ (.func (.func 64) #[] #[])).setCell ⟨w.heap.size + 1, 1, none⟩ (.func (.func 65) #[] #[])).setCell ⟨w.heap.size + 1, 2, none⟩ (.func (.func 66) #[] #[])).setCell ⟨w.heap.size + 1, 3, none⟩ (.func (.func 67) #[] #[])) w.heap.size 82 .nilFunc .nilFunc) := Lib.hid (by
    unfold Row2 at r2 ⊢
    rw [Below.heap_setCell _ _ _ _ (by simp), Below.heap_setCell _ _ _ _ (by simp), Below.heap_setCell _ _ _ _ (by simp), Below.heap_setCell _ _ _ _ (by simp)]
    exact r2)
  have HW1 := Lib.hid hw1
  have c0 := r4.c0
  have c1 := r4.c1
  have c2 := r4.c2
  have c3 := r4.c3
  have z0 := r4.fz 0
  have z1 := r4.fz 1
  have z2 := r4.fz 2
  have z3 := r4.fz 3
  have d0 := HR.out.c0
  have d1 := HR.out.c1
  have d2 := HR.out.c2
  have d3 := HR.out.c3
  have e0 := HR2.out.c0
  have e1 := HR2.out.c1
  have y0 := HR2.out.fz 0
  have y1 := HR2.out.fz 1
  clear r4 r2 hb
  cases back with
  | false =>
    have k0 := (HR2.out.set (.func (.func 64) #[] #[]) (.func (.func 65) #[] #[])).c0
    have k1 := (HR2.out.set (.func (.func 64) #[] #[]) (.func (.func 65) #[] #[])).c1
    have HK0 := Lib.hid k0
    have HK1 := Lib.hid k1
    have HC := Lib.hid (set2_below HB.out (Nat.le_refl _) (.func (.func 64) #[] #[]) (.func (.func 65) #[] #[]))
    clear k0 k1
    go_enter Try.func53, Try.ntmps53
    go_wp2
    have k0 := HK0.out
    have k1 := HK1.out
    refine bodyPost_ret (v := .agg #[.func (.func 64) #[] #[], .func (.func 65) #[] #[]]) (by simp [results, Try.f53, go_sem, k0, k1]) rfl ?_
    exact ⟨rfl, HC.out⟩
  | true =>
    have k0 := (HR2.out.set (.func (.func 66) #[] #[]) (.func (.func 67) #[] #[])).c0
    have k1 := (HR2.out.set (.func (.func 66) #[] #[]) (.func (.func 67) #[] #[])).c1
    have HK0 := Lib.hid k0
    have HK1 := Lib.hid k1
    have HC := Lib.hid (set2_below HB.out (Nat.le_refl _) (.func (.func 66) #[] #[]) (.func (.func 67) #[] #[]))
    clear k0 k1
    go_enter Try.func53, Try.ntmps53
    go_wp2
    have k0 := HK0.out
    have k1 := HK1.out
    refine bodyPost_ret (v := .agg #[.func (.func 66) #[] #[], .func (.func 67) #[] #[]]) (by simp [results, Try.f53, go_sem, k0, k1]) rfl ?_
    exact ⟨rfl, HC.out⟩
end Go.Proofs.Yticdechdgpfdfaa.KK
