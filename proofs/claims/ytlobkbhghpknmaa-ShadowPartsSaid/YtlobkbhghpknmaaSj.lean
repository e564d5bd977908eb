/-
  Shadow: the example's contracts.
-/
import Derived.Test.YtlobkbhghpknmaaSi
import Derived.Test.YtlobkbhghpknmaaHa
import Derived.Laws.OwnMore
namespace Go.Proofs.Ytlobkbhghpknmaa.KK
open Go.ChangeShapes Go.WideShapes Go.ChangeAt Go.RowKit Go.Proofs

def l0 : El.En := (⟨#[97]⟩, ⟨#[]⟩, false, 1)
def l1 : El.En := (⟨#[98]⟩, ⟨#[]⟩, true, 5)
def l2 : El.En := (⟨#[98]⟩, ⟨#[]⟩, false, 2)
def l3 : El.En := (⟨#[99]⟩, ⟨#[]⟩, false, 4)
def l4 : El.En := (⟨#[99]⟩, ⟨#[]⟩, true, 3)
def exL : List El.En := [l0, l1, l2, l3, l4]
theorem es_lit (W : World) (cs : Array Value) (xs : List El.En) (h : cs.toList = cellsE xs) (hn : xs.length ≤ 1000) : EsAt (W.alloc (.cells cs 25)) (some ⟨W.heap.size, 0, none⟩) xs := by
  have hl : cs.size = xs.length * 4 := by rw [← Array.length_toList, h, cellsE_len]
  have := World.ownsRow_lit (base := 0) (e := 25) (size := 4) W cs xs.length (Nat.zero_le _) (by unfold maxLen; omega) hl
  rw [h] at this
  exact EsAt.of_own this
theorem sized_small {xs : List El.En} (h : xs.all (fun x => decide (x.1.size ≤ 100) && decide (x.2.1.size ≤ 100)) = true) : Sized xs := by
  intro x hx
  have := List.all_eq_true.1 h x hx
  simp only [Bool.and_eq_true, decide_eq_true_eq] at this
  omega
theorem sift_exF : siftE exL false = (([l0, l1, l3], 2, 0), 0, 0) := by decide +kernel
theorem sift_exT : siftE exL true = (([l0, l3], 2, 1), 0, 0) := by decide +kernel
theorem sift_exN : siftE [l1, l0] false = (([], 0, 0), 1, 6) := by decide +kernel
theorem exSz : Sized exL := sized_small (by decide +kernel)
theorem exSzN : Sized [l1, l0] := sized_small (by decide +kernel)

set_option maxRecDepth 100000 in
set_option maxHeartbeats 1000000 in
theorem ex_any (w : World) : Calls Try.prog 25 #[] w fun e w' => ∃ A, e = .returned (.slice A 5 5) ∧ EsAt w' A exL ∧ Below w.heap.size w w' := by
  go_enter Try.func25, Try.ntmps25
  go_wp2_with fail
  go_ret
  exact ⟨_, rfl, es_lit _ _ exL (by simp [exL, cellsE, l0, l1, l2, l3, l4]) (by decide), al1 _ _⟩
theorem exF (A : Option Addr) (c : Nat) (w : World) (h : EsAt w A exL) : Calls Try.prog 18 #[.slice A 5 c, .bool false] w fun e w' => ∃ A' c', e = .returned (.tuple #[.slice A' 3 c', .int .i64 0, .int .i64 0]) ∧ EsAt w' A' [l0, l1, l3] ∧ Below w.heap.size w w' := by
  have := pFilter_any A c exL false w h (by decide) exSz
  unfold FiltOut at this; rw [sift_exF] at this; exact this
theorem exT (A : Option Addr) (c : Nat) (w : World) (h : EsAt w A exL) : Calls Try.prog 18 #[.slice A 5 c, .bool true] w fun e w' => ∃ A' c', e = .returned (.tuple #[.slice A' 2 c', .int .i64 0, .int .i64 0]) ∧ EsAt w' A' [l0, l3] ∧ Below w.heap.size w w' := by
  have := pFilter_any A c exL true w h (by decide) exSz
  unfold FiltOut at this; rw [sift_exT] at this; exact this
theorem exN (A : Option Addr) (c : Nat) (w : World) (h : EsAt w A [l1, l0]) : Calls Try.prog 18 #[.slice A 2 c, .bool false] w fun e w' => ∃ A' c', e = .returned (.tuple #[.slice A' 0 c', .int .i64 1, .int .i64 6]) ∧ Below w.heap.size w w' := by
  have := pFilter_any A c [l1, l0] false w h (by decide) exSzN
  unfold FiltOut at this; rw [sift_exN] at this
  exact this.mono fun e w' ⟨A', c', he, _, hb⟩ => ⟨A', c', he, hb⟩
theorem exC (A : Option Addr) (c : Nat) (w : World) (h : EsAt w A exL) : Calls Try.prog 20 #[.slice A 5 c, .bool true] w fun e w' => e = .returned (.tuple #[.agg #[.int .i64 2, .int .i64 2, .int .i64 1], .int .i64 0, .int .i64 0]) ∧ Below w.heap.size w w' := by
  have := pCount_any A c exL true w h (by decide) exSz
  rw [sift_exT] at this; exact this
theorem exS (w : World) : Calls Try.prog 11 #[.agg #[.bool false, .string ⟨#[]⟩, .bool true], .agg #[.string ⟨#[98]⟩, .string ⟨#[]⟩, .bool true, .int .i64 5]] w fun e w' => e = .returned (.tuple #[.bool false, .agg #[.bool true, .string ⟨#[98]⟩, .bool true], .int .i64 0]) ∧ Below w.heap.size w w' := by
  have := step_ok false ⟨#[]⟩ true ⟨#[98]⟩ ⟨#[]⟩ true 5 w (by decide) (by decide) (by decide) (by decide +kernel)
  rw [show keptB (false, ⟨#[]⟩, true) (⟨#[98]⟩, ⟨#[]⟩, true, 5) = false by decide +kernel] at this; exact this
theorem exSm (A A' : Option Addr) (c c' : Nat) (xs : List El.En) (n : Nat) (hl : xs.length = n) (hn : n ≤ 100) (w : World) (hf : EsAt w A xs) (hg : EsAt w A' xs) : Calls Try.prog 22 #[.slice A n c, .slice A' n c'] w fun e w' => e = .returned (.bool true) ∧ Below w.heap.size w w' := by
  have := sameE_any A A' c c' xs xs w hf hg (by omega) (by omega)
  rw [hl, decide_eq_true rfl] at this; exact this
end Go.Proofs.Ytlobkbhghpknmaa.KK
