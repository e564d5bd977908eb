/-
  Contracts of the functions on quoted strings.
-/
import Derived.Test.YthifbihmogjjpaaDoorWb
import Derived.LoopN
import Derived.Handy
namespace Go.Proofs.YthifbihmogjjpaaDoor
open Go.ChangeShapes Go.WideShapes Go.ChangeAt Go.RowKit Go.Proofs

def escCells : Array Value := #[.int .u8 34, .int .u8 34, .int .u8 92, .int .u8 92, .int .u8 10, .int .u8 110, .int .u8 13, .int .u8 114, .int .u8 9, .int .u8 116]
def EscAt (w : World) : Prop := ∃ t fr, w.heap[0]? = some (.cells escCells t fr)
theorem EscAt.lt {w : World} (h : EscAt w) : 0 < w.heap.size := by
  obtain ⟨t, fr, h⟩ := h
  rcases Nat.lt_or_ge 0 w.heap.size with hlt | hge
  · exact hlt
  · rw [Array.getElem?_eq_none hge] at h; cases h
theorem EscAt.below {B : Nat} {w w' : World} (h : EscAt w) (hb : Below B w w') (hB : 0 < B) : EscAt w' := by
  obtain ⟨t, fr, h⟩ := h
  exact ⟨t, fr, (hb.block _ hB).trans h⟩
theorem esc0 : ∀ w, (Instr.index 104 (.agg escCells) (.int .i64 0)).run Tryd.prog w = .ok (.agg #[.int .u8 34, .int .u8 34]) w := fun _ => by kernel_rfl
theorem esc1 : ∀ w, (Instr.index 104 (.agg escCells) (.int .i64 1)).run Tryd.prog w = .ok (.agg #[.int .u8 92, .int .u8 92]) w := fun _ => by kernel_rfl
theorem esc2 : ∀ w, (Instr.index 104 (.agg escCells) (.int .i64 2)).run Tryd.prog w = .ok (.agg #[.int .u8 10, .int .u8 110]) w := fun _ => by kernel_rfl
theorem esc3 : ∀ w, (Instr.index 104 (.agg escCells) (.int .i64 3)).run Tryd.prog w = .ok (.agg #[.int .u8 13, .int .u8 114]) w := fun _ => by kernel_rfl
theorem esc4 : ∀ w, (Instr.index 104 (.agg escCells) (.int .i64 4)).run Tryd.prog w = .ok (.agg #[.int .u8 9, .int .u8 116]) w := fun _ => by kernel_rfl

set_option maxHeartbeats 800000 in
theorem letterOf_any (c : UInt8) (w : World) (he : EscAt w) :
    Calls Tryd.prog 53 #[.int .u8 (c.toNat : Int)] w fun e w' => e = .returned (.tuple #[.int .u8 (Pl.num (Pl.letter c)), .bool (Pl.letter c).isSome]) ∧ Below w.heap.size w w' := by
  obtain ⟨t, fr, hg⟩ := he
  have HG := Lib.hid hg
  clear hg
  have j0 := esc0
  have j1 := esc1
  have j2 := esc2
  have j3 := esc3
  have j4 := esc4
  by_cases e0 : c = 34
  · subst e0
    go_enter Tryd.func53, Tryd.ntmps53
    go_wp2_with (refine wpList_load_row rfl 104 _ rfl 0 rfl t _ fr _ HG.out Tryd.underlying104 rfl (by kernel_rfl) ?_)
    refine wp_loop_rounds 6 ?_
    rw [rounds_succ]
    go_wp2
    go_ret2
    exact ⟨rfl, ((Below.refl _ _).alloc (by first | (simp; done) | (simp; omega)) _)⟩
  have f0 : ((34 : Int) == (c.toNat : Int)) = false := Pl.ne_num c 34 e0
  by_cases e1 : c = 92
  · subst e1
    go_enter Tryd.func53, Tryd.ntmps53
    go_wp2_with (refine wpList_load_row rfl 104 _ rfl 0 rfl t _ fr _ HG.out Tryd.underlying104 rfl (by kernel_rfl) ?_)
    refine wp_loop_rounds 6 ?_
    rw [rounds_succ]
    go_wp2
    rw [rounds_succ]
    go_wp2
    go_ret2
    exact ⟨rfl, (((Below.refl _ _).alloc (by first | (simp; done) | (simp; omega)) _).alloc (by first | (simp; done) | (simp; omega)) _)⟩
  have f1 : ((92 : Int) == (c.toNat : Int)) = false := Pl.ne_num c 92 e1
  by_cases e2 : c = 10
  · subst e2
    go_enter Tryd.func53, Tryd.ntmps53
    go_wp2_with (refine wpList_load_row rfl 104 _ rfl 0 rfl t _ fr _ HG.out Tryd.underlying104 rfl (by kernel_rfl) ?_)
    refine wp_loop_rounds 6 ?_
    rw [rounds_succ]
    go_wp2
    rw [rounds_succ]
    go_wp2
    rw [rounds_succ]
    go_wp2
    go_ret2
    exact ⟨rfl, ((((Below.refl _ _).alloc (by first | (simp; done) | (simp; omega)) _).alloc (by first | (simp; done) | (simp; omega)) _).alloc (by first | (simp; done) | (simp; omega)) _)⟩
  have f2 : ((10 : Int) == (c.toNat : Int)) = false := Pl.ne_num c 10 e2
  by_cases e3 : c = 13
  · subst e3
    go_enter Tryd.func53, Tryd.ntmps53
    go_wp2_with (refine wpList_load_row rfl 104 _ rfl 0 rfl t _ fr _ HG.out Tryd.underlying104 rfl (by kernel_rfl) ?_)
    refine wp_loop_rounds 6 ?_
    rw [rounds_succ]
    go_wp2
    rw [rounds_succ]
    go_wp2
    rw [rounds_succ]
    go_wp2
    rw [rounds_succ]
    go_wp2
    go_ret2
    exact ⟨rfl, (((((Below.refl _ _).alloc (by first | (simp; done) | (simp; omega)) _).alloc (by first | (simp; done) | (simp; omega)) _).alloc (by first | (simp; done) | (simp; omega)) _).alloc (by first | (simp; done) | (simp; omega)) _)⟩
  have f3 : ((13 : Int) == (c.toNat : Int)) = false := Pl.ne_num c 13 e3
  by_cases e4 : c = 9
  · subst e4
    go_enter Tryd.func53, Tryd.ntmps53
    go_wp2_with (refine wpList_load_row rfl 104 _ rfl 0 rfl t _ fr _ HG.out Tryd.underlying104 rfl (by kernel_rfl) ?_)
    refine wp_loop_rounds 6 ?_
    rw [rounds_succ]
    go_wp2
    rw [rounds_succ]
    go_wp2
    rw [rounds_succ]
    go_wp2
    rw [rounds_succ]
    go_wp2
    rw [rounds_succ]
    go_wp2
    go_ret2
    exact ⟨rfl, ((((((Below.refl _ _).alloc (by first | (simp; done) | (simp; omega)) _).alloc (by first | (simp; done) | (simp; omega)) _).alloc (by first | (simp; done) | (simp; omega)) _).alloc (by first | (simp; done) | (simp; omega)) _).alloc (by first | (simp; done) | (simp; omega)) _)⟩
  have f4 : ((9 : Int) == (c.toNat : Int)) = false := Pl.ne_num c 9 e4
  have H : Hid (Pl.letter c = none) := Lib.hid (by simp [Pl.letter, *])
  clear e0 e1 e2 e3 e4
  go_enter Tryd.func53, Tryd.ntmps53
  go_wp2_with (refine wpList_load_row rfl 104 _ rfl 0 rfl t _ fr _ HG.out Tryd.underlying104 rfl (by kernel_rfl) ?_)
  refine wp_loop_rounds 6 ?_
  rw [rounds_succ]
  go_wp2
  rw [rounds_succ]
  go_wp2
  rw [rounds_succ]
  go_wp2
  rw [rounds_succ]
  go_wp2
  rw [rounds_succ]
  go_wp2
  rw [rounds_succ]
  go_wp2
  go_ret2
  exact ⟨by rw [H.out]; rfl, ((((((Below.refl _ _).alloc (by first | (simp; done) | (simp; omega)) _).alloc (by first | (simp; done) | (simp; omega)) _).alloc (by first | (simp; done) | (simp; omega)) _).alloc (by first | (simp; done) | (simp; omega)) _).alloc (by first | (simp; done) | (simp; omega)) _)⟩

set_option maxHeartbeats 800000 in
theorem rawOf_any (c : UInt8) (w : World) (he : EscAt w) :
    Calls Tryd.prog 69 #[.int .u8 (c.toNat : Int)] w fun e w' => e = .returned (.tuple #[.int .u8 (Pl.num (Pl.raw c)), .bool (Pl.raw c).isSome]) ∧ Below w.heap.size w w' := by
  obtain ⟨t, fr, hg⟩ := he
  have HG := Lib.hid hg
  clear hg
  have j0 := esc0
  have j1 := esc1
  have j2 := esc2
  have j3 := esc3
  have j4 := esc4
  by_cases e0 : c = 34
  · subst e0
    go_enter Tryd.func69, Tryd.ntmps69
    go_wp2_with (refine wpList_load_row rfl 104 _ rfl 0 rfl t _ fr _ HG.out Tryd.underlying104 rfl (by kernel_rfl) ?_)
    refine wp_loop_rounds 6 ?_
    rw [rounds_succ]
    go_wp2
    go_ret2
    exact ⟨rfl, ((Below.refl _ _).alloc (by first | (simp; done) | (simp; omega)) _)⟩
  have f0 : ((34 : Int) == (c.toNat : Int)) = false := Pl.ne_num c 34 e0
  by_cases e1 : c = 92
  · subst e1
    go_enter Tryd.func69, Tryd.ntmps69
    go_wp2_with (refine wpList_load_row rfl 104 _ rfl 0 rfl t _ fr _ HG.out Tryd.underlying104 rfl (by kernel_rfl) ?_)
    refine wp_loop_rounds 6 ?_
    rw [rounds_succ]
    go_wp2
    rw [rounds_succ]
    go_wp2
    go_ret2
    exact ⟨rfl, (((Below.refl _ _).alloc (by first | (simp; done) | (simp; omega)) _).alloc (by first | (simp; done) | (simp; omega)) _)⟩
  have f1 : ((92 : Int) == (c.toNat : Int)) = false := Pl.ne_num c 92 e1
  by_cases e2 : c = 110
  · subst e2
    go_enter Tryd.func69, Tryd.ntmps69
    go_wp2_with (refine wpList_load_row rfl 104 _ rfl 0 rfl t _ fr _ HG.out Tryd.underlying104 rfl (by kernel_rfl) ?_)
    refine wp_loop_rounds 6 ?_
    rw [rounds_succ]
    go_wp2
    rw [rounds_succ]
    go_wp2
    rw [rounds_succ]
    go_wp2
    go_ret2
    exact ⟨rfl, ((((Below.refl _ _).alloc (by first | (simp; done) | (simp; omega)) _).alloc (by first | (simp; done) | (simp; omega)) _).alloc (by first | (simp; done) | (simp; omega)) _)⟩
  have f2 : ((110 : Int) == (c.toNat : Int)) = false := Pl.ne_num c 110 e2
  by_cases e3 : c = 114
  · subst e3
    go_enter Tryd.func69, Tryd.ntmps69
    go_wp2_with (refine wpList_load_row rfl 104 _ rfl 0 rfl t _ fr _ HG.out Tryd.underlying104 rfl (by kernel_rfl) ?_)
    refine wp_loop_rounds 6 ?_
    rw [rounds_succ]
    go_wp2
    rw [rounds_succ]
    go_wp2
    rw [rounds_succ]
    go_wp2
    rw [rounds_succ]
    go_wp2
    go_ret2
    exact ⟨rfl, (((((Below.refl _ _).alloc (by first | (simp; done) | (simp; omega)) _).alloc (by first | (simp; done) | (simp; omega)) _).alloc (by first | (simp; done) | (simp; omega)) _).alloc (by first | (simp; done) | (simp; omega)) _)⟩
  have f3 : ((114 : Int) == (c.toNat : Int)) = false := Pl.ne_num c 114 e3
  by_cases e4 : c = 116
  · subst e4
    go_enter Tryd.func69, Tryd.ntmps69
    go_wp2_with (refine wpList_load_row rfl 104 _ rfl 0 rfl t _ fr _ HG.out Tryd.underlying104 rfl (by kernel_rfl) ?_)
    refine wp_loop_rounds 6 ?_
    rw [rounds_succ]
    go_wp2
    rw [rounds_succ]
    go_wp2
    rw [rounds_succ]
    go_wp2
    rw [rounds_succ]
    go_wp2
    rw [rounds_succ]
    go_wp2
    go_ret2
    exact ⟨rfl, ((((((Below.refl _ _).alloc (by first | (simp; done) | (simp; omega)) _).alloc (by first | (simp; done) | (simp; omega)) _).alloc (by first | (simp; done) | (simp; omega)) _).alloc (by first | (simp; done) | (simp; omega)) _).alloc (by first | (simp; done) | (simp; omega)) _)⟩
  have f4 : ((116 : Int) == (c.toNat : Int)) = false := Pl.ne_num c 116 e4
  have H : Hid (Pl.raw c = none) := Lib.hid (by simp [Pl.raw, *])
  clear e0 e1 e2 e3 e4
  go_enter Tryd.func69, Tryd.ntmps69
  go_wp2_with (refine wpList_load_row rfl 104 _ rfl 0 rfl t _ fr _ HG.out Tryd.underlying104 rfl (by kernel_rfl) ?_)
  refine wp_loop_rounds 6 ?_
  rw [rounds_succ]
  go_wp2
  rw [rounds_succ]
  go_wp2
  rw [rounds_succ]
  go_wp2
  rw [rounds_succ]
  go_wp2
  rw [rounds_succ]
  go_wp2
  rw [rounds_succ]
  go_wp2
  go_ret2
  exact ⟨by rw [H.out]; rfl, ((((((Below.refl _ _).alloc (by first | (simp; done) | (simp; omega)) _).alloc (by first | (simp; done) | (simp; omega)) _).alloc (by first | (simp; done) | (simp; omega)) _).alloc (by first | (simp; done) | (simp; omega)) _).alloc (by first | (simp; done) | (simp; omega)) _)⟩

end Go.Proofs.YthifbihmogjjpaaDoor
