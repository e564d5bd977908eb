/-
  Contract of 'shown': the examples that every statement of this layer asks for.
-/
import Derived.Test.YthifbihmogjjpaaDoorWn
import Derived.Test.YthifbihmogjjpaaDoorWq
import Derived.Lib.ItoaMem
namespace Go.Proofs.YthifbihmogjjpaaDoor
open Go.ChangeShapes Go.WideShapes Go.ChangeAt Go.RowKit Go.Proofs

/-- the package-level variables that are read -/
def Env (w : World) : Prop := EscAt w ∧ LibAt w ∧ 9 ≤ w.heap.size
theorem Env.below {w w' : World} (h : Env w) (hb : Below w.heap.size w w') : Env w' :=
  ⟨h.1.below hb h.1.lt, h.2.1.below hb h.2.2, Nat.le_trans h.2.2 hb.size⟩
theorem Env.drewN {w : World} (h : Env w) (n : Nat) : Env (w.drewN n) := h

theorem ex_split : Pl.split [103, 101, 116, 32, 47, 32, 34, 97, 32, 98, 34] = (0, [([103, 101, 116], false), ([47], false), ([97, 32, 98], true)]) := by decide +kernel
theorem ex_int : Pl.intE [45, 49, 50] (-20) 20 = (0, -12) := by decide +kernel
theorem ex_unq : Pl.unq [34, 97, 92, 110, 92, 120, 48, 48, 92, 34, 34] = some [97, 10, 0, 34] := by decide +kernel
theorem ex_name : Pl.name [119, 101, 98, 45, 49] = true := by decide +kernel
theorem itoa_d (n : Nat) (h : n < 10) : Lib.itoa (n : Int) = [UInt8.ofNat (48 + n)] := by rw [Lib.itoa_nonneg, Lib.decDigits_one h]
theorem parts_nil : Pl.parts [] = [] := rfl
theorem ex_list : Pl.listE [1, 2, 3, 5, 8, 9] = (0, [49, 45, 51, 44, 53, 44, 56, 45, 57]) := by
  have i1 : Lib.itoa 1 = [49] := itoa_d 1 (by decide)
  have i3 : Lib.itoa 3 = [51] := itoa_d 3 (by decide)
  have i5 : Lib.itoa 5 = [53] := itoa_d 5 (by decide)
  have i8 : Lib.itoa 8 = [56] := itoa_d 8 (by decide)
  have i9 : Lib.itoa 9 = [57] := itoa_d 9 (by decide)
  have hc : Pl.chk [1, 2, 3, 5, 8, 9] = 0 := by decide +kernel
  have hp : Pl.parts [1, 2, 3, 5, 8, 9] = [[49, 45, 51], [53], [56, 45, 57]] := by
    have w1 : Pl.wr2 1 3 = [49, 45, 51] := by unfold Pl.wr2; rw [if_neg (by decide), i1, i3]; rfl
    have w2 : Pl.wr2 5 5 = [53] := by unfold Pl.wr2; rw [if_pos rfl, i5]
    have w3 : Pl.wr2 8 9 = [56, 45, 57] := by unfold Pl.wr2; rw [if_neg (by decide), i8, i9]; rfl
    have g1 : Pl.goOn 1 [2, 3, 5, 8, 9] = 2 := by decide
    have g2 : Pl.goOn 5 [8, 9] = 0 := by decide
    have g3 : Pl.goOn 8 [9] = 1 := by decide
    rw [Pl.parts_cons, g1]
    show Pl.wr2 1 3 :: Pl.parts [5, 8, 9] = _
    rw [Pl.parts_cons, g2]
    show Pl.wr2 1 3 :: Pl.wr2 5 5 :: Pl.parts [8, 9] = _
    rw [Pl.parts_cons, g3]
    show Pl.wr2 1 3 :: Pl.wr2 5 5 :: Pl.wr2 8 9 :: Pl.parts [] = _
    rw [w1, w2, w3, parts_nil]
  unfold Pl.listE
  rw [if_pos hc, if_neg (by decide), hp]
  decide +kernel

theorem Split_ex (w : World) (he : Env w) :
    Calls Tryd.prog 9 #[.string ⟨#[103, 101, 116, 32, 47, 32, 34, 97, 32, 98, 34]⟩] w fun e w' => ∃ A c, e = .returned (.tuple #[.slice A 3 c, .int .i64 0]) ∧ FldsAt w' A [([103, 101, 116], false), ([47], false), ([97, 32, 98], true)] ∧ Below w.heap.size w w' := by
  refine (Split_any ⟨#[103, 101, 116, 32, 47, 32, 34, 97, 32, 98, 34]⟩ w he.1 (by decide)).mono ?_
  rintro e w' ⟨A, c, h1, h2, h3⟩
  have hs : Pl.split (Pl.L ⟨#[103, 101, 116, 32, 47, 32, 34, 97, 32, 98, 34]⟩) = (0, [([103, 101, 116], false), ([47], false), ([97, 32, 98], true)]) := ex_split
  rw [hs] at h1 h2
  exact ⟨A, c, h1, h2, h3⟩
theorem Int_ex (w : World) (he : Env w) :
    Calls Tryd.prog 20 #[.string ⟨#[45, 49, 50]⟩, .int .i64 (-20), .int .i64 20] w fun e w' => e = .returned (.tuple #[.int .i64 (-12), .int .i64 0]) ∧ Below w.heap.size w w' := by
  refine (Int_any ⟨#[45, 49, 50]⟩ (-20) 20 w he.2.1 (by decide) (by decide) (by decide) (by decide) (by decide)).mono ?_
  have hs : Pl.intE (Pl.L ⟨#[45, 49, 50]⟩) (-20) 20 = (0, -12) := ex_int
  rw [hs]
  exact fun e w' h => h
theorem List_ex (g c : Nat) (w : World) (he : Env w) (hg : g < w.heap.size) (hc : ∀ i, i < 6 → w.cell? ⟨g, 0 + i, none⟩ = some (.int .i64 (Pl.el [1, 2, 3, 5, 8, 9] i))) :
    Calls Tryd.prog 17 #[.slice (some ⟨g, 0, none⟩) 6 c] w fun e w' => e = .returned (.tuple #[.string ⟨#[49, 45, 51, 44, 53, 44, 56, 45, 57]⟩, .int .i64 0]) ∧ Below w.heap.size w w' := by
  have hf : Fits [1, 2, 3, 5, 8, 9] := fun i => by
    match i with
    | 0 | 1 | 2 | 3 | 4 | 5 => decide
    | n + 6 =>
      have : Pl.el [1, 2, 3, 5, 8, 9] (n + 6) = 0 := by simp [Pl.el]
      rw [this]; decide
  have := List_any (some ⟨g, 0, none⟩) c [1, 2, 3, 5, 8, 9] w he.2.1 he.2.2 (.inr ⟨g, 0, rfl, hg, hc⟩) hf (by decide)
  rw [ex_list] at this
  exact this
theorem Unquote_ex (w : World) (he : Env w) :
    Calls Tryd.prog 15 #[.string ⟨#[34, 97, 92, 110, 92, 120, 48, 48, 92, 34, 34]⟩] w fun e w' => e = .returned (.tuple #[.string ⟨#[97, 10, 0, 34]⟩, .int .i64 0]) ∧ Below w.heap.size w w' :=
  Unquote_yes ⟨#[34, 97, 92, 110, 92, 120, 48, 48, 92, 34, 34]⟩ [97, 10, 0, 34] w he.1 (by decide) ex_unq
theorem Name_ex (w : World) :
    Calls Tryd.prog 22 #[.string ⟨#[119, 101, 98, 45, 49]⟩] w fun e w' => e = .returned (.bool true) ∧ w = w' := by
  refine (Name_any ⟨#[119, 101, 98, 45, 49]⟩ w (by decide)).mono ?_
  have hs : Pl.name (Pl.L ⟨#[119, 101, 98, 45, 49]⟩) = true := ex_name
  rw [hs]
  exact fun e w' h => h

set_option maxRecDepth 100000 in
set_option maxHeartbeats 2000000 in
theorem shown_any (w : World) (he : Env w) :
    Calls Tryd.prog 8 #[] w fun e w' => e = .returned (.bool true) ∧ Below w.heap.size w w' := by
  have HE := Lib.hid he
  clear he
  go_enter Tryd.func8, Tryd.ntmps8
  go_wp2_with fail
  refine (Split_ex _ HE.out).mono ?_
  rintro e w1 ⟨A, c, rfl, hf, hb1⟩
  have HE1 := Lib.hid (HE.out.below hb1)
  have HB1 := Lib.hid hb1
  have hs1 := hb1.size
  clear hb1
  go_wp2_with fail
  refine (Int_ex _ HE1.out).mono ?_
  rintro e w2 ⟨rfl, hb2⟩
  have HE2 := Lib.hid (HE1.out.below hb2)
  have hf2 := hf.below hb2 (Nat.le_refl _)
  have HB2 := Lib.hid hb2
  have hs2 := hb2.size
  clear hb2 hf
  go_wp2_with fail
  obtain ⟨w3, hw3⟩ : ∃ w3, w2.alloc (.cells #[.int .i64 1, .int .i64 2, .int .i64 3, .int .i64 5, .int .i64 8, .int .i64 9] 3) = w3 := ⟨_, rfl⟩
  have hb3 : Below w2.heap.size w2 w3 := by rw [← hw3]; exact (Below.refl _ _).alloc (Nat.le_refl _) _
  have hs3 : w3.heap.size = w2.heap.size + 1 := by rw [← hw3]; simp
  have hc3 : ∀ i, i < 6 → w3.cell? ⟨w2.heap.size, 0 + i, none⟩ = some (.int .i64 (Pl.el [1, 2, 3, 5, 8, 9] i)) := by
    intro i hi
    have hrow : w3.heap[w2.heap.size]? = some (.cells #[.int .i64 1, .int .i64 2, .int .i64 3, .int .i64 5, .int .i64 8, .int .i64 9] 3 (0, 0)) := by rw [← hw3]; exact heap_alloc_new w2 _
    rw [cell_of_row w3 w2.heap.size (0 + i) _ _ _ hrow]
    match i, hi with
    | 0, _ | 1, _ | 2, _ | 3, _ | 4, _ | 5, _ => rfl
  rw [hw3]
  have HE3 := Lib.hid (HE2.out.below hb3)
  have hf3 := hf2.below hb3 (Nat.le_refl _)
  have HB3 := Lib.hid hb3
  clear hw3 hb3 hf2
  refine (List_ex w2.heap.size 6 _ HE3.out (by omega) hc3).mono ?_
  rintro e w4 ⟨rfl, hb4⟩
  have HE4 := Lib.hid (HE3.out.below hb4)
  have hf4 := hf3.below hb4 (Nat.le_refl _)
  have HB4 := Lib.hid hb4
  have hs4 := hb4.size
  clear hb4 hf3 hc3
  go_wp2_with fail
  refine (Unquote_ex _ HE4.out).mono ?_
  rintro e w5 ⟨rfl, hb5⟩
  have HE5 := Lib.hid (HE4.out.below hb5)
  have hf5 := hf4.below hb5 (Nat.le_refl _)
  have HB5 := Lib.hid hb5
  have hs5 := hb5.size
  clear hb5 hf4
  go_wp2_with fail
  obtain ⟨w6, hw6⟩ : ∃ w6, w5.alloc (.cells #[.string ⟨#[103, 101, 116]⟩, .bool false, .string ⟨#[47]⟩, .bool false, .string ⟨#[97, 32, 98]⟩, .bool true] 48) = w6 := ⟨_, rfl⟩
  have hb6 : Below w5.heap.size w5 w6 := by rw [← hw6]; exact (Below.refl _ _).alloc (Nat.le_refl _) _
  have hs6 : w6.heap.size = w5.heap.size + 1 := by rw [← hw6]; simp
  have hg6 : FldsAt w6 (some ⟨w5.heap.size, 0, none⟩) [([103, 101, 116], false), ([47], false), ([97, 32, 98], true)] := by
    have hrow : w6.heap[w5.heap.size]? = some (.cells #[.string ⟨#[103, 101, 116]⟩, .bool false, .string ⟨#[47]⟩, .bool false, .string ⟨#[97, 32, 98]⟩, .bool true] 48 (0, 0)) := by rw [← hw6]; exact heap_alloc_new w5 _
    refine .inr ⟨_, _, rfl, by omega, fun i hi => ?_⟩
    rw [cell_of_row w6 w5.heap.size (0 + i * 2) _ _ _ hrow, cell_of_row w6 w5.heap.size (0 + i * 2 + 1) _ _ _ hrow]
    match i, hi with
    | 0, _ | 1, _ | 2, _ => exact ⟨rfl, rfl⟩
  rw [hw6]
  have HE6 := Lib.hid (HE5.out.below hb6)
  have hf6 := hf5.below hb6 (Nat.le_refl _)
  have HB6 := Lib.hid hb6
  clear hw6 hb6 hf5
  have hsame := Same_any A (some ⟨w5.heap.size, 0, none⟩) c 3 [([103, 101, 116], false), ([47], false), ([97, 32, 98], true)] [([103, 101, 116], false), ([47], false), ([97, 32, 98], true)] w6 hf6 hg6 (by decide) (by decide)
  rw [decide_eq_true rfl] at hsame
  have HS := Lib.hid hsame
  clear hsame hf6 hg6
  refine HS.out.mono ?_
  rintro e w7 ⟨rfl, hb7⟩
  have HB7 := Lib.hid hb7
  have hs7 := hb7.size
  clear hb7 HS
  go_wp2_with (go_at_call 22; refine (Name_ex _).mono ?_; rintro e w' ⟨rfl, rfl⟩)
  go_ret
  have h1 := below_of HB1.out HB2.out (Nat.le_refl _)
  have h2 := below_of h1 HB3.out (Nat.le_refl _)
  have h3 := below_of h2 HB4.out (Nat.le_refl _)
  have h4 := below_of h3 HB5.out (Nat.le_refl _)
  have h5 := below_of h4 HB6.out (Nat.le_refl _)
  exact ⟨rfl, below_of h5 HB7.out (Nat.le_refl _)⟩
end Go.Proofs.YthifbihmogjjpaaDoor
