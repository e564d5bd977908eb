/-
  slices.Insert of one pair, into a row of the call's own.
-/
import Derived.Test.YtbgpcmpbfenplaaVe
import Derived.Outline
namespace Go.Proofs.Ytbgpcmpbfenplaa.KK
open Go.ChangeShapes Go.WideShapes Go.ChangeAt Go.RowKit Go.Proofs

theorem psAt_block {w : World} {vb : Nat} {x : Pr} {t : TypeId} (h : w.heap[vb]? = some (.cells #[.string x.1, .string x.2] t (0, 0))) : PsAt w (some ⟨vb, 0, none⟩) [x] := by
  refine .inr ⟨vb, 0, rfl, (Array.getElem?_eq_some_iff.1 h).1, fun i hi => ?_⟩
  obtain rfl : i = 0 := by simp at hi; omega
  exact ⟨(cell_of_row w vb 0 _ _ _ h).trans rfl, (cell_of_row w vb 1 _ _ _ h).trans rfl⟩
theorem ins_end (A : Option Addr) (c n base : Nat) (xs : List Pr) (w : World) (hown : w.ownsRow base 31 2 (.slice A n c) n (cellsP xs)) (hn : n ≤ 100000) (vb : Nat) (x : Pr) (hv : w.heap[vb]? = some (.cells #[.string x.1, .string x.2] 31 (0, 0))) (hb : base ≤ w.heap.size) :
    Calls Try.prog 96 #[.slice A n c, .int .i64 (n : Nat), .slice (some ⟨vb, 0, none⟩) 1 1] w fun e w' => ∃ v', e = .returned v' ∧ w'.ownsRow base 31 2 v' (n + 1) (cellsP (xs ++ [x])) ∧ Below base w w' := by
  have HO := Lib.hid hown
  have HV := Lib.hid (psAt_block hv)
  obtain ⟨A0, c0, e0, hc, hA⟩ := own_cap2 hown
  injection e0 with e1 _ e2
  subst e1 e2
  clear hown hv
  by_cases hcn : c = n
  · subst hcn
    go_enter Try.func96, Try.ntmps96
    go_wp2_with (at_builtin; refine wpList_append_ps rfl (.tmp 23) (.tmp 24) rfl base _ c xs rfl HO.out (some ⟨vb, 0, none⟩) 1 1 [x] rfl rfl HV.out (fun e => by cases e) (by omega) hb ?_; intro v1 w1 hown hg; have HB := Lib.hid ((Below.refl base w).grown hg hb (fun k hk => (HO.out.lt k hk).1)); have HO1 := Lib.hid hown; clear hown hg)
    go_ret
    exact ⟨v1, rfl, HO1.out, HB.out⟩
  · have hcn2 : ¬ n = c := fun e => hcn e.symm
    go_enter Try.func96, Try.ntmps96
    go_wp2_with (at_builtin; refine wpList_append_ps rfl (.tmp 23) (.tmp 24) rfl base _ n xs rfl HO.out (some ⟨vb, 0, none⟩) 1 1 [x] rfl rfl HV.out (fun e => by cases e) (by omega) hb ?_; intro v1 w1 hown hg; have HB := Lib.hid ((Below.refl base w).grown hg hb (fun k hk => (HO.out.lt k hk).1)); have HO1 := Lib.hid hown; clear hown hg)
    go_ret
    exact ⟨v1, rfl, HO1.out, HB.out⟩
end Go.Proofs.Ytbgpcmpbfenplaa.KK
