/-
  What a builder's entries are: a good list. Two rows side by side: those of a builder, and those that the law keeps.
-/
import Derived.Test.YtkphadkmmjcmnaaBl
import Derived.Maps.AppendAt
namespace Go.Proofs.Ytkphadkmmjcmnaa.KK
open Go.ChangeShapes Go.WideShapes Go.ChangeAt Go.RowKit Go.Proofs

/-- what CheckList finds nothing wrong with -/
def GL (xs : List El.En) : Prop := (listE xs).2 = 0
theorem GL.nil : GL [] := by unfold GL; simp [listE, scan]
theorem scan_snoc : ∀ (xs : List El.En) (i : Nat) (p : Option El.En) (x : El.En), (scan i p xs).2 = 0 → wrong (xs.getLast?.or p) x = 0 → (scan i p (xs ++ [x])).2 = 0
  | [], i, p, x, _, h => by
    simp only [List.getLast?_nil, Option.none_or] at h
    simp [scan, h]
  | y :: t, i, p, x, h, g => by
    rw [List.cons_append, scan]
    rw [scan] at h
    by_cases hw : wrong p y = 0
    · rw [if_pos hw] at h ⊢
      refine scan_snoc t (i + 1) (some y) x h ?_
      cases ht : t.getLast? with
      | none =>
        have : t = [] := List.getLast?_eq_none_iff.1 ht
        subst this
        simpa using g
      | some z =>
        rw [List.getLast?_cons, ht] at g
        simpa using g
    · rw [if_neg hw] at h; exact absurd h hw
theorem GL.add {most : Nat} {xs : List El.En} (h : GL xs) (hm : most ≤ 5000) (x : El.En) : GL (addL most xs x) := by
  unfold addL
  by_cases g : addE most xs x = 0
  · rw [if_pos g]
    obtain ⟨h1, h2, h3⟩ := addE_zero g
    unfold GL listE at h ⊢
    rw [if_neg (by omega)] at h
    rw [if_neg (by rw [List.length_append]; simp; omega)]
    refine scan_snoc xs 0 none x h ?_
    by_cases hx : xs = []
    · subst hx; exact wrong_none h1
    · rw [List.getLast?_eq_some_getLast hx]
      have := h3 hx
      unfold lastE at this
      rw [List.getLastD_eq_getLast?, List.getLast?_eq_some_getLast hx] at this
      simp only [Option.some_or]
      refine wrong_up h1 ?_
      rw [Kl.ord_swap]
      simp only [Option.getD_some] at this
      omega
  · rw [if_neg g]; exact h
theorem GL.ofE {id : Int} {xs : List El.En} (h : GL xs) : ofE id xs = if id < 1 ∨ 1000000 < id then 7 else if xs = [] then 4 else 0 := by
  unfold GL at h
  unfold KK.ofE
  rw [h]
  simp
theorem OkL.sized {most : Nat} {xs : List El.En} (h : OkL most xs) : Sized xs := fun x hx => by have := El.chk_of (h.2.2 x hx); omega
/-- a builder with its entries, and a row of the law's own that is apart from it -/
structure Side (base M most : Nat) (st : Int) (xs : List El.En) (w : World) (v : Value) (wb : Option Nat) (u : Value) (n : Nat) (ys : List El.En) : Prop where
  h : Hold base M most st xs w v wb
  o : w.ownsRow base 36 4 u n (cellsE ys)
  a : ∀ g, u.ownBlock = some g → v.ownBlock ≠ some g ∧ wb ≠ some g
theorem own_type {w : World} {base n : Nat} {u : Value} {cs : List Value} (h : w.ownsRow base 36 4 u n cs) : ∀ g, u.ownBlock = some g → ∃ cur, w.heap[g]? = some (.cells cur 36 (0, 0)) := by
  intro g hg
  rcases h.2 with ⟨rfl, _⟩ | ⟨g', cap, cur, rfl, _, hh, _⟩
  · cases hg
  · injection hg with hg; subst hg; exact ⟨cur, hh⟩
theorem own_notM {w : World} {base n M most : Nat} {st : Int} {u v : Value} {cs : List Value} (h : w.ownsRow base 36 4 u n cs) (hb : Bd w M st most v) : ∀ g, u.ownBlock = some g → g ≠ M := by
  rintro g hg rfl
  obtain ⟨cur, hc⟩ := own_type h g hg
  unfold Bd at hb
  rw [hc] at hb
  injection hb with hb; injection hb with _ hb _; exact absurd hb (by decide)
theorem Side.below {base M most : Nat} {st : Int} {xs ys : List El.En} {w w' : World} {v u : Value} {wb : Option Nat} {n : Nat} (h : Side base M most st xs w v wb u n ys) (hb : Below w.heap.size w w') : Side base M most st xs w' v wb u n ys :=
  ⟨h.h.below hb, (Chg.of_below (S := fun _ => False) hb).own h.o (fun _ _ g => g), h.a⟩
theorem AddOut.side {base M most : Nat} {st : Int} {wb : Option Nat} {w w' : World} {v u : Value} {n : Nat} {xs ys zs : List El.En} (ho : AddOut base M most st v wb xs w w' zs) (h : Side base M most st xs w v wb u n ys) : ∃ v' wb', Side base M most st zs w' v' wb' u n ys := by
  have hb := ho.below h.h.m h.h.r h.h.s
  obtain ⟨v', wb', h1, h2, h3, h4, h5, _⟩ := ho
  have hM := own_notM h.o h.h.d
  refine ⟨v', wb', ⟨h1, h2, h.h.m, Nat.le_trans h.h.s hb.size⟩, h3.own h.o (fun g hg hs => ?_), fun g hg => ⟨fun e => ?_, fun e => ?_⟩⟩
  · rcases hs with e | e
    · exact hM g hg e
    · exact (h.a g hg).2 e.symm
  · have hlt := (h.o.lt g hg).2
    rcases h5 g e with e | e
    · exact (h.a g hg).1 e
    · omega
  · have hlt := (h.o.lt g hg).2
    rcases h4 with e2 | ⟨g2, e2, e3⟩
    · rw [e2] at e; exact (h.a g hg).2 e
    · rw [e2] at e; injection e with e; omega
/-- the law's own row has grown -/
theorem Side.grown {base M most : Nat} {st : Int} {xs ys zs : List El.En} {w w' : World} {v u u' : Value} {wb : Option Nat} {n m : Nat} (h : Side base M most st xs w v wb u n ys) (hg : w.grownBy w' u.ownBlock) (ho : w'.ownsRow base 36 4 u' m (cellsE zs)) (hat : u'.ownBlock = u.ownBlock ∨ u'.ownBlock = some w.heap.size) :
    Side base M most st xs w' v wb u' m zs := by
  have hM := own_notM h.o h.h.d
  obtain ⟨A, c, hv, _, _, hes⟩ := h.h.r.form
  refine ⟨⟨h.h.d.chg (Chg.of_grown hg) (fun e => hM M e.symm rfl), h.h.r.chg (Chg.of_grown hg) (fun A n c e e2 => ?_), h.h.m, Nat.le_trans h.h.s hg.size⟩, ho, fun g hg2 => ?_⟩
  · exact (h.a _ e2.symm).1 (by rw [e]; rfl)
  · rcases hat with e | e
    · exact h.a g (e ▸ hg2)
    · rw [e] at hg2; injection hg2 with hg2; subst hg2
      refine ⟨fun e2 => ?_, fun e2 => ?_⟩
      · rw [hv] at e2
        rcases hes with h0 | ⟨b, off, rfl, hlt, _⟩
        · rw [h0] at hv; have := h.h.r; rw [h0] at this; have := this.null; rw [this] at hv; injection hv with hv; rw [← hv] at e2; cases e2
        · injection e2 with e2; simp only at e2; omega
      · have := (h.h.r.wlt _ e2).2; omega
end Go.Proofs.Ytkphadkmmjcmnaa.KK
