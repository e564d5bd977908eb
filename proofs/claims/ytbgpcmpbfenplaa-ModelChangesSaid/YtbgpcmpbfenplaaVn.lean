/-
  Contract of the plain map's differences.
-/
import Derived.Test.YtbgpcmpbfenplaaVm
namespace Go.Proofs.Ytbgpcmpbfenplaa.KK
open Go.ChangeShapes Go.WideShapes Go.ChangeAt Go.RowKit Go.Proofs
theorem grown_row {w w1 : World} {r : Option Nat} {B : Nat} {t : TypeId} {v0 v1 : Value} (h : w.grownBy w1 r) (g : Row2 w B t v0 v1) (hr : some B ≠ r) : Row2 w1 B t v0 v1 := (h.block B g.lt hr).trans g
theorem grown_ps {w w1 : World} {r : Option Nat} {A : Option Addr} {xs : List Pr} (h : w.grownBy w1 r) (g : PsAt w A xs) (hr : xs ≠ [] → ∀ a, A = some a → some a.block ≠ r) : PsAt w1 A xs := by
  by_cases hxs : xs = []
  · exact .inl hxs
  have hr := hr hxs
  rcases g with g | ⟨b, off, rfl, hlt, hc⟩
  · exact .inl g
  · refine .inr ⟨b, off, rfl, Nat.lt_of_lt_of_le hlt h.size, fun i hi => ?_⟩
    have e : ∀ o, w1.cell? ⟨b, o, none⟩ = w.cell? ⟨b, o, none⟩ := fun o => World.cell?_of_block (h.block b hlt (hr _ rfl))
    rw [e, e]; exact hc i hi
/-- two walks in memory -/
structure Two (w : World) (A1 A2 : Option Addr) (c1 c2 : Nat) (xs ys : List Pr) (B1 B2 i j : Nat) : Prop where
  r1 : Row2 w B1 89 (.slice A1 xs.length c1) (.int .i64 (i : Nat))
  r2 : Row2 w B2 89 (.slice A2 ys.length c2) (.int .i64 (j : Nat))
  p1 : PsAt w A1 xs
  p2 : PsAt w A2 ys
/-- what stays the same of two walks -/
structure Fix (A1 A2 : Option Addr) (xs ys : List Pr) (B1 B2 : Nat) : Prop where
  ne : B1 ≠ B2
  a1 : xs ≠ [] → ∀ a, A1 = some a → a.block ≠ B1 ∧ a.block ≠ B2
  a2 : ys ≠ [] → ∀ a, A2 = some a → a.block ≠ B1 ∧ a.block ≠ B2
  hx : xs.length ≤ 4000
  hy : ys.length ≤ 4000
section
variable {A1 A2 : Option Addr} {c1 c2 : Nat} {xs ys : List Pr} {B1 B2 i j : Nat} {w w1 : World}
theorem Two.below {N : Nat} (h : Two w A1 A2 c1 c2 xs ys B1 B2 i j) (hb : Below N w w1) (hN : w.heap.size ≤ N) : Two w1 A1 A2 c1 c2 xs ys B1 B2 i j :=
  ⟨h.r1.below hb hN, h.r2.below hb hN, h.p1.below hb hN, h.p2.below hb hN⟩
theorem Two.grown {r : Option Nat} (h : Two w A1 A2 c1 c2 xs ys B1 B2 i j) (hg : w.grownBy w1 r) {N : Nat} (hr : ∀ k, r = some k → N ≤ k) (h1 : B1 < N) (h2 : B2 < N) (hA1 : xs ≠ [] → ∀ a, A1 = some a → a.block < N) (hA2 : ys ≠ [] → ∀ a, A2 = some a → a.block < N) : Two w1 A1 A2 c1 c2 xs ys B1 B2 i j :=
  ⟨grown_row hg h.r1 (fun e => by have := hr _ e.symm; omega), grown_row hg h.r2 (fun e => by have := hr _ e.symm; omega),
   grown_ps hg h.p1 (fun z a e q => by have := hr _ q.symm; have := hA1 z a e; omega), grown_ps hg h.p2 (fun z a e q => by have := hr _ q.symm; have := hA2 z a e; omega)⟩
theorem Two.nx1 (h : Two w A1 A2 c1 c2 xs ys B1 B2 i j) (f : Fix A1 A2 xs ys B1 B2) (hi : i ≤ xs.length) :
    Calls Try.prog 54 #[.pointer (some ⟨B1, 0, none⟩)] w fun e w' => e = .returned (.tuple #[.agg #[.string (nxP xs i).1, .string (nxP xs i).2], .bool (decide (i < xs.length))]) ∧ Two w' A1 A2 c1 c2 xs ys B1 B2 (nxI xs i) j ∧ w.grownBy w' (some B1) := by
  refine (nxt_any A1 c1 xs B1 i w h.r1 h.p1 (fun z a e => (f.a1 z a e).1) (by have := f.hx; omega) hi).mono ?_
  rintro e w' ⟨rfl, hr, hg⟩
  refine ⟨rfl, ⟨hr, grown_row hg h.r2 (fun e => f.ne (by cases e; rfl)), grown_ps hg h.p1 (fun z a e q => (f.a1 z a e).1 (by cases q; rfl)), grown_ps hg h.p2 (fun z a e q => (f.a2 z a e).1 (by cases q; rfl))⟩, hg⟩
theorem Two.nx2 (h : Two w A1 A2 c1 c2 xs ys B1 B2 i j) (f : Fix A1 A2 xs ys B1 B2) (hj : j ≤ ys.length) :
    Calls Try.prog 54 #[.pointer (some ⟨B2, 0, none⟩)] w fun e w' => e = .returned (.tuple #[.agg #[.string (nxP ys j).1, .string (nxP ys j).2], .bool (decide (j < ys.length))]) ∧ Two w' A1 A2 c1 c2 xs ys B1 B2 i (nxI ys j) ∧ w.grownBy w' (some B2) := by
  refine (nxt_any A2 c2 ys B2 j w h.r2 h.p2 (fun z a e => (f.a2 z a e).2) (by have := f.hy; omega) hj).mono ?_
  rintro e w' ⟨rfl, hr, hg⟩
  refine ⟨rfl, ⟨grown_row hg h.r1 (fun e => f.ne (by cases e; rfl)), hr, grown_ps hg h.p1 (fun z a e q => (f.a1 z a e).2 (by cases q; rfl)), grown_ps hg h.p2 (fun z a e q => (f.a2 z a e).2 (by cases q; rfl))⟩, hg⟩
end
abbrev It := Int × ByteArray × ByteArray × ByteArray
def itC (x : It) : List Value := [.int .i64 x.1, .string x.2.1, .string x.2.2.1, .string x.2.2.2]
def cellsI (xs : List It) : List Value := xs.flatMap itC
theorem cellsI_snoc (xs : List It) (x : It) : cellsI (xs ++ [x]) = cellsI xs ++ itC x := by simp [cellsI]
def diffP : List Pr → List Pr → List It
  | [], [] => []
  | x :: xs, [] => (2, x.1, x.2, ⟨#[]⟩) :: diffP xs []
  | [], y :: ys => (1, y.1, ⟨#[]⟩, y.2) :: diffP [] ys
  | x :: xs, y :: ys =>
    if Kl.lt (Kl.L x.1) (Kl.L y.1) = true then (2, x.1, x.2, ⟨#[]⟩) :: diffP xs (y :: ys)
    else if Kl.lt (Kl.L y.1) (Kl.L x.1) = true then (1, y.1, ⟨#[]⟩, y.2) :: diffP (x :: xs) ys
    else (if x.2 = y.2 then [] else [(3, x.1, x.2, y.2)]) ++ diffP xs ys
termination_by xs ys => xs.length + ys.length
/-- where things lie while the differences are found -/
structure Geo (w : World) (A1 A2 : Option Addr) (xs ys : List Pr) (B1 B2 Ba Bb N : Nat) : Prop where
  f : Fix A1 A2 xs ys B1 B2
  h1 : B1 < w.heap.size
  h2 : B2 < w.heap.size
  b1 : xs ≠ [] → ∀ a, A1 = some a → a.block < w.heap.size
  b2 : ys ≠ [] → ∀ a, A2 = some a → a.block < w.heap.size
  ha : w.heap.size ≤ Ba
  hb : w.heap.size ≤ Bb
  ne : Ba ≠ Bb
  n1 : N ≤ B1
  n2 : N ≤ B2
structure St (w : World) (A1 A2 : Option Addr) (c1 c2 : Nat) (xs ys : List Pr) (B1 B2 Ba Bb N : Nat) (wr : World) (l : Value) (ls : List It) (i j : Nat) (a b : Pr) : Prop where
  own : wr.ownsRow w.heap.size 74 4 l ls.length (cellsI ls)
  two : Two wr A1 A2 c1 c2 xs ys B1 B2 i j
  ra : Row2 wr Ba 31 (.string a.1) (.string a.2)
  rb : Row2 wr Bb 31 (.string b.1) (.string b.2)
  bel : Below N w wr
theorem own_row_ne {W : World} {B base n size : Nat} {t e : TypeId} {v u0 u1 : Value} {zs : List Value} (h : Row2 W B t u0 u1) (hte : t ≠ e) (hr : W.ownsRow base e size v n zs) : some B ≠ v.ownBlock := by
  rcases hr.2 with ⟨rfl, _⟩ | ⟨g, cap, cur, rfl, _, hgb, _⟩
  · simp [Value.ownBlock]
  · intro e'
    obtain rfl : B = g := by simpa [Value.ownBlock] using e'
    have := (show W.heap[B]? = _ from h).symm.trans hgb
    simp at this
    exact hte this.2
section
variable {w : World} {A1 A2 : Option Addr} {c1 c2 : Nat} {xs ys : List Pr} {B1 B2 Ba Bb N : Nat} {wr w1 : World} {l l1 : Value} {ls : List It} {i j : Nat} {a b : Pr}
theorem St.alloc (s : St w A1 A2 c1 c2 xs ys B1 B2 Ba Bb N wr l ls i j a b) (hN : N ≤ w.heap.size) (o : Obj) : St w A1 A2 c1 c2 xs ys B1 B2 Ba Bb N (wr.alloc o) l ls i j a b :=
  ⟨own_base' (row := none) s.own (grown_of_below' (alloc_below wr o)) (fun r h => by cases h), s.two.below (alloc_below wr o) (Nat.le_refl _), s.ra.below (alloc_below wr o) (Nat.le_refl _), s.rb.below (alloc_below wr o) (Nat.le_refl _),
   s.bel.trans ((alloc_below wr o).mono (Nat.le_trans hN s.bel.size))⟩
theorem St.app (s : St w A1 A2 c1 c2 xs ys B1 B2 Ba Bb N wr l ls i j a b) (g : Geo w A1 A2 xs ys B1 B2 Ba Bb N) {x : It} (ho : w1.ownsRow w.heap.size 74 4 l1 (ls.length + 1) (cellsI ls ++ itC x)) (hg : wr.grownBy w1 l.ownBlock) : St w A1 A2 c1 c2 xs ys B1 B2 Ba Bb N w1 l1 (ls ++ [x]) i j a b := by
  refine ⟨by rw [cellsI_snoc, List.length_append]; exact ho, s.two.grown hg (N := w.heap.size) (fun k e => (s.own.lt k e).1) g.h1 g.h2 g.b1 g.b2, grown_row hg s.ra (own_row_ne s.ra (by decide) s.own), grown_row hg s.rb (own_row_ne s.rb (by decide) s.own), ?_⟩
  have hN := g.n1
  have h1 := g.h1
  exact s.bel.trans ⟨hg.os, hg.tape, hg.output, hg.size, fun k hk => hg.block k (Nat.lt_of_lt_of_le hk (Nat.le_trans (by omega) s.bel.size)) (fun e => by have := (s.own.lt k e.symm).1; omega)⟩
theorem own_grown {base n size : Nat} {e : TypeId} {v : Value} {zs : List Value} {r : Nat} (h : wr.ownsRow base e size v n zs) (hg : wr.grownBy w1 (some r)) (hr : r < base) : w1.ownsRow base e size v n zs :=
  own_base' h hg (fun k e => by cases e; exact hr)
theorem bel_grown {r : Nat} (h : Below N w wr) (hg : wr.grownBy w1 (some r)) (hr : N ≤ r) (hN : N ≤ w.heap.size) : Below N w w1 :=
  h.trans ⟨hg.os, hg.tape, hg.output, hg.size, fun k hk => hg.block k (Nat.lt_of_lt_of_le hk (Nat.le_trans hN h.size)) (fun e => by cases e; omega)⟩
theorem St.went1 (s : St w A1 A2 c1 c2 xs ys B1 B2 Ba Bb N wr l ls i j a b) (g : Geo w A1 A2 xs ys B1 B2 Ba Bb N) {i' : Nat} (ht : Two w1 A1 A2 c1 c2 xs ys B1 B2 i' j) (hg : wr.grownBy w1 (some B1)) : St w A1 A2 c1 c2 xs ys B1 B2 Ba Bb N w1 l ls i' j a b :=
  have h1 := g.h1; have h2 := g.ha; have h3 := g.hb; have h4 := g.n1
  ⟨own_grown s.own hg g.h1, ht, grown_row hg s.ra (fun e => by cases e; omega), grown_row hg s.rb (fun e => by cases e; omega), bel_grown s.bel hg g.n1 (by omega)⟩
theorem St.went2 (s : St w A1 A2 c1 c2 xs ys B1 B2 Ba Bb N wr l ls i j a b) (g : Geo w A1 A2 xs ys B1 B2 Ba Bb N) {j' : Nat} (ht : Two w1 A1 A2 c1 c2 xs ys B1 B2 i j') (hg : wr.grownBy w1 (some B2)) : St w A1 A2 c1 c2 xs ys B1 B2 Ba Bb N w1 l ls i j' a b :=
  have h1 := g.h2; have h2 := g.ha; have h3 := g.hb; have h4 := g.n2
  ⟨own_grown s.own hg g.h2, ht, grown_row hg s.ra (fun e => by cases e; omega), grown_row hg s.rb (fun e => by cases e; omega), bel_grown s.bel hg g.n2 (by omega)⟩
theorem Two.set {Bx : Nat} (h : Two wr A1 A2 c1 c2 xs ys B1 B2 i j) {M : Nat} (hM : M ≤ Bx) (h1 : B1 < M) (h2 : B2 < M) (hA1 : xs ≠ [] → ∀ a, A1 = some a → a.block < M) (hA2 : ys ≠ [] → ∀ a, A2 = some a → a.block < M) (o : Nat) (u : Value) : Two (wr.setCell ⟨Bx, o, none⟩ u) A1 A2 c1 c2 xs ys B1 B2 i j :=
  h.grown (grown_set u) (N := M) (fun k e => by cases e; exact hM) h1 h2 hA1 hA2
theorem St.seta (s : St w A1 A2 c1 c2 xs ys B1 B2 Ba Bb N wr l ls i j a b) (g : Geo w A1 A2 xs ys B1 B2 Ba Bb N) (p : Pr) : St w A1 A2 c1 c2 xs ys B1 B2 Ba Bb N ((wr.setCell ⟨Ba, 0, none⟩ (.string p.1)).setCell ⟨Ba, 1, none⟩ (.string p.2)) l ls i j p b :=
  ⟨ownsRow_setCell_other (ownsRow_setCell_other s.own (a := ⟨Ba, 0, none⟩) (fun e => own_row_ne s.ra (by decide) s.own e.symm) _) (a := ⟨Ba, 1, none⟩) (fun e => own_row_ne s.ra (by decide) s.own e.symm) _,
   (s.two.set g.ha g.h1 g.h2 g.b1 g.b2 _ _).set g.ha g.h1 g.h2 g.b1 g.b2 _ _, s.ra.set, (s.rb.other g.ne _ _).other g.ne _ _,
   set2_below s.bel (by have := g.n1; have := g.h1; have := g.ha; omega) _ _⟩
theorem St.setb (s : St w A1 A2 c1 c2 xs ys B1 B2 Ba Bb N wr l ls i j a b) (g : Geo w A1 A2 xs ys B1 B2 Ba Bb N) (p : Pr) : St w A1 A2 c1 c2 xs ys B1 B2 Ba Bb N ((wr.setCell ⟨Bb, 0, none⟩ (.string p.1)).setCell ⟨Bb, 1, none⟩ (.string p.2)) l ls i j a p :=
  ⟨ownsRow_setCell_other (ownsRow_setCell_other s.own (a := ⟨Bb, 0, none⟩) (fun e => own_row_ne s.rb (by decide) s.own e.symm) _) (a := ⟨Bb, 1, none⟩) (fun e => own_row_ne s.rb (by decide) s.own e.symm) _,
   (s.two.set g.hb g.h1 g.h2 g.b1 g.b2 _ _).set g.hb g.h1 g.h2 g.b1 g.b2 _ _, (s.ra.other g.ne.symm _ _).other g.ne.symm _ _, s.rb.set,
   set2_below s.bel (by have := g.n1; have := g.h1; have := g.hb; omega) _ _⟩
end
end Go.Proofs.Ytbgpcmpbfenplaa.KK
