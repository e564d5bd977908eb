/-
  One list over another, plainly: who is in it, in which order; two lists that ascend and hold the same are one.
-/
import Derived.Test.YtmobjpmkenpckaaDoorQe
namespace Go.Proofs.YtmobjpmkenpckaaDoor.KK
open Go.ChangeShapes Go.WideShapes Go.ChangeAt Go.RowKit Go.Proofs Go.Sort

def kl (x y : El.En) : Bool := Kl.lt (Kl.L x.1) (Kl.L y.1)
/-- keys ascend, none twice -/
def SK (l : List El.En) : Prop := l.Pairwise fun x y => kl x y = true
theorem kl_trans {x y z : El.En} (h : kl x y = true) (g : kl y z = true) : kl x z = true := Kl.lt_trans h g
theorem kl_irr (x : El.En) : kl x x = false := Kl.lt_irrefl _
theorem kl_ne {x y : El.En} (h : kl x y = true) : x.1 ≠ y.1 := fun e => by
  unfold kl at h; rw [e, Kl.lt_irrefl] at h; cases h
theorem kl_asymm {x y : El.En} (h : kl x y = true) : kl y x = false := Kl.lt_asymm h
theorem kl_or {x y : El.En} (h : kl x y = false) (g : x.1 ≠ y.1) : kl y x = true := by
  cases q : kl y x with
  | true => rfl
  | false => exact absurd (El.key_eq.1 (Kl.lt_total h q)) g
theorem SK.ext : ∀ {l m : List El.En}, SK l → SK m → (∀ x, x ∈ l ↔ x ∈ m) → l = m
  | [], [], _, _, _ => rfl
  | [], y :: m, _, _, h => by have := (h y).2 (by simp); simp at this
  | x :: l, [], _, _, h => by have := (h x).1 (by simp); simp at this
  | x :: l, y :: m, hl, hm, h => by
    obtain ⟨hx, hl'⟩ := List.pairwise_cons.1 hl
    obtain ⟨hy, hm'⟩ := List.pairwise_cons.1 hm
    have e : x = y := by
      rcases List.mem_cons.1 ((h x).1 (by simp)) with e | e
      · exact e
      · rcases List.mem_cons.1 ((h y).2 (by simp)) with g | g
        · exact g.symm
        · have := kl_asymm (hy x e); rw [hx y g] at this; cases this
    subst e
    congr 1
    refine SK.ext hl' hm' fun z => ⟨fun hz => ?_, fun hz => ?_⟩
    · rcases List.mem_cons.1 ((h z).1 (List.mem_cons_of_mem _ hz)) with e | e
      · subst e; have := hx z hz; rw [kl_irr] at this; cases this
      · exact e
    · rcases List.mem_cons.1 ((h z).2 (List.mem_cons_of_mem _ hz)) with e | e
      · subst e; have := hy z hz; rw [kl_irr] at this; cases this
      · exact e
/-- one list over another, head by head -/
def ovr : List El.En → List El.En → List El.En
  | [], f => f
  | a :: o, [] => a :: o
  | a :: o, x :: f => if kl a x = true then a :: ovr o (x :: f) else if a.1 = x.1 then x :: ovr o f else x :: ovr (a :: o) f
termination_by o f => o.length + f.length
theorem ovr_mem (o f : List El.En) : SK o → SK f → ∀ y, y ∈ ovr o f ↔ y ∈ f ∨ (y ∈ o ∧ ∀ z ∈ f, z.1 ≠ y.1) := by
  induction o, f using ovr.induct with
  | case1 f => intro _ _ y; rw [ovr]; simp
  | case2 a o => intro _ _ y; rw [ovr]; simp
  | case3 a o x f h ih =>
    intro ho hf y
    obtain ⟨ha, ho'⟩ := List.pairwise_cons.1 ho
    obtain ⟨hx, hf'⟩ := List.pairwise_cons.1 hf
    rw [ovr, if_pos h, List.mem_cons, ih ho' hf y]
    constructor
    · rintro (rfl | g | ⟨g1, g2⟩)
      · refine .inr ⟨by simp, fun z hz => ?_⟩
        rcases List.mem_cons.1 hz with rfl | hz
        · exact (kl_ne h).symm
        · exact (kl_ne (kl_trans h (hx z hz))).symm
      · exact .inl g
      · exact .inr ⟨List.mem_cons_of_mem _ g1, g2⟩
    · rintro (g | ⟨g1, g2⟩)
      · exact .inr (.inl g)
      · rcases List.mem_cons.1 g1 with rfl | g1
        · exact .inl rfl
        · exact .inr (.inr ⟨g1, g2⟩)
  | case4 a o x f h e ih =>
    intro ho hf y
    obtain ⟨ha, ho'⟩ := List.pairwise_cons.1 ho
    obtain ⟨hx, hf'⟩ := List.pairwise_cons.1 hf
    rw [ovr, if_neg h, if_pos e, List.mem_cons, ih ho' hf' y]
    constructor
    · rintro (rfl | g | ⟨g1, g2⟩)
      · exact .inl (by simp)
      · exact .inl (List.mem_cons_of_mem _ g)
      · refine .inr ⟨List.mem_cons_of_mem _ g1, fun z hz => ?_⟩
        rcases List.mem_cons.1 hz with rfl | hz
        · rw [← e]; exact kl_ne (ha y g1)
        · exact g2 z hz
    · rintro (g | ⟨g1, g2⟩)
      · rcases List.mem_cons.1 g with rfl | g
        · exact .inl rfl
        · exact .inr (.inl g)
      · rcases List.mem_cons.1 g1 with rfl | g1
        · exact absurd e.symm (g2 x (by simp))
        · exact .inr (.inr ⟨g1, fun z hz => g2 z (List.mem_cons_of_mem _ hz)⟩)
  | case5 a o x f h e ih =>
    intro ho hf y
    obtain ⟨ha, ho'⟩ := List.pairwise_cons.1 ho
    obtain ⟨hx, hf'⟩ := List.pairwise_cons.1 hf
    have hxa := kl_or (by simpa using h) e
    rw [ovr, if_neg h, if_neg e, List.mem_cons, ih ho hf' y]
    constructor
    · rintro (rfl | g | ⟨g1, g2⟩)
      · exact .inl (by simp)
      · exact .inl (List.mem_cons_of_mem _ g)
      · refine .inr ⟨g1, fun z hz => ?_⟩
        rcases List.mem_cons.1 hz with rfl | hz
        · rcases List.mem_cons.1 g1 with rfl | g1
          · exact kl_ne hxa
          · exact kl_ne (kl_trans hxa (ha y g1))
        · exact g2 z hz
    · rintro (g | ⟨g1, g2⟩)
      · rcases List.mem_cons.1 g with rfl | g
        · exact .inl rfl
        · exact .inr (.inl g)
      · exact .inr (.inr ⟨g1, fun z hz => g2 z (List.mem_cons_of_mem _ hz)⟩)
theorem ovr_sk (o f : List El.En) : SK o → SK f → SK (ovr o f) := by
  induction o, f using ovr.induct with
  | case1 f => intro _ h; rw [ovr]; exact h
  | case2 a o => intro h _; rw [ovr]; exact h
  | case3 a o x f h ih =>
    intro ho hf
    obtain ⟨ha, ho'⟩ := List.pairwise_cons.1 ho
    rw [ovr, if_pos h]
    refine List.pairwise_cons.2 ⟨fun y hy => ?_, ih ho' hf⟩
    rcases (ovr_mem _ _ ho' hf y).1 hy with g | ⟨g, _⟩
    · rcases List.mem_cons.1 g with rfl | g
      · exact h
      · exact kl_trans h ((List.pairwise_cons.1 hf).1 y g)
    · exact ha y g
  | case4 a o x f h e ih =>
    intro ho hf
    obtain ⟨ha, ho'⟩ := List.pairwise_cons.1 ho
    obtain ⟨hx, hf'⟩ := List.pairwise_cons.1 hf
    rw [ovr, if_neg h, if_pos e]
    refine List.pairwise_cons.2 ⟨fun y hy => ?_, ih ho' hf'⟩
    rcases (ovr_mem _ _ ho' hf' y).1 hy with g | ⟨g, _⟩
    · exact hx y g
    · have := ha y g
      unfold kl at this ⊢
      rw [← e]; exact this
  | case5 a o x f h e ih =>
    intro ho hf
    obtain ⟨ha, ho'⟩ := List.pairwise_cons.1 ho
    obtain ⟨hx, hf'⟩ := List.pairwise_cons.1 hf
    have hxa := kl_or (by simpa using h) e
    rw [ovr, if_neg h, if_neg e]
    refine List.pairwise_cons.2 ⟨fun y hy => ?_, ih ho hf'⟩
    rcases (ovr_mem _ _ ho hf' y).1 hy with g | ⟨g, _⟩
    · exact hx y g
    · rcases List.mem_cons.1 g with rfl | g
      · exact hxa
      · exact kl_trans hxa (ha y g)
/-- the reference's way: each old one put in where it belongs -/
theorem put_in {m : List El.En} {x : El.En} {k : Nat} (hm : SK m) (h1 : ∀ y ∈ m.take k, kl y x = true) (h2 : ∀ y ∈ m.drop k, kl x y = true) : SK (m.take k ++ x :: m.drop k) ∧ ∀ y, y ∈ m.take k ++ x :: m.drop k ↔ y = x ∨ y ∈ m := by
  constructor
  · refine List.pairwise_append.2 ⟨hm.sublist (List.take_sublist k m), List.pairwise_cons.2 ⟨h2, hm.sublist (List.drop_sublist k m)⟩, fun a ha b hb => ?_⟩
    rcases List.mem_cons.1 hb with rfl | hb
    · exact h1 a ha
    · exact kl_trans (h1 a ha) (h2 b hb)
  · intro y
    have e : y ∈ m ↔ y ∈ m.take k ∨ y ∈ m.drop k := by
      rw [← List.mem_append, List.take_append_drop]
    rw [e]; simp only [List.mem_append, List.mem_cons]
    constructor
    · rintro (g | g | g) <;> simp [g]
    · rintro (g | g | g) <;> simp [g]
/-- where the search from the right ends, all before are smaller -/
theorem put_at {m : List El.En} {x : El.En} {k : Nat} (hm : SK m) (hk : k < m.length) (h : kl x m[k] = false) (hne : ∀ y ∈ m, y.1 ≠ x.1) : ∀ y ∈ m.take (k + 1), kl y x = true := by
  have h0 : kl m[k] x = true := kl_or h (hne _ (List.getElem_mem hk)).symm
  intro y hy
  obtain ⟨j, hj, rfl⟩ := List.getElem_of_mem hy
  rw [List.length_take] at hj
  rw [List.getElem_take]
  by_cases e : j = k
  · subst e; exact h0
  · exact kl_trans (List.pairwise_iff_getElem.1 hm j k (by omega) hk (by omega)) h0
/-- the laws of layers -/
theorem ovr_assoc {x y z : List El.En} (hx : SK x) (hy : SK y) (hz : SK z) : ovr (ovr x y) z = ovr x (ovr y z) := by
  refine SK.ext (ovr_sk _ _ (ovr_sk _ _ hx hy) hz) (ovr_sk _ _ hx (ovr_sk _ _ hy hz)) fun a => ?_
  rw [ovr_mem _ _ (ovr_sk _ _ hx hy) hz, ovr_mem _ _ hx hy, ovr_mem _ _ hx (ovr_sk _ _ hy hz), ovr_mem _ _ hy hz]
  constructor
  · rintro (g | ⟨g | ⟨g1, g2⟩, g3⟩)
    · exact .inl (.inl g)
    · exact .inl (.inr ⟨g, g3⟩)
    · refine .inr ⟨g1, fun b hb => ?_⟩
      rcases (ovr_mem _ _ hy hz b).1 hb with q | ⟨q, _⟩
      · exact g3 b q
      · exact g2 b q
  · rintro ((g | ⟨g1, g2⟩) | ⟨g1, g2⟩)
    · exact .inl g
    · exact .inr ⟨.inl g1, g2⟩
    · have h3 : ∀ b ∈ z, b.1 ≠ a.1 := fun b hb => g2 b ((ovr_mem _ _ hy hz b).2 (.inl hb))
      refine .inr ⟨.inr ⟨g1, fun b hb => ?_⟩, h3⟩
      intro e
      by_cases q : ∀ c ∈ z, c.1 ≠ b.1
      · exact g2 b ((ovr_mem _ _ hy hz b).2 (.inr ⟨hb, q⟩)) e
      · exact q fun c hc => by rw [e]; exact h3 c hc
theorem ovr_self {x : List El.En} (hx : SK x) : ovr x x = x := by
  refine SK.ext (ovr_sk _ _ hx hx) hx fun a => ?_
  rw [ovr_mem _ _ hx hx]
  exact ⟨fun g => g.elim id (fun g => g.1), .inl⟩
theorem ovr_nil_left (x : List El.En) : ovr [] x = x := by rw [ovr]
theorem ovr_nil_right (x : List El.En) : ovr x [] = x := by cases x <;> rw [ovr]
end Go.Proofs.YtmobjpmkenpckaaDoor.KK
