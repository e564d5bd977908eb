/-
  Two builders that share entries: what is done with one of both changes nothing of the other.
-/
import Derived.Test.YtkphadkmmjcmnaaBn
namespace Go.Proofs.Ytkphadkmmjcmnaa.KK
open Go.ChangeShapes Go.WideShapes Go.ChangeAt Go.RowKit Go.Proofs

theorem Rv.blt {w : World} {base : Nat} {v : Value} {ys : List El.En} {wb : Option Nat} (h : Rv w base v ys wb) : ∀ g, v.ownBlock = some g → g < w.heap.size := by
  intro g hg
  rcases h with ⟨_, _, h⟩ | ⟨_, h0, g2, rfl, h⟩
  · exact (h.lt g hg).2
  · injection hg with hg; subst hg
    obtain ⟨b, off, e, hb, _⟩ := h.cells h0
    injection e with e; injection e with e; subst e; exact hb
theorem Rv.wown {w : World} {base : Nat} {v : Value} {ys : List El.En} {wb : Option Nat} (h : Rv w base v ys wb) : ∀ g, wb = some g → v.ownBlock = some g ∧ ∃ c, v = .slice (some ⟨g, 0, none⟩) ys.length c := by
  intro g hg
  rcases h with ⟨e, _, h⟩ | ⟨e, _⟩
  · rw [e] at hg
    refine ⟨hg, ?_⟩
    rcases h.2 with ⟨rfl, _⟩ | ⟨g2, cap, _, rfl, _⟩
    · cases hg
    · injection hg with hg; subst hg; exact ⟨cap, rfl⟩
  · rw [e] at hg; cases hg
theorem Rv.shared {w : World} {base : Nat} {v : Value} {ys : List El.En} (h : Rv w base v ys none) : ∀ g, v.ownBlock = some g → ys ≠ [] ∧ v = .slice (some ⟨g, 0, none⟩) ys.length ys.length ∧ EsAt w (some ⟨g, 0, none⟩) ys := by
  intro g hg
  rcases h with ⟨e, _, _⟩ | ⟨_, h0, g2, rfl, h⟩
  · rw [hg] at e; cases e
  · injection hg with hg; subst hg; exact ⟨h0, rfl, h⟩
/-- two builders, of which the second one may be a fork of the first -/
structure Two (base M1 M2 most : Nat) (xs ys : List El.En) (w : World) (v1 : Value) (wb1 : Option Nat) (v2 : Value) (wb2 : Option Nat) : Prop where
  h1 : Hold base M1 most 1 xs w v1 wb1
  h2 : Hold base M2 most 1 ys w v2 wb2
  ne : M1 ≠ M2
  a : ∀ g, wb2 = some g → v1.ownBlock ≠ some g
  b : ∀ g, wb1 = some g → v2.ownBlock = some g → wb2 = none ∧ ∃ t, xs = ys ++ t
theorem Two.below {base M1 M2 most : Nat} {xs ys : List El.En} {w w' : World} {v1 v2 : Value} {wb1 wb2 : Option Nat} (h : Two base M1 M2 most xs ys w v1 wb1 v2 wb2) (hb : Below w.heap.size w w') : Two base M1 M2 most xs ys w' v1 wb1 v2 wb2 :=
  ⟨h.h1.below hb, h.h2.below hb, h.ne, h.a, h.b⟩
/-- something is added to the second one -/
theorem Two.add2 {base M1 M2 most : Nat} {xs ys zs : List El.En} {w w' : World} {v1 v2 : Value} {wb1 wb2 : Option Nat} (h : Two base M1 M2 most xs ys w v1 wb1 v2 wb2) (ho : AddOut base M2 most 1 v2 wb2 ys w w' zs) :
    ∃ v2' wb2', Two base M1 M2 most xs zs w' v1 wb1 v2' wb2' := by
  have hb := ho.below h.h2.m h.h2.r h.h2.s
  obtain ⟨v', wb', k1, k2, k3, k4, k5, k6, k7⟩ := ho
  refine ⟨v', wb', ⟨h.h1.d.chg k3 ?_, h.h1.r.chg k3 ?_, h.h1.m, Nat.le_trans h.h1.s hb.size⟩, ⟨k1, k2, h.h2.m, Nat.le_trans h.h2.s hb.size⟩, h.ne, ?_, ?_⟩
  · rintro (e | e)
    · exact h.ne e
    · exact h.h2.r.notB h.h1.d e.symm
  · rintro A n c hv (e | e)
    · exact h.h1.r.notM h.h2.d n c A hv e
    · exact h.a _ e.symm (by rw [hv]; rfl)
  · intro g hg hv
    rcases k4 with e | ⟨g2, e, e2⟩
    · exact h.a g (e ▸ hg) hv
    · rw [e] at hg; injection hg with hg; subst hg
      have := h.h1.r.blt _ hv; omega
  · intro g hg hv
    have hlt := (h.h1.r.wlt g hg).2
    rcases k5 g hv with e | e
    · obtain ⟨e1, e2⟩ := h.b g hg e
      cases hw : wb' with
      | none =>
        obtain ⟨_, rfl⟩ := k7 hw
        exact ⟨rfl, e2⟩
      | some g2 =>
        exfalso
        have := (k2.wown g2 hw).1
        rw [hv] at this; injection this with this; subst this
        rcases k4 with e3 | ⟨g3, e3, e4⟩
        · rw [e1, hw] at e3; cases e3
        · rw [hw] at e3; injection e3 with e3; omega
    · omega
/-- something is added to the first one -/
theorem Two.add1 {base M1 M2 most : Nat} {xs ys zs : List El.En} {w w' : World} {v1 v2 : Value} {wb1 wb2 : Option Nat} (h : Two base M1 M2 most xs ys w v1 wb1 v2 wb2) (ho : AddOut base M1 most 1 v1 wb1 xs w w' zs) (hz : ∃ t, zs = xs ++ t) :
    ∃ v1' wb1', Two base M1 M2 most zs ys w' v1' wb1' v2 wb2 ∧ (wb1' = wb1 ∨ ∃ g, wb1' = some g ∧ w.heap.size ≤ g) := by
  have hb := ho.below h.h1.m h.h1.r h.h1.s
  obtain ⟨v', wb', k1, k2, k3, k4, k5, k6, k7⟩ := ho
  have hR2 : Rv w' base v2 ys wb2 := by
    by_cases hs : ∃ g, wb1 = some g ∧ v2.ownBlock = some g
    · obtain ⟨g, hg, hv⟩ := hs
      obtain ⟨e1, t, e2⟩ := h.b g hg hv
      subst e1
      obtain ⟨h0, hv2, _⟩ := h.h2.r.shared g hv
      obtain ⟨_, c, hv1⟩ := h.h1.r.wown g hg
      have := k6 _ _ _ hv1
      rw [e2] at this
      exact .inr ⟨rfl, h0, g, hv2, this.pre⟩
    · refine h.h2.r.chg k3 ?_
      rintro A n c hv (e | e)
      · exact h.h2.r.notM h.h1.d n c A hv e
      · exact hs ⟨_, e.symm, by rw [hv]; rfl⟩
  refine ⟨v', wb', ⟨⟨k1, k2, h.h1.m, Nat.le_trans h.h1.s hb.size⟩, ⟨h.h2.d.chg k3 ?_, hR2, h.h2.m, Nat.le_trans h.h2.s hb.size⟩, h.ne, ?_, ?_⟩, k4⟩
  · rintro (e | e)
    · exact h.ne e.symm
    · exact h.h1.r.notB h.h2.d e.symm
  · intro g hg hv
    have hlt := (h.h2.r.wlt g hg).2
    rcases k5 g hv with e | e
    · exact h.a g hg e
    · omega
  · intro g hg hv
    have hlt := h.h2.r.blt g hv
    rcases k4 with e | ⟨g2, e, e2⟩
    · obtain ⟨e1, t, e3⟩ := h.b g (e ▸ hg) hv
      obtain ⟨t2, hz⟩ := hz
      exact ⟨e1, t ++ t2, by rw [hz, e3, List.append_assoc]⟩
    · rw [e] at hg; injection hg with hg; omega
theorem AddOut.row {base M most : Nat} {st : Int} {v : Value} {wb : Option Nat} {xs ys : List El.En} {w w' : World} {B : Nat} {t : TypeId} {v0 v1 v2 v3 : Value} (ho : AddOut base M most st v wb xs w w' ys) (h : Row4 w B t v0 v1 v2 v3) (hM : B ≠ M) (hb : wb ≠ some B) : Row4 w' B t v0 v1 v2 v3 := by
  obtain ⟨_, _, _, _, k3, _⟩ := ho
  refine (k3.block B h.lt ?_).trans h
  rintro (e | e)
  · exact hM e
  · exact hb e.symm
/-- the entry that is added to the origin -/
def flipE (x : El.En) : El.En := if x.2.2.1 = true then (x.1, ⟨#[120]⟩, false, x.2.2.2) else (x.1, ⟨#[]⟩, true, x.2.2.2)
theorem flip_key (x : El.En) : (flipE x).1 = x.1 := by unfold flipE; split <;> rfl
theorem flip_dead (x : El.En) : (flipE x).2.2.1 = !x.2.2.1 := by
  unfold flipE; split
  · rename_i h; rw [h]; rfl
  · rename_i h; rw [Bool.not_eq_true] at h; rw [h]; rfl
theorem flip_ne (x : El.En) : x ≠ flipE x := fun e => by
  have := flip_dead x
  rw [← e] at this
  cases h : x.2.2.1 <;> rw [h] at this <;> cases this
theorem flip_chk {x : El.En} (h : El.chk x = 0) : El.chk (flipE x) = 0 := by
  obtain ⟨h1, h2, h3, h4, h5⟩ := El.chk_of h
  unfold flipE; split
  · exact El.chk_ok (by omega) (by show ¬ 64 < 1; omega) (fun ⟨e, _⟩ => by cases e) (by omega)
  · exact El.chk_ok (by omega) (by show ¬ 64 < 0; omega) (fun ⟨_, e⟩ => e rfl) (by omega)
/-- a list of a fork, and of its origin, to which the other entries were added -/
def Rel (x0 F G : List El.En) : Prop := ∃ R, F = x0 ++ R ∧ G = x0 ++ R.map flipE
theorem Rel.refl (x0 : List El.En) : Rel x0 x0 x0 := ⟨[], by simp, by simp⟩
theorem Rel.len {x0 F G : List El.En} (h : Rel x0 F G) : F.length = G.length := by
  obtain ⟨R, rfl, rfl⟩ := h; simp
theorem Rel.le {x0 F G : List El.En} (h : Rel x0 F G) : x0.length ≤ F.length := by
  obtain ⟨R, rfl, rfl⟩ := h; simp
theorem Rel.key {x0 F G : List El.En} (h : Rel x0 F G) {i : Nat} (hi : i < F.length) (hj : i < G.length) : F[i].1 = G[i].1 := by
  obtain ⟨R, rfl, rfl⟩ := h
  by_cases hx : i < x0.length
  · rw [List.getElem_append_left hx, List.getElem_append_left hx]
  · rw [List.getElem_append_right (by omega), List.getElem_append_right (by omega), List.getElem_map, flip_key]
theorem Rel.eq {x0 F G : List El.En} (h : Rel x0 F G) {i : Nat} (hi : i < F.length) (hj : i < G.length) : (F[i] = G[i]) ↔ i < x0.length := by
  obtain ⟨R, rfl, rfl⟩ := h
  by_cases hx : i < x0.length
  · rw [List.getElem_append_left hx, List.getElem_append_left hx]; simp [hx]
  · rw [List.getElem_append_right (by omega), List.getElem_append_right (by omega), List.getElem_map]
    exact ⟨fun e => absurd e (flip_ne _), fun e => absurd e hx⟩
theorem Rel.dead {x0 F G : List El.En} (h : Rel x0 F G) {i : Nat} (hi : i < F.length) (hj : i < G.length) (hx : ¬ i < x0.length) : G[i].2.2.1 = !F[i].2.2.1 := by
  obtain ⟨R, rfl, rfl⟩ := h
  rw [List.getElem_append_right (by omega), List.getElem_append_right (by omega), List.getElem_map, flip_dead]
theorem Rel.nil {x0 F G : List El.En} (h : Rel x0 F G) : F = [] ↔ G = [] := by
  have := h.len
  constructor
  · intro e; rw [e] at this; exact List.eq_nil_of_length_eq_zero this.symm
  · intro e; rw [e] at this; exact List.eq_nil_of_length_eq_zero this
theorem Rel.lastKey {x0 F G : List El.En} (h : Rel x0 F G) : (lastE F).1 = (lastE G).1 := by
  by_cases hF : F = []
  · rw [hF, h.nil.1 hF]
  · have hp : 0 < F.length := List.length_pos_iff.2 hF
    have hl := h.len
    rw [lastE_succ (k := F.length - 1) (by omega), lastE_succ (k := F.length - 1) (xs := G) (by omega)]
    exact h.key (by omega) (by omega)
theorem Rel.adds {x0 F G : List El.En} (h : Rel x0 F G) {most : Nat} {x : El.En} (hx : El.chk x = 0) : addE most G (flipE x) = addE most F x := by
  unfold addE
  rw [hx, flip_chk hx, flip_key, h.len, h.lastKey]
  simp only [ne_eq, not_true_eq_false, if_false, h.nil]
theorem Rel.step {x0 F G : List El.En} (h : Rel x0 F G) {most : Nat} {x : El.En} (hx : El.chk x = 0) : Rel x0 (addL most F x) (addL most G (flipE x)) := by
  unfold addL
  rw [h.adds hx]
  by_cases e : addE most F x = 0
  · rw [if_pos e, if_pos e]
    obtain ⟨R, rfl, rfl⟩ := h
    exact ⟨R ++ [x], by simp, by simp⟩
  · rw [if_neg e, if_neg e]; exact h
theorem addL_bad {most : Nat} {F : List El.En} {x : El.En} (hx : El.chk x ≠ 0) : addL most F x = F := by
  unfold addL; rw [if_neg (by rw [addE_chk hx]; exact hx)]
theorem addL_ext (most : Nat) (F : List El.En) (x : El.En) : ∃ t, addL most F x = F ++ t := by
  unfold addL; split
  · exact ⟨[x], rfl⟩
  · exact ⟨[], by simp⟩
/-- what comes of adding entries one by one -/
def addsL (most : Nat) (xs l : List El.En) : List El.En := l.foldl (addL most) xs
theorem addsL_snoc (most : Nat) (xs l : List El.En) (x : El.En) : addsL most xs (l ++ [x]) = addL most (addsL most xs l) x := by simp [addsL]
theorem adds_next (most : Nat) (xs zs : List El.En) {k i : Nat} (hk : k ≤ i) (hi : i < zs.length) : addsL most xs ((zs.take (i + 1)).drop k) = addL most (addsL most xs ((zs.take i).drop k)) zs[i] := by
  rw [← addsL_snoc]
  congr 1
  rw [List.take_succ_eq_append_getElem hi, List.drop_append_of_le_length (by rw [List.length_take]; omega)]
theorem adds_start (most : Nat) (xs zs : List El.En) (k : Nat) : addsL most xs ((zs.take k).drop k) = xs := by
  rw [List.drop_eq_nil_of_le (by rw [List.length_take]; omega)]; rfl
theorem adds_end (most : Nat) (xs zs : List El.En) {i : Nat} (k : Nat) (hi : zs.length ≤ i) : addsL most xs ((zs.take i).drop k) = addsL most xs (zs.drop k) := by
  rw [List.take_of_length_le hi]
theorem of3 {xs : List El.En} (h : GL xs) : ofL 3 xs = xs ∧ ofId 3 xs = (if xs = [] then 0 else 3) ∧ ofE 3 xs = if xs = [] then 4 else 0 := by
  have e := h.ofE (id := 3)
  rw [if_neg (by omega)] at e
  unfold ofL ofId
  rw [e]
  by_cases g : xs = []
  · simp [g]
  · simp [g]
end Go.Proofs.Ytkphadkmmjcmnaa.KK
