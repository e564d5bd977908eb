/-
  Merges: the places one after the other, and in which order entries come.
-/
import Derived.Test.YtebjhjmlpodkgaaHc
import Derived.Test.YtebjhjmlpodkgaaPn
namespace Go.Proofs.Ytebjhjmlpodkgaa.KK
open Go.ChangeShapes Go.WideShapes Go.ChangeAt Go.RowKit Go.Proofs

/-- a key of a run comes before another one -/
def lx (k : ByteArray) (r : Nat) (k' : ByteArray) (r' : Nat) : Prop := Kl.lt (Kl.L k) (Kl.L k') = true ∨ (Kl.L k = Kl.L k' ∧ r < r')
theorem lx_trans {k k' k'' : ByteArray} {r r' r'' : Nat} (h : lx k r k' r') (g : lx k' r' k'' r'') : lx k r k'' r'' := by
  rcases h with h | ⟨h, h2⟩ <;> rcases g with g | ⟨g, g2⟩
  · exact .inl (Kl.lt_trans h g)
  · exact .inl (by rw [← g]; exact h)
  · exact .inl (by rw [h]; exact g)
  · exact .inr ⟨h.trans g, by omega⟩
theorem lx_ca {k k' : ByteArray} {r r' : Nat} (h : lx k r k' r') : caB k (r : Int) k' (r' : Int) = false := by
  unfold caB
  rcases h with h | ⟨h, h2⟩
  · rw [if_neg (by rintro rfl; rw [Kl.lt_irrefl] at h; cases h)]; exact Kl.lt_asymm h
  · rw [if_pos (L_inj' h)]; simp; omega
variable {xss : List (List El.En)} {a : List Int}
/-- the run that comes next is the least one -/
theorem Gd.min (h : Gd xss a) {i : Nat} (hi : i < xss.length) (hl : liveA xss a i = true) : doneB xss a = false ∧ (i = winA xss a ∨ lx (keyA xss a (winA xss a)) (winA xss a) (keyA xss a i) i) := by
  have hb := h.best
  rcases bestA_inv xss a xss.length with ⟨h1, h2⟩ | ⟨b, h1, hb2, hl2, h2⟩
  · rw [h2 i hi] at hl; cases hl
  · cases hd : doneB xss a with
    | true => rw [hd, if_pos rfl, h1] at hb; omega
    | false =>
      rw [hd, if_neg (by simp), h1] at hb
      have e : b = winA xss a := by omega
      subst e
      refine ⟨rfl, ?_⟩
      rcases h2 i hi hl with e | e | e
      · exact .inl e
      · exact .inr (.inl e)
      · exact .inr (.inr e)
theorem Gd.done (h : Gd xss a) (hd : doneB xss a = true) {i : Nat} (hi : i < xss.length) : aA a i = (xsA xss i).length := by
  have := h.le hi
  cases hl : liveA xss a i with
  | true => rw [(h.min hi hl).1] at hd; cases hd
  | false => unfold liveA at hl; simp at hl; omega
theorem Gd.live_win (h : Gd xss a) (hd : doneB xss a = false) : liveA xss a (winA xss a) = true := by
  have := h.lt hd
  unfold liveA; simp [this]
theorem aA_set {i j v : Nat} (hi : i < a.length) : aA (a.set i (v : Int)) j = if i = j then v else aA a j := by
  unfold aA
  simp only [List.getD_eq_getElem?_getD, List.getElem?_set]
  by_cases e : i = j
  · subst e; simp [hi]
  · simp [e]
theorem Gd.aA_next (h : Gd xss a) (j : Nat) : aA (nextA xss a) j = if winA xss a = j then aA a (winA xss a) + 1 else aA a j :=
  aA_set (by rw [h.at_.1]; exact h.win)
theorem keyA_lt {i : Nat} (h : aA a i < (xsA xss i).length) : keyA xss a i = ((xsA xss i)[aA a i]).1 := by unfold keyA; rw [nk_lt h]
theorem Gd.key_ent (h : Gd xss a) (hd : doneB xss a = false) : keyA xss a (winA xss a) = (entA xss a).1 := by
  rw [keyA_lt (h.lt hd), h.ent hd]
/-- what was read comes before what was not -/
def Inv (xss : List (List El.En)) (a : List Int) : Prop := ∀ i j, i < xss.length → j < xss.length → 0 < aA a i → liveA xss a j = true → lx (lastK xss a i) i (keyA xss a j) j
theorem inv_zeros (n : Nat) : Inv xss (zerosA n) := fun i j _ _ h _ => by
  unfold aA zerosA at h
  rw [List.getD_eq_getElem?_getD, List.getElem?_replicate] at h
  split at h <;> simp at h
theorem Gd.last_win (h : Gd xss a) (hd : doneB xss a = false) : lastK xss (nextA xss a) (winA xss a) = (entA xss a).1 := by
  unfold lastK entA
  rw [h.aA_next, if_pos rfl, Nat.add_sub_cancel]
theorem Gd.inv_next (h : Gd xss a) (hd : doneB xss a = false) (hv : Inv xss a) : Inv xss (nextA xss a) := by
  intro i j hi hj h0 hl
  have hw := h.win
  have hlast : ∀ i, i ≠ winA xss a → lastK xss (nextA xss a) i = lastK xss a i := fun i hne => by unfold lastK; rw [h.aA_next, if_neg (Ne.symm hne)]
  have hkey : ∀ j, j ≠ winA xss a → keyA xss (nextA xss a) j = keyA xss a j := fun j hne => by unfold keyA; rw [h.aA_next, if_neg (Ne.symm hne)]
  have hlive : ∀ j, j ≠ winA xss a → liveA xss (nextA xss a) j = liveA xss a j := fun j hne => by unfold liveA; rw [h.aA_next, if_neg (Ne.symm hne)]
  have hup : liveA xss (nextA xss a) (winA xss a) = true → Kl.lt (Kl.L (keyA xss a (winA xss a))) (Kl.L (keyA xss (nextA xss a) (winA xss a))) = true := fun hl => by
    have hl' : aA (nextA xss a) (winA xss a) < (xsA xss (winA xss a)).length := by unfold liveA at hl; simpa using hl
    rw [keyA_lt (h.lt hd), keyA_lt hl']
    have hs := (list_ok (h.list hw)).2.2
    have e : aA (nextA xss a) (winA xss a) = aA a (winA xss a) + 1 := by rw [h.aA_next, if_pos rfl]
    exact List.pairwise_iff_getElem.1 hs _ _ (h.lt hd) hl' (by omega)
  by_cases ei : i = winA xss a
  · subst ei
    rw [h.last_win hd, ← h.key_ent hd]
    by_cases ej : j = winA xss a
    · subst ej; exact .inl (hup hl)
    · rw [hkey j ej]
      rw [hlive j ej] at hl
      rcases (h.min hj hl).2 with e | e
      · exact absurd e ej
      · exact e
  · rw [hlast i ei]
    rw [h.aA_next, if_neg (Ne.symm ei)] at h0
    by_cases ej : j = winA xss a
    · subst ej
      exact lx_trans (hv i _ hi hj h0 (h.live_win hd)) (.inl (hup hl))
    · rw [hkey j ej]
      rw [hlive j ej] at hl
      exact hv i j hi hj h0 hl
theorem Gd.ord_inv (h : Gd xss a) (hv : Inv xss a) : ordE xss a = (0, 0) := by
  unfold ordE
  cases hd : doneB xss a with
  | true => rfl
  | false =>
    rw [if_neg (by simp), if_neg]
    intro hh
    obtain ⟨i, hi, hb⟩ := List.any_eq_true.1 hh
    rw [List.mem_range] at hi
    unfold badA at hb
    simp only [Bool.and_eq_true, decide_eq_true_eq] at hb
    have := lx_ca (hv i _ hi h.win hb.1 (h.live_win hd))
    rw [h.kat h.win] at hb
    unfold keyA at this
    rw [this] at hb
    cases hb.2
/-- a state that was reached is one -/
theorem Gd.chk_inv (h : Gd xss a) (hv : Inv xss a) : chkS xss a (nks xss a) (loL (nks xss a)) (winA xss a : Nat) = (0, 0) := by
  have h1 : (atE11 xss a).2 = 0 := by
    unfold atE11
    rw [if_neg (by rw [h.at_.1]; simp)]
    have : ∀ (i : Nat) (xs : List (List El.En)) (b : List Int), AtOk xs b → (firstA i xs b).2 = 0 := by
      intro i xs
      induction xs generalizing i with
      | nil => intro b _; cases b <;> rfl
      | cons l t ih =>
        intro b hb
        cases b with
        | nil => rfl
        | cons v u =>
          have h0 := hb.2 0 (by simp) (by simp)
          simp only [List.getElem_cons_zero] at h0
          rw [firstA, if_neg (by omega)]
          exact ih (i + 1) u ⟨by simpa using hb.1, fun j hj hj' => by have := hb.2 (j + 1) (by simpa using hj) (by simpa using hj'); simpa using this⟩
    exact this 0 xss a h.at_
  have h2 : nxB xss a (nks xss a) (loL (nks xss a)) (winA xss a : Nat) = true := by
    unfold nxB
    have := chkT_self h.keys
    rw [show ((winA xss a : Nat) : Int) = ((wnr (nks xss a) : Nat) : Int) from rfl, this]; simp
  unfold chkS
  rw [if_neg (by rw [h.ok]; simp), if_neg (by rw [h1]; simp), if_neg (by rw [h2]; simp)]
  exact h.ord_inv hv
/-- the place behind so many entries -/
def pN (xss : List (List El.En)) (a : List Int) : Nat → List Int
  | 0 => a
  | i + 1 => nextA xss (pN xss a i)
theorem left_zero : ∀ {xss : List (List El.En)} {a : List Int}, a.length = xss.length → (∀ i, i < xss.length → aA a i = (xsA xss i).length) → left xss a = 0
  | [], [], _, _ => rfl
  | [], _ :: _, h, _ => by simp at h
  | _ :: _, [], h, _ => by simp at h
  | l :: t, b :: u, h, g => by
    have g0 := g 0 (by simp)
    simp only [aA, xsA, List.getD_cons_zero] at g0
    have ih := left_zero (xss := t) (a := u) (by simpa using h) (fun i hi => by have := g (i + 1) (by simpa using hi); simpa [aA, xsA] using this)
    simp only [left, ih, g0]; omega
theorem Gd.left0 (h : Gd xss a) (hd : doneB xss a = true) : KK.left xss a = 0 := left_zero h.at_.1 (fun _ hi => h.done hd hi)
theorem Gd.done_iff (h : Gd xss a) : doneB xss a = decide (KK.left xss a = 0) := by
  cases hd : doneB xss a with
  | true => rw [h.left0 hd]; rfl
  | false => have := h.left hd; rw [decide_eq_false]; omega
theorem Gd.pN (h : Gd xss a) : ∀ {i : Nat}, i ≤ KK.left xss a → Gd xss (KK.pN xss a i) ∧ KK.left xss (KK.pN xss a i) = KK.left xss a - i
  | 0, _ => ⟨h, rfl⟩
  | i + 1, hi => by
    obtain ⟨g, e⟩ := h.pN (i := i) (by omega)
    have hd : doneB xss (KK.pN xss a i) = false := by rw [g.done_iff, decide_eq_false]; omega
    have := g.left hd
    exact ⟨g.next hd, by show KK.left xss (nextA xss (KK.pN xss a i)) = _; omega⟩
theorem Gd.pN_done (h : Gd xss a) {i : Nat} (hi : i < KK.left xss a) : doneB xss (KK.pN xss a i) = false := by
  obtain ⟨g, e⟩ := h.pN (i := i) (by omega)
  rw [g.done_iff, decide_eq_false]; omega
theorem Gd.pN_inv (h : Gd xss a) (hv : Inv xss a) : ∀ {i : Nat}, i ≤ KK.left xss a → Inv xss (KK.pN xss a i)
  | 0, _ => hv
  | i + 1, hi => (h.pN (i := i) (by omega)).1.inv_next (h.pN_done (by omega)) (h.pN_inv hv (by omega))
theorem Gd.mS_drop (h : Gd xss a) : ∀ {i : Nat}, i ≤ KK.left xss a → (mS xss a).drop i = mS xss (KK.pN xss a i)
  | 0, _ => rfl
  | i + 1, hi => by
    have ih := h.mS_drop (i := i) (by omega)
    rw [(h.pN (i := i) (by omega)).1.step (h.pN_done (by omega))] at ih
    rw [← List.drop_drop, ih]; rfl
theorem Gd.mS_len (h : Gd xss a) : (mS xss a).length = KK.left xss a := by
  have := congrArg List.length (h.mS_drop (i := KK.left xss a) (Nat.le_refl _))
  obtain ⟨g, e⟩ := h.pN (i := KK.left xss a) (Nat.le_refl _)
  rw [mS_done (a := KK.pN xss a (KK.left xss a)) (by rw [g.done_iff, e]; simp)] at this
  have h2 : KK.left xss a ≤ (mS xss a).length := by
    have : ∀ i, i ≤ KK.left xss a → i ≤ (mS xss a).length := by
      intro i
      induction i with
      | zero => intro _; omega
      | succ i ih =>
        intro hi
        have h1 := congrArg List.length (h.mS_drop (i := i) (by omega))
        rw [(h.pN (i := i) (by omega)).1.step (h.pN_done (by omega))] at h1
        simp at h1; have := ih (by omega); omega
    exact this _ (Nat.le_refl _)
  simp at this; omega
theorem Gd.mS_get (h : Gd xss a) {i : Nat} (hi : i < (mS xss a).length) : (mS xss a)[i] = (entA xss (KK.pN xss a i), winA xss (KK.pN xss a i), KK.pN xss a (i + 1)) := by
  have hl := h.mS_len
  have e := h.mS_drop (i := i) (by omega)
  rw [(h.pN (i := i) (by omega)).1.step (h.pN_done (by omega)), List.drop_eq_getElem_cons hi] at e
  exact (List.cons.inj e).1
end Go.Proofs.Ytebjhjmlpodkgaa.KK
