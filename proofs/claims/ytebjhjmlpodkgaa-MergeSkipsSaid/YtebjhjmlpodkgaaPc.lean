/-
  Merges, plainly: the entry that comes next, the place behind it, what comes.
-/
import Derived.Test.YtebjhjmlpodkgaaPb
import Derived.Test.YtebjhjmlpodkgaaLt
import Derived.Test.YtebjhjmlpodkgaaLk
namespace Go.Proofs.Ytebjhjmlpodkgaa.KK
open Go.ChangeShapes Go.WideShapes Go.ChangeAt Go.RowKit Go.Proofs

def kl (x y : El.En) : Bool := Kl.lt (Kl.L x.1) (Kl.L y.1)
/-- keys ascend, none twice -/
def SK (l : List El.En) : Prop := l.Pairwise fun x y => kl x y = true
theorem kl_trans {x y z : El.En} (h : kl x y = true) (g : kl y z = true) : kl x z = true := Kl.lt_trans h g
theorem wrong_zero {p : Option El.En} {x : El.En} (h : wrong p x = 0) : El.chk x = 0 ∧ ∀ y, p = some y → kl y x = true := by
  unfold wrong at h
  by_cases hc : El.chk x = 0
  · rw [if_pos hc] at h
    refine ⟨hc, fun y hy => ?_⟩
    subst hy
    by_cases g : 0 ≤ Kl.ord (Kl.L y.1) (Kl.L x.1)
    · simp only at h; rw [if_pos g] at h; cases h
    · exact Kl.ord_neg.1 (by omega)
  · rw [if_neg hc] at h; exact absurd h hc
theorem scan_zero : ∀ {xs : List El.En} {i : Nat} {p : Option El.En}, (scan i p xs).2 = 0 → (∀ x ∈ xs, El.chk x = 0) ∧ SK xs ∧ ∀ y, p = some y → ∀ x ∈ xs, kl y x = true
  | [], _, _, _ => ⟨fun x hx => (by cases hx), List.Pairwise.nil, fun y _ x hx => (by cases hx)⟩
  | x :: t, i, p, h => by
    by_cases g : wrong p x = 0
    · rw [scan, if_pos g] at h
      obtain ⟨a1, a2, a3⟩ := scan_zero h
      obtain ⟨b1, b2⟩ := wrong_zero g
      refine ⟨fun z hz => ?_, List.pairwise_cons.2 ⟨a3 x rfl, a2⟩, fun y hy z hz => ?_⟩
      · rcases List.mem_cons.1 hz with rfl | hz
        · exact b1
        · exact a1 z hz
      · rcases List.mem_cons.1 hz with rfl | hz
        · exact b2 y hy
        · exact kl_trans (b2 y hy) (a3 x rfl z hz)
    · rw [scan, if_neg g] at h; exact absurd h g
/-- a list that CheckList finds nothing wrong with -/
theorem list_ok {xs : List El.En} (h : (listE xs).2 = 0) : xs.length ≤ 5000 ∧ (∀ x ∈ xs, El.chk x = 0) ∧ SK xs := by
  unfold listE at h
  by_cases g : 5000 < xs.length
  · rw [if_pos g] at h; cases h
  · rw [if_neg g] at h
    obtain ⟨a1, a2, _⟩ := scan_zero h
    exact ⟨by omega, a1, a2⟩


def xsA (xss : List (List El.En)) (i : Nat) : List El.En := xss.getD i []
def aA (a : List Int) (i : Nat) : Nat := (a.getD i 0).toNat
/-- the run that comes next -/
def winA (xss : List (List El.En)) (a : List Int) : Nat := wnr (nks xss a)
/-- the entry that comes next -/
def entA (xss : List (List El.En)) (a : List Int) : El.En := (xsA xss (winA xss a)).getD (aA a (winA xss a)) El.none
def nextA (xss : List (List El.En)) (a : List Int) : List Int := a.set (winA xss a) (((aA a (winA xss a) + 1 : Nat) : Int))
def doneB (xss : List (List El.En)) (a : List Int) : Bool := (kAt (nks xss a) (winA xss a)).2
def left : List (List El.En) → List Int → Nat
  | l :: t, a :: u => (l.length - a.toNat) + left t u
  | _, _ => 0
/-- an entry, the number of its run, the place behind it -/
abbrev St := El.En × Nat × List Int
def mseq (xss : List (List El.En)) : Nat → List Int → List St
  | 0, _ => []
  | f + 1, a => if doneB xss a = true then [] else (entA xss a, winA xss a, nextA xss a) :: mseq xss f (nextA xss a)
/-- what comes -/
def mS (xss : List (List El.En)) (a : List Int) : List St := mseq xss (left xss a) a
/-- runs, and a place in them -/
structure Gd (xss : List (List El.En)) (a : List Int) : Prop where
  ok : (runsE xss).2 = 0
  at_ : AtOk xss a
theorem firstK_zero : ∀ {ks : List LK}, (∀ k ∈ ks, keyE k = 0) → firstK ks = 0
  | [], _ => rfl
  | k :: t, h => by rw [firstK, if_pos (h k (by simp))]; exact firstK_zero fun x hx => h x (by simp [hx])
theorem keyE_nk (l : List El.En) (a : Nat) : keyE (nk l a) = 0 := by
  by_cases h : a < l.length
  · rw [nk_lt h]; simp [keyE]
  · rw [nk_end h]; unfold keyE; rw [if_neg (by rintro ⟨_, h⟩; exact h rfl)]
variable {xss : List (List El.En)} {a : List Int}
theorem Gd.one (h : Gd xss a) : 1 ≤ xss.length ∧ xss.length ≤ 32 := ⟨(runsE_ok h.ok).1, (runsE_ok h.ok).2.1⟩
theorem Gd.len (h : Gd xss a) : (nks xss a).length = xss.length := nks_len h.at_.1
theorem Gd.keys (h : Gd xss a) : keysE (nks xss a) = 0 := by
  have h1 := h.one
  unfold keysE
  rw [h.len, if_neg (by omega), if_neg (by omega)]
  refine firstK_zero fun k hk => ?_
  obtain ⟨i, hi, rfl⟩ := List.getElem_of_mem hk
  rw [nks_get (by rw [← h.len]; exact hi) (by rw [h.at_.1, ← h.len]; exact hi)]
  exact keyE_nk _ _
theorem Gd.win (h : Gd xss a) : winA xss a < xss.length := by
  have h1 := h.one
  have := Lo.pl_lt (W := wn (nks xss a)) (n := (nks xss a).length) (i := 1) (Nat.le_refl _) (by rw [h.len]; omega)
  rw [h.len] at this
  unfold winA wnr; rw [h.len]; exact this
theorem xsA_eq {i : Nat} (h : i < xss.length) : xsA xss i = xss[i] := by unfold xsA; rw [List.getD_eq_getElem?_getD, List.getElem?_eq_getElem h]; rfl
theorem aA_eq {i : Nat} (h : i < a.length) : aA a i = a[i].toNat := by unfold aA; rw [List.getD_eq_getElem?_getD, List.getElem?_eq_getElem h]; rfl
theorem Gd.le (h : Gd xss a) {i : Nat} (hi : i < xss.length) : aA a i ≤ (xsA xss i).length := by
  have := h.at_.2 i hi (by rw [h.at_.1]; exact hi)
  rw [xsA_eq hi, aA_eq (by rw [h.at_.1]; exact hi)]; omega
theorem Gd.int (h : Gd xss a) {i : Nat} (hi : i < xss.length) (hi' : i < a.length) : a[i] = (aA a i : Nat) := by
  have := h.at_.2 i hi hi'
  rw [aA_eq hi']; omega
theorem Gd.kat (h : Gd xss a) {i : Nat} (hi : i < xss.length) : KK.kAt (nks xss a) i = nk (xsA xss i) (aA a i) := by
  rw [kAt_lt (by rw [h.len]; exact hi), nks_get hi (by rw [h.at_.1]; exact hi), xsA_eq hi, aA_eq (by rw [h.at_.1]; exact hi)]
theorem nk_done {l : List El.En} {i : Nat} : (nk l i).2 = false ↔ i < l.length := by
  by_cases h : i < l.length
  · rw [nk_lt h]; simp [h]
  · rw [nk_end h]; simp [h]
theorem Gd.lt (h : Gd xss a) (hd : doneB xss a = false) : aA a (winA xss a) < (xsA xss (winA xss a)).length := by
  unfold doneB at hd; rw [h.kat h.win] at hd; exact nk_done.1 hd
theorem AtOk.set {i : Nat} {v : Nat} (h : AtOk xss a) (hi : i < xss.length) (hv : v ≤ (xsA xss i).length) : AtOk xss (a.set i (v : Int)) := by
  refine ⟨by rw [List.length_set]; exact h.1, fun j hj hj' => ?_⟩
  rw [List.getElem_set]
  by_cases e : i = j
  · subst e; rw [if_pos rfl]; rw [xsA_eq hi] at hv; omega
  · rw [if_neg e]; exact h.2 j hj (by simpa using hj')
theorem Gd.next (h : Gd xss a) (hd : doneB xss a = false) : Gd xss (nextA xss a) := ⟨h.ok, h.at_.set h.win (by have := h.lt hd; omega)⟩
theorem left_set : ∀ {xss : List (List El.En)} {a : List Int} {i v : Nat}, i < xss.length → i < a.length → aA a i = v → v < (xsA xss i).length → left xss a = left xss (a.set i ((v + 1 : Nat) : Int)) + 1
  | [], _, _, _, h, _, _, _ => absurd h (Nat.not_lt_zero _)
  | _ :: _, [], _, _, _, h, _, _ => absurd h (Nat.not_lt_zero _)
  | l :: t, b :: u, 0, v, _, _, e, hv => by
    simp only [aA, List.getD_cons_zero] at e
    simp only [xsA, List.getD_cons_zero] at hv
    simp only [left, List.set_cons_zero]
    omega
  | l :: t, b :: u, i + 1, v, h1, h2, e, hv => by
    have ih := left_set (xss := t) (a := u) (i := i) (v := v) (by simpa using h1) (by simpa using h2) (by simpa [aA] using e) (by simpa [xsA] using hv)
    simp only [left, List.set_cons_succ]
    omega
theorem Gd.left (h : Gd xss a) (hd : doneB xss a = false) : left xss a = left xss (nextA xss a) + 1 :=
  left_set h.win (by rw [h.at_.1]; exact h.win) rfl (h.lt hd)
theorem Gd.step (h : Gd xss a) (hd : doneB xss a = false) : mS xss a = (entA xss a, winA xss a, nextA xss a) :: mS xss (nextA xss a) := by
  unfold mS; rw [h.left hd, mseq, if_neg (by rw [hd]; simp)]
theorem mS_done (hd : doneB xss a = true) : mS xss a = [] := by
  unfold mS
  cases left xss a with
  | zero => rfl
  | succ n => rw [mseq, if_pos hd]
theorem nks_set : ∀ {xss : List (List El.En)} {a : List Int} {i : Nat} {v : Nat}, i < xss.length → i < a.length → nks xss (a.set i (v : Int)) = (nks xss a).set i (nk (xsA xss i) v)
  | [], _, _, _, h, _ => absurd h (Nat.not_lt_zero _)
  | _ :: _, [], _, _, _, h => absurd h (Nat.not_lt_zero _)
  | l :: t, b :: u, 0, v, _, _ => by simp [nks, xsA]
  | l :: t, b :: u, i + 1, v, h1, h2 => by
    have ih := nks_set (xss := t) (a := u) (i := i) (v := v) (by simpa using h1) (by simpa using h2)
    simp only [nks, List.set_cons_succ, ih]
    simp [xsA]
theorem Gd.nks_next (h : Gd xss a) : nks xss (nextA xss a) = (nks xss a).set (winA xss a) (nk (xsA xss (winA xss a)) (aA a (winA xss a) + 1)) :=
  nks_set h.win (by rw [h.at_.1]; exact h.win)
theorem Gd.ent (h : Gd xss a) (hd : doneB xss a = false) : entA xss a = (xsA xss (winA xss a))[aA a (winA xss a)]'(h.lt hd) := by
  unfold entA; rw [List.getD_eq_getElem?_getD, List.getElem?_eq_getElem (h.lt hd)]; rfl
theorem Gd.list (h : Gd xss a) {i : Nat} (hi : i < xss.length) : (listE (xsA xss i)).2 = 0 := (runsE_ok h.ok).2.2.1 _ (by rw [xsA_eq hi]; exact List.getElem_mem hi)
theorem Gd.rep (h : Gd xss a) (hd : doneB xss a = false) : repE (nks xss a) (nk (xsA xss (winA xss a)) (aA a (winA xss a) + 1)) = 0 := by
  have hw := h.win
  unfold repE
  have hd' := hd
  unfold doneB winA at hd'
  rw [if_neg (by rw [hd']; simp), if_neg (by rw [keyE_nk]; simp), if_neg]
  intro hh
  have h1 := nk_done.1 hh.1
  rw [nk_lt h1, show KK.kAt (nks xss a) (wnr (nks xss a)) = nk (xsA xss (winA xss a)) (aA a (winA xss a)) from h.kat hw, nk_lt (h.lt hd)] at hh
  have hs := (list_ok (h.list hw)).2.2
  have := List.pairwise_iff_getElem.1 hs (aA a (winA xss a)) (aA a (winA xss a) + 1) (h.lt hd) h1 (by omega)
  have h2 := Kl.lt_asymm this
  rw [h2] at hh
  exact absurd hh.2 (by simp)
end Go.Proofs.Ytebjhjmlpodkgaa.KK
