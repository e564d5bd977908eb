/-
  Trees of losers: the order of players; slices.SortFunc.
-/
import Derived.Test.YtggmnhlfgjjgaaaLi
namespace Go.Proofs.Ytggmnhlfgjjgaaa.KK
open Go.ChangeShapes Go.WideShapes Go.ChangeAt Go.RowKit Go.Proofs

theorem compareInt_neg {a b : Nat} : Lib.compareInt a b < 0 ↔ a < b := by
  unfold Lib.compareInt
  by_cases h : a < b
  · simp [h]
  · by_cases g : b < a
    · simp [h, g]
    · simp [h, g]
theorem wn_iff (ks : List LK) (a b : Nat) : wn ks a b = true ↔ ((kAt ks a).2 = (kAt ks b).2 ∧ (Kl.lt (Kl.L (kAt ks a).1) (Kl.L (kAt ks b).1) = true ∨ (Kl.L (kAt ks a).1 = Kl.L (kAt ks b).1 ∧ a < b))) ∨ ((kAt ks a).2 = false ∧ (kAt ks b).2 = true) := by
  unfold wn cf
  rw [decide_eq_true_eq]
  generalize Kl.L (kAt ks a).1 = x
  generalize Kl.L (kAt ks b).1 = y
  by_cases hd : (kAt ks a).2 = (kAt ks b).2
  · rw [if_pos hd]
    have hno : ¬ ((kAt ks a).2 = false ∧ (kAt ks b).2 = true) := by rw [hd]; intro ⟨g, h⟩; rw [g] at h; cases h
    unfold Kl.ord
    cases h1 : Kl.lt x y with
    | true => simp [hd]
    | false =>
      cases h2 : Kl.lt y x with
      | true =>
        have hne : x ≠ y := fun e => by rw [e, Kl.lt_irrefl] at h2; cases h2
        simp [hd, hne]
      | false =>
        have := Kl.lt_total h1 h2
        subst this
        simp [hd, compareInt_neg]
  · rw [if_neg hd]
    cases h1 : (kAt ks a).2 <;> cases h2 : (kAt ks b).2 <;> simp_all
theorem wn_irrefl (ks : List LK) (a : Nat) : wn ks a a = false := by
  cases h : wn ks a a with
  | false => rfl
  | true =>
    rcases (wn_iff ks a a).1 h with ⟨_, g | g⟩ | ⟨g, g'⟩
    · rw [Kl.lt_irrefl] at g; cases g
    · omega
    · rw [g] at g'; cases g'
theorem wn_trans {ks : List LK} {a b c : Nat} (h : wn ks a b = true) (g : wn ks b c = true) : wn ks a c = true := by
  rw [wn_iff] at h g ⊢
  rcases h with ⟨hd, h⟩ | ⟨h1, h2⟩
  · rcases g with ⟨gd, g⟩ | ⟨g1, g2⟩
    · refine .inl ⟨hd.trans gd, ?_⟩
      rcases h with h | ⟨h, h'⟩ <;> rcases g with g | ⟨g, g'⟩
      · exact .inl (Kl.lt_trans h g)
      · rw [← g]; exact .inl h
      · rw [h]; exact .inl g
      · exact .inr ⟨h.trans g, by omega⟩
    · exact .inr ⟨hd.trans g1, g2⟩
  · rcases g with ⟨gd, g⟩ | ⟨g1, g2⟩
    · exact .inr ⟨h1, by rw [← gd]; exact h2⟩
    · rw [h2] at g1; cases g1
theorem wn_ntrans {ks : List LK} {a b c : Nat} (h : wn ks a b = false) (g : wn ks b c = false) : wn ks a c = false := by
  by_cases e1 : a = b
  · subst e1; exact g
  by_cases e2 : b = c
  · subst e2; exact h
  by_cases e3 : a = c
  · subst e3; exact wn_irrefl ks a
  have t := wn_tot ks
  have h' : wn ks b a = true := by have := t a b e1; rw [h] at this; simpa using this
  have g' : wn ks c b = true := by have := t b c e2; rw [g] at this; simpa using this
  rw [t a c e3, wn_trans g' h']; rfl
/-- players in the order in which they win -/
structure Ord (ks : List LK) (L : List Nat) : Prop where
  perm : L.Perm (List.range ks.length)
  asc : L.Pairwise (fun a b => wn ks b a = false)
theorem Ord.uniq {ks : List LK} {L L' : List Nat} (h : Ord ks L) (g : Ord ks L') : L = L' :=
  List.Perm.eq_of_pairwise (fun a b _ _ h1 h2 => by
    by_cases e : a = b
    · exact e
    · have := wn_tot ks a b e; rw [h1, h2] at this; cases this) h.asc g.asc (h.perm.trans g.perm.symm)
def natsV (L : List Nat) : List Int := List.map (fun p : Nat => (p : Int)) L
open Go.Sort in
theorem sort_any (lb cl kb : Nat) (A : Option Addr) (c : Nat) (ks : List LK) (w : World) (h1 : 1 ≤ ks.length) (hn : ks.length ≤ 4294967295) (hr : CR w lb (intsV (natsV (List.range ks.length))))
    (hk : w.cell? ⟨kb, 0, none⟩ = some (.slice A ks.length c)) (hf : KsAt w A ks) (hkb : kb ≠ lb) (hA : ∀ a, A = some a → a.block ≠ lb) :
    Calls Try.prog 70 #[.slice (some ⟨lb, 0, none⟩) ks.length cl, .func (.func 81) #[] #[.pointer (some ⟨kb, 0, none⟩)]] w fun e w' =>
      e = .returned (.tuple #[]) ∧ ∃ L, Ord ks L ∧ CR w' lb (intsV (natsV L)) ∧ Chg (fun k => k = lb) w w' := by
  obtain ⟨m, hm⟩ : ∃ m, ks.length = m + 1 := ⟨ks.length - 1, by omega⟩
  have hkl := cell_lt hk
  let enc : Fin (m + 1) → Value := fun p => .int .i64 (p.val : Int)
  let d : Array (Fin (m + 1)) := Array.ofFn fun i => i
  have hds : d.size = m + 1 := by simp [d]
  have hd : ∀ j (h : j < m + 1), d[j]! = ⟨j, h⟩ := fun j h => by
    rw [getElem!_pos d j (by rw [hds]; exact h)]; simp [d]
  have hH : Holds enc w lb 0 d := fun j hj => by
    rw [hds] at hj
    have hj' : j < (intsV (natsV (List.range ks.length))).length := by simp [intsV, natsV, hm]; exact hj
    rw [Nat.zero_add]
    refine ⟨(hr.cell j hj').trans ?_, hr.frz j hj'⟩
    rw [hd j hj]; simp [intsV, natsV, enc]
  have hO : SWO (ltOf fun x y : Fin (m + 1) => cf ks x.val y.val) := ⟨fun x => wn_irrefl ks x.val, fun x y z h g => wn_trans (ks := ks) h g, fun x y z h g => wn_ntrans (ks := ks) h g⟩
  have hblk : ∀ (mm : Nat) (os : Array Obj) (dk : Array (Fin (m + 1))) (b : Nat), b < w.heap.size → b ≠ lb → ∀ o v, w.cell? ⟨b, o, none⟩ = some v → (sortWorld enc w lb 0 mm dk os).cell? ⟨b, o, none⟩ = some v := fun mm os dk b hb hne o v hv => by
    unfold sortWorld
    rw [cell?_grow _ _ _ (by simp [putRow, mapBlock]; exact hb), cell?_putRow_other _ _ _ _ _ _ (.inl hne)]
    exact hv
  have hcmp : CmpLays1 Try.prog 81 #[.pointer (some ⟨kb, 0, none⟩)] enc (fun x y : Fin (m + 1) => cf ks x.val y.val) lb 0 d.size w := fun mm os dk _ x y => by
    refine order1_any kb A c ks x.val y.val (by have := x.isLt; omega) (by have := y.isLt; omega) _ (hblk mm os dk kb hkl hkb 0 _ hk) ?_ hn
    rcases hf with h0 | ⟨b, off, rfl, hbl, hc⟩
    · exact .inl h0
    · have hne := hA _ rfl
      refine .inr ⟨b, off, rfl, by simp [sortWorld, putRow, mapBlock, ahead]; omega, fun i hi => ⟨hblk mm os dk b hbl hne _ _ (hc i hi).1, hblk mm os dk b hbl hne _ _ (hc i hi).2⟩⟩
  have K := Try.slices_SortFunc enc (fun _ => rfl) (fun x y : Fin (m + 1) => cf ks x.val y.val) hO 81 #[.pointer (some ⟨kb, 0, none⟩)] lb 0 cl d w (enters_of Try.func81 (by kernel_rfl) rfl) hcmp hH hr.lt (by rw [hds]; omega)
  rw [hds] at K
  rw [hm]
  refine K.mono ?_
  rintro e w' ⟨rfl, d', n, os, hp, hs, rfl⟩
  have hds' : d'.size = m + 1 := by have := hp.1; rw [hds] at this; exact this
  refine ⟨rfl, d'.toList.map Fin.val, ⟨?_, ?_⟩, ?_, ?_⟩
  · have h3 := hp.2.2
    rw [Array.extract_eq_self_of_le (by omega), Array.extract_eq_self_of_le (by omega)] at h3
    refine (h3.map Fin.val).trans ?_
    rw [hm]
    have : d.toList.map Fin.val = List.range (m + 1) := by
      apply List.ext_getElem
      · simp [d]
      · intro i g1 g2
        have hi : i < m + 1 := by simpa using g2
        have e := hd i hi
        rw [getElem!_pos d i (by rw [hds]; exact hi)] at e
        rw [List.getElem_map, List.getElem_range, Array.getElem_toList, e]
    rw [this]
  · rw [List.pairwise_map, List.pairwise_iff_getElem]
    intro i j hi hj hij
    have := hs i j (Nat.zero_le _) hij (by simp at hj; omega)
    rw [getElem!_pos d' i (by simpa using hi), getElem!_pos d' j (by simpa using hj)] at this
    simpa [ltOf, wn] using this
  · have SWh : SW enc w lb 0 d' (sortWorld enc w lb 0 n d' os) := ⟨n, os, rfl⟩
    have hh := SWh.holds hr.lt hH (by rw [hds, hds'])
    have hc := hh
    refine ⟨Nat.lt_of_lt_of_le hr.lt (by simp [sortWorld, putRow, mapBlock, ahead]), fun i hi => ?_, fun i hi => ?_⟩
    · have hi' : i < d'.size := by simpa [intsV, natsV] using hi
      have := (hh i hi').1
      rw [Nat.zero_add] at this
      rw [this, getElem!_pos d' i hi']
      simp [intsV, natsV, enc]
    · have hi' : i < d'.size := by simpa [intsV, natsV] using hi
      have := (hh i hi').2
      rwa [Nat.zero_add] at this
  · refine ⟨rfl, rfl, rfl, by simp [sortWorld, putRow, mapBlock, ahead], fun k hk hne => ?_⟩
    unfold sortWorld
    rw [heap_grow_old _ _ (by simp [putRow, mapBlock]; exact hk)]
    simp [putRow, mapBlock, ahead, Array.getElem?_modify]
    intro h; exact absurd h.symm hne
end Go.Proofs.Ytggmnhlfgjjgaaa.KK
