/-
  Trees of losers, plainly: the player of a node, what a climb does, and that the climbs of all players make the tree.
-/
import Derived.Lib.Hide
namespace Go.Proofs.Ytebjhjmlpodkgaa.Lo

/-- the player of a node -/
def pl (W : Nat → Nat → Bool) (n i : Nat) : Nat :=
  if h : n ≤ i ∨ i = 0 then i - n
  else if W (pl W n (2 * i)) (pl W n (2 * i + 1)) then pl W n (2 * i) else pl W n (2 * i + 1)
termination_by 2 * n - i
/-- its loser -/
def lo (W : Nat → Nat → Bool) (n i : Nat) : Nat :=
  if W (pl W n (2 * i)) (pl W n (2 * i + 1)) then pl W n (2 * i + 1) else pl W n (2 * i)
/-- what a climb does: the row of losers, who is at the root, how many games -/
def climbF (W : Nat → Nat → Bool) (L : List Int) (p : Nat) (node g : Nat) : List Int × Option Nat × Nat :=
  if h : node = 0 then (L, some p, g)
  else if L.getD node 0 = -1 then (L.set node (p : Nat), none, g)
  else if W p (L.getD node 0).toNat then climbF W (L.set node (L.getD node 0)) p (node / 2) (g + 1)
  else climbF W (L.set node (p : Nat)) (L.getD node 0).toNat (node / 2) (g + 1)
termination_by node
/-- the order of two players is decided -/
def Tot (W : Nat → Nat → Bool) : Prop := ∀ a b, a ≠ b → W a b = !W b a

theorem pl_leaf (W : Nat → Nat → Bool) (n p : Nat) : pl W n (n + p) = p := by
  rw [pl, dif_pos (.inl (by omega))]; omega
theorem pl_node {W : Nat → Nat → Bool} {n i : Nat} (h1 : 1 ≤ i) (h2 : i < n) : pl W n i = if W (pl W n (2 * i)) (pl W n (2 * i + 1)) then pl W n (2 * i) else pl W n (2 * i + 1) := by
  rw [pl, dif_neg (by omega)]

/-- a node is i, or above it -/
def under (i l : Nat) : Prop := ∃ k, l / 2 ^ k = i
theorem under_refl (l : Nat) : under l l := ⟨0, by simp⟩
theorem under_half {i l : Nat} (h : under i l) : under (i / 2) l := by
  obtain ⟨k, rfl⟩ := h
  exact ⟨k + 1, by rw [Nat.pow_succ, ← Nat.div_div_eq_div_mul]⟩
theorem under_trans {i j l : Nat} (h : under i j) (g : under j l) : under i l := by
  obtain ⟨k, rfl⟩ := h; obtain ⟨m, rfl⟩ := g
  exact ⟨m + k, by rw [Nat.pow_add, Nat.div_div_eq_div_mul]⟩
theorem under_le {i l : Nat} (h : under i l) : i ≤ l := by
  obtain ⟨k, rfl⟩ := h; exact Nat.div_le_self _ _
theorem under_child {i l : Nat} (h : under i l) (hne : i ≠ l) : under (2 * i) l ∨ under (2 * i + 1) l := by
  obtain ⟨k, hk⟩ := h
  cases k with
  | zero => simp at hk; exact absurd hk.symm hne
  | succ k =>
    rw [Nat.pow_succ, ← Nat.div_div_eq_div_mul] at hk
    have : l / 2 ^ k = 2 * i ∨ l / 2 ^ k = 2 * i + 1 := by omega
    rcases this with h | h
    · exact .inl ⟨k, h⟩
    · exact .inr ⟨k, h⟩
theorem under_up0 {i l : Nat} (h : under (2 * i) l) : under i l := by have := under_half h; rwa [Nat.mul_div_cancel_left _ (by decide)] at this
theorem under_up1 {i l : Nat} (h : under (2 * i + 1) l) : under i l := by have := under_half h; rwa [show (2 * i + 1) / 2 = i by omega] at this
/-- of two nodes above a third one, one is above the other -/
theorem under_cmp {a b l : Nat} (h : under a l) (g : under b l) : under a b ∨ under b a := by
  obtain ⟨k, rfl⟩ := h; obtain ⟨m, rfl⟩ := g
  rcases Nat.le_total k m with h | h
  · exact .inr ⟨m - k, by rw [Nat.div_div_eq_div_mul, ← Nat.pow_add, Nat.add_sub_cancel' h]⟩
  · exact .inl ⟨k - m, by rw [Nat.div_div_eq_div_mul, ← Nat.pow_add, Nat.add_sub_cancel' h]⟩
theorem under_lt {i l : Nat} (h : under i l) (hne : i ≠ l) : i ≤ l / 2 := by
  obtain ⟨k, hk⟩ := h
  cases k with
  | zero => simp at hk; exact absurd hk.symm hne
  | succ k =>
    rw [Nat.pow_succ, Nat.mul_comm, ← Nat.div_div_eq_div_mul] at hk
    rw [← hk]; exact Nat.div_le_self _ _
theorem sib_not {i l : Nat} (h1 : 1 ≤ i) (h : under (2 * i) l) (g : under (2 * i + 1) l) : False := by
  rcases under_cmp h g with h | h
  · have := under_lt h (by omega); omega
  · have := under_le h; omega
theorem under_one : ∀ l, 1 ≤ l → under 1 l
  | 0, h => by omega
  | 1, _ => under_refl 1
  | l + 2, _ => under_trans (under_one ((l + 2) / 2) (by omega)) (under_half (under_refl _))
termination_by l => l
/-- the leaf of a node's player is below it -/
theorem pl_under (W : Nat → Nat → Bool) (n : Nat) : ∀ (f i : Nat), 2 * n - i ≤ f → 1 ≤ i → i < 2 * n → under i (n + pl W n i) ∧ pl W n i < n
  | f, i, hf, h1, h2 => by
    by_cases hn : n ≤ i
    · rw [pl, dif_pos (.inl hn), Nat.add_sub_cancel' hn]
      exact ⟨under_refl _, by omega⟩
    · have hlt : i < n := by omega
      cases f with
      | zero => omega
      | succ f =>
        have a := pl_under W n f (2 * i) (by omega) (by omega) (by omega)
        have b := pl_under W n f (2 * i + 1) (by omega) (by omega) (by omega)
        rw [pl_node h1 hlt]
        split
        · exact ⟨under_up0 a.1, a.2⟩
        · exact ⟨under_up1 b.1, b.2⟩
theorem pl_in {W : Nat → Nat → Bool} {n i : Nat} (h1 : 1 ≤ i) (h2 : i < 2 * n) : under i (n + pl W n i) := (pl_under W n _ i (Nat.le_refl _) h1 h2).1
theorem pl_lt {W : Nat → Nat → Bool} {n i : Nat} (h1 : 1 ≤ i) (h2 : i < 2 * n) : pl W n i < n := (pl_under W n _ i (Nat.le_refl _) h1 h2).2
theorem lo_lt {W : Nat → Nat → Bool} {n i : Nat} (h1 : 1 ≤ i) (h2 : i < n) : lo W n i < n := by
  unfold lo; split <;> exact pl_lt (by omega) (by omega)
/-- all leaves below a node are those of players below p -/
def comp (n p i : Nat) : Prop := ∀ q, q < n → under i (n + q) → q < p
theorem comp_not {n p i : Nat} (hp : p < n) (h : under i (n + p)) : ¬ comp n p i := fun g => Nat.lt_irrefl _ (g p hp h)
theorem comp_same {n p i : Nat} (h : ¬ under i (n + p)) : comp n (p + 1) i ↔ comp n p i :=
  ⟨fun g q hq hu => by have := g q hq hu; rcases Nat.lt_or_ge q p with h' | h'
                       · exact h'
                       · have : q = p := by omega
                         subst this; exact absurd hu h, fun g q hq hu => Nat.lt_succ_of_lt (g q hq hu)⟩
theorem comp_up {n p c d : Nat} (h : under d c) (g : comp n p d) : comp n p c := fun q hq hu => g q hq (under_trans h hu)
open Classical in
/-- what stands at a node when the players below p have come -/
noncomputable def st (W : Nat → Nat → Bool) (n p i : Nat) : Int :=
  if comp n p (2 * i) then (if comp n p (2 * i + 1) then lo W n i else pl W n (2 * i))
  else if comp n p (2 * i + 1) then pl W n (2 * i + 1) else -1
theorem st_congr {W : Nat → Nat → Bool} {n p q i : Nat} (h : comp n p (2 * i) ↔ comp n q (2 * i)) (g : comp n p (2 * i + 1) ↔ comp n q (2 * i + 1)) : st W n p i = st W n q i := by
  unfold st; rw [propext h, propext g]
theorem st_off {W : Nat → Nat → Bool} {n p i : Nat} (h : ¬ under i (n + p)) : st W n (p + 1) i = st W n p i :=
  st_congr (comp_same fun g => h (under_up0 g)) (comp_same fun g => h (under_up1 g))

theorem st_zero {W : Nat → Nat → Bool} {n i : Nat} (h1 : 1 ≤ i) (h2 : i < n) : st W n 0 i = -1 := by
  have h : ∀ c, 1 ≤ c → c < 2 * n → ¬ comp n 0 c := fun c a b g => by
    have := g _ (pl_lt (W := W) a b) (pl_in a b); omega
  unfold st
  rw [if_neg (h _ (by omega) (by omega)), if_neg (h _ (by omega) (by omega))]
theorem st_full {W : Nat → Nat → Bool} {n i : Nat} : st W n n i = lo W n i := by
  have h : ∀ c, comp n n c := fun c q hq _ => hq
  unfold st; rw [if_pos (h _), if_pos (h _)]

theorem win_or {W : Nat → Nat → Bool} (hT : Tot W) (a b : Nat) : (if W a b then a else b) = (if W b a then b else a) := by
  by_cases h : a = b
  · subst h; rfl
  · have := hT a b h
    cases hw : W a b <;> rw [hw] at this <;> simp at this <;> simp [this]
theorem los_or {W : Nat → Nat → Bool} (hT : Tot W) (a b : Nat) : (if W a b then b else a) = (if W b a then a else b) := by
  by_cases h : a = b
  · subst h; rfl
  · have := hT a b h
    cases hw : W a b <;> rw [hw] at this <;> simp at this <;> simp [this]
/-- the other child -/
def sib (c : Nat) : Nat := if c % 2 = 0 then c + 1 else c - 1
theorem sib_cases {c : Nat} (h : 2 ≤ c) : (c = 2 * (c / 2) ∧ sib c = 2 * (c / 2) + 1) ∨ (c = 2 * (c / 2) + 1 ∧ sib c = 2 * (c / 2)) := by
  unfold sib; split <;> omega
theorem pl_pair {W : Nat → Nat → Bool} (hT : Tot W) {n c : Nat} (h : 2 ≤ c) (hn : c / 2 < n) :
    pl W n (c / 2) = (if W (pl W n c) (pl W n (sib c)) then pl W n c else pl W n (sib c)) ∧ lo W n (c / 2) = (if W (pl W n c) (pl W n (sib c)) then pl W n (sib c) else pl W n c) := by
  rcases sib_cases h with ⟨e, s⟩ | ⟨e, s⟩
  · rw [pl_node (by omega) hn, s, ← e]; unfold lo; rw [← e]; exact ⟨rfl, rfl⟩
  · rw [pl_node (by omega) hn, s, ← e]; unfold lo; rw [← e]; exact ⟨win_or hT _ _, los_or hT _ _⟩
theorem st_pair {W : Nat → Nat → Bool} {n p c : Nat} (h : 2 ≤ c) (hc : ¬ comp n p c) :
    (comp n p (sib c) → st W n p (c / 2) = pl W n (sib c)) ∧ (¬ comp n p (sib c) → st W n p (c / 2) = -1) := by
  unfold st
  rcases sib_cases h with ⟨e, s⟩ | ⟨e, s⟩
  · rw [s, ← e, if_neg hc]; exact ⟨fun h => if_pos h, fun h => if_neg h⟩
  · rw [s, ← e]; exact ⟨fun h => by rw [if_pos h, if_neg hc], fun h => by rw [if_neg h, if_neg hc]⟩
theorem st_pair1 {W : Nat → Nat → Bool} {n p c : Nat} (h : 2 ≤ c) (hc : comp n p c) :
    (comp n p (sib c) → st W n p (c / 2) = lo W n (c / 2)) ∧ (¬ comp n p (sib c) → st W n p (c / 2) = pl W n c) := by
  unfold st
  rcases sib_cases h with ⟨e, s⟩ | ⟨e, s⟩
  · rw [s, ← e, if_pos hc]; exact ⟨fun h => if_pos h, fun h => if_neg h⟩
  · rw [s, ← e]; exact ⟨fun h => by rw [if_pos h, if_pos hc], fun h => by rw [if_neg h, if_pos hc]⟩
theorem sib_under {c l : Nat} (h : 2 ≤ c) (hu : under c l) : ¬ under (sib c) l := fun g => by
  rcases sib_cases h with ⟨e, s⟩ | ⟨e, s⟩
  · rw [e] at hu; rw [s] at g; exact sib_not (by omega) hu g
  · rw [e] at hu; rw [s] at g; exact sib_not (by omega) g hu
theorem under_sib {c : Nat} (h : 2 ≤ c) : under (c / 2) (sib c) := by
  rcases sib_cases h with ⟨e, s⟩ | ⟨e, s⟩
  · rw [s]; exact under_up1 (under_refl _)
  · rw [s]; exact under_up0 (under_refl _)

/-- the row while the player p climbs: its nodes above c have not been changed -/
structure Clm (W : Nat → Nat → Bool) (n : Nat) (old new : Nat → Int) (c : Nat) (L : List Int) : Prop where
  len : L.length = n
  zero : L.getD 0 0 = 0
  up : ∀ i, 1 ≤ i → i < n → under i c → i ≠ c → L.getD i 0 = old i
  off : ∀ i, 1 ≤ i → i < n → ¬ (under i c ∧ i ≠ c) → L.getD i 0 = new i
/-- the row when all is as new says -/
structure Row (n : Nat) (new : Nat → Int) (L : List Int) : Prop where
  len : L.length = n
  zero : L.getD 0 0 = 0
  all : ∀ i, 1 ≤ i → i < n → L.getD i 0 = new i
theorem getD_set {L : List Int} {i j : Nat} {v : Int} (h : i < L.length) : (L.set i v).getD j 0 = if i = j then v else L.getD j 0 := by
  simp only [List.getD_eq_getElem?_getD, List.getElem?_set]
  split
  · subst_vars; simp
  · rfl
theorem Clm.step {W : Nat → Nat → Bool} {n : Nat} {old new : Nat → Int} {c : Nat} {L : List Int} (h : Clm W n old new c L) (hc : 2 ≤ c) (hn : c / 2 < n) {v : Int} (hv : v = new (c / 2)) : Clm W n old new (c / 2) (L.set (c / 2) v) := by
  have hl := h.len
  refine ⟨by simp [hl], ?_, fun i h1 h2 hu hne => ?_, fun i h1 h2 hu => ?_⟩
  · rw [getD_set (by omega), if_neg (by omega)]; exact h.zero
  · rw [getD_set (by omega), if_neg (by omega)]
    exact h.up i h1 h2 (under_trans hu (under_half (under_refl c))) (fun e => by have := under_le hu; omega)
  · rw [getD_set (by omega)]
    split
    · subst_vars; rfl
    · rename_i hne
      refine h.off i h1 h2 fun ⟨a, b⟩ => hu ⟨?_, Ne.symm hne⟩
      obtain ⟨k, hk⟩ := a
      cases k with
      | zero => simp at hk; exact absurd hk.symm b
      | succ k => exact ⟨k, by rw [← hk, Nat.pow_succ, Nat.mul_comm, ← Nat.div_div_eq_div_mul]⟩
theorem Clm.root {W : Nat → Nat → Bool} {n : Nat} {old new : Nat → Int} {c : Nat} {L : List Int} (h : Clm W n old new c L) (hc : c < 2) : Row n new L :=
  ⟨h.len, h.zero, fun i h1 h2 => h.off i h1 h2 fun ⟨a, b⟩ => by have := under_lt a b; omega⟩

theorem toNat_pl (n : Nat) : ((n : Int)).toNat = n := Int.toNat_natCast n
/-- a player climbs while the tree is made -/
theorem climb_make {W : Nat → Nat → Bool} (hT : Tot W) {n p : Nat} (hp : p < n) : ∀ (f c g : Nat) (L : List Int), c ≤ f → 1 ≤ c → c < 2 * n → under c (n + p) → comp n (p + 1) c → Clm W n (st W n p) (st W n (p + 1)) c L →
    ∃ L' o g', climbF W L (pl W n c) (c / 2) g = (L', o, g') ∧ Row n (st W n (p + 1)) L' ∧ o = (if p + 1 = n then some (pl W n 1) else none)
  | f, c, g, L, hf, h1, h2, hu, hcm, hL => by
    by_cases hc : c < 2
    · have : c = 1 := by omega
      subst this
      refine ⟨L, _, _, by rw [climbF, dif_pos (by decide)], hL.root hc, ?_⟩
      have : p + 1 = n := by
        have := hcm (n - 1) (by omega) (under_one _ (by omega)); omega
      rw [if_pos this]
    · have hc2 : 2 ≤ c := by omega
      have hn : c / 2 < n := by omega
      have hnode : L.getD (c / 2) 0 = st W n p (c / 2) := hL.up _ (by omega) hn (under_half (under_refl c)) (by omega)
      have hcp : ¬ comp n p c := comp_not hp hu
      have hsu := sib_under hc2 hu
      have hs := comp_same (n := n) (p := p) hsu
      have hsl : sib c < 2 * n := by rcases sib_cases hc2 with ⟨e, s⟩ | ⟨e, s⟩ <;> omega
      have hs1 : 1 ≤ sib c := by rcases sib_cases hc2 with ⟨e, s⟩ | ⟨e, s⟩ <;> omega
      by_cases hsc : comp n p (sib c)
      · have e := (st_pair (W := W) hc2 hcp).1 hsc
        have e1 := (st_pair1 (W := W) hc2 hcm).1 (hs.2 hsc)
        have hP := pl_pair hT hc2 hn
        have hcm' : comp n (p + 1) (c / 2) := fun q hq hq' => by
          rcases under_child hq' (by omega) with a | a
          · rcases sib_cases hc2 with ⟨e, s⟩ | ⟨e, s⟩
            · exact hcm q hq (by rw [e]; exact a)
            · exact hs.2 hsc q hq (by rw [s]; exact a)
          · rcases sib_cases hc2 with ⟨e, s⟩ | ⟨e, s⟩
            · exact hs.2 hsc q hq (by rw [s]; exact a)
            · exact hcm q hq (by rw [e]; exact a)
        cases f with
        | zero => omega
        | succ f =>
          rw [climbF, dif_neg (by omega), hnode, e, if_neg (by omega), toNat_pl]
          by_cases hw : W (pl W n c) (pl W n (sib c)) = true
          · rw [if_pos hw]
            have := climb_make hT hp f (c / 2) (g + 1) (L.set (c / 2) (pl W n (sib c))) (by omega) (by omega) (by omega) (under_half hu) hcm' (hL.step hc2 hn (by rw [e1, hP.2, if_pos hw]))
            rw [hP.1, if_pos hw] at this
            exact this
          · rw [if_neg hw]
            have := climb_make hT hp f (c / 2) (g + 1) (L.set (c / 2) (pl W n c)) (by omega) (by omega) (by omega) (under_half hu) hcm' (hL.step hc2 hn (by rw [e1, hP.2, if_neg hw]))
            rw [hP.1, if_neg hw] at this
            exact this
      · have e := (st_pair (W := W) hc2 hcp).2 hsc
        have e1 := (st_pair1 (W := W) hc2 hcm).2 (fun h => hsc (hs.1 h))
        rw [climbF, dif_neg (by omega), hnode, e, if_pos rfl]
        have hL' := hL.step hc2 hn (v := (pl W n c : Nat)) e1.symm
        have hni : ¬ comp n (p + 1) (c / 2) := fun h => hsc (hs.1 (comp_up (under_sib hc2) h))
        refine ⟨_, _, _, rfl, ⟨hL'.len, hL'.zero, fun i a b => ?_⟩, ?_⟩
        · by_cases hui : under i (c / 2) ∧ i ≠ c / 2
          · rw [hL'.up i a b hui.1 hui.2]
            have ch := under_child hui.1 hui.2
            have hni0 : ∀ d, under d (c / 2) → (comp n p d ↔ comp n (p + 1) d) := fun d hd =>
              ⟨fun h q hq hq' => Nat.lt_succ_of_lt (h q hq hq'), fun h => absurd (comp_up hd h) hni⟩
            have hno : ∀ d, ¬ under d (n + p) → (comp n p d ↔ comp n (p + 1) d) := fun d hd => (comp_same hd).symm
            have hux := under_half hu
            rcases ch with ch | ch
            · exact st_congr (hni0 _ ch) (hno _ fun g => sib_not a (under_trans ch hux) g)
            · exact st_congr (hno _ fun g => sib_not a g (under_trans ch hux)) (hni0 _ ch)
          · exact hL'.off i a b hui
        · rw [if_neg]
          intro hpn
          exact hni fun q hq _ => by omega
theorem climb_make' {W : Nat → Nat → Bool} (hT : Tot W) {n p : Nat} (hp : p < n) {L : List Int} (hL : Row n (st W n p) L) (g : Nat) :
    ∃ L' o g', climbF W L p ((n + p) / 2) g = (L', o, g') ∧ Row n (st W n (p + 1)) L' ∧ o = (if p + 1 = n then some (pl W n 1) else none) := by
  have h := climb_make hT hp (n + p) (n + p) g L (Nat.le_refl _) (by omega) (by omega) (under_refl _)
    (fun q hq hu => by
      obtain ⟨k, hk⟩ := hu
      cases k with
      | zero => simp at hk; omega
      | succ k =>
        have : n + p ≤ (n + q) / 2 := by rw [← hk, Nat.pow_succ, Nat.mul_comm, ← Nat.div_div_eq_div_mul]; exact Nat.div_le_self _ _
        omega)
    ⟨hL.len, hL.zero, fun i h1 h2 _ _ => hL.all i h1 h2, fun i h1 h2 hu => by
      rw [hL.all i h1 h2, st_off]
      exact fun g => hu ⟨g, by omega⟩⟩
  rwa [pl_leaf] at h
end Go.Proofs.Ytebjhjmlpodkgaa.Lo
