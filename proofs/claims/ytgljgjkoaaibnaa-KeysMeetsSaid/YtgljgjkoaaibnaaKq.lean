/-
  Plain functions on the text of a key: what is shown, what is read. They import nothing of the program.
-/
import Derived.Lib.MapLaws
import Derived.Lib.TrimUEq
import Derived.Lib.TrimU
import Derived.Lib.RuneBytes
namespace Go.Proofs.Ytgljgjkoaaibnaa.Kl
open Go.Lib

def rn (l : List UInt8) : Nat := (decodeL l).1
def wid (l : List UInt8) : Nat := (decodeL l).2
/-- a byte that is no part of a rune -/
def bd (l : List UInt8) : Bool := (rn l == 65533) && (wid l == 1)
def okR (r : Nat) : Bool := (decide (32 ≤ r) && decide (r ≤ 126)) || decide (160 ≤ r)
def hxD (n : Nat) : UInt8 := if n < 10 then UInt8.ofNat (48 + n) else UInt8.ofNat (87 + n)
def hx (c : UInt8) : List UInt8 := [92, 120, hxD (c.toNat / 16), hxD (c.toNat % 16)]
def hxs : List UInt8 → List UInt8
  | [] => []
  | c :: l => hx c ++ hxs l
def piece (l : List UInt8) : List UInt8 :=
  if bd l then hx (l.headD 0) else if rn l = 92 then [92, 92] else if okR (rn l) then l.take (wid l) else hxs (l.take (wid l))
def txtF : Nat → List UInt8 → List UInt8
  | 0, _ => []
  | f + 1, l => if l = [] then [] else piece l ++ txtF f (l.drop (wid l))
def txt (l : List UInt8) : List UInt8 := txtF l.length l

theorem wid_pos (l : List UInt8) : 1 ≤ wid l := decodeL_width l
theorem wid_le {l : List UInt8} (h : l ≠ []) : wid l ≤ l.length := decodeL_le l h
theorem txtF_fuel : ∀ (f g : Nat) (l : List UInt8), l.length ≤ f → l.length ≤ g → txtF f l = txtF g l
  | 0, 0, _, _, _ => rfl
  | 0, g + 1, l, h, _ => by
    have : l = [] := List.eq_nil_of_length_eq_zero (by omega)
    subst this; rfl
  | f + 1, 0, l, _, h => by
    have : l = [] := List.eq_nil_of_length_eq_zero (by omega)
    subst this; rfl
  | f + 1, g + 1, l, h, k => by
    unfold txtF
    by_cases e : l = []
    · rw [if_pos e, if_pos e]
    · rw [if_neg e, if_neg e]
      have := wid_pos l
      have hl : 0 < l.length := List.length_pos_iff.2 e
      rw [txtF_fuel f g (l.drop (wid l)) (by rw [List.length_drop]; omega) (by rw [List.length_drop]; omega)]
theorem txt_nil : txt [] = [] := rfl
theorem txt_step {l : List UInt8} (h : l ≠ []) : txt l = piece l ++ txt (l.drop (wid l)) := by
  have hl : 0 < l.length := List.length_pos_iff.2 h
  obtain ⟨n, hn⟩ : ∃ n, l.length = n + 1 := ⟨l.length - 1, by omega⟩
  unfold txt
  rw [hn]
  conv => lhs; unfold txtF
  rw [if_neg h]
  have := wid_pos l
  rw [txtF_fuel n (l.drop (wid l)).length (l.drop (wid l)) (by rw [List.length_drop]; omega) (Nat.le_refl _)]
theorem hxs_length : ∀ l : List UInt8, (hxs l).length = 4 * l.length
  | [] => rfl
  | c :: l => by rw [hxs, List.length_append, hxs_length l]; simp [hx]; omega
theorem piece_length {l : List UInt8} (h : l ≠ []) : (piece l).length ≤ 4 * wid l := by
  have h1 := wid_pos l
  have h2 := wid_le h
  unfold piece
  split
  · simp [hx]; omega
  · split
    · simp; omega
    · split
      · rw [List.length_take]; omega
      · rw [hxs_length, List.length_take]; omega
theorem txt_length : ∀ (n : Nat) (l : List UInt8), l.length ≤ n → (txt l).length ≤ 4 * l.length
  | 0, l, h => by
    have : l = [] := List.eq_nil_of_length_eq_zero (by omega)
    subst this; simp [txt_nil]
  | n + 1, l, h => by
    by_cases e : l = []
    · subst e; simp [txt_nil]
    · have h1 := wid_pos l
      have h2 := wid_le e
      have h3 := piece_length e
      have h4 := txt_length n (l.drop (wid l)) (by rw [List.length_drop]; omega)
      rw [txt_step e, List.length_append]
      rw [List.length_drop] at h4
      omega

/-- which rune and width there may be -/
theorem rune_shape {l : List UInt8} (h : l ≠ []) : (rn l = (l.headD 0).toNat ∧ wid l = 1 ∧ rn l < 128) ∨ (wid l = 1 ∧ rn l = 65533) ∨ (128 ≤ rn l ∧ 2 ≤ wid l ∧ ¬ (rn l = 65533 ∧ wid l = 1)) := by
  have hh : (l.headD 0) = l.getD 0 0 := by cases l <;> rfl
  rw [hh]
  unfold rn wid
  rw [decodeL_N]
  rcases decodeN_shape l.length (l.getD 0 0).toNat (l.getD 1 0).toNat (l.getD 2 0).toNat (l.getD 3 0).toNat with ⟨c, e⟩ | ⟨_, _, _, _, e⟩ | ⟨_, _, _, _, _, _, e⟩ | ⟨_, _, _, _, _, _, _, e⟩ | e
  all_goals (rw [e]; dsimp only)
  · exact .inl ⟨rfl, rfl, c⟩
  · exact .inr (.inr ⟨by omega, by omega, by omega⟩)
  · exact .inr (.inr ⟨by omega, by omega, by omega⟩)
  · exact .inr (.inr ⟨by omega, by omega, by omega⟩)
  · exact .inr (.inl ⟨rfl, rfl⟩)
theorem rn_le (l : List UInt8) : rn l ≤ 1114111 := decodeL_rune l
theorem not_bd {l : List UInt8} (h : bd l = false) : ¬ ((decodeL l).1 = 65533 ∧ (decodeL l).2 = 1) := by
  intro ⟨h1, h2⟩
  unfold bd rn wid at h
  rw [h1, h2] at h
  cases h
theorem enc_take {l : List UInt8} (hne : l ≠ []) (h : bd l = false) : encodeRune (rn l : Int) = l.take (wid l) := encode_decode l hne (not_bd h)
/-- the width, as the rune says -/
def siz (r : Nat) : Nat := if r < 128 then 1 else if r < 2048 then 2 else if r < 65536 then 3 else 4
theorem siz_wid {l : List UInt8} (hne : l ≠ []) (h : bd l = false) : siz (rn l) = wid l := by
  have hh := not_bd h
  unfold siz rn wid
  rw [decodeL_N] at hh ⊢
  have k0 := (l.getD 0 0).toNat_lt
  have k1 := (l.getD 1 0).toNat_lt
  have k2 := (l.getD 2 0).toNat_lt
  have k3 := (l.getD 3 0).toNat_lt
  rcases decodeN_shape l.length (l.getD 0 0).toNat (l.getD 1 0).toNat (l.getD 2 0).toNat (l.getD 3 0).toNat with ⟨c, e⟩ | ⟨_, _, _, _, e⟩ | ⟨_, _, _, _, _, _, e⟩ | ⟨_, _, _, _, _, _, _, e⟩ | e
  all_goals (rw [e] at hh ⊢; dsimp only at hh ⊢)
  · rw [if_pos c]
  · rw [if_neg (by omega), if_pos (by omega)]
  · rw [if_neg (by omega), if_neg (by omega), if_pos (by omega)]
  · rw [if_neg (by omega), if_neg (by omega), if_neg (by omega)]
  · exact absurd ⟨rfl, rfl⟩ hh
/-- the mark of a byte that is no part of a rune, or its own encoding -/
theorem bd_iff {l : List UInt8} (hne : l ≠ []) (h : rn l = 65533) : bd l = !(l.take 3 == [239, 191, 189]) := by
  cases hb : bd l with
  | false =>
    have he := enc_take hne hb
    rw [h] at he
    have he2 : [239, 191, 189] = l.take (wid l) := by rw [← he]; decide
    have hw := siz_wid hne hb
    rw [h] at hw
    have hw3 : wid l = 3 := by rw [← hw]; rfl
    rw [hw3] at he2
    rw [← he2]; rfl
  | true =>
    have : ¬ (l.take 3 = [239, 191, 189]) := by
      intro e
      obtain ⟨t, rfl⟩ : ∃ t, l = [239, 191, 189] ++ t := ⟨l.drop 3, by rw [← e, List.take_append_drop]⟩
      unfold bd wid at hb
      rw [decodeL_N] at hb
      simp [decodeN] at hb
    simp [this]
/-- the program asks whether the rest begins with the rune's bytes -/
theorem begins_iff {l : List UInt8} (hne : l ≠ []) : (encodeRune (rn l : Int)).isPrefixOf l = !bd l := by
  cases hb : bd l with
  | false =>
    rw [enc_take hne hb]
    simp [List.isPrefixOf_iff_prefix, List.take_prefix]
  | true =>
    have h1 : rn l = 65533 := by unfold bd at hb; simp at hb; exact hb.1
    have h2 := bd_iff hne h1
    rw [hb] at h2
    have e : encodeRune ((65533 : Nat) : Int) = [239, 191, 189] := by decide
    rw [h1, e, show (!true) = false from rfl, Bool.eq_false_iff]
    intro hp
    obtain ⟨t, rfl⟩ := List.isPrefixOf_iff_prefix.1 hp
    simp at h2

/-! what a text says -/
def hv (c : UInt8) : Option Nat := if 48 ≤ c.toNat ∧ c.toNat ≤ 57 then some (c.toNat - 48) else if 97 ≤ c.toNat ∧ c.toNat ≤ 102 then some (c.toNat - 87) else none
def rb2 : List UInt8 → Option (UInt8 × Nat)
  | a :: b :: _ => match hv a, hv b with
    | some x, some y => some (UInt8.ofNat (16 * x + y), 4)
    | _, _ => none
  | _ => none
def rb1 : List UInt8 → Option (UInt8 × Nat)
  | [] => none
  | d :: t => if d = 92 then some (92, 2) else if d = 120 then rb2 t else none
def rb : List UInt8 → Option (UInt8 × Nat)
  | [] => none
  | c :: t => if c = 92 then rb1 t else some (c, 1)
def un : Nat → List UInt8 → Option (List UInt8)
  | 0, _ => some []
  | f + 1, l => if l = [] then some [] else match rb l with
    | none => none
    | some (c, n) => (un f (l.drop n)).map (c :: ·)
def unt (l : List UInt8) : Option (List UInt8) := un l.length l
theorem rb2_width : ∀ {l : List UInt8} {c : UInt8} {n : Nat}, rb2 l = some (c, n) → n = 4 ∧ 2 ≤ l.length
  | [], _, _, h => by cases h
  | [_], _, _, h => by cases h
  | a :: b :: t, c, n, h => by
    rw [rb2] at h
    split at h
    · cases h; simp
    · cases h
theorem rb1_width : ∀ {l : List UInt8} {c : UInt8} {n : Nat}, rb1 l = some (c, n) → 2 ≤ n ∧ n ≤ l.length + 1
  | [], _, _, h => by cases h
  | d :: t, c, n, h => by
    rw [rb1] at h
    split at h
    · cases h; simp
    · split at h
      · have := rb2_width h
        simp only [List.length_cons]; omega
      · cases h
theorem rb_width : ∀ {l : List UInt8} {c : UInt8} {n : Nat}, rb l = some (c, n) → 1 ≤ n ∧ n ≤ l.length
  | [], _, _, h => by cases h
  | d :: t, c, n, h => by
    rw [rb] at h
    split at h
    · have := rb1_width h
      simp only [List.length_cons]; omega
    · cases h; simp
theorem un_fuel : ∀ (f g : Nat) (l : List UInt8), l.length ≤ f → l.length ≤ g → un f l = un g l
  | 0, 0, _, _, _ => rfl
  | 0, g + 1, l, h, _ => by
    have : l = [] := List.eq_nil_of_length_eq_zero (by omega)
    subst this; rfl
  | f + 1, 0, l, _, h => by
    have : l = [] := List.eq_nil_of_length_eq_zero (by omega)
    subst this; rfl
  | f + 1, g + 1, l, h, k => by
    unfold un
    by_cases e : l = []
    · rw [if_pos e, if_pos e]
    · rw [if_neg e, if_neg e]
      have hl : 0 < l.length := List.length_pos_iff.2 e
      cases hr : rb l with
      | none => rfl
      | some r =>
        obtain ⟨c, n⟩ := r
        have := rb_width hr
        dsimp only
        rw [un_fuel f g (l.drop n) (by rw [List.length_drop]; omega) (by rw [List.length_drop]; omega)]
theorem unt_nil : unt [] = some [] := rfl
theorem unt_none {l : List UInt8} (h : l ≠ []) (hr : rb l = none) : unt l = none := by
  have hl : 0 < l.length := List.length_pos_iff.2 h
  obtain ⟨n, hn⟩ : ∃ n, l.length = n + 1 := ⟨l.length - 1, by omega⟩
  unfold unt
  rw [hn]
  unfold un
  rw [if_neg h, hr]
theorem unt_some {l : List UInt8} {c : UInt8} {n : Nat} (hr : rb l = some (c, n)) : unt l = (unt (l.drop n)).map (c :: ·) := by
  have h : l ≠ [] := by rintro rfl; cases hr
  have hl : 0 < l.length := List.length_pos_iff.2 h
  obtain ⟨m, hm⟩ : ∃ m, l.length = m + 1 := ⟨l.length - 1, by omega⟩
  have hw := rb_width hr
  unfold unt
  rw [hm]
  conv => lhs; unfold un
  rw [if_neg h, hr]
  dsimp only
  rw [un_fuel m (l.drop n).length (l.drop n) (by rw [List.length_drop]; omega) (Nat.le_refl _)]
theorem unt_length : ∀ (n : Nat) (l k : List UInt8), l.length ≤ n → unt l = some k → k.length ≤ l.length
  | 0, l, k, h, e => by
    have : l = [] := List.eq_nil_of_length_eq_zero (by omega)
    subst this; rw [unt_nil] at e; cases e; exact Nat.le_refl _
  | n + 1, l, k, h, e => by
    by_cases hl : l = []
    · subst hl; rw [unt_nil] at e; cases e; exact Nat.le_refl _
    cases hr : rb l with
    | none => rw [unt_none hl hr] at e; cases e
    | some r =>
      obtain ⟨c, m⟩ := r
      have hw := rb_width hr
      rw [unt_some hr] at e
      cases hu : unt (l.drop m) with
      | none => rw [hu] at e; cases e
      | some k' =>
        rw [hu] at e; cases e
        have := unt_length n (l.drop m) k' (by rw [List.length_drop]; omega) hu
        rw [List.length_drop] at this
        simp only [List.length_cons]; omega
theorem hxD_not (n : Nat) (h : n < 16) : hv (hxD n) = some n := by
  have : ∀ n : Fin 16, hv (hxD n.val) = some n.val := by decide
  exact this ⟨n, h⟩
theorem rb_hx (c : UInt8) (r : List UInt8) : rb (hx c ++ r) = some (c, 4) := by
  have hc := c.toNat_lt
  have e1 := hxD_not (c.toNat / 16) (by omega)
  have e2 := hxD_not (c.toNat % 16) (by omega)
  have e3 : UInt8.ofNat (16 * (c.toNat / 16) + c.toNat % 16) = c := by
    rw [show 16 * (c.toNat / 16) + c.toNat % 16 = c.toNat by omega]; simp
  show rb (92 :: 120 :: hxD (c.toNat / 16) :: hxD (c.toNat % 16) :: r) = _
  simp [rb, rb1, rb2, e1, e2, e3]
theorem unt_hx (c : UInt8) (r : List UInt8) : unt (hx c ++ r) = (unt r).map (c :: ·) := by
  rw [unt_some (rb_hx c r)]; rfl
theorem map_map_app (p : List UInt8) (c : UInt8) (o : Option (List UInt8)) : (o.map (p ++ ·)).map (c :: ·) = o.map (c :: p ++ ·) := by cases o <;> rfl
theorem unt_hxs : ∀ (p r : List UInt8), unt (hxs p ++ r) = (unt r).map (p ++ ·)
  | [], r => by cases h : unt r <;> simp [hxs, h]
  | c :: p, r => by rw [hxs, List.append_assoc, unt_hx, unt_hxs p r, map_map_app]
theorem unt_bare : ∀ (p r : List UInt8), (∀ c ∈ p, c ≠ 92) → unt (p ++ r) = (unt r).map (p ++ ·)
  | [], r, _ => by cases h : unt r <;> simp [h]
  | c :: p, r, h => by
    have hc : c ≠ 92 := h c (by simp)
    rw [List.cons_append, unt_some (show rb (c :: (p ++ r)) = some (c, 1) by simp [rb, hc]), List.drop_succ_cons, List.drop_zero, unt_bare p r (fun d hd => h d (by simp [hd])), map_map_app]
theorem enc_high {r : Int} (h : 128 ≤ r) : ∀ c ∈ encodeRune r, c ≠ 92 := by
  intro c hc
  unfold encodeRune at hc
  obtain ⟨x, hx, rfl⟩ := List.mem_map.1 hc
  have hb := encodeRuneZ_byte r x hx
  have : 128 ≤ x := by
    unfold encodeRuneZ at hx
    rw [if_neg (by omega)] at hx
    split at hx
    · simp at hx; omega
    · split at hx
      · simp at hx; omega
      · split at hx
        · simp at hx; omega
        · simp at hx; omega
  intro e
  have := congrArg UInt8.toNat e
  rw [show x.toNat.toUInt8 = UInt8.ofNat x.toNat from rfl, UInt8.toNat_ofNat_of_lt' (by show _ < 256; omega)] at this
  simp at this
  omega
theorem unt_piece {l : List UInt8} (hne : l ≠ []) (r : List UInt8) : unt (piece l ++ r) = (unt r).map (l.take (wid l) ++ ·) := by
  obtain ⟨c, t, rfl⟩ := List.exists_cons_of_ne_nil hne
  unfold piece
  cases hb : bd (c :: t) with
  | true =>
    have hw : wid (c :: t) = 1 := by unfold bd at hb; simp at hb; exact hb.2
    rw [if_pos rfl, hw, List.headD_cons, unt_hx]
    simp
  | false =>
    rw [if_neg (by decide)]
    by_cases h92 : rn (c :: t) = 92
    · rw [if_pos h92]
      rcases rune_shape hne with ⟨e1, e2, _⟩ | ⟨_, e⟩ | ⟨e, _⟩
      · rw [e2]
        have : c = 92 := by
          rw [List.headD_cons, h92] at e1
          exact (UInt8.toNat_inj.1 (show (92 : UInt8).toNat = c.toNat from e1)).symm
        subst this
        rw [unt_some (show rb ([92, 92] ++ r) = some (92, 2) by simp [rb, rb1])]
        simp
      · omega
      · omega
    · rw [if_neg h92]
      split
      · refine unt_bare _ _ ?_
        rcases rune_shape hne with ⟨e1, e2, _⟩ | ⟨e1, e2⟩ | ⟨e, _⟩
        · rw [e2]
          intro d hd
          simp at hd
          subst hd
          rintro rfl
          exact h92 (by rw [e1]; rfl)
        · unfold bd at hb; simp [e1, e2] at hb
        · rw [← enc_take hne hb]
          exact enc_high (by omega)
      · exact unt_hxs _ _
/-- what is shown is read -/
theorem unt_txt : ∀ (n : Nat) (l : List UInt8), l.length ≤ n → unt (txt l) = some l
  | 0, l, h => by
    have : l = [] := List.eq_nil_of_length_eq_zero (by omega)
    subst this; rfl
  | n + 1, l, h => by
    by_cases e : l = []
    · subst e; rfl
    · have h1 := wid_pos l
      rw [txt_step e, unt_piece e, unt_txt n (l.drop (wid l)) (by rw [List.length_drop]; omega), Option.map_some, List.take_append_drop]

/-- Read, of a text of any length: 0 and the key, or an error -/
def readE (l : List UInt8) : Int × List UInt8 :=
  if 128 < l.length then (3, []) else match unt l with
    | none => (6, [])
    | some k => if txt k ≠ l then (6, []) else if 32 < k.length then (3, []) else (0, k)
theorem read_show {k : List UInt8} (h : k.length ≤ 32) : readE (txt k) = (0, k) := by
  have h1 := txt_length k.length k (Nat.le_refl _)
  unfold readE
  rw [if_neg (by omega), unt_txt k.length k (Nat.le_refl _)]
  dsimp only
  rw [if_neg (by simp), if_neg (by omega)]
theorem show_read {l k : List UInt8} (h : readE l = (0, k)) : txt k = l ∧ k.length ≤ 32 := by
  unfold readE at h
  split at h
  · cases h
  · cases hu : unt l with
    | none => rw [hu] at h; cases h
    | some k' =>
      rw [hu] at h
      dsimp only at h
      split at h
      · cases h
      · rename_i h1
        split at h
        · cases h
        · cases h
          exact ⟨by simpa using h1, by omega⟩
end Go.Proofs.Ytgljgjkoaaibnaa.Kl
