/-
  Plain functions, joined into one text.
-/
import Derived.Lib.Hide
import Derived.Lib.Strings
import Derived.Test.YtebjhjmlpodkgaaProg
import Derived.WalkKit
import Derived.ProofKit
import Derived.BigQuiet
import Derived.WalkLawsBesides
import Derived.WalkSpells
import Derived.Deep.Cut
import Derived.Deep.RegionHeld3
import Derived.Deep.AppendLies
import Derived.OwnWalk
/-
  Plain functions on keys: order, common bytes, neighbours. They import nothing of the program.
-/
namespace Go.Proofs.Ytebjhjmlpodkgaa.Kl

/-- the bytes of a string -/
def L (s : ByteArray) : List UInt8 := s.data.toList
theorem L_length (s : ByteArray) : (L s).length = s.size := (Lib.size_eq s).symm
/-- a comes before b -/
def lt : List UInt8 → List UInt8 → Bool
  | _, [] => false
  | [], _ :: _ => true
  | x :: xs, y :: ys => if x = y then lt xs ys else decide (x.toNat < y.toNat)
/-- with how many equal bytes both begin -/
def cm : List UInt8 → List UInt8 → Nat
  | x :: xs, y :: ys => if x = y then cm xs ys + 1 else 0
  | [], _ => 0
  | _ :: _, [] => 0
def ord (a b : List UInt8) : Int := if lt a b then -1 else if lt b a then 1 else 0

theorem toNat_inj {x y : UInt8} (h : x.toNat = y.toNat) : x = y := UInt8.toNat_inj.1 h
theorem lt_nil (a : List UInt8) : lt a [] = false := by cases a <;> rfl
theorem lt_same (x : UInt8) (a b : List UInt8) : lt (x :: a) (x :: b) = lt a b := by simp [lt]
theorem lt_less {x y : UInt8} (a b : List UInt8) (h : x.toNat < y.toNat) : lt (x :: a) (y :: b) = true := by
  have : x ≠ y := fun e => by subst e; omega
  simp [lt, this, h]
theorem lt_more {x y : UInt8} (a b : List UInt8) (h : y.toNat < x.toNat) : lt (x :: a) (y :: b) = false := by
  have : x ≠ y := fun e => by subst e; omega
  simp [lt, this]; omega
theorem lt_cons {x y : UInt8} {a b : List UInt8} : lt (x :: a) (y :: b) = true ↔ x.toNat < y.toNat ∨ (x = y ∧ lt a b = true) := by
  by_cases h : x = y
  · subst h; simp [lt]
  · simp [lt, h]
theorem lt_irrefl : ∀ a, lt a a = false
  | [] => rfl
  | x :: a => by rw [lt_same]; exact lt_irrefl a
theorem lt_asymm : ∀ {a b}, lt a b = true → lt b a = false
  | _, [], h => by rw [lt_nil] at h; cases h
  | [], _ :: _, _ => lt_nil _
  | x :: a, y :: b, h => by
    rcases lt_cons.1 h with h' | ⟨rfl, h'⟩
    · exact lt_more _ _ h'
    · rw [lt_same]; exact lt_asymm h'
theorem lt_trans : ∀ {a b c}, lt a b = true → lt b c = true → lt a c = true
  | _, [], _, h, _ => by rw [lt_nil] at h; cases h
  | _, _ :: _, [], _, h => by rw [lt_nil] at h; cases h
  | [], _ :: _, _ :: _, _, _ => rfl
  | x :: a, y :: b, z :: c, h, g => by
    rcases lt_cons.1 h with h' | ⟨rfl, h'⟩ <;> rcases lt_cons.1 g with g' | ⟨rfl, g'⟩
    · exact lt_less _ _ (by omega)
    · exact lt_less _ _ h'
    · exact lt_less _ _ g'
    · rw [lt_same]; exact lt_trans h' g'
theorem lt_total : ∀ {a b}, lt a b = false → lt b a = false → a = b
  | [], [], _, _ => rfl
  | [], _ :: _, h, _ => by cases h
  | _ :: _, [], _, h => by cases h
  | x :: a, y :: b, h, g => by
    by_cases e : x = y
    · subst e; rw [lt_same] at h g; rw [lt_total h g]
    · simp [lt, e, Ne.symm e] at h g
      exact absurd (toNat_inj (by omega)) e
/-- a ≤ b < c -/
theorem le_lt {a b c : List UInt8} (h : lt b a = false) (g : lt b c = true) : lt a c = true := by
  cases e : lt a b with
  | true => exact lt_trans e g
  | false => rw [lt_total e h]; exact g
theorem lt_le {a b c : List UInt8} (h : lt a b = true) (g : lt c b = false) : lt a c = true := by
  cases e : lt b c with
  | true => exact lt_trans h e
  | false => rw [← lt_total e g]; exact h
theorem le_le {a b c : List UInt8} (h : lt b a = false) (g : lt c b = false) : lt c a = false := by
  cases e : lt c a with
  | false => rfl
  | true => rw [lt_le e h] at g; cases g

theorem lt_iff : ∀ (a b : List UInt8), a < b ↔ lt a b = true
  | _, [] => by simp [lt_nil]
  | [], _ :: _ => by simp [lt]
  | x :: a, y :: b => by
    rw [List.cons_lt_cons_iff, lt_cons, lt_iff a b, UInt8.lt_iff_toNat_lt]

theorem ord_eq {a b : List UInt8} : ord a b = 0 ↔ a = b := by
  unfold ord
  constructor
  · intro h
    cases e : lt a b <;> cases f : lt b a <;> simp [e, f] at h
    exact lt_total e f
  · rintro rfl; simp [lt_irrefl]
theorem ord_neg {a b : List UInt8} : ord a b < 0 ↔ lt a b = true := by
  unfold ord
  cases e : lt a b <;> cases f : lt b a <;> simp
theorem ord_nonneg {a b : List UInt8} : 0 ≤ ord a b ↔ lt a b = false := by
  unfold ord
  cases e : lt a b <;> cases f : lt b a <;> simp
theorem ord_pos {a b : List UInt8} : 0 < ord a b ↔ lt b a = true := by
  unfold ord
  cases e : lt a b
  · cases f : lt b a <;> simp
  · rw [lt_asymm e]; simp
theorem ord_nonpos {a b : List UInt8} : ord a b ≤ 0 ↔ lt b a = false := by
  unfold ord
  cases e : lt a b
  · cases f : lt b a <;> simp
  · rw [lt_asymm e]; simp
theorem ord_swap (a b : List UInt8) : ord a b = - ord b a := by
  unfold ord
  cases e : lt a b
  · cases f : lt b a <;> simp
  · rw [lt_asymm e]; simp
theorem ord_range (a b : List UInt8) : -1 ≤ ord a b ∧ ord a b ≤ 1 := by
  unfold ord
  cases e : lt a b <;> cases f : lt b a <;> simp

/-! both begin with the same k bytes -/
theorem cm_drop : ∀ (k : Nat) (a b : List UInt8), k ≤ a.length → k ≤ b.length → a.take k = b.take k → cm a b = k + cm (a.drop k) (b.drop k)
  | 0, a, b, _, _, _ => by simp
  | k + 1, x :: a, y :: b, h, g, e => by
    simp only [List.take_succ_cons, List.cons.injEq] at e
    obtain ⟨rfl, e⟩ := e
    simp only [List.length_cons] at h g
    rw [List.drop_succ_cons, List.drop_succ_cons]
    have := cm_drop k a b (by omega) (by omega) e
    simp only [cm, if_pos]
    omega
  | k + 1, [], _, h, _, _ => by simp at h
  | k + 1, _ :: _, [], _, h, _ => by simp at h
theorem lt_drop : ∀ (k : Nat) (a b : List UInt8), a.take k = b.take k → k ≤ a.length → k ≤ b.length → lt a b = lt (a.drop k) (b.drop k)
  | 0, a, b, _, _, _ => by simp
  | k + 1, x :: a, y :: b, e, h, g => by
    simp only [List.take_succ_cons, List.cons.injEq] at e
    obtain ⟨rfl, e⟩ := e
    simp only [List.length_cons] at h g
    rw [List.drop_succ_cons, List.drop_succ_cons, lt_same]
    exact lt_drop k a b e (by omega) (by omega)
  | k + 1, [], _, _, h, _ => by simp at h
  | k + 1, _ :: _, [], _, _, h => by simp at h
theorem ord_drop (k : Nat) (a b : List UInt8) (e : a.take k = b.take k) (h : k ≤ a.length) (g : k ≤ b.length) : ord a b = ord (a.drop k) (b.drop k) := by
  unfold ord
  rw [lt_drop k a b e h g, lt_drop k b a e.symm g h]
/-- they differ at place k -/
theorem cm_differ (k : Nat) (a b : List UInt8) (e : a.take k = b.take k) (h : k < a.length) (g : k < b.length) (hne : a[k] ≠ b[k]) : cm a b = k := by
  rw [cm_drop k a b (by omega) (by omega) e, List.drop_eq_getElem_cons h, List.drop_eq_getElem_cons g]
  simp [cm, hne]
theorem ord_less (k : Nat) (a b : List UInt8) (e : a.take k = b.take k) (h : k < a.length) (g : k < b.length) (hl : (a[k].toNat : Int) < (b[k].toNat : Int)) : ord a b = -1 := by
  rw [ord_drop k a b e (by omega) (by omega), List.drop_eq_getElem_cons h, List.drop_eq_getElem_cons g]
  unfold ord
  rw [lt_less _ _ (by omega)]; rfl
theorem ord_more (k : Nat) (a b : List UInt8) (e : a.take k = b.take k) (h : k < a.length) (g : k < b.length) (hl : (b[k].toNat : Int) < (a[k].toNat : Int)) : ord a b = 1 := by
  rw [ord_swap, ord_less k b a e.symm g h hl]; rfl
/-- one of them ends at place k -/
theorem cm_ends (k : Nat) (a b : List UInt8) (e : a.take k = b.take k) (h : k ≤ a.length) (g : k ≤ b.length) (hk : k = a.length ∨ k = b.length) : cm a b = k := by
  rw [cm_drop k a b h g e]
  rcases hk with rfl | rfl
  · rw [List.drop_length]; simp [cm]
  · rw [List.drop_length]; cases a.drop b.length <;> simp [cm]
theorem ord_ends (k : Nat) (a b : List UInt8) (e : a.take k = b.take k) (h : k ≤ a.length) (g : k ≤ b.length) (hk : k = a.length ∨ k = b.length) :
    ord a b = if a.length < b.length then -1 else if b.length < a.length then 1 else 0 := by
  rw [ord_drop k a b e h g]
  have e1 : (a.drop k).length = a.length - k := List.length_drop
  have e2 : (b.drop k).length = b.length - k := List.length_drop
  generalize a.drop k = a' at *
  generalize b.drop k = b' at *
  unfold ord
  match a', b', e1, e2 with
  | [], [], e1, e2 => simp at e1 e2; simp [lt]; split <;> (try split) <;> omega
  | [], _ :: _, e1, e2 => simp at e1 e2; simp [lt]; omega
  | _ :: _, [], e1, e2 => simp at e1 e2; simp [lt]; omega
  | _ :: _, _ :: _, e1, e2 => simp at e1 e2; omega
theorem cm_le : ∀ a b : List UInt8, cm a b ≤ a.length ∧ cm a b ≤ b.length
  | [], _ => by simp [cm]
  | _ :: _, [] => by simp [cm]
  | x :: a, y :: b => by
    by_cases h : x = y
    · have := cm_le a b
      simp [cm, h]; omega
    · simp [cm, h]
theorem cm_take : ∀ a b : List UInt8, a.take (cm a b) = b.take (cm a b)
  | [], _ => by simp [cm]
  | _ :: _, [] => by simp [cm]
  | x :: a, y :: b => by
    by_cases h : x = y
    · subst h; simp [cm, cm_take a b]
    · simp [cm, h]
theorem cm_next : ∀ a b : List UInt8, ∀ (h : cm a b < a.length) (g : cm a b < b.length), a[cm a b] ≠ b[cm a b]
  | [], _ => by simp [cm]
  | _ :: _, [] => by simp [cm]
  | x :: a, y :: b => by
    by_cases h : x = y
    · subst h
      simp only [cm, if_pos, List.length_cons]
      intro h g
      simpa using cm_next a b (by omega) (by omega)
    · simp [cm, h]
theorem cm_comm : ∀ a b : List UInt8, cm a b = cm b a
  | [], [] => rfl
  | [], _ :: _ => rfl
  | _ :: _, [] => rfl
  | x :: a, y :: b => by
    by_cases h : x = y
    · subst h; simp [cm, cm_comm a b]
    · simp [cm, h, Ne.symm h]
/-- of three keys in order -/
theorem cm_three : ∀ a b c : List UInt8, lt b a = false → lt c b = false → cm a c = min (cm a b) (cm b c)
  | [], _, _, _, _ => by simp [cm]
  | _ :: _, [], _, h, _ => by simp [lt] at h
  | _ :: _, _ :: _, [], _, h => by simp [lt] at h
  | x :: a, y :: b, z :: c, h, g => by
    by_cases e : x = y
    · subst e
      rw [lt_same] at h
      by_cases f : x = z
      · subst f
        rw [lt_same] at g
        have := cm_three a b c h g
        simp [cm]; omega
      · simp [cm, f]
    · by_cases f : y = z
      · subst f; simp [cm, e]
      · have h1 : x ≠ z := by
          rintro rfl
          simp [lt, e, Ne.symm e, f, Ne.symm f] at h g
          exact e (toNat_inj (by omega))
        simp [cm, e, h1]

/-! neighbours -/
/-- without the last bytes 255 -/
def stem (l : List UInt8) : List UInt8 := (l.reverse.dropWhile (· == 255)).reverse
theorem stem_nil : stem [] = [] := rfl
theorem stem_snoc (l : List UInt8) (c : UInt8) : stem (l ++ [c]) = if c = 255 then stem l else l ++ [c] := by
  unfold stem
  rw [List.reverse_append]
  by_cases h : c = 255
  · subst h; simp
  · simp [h]
/-- the last byte greater by one -/
def up (l : List UInt8) : List UInt8 := match l.getLast? with | none => [] | some c => l.dropLast ++ [UInt8.ofNat (c.toNat + 1)]
theorem up_snoc (l : List UInt8) (c : UInt8) : up (l ++ [c]) = l ++ [UInt8.ofNat (c.toNat + 1)] := by
  unfold up; simp
def rai (l : List UInt8) : Option (List UInt8) := if stem l = [] then none else some (up (stem l))
def raiD (l : List UInt8) : List UInt8 := (rai l).getD []

theorem stem_shape (l : List UInt8) : (stem l = [] ∧ l = List.replicate l.length 255) ∨ ∃ q c m, c.toNat < 255 ∧ stem l = q ++ [c] ∧ l = q ++ c :: List.replicate m 255 := by
  induction hn : l.length generalizing l with
  | zero => exact .inl ⟨by rw [List.eq_nil_of_length_eq_zero hn]; rfl, by rw [List.eq_nil_of_length_eq_zero hn]; rfl⟩
  | succ n ih =>
    obtain ⟨l', c, rfl⟩ : ∃ l' c, l = l' ++ [c] := ⟨l.dropLast, l.getLast (by intro e; rw [e] at hn; cases hn), (List.dropLast_concat_getLast _).symm⟩
    rw [stem_snoc]
    have hl : l'.length = n := by simpa using hn
    by_cases h : c = 255
    · subst h
      rw [if_pos rfl]
      rcases ih l' hl with ⟨h1, h2⟩ | ⟨q, c, m, h0, h1, h2⟩
      · refine .inl ⟨h1, ?_⟩
        rw [List.replicate_succ', ← h2]
      · refine .inr ⟨q, c, m + 1, h0, h1, ?_⟩
        rw [h2, List.replicate_succ']
        simp
    · rw [if_neg h]
      refine .inr ⟨l', c, 0, ?_, rfl, by simp⟩
      have := c.toNat_lt
      rcases Nat.lt_or_ge c.toNat 255 with h' | h'
      · exact h'
      · exact absurd (toNat_inj (show c.toNat = 255 by omega)) h
theorem rai_shape (l : List UInt8) : (rai l = none ∧ l = List.replicate l.length 255) ∨ ∃ q c m, c.toNat < 255 ∧ rai l = some (q ++ [UInt8.ofNat (c.toNat + 1)]) ∧ l = q ++ c :: List.replicate m 255 := by
  unfold rai
  rcases stem_shape l with ⟨h1, h2⟩ | ⟨q, c, m, h0, h1, h2⟩
  · exact .inl ⟨by rw [if_pos h1], h2⟩
  · refine .inr ⟨q, c, m, h0, ?_, h2⟩
    rw [if_neg (by rw [h1]; simp), h1, up_snoc]

/-- 255, so many times, is the greatest one -/
theorem max_ge : ∀ (m : Nat) (t : List UInt8), lt t (List.replicate m 255) = false ↔ List.replicate m 255 <+: t
  | 0, t => by simp [lt_nil]
  | m + 1, [] => by simp [List.replicate_succ, lt]
  | m + 1, x :: t => by
    have hx := x.toNat_lt
    by_cases h : x = 255
    · subst h
      rw [List.replicate_succ, lt_same, max_ge m t, List.cons_prefix_cons]; simp
    · have hlt : x.toNat < (255 : UInt8).toNat := by
        rcases Nat.lt_or_ge x.toNat 255 with h' | h'
        · exact h'
        · exact absurd (toNat_inj (show x.toNat = 255 by omega)) h
      rw [List.replicate_succ, lt_less _ _ hlt, List.cons_prefix_cons]
      simp [Ne.symm h]
theorem lt_app (q a b : List UInt8) : lt (q ++ a) (q ++ b) = lt a b := by
  induction q with
  | nil => rfl
  | cons x q ih => simp only [List.cons_append, lt_same, ih]
/-- what lies between two that begin with q begins with it, too -/
theorem between_begins : ∀ (q a b t : List UInt8), lt t (q ++ a) = false → lt t (q ++ b) = true → ∃ t', t = q ++ t'
  | [], _, _, t, _, _ => ⟨t, rfl⟩
  | _ :: _, _, _, [], h, _ => by simp [lt] at h
  | x :: q, a, b, y :: t, h, g => by
    have e : y = x := by
      rcases lt_cons.1 g with g | ⟨g, _⟩
      · rw [List.cons_append, lt_less _ _ g] at h; cases h
      · exact g
    subst e
    rw [List.cons_append, lt_same] at h g
    obtain ⟨t', rfl⟩ := between_begins q a b t h g
    exact ⟨t', rfl⟩
theorem ofNat_up {c : UInt8} (h : c.toNat < 255) : (UInt8.ofNat (c.toNat + 1)).toNat = c.toNat + 1 := UInt8.toNat_ofNat_of_lt' (by show _ < 256; omega)
theorem lt_pre : ∀ (a t : List UInt8), a <+: t → lt t a = false
  | [], t, _ => lt_nil t
  | x :: a, [], h => by simp at h
  | x :: a, y :: t, h => by
    rw [List.cons_prefix_cons] at h
    obtain ⟨rfl, h⟩ := h
    rw [lt_same]; exact lt_pre a t h
theorem rai_some {a p : List UInt8} (h : rai a = some p) (t : List UInt8) : a <+: t ↔ lt t a = false ∧ lt t p = true := by
  rcases rai_shape a with ⟨h1, _⟩ | ⟨q, c, m, h0, h1, h2⟩
  · rw [h1] at h; cases h
  rw [h1] at h
  cases h
  have hu := ofNat_up h0
  constructor
  · rintro ⟨x, rfl⟩
    refine ⟨lt_pre _ _ ⟨x, rfl⟩, ?_⟩
    rw [h2, List.append_assoc, lt_app]
    exact lt_less _ _ (by omega)
  · rintro ⟨g1, g2⟩
    rw [h2] at g1 ⊢
    obtain ⟨t', rfl⟩ := between_begins q _ _ t g1 g2
    rw [lt_app] at g1 g2
    rw [List.prefix_append_right_inj]
    match t', g1, g2 with
    | [], g1, _ => simp [lt] at g1
    | d :: t', g1, g2 =>
      have e : d = c := by
        rcases lt_cons.1 g2 with g2 | ⟨_, g2⟩
        · rcases Nat.lt_or_ge d.toNat c.toNat with g | g
          · rw [lt_less _ _ g] at g1; cases g1
          · exact toNat_inj (by omega)
        · rw [lt_nil] at g2; cases g2
      subst e
      rw [lt_same, max_ge] at g1
      rw [List.cons_prefix_cons]; exact ⟨rfl, g1⟩
theorem rai_none {a : List UInt8} (h : rai a = none) (t : List UInt8) : a <+: t ↔ lt t a = false := by
  rcases rai_shape a with ⟨_, h2⟩ | ⟨q, c, m, _, h1, _⟩
  · rw [h2, max_ge]
  · rw [h1] at h; cases h
theorem rai_above {a p : List UInt8} (h : rai a = some p) : lt a p = true := ((rai_some h a).1 (List.prefix_refl a)).2
theorem rai_length {a p : List UInt8} (h : rai a = some p) : p.length ≤ a.length ∧ 0 < p.length := by
  rcases rai_shape a with ⟨h1, _⟩ | ⟨q, c, m, h0, h1, h2⟩
  · rw [h1] at h; cases h
  · rw [h1] at h
    cases h
    rw [h2]; simp
/-- nothing that is not longer lies between a and what is above all that begin with a -/
theorem rai_least {a p t : List UInt8} (h : rai a = some p) (ht : t.length ≤ a.length) (g : lt a t = true) : lt t p = false := by
  cases e : lt t p with
  | false => rfl
  | true =>
    obtain ⟨x, hx⟩ := (rai_some h t).2 ⟨lt_asymm g, e⟩
    have : x = [] := by
      have := congrArg List.length hx
      rw [List.length_append] at this
      exact List.eq_nil_of_length_eq_zero (by omega)
    subst this
    rw [List.append_nil] at hx
    subst hx
    rw [lt_irrefl] at g; cases g
theorem rai_greatest {a t : List UInt8} (h : rai a = none) (ht : t.length ≤ a.length) : lt a t = false := by
  cases e : lt a t with
  | false => rfl
  | true =>
    obtain ⟨x, hx⟩ := (rai_none h t).2 (lt_asymm e)
    have : x = [] := by
      have := congrArg List.length hx
      rw [List.length_append] at this
      exact List.eq_nil_of_length_eq_zero (by omega)
    subst this
    rw [List.append_nil] at hx
    subst hx
    rw [lt_irrefl] at e; cases e
/-- nothing lies between a and a with a byte 0 -/
theorem zero_above : ∀ a : List UInt8, lt a (a ++ [0]) = true
  | [] => rfl
  | x :: a => by rw [List.cons_append, lt_same]; exact zero_above a
theorem zero_least : ∀ (a t : List UInt8), lt a t = true → lt t (a ++ [0]) = false
  | [], [], h => by cases h
  | [], x :: t, _ => by
    rw [List.nil_append]
    cases e : lt (x :: t) [0] with
    | false => rfl
    | true =>
      rcases lt_cons.1 e with g | ⟨_, g⟩
      · simp at g
      · rw [lt_nil] at g; cases g
  | _ :: _, [], h => by rw [lt_nil] at h; cases h
  | x :: a, y :: t, h => by
    rw [List.cons_append]
    rcases lt_cons.1 h with h' | ⟨rfl, h'⟩
    · exact lt_more _ _ h'
    · rw [lt_same]; exact zero_least a t h'

/-- the least of the shortest keys above a and not above b, if a is below b -/
def btw (a b : List UInt8) : List UInt8 := if cm a b = a.length then a ++ [0] else b.take (cm a b) ++ [UInt8.ofNat ((a.getD (cm a b) 0).toNat + 1)]
/-- which byte it ends with -/
def btwC (a b : List UInt8) : Nat := if cm a b = a.length then 0 else (a.getD (cm a b) 0).toNat + 1

theorem take_of_cm {a b : List UInt8} (h : cm a b = a.length) : b.take (cm a b) = a := by
  rw [← cm_take, h, List.take_length]
/-- a below b: how they look -/
theorem below_shape {a b : List UInt8} (h : lt a b = true) : (∃ y b', cm a b = a.length ∧ b = a ++ y :: b') ∨ ∃ q x a' y b', cm a b = q.length ∧ a = q ++ x :: a' ∧ b = q ++ y :: b' ∧ x.toNat < y.toNat := by
  have hle := cm_le a b
  have ht := cm_take a b
  have hd := lt_drop (cm a b) a b ht hle.1 hle.2
  rw [h] at hd
  by_cases e : cm a b = a.length
  · left
    have : b.take a.length = a := by have := ht; rw [e, List.take_length] at this; exact this.symm
    match hb : b.drop a.length with
    | [] => rw [e, hb, lt_nil] at hd; cases hd
    | y :: b' => exact ⟨y, b', e, by rw [← hb]; conv => lhs; rw [← List.take_append_drop a.length b, this]⟩
  · right
    have h1 : cm a b < a.length := by omega
    rcases Nat.lt_or_ge (cm a b) b.length with h2 | h2
    · have hn := cm_next a b h1 h2
      refine ⟨a.take (cm a b), a[cm a b], a.drop (cm a b + 1), b[cm a b], b.drop (cm a b + 1), by simp; omega, ?_, ?_, ?_⟩
      · rw [← List.drop_eq_getElem_cons h1, List.take_append_drop]
      · rw [ht, ← List.drop_eq_getElem_cons h2, List.take_append_drop]
      · rw [List.drop_eq_getElem_cons h1, List.drop_eq_getElem_cons h2] at hd
        rcases lt_cons.1 hd.symm with g | ⟨g, _⟩
        · exact g
        · exact absurd g hn
    · rw [List.drop_of_length_le h2, lt_nil] at hd; cases hd
theorem cm_app (q a b : List UInt8) : cm (q ++ a) (q ++ b) = q.length + cm a b := by
  induction q with
  | nil => simp
  | cons x q ih => simp only [List.cons_append, cm, if_pos, ih, List.length_cons]; omega
theorem btw_same {a : List UInt8} {y : UInt8} {b' : List UInt8} (_h : cm a (a ++ y :: b') = a.length) : btw a (a ++ y :: b') = a ++ [0] := by
  unfold btw; rw [if_pos _h]
theorem btw_differ {q a' b' : List UInt8} {x y : UInt8} (h : x.toNat < y.toNat) : btw (q ++ x :: a') (q ++ y :: b') = q ++ [UInt8.ofNat (x.toNat + 1)] := by
  have hne : x ≠ y := fun e => by subst e; omega
  have hc : cm (q ++ x :: a') (q ++ y :: b') = q.length := by rw [cm_app]; simp [cm, hne]
  unfold btw
  rw [hc, if_neg (by simp), List.getD_eq_getElem?_getD]
  simp
theorem btw_law {a b : List UInt8} (h : lt a b = true) :
    lt a (btw a b) = true ∧ lt b (btw a b) = false ∧ (btw a b).length = cm a b + 1 ∧ (btw a b).take (cm a b) = b.take (cm a b) ∧ ∀ t, lt a t = true → lt b t = false → t.length ≤ (btw a b).length → lt t (btw a b) = false := by
  rcases below_shape h with ⟨y, b', hc, rfl⟩ | ⟨q, x, a', y, b', hc, rfl, rfl, hxy⟩
  · rw [btw_same hc, hc]
    refine ⟨zero_above a, ?_, by simp, by simp, fun t g _ _ => zero_least a t g⟩
    rw [lt_app]
    cases e : lt (y :: b') [0] with
    | false => rfl
    | true =>
      rcases lt_cons.1 e with g | ⟨_, g⟩
      · simp at g
      · rw [lt_nil] at g; cases g
  · rw [btw_differ hxy, hc]
    have hy := y.toNat_lt
    have hu := ofNat_up (c := x) (by omega)
    refine ⟨by rw [lt_app]; exact lt_less _ _ (by omega), ?_, by simp, by simp, fun t g1 g2 g3 => ?_⟩
    · rw [lt_app]
      cases e : lt (y :: b') [UInt8.ofNat (x.toNat + 1)] with
      | false => rfl
      | true =>
        rcases lt_cons.1 e with g | ⟨_, g⟩
        · omega
        · rw [lt_nil] at g; cases g
    · cases e : lt t (q ++ [UInt8.ofNat (x.toNat + 1)]) with
      | false => rfl
      | true =>
        obtain ⟨t', rfl⟩ := between_begins q _ _ t (lt_asymm g1) e
        rw [lt_app] at g1 e
        simp at g3
        match t', g1, e, g3 with
        | [], g1, _, _ => rw [lt_nil] at g1; cases g1
        | [d], g1, e, _ =>
          rcases lt_cons.1 e with g | ⟨_, g⟩
          · rcases lt_cons.1 g1 with k | ⟨_, k⟩
            · omega
            · rw [lt_nil] at k; cases k
          · rw [lt_nil] at g; cases g
        | _ :: _ :: _, _, _, g3 => simp at g3
/-- the bytes before the last one of the answer don't do, and it does -/
theorem btw_tries {a b : List UInt8} (h : lt a b = true) :
    btwC a b < 256 ∧ btw a b = b.take (cm a b) ++ [UInt8.ofNat (btwC a b)] ∧ lt a (b.take (cm a b) ++ [UInt8.ofNat (btwC a b)]) = true ∧ lt b (b.take (cm a b) ++ [UInt8.ofNat (btwC a b)]) = false ∧
      ∀ c, c < btwC a b → lt a (b.take (cm a b) ++ [UInt8.ofNat c]) = false := by
  have hl := btw_law h
  have he : btw a b = b.take (cm a b) ++ [UInt8.ofNat (btwC a b)] := by
    unfold btw btwC
    by_cases e : cm a b = a.length
    · rw [if_pos e, if_pos e, take_of_cm e]; rfl
    · rw [if_neg e, if_neg e]
  refine ⟨?_, he, by rw [← he]; exact hl.1, by rw [← he]; exact hl.2.1, fun c hc => ?_⟩
  · rcases below_shape h with ⟨y, b', hc, rfl⟩ | ⟨q, x, a', y, b', hc, rfl, rfl, hxy⟩
    · unfold btwC; rw [if_pos hc]; decide
    · unfold btwC
      rw [hc, if_neg (by simp), List.getD_eq_getElem?_getD]
      have := y.toNat_lt
      simp; omega
  · rcases below_shape h with ⟨y, b', hk, rfl⟩ | ⟨q, x, a', y, b', hk, rfl, rfl, hxy⟩
    · unfold btwC at hc; rw [if_pos hk] at hc; omega
    · unfold btwC at hc
      rw [hk, if_neg (by simp), List.getD_eq_getElem?_getD] at hc
      simp at hc
      rw [hk, List.take_left, lt_app]
      have hx := x.toNat_lt
      have hcn : (UInt8.ofNat c).toNat = c := UInt8.toNat_ofNat_of_lt' (by show _ < 256; omega)
      cases e : lt (x :: a') [UInt8.ofNat c] with
      | false => rfl
      | true =>
        rcases lt_cons.1 e with g | ⟨_, g⟩
        · omega
        · rw [lt_nil] at g; cases g
end Go.Proofs.Ytebjhjmlpodkgaa.Kl

/-
  Contracts of the functions that check keys.
-/
namespace Go.Proofs.Ytebjhjmlpodkgaa.KK
open Go.ChangeShapes Go.WideShapes Go.ChangeAt Go.RowKit Go.Proofs

/-- the error of a key of so many bytes, of two keys -/
def chk1 (n : Nat) : Int := if n ≤ 32 then 0 else 3
def chk2 (n m : Nat) : Int := if n ≤ 32 ∧ m ≤ 32 then 0 else 3
theorem chk1_ok {n : Nat} (h : n ≤ 32) : chk1 n = 0 := if_pos h
theorem chk1_no {n : Nat} (h : ¬ n ≤ 32) : chk1 n = 3 := if_neg h
theorem chk2_ok {n m : Nat} (h : n ≤ 32) (g : m ≤ 32) : chk2 n m = 0 := if_pos ⟨h, g⟩
theorem chk2_no {n m : Nat} (h : ¬ (n ≤ 32 ∧ m ≤ 32)) : chk2 n m = 3 := if_neg h
theorem retI {a b : Int} {k : IntKind} (h : a = b) : Ending.returned (.int k a) = .returned (.int k b) := by rw [h]
theorem retB {a b : Bool} (h : a = b) : Ending.returned (.bool a) = .returned (.bool b) := by rw [h]

theorem kCheck_any (s : ByteArray) (w : World) (hs : s.size ≤ 9223372036854775807) :
    Calls Try.prog 103 #[.string s] w fun e w' => e = .returned (.int .i64 (chk1 s.size)) ∧ w = w' := by
  by_cases h : s.size ≤ 32
  · have H := Lib.hid (chk1_ok h)
    go_enter Try.func103, Try.ntmps103
    go_wp2
    go_ret
    exact ⟨by rw [H.out]; rfl, rfl⟩
  · have H := Lib.hid (chk1_no h)
    have h' : 32 < s.size := by omega
    clear h
    go_enter Try.func103, Try.ntmps103
    go_wp2
    go_ret
    exact ⟨by rw [H.out]; rfl, rfl⟩
theorem checkBoth_any (a b : ByteArray) (w : World) (ha : a.size ≤ 9223372036854775807) (hb : b.size ≤ 9223372036854775807) :
    Calls Try.prog 111 #[.string a, .string b] w fun e w' => e = .returned (.int .i64 (chk2 a.size b.size)) ∧ w = w' := by
  by_cases h : a.size ≤ 32
  · have h1 := fun w => kCheck_any a w ha
    rw [chk1_ok h] at h1
    have h2 := fun w => kCheck_any b w hb
    rw [show chk1 b.size = chk2 a.size b.size by unfold chk1 chk2; simp [h]] at h2
    have H1 := Lib.hid h1
    have H2 := Lib.hid h2
    clear h1 h2
    go_enter Try.func111, Try.ntmps111
    go_wp2_with fail
    refine (H1.out _).mono ?_
    rintro e w' ⟨rfl, rfl⟩
    go_wp2_with fail
    refine (H2.out _).mono ?_
    rintro e w' ⟨rfl, rfl⟩
    go_wp2_with fail
    go_ret
    exact ⟨rfl, rfl⟩
  · have h1 := fun w => kCheck_any a w ha
    rw [chk1_no h] at h1
    have H1 := Lib.hid h1
    have H2 := Lib.hid (chk2_no (m := b.size) (fun g => h g.1))
    clear h1
    go_enter Try.func111, Try.ntmps111
    go_wp2_with fail
    refine (H1.out _).mono ?_
    rintro e w' ⟨rfl, rfl⟩
    go_wp2_with fail
    go_ret
    exact ⟨by rw [H2.out]; rfl, rfl⟩
end Go.Proofs.Ytebjhjmlpodkgaa.KK

/-
  Contracts of the functions that compare keys.
-/
namespace Go.Proofs.Ytebjhjmlpodkgaa.KK
open Go.ChangeShapes Go.WideShapes Go.ChangeAt Go.RowKit Go.Proofs

theorem beqT {x y : UInt8} (h : x = y) : ((x.toNat : Int) == (y.toNat : Int)) = true := by rw [h]; simp
theorem beqF {x y : UInt8} (h : x ≠ y) : ((x.toNat : Int) == (y.toNat : Int)) = false := by
  rw [beq_eq_false_iff_ne]; intro e; exact h (UInt8.toNat_inj.1 (by omega))
theorem kl_take (s : ByteArray) (k : Nat) (h : k < s.size) : (Kl.L s).take (k + 1) = (Kl.L s).take k ++ [s[k]] := by
  have h' : k < (Kl.L s).length := by rw [Kl.L_length]; exact h
  rw [List.take_succ_eq_append_getElem h']; rfl
theorem below_of {B : Nat} {w w1 w2 : World} (hb : Below B w w1) (h : Below w1.heap.size w1 w2) (hB : B ≤ w.heap.size) : Below B w w2 := hb.trans (h.mono (Nat.le_trans hB hb.size))

theorem below_drewN' {w : World} (n : Nat) : Below w.heap.size w (w.drewN n) := below_drewN (Below.refl _ _) n
/-- what Compare and Common answer -/
def cmpV (a b : ByteArray) : Int := if a.size ≤ 32 ∧ b.size ≤ 32 then Kl.ord (Kl.L a) (Kl.L b) else 0
def comV (a b : ByteArray) : Int := if a.size ≤ 32 ∧ b.size ≤ 32 then (Kl.cm (Kl.L a) (Kl.L b) : Nat) else 0

set_option maxHeartbeats 800000 in
theorem rcommon_any (a b : ByteArray) (w : World) (ha : a.size ≤ 9223372036854775807) (hb : b.size ≤ 9223372036854775807) :
    Calls Try.prog 92 #[.string a, .string b] w fun e w' => e = .returned (.int .i64 (Kl.cm (Kl.L a) (Kl.L b) : Nat)) ∧ Below w.heap.size w w' := by
  go_enter Try.func92, Try.ntmps92
  go_wp2_with fail
  go_loopw [5] (fun n wr => ∃ k : Nat, k ≤ a.size ∧ k ≤ b.size ∧ n = .int .i64 k ∧ Below w.heap.size w wr ∧ (Kl.L a).take k = (Kl.L b).take k) (fun n _ => a.size - (intOf n).toNat)
  case atStart => exact ⟨0, Nat.zero_le _, Nat.zero_le _, rfl, Below.refl _ _, by simp⟩
  case round =>
    obtain ⟨k, hk1, hk2, rfl, hbl, ht⟩ := hrel
    have HT := Lib.hid ht
    have HB := Lib.hid hbl
    have hsz := hbl.size
    clear ht hbl
    by_cases h1 : k < a.size
    · have d1 : decide ((k : Int) < (a.size : Int)) = true := by simp; omega
      by_cases h2 : k < b.size
      · have d2 : decide ((k : Int) < (b.size : Int)) = true := by simp; omega
        by_cases h3 : a[k] = b[k]
        · have q := beqT h3
          have H3 := Lib.hid h3
          clear h3
          go_wp2_with fail
          go_quiet (fail)
          go_wp2_with fail
          go_roundw
          case rel => exact ⟨k + 1, by omega, by omega, by go_num, HB.out.trans ((below_drewN' _).mono hsz), by rw [kl_take a k h1, kl_take b k h2, HT.out, H3.out]⟩
          case measure => simp [intOf]; omega
        · have q := beqF h3
          have H3 : Hid (Kl.cm (Kl.L a) (Kl.L b) = k) := Lib.hid (Kl.cm_differ k _ _ HT.out (by rw [Kl.L_length]; omega) (by rw [Kl.L_length]; omega) h3)
          clear h3
          go_wp2_with fail
          go_quiet (fail)
          go_wp2_with fail
          go_ret
          exact ⟨by rw [H3.out]; rfl, HB.out.trans ((below_drewN' _).mono hsz)⟩
      · have d2 : decide ((k : Int) < (b.size : Int)) = false := by simp; omega
        have H3 : Hid (Kl.cm (Kl.L a) (Kl.L b) = k) := Lib.hid (Kl.cm_ends k _ _ HT.out (by rw [Kl.L_length]; omega) (by rw [Kl.L_length]; omega) (.inr (by rw [Kl.L_length]; omega)))
        go_wp2_with fail
        go_quiet (fail)
        go_wp2_with fail
        go_ret
        exact ⟨by rw [H3.out]; rfl, HB.out.trans ((below_drewN' _).mono hsz)⟩
    · have d1 : decide ((k : Int) < (a.size : Int)) = false := by simp; omega
      have H3 : Hid (Kl.cm (Kl.L a) (Kl.L b) = k) := Lib.hid (Kl.cm_ends k _ _ HT.out (by rw [Kl.L_length]; omega) (by rw [Kl.L_length]; omega) (.inl (by rw [Kl.L_length]; omega)))
      go_wp2_with fail
      go_quiet (fail)
      go_wp2_with fail
      go_ret
      exact ⟨by rw [H3.out]; rfl, HB.out.trans ((below_drewN' _).mono hsz)⟩

set_option maxHeartbeats 800000 in
theorem Order_any (a b : ByteArray) (w : World) (ha : a.size ≤ 9223372036854775807) (hb : b.size ≤ 9223372036854775807) :
    Calls Try.prog 67 #[.string a, .string b] w fun e w' => e = .returned (.int .i64 (Kl.ord (Kl.L a) (Kl.L b))) ∧ Below w.heap.size w w' := by
  obtain ⟨c, hc⟩ : ∃ c, Kl.cm (Kl.L a) (Kl.L b) = c := ⟨_, rfl⟩
  have K := fun w => rcommon_any a b w ha hb
  rw [hc] at K
  have KC := Lib.hid K
  clear K
  have hle := Kl.cm_le (Kl.L a) (Kl.L b)
  have ht := Kl.cm_take (Kl.L a) (Kl.L b)
  have hn := Kl.cm_next (Kl.L a) (Kl.L b)
  rw [hc, Kl.L_length, Kl.L_length] at hle
  rw [hc] at ht
  have hn' : ∀ (h : c < a.size) (g : c < b.size), a[c] ≠ b[c] := by
    subst hc
    intro h g
    exact hn (by rw [Kl.L_length]; exact h) (by rw [Kl.L_length]; exact g)
  clear hn
  have ho := Kl.ord_ends c (Kl.L a) (Kl.L b) ht (by rw [Kl.L_length]; omega) (by rw [Kl.L_length]; omega)
  have hl := Kl.ord_less c (Kl.L a) (Kl.L b) ht
  have hm := Kl.ord_more c (Kl.L a) (Kl.L b) ht
  simp only [Kl.L_length] at ho hl hm
  clear ht hc
  obtain ⟨q1, q2⟩ := hle
  by_cases h1 : c = a.size
  · have ho := ho (.inl h1)
    have e1 : ((c : Int) == (a.size : Int)) = true := by simp; omega
    clear hl hm hn'
    by_cases h2 : c = b.size
    · rw [if_neg (by omega), if_neg (by omega)] at ho
      have H := Lib.hid ho
      have e2 : ((c : Int) == (b.size : Int)) = true := by simp; omega
      clear ho h1 h2
      go_enter Try.func67, Try.ntmps67
      go_wp2_with (go_at_call 92; refine (KC.out _).mono ?_; rintro e w1 ⟨rfl, hb1⟩; have HB := Lib.hid hb1; clear hb1)
      go_ret
      exact ⟨by rw [H.out]; rfl, HB.out⟩
    · rw [if_pos (by omega)] at ho
      have H := Lib.hid ho
      have e2 : ((c : Int) == (b.size : Int)) = false := by rw [beq_eq_false_iff_ne]; omega
      clear ho h1 h2
      go_enter Try.func67, Try.ntmps67
      go_wp2_with (go_at_call 92; refine (KC.out _).mono ?_; rintro e w1 ⟨rfl, hb1⟩; have HB := Lib.hid hb1; have hsz := hb1.size; clear hb1)
      go_quiet (fail)
      go_wp2_with fail
      go_ret
      exact ⟨by rw [H.out]; rfl, HB.out.trans ((below_drewN' _).mono hsz)⟩
  · have e1 : ((c : Int) == (a.size : Int)) = false := by rw [beq_eq_false_iff_ne]; omega
    have h1' : c < a.size := by omega
    clear h1
    by_cases h2 : c = b.size
    · have ho := ho (.inr h2)
      rw [if_neg (by omega), if_pos (by omega)] at ho
      have H := Lib.hid ho
      have e2 : decide (c < b.size) = false := by simp; omega
      clear ho h2 hl hm hn'
      go_enter Try.func67, Try.ntmps67
      go_wp2_with (go_at_call 92; refine (KC.out _).mono ?_; rintro e w1 ⟨rfl, hb1⟩; have HB := Lib.hid hb1; have hsz := hb1.size; clear hb1)
      go_quiet (fail)
      go_wp2_with fail
      go_ret
      exact ⟨by rw [H.out]; rfl, HB.out.trans ((below_drewN' _).mono hsz)⟩
    · have h2' : c < b.size := by omega
      have e2 : decide ((c : Int) < (b.size : Int)) = true := by simp; omega
      have hne := hn' h1' h2'
      have hl := hl h1' h2'
      have hm := hm h1' h2'
      clear hn' ho h2
      by_cases h3 : (a[c].toNat : Int) < (b[c].toNat : Int)
      · have H : Hid (Kl.ord (Kl.L a) (Kl.L b) = -1) := Lib.hid (hl h3)
        have e3 : decide (a[c].toNat < b[c].toNat) = true := by simp; omega
        clear hl hm hne h3
        go_enter Try.func67, Try.ntmps67
        go_wp2_with (go_at_call 92; refine (KC.out _).mono ?_; rintro e w1 ⟨rfl, hb1⟩; have HB := Lib.hid hb1; have hsz := hb1.size; clear hb1)
        go_quiet (fail)
        go_wp2_with fail
        go_ret
        exact ⟨by rw [H.out]; rfl, HB.out.trans ((below_drewN' _).mono hsz)⟩
      · have h4 : (b[c].toNat : Int) < (a[c].toNat : Int) := by
          have : a[c].toNat ≠ b[c].toNat := fun e => hne (UInt8.toNat_inj.1 e)
          omega
        have H : Hid (Kl.ord (Kl.L a) (Kl.L b) = 1) := Lib.hid (hm h4)
        have e3 : decide (a[c].toNat < b[c].toNat) = false := by simp; omega
        clear hl hm hne h3 h4
        go_enter Try.func67, Try.ntmps67
        go_wp2_with (go_at_call 92; refine (KC.out _).mono ?_; rintro e w1 ⟨rfl, hb1⟩; have HB := Lib.hid hb1; have hsz := hb1.size; clear hb1)
        go_quiet (fail)
        go_wp2_with fail
        go_ret
        exact ⟨by rw [H.out]; rfl, HB.out.trans ((below_drewN' _).mono hsz)⟩
end Go.Proofs.Ytebjhjmlpodkgaa.KK

/-
  Contracts of Go's cmp.Compare, at int and int64.
-/
namespace Go.Proofs.Ytebjhjmlpodkgaa.KK
open Go.ChangeShapes Go.WideShapes Go.ChangeAt Go.RowKit Go.Proofs

/-- how two numbers compare -/
def cmp3 (x y : Int) : Int := if x < y then -1 else if y < x then 1 else 0

theorem isNaN_int (x : Int) (w : World) : Calls Try.prog 119 #[.int .i64 x] w fun e w' => e = .returned (.bool false) ∧ w = w' := by
  go_enter Try.func119, Try.ntmps119
  go_wp2_with fail
  go_ret
  exact ⟨by first | rfl | simp, rfl⟩
theorem cmp_int (x y : Int) (w : World) : Calls Try.prog 116 #[.int .i64 x, .int .i64 y] w fun e w' => e = .returned (.int .i64 (cmp3 x y)) ∧ w = w' := by
  have J := Lib.hid (fun x w => isNaN_int x w)
  by_cases h1 : x < y
  · have H : Hid (cmp3 x y = -1) := Lib.hid (if_pos h1)
    go_enter Try.func116, Try.ntmps116
    go_wp2_with (go_at_call 119; refine (J.out _ _).mono ?_; rintro e w' ⟨rfl, rfl⟩)
    go_ret
    exact ⟨by rw [H.out]; rfl, rfl⟩
  · by_cases h2 : y < x
    · have H : Hid (cmp3 x y = 1) := Lib.hid (by unfold cmp3; rw [if_neg h1, if_pos h2])
      go_enter Try.func116, Try.ntmps116
      go_wp2_with (go_at_call 119; refine (J.out _ _).mono ?_; rintro e w' ⟨rfl, rfl⟩)
      go_ret
      exact ⟨by rw [H.out]; rfl, rfl⟩
    · have H : Hid (cmp3 x y = 0) := Lib.hid (by unfold cmp3; rw [if_neg h1, if_neg h2])
      go_enter Try.func116, Try.ntmps116
      go_wp2_with (go_at_call 119; refine (J.out _ _).mono ?_; rintro e w' ⟨rfl, rfl⟩)
      go_ret
      exact ⟨by rw [H.out]; rfl, rfl⟩

end Go.Proofs.Ytebjhjmlpodkgaa.KK

/-
  Contracts of compare, Compare, Common.
-/
namespace Go.Proofs.Ytebjhjmlpodkgaa.KK
open Go.ChangeShapes Go.WideShapes Go.ChangeAt Go.RowKit Go.Proofs

theorem retT {a b c d : Int} (h : a = b) (g : c = d) : Ending.returned (.tuple #[.int .i64 a, .int .i64 c]) = .returned (.tuple #[.int .i64 b, .int .i64 d]) := by rw [h, g]
set_option maxHeartbeats 1000000 in
theorem compare_any (a b : ByteArray) (w : World) (ha : a.size ≤ 9223372036854775807) (hb : b.size ≤ 9223372036854775807) :
    Calls Try.prog 112 #[.string a, .string b] w fun e w' => e = .returned (.tuple #[.int .i64 (Kl.cm (Kl.L a) (Kl.L b) : Nat), .int .i64 (Kl.ord (Kl.L a) (Kl.L b))]) ∧ Below w.heap.size w w' := by
  go_enter Try.func112, Try.ntmps112
  go_wp2_with fail
  go_step3
  go_wp2_with fail
  go_step3
  go_wp2_with fail
  go_loopw [4, 5] (fun n o wr => ∃ k : Nat, k ≤ a.size ∧ k ≤ b.size ∧ n = .int .i64 k ∧ o = .int .i64 0 ∧ Below w.heap.size w wr ∧ (Kl.L a).take k = (Kl.L b).take k) (fun n _ _ => a.size - (intOf n).toNat)
  case atStart => exact ⟨0, Nat.zero_le _, Nat.zero_le _, rfl, rfl, Below.refl _ _, by simp⟩
  case round =>
    obtain ⟨k, hk1, hk2, rfl, rfl, hbl, ht⟩ := hrel
    have HT := Lib.hid ht
    have HB := Lib.hid hbl
    have hsz := hbl.size
    clear ht hbl
    by_cases h1 : k < a.size
    · have d1 : decide ((k : Int) < (a.size : Int)) = true := by simp; omega
      by_cases h2 : k < b.size
      · have d2 : decide ((k : Int) < (b.size : Int)) = true := by simp; omega
        by_cases h3 : a[k] = b[k]
        · have q1 : decide (a[k].toNat < b[k].toNat) = false := by simp [h3]
          have q2 : decide (b[k].toNat < a[k].toNat) = false := by simp [h3]
          have H3 := Lib.hid h3
          clear h3
          go_wp2_with fail
          go_quiet (fail)
          go_wp2_with fail
          go_quiet (fail)
          go_wp2_with fail
          go_roundw
          case rel => exact ⟨k + 1, by omega, by omega, by go_num, rfl, HB.out.trans ((below_drewN' _).mono hsz), by rw [kl_take a k h1, kl_take b k h2, HT.out, H3.out]⟩
          case measure => simp [intOf]; omega
        · have H3 : Hid (Kl.cm (Kl.L a) (Kl.L b) = k) := Lib.hid (Kl.cm_differ k _ _ HT.out (by rw [Kl.L_length]; omega) (by rw [Kl.L_length]; omega) h3)
          have hl := Kl.ord_less k (Kl.L a) (Kl.L b) HT.out (by rw [Kl.L_length]; omega) (by rw [Kl.L_length]; omega)
          have hm := Kl.ord_more k (Kl.L a) (Kl.L b) HT.out (by rw [Kl.L_length]; omega) (by rw [Kl.L_length]; omega)
          by_cases h4 : (a[k].toNat : Int) < (b[k].toNat : Int)
          · have q1 : decide (a[k].toNat < b[k].toNat) = true := by simp; omega
            have H4 := Lib.hid (hl h4)
            clear h3 hl hm h4
            go_wp2_with fail
            go_quiet (fail)
            go_wp2_with fail
            rw [Exit.noGoto_ret]
            go_ret2
            exact ⟨by rw [H3.out, H4.out]; rfl, HB.out.trans ((below_drewN' _).mono hsz)⟩
          · have h5 : (b[k].toNat : Int) < (a[k].toNat : Int) := by
              have : a[k].toNat ≠ b[k].toNat := fun e => h3 (UInt8.toNat_inj.1 e)
              omega
            have q1 : decide (a[k].toNat < b[k].toNat) = false := by simp; omega
            have q2 : decide (b[k].toNat < a[k].toNat) = true := by simp; omega
            have H4 := Lib.hid (hm h5)
            clear h3 hl hm h4 h5
            go_wp2_with fail
            go_quiet (fail)
            go_wp2_with fail
            go_quiet (fail)
            go_wp2_with fail
            rw [Exit.noGoto_ret]
            go_ret2
            exact ⟨by rw [H3.out, H4.out]; rfl, HB.out.trans ((below_drewN' _).mono hsz)⟩
      · have d2 : decide ((k : Int) < (b.size : Int)) = false := by simp; omega
        have H3 : Hid (Kl.cm (Kl.L a) (Kl.L b) = k) := Lib.hid (Kl.cm_ends k _ _ HT.out (by rw [Kl.L_length]; omega) (by rw [Kl.L_length]; omega) (.inr (by rw [Kl.L_length]; omega)))
        have H4 : Hid (Kl.ord (Kl.L a) (Kl.L b) = cmp3 (a.size : Int) (b.size : Int)) := Lib.hid (by
          rw [Kl.ord_ends k _ _ HT.out (by rw [Kl.L_length]; omega) (by rw [Kl.L_length]; omega) (.inr (by rw [Kl.L_length]; omega)), Kl.L_length, Kl.L_length]
          unfold cmp3
          split <;> (try split) <;> (try split) <;> (try split) <;> omega)
        go_wp2_with (go_at_call 116; refine (cmp_int _ _ _).mono ?_; rintro e w' ⟨rfl, rfl⟩)
        rw [Exit.noGoto_ret]
        go_ret2
        exact ⟨by rw [H3.out, H4.out]; rfl, HB.out⟩
    · have d1 : decide ((k : Int) < (a.size : Int)) = false := by simp; omega
      have H3 : Hid (Kl.cm (Kl.L a) (Kl.L b) = k) := Lib.hid (Kl.cm_ends k _ _ HT.out (by rw [Kl.L_length]; omega) (by rw [Kl.L_length]; omega) (.inl (by rw [Kl.L_length]; omega)))
      have H4 : Hid (Kl.ord (Kl.L a) (Kl.L b) = cmp3 (a.size : Int) (b.size : Int)) := Lib.hid (by
        rw [Kl.ord_ends k _ _ HT.out (by rw [Kl.L_length]; omega) (by rw [Kl.L_length]; omega) (.inl (by rw [Kl.L_length]; omega)), Kl.L_length, Kl.L_length]
        unfold cmp3
        split <;> (try split) <;> (try split) <;> (try split) <;> omega)
      go_wp2_with (go_at_call 116; refine (cmp_int _ _ _).mono ?_; rintro e w' ⟨rfl, rfl⟩)
      rw [Exit.noGoto_ret]
      go_ret2
      exact ⟨by rw [H3.out, H4.out]; rfl, HB.out⟩

theorem cmpV_ok {a b : ByteArray} (h : a.size ≤ 32) (g : b.size ≤ 32) : cmpV a b = Kl.ord (Kl.L a) (Kl.L b) := if_pos ⟨h, g⟩
theorem cmpV_no {a b : ByteArray} (h : ¬ (a.size ≤ 32 ∧ b.size ≤ 32)) : cmpV a b = 0 := if_neg h
theorem comV_ok {a b : ByteArray} (h : a.size ≤ 32) (g : b.size ≤ 32) : comV a b = (Kl.cm (Kl.L a) (Kl.L b) : Nat) := if_pos ⟨h, g⟩
theorem comV_no {a b : ByteArray} (h : ¬ (a.size ≤ 32 ∧ b.size ≤ 32)) : comV a b = 0 := if_neg h

theorem kCompare_any (a b : ByteArray) (w : World) (ha : a.size ≤ 9223372036854775807) (hb : b.size ≤ 9223372036854775807) :
    Calls Try.prog 104 #[.string a, .string b] w fun e w' => e = .returned (.tuple #[.int .i64 (cmpV a b), .int .i64 (chk2 a.size b.size)]) ∧ Below w.heap.size w w' := by
  have K1 := fun w => checkBoth_any a b w ha hb
  have K2 := fun w => compare_any a b w ha hb
  by_cases h : a.size ≤ 32 ∧ b.size ≤ 32
  · rw [chk2_ok h.1 h.2] at K1
    rw [chk2_ok h.1 h.2, cmpV_ok h.1 h.2]
    have J1 := Lib.hid K1
    have J2 := Lib.hid K2
    clear K1 K2 h
    go_enter Try.func104, Try.ntmps104
    go_wp2_with fail
    refine (J1.out _).mono ?_
    rintro e w' ⟨rfl, rfl⟩
    go_wp2_with fail
    refine (J2.out _).mono ?_
    rintro e w1 ⟨rfl, hb1⟩
    have HB := Lib.hid hb1
    clear hb1
    go_wp2_with fail
    go_ret2
    exact ⟨rfl, HB.out⟩
  · rw [chk2_no h] at K1
    rw [chk2_no h, cmpV_no h]
    have J1 := Lib.hid K1
    clear K1 K2 h
    go_enter Try.func104, Try.ntmps104
    go_wp2_with fail
    refine (J1.out _).mono ?_
    rintro e w' ⟨rfl, rfl⟩
    go_wp2_with fail
    go_ret2
    exact ⟨rfl, Below.refl _ _⟩
end Go.Proofs.Ytebjhjmlpodkgaa.KK

/-
  Contracts of the neighbours of a key: raised, past, Next, Past, Between, and the reference's.
-/
namespace Go.Proofs.Ytebjhjmlpodkgaa.KK
open Go.ChangeShapes Go.WideShapes Go.ChangeAt Go.RowKit Go.Proofs

theorem str_nums (t : List UInt8) : strOfNums (t.map fun c => (c.toNat : Int)) = ⟨t.toArray⟩ := by
  have : (strOfNums (t.map fun c => (c.toNat : Int))).data.toList = t := by
    rw [strOfNums_data, List.map_map]
    conv => rhs; rw [← List.map_id t]
    apply List.map_congr_left
    intro c _
    simp
  rw [← Lib.mk_data (strOfNums _), this]
/-- string([]byte{c}) -/
theorem conv_at (w : World) (B : Nat) (m : Int) (c : UInt8) (hm : m = c.toNat) (h : w.cell? ⟨B, 0, none⟩ = some (.int .u8 m)) :
    (convert 55 9 (.slice (some ⟨B, 0, none⟩) 1 1)).run Try.prog w = .ok (.string ⟨[c].toArray⟩) w := by
  subst hm
  rw [run_convert_bytes_arg _ _ _ Try.underlying55 Try.underlying5 B 0 1 1 [(c.toNat : Int)] rfl (fun i hi => ?_) _ Try.underlying9]
  · exact congrArg (fun t => Result.ok (Value.string t) _) (str_nums [c])
  · have : i = 0 := by simpa using hi
    subst this
    exact h
theorem cell_new (w : World) (m : Value) (t : TypeId) : (w.alloc (.cells #[m] t)).cell? ⟨w.heap.size, 0, none⟩ = some m :=
  World.news_of_block (cs := #[m]) (t := t) (fr := (0, 0)) (heap_alloc_new w _) 0 _ rfl
theorem bytes_app (a b : List UInt8) : (⟨a.toArray⟩ : ByteArray) ++ ⟨b.toArray⟩ = ⟨(a ++ b).toArray⟩ := by
  apply ByteArray.ext; simp
theorem ext_take (s : ByteArray) (n : Nat) : s.extract 0 n = ⟨((Kl.L s).take n).toArray⟩ := by
  have := Lib.extract_eq s 0 n
  simpa [Kl.L] using this
theorem ext_at (s : ByteArray) (n j : Nat) (h : j < n) (hj : j < s.size) : (s.extract 0 n)[j]'(by simp; omega) = s[j] := by
  have e : (Kl.L (s.extract 0 n))[j]? = (Kl.L s)[j]? := by
    rw [ext_take]
    show ((Kl.L s).take n)[j]? = _
    rw [List.getElem?_take, if_pos h]
  rw [List.getElem?_eq_getElem (by rw [Kl.L_length]; simp; omega), List.getElem?_eq_getElem (by rw [Kl.L_length]; omega)] at e
  exact Option.some.inj e
theorem undrew {w w1 : World} (h : Below w.drew.heap.size w.drew w1) : Below w.heap.size w w1 := ⟨h.os, h.tape, h.output, h.size, h.block⟩

/-- what past answers -/
def pastV (o : Option (List UInt8)) : Value := match o with | some p => .tuple #[.string ⟨p.toArray⟩, .bool true] | none => .tuple #[.string ⟨#[]⟩, .bool false]
theorem stem_end (s : ByteArray) (k : Nat) (h : k < s.size) (hc : s[k] = 255) : Kl.stem ((Kl.L s).take (k + 1)) = Kl.stem ((Kl.L s).take k) := by
  rw [kl_take s k h, Kl.stem_snoc, if_pos hc]
theorem stem_stop (s : ByteArray) (k : Nat) (h : k < s.size) (hc : ¬ s[k] = 255) : Kl.stem ((Kl.L s).take (k + 1)) = (Kl.L s).take k ++ [s[k]] := by
  rw [kl_take s k h, Kl.stem_snoc, if_neg hc]
theorem rai_stem {l m : List UInt8} (h : Kl.stem l = Kl.stem m) : Kl.rai l = Kl.rai m := by unfold Kl.rai; rw [h]
theorem rai_stop (s : ByteArray) (k : Nat) (h : k < s.size) (hc : ¬ s[k] = 255) (hs : Kl.stem (Kl.L s) = Kl.stem ((Kl.L s).take (k + 1))) : Kl.rai (Kl.L s) = some ((Kl.L s).take k ++ [UInt8.ofNat (s[k].toNat + 1)]) := by
  unfold Kl.rai
  rw [hs, stem_stop s k h hc, if_neg (by simp), Kl.up_snoc]
theorem rai_end (s : ByteArray) (hs : Kl.stem (Kl.L s) = Kl.stem ((Kl.L s).take 0)) : Kl.rai (Kl.L s) = none := by
  unfold Kl.rai
  rw [hs, List.take_zero]; rfl

end Go.Proofs.Ytebjhjmlpodkgaa.KK

/-
  Contracts of Next, Past, Between, and the reference's.
-/
namespace Go.Proofs.Ytebjhjmlpodkgaa.KK
open Go.ChangeShapes Go.WideShapes Go.ChangeAt Go.RowKit Go.Proofs

def strE (r : Int × List UInt8) : Value := .tuple #[.string ⟨r.2.toArray⟩, .int .i64 r.1]
def nextE (l : List UInt8) : Int × List UInt8 := if 32 < l.length then (3, []) else if l.length < 32 then (0, l ++ [0]) else match Kl.rai l with | none => (9, []) | some p => (0, p)
def pastE (l : List UInt8) : Int × List UInt8 := if 32 < l.length then (3, []) else match Kl.rai l with | none => (4, []) | some p => (0, p)
def btwE (a b : List UInt8) : Int × List UInt8 := if ¬ (a.length ≤ 32 ∧ b.length ≤ 32) then (3, []) else if Kl.lt a b then (0, Kl.btw a b) else (6, [])
theorem mk_L (s : ByteArray) : s = ⟨(Kl.L s).toArray⟩ := by cases s; simp [Kl.L]

theorem next_zero (s : ByteArray) : s ++ ⟨#[0]⟩ = ⟨(Kl.L s ++ [0]).toArray⟩ := by
  conv => lhs; rw [mk_L s]
  exact bytes_app _ [0]
end Go.Proofs.Ytebjhjmlpodkgaa.KK

/-
  Contracts of Past, Between, and the reference's Next, Past, Between.
-/
namespace Go.Proofs.Ytebjhjmlpodkgaa.KK
open Go.ChangeShapes Go.WideShapes Go.ChangeAt Go.RowKit Go.Proofs

theorem getD_at (s : ByteArray) (c : Nat) (h : c < s.size) : (Kl.L s).getD c 0 = s[c] := by
  rw [List.getD_eq_getElem?_getD, List.getElem?_eq_getElem (by rw [Kl.L_length]; exact h)]; rfl
end Go.Proofs.Ytebjhjmlpodkgaa.KK

/-
  Contract of the reference's Between.
-/
namespace Go.Proofs.Ytebjhjmlpodkgaa.KK
open Go.ChangeShapes Go.WideShapes Go.ChangeAt Go.RowKit Go.Proofs

theorem L_app (a b : ByteArray) : Kl.L (a ++ b) = Kl.L a ++ Kl.L b := by simp [Kl.L]
theorem L_ext (s : ByteArray) (n : Nat) : Kl.L (s.extract 0 n) = (Kl.L s).take n := by rw [ext_take]; rfl

end Go.Proofs.Ytebjhjmlpodkgaa.KK
