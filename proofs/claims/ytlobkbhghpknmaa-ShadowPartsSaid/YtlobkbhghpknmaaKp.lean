/-
  Plain functions on keys: order, common bytes, neighbours. They import nothing of the program.
-/
import Derived.Lib.Hide
import Derived.Lib.Strings
namespace Go.Proofs.Ytlobkbhghpknmaa.Kl

/-- the bytes of a string -/
def L (s : ByteArray) : List UInt8 := s.data.toList
theorem L_length (s : ByteArray) : (L s).length = s.size := (Lib.size_eq s).symm
/-- a comes before b -/
def lt : List UInt8 → List UInt8 → Bool
  | _, [] => false
  | [], _ :: _ => true
  | x :: xs, y :: ys => if x = y then lt xs ys else decide (x.toNat < y.toNat)
/-- with how many equal bytes both begin -/
def cm : List UInt8 → List UInt8 → Nat
  | x :: xs, y :: ys => if x = y then cm xs ys + 1 else 0
  | [], _ => 0
  | _ :: _, [] => 0
def ord (a b : List UInt8) : Int := if lt a b then -1 else if lt b a then 1 else 0

theorem toNat_inj {x y : UInt8} (h : x.toNat = y.toNat) : x = y := UInt8.toNat_inj.1 h
theorem lt_nil (a : List UInt8) : lt a [] = false := by cases a <;> rfl
theorem lt_same (x : UInt8) (a b : List UInt8) : lt (x :: a) (x :: b) = lt a b := by simp [lt]
theorem lt_less {x y : UInt8} (a b : List UInt8) (h : x.toNat < y.toNat) : lt (x :: a) (y :: b) = true := by
  have : x ≠ y := fun e => by subst e; omega
  simp [lt, this, h]
theorem lt_more {x y : UInt8} (a b : List UInt8) (h : y.toNat < x.toNat) : lt (x :: a) (y :: b) = false := by
  have : x ≠ y := fun e => by subst e; omega
  simp [lt, this]; omega
theorem lt_cons {x y : UInt8} {a b : List UInt8} : lt (x :: a) (y :: b) = true ↔ x.toNat < y.toNat ∨ (x = y ∧ lt a b = true) := by
  by_cases h : x = y
  · subst h; simp [lt]
  · simp [lt, h]
theorem lt_irrefl : ∀ a, lt a a = false
  | [] => rfl
  | x :: a => by rw [lt_same]; exact lt_irrefl a
theorem lt_asymm : ∀ {a b}, lt a b = true → lt b a = false
  | _, [], h => by rw [lt_nil] at h; cases h
  | [], _ :: _, _ => lt_nil _
  | x :: a, y :: b, h => by
    rcases lt_cons.1 h with h' | ⟨rfl, h'⟩
    · exact lt_more _ _ h'
    · rw [lt_same]; exact lt_asymm h'
theorem lt_trans : ∀ {a b c}, lt a b = true → lt b c = true → lt a c = true
  | _, [], _, h, _ => by rw [lt_nil] at h; cases h
  | _, _ :: _, [], _, h => by rw [lt_nil] at h; cases h
  | [], _ :: _, _ :: _, _, _ => rfl
  | x :: a, y :: b, z :: c, h, g => by
    rcases lt_cons.1 h with h' | ⟨rfl, h'⟩ <;> rcases lt_cons.1 g with g' | ⟨rfl, g'⟩
    · exact lt_less _ _ (by omega)
    · exact lt_less _ _ h'
    · exact lt_less _ _ g'
    · rw [lt_same]; exact lt_trans h' g'
theorem lt_total : ∀ {a b}, lt a b = false → lt b a = false → a = b
  | [], [], _, _ => rfl
  | [], _ :: _, h, _ => by cases h
  | _ :: _, [], _, h => by cases h
  | x :: a, y :: b, h, g => by
    by_cases e : x = y
    · subst e; rw [lt_same] at h g; rw [lt_total h g]
    · simp [lt, e, Ne.symm e] at h g
      exact absurd (toNat_inj (by omega)) e
/-- a ≤ b < c -/
theorem le_lt {a b c : List UInt8} (h : lt b a = false) (g : lt b c = true) : lt a c = true := by
  cases e : lt a b with
  | true => exact lt_trans e g
  | false => rw [lt_total e h]; exact g
theorem lt_le {a b c : List UInt8} (h : lt a b = true) (g : lt c b = false) : lt a c = true := by
  cases e : lt b c with
  | true => exact lt_trans h e
  | false => rw [← lt_total e g]; exact h
theorem le_le {a b c : List UInt8} (h : lt b a = false) (g : lt c b = false) : lt c a = false := by
  cases e : lt c a with
  | false => rfl
  | true => rw [lt_le e h] at g; cases g

theorem lt_iff : ∀ (a b : List UInt8), a < b ↔ lt a b = true
  | _, [] => by simp [lt_nil]
  | [], _ :: _ => by simp [lt]
  | x :: a, y :: b => by
    rw [List.cons_lt_cons_iff, lt_cons, lt_iff a b, UInt8.lt_iff_toNat_lt]

theorem ord_eq {a b : List UInt8} : ord a b = 0 ↔ a = b := by
  unfold ord
  constructor
  · intro h
    cases e : lt a b <;> cases f : lt b a <;> simp [e, f] at h
    exact lt_total e f
  · rintro rfl; simp [lt_irrefl]
theorem ord_neg {a b : List UInt8} : ord a b < 0 ↔ lt a b = true := by
  unfold ord
  cases e : lt a b <;> cases f : lt b a <;> simp
theorem ord_nonneg {a b : List UInt8} : 0 ≤ ord a b ↔ lt a b = false := by
  unfold ord
  cases e : lt a b <;> cases f : lt b a <;> simp
theorem ord_pos {a b : List UInt8} : 0 < ord a b ↔ lt b a = true := by
  unfold ord
  cases e : lt a b
  · cases f : lt b a <;> simp
  · rw [lt_asymm e]; simp
theorem ord_nonpos {a b : List UInt8} : ord a b ≤ 0 ↔ lt b a = false := by
  unfold ord
  cases e : lt a b
  · cases f : lt b a <;> simp
  · rw [lt_asymm e]; simp
theorem ord_swap (a b : List UInt8) : ord a b = - ord b a := by
  unfold ord
  cases e : lt a b
  · cases f : lt b a <;> simp
  · rw [lt_asymm e]; simp
theorem ord_range (a b : List UInt8) : -1 ≤ ord a b ∧ ord a b ≤ 1 := by
  unfold ord
  cases e : lt a b <;> cases f : lt b a <;> simp

/-! both begin with the same k bytes -/
theorem cm_drop : ∀ (k : Nat) (a b : List UInt8), k ≤ a.length → k ≤ b.length → a.take k = b.take k → cm a b = k + cm (a.drop k) (b.drop k)
  | 0, a, b, _, _, _ => by simp
  | k + 1, x :: a, y :: b, h, g, e => by
    simp only [List.take_succ_cons, List.cons.injEq] at e
    obtain ⟨rfl, e⟩ := e
    simp only [List.length_cons] at h g
    rw [List.drop_succ_cons, List.drop_succ_cons]
    have := cm_drop k a b (by omega) (by omega) e
    simp only [cm, if_pos]
    omega
  | k + 1, [], _, h, _, _ => by simp at h
  | k + 1, _ :: _, [], _, h, _ => by simp at h
theorem lt_drop : ∀ (k : Nat) (a b : List UInt8), a.take k = b.take k → k ≤ a.length → k ≤ b.length → lt a b = lt (a.drop k) (b.drop k)
  | 0, a, b, _, _, _ => by simp
  | k + 1, x :: a, y :: b, e, h, g => by
    simp only [List.take_succ_cons, List.cons.injEq] at e
    obtain ⟨rfl, e⟩ := e
    simp only [List.length_cons] at h g
    rw [List.drop_succ_cons, List.drop_succ_cons, lt_same]
    exact lt_drop k a b e (by omega) (by omega)
  | k + 1, [], _, _, h, _ => by simp at h
  | k + 1, _ :: _, [], _, _, h => by simp at h
theorem ord_drop (k : Nat) (a b : List UInt8) (e : a.take k = b.take k) (h : k ≤ a.length) (g : k ≤ b.length) : ord a b = ord (a.drop k) (b.drop k) := by
  unfold ord
  rw [lt_drop k a b e h g, lt_drop k b a e.symm g h]
/-- they differ at place k -/
theorem cm_differ (k : Nat) (a b : List UInt8) (e : a.take k = b.take k) (h : k < a.length) (g : k < b.length) (hne : a[k] ≠ b[k]) : cm a b = k := by
  rw [cm_drop k a b (by omega) (by omega) e, List.drop_eq_getElem_cons h, List.drop_eq_getElem_cons g]
  simp [cm, hne]
theorem ord_less (k : Nat) (a b : List UInt8) (e : a.take k = b.take k) (h : k < a.length) (g : k < b.length) (hl : (a[k].toNat : Int) < (b[k].toNat : Int)) : ord a b = -1 := by
  rw [ord_drop k a b e (by omega) (by omega), List.drop_eq_getElem_cons h, List.drop_eq_getElem_cons g]
  unfold ord
  rw [lt_less _ _ (by omega)]; rfl
theorem ord_more (k : Nat) (a b : List UInt8) (e : a.take k = b.take k) (h : k < a.length) (g : k < b.length) (hl : (b[k].toNat : Int) < (a[k].toNat : Int)) : ord a b = 1 := by
  rw [ord_swap, ord_less k b a e.symm g h hl]; rfl
/-- one of them ends at place k -/
theorem cm_ends (k : Nat) (a b : List UInt8) (e : a.take k = b.take k) (h : k ≤ a.length) (g : k ≤ b.length) (hk : k = a.length ∨ k = b.length) : cm a b = k := by
  rw [cm_drop k a b h g e]
  rcases hk with rfl | rfl
  · rw [List.drop_length]; simp [cm]
  · rw [List.drop_length]; cases a.drop b.length <;> simp [cm]
theorem ord_ends (k : Nat) (a b : List UInt8) (e : a.take k = b.take k) (h : k ≤ a.length) (g : k ≤ b.length) (hk : k = a.length ∨ k = b.length) :
    ord a b = if a.length < b.length then -1 else if b.length < a.length then 1 else 0 := by
  rw [ord_drop k a b e h g]
  have e1 : (a.drop k).length = a.length - k := List.length_drop
  have e2 : (b.drop k).length = b.length - k := List.length_drop
  generalize a.drop k = a' at *
  generalize b.drop k = b' at *
  unfold ord
  match a', b', e1, e2 with
  | [], [], e1, e2 => simp at e1 e2; simp [lt]; split <;> (try split) <;> omega
  | [], _ :: _, e1, e2 => simp at e1 e2; simp [lt]; omega
  | _ :: _, [], e1, e2 => simp at e1 e2; simp [lt]; omega
  | _ :: _, _ :: _, e1, e2 => simp at e1 e2; omega
theorem cm_le : ∀ a b : List UInt8, cm a b ≤ a.length ∧ cm a b ≤ b.length
  | [], _ => by simp [cm]
  | _ :: _, [] => by simp [cm]
  | x :: a, y :: b => by
    by_cases h : x = y
    · have := cm_le a b
      simp [cm, h]; omega
    · simp [cm, h]
theorem cm_take : ∀ a b : List UInt8, a.take (cm a b) = b.take (cm a b)
  | [], _ => by simp [cm]
  | _ :: _, [] => by simp [cm]
  | x :: a, y :: b => by
    by_cases h : x = y
    · subst h; simp [cm, cm_take a b]
    · simp [cm, h]
theorem cm_next : ∀ a b : List UInt8, ∀ (h : cm a b < a.length) (g : cm a b < b.length), a[cm a b] ≠ b[cm a b]
  | [], _ => by simp [cm]
  | _ :: _, [] => by simp [cm]
  | x :: a, y :: b => by
    by_cases h : x = y
    · subst h
      simp only [cm, if_pos, List.length_cons]
      intro h g
      simpa using cm_next a b (by omega) (by omega)
    · simp [cm, h]
theorem cm_comm : ∀ a b : List UInt8, cm a b = cm b a
  | [], [] => rfl
  | [], _ :: _ => rfl
  | _ :: _, [] => rfl
  | x :: a, y :: b => by
    by_cases h : x = y
    · subst h; simp [cm, cm_comm a b]
    · simp [cm, h, Ne.symm h]
/-- of three keys in order -/
theorem cm_three : ∀ a b c : List UInt8, lt b a = false → lt c b = false → cm a c = min (cm a b) (cm b c)
  | [], _, _, _, _ => by simp [cm]
  | _ :: _, [], _, h, _ => by simp [lt] at h
  | _ :: _, _ :: _, [], _, h => by simp [lt] at h
  | x :: a, y :: b, z :: c, h, g => by
    by_cases e : x = y
    · subst e
      rw [lt_same] at h
      by_cases f : x = z
      · subst f
        rw [lt_same] at g
        have := cm_three a b c h g
        simp [cm]; omega
      · simp [cm, f]
    · by_cases f : y = z
      · subst f; simp [cm, e]
      · have h1 : x ≠ z := by
          rintro rfl
          simp [lt, e, Ne.symm e, f, Ne.symm f] at h g
          exact e (toNat_inj (by omega))
        simp [cm, e, h1]

/-! neighbours -/
/-- without the last bytes 255 -/
def stem (l : List UInt8) : List UInt8 := (l.reverse.dropWhile (· == 255)).reverse
theorem stem_nil : stem [] = [] := rfl
theorem stem_snoc (l : List UInt8) (c : UInt8) : stem (l ++ [c]) = if c = 255 then stem l else l ++ [c] := by
  unfold stem
  rw [List.reverse_append]
  by_cases h : c = 255
  · subst h; simp
  · simp [h]
/-- the last byte greater by one -/
def up (l : List UInt8) : List UInt8 := match l.getLast? with | none => [] | some c => l.dropLast ++ [UInt8.ofNat (c.toNat + 1)]
theorem up_snoc (l : List UInt8) (c : UInt8) : up (l ++ [c]) = l ++ [UInt8.ofNat (c.toNat + 1)] := by
  unfold up; simp
def rai (l : List UInt8) : Option (List UInt8) := if stem l = [] then none else some (up (stem l))
def raiD (l : List UInt8) : List UInt8 := (rai l).getD []

theorem stem_shape (l : List UInt8) : (stem l = [] ∧ l = List.replicate l.length 255) ∨ ∃ q c m, c.toNat < 255 ∧ stem l = q ++ [c] ∧ l = q ++ c :: List.replicate m 255 := by
  induction hn : l.length generalizing l with
  | zero => exact .inl ⟨by rw [List.eq_nil_of_length_eq_zero hn]; rfl, by rw [List.eq_nil_of_length_eq_zero hn]; rfl⟩
  | succ n ih =>
    obtain ⟨l', c, rfl⟩ : ∃ l' c, l = l' ++ [c] := ⟨l.dropLast, l.getLast (by intro e; rw [e] at hn; cases hn), (List.dropLast_concat_getLast _).symm⟩
    rw [stem_snoc]
    have hl : l'.length = n := by simpa using hn
    by_cases h : c = 255
    · subst h
      rw [if_pos rfl]
      rcases ih l' hl with ⟨h1, h2⟩ | ⟨q, c, m, h0, h1, h2⟩
      · refine .inl ⟨h1, ?_⟩
        rw [List.replicate_succ', ← h2]
      · refine .inr ⟨q, c, m + 1, h0, h1, ?_⟩
        rw [h2, List.replicate_succ']
        simp
    · rw [if_neg h]
      refine .inr ⟨l', c, 0, ?_, rfl, by simp⟩
      have := c.toNat_lt
      rcases Nat.lt_or_ge c.toNat 255 with h' | h'
      · exact h'
      · exact absurd (toNat_inj (show c.toNat = 255 by omega)) h
theorem rai_shape (l : List UInt8) : (rai l = none ∧ l = List.replicate l.length 255) ∨ ∃ q c m, c.toNat < 255 ∧ rai l = some (q ++ [UInt8.ofNat (c.toNat + 1)]) ∧ l = q ++ c :: List.replicate m 255 := by
  unfold rai
  rcases stem_shape l with ⟨h1, h2⟩ | ⟨q, c, m, h0, h1, h2⟩
  · exact .inl ⟨by rw [if_pos h1], h2⟩
  · refine .inr ⟨q, c, m, h0, ?_, h2⟩
    rw [if_neg (by rw [h1]; simp), h1, up_snoc]

/-- 255, so many times, is the greatest one -/
theorem max_ge : ∀ (m : Nat) (t : List UInt8), lt t (List.replicate m 255) = false ↔ List.replicate m 255 <+: t
  | 0, t => by simp [lt_nil]
  | m + 1, [] => by simp [List.replicate_succ, lt]
  | m + 1, x :: t => by
    have hx := x.toNat_lt
    by_cases h : x = 255
    · subst h
      rw [List.replicate_succ, lt_same, max_ge m t, List.cons_prefix_cons]; simp
    · have hlt : x.toNat < (255 : UInt8).toNat := by
        rcases Nat.lt_or_ge x.toNat 255 with h' | h'
        · exact h'
        · exact absurd (toNat_inj (show x.toNat = 255 by omega)) h
      rw [List.replicate_succ, lt_less _ _ hlt, List.cons_prefix_cons]
      simp [Ne.symm h]
theorem lt_app (q a b : List UInt8) : lt (q ++ a) (q ++ b) = lt a b := by
  induction q with
  | nil => rfl
  | cons x q ih => simp only [List.cons_append, lt_same, ih]
/-- what lies between two that begin with q begins with it, too -/
theorem between_begins : ∀ (q a b t : List UInt8), lt t (q ++ a) = false → lt t (q ++ b) = true → ∃ t', t = q ++ t'
  | [], _, _, t, _, _ => ⟨t, rfl⟩
  | _ :: _, _, _, [], h, _ => by simp [lt] at h
  | x :: q, a, b, y :: t, h, g => by
    have e : y = x := by
      rcases lt_cons.1 g with g | ⟨g, _⟩
      · rw [List.cons_append, lt_less _ _ g] at h; cases h
      · exact g
    subst e
    rw [List.cons_append, lt_same] at h g
    obtain ⟨t', rfl⟩ := between_begins q a b t h g
    exact ⟨t', rfl⟩
theorem ofNat_up {c : UInt8} (h : c.toNat < 255) : (UInt8.ofNat (c.toNat + 1)).toNat = c.toNat + 1 := UInt8.toNat_ofNat_of_lt' (by show _ < 256; omega)
theorem lt_pre : ∀ (a t : List UInt8), a <+: t → lt t a = false
  | [], t, _ => lt_nil t
  | x :: a, [], h => by simp at h
  | x :: a, y :: t, h => by
    rw [List.cons_prefix_cons] at h
    obtain ⟨rfl, h⟩ := h
    rw [lt_same]; exact lt_pre a t h
theorem rai_some {a p : List UInt8} (h : rai a = some p) (t : List UInt8) : a <+: t ↔ lt t a = false ∧ lt t p = true := by
  rcases rai_shape a with ⟨h1, _⟩ | ⟨q, c, m, h0, h1, h2⟩
  · rw [h1] at h; cases h
  rw [h1] at h
  cases h
  have hu := ofNat_up h0
  constructor
  · rintro ⟨x, rfl⟩
    refine ⟨lt_pre _ _ ⟨x, rfl⟩, ?_⟩
    rw [h2, List.append_assoc, lt_app]
    exact lt_less _ _ (by omega)
  · rintro ⟨g1, g2⟩
    rw [h2] at g1 ⊢
    obtain ⟨t', rfl⟩ := between_begins q _ _ t g1 g2
    rw [lt_app] at g1 g2
    rw [List.prefix_append_right_inj]
    match t', g1, g2 with
    | [], g1, _ => simp [lt] at g1
    | d :: t', g1, g2 =>
      have e : d = c := by
        rcases lt_cons.1 g2 with g2 | ⟨_, g2⟩
        · rcases Nat.lt_or_ge d.toNat c.toNat with g | g
          · rw [lt_less _ _ g] at g1; cases g1
          · exact toNat_inj (by omega)
        · rw [lt_nil] at g2; cases g2
      subst e
      rw [lt_same, max_ge] at g1
      rw [List.cons_prefix_cons]; exact ⟨rfl, g1⟩
theorem rai_none {a : List UInt8} (h : rai a = none) (t : List UInt8) : a <+: t ↔ lt t a = false := by
  rcases rai_shape a with ⟨_, h2⟩ | ⟨q, c, m, _, h1, _⟩
  · rw [h2, max_ge]
  · rw [h1] at h; cases h
theorem rai_above {a p : List UInt8} (h : rai a = some p) : lt a p = true := ((rai_some h a).1 (List.prefix_refl a)).2
theorem rai_length {a p : List UInt8} (h : rai a = some p) : p.length ≤ a.length ∧ 0 < p.length := by
  rcases rai_shape a with ⟨h1, _⟩ | ⟨q, c, m, h0, h1, h2⟩
  · rw [h1] at h; cases h
  · rw [h1] at h
    cases h
    rw [h2]; simp
/-- nothing that is not longer lies between a and what is above all that begin with a -/
theorem rai_least {a p t : List UInt8} (h : rai a = some p) (ht : t.length ≤ a.length) (g : lt a t = true) : lt t p = false := by
  cases e : lt t p with
  | false => rfl
  | true =>
    obtain ⟨x, hx⟩ := (rai_some h t).2 ⟨lt_asymm g, e⟩
    have : x = [] := by
      have := congrArg List.length hx
      rw [List.length_append] at this
      exact List.eq_nil_of_length_eq_zero (by omega)
    subst this
    rw [List.append_nil] at hx
    subst hx
    rw [lt_irrefl] at g; cases g
theorem rai_greatest {a t : List UInt8} (h : rai a = none) (ht : t.length ≤ a.length) : lt a t = false := by
  cases e : lt a t with
  | false => rfl
  | true =>
    obtain ⟨x, hx⟩ := (rai_none h t).2 (lt_asymm e)
    have : x = [] := by
      have := congrArg List.length hx
      rw [List.length_append] at this
      exact List.eq_nil_of_length_eq_zero (by omega)
    subst this
    rw [List.append_nil] at hx
    subst hx
    rw [lt_irrefl] at e; cases e
/-- nothing lies between a and a with a byte 0 -/
theorem zero_above : ∀ a : List UInt8, lt a (a ++ [0]) = true
  | [] => rfl
  | x :: a => by rw [List.cons_append, lt_same]; exact zero_above a
theorem zero_least : ∀ (a t : List UInt8), lt a t = true → lt t (a ++ [0]) = false
  | [], [], h => by cases h
  | [], x :: t, _ => by
    rw [List.nil_append]
    cases e : lt (x :: t) [0] with
    | false => rfl
    | true =>
      rcases lt_cons.1 e with g | ⟨_, g⟩
      · simp at g
      · rw [lt_nil] at g; cases g
  | _ :: _, [], h => by rw [lt_nil] at h; cases h
  | x :: a, y :: t, h => by
    rw [List.cons_append]
    rcases lt_cons.1 h with h' | ⟨rfl, h'⟩
    · exact lt_more _ _ h'
    · rw [lt_same]; exact zero_least a t h'

/-- the least of the shortest keys above a and not above b, if a is below b -/
def btw (a b : List UInt8) : List UInt8 := if cm a b = a.length then a ++ [0] else b.take (cm a b) ++ [UInt8.ofNat ((a.getD (cm a b) 0).toNat + 1)]
/-- which byte it ends with -/
def btwC (a b : List UInt8) : Nat := if cm a b = a.length then 0 else (a.getD (cm a b) 0).toNat + 1

theorem take_of_cm {a b : List UInt8} (h : cm a b = a.length) : b.take (cm a b) = a := by
  rw [← cm_take, h, List.take_length]
/-- a below b: how they look -/
theorem below_shape {a b : List UInt8} (h : lt a b = true) : (∃ y b', cm a b = a.length ∧ b = a ++ y :: b') ∨ ∃ q x a' y b', cm a b = q.length ∧ a = q ++ x :: a' ∧ b = q ++ y :: b' ∧ x.toNat < y.toNat := by
  have hle := cm_le a b
  have ht := cm_take a b
  have hd := lt_drop (cm a b) a b ht hle.1 hle.2
  rw [h] at hd
  by_cases e : cm a b = a.length
  · left
    have : b.take a.length = a := by have := ht; rw [e, List.take_length] at this; exact this.symm
    match hb : b.drop a.length with
    | [] => rw [e, hb, lt_nil] at hd; cases hd
    | y :: b' => exact ⟨y, b', e, by rw [← hb]; conv => lhs; rw [← List.take_append_drop a.length b, this]⟩
  · right
    have h1 : cm a b < a.length := by omega
    rcases Nat.lt_or_ge (cm a b) b.length with h2 | h2
    · have hn := cm_next a b h1 h2
      refine ⟨a.take (cm a b), a[cm a b], a.drop (cm a b + 1), b[cm a b], b.drop (cm a b + 1), by simp; omega, ?_, ?_, ?_⟩
      · rw [← List.drop_eq_getElem_cons h1, List.take_append_drop]
      · rw [ht, ← List.drop_eq_getElem_cons h2, List.take_append_drop]
      · rw [List.drop_eq_getElem_cons h1, List.drop_eq_getElem_cons h2] at hd
        rcases lt_cons.1 hd.symm with g | ⟨g, _⟩
        · exact g
        · exact absurd g hn
    · rw [List.drop_of_length_le h2, lt_nil] at hd; cases hd
theorem cm_app (q a b : List UInt8) : cm (q ++ a) (q ++ b) = q.length + cm a b := by
  induction q with
  | nil => simp
  | cons x q ih => simp only [List.cons_append, cm, if_pos, ih, List.length_cons]; omega
theorem btw_same {a : List UInt8} {y : UInt8} {b' : List UInt8} (_h : cm a (a ++ y :: b') = a.length) : btw a (a ++ y :: b') = a ++ [0] := by
  unfold btw; rw [if_pos _h]
theorem btw_differ {q a' b' : List UInt8} {x y : UInt8} (h : x.toNat < y.toNat) : btw (q ++ x :: a') (q ++ y :: b') = q ++ [UInt8.ofNat (x.toNat + 1)] := by
  have hne : x ≠ y := fun e => by subst e; omega
  have hc : cm (q ++ x :: a') (q ++ y :: b') = q.length := by rw [cm_app]; simp [cm, hne]
  unfold btw
  rw [hc, if_neg (by simp), List.getD_eq_getElem?_getD]
  simp
theorem btw_law {a b : List UInt8} (h : lt a b = true) :
    lt a (btw a b) = true ∧ lt b (btw a b) = false ∧ (btw a b).length = cm a b + 1 ∧ (btw a b).take (cm a b) = b.take (cm a b) ∧ ∀ t, lt a t = true → lt b t = false → t.length ≤ (btw a b).length → lt t (btw a b) = false := by
  rcases below_shape h with ⟨y, b', hc, rfl⟩ | ⟨q, x, a', y, b', hc, rfl, rfl, hxy⟩
  · rw [btw_same hc, hc]
    refine ⟨zero_above a, ?_, by simp, by simp, fun t g _ _ => zero_least a t g⟩
    rw [lt_app]
    cases e : lt (y :: b') [0] with
    | false => rfl
    | true =>
      rcases lt_cons.1 e with g | ⟨_, g⟩
      · simp at g
      · rw [lt_nil] at g; cases g
  · rw [btw_differ hxy, hc]
    have hy := y.toNat_lt
    have hu := ofNat_up (c := x) (by omega)
    refine ⟨by rw [lt_app]; exact lt_less _ _ (by omega), ?_, by simp, by simp, fun t g1 g2 g3 => ?_⟩
    · rw [lt_app]
      cases e : lt (y :: b') [UInt8.ofNat (x.toNat + 1)] with
      | false => rfl
      | true =>
        rcases lt_cons.1 e with g | ⟨_, g⟩
        · omega
        · rw [lt_nil] at g; cases g
    · cases e : lt t (q ++ [UInt8.ofNat (x.toNat + 1)]) with
      | false => rfl
      | true =>
        obtain ⟨t', rfl⟩ := between_begins q _ _ t (lt_asymm g1) e
        rw [lt_app] at g1 e
        simp at g3
        match t', g1, e, g3 with
        | [], g1, _, _ => rw [lt_nil] at g1; cases g1
        | [d], g1, e, _ =>
          rcases lt_cons.1 e with g | ⟨_, g⟩
          · rcases lt_cons.1 g1 with k | ⟨_, k⟩
            · omega
            · rw [lt_nil] at k; cases k
          · rw [lt_nil] at g; cases g
        | _ :: _ :: _, _, _, g3 => simp at g3
/-- the bytes before the last one of the answer don't do, and it does -/
theorem btw_tries {a b : List UInt8} (h : lt a b = true) :
    btwC a b < 256 ∧ btw a b = b.take (cm a b) ++ [UInt8.ofNat (btwC a b)] ∧ lt a (b.take (cm a b) ++ [UInt8.ofNat (btwC a b)]) = true ∧ lt b (b.take (cm a b) ++ [UInt8.ofNat (btwC a b)]) = false ∧
      ∀ c, c < btwC a b → lt a (b.take (cm a b) ++ [UInt8.ofNat c]) = false := by
  have hl := btw_law h
  have he : btw a b = b.take (cm a b) ++ [UInt8.ofNat (btwC a b)] := by
    unfold btw btwC
    by_cases e : cm a b = a.length
    · rw [if_pos e, if_pos e, take_of_cm e]; rfl
    · rw [if_neg e, if_neg e]
  refine ⟨?_, he, by rw [← he]; exact hl.1, by rw [← he]; exact hl.2.1, fun c hc => ?_⟩
  · rcases below_shape h with ⟨y, b', hc, rfl⟩ | ⟨q, x, a', y, b', hc, rfl, rfl, hxy⟩
    · unfold btwC; rw [if_pos hc]; decide
    · unfold btwC
      rw [hc, if_neg (by simp), List.getD_eq_getElem?_getD]
      have := y.toNat_lt
      simp; omega
  · rcases below_shape h with ⟨y, b', hk, rfl⟩ | ⟨q, x, a', y, b', hk, rfl, rfl, hxy⟩
    · unfold btwC at hc; rw [if_pos hk] at hc; omega
    · unfold btwC at hc
      rw [hk, if_neg (by simp), List.getD_eq_getElem?_getD] at hc
      simp at hc
      rw [hk, List.take_left, lt_app]
      have hx := x.toNat_lt
      have hcn : (UInt8.ofNat c).toNat = c := UInt8.toNat_ofNat_of_lt' (by show _ < 256; omega)
      cases e : lt (x :: a') [UInt8.ofNat c] with
      | false => rfl
      | true =>
        rcases lt_cons.1 e with g | ⟨_, g⟩
        · omega
        · rw [lt_nil] at g; cases g
end Go.Proofs.Ytlobkbhghpknmaa.Kl
