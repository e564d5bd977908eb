/-
  Plain functions, joined into one text.
-/
import Derived.Test.YtmobjpmkenpckaaDoorQb
/-
  Plain functions on entries: what is wrong with one, and their order. They import nothing of the program.
-/
namespace Go.Proofs.YtmobjpmkenpckaaDoor.El

/-- an entry: key, value, whether it is a tombstone, number -/
abbrev En := ByteArray × ByteArray × Bool × Int
/-- what is wrong with an entry -/
def chk (x : En) : Int :=
  if 32 < x.1.size then 3 else if 64 < x.2.1.size then 3 else if x.2.2.1 = true ∧ x.2.1.size ≠ 0 then 6 else if x.2.2.2 < 1 ∨ 1000000000 < x.2.2.2 then 7 else 0
theorem chk_key {k v : ByteArray} {d : Bool} {q : Int} (h : 32 < k.size) : chk (k, v, d, q) = 3 := if_pos h
theorem chk_val {k v : ByteArray} {d : Bool} {q : Int} (h : ¬ 32 < k.size) (g : 64 < v.size) : chk (k, v, d, q) = 3 := by
  unfold chk; rw [if_neg h, if_pos g]
theorem chk_dead {k v : ByteArray} {d : Bool} {q : Int} (h : ¬ 32 < k.size) (g : ¬ 64 < v.size) (hd : d = true) (hv : v.size ≠ 0) : chk (k, v, d, q) = 6 := by
  unfold chk; rw [if_neg h, if_neg g, if_pos ⟨hd, hv⟩]
theorem chk_seq {k v : ByteArray} {d : Bool} {q : Int} (h : ¬ 32 < k.size) (g : ¬ 64 < v.size) (hd : ¬ (d = true ∧ v.size ≠ 0)) (hq : q < 1 ∨ 1000000000 < q) : chk (k, v, d, q) = 7 := by
  unfold chk; rw [if_neg h, if_neg g, if_neg hd, if_pos hq]
theorem chk_ok {k v : ByteArray} {d : Bool} {q : Int} (h : ¬ 32 < k.size) (g : ¬ 64 < v.size) (hd : ¬ (d = true ∧ v.size ≠ 0)) (hq : ¬ (q < 1 ∨ 1000000000 < q)) : chk (k, v, d, q) = 0 := by
  unfold chk; rw [if_neg h, if_neg g, if_neg hd, if_neg hq]
theorem chk_of {x : En} (h : chk x = 0) : x.1.size ≤ 32 ∧ x.2.1.size ≤ 64 ∧ (x.2.2.1 = true → x.2.1.size = 0) ∧ 1 ≤ x.2.2.2 ∧ x.2.2.2 ≤ 1000000000 := by
  unfold chk at h
  split at h
  · cases h
  split at h
  · cases h
  split at h
  · cases h
  split at h
  · cases h
  rename_i h1 h2 h3 h4
  refine ⟨by omega, by omega, fun hd => ?_, by omega, by omega⟩
  rcases Nat.eq_zero_or_pos x.2.1.size with h | h
  · exact h
  · exact absurd ⟨hd, by omega⟩ h3
/-- what is wrong with two entries -/
def two (a b : En) : Int := if chk a = 0 then chk b else chk a
theorem two_ok {a b : En} (h : chk a = 0) : two a b = chk b := if_pos h
theorem two_no {a b : En} (h : ¬ chk a = 0) : two a b = chk a := if_neg h
theorem two_of {a b : En} (h : two a b = 0) : chk a = 0 ∧ chk b = 0 := by
  by_cases ha : chk a = 0
  · rw [two_ok ha] at h; exact ⟨ha, h⟩
  · rw [two_no ha] at h; exact absurd h ha
/-- the order of entries -/
def ord (a b : En) : Int :=
  if Kl.ord (Kl.L a.1) (Kl.L b.1) = 0 then (if b.2.2.2 < a.2.2.2 then -1 else if a.2.2.2 < b.2.2.2 then 1 else 0) else Kl.ord (Kl.L a.1) (Kl.L b.1)
/-- what Compare and Wins answer -/
def cmp (a b : En) : Int := if two a b = 0 then ord a b else 0
def none : En := (⟨#[]⟩, ⟨#[]⟩, false, 0)
def wins (a b : En) : Int × En :=
  if two a b = 0 then (if a.1 = b.1 then (if a.2.2.2 < b.2.2.2 then (0, b) else (0, a)) else (6, none)) else (two a b, none)
end Go.Proofs.YtmobjpmkenpckaaDoor.El

/-
  Stable sorting, plainly: what 'sorted, equal ones as they were' means, that it says what comes out, and why insertion and a symmetric merge give it. They import nothing of the program.
-/
namespace Go.Proofs.YtmobjpmkenpckaaDoor.Stb
universe u
variable {α : Type u}

/-- a total preorder: what a stable sort asks for -/
structure Pre (le : α → α → Bool) : Prop where
  total : ∀ x y, le x y = true ∨ le y x = true
  trans : ∀ x y z, le x y = true → le y z = true → le x z = true
variable {le : α → α → Bool}
theorem Pre.refl (h : Pre le) (x : α) : le x x = true := by rcases h.total x x with h | h <;> exact h
/-- neither before the other -/
def eqv (le : α → α → Bool) (z x : α) : Bool := le z x && le x z
/-- ascending -/
def Asc (le : α → α → Bool) (l : List α) : Prop := l.Pairwise fun x y => le x y = true
/-- l' is l, in order, equal ones as they were -/
def Stab (le : α → α → Bool) (l l' : List α) : Prop := Asc le l' ∧ ∀ z, l'.filter (eqv le z) = l.filter (eqv le z)

theorem Stab.refl {l : List α} (h : Asc le l) : Stab le l l := ⟨h, fun _ => rfl⟩
theorem Stab.trans {a b c : List α} (h : Stab le a b) (k : Stab le b c) : Stab le a c := ⟨k.1, fun z => (k.2 z).trans (h.2 z)⟩
theorem eqv_self (h : Pre le) (x : α) : eqv le x x = true := by simp [eqv, h.refl x]
theorem Stab.mem (hp : Pre le) {l l' : List α} (h : Stab le l l') {x : α} : x ∈ l' ↔ x ∈ l := by
  have e : ∀ m : List α, x ∈ m ↔ x ∈ m.filter (eqv le x) := fun m => by simp [List.mem_filter, eqv_self hp]
  rw [e l', h.2 x, ← e l]
theorem Stab.unique (hp : Pre le) : ∀ {l a b : List α}, Stab le l a → Stab le l b → a = b := by
  suffices H : ∀ {a b : List α}, Asc le a → Asc le b → (∀ z, a.filter (eqv le z) = b.filter (eqv le z)) → a = b from
    fun {_ _ _} h k => H h.1 k.1 fun z => (h.2 z).trans (k.2 z).symm
  intro a
  induction a with
  | nil =>
    intro b _ _ h
    cases b with
    | nil => rfl
    | cons y t => have := h y; simp [eqv_self hp] at this
  | cons x s ih =>
    intro b ha hb h
    cases b with
    | nil => have := h x; simp [eqv_self hp] at this
    | cons y t =>
      have hx : x ∈ y :: t := by
        have : x ∈ (y :: t).filter (eqv le x) := by rw [← h x]; simp [List.mem_filter, eqv_self hp]
        exact (List.mem_filter.1 this).1
      have hy : y ∈ x :: s := by
        have : y ∈ (x :: s).filter (eqv le y) := by rw [h y]; simp [List.mem_filter, eqv_self hp]
        exact (List.mem_filter.1 this).1
      have l1 : le y x = true := by
        rcases List.mem_cons.1 hx with rfl | hx
        · exact hp.refl _
        · exact (List.pairwise_cons.1 hb).1 _ hx
      have l2 : le x y = true := by
        rcases List.mem_cons.1 hy with rfl | hy
        · exact hp.refl _
        · exact (List.pairwise_cons.1 ha).1 _ hy
      have e : x = y := by
        have := h x
        rw [List.filter_cons, List.filter_cons, if_pos (eqv_self hp x), if_pos (by simp [eqv, l1, l2])] at this
        exact (List.cons.inj this).1
      subst e
      congr 1
      refine ih (List.pairwise_cons.1 ha).2 (List.pairwise_cons.1 hb).2 fun z => ?_
      have := h z
      rw [List.filter_cons, List.filter_cons] at this
      by_cases q : eqv le z x = true
      · rw [if_pos q, if_pos q] at this; exact (List.cons.inj this).2
      · rw [if_neg q, if_neg q] at this; exact this

theorem stab_length (hp : Pre le) {l l' : List α} (h : Stab le l l') : l'.length = l.length := by
  obtain ⟨-, h⟩ := h
  induction l generalizing l' with
  | nil =>
    cases l' with
    | nil => rfl
    | cons y t => have := h y; simp [eqv_self hp] at this
  | cons x t ih =>
    have hx : x ∈ l' := by
      have : x ∈ l'.filter (eqv le x) := by rw [h x]; simp [eqv_self hp]
      exact (List.mem_filter.1 this).1
    have hf := h x
    rw [List.filter_cons, if_pos (eqv_self hp x)] at hf
    obtain ⟨A, y, B, rfl, hA, hy⟩ : ∃ A y B, l' = A ++ y :: B ∧ (∀ a ∈ A, eqv le x a = false) ∧ eqv le x y = true := by
      clear hf ih h
      induction l' with
      | nil => cases hx
      | cons c d ihd =>
        by_cases g : eqv le x c = true
        · exact ⟨[], c, d, rfl, by simp, g⟩
        · rcases List.mem_cons.1 hx with rfl | hx
          · exact absurd (eqv_self hp _) g
          · obtain ⟨A, y, B, rfl, hA, hy⟩ := ihd hx
            exact ⟨c :: A, y, B, rfl, fun a ha => by rcases List.mem_cons.1 ha with rfl | ha; exact (by simpa using g); exact hA a ha, hy⟩
    have hAf : A.filter (eqv le x) = [] := by
      rw [List.filter_eq_nil_iff]; intro a ha; rw [hA a ha]; simp
    rw [List.filter_append, hAf, List.filter_cons, if_pos hy] at hf
    have hxy : y = x := (List.cons.inj hf).1
    subst hxy
    have := ih (l' := A ++ B) (fun z => by
      have hz := h z
      rw [List.filter_append, List.filter_cons, List.filter_cons] at hz
      rw [List.filter_append]
      by_cases g : eqv le z y = true
      · rw [if_pos g, if_pos g] at hz
        have hAz : A.filter (eqv le z) = [] := by
          rw [List.filter_eq_nil_iff]; intro a ha q
          have := hA a ha
          simp [eqv] at g q this
          have h1 := hp.trans _ _ _ g.2 q.1
          have h2 := hp.trans _ _ _ q.2 g.1
          rw [this h1] at h2; cases h2
        rw [hAz] at hz ⊢
        exact (List.cons.inj hz).2
      · rw [if_neg g, if_neg g] at hz; exact hz)
    simp at this ⊢; omega

theorem filter_none (e : α → Bool) : ∀ {B : List α}, (∀ b ∈ B, e b = false) → B.filter e = []
  | [], _ => rfl
  | b :: B, h => by rw [List.filter_cons, if_neg (by rw [h b (by simp)]; simp)]; exact filter_none e fun c hc => h c (by simp [hc])

/-- elements that are strictly apart share no class -/
theorem apart (hp : Pre le) (z : α) {X Y : List α} (h : ∀ x ∈ X, ∀ y ∈ Y, le y x = false) : X.filter (eqv le z) = [] ∨ Y.filter (eqv le z) = [] := by
  by_cases q : ∃ x ∈ X, eqv le z x = true
  · obtain ⟨x, hx, hz⟩ := q
    right
    refine filter_none _ fun y hy => ?_
    by_cases g : eqv le z y = true
    · exfalso
      simp [eqv] at hz g
      have := hp.trans y z x g.2 hz.1
      rw [h x hx y hy] at this; cases this
    · simpa using g
  · left
    refine filter_none _ fun x hx => ?_
    by_cases g : eqv le z x = true
    · exact absurd ⟨x, hx, g⟩ q
    · simpa using g

/-- x is put behind those that do not come behind it -/
theorem stab_insert (hp : Pre le) {A B : List α} {x : α} (h : Asc le (A ++ B)) (hA : ∀ a ∈ A, le a x = true) (hB : ∀ b ∈ B, le b x = false) :
    Stab le (A ++ B ++ [x]) (A ++ x :: B) := by
  obtain ⟨h1, h2, h3⟩ := List.pairwise_append.1 h
  refine ⟨List.pairwise_append.2 ⟨h1, List.pairwise_cons.2 ⟨fun b hb => ?_, h2⟩, fun a ha b hb => ?_⟩, fun z => ?_⟩
  · rcases hp.total x b with g | g
    · exact g
    · rw [hB b hb] at g; cases g
  · rcases List.mem_cons.1 hb with rfl | hb
    · exact hA a ha
    · exact h3 a ha b hb
  · simp only [List.filter_append]
    rcases apart hp z (X := [x]) (Y := B) (fun x' hx' b hb => by rw [List.mem_singleton] at hx'; subst hx'; exact hB b hb) with e | e
    · rw [show x :: B = [x] ++ B from rfl, List.filter_append, e]; simp
    · rw [show x :: B = [x] ++ B from rfl, List.filter_append, e]; simp
theorem stab_append_left {a a' : List α} (c : List α) {r : List α} (h : Stab le a a') (k : Stab le (a' ++ c) r) : Stab le (a ++ c) r :=
  ⟨k.1, fun z => by rw [k.2 z, List.filter_append, List.filter_append, h.2 z]⟩
/-- the two halves of a symmetric merge -/
theorem stab_halves (hp : Pre le) {U1 U2 V1 V2 W1 W2 : List α} (h1 : Stab le (U1 ++ V1) W1) (h2 : Stab le (U2 ++ V2) W2)
    (hU : ∀ a ∈ U1, ∀ b ∈ U2, le a b = true) (hV : ∀ a ∈ V1, ∀ b ∈ V2, le a b = true) (hUV : ∀ a ∈ U1, ∀ b ∈ V2, le a b = true) (hVU : ∀ a ∈ V1, ∀ b ∈ U2, le b a = false) :
    Stab le ((U1 ++ U2) ++ (V1 ++ V2)) (W1 ++ W2) := by
  refine ⟨List.pairwise_append.2 ⟨h1.1, h2.1, fun a ha b hb => ?_⟩, fun z => ?_⟩
  · rw [h1.mem hp, List.mem_append] at ha
    rw [h2.mem hp, List.mem_append] at hb
    rcases ha with ha | ha <;> rcases hb with hb | hb
    · exact hU a ha b hb
    · exact hUV a ha b hb
    · rcases hp.total a b with g | g
      · exact g
      · rw [hVU a ha b hb] at g; cases g
    · exact hV a ha b hb
  · rw [List.filter_append, h1.2 z, h2.2 z]
    simp only [List.filter_append]
    rcases apart hp z (X := V1) (Y := U2) hVU with e | e <;> rw [e] <;> simp
theorem asc_app {A B : List α} (h : Asc le (A ++ B)) : Asc le A ∧ Asc le B ∧ ∀ a ∈ A, ∀ b ∈ B, le a b = true := List.pairwise_append.1 h
/-- a sorted list's elements are not behind its last one -/
theorem asc_last {A : List α} {y : α} (hp : Pre le) (h : Asc le (A ++ [y])) : ∀ a ∈ A ++ [y], le a y = true := fun a ha => by
  rcases List.mem_append.1 ha with ha | ha
  · exact (asc_app h).2.2 a ha y (by simp)
  · rw [List.mem_singleton] at ha; subst ha; exact hp.refl _
theorem asc_head {B : List α} {y : α} (hp : Pre le) (h : Asc le (y :: B)) : ∀ b ∈ y :: B, le y b = true := fun b hb => by
  rcases List.mem_cons.1 hb with rfl | hb
  · exact hp.refl _
  · exact (List.pairwise_cons.1 h).1 b hb
/-- where a symmetric merge cuts: what its search has found tells all that the halves ask for -/
theorem sym_cut (hp : Pre le) {U1 U2 V1 V2 : List α} (hU : Asc le (U1 ++ U2)) (hV : Asc le (V1 ++ V2))
    (h1 : ∀ x T S y, U2 = x :: T → V1 = S ++ [y] → le x y = false) (h2 : ∀ S x y T, U1 = S ++ [x] → V2 = y :: T → le x y = true) :
    (∀ a ∈ U1, ∀ b ∈ U2, le a b = true) ∧ (∀ a ∈ V1, ∀ b ∈ V2, le a b = true) ∧ (∀ a ∈ U1, ∀ b ∈ V2, le a b = true) ∧ (∀ a ∈ V1, ∀ b ∈ U2, le b a = false) := by
  obtain ⟨u1, u2, u3⟩ := asc_app hU
  obtain ⟨v1, v2, v3⟩ := asc_app hV
  refine ⟨u3, v3, fun a ha b hb => ?_, fun a ha b hb => ?_⟩
  · cases V2 with
    | nil => cases hb
    | cons y T =>
      rcases List.eq_nil_or_concat U1 with rfl | ⟨S, x, rfl⟩
      · cases ha
      · rw [List.concat_eq_append] at *
        exact hp.trans _ _ _ (asc_last hp u1 a ha) (hp.trans _ _ _ (h2 S x y T rfl rfl) (asc_head hp v2 b hb))
  · cases U2 with
    | nil => cases hb
    | cons x T =>
      rcases List.eq_nil_or_concat V1 with rfl | ⟨S, y, rfl⟩
      · cases ha
      · rw [List.concat_eq_append] at *
        have q := h1 x T S y rfl rfl
        cases g : le b a with
        | false => rfl
        | true =>
          have := hp.trans _ _ _ (hp.trans _ _ _ (asc_head hp u2 b hb) g) (asc_last hp v1 a ha)
          rw [q] at this; cases this
/-- one element before an ascending list: it goes behind all that are less -/
theorem stab_one_left (hp : Pre le) {x : α} {V1 V2 : List α} (hV : Asc le (V1 ++ V2)) (h1 : ∀ S y, V1 = S ++ [y] → le x y = false) (h2 : ∀ y T, V2 = y :: T → le x y = true) :
    Stab le ([x] ++ (V1 ++ V2)) (V1 ++ x :: V2) := by
  have hx : Asc le ([] ++ [x] : List α) := by simp [Asc]
  obtain ⟨a, b, c, d⟩ := sym_cut hp (U1 := []) (U2 := [x]) hx hV (fun x' T S y e1 e2 => by cases e1; exact h1 S y e2) (fun S x' y T e1 _ => by simp at e1)
  have hl : ∀ y ∈ V2, le x y = true := fun y hy => by
    cases V2 with
    | nil => cases hy
    | cons z T => exact hp.trans _ _ _ (h2 z T rfl) (asc_head hp (asc_app hV).2.1 y hy)
  have s1 : Stab le ([] ++ V1) V1 := Stab.refl (asc_app hV).1
  have s2 : Stab le ([x] ++ V2) (x :: V2) := Stab.refl (List.pairwise_cons.2 ⟨hl, (asc_app hV).2.1⟩)
  exact stab_halves hp s1 s2 a b c d
/-- one element behind an ascending list: it goes before all that are greater -/
theorem stab_one_right (hp : Pre le) {y : α} {U1 U2 : List α} (hU : Asc le (U1 ++ U2)) (h1 : ∀ x T, U2 = x :: T → le x y = false) (h2 : ∀ S x, U1 = S ++ [x] → le x y = true) :
    Stab le ((U1 ++ U2) ++ [y]) (U1 ++ y :: U2) := by
  refine stab_insert hp hU (fun a ha => ?_) fun b hb => ?_
  · rcases List.eq_nil_or_concat U1 with rfl | ⟨S, x, rfl⟩
    · cases ha
    · rw [List.concat_eq_append] at *
      exact hp.trans _ _ _ (asc_last hp (asc_app hU).1 a ha) (h2 S x rfl)
  · cases U2 with
    | nil => cases hb
    | cons x T =>
      have q := h1 x T rfl
      cases g : le b y with
      | false => rfl
      | true =>
        have := hp.trans _ _ _ (asc_head hp (asc_app hU).2.1 b hb) g
        rw [q] at this; cases this
theorem asc_one (x : α) : Asc le [x] := by simp [Asc]
end Go.Proofs.YtmobjpmkenpckaaDoor.Stb

namespace Go.Proofs.YtmobjpmkenpckaaDoor.El
/-- not behind -/
def le (a b : En) : Bool := !decide (ord b a < 0)
theorem ord_lt {a b : En} : ord a b < 0 ↔ Kl.lt (Kl.L a.1) (Kl.L b.1) = true ∨ (Kl.L a.1 = Kl.L b.1 ∧ b.2.2.2 < a.2.2.2) := by
  unfold ord
  by_cases h : Kl.ord (Kl.L a.1) (Kl.L b.1) = 0
  · rw [if_pos h]
    have e := Kl.ord_eq.1 h
    rw [e, Kl.lt_irrefl]
    by_cases g : b.2.2.2 < a.2.2.2
    · rw [if_pos g]; simp [g]
    · rw [if_neg g]
      split <;> simp [g]
  · rw [if_neg h, Kl.ord_neg]
    have e : ¬ Kl.L a.1 = Kl.L b.1 := fun e => h (Kl.ord_eq.2 e)
    simp [e]
theorem le_iff {a b : En} : le a b = true ↔ ¬ ord b a < 0 := by simp [le]
theorem le_false {a b : En} : le a b = false ↔ ord b a < 0 := by simp [le]
theorem le_iff' {a b : En} : le a b = true ↔ Kl.lt (Kl.L b.1) (Kl.L a.1) = false ∧ (Kl.L b.1 = Kl.L a.1 → b.2.2.2 ≤ a.2.2.2) := by
  rw [le_iff, ord_lt]
  constructor
  · intro h
    refine ⟨by cases g : Kl.lt (Kl.L b.1) (Kl.L a.1) with | false => rfl | true => exact absurd (Or.inl g) h, fun e => ?_⟩
    rcases Int.lt_or_le a.2.2.2 b.2.2.2 with g | g
    · exact absurd (Or.inr ⟨e, g⟩) h
    · exact g
  · rintro ⟨h1, h2⟩ (h | ⟨h3, h4⟩)
    · rw [h1] at h; cases h
    · have := h2 h3; omega
theorem pre : Stb.Pre le where
  total x y := by
    rw [le_iff', le_iff']
    by_cases e : Kl.L x.1 = Kl.L y.1
    · rw [e, Kl.lt_irrefl]; simp; omega
    · cases g : Kl.lt (Kl.L y.1) (Kl.L x.1) with
      | false => left; exact ⟨rfl, fun h => absurd h.symm e⟩
      | true => right; exact ⟨Kl.lt_asymm g, fun h => absurd h e⟩
  trans x y z h1 h2 := by
    rw [le_iff'] at *
    refine ⟨Kl.le_le h1.1 h2.1, fun e => ?_⟩
    have : Kl.L y.1 = Kl.L x.1 := Kl.lt_total h1.1 (by have := h2.1; rw [e] at this; exact this)
    exact Int.le_trans (h2.2 (e.trans this.symm)) (h1.2 this)
theorem key_eq {a b : ByteArray} : Kl.L a = Kl.L b ↔ a = b := ⟨fun h => ByteArray.ext (Array.toList_inj.1 h), fun h => by rw [h]⟩
/-- entries that neither comes before the other have one key, and one number -/
theorem eqv_iff {a b : En} : Stb.eqv le a b = true ↔ a.1 = b.1 ∧ a.2.2.2 = b.2.2.2 := by
  unfold Stb.eqv
  rw [Bool.and_eq_true, le_iff', le_iff']
  constructor
  · rintro ⟨⟨h1, h2⟩, h3, h4⟩
    have e := Kl.lt_total h1 h3
    exact ⟨key_eq.1 e.symm, Int.le_antisymm (h4 e.symm) (h2 e)⟩
  · rintro ⟨e, g⟩
    rw [e, g, Kl.lt_irrefl]; simp
end Go.Proofs.YtmobjpmkenpckaaDoor.El

/-
  Contracts of entries: Check, on both sides.
-/
namespace Go.Proofs.YtmobjpmkenpckaaDoor.KK
open Go.ChangeShapes Go.WideShapes Go.ChangeAt Go.RowKit Go.Proofs

theorem str_empty (s : ByteArray) (h : s.size = 0) : s.toList = [] := by
  rw [Lib.toList_data]; exact List.eq_nil_of_length_eq_zero (by rw [← Lib.size_eq]; exact h)
theorem str_full (s : ByteArray) (h : s.size ≠ 0) : s.toList ≠ [] ∧ s.toList.isEmpty = false := by
  have : s.toList ≠ [] := by
    rw [Lib.toList_data]; intro e
    have := Lib.size_eq s; rw [e, List.length_nil] at this; omega
  exact ⟨this, by simpa using this⟩

set_option maxHeartbeats 1000000 in
theorem eCheck_any (k v : ByteArray) (d : Bool) (q : Int) (w : World) (hk : k.size ≤ 9223372036854775807) (hv : v.size ≤ 9223372036854775807) :
    Calls Tryd.prog 42 #[.agg #[.string k, .string v, .bool d, .int .i64 q]] w fun e w' => e = .returned (.int .i64 (El.chk (k, v, d, q))) ∧ Below w.heap.size w w' := by
  by_cases h1 : 32 < k.size
  · have H := Lib.hid (El.chk_key (v := v) (d := d) (q := q) h1)
    have J := Lib.hid (fun w => by have K := kCheck_any k w hk; rw [chk1_no (by omega)] at K; exact K)
    clear h1
    go_enter Tryd.func42, Tryd.ntmps42
    go_wp2_with (go_at_call 37; refine (J.out _).mono ?_; rintro e w' ⟨rfl, rfl⟩)
    go_ret
    exact ⟨by rw [H.out]; rfl, (Below.refl _ _).alloc (Nat.le_refl _) _⟩
  · by_cases h2 : 64 < v.size
    · have H := Lib.hid (El.chk_val (d := d) (q := q) h1 h2)
      have J := Lib.hid (fun w => by have K := kCheck_any k w hk; rw [chk1_ok (by omega)] at K; exact K)
      clear h1
      go_enter Tryd.func42, Tryd.ntmps42
      go_wp2_with (go_at_call 37; refine (J.out _).mono ?_; rintro e w' ⟨rfl, rfl⟩)
      go_ret
      exact ⟨by rw [H.out]; rfl, (Below.refl _ _).alloc (Nat.le_refl _) _⟩
    · by_cases h3 : d = true ∧ v.size ≠ 0
      · have H := Lib.hid (El.chk_dead (q := q) h1 h2 h3.1 h3.2)
        have J := Lib.hid (fun w => by have K := kCheck_any k w hk; rw [chk1_ok (by omega)] at K; exact K)
        obtain ⟨z1, z2⟩ := str_full v h3.2
        obtain ⟨rfl, _⟩ := h3
        clear h1
        go_enter Tryd.func42, Tryd.ntmps42
        go_wp2_with (go_at_call 37; refine (J.out _).mono ?_; rintro e w' ⟨rfl, rfl⟩)
        go_ret
        exact ⟨by rw [H.out]; rfl, (Below.refl _ _).alloc (Nat.le_refl _) _⟩
      · by_cases h4 : q < 1 ∨ 1000000000 < q
        · have H := Lib.hid (El.chk_seq h1 h2 h3 h4)
          have J := Lib.hid (fun w => by have K := kCheck_any k w hk; rw [chk1_ok (by omega)] at K; exact K)
          rcases h4 with h4 | h4
          all_goals
            cases d
            all_goals
              (try (have z1 := str_empty v (by by_cases z : v.size = 0; exact z; exact absurd ⟨rfl, z⟩ h3)))
              clear h3 h1
              go_enter Tryd.func42, Tryd.ntmps42
              go_wp2_with (go_at_call 37; refine (J.out _).mono ?_; rintro e w' ⟨rfl, rfl⟩)
              go_ret
              exact ⟨by rw [H.out]; rfl, (Below.refl _ _).alloc (Nat.le_refl _) _⟩
        · have H := Lib.hid (El.chk_ok h1 h2 h3 h4)
          have J := Lib.hid (fun w => by have K := kCheck_any k w hk; rw [chk1_ok (by omega)] at K; exact K)
          obtain ⟨h5, h6⟩ : ¬ q < 1 ∧ ¬ 1000000000 < q := by omega
          clear h4
          all_goals
            cases d
            all_goals
              (try (have z1 := str_empty v (by by_cases z : v.size = 0; exact z; exact absurd ⟨rfl, z⟩ h3)))
              clear h3 h1
              go_enter Tryd.func42, Tryd.ntmps42
              go_wp2_with (go_at_call 37; refine (J.out _).mono ?_; rintro e w' ⟨rfl, rfl⟩)
              go_ret
              exact ⟨by rw [H.out]; rfl, (Below.refl _ _).alloc (Nat.le_refl _) _⟩
set_option maxHeartbeats 1000000 in
theorem fCheck_any (k v : ByteArray) (d : Bool) (q : Int) (w : World) (hk : k.size ≤ 9223372036854775807) (hv : v.size ≤ 9223372036854775807) :
    Calls Tryd.prog 46 #[.agg #[.string k, .string v, .bool d, .int .i64 q]] w fun e w' => e = .returned (.int .i64 (El.chk (k, v, d, q))) ∧ Below w.heap.size w w' := by
  by_cases h1 : 32 < k.size
  · have H := Lib.hid (El.chk_key (v := v) (d := d) (q := q) h1)
    go_enter Tryd.func46, Tryd.ntmps46
    go_wp2_with fail
    go_ret
    exact ⟨by rw [H.out]; rfl, (Below.refl _ _).alloc (Nat.le_refl _) _⟩
  · by_cases h2 : 64 < v.size
    · have H := Lib.hid (El.chk_val (d := d) (q := q) h1 h2)
      go_enter Tryd.func46, Tryd.ntmps46
      go_wp2_with fail
      go_ret
      exact ⟨by rw [H.out]; rfl, (Below.refl _ _).alloc (Nat.le_refl _) _⟩
    · by_cases h3 : d = true ∧ v.size ≠ 0
      · have H := Lib.hid (El.chk_dead (q := q) h1 h2 h3.1 h3.2)
        obtain ⟨z1, z2⟩ := str_full v h3.2
        obtain ⟨rfl, _⟩ := h3
        go_enter Tryd.func46, Tryd.ntmps46
        go_wp2_with fail
        go_ret
        exact ⟨by rw [H.out]; rfl, (Below.refl _ _).alloc (Nat.le_refl _) _⟩
      · by_cases h4 : q < 1 ∨ 1000000000 < q
        · have H := Lib.hid (El.chk_seq h1 h2 h3 h4)
          
          rcases h4 with h4 | h4
          all_goals
            cases d
            all_goals
              (try (have z1 := str_empty v (by by_cases z : v.size = 0; exact z; exact absurd ⟨rfl, z⟩ h3)))
              clear h3
              go_enter Tryd.func46, Tryd.ntmps46
              go_wp2_with fail
              go_ret
              exact ⟨by rw [H.out]; rfl, (Below.refl _ _).alloc (Nat.le_refl _) _⟩
        · have H := Lib.hid (El.chk_ok h1 h2 h3 h4)
          
          obtain ⟨h5, h6⟩ : ¬ q < 1 ∧ ¬ 1000000000 < q := by omega
          clear h4
          all_goals
            cases d
            all_goals
              (try (have z1 := str_empty v (by by_cases z : v.size = 0; exact z; exact absurd ⟨rfl, z⟩ h3)))
              clear h3
              go_enter Tryd.func46, Tryd.ntmps46
              go_wp2_with fail
              go_ret
              exact ⟨by rw [H.out]; rfl, (Below.refl _ _).alloc (Nat.le_refl _) _⟩
end Go.Proofs.YtmobjpmkenpckaaDoor.KK

/-
  Contracts of entries: checkBoth.
-/
namespace Go.Proofs.YtmobjpmkenpckaaDoor.KK
open Go.ChangeShapes Go.WideShapes Go.ChangeAt Go.RowKit Go.Proofs

theorem eb_of {B : Nat} {w w1 w2 : World} (hb : Below B w w1) (h : Below w1.heap.size w1 w2) (hB : B ≤ w.heap.size) : Below B w w2 := hb.trans (h.mono (Nat.le_trans hB hb.size))
theorem ne_b {a : Int} (h : a ≠ 0) : (a == 0) = false ∧ (a != 0) = true := ⟨by rw [beq_eq_false_iff_ne]; exact h, by rw [bne_iff_ne]; exact h⟩
set_option maxHeartbeats 1000000 in
theorem eBoth_any (k v : ByteArray) (d : Bool) (q : Int) (k2 v2 : ByteArray) (d2 : Bool) (q2 : Int) (w : World) (hk : k.size ≤ 9223372036854775807) (hv : v.size ≤ 9223372036854775807) (hk2 : k2.size ≤ 9223372036854775807) (hv2 : v2.size ≤ 9223372036854775807) :
    Calls Tryd.prog 40 #[.agg #[.string k, .string v, .bool d, .int .i64 q], .agg #[.string k2, .string v2, .bool d2, .int .i64 q2]] w fun e w' => e = .returned (.int .i64 (El.two (k, v, d, q) (k2, v2, d2, q2))) ∧ Below w.heap.size w w' := by
  have J1 := Lib.hid (fun w => eCheck_any k v d q w hk hv)
  have J2 := Lib.hid (fun w => eCheck_any k2 v2 d2 q2 w hk2 hv2)
  by_cases h : El.chk (k, v, d, q) = 0
  · have H := Lib.hid (El.two_ok (b := (k2, v2, d2, q2)) h)
    have J1 := Lib.hid (fun w => by have K := J1.out w; rw [h] at K; exact K)
    clear h
    generalize El.chk (k2, v2, d2, q2) = r2 at *
    have hA : Below w.heap.size w ((w.alloc (.cells #[.string k, .string v, .bool d, .int .i64 q] 33)).alloc (.cells #[.string k2, .string v2, .bool d2, .int .i64 q2] 33)) := ((Below.refl _ _).alloc (Nat.le_refl _) _).alloc (by simp) _
    have hrow := fun i => cell_of_row ((w.alloc (.cells #[.string k, .string v, .bool d, .int .i64 q] 33)).alloc (.cells #[.string k2, .string v2, .bool d2, .int .i64 q2] 33)) (w.heap.size + 1) i _ _ _ (by have h := heap_alloc_new (w.alloc (.cells #[.string k, .string v, .bool d, .int .i64 q] 33)) (.cells #[.string k2, .string v2, .bool d2, .int .i64 q2] 33); simpa using h)
    have hsz : (((w.alloc (.cells #[.string k, .string v, .bool d, .int .i64 q] 33)).alloc (.cells #[.string k2, .string v2, .bool d2, .int .i64 q2] 33))).heap.size = w.heap.size + 2 := by simp
    have HC : Hid (∀ w', Below (((w.alloc (.cells #[.string k, .string v, .bool d, .int .i64 q] 33)).alloc (.cells #[.string k2, .string v2, .bool d2, .int .i64 q2] 33))).heap.size ((w.alloc (.cells #[.string k, .string v, .bool d, .int .i64 q] 33)).alloc (.cells #[.string k2, .string v2, .bool d2, .int .i64 q2] 33)) w' → w'.cell? ⟨w.heap.size + 1, 0, none⟩ = some (.string k2) ∧ w'.cell? ⟨w.heap.size + 1, 1, none⟩ = some (.string v2) ∧ w'.cell? ⟨w.heap.size + 1, 2, none⟩ = some (.bool d2) ∧ w'.cell? ⟨w.heap.size + 1, 3, none⟩ = some (.int .i64 q2)) := Lib.hid fun w' h =>
      ⟨(h.cell (p := ⟨w.heap.size + 1, 0, none⟩) (by simp)).trans (hrow 0), (h.cell (p := ⟨w.heap.size + 1, 1, none⟩) (by simp)).trans (hrow 1), (h.cell (p := ⟨w.heap.size + 1, 2, none⟩) (by simp)).trans (hrow 2), (h.cell (p := ⟨w.heap.size + 1, 3, none⟩) (by simp)).trans (hrow 3)⟩
    have HA := Lib.hid hA
    clear hA hrow hsz
    go_enter Tryd.func40, Tryd.ntmps40
    go_wp2_with fail
    refine (J1.out _).mono ?_
    rintro e w1 ⟨rfl, hb1⟩
    have HB := Lib.hid (eb_of HA.out hb1 (Nat.le_refl _))
    obtain ⟨c0, c1, c2, c3⟩ := HC.out _ hb1
    clear hb1
    go_wp2_with fail
    refine (J2.out _).mono ?_
    rintro e w2 ⟨rfl, hb2⟩
    have HB2 := Lib.hid (eb_of HB.out hb2 (Nat.le_refl _))
    clear hb2
    go_wp2_with fail
    go_ret
    exact ⟨by rw [H.out]; rfl, HB2.out⟩
  · have H := Lib.hid (El.two_no (b := (k2, v2, d2, q2)) h)
    obtain ⟨b1, b2⟩ := ne_b h
    clear J2 h
    generalize El.chk (k, v, d, q) = c1 at *
    have HA : Hid (Below w.heap.size w ((w.alloc (.cells #[.string k, .string v, .bool d, .int .i64 q] 33)).alloc (.cells #[.string k2, .string v2, .bool d2, .int .i64 q2] 33))) := Lib.hid (((Below.refl _ _).alloc (Nat.le_refl _) _).alloc (by simp) _)
    go_enter Tryd.func40, Tryd.ntmps40
    go_wp2_with fail
    refine (J1.out _).mono ?_
    rintro e w1 ⟨rfl, hb1⟩
    have HB := Lib.hid hb1
    clear hb1
    go_wp2_with fail
    go_ret
    exact ⟨by rw [H.out]; rfl, eb_of HA.out HB.out (Nat.le_refl _)⟩
end Go.Proofs.YtmobjpmkenpckaaDoor.KK

/-
  Contracts of entries: sameKey.
-/
namespace Go.Proofs.YtmobjpmkenpckaaDoor.KK
open Go.ChangeShapes Go.WideShapes Go.ChangeAt Go.RowKit Go.Proofs

theorem str_ne {a b : ByteArray} (h : a ≠ b) : ¬ a.toList = b.toList := fun e => by
  rw [Lib.toList_data, Lib.toList_data] at e
  exact h (ByteArray.ext (Array.toList_inj.1 e))
set_option maxHeartbeats 1000000 in
theorem eSame_yes (k v : ByteArray) (d : Bool) (q : Int) (v2 : ByteArray) (d2 : Bool) (q2 : Int) (w : World) :
    Calls Tryd.prog 31 #[.agg #[.string k, .string v, .bool d, .int .i64 q], .agg #[.string k, .string v2, .bool d2, .int .i64 q2]] w fun e w' => e = .returned (.bool true) ∧ Below w.heap.size w w' := by
  go_enter Tryd.func31, Tryd.ntmps31
  go_wp2_with fail
  go_ret
  exact ⟨by first | rfl | simp [Array.getD], ((Below.refl _ _).alloc (Nat.le_refl _) _).alloc (by simp) _⟩
set_option maxHeartbeats 1000000 in
theorem eSame_no (k v : ByteArray) (d : Bool) (q : Int) (k2 v2 : ByteArray) (d2 : Bool) (q2 : Int) (w : World) (h : k ≠ k2) :
    Calls Tryd.prog 31 #[.agg #[.string k, .string v, .bool d, .int .i64 q], .agg #[.string k2, .string v2, .bool d2, .int .i64 q2]] w fun e w' => e = .returned (.bool false) ∧ Below w.heap.size w w' := by
  have hb := str_ne h
  clear h
  go_enter Tryd.func31, Tryd.ntmps31
  go_wp2_with fail
  go_ret
  exact ⟨by first | rfl | (simp [Array.getD]; done) | (simp [Array.getD]; exact hb), ((Below.refl _ _).alloc (Nat.le_refl _) _).alloc (by simp) _⟩
end Go.Proofs.YtmobjpmkenpckaaDoor.KK

/-
  Contracts of entries: keyOrder, compare, Compare, Wins; the reference's order, Compare, Wins.
-/
namespace Go.Proofs.YtmobjpmkenpckaaDoor.KK
open Go.ChangeShapes Go.WideShapes Go.ChangeAt Go.RowKit Go.Proofs

/-- two structs boxed, one after the other: what their cells hold in whatever world comes of it -/
theorem box2 (k v : ByteArray) (d : Bool) (q : Int) (k2 v2 : ByteArray) (d2 : Bool) (q2 : Int) (w : World) : Hid (∀ w', Below ((w.alloc (.cells #[.string k, .string v, .bool d, .int .i64 q] 33)).alloc (.cells #[.string k2, .string v2, .bool d2, .int .i64 q2] 33)).heap.size ((w.alloc (.cells #[.string k, .string v, .bool d, .int .i64 q] 33)).alloc (.cells #[.string k2, .string v2, .bool d2, .int .i64 q2] 33)) w' →
    (w'.cell? ⟨w.heap.size, 0, none⟩ = some (.string k) ∧ w'.cell? ⟨w.heap.size, 1, none⟩ = some (.string v) ∧ w'.cell? ⟨w.heap.size, 2, none⟩ = some (.bool d) ∧ w'.cell? ⟨w.heap.size, 3, none⟩ = some (.int .i64 q)) ∧
    (w'.cell? ⟨w.heap.size + 1, 0, none⟩ = some (.string k2) ∧ w'.cell? ⟨w.heap.size + 1, 1, none⟩ = some (.string v2) ∧ w'.cell? ⟨w.heap.size + 1, 2, none⟩ = some (.bool d2) ∧ w'.cell? ⟨w.heap.size + 1, 3, none⟩ = some (.int .i64 q2))) := Lib.hid fun w' h => by
  have r1 := fun i => cell_of_row ((w.alloc (.cells #[.string k, .string v, .bool d, .int .i64 q] 33)).alloc (.cells #[.string k2, .string v2, .bool d2, .int .i64 q2] 33)) w.heap.size i _ _ _ (by have h := heap_alloc_new w (.cells #[.string k, .string v, .bool d, .int .i64 q] 33); have h2 := heap_alloc_old (w.alloc (.cells #[.string k, .string v, .bool d, .int .i64 q] 33)) (.cells #[.string k2, .string v2, .bool d2, .int .i64 q2] 33) (r := w.heap.size) (by simp); rw [h2]; exact h)
  have r2 := fun i => cell_of_row ((w.alloc (.cells #[.string k, .string v, .bool d, .int .i64 q] 33)).alloc (.cells #[.string k2, .string v2, .bool d2, .int .i64 q2] 33)) (w.heap.size + 1) i _ _ _ (by have h := heap_alloc_new (w.alloc (.cells #[.string k, .string v, .bool d, .int .i64 q] 33)) (.cells #[.string k2, .string v2, .bool d2, .int .i64 q2] 33); simpa using h)
  have e : ((w.alloc (.cells #[.string k, .string v, .bool d, .int .i64 q] 33)).alloc (.cells #[.string k2, .string v2, .bool d2, .int .i64 q2] 33)).heap.size = w.heap.size + 2 := by simp
  rw [e] at h
  have g1 : ∀ i, w'.cell? ⟨w.heap.size, i, none⟩ = ((w.alloc (.cells #[.string k, .string v, .bool d, .int .i64 q] 33)).alloc (.cells #[.string k2, .string v2, .bool d2, .int .i64 q2] 33)).cell? ⟨w.heap.size, i, none⟩ := fun i => h.cell (p := ⟨w.heap.size, i, none⟩) (by simp)
  have g2 : ∀ i, w'.cell? ⟨w.heap.size + 1, i, none⟩ = ((w.alloc (.cells #[.string k, .string v, .bool d, .int .i64 q] 33)).alloc (.cells #[.string k2, .string v2, .bool d2, .int .i64 q2] 33)).cell? ⟨w.heap.size + 1, i, none⟩ := fun i => h.cell (p := ⟨w.heap.size + 1, i, none⟩) (by simp)
  exact ⟨⟨(g1 0).trans (r1 0), (g1 1).trans (r1 1), (g1 2).trans (r1 2), (g1 3).trans (r1 3)⟩, ⟨(g2 0).trans (r2 0), (g2 1).trans (r2 1), (g2 2).trans (r2 2), (g2 3).trans (r2 3)⟩⟩
theorem box2_below (k v : ByteArray) (d : Bool) (q : Int) (k2 v2 : ByteArray) (d2 : Bool) (q2 : Int) (w : World) : Hid (Below w.heap.size w ((w.alloc (.cells #[.string k, .string v, .bool d, .int .i64 q] 33)).alloc (.cells #[.string k2, .string v2, .bool d2, .int .i64 q2] 33))) := Lib.hid (((Below.refl _ _).alloc (Nat.le_refl _) _).alloc (by simp) _)

set_option maxHeartbeats 1000000 in
theorem eKey_any (k v : ByteArray) (d : Bool) (q : Int) (k2 v2 : ByteArray) (d2 : Bool) (q2 : Int) (w : World) (hk : k.size ≤ 32) (hk2 : k2.size ≤ 32) :
    Calls Tryd.prog 44 #[.agg #[.string k, .string v, .bool d, .int .i64 q], .agg #[.string k2, .string v2, .bool d2, .int .i64 q2]] w fun e w' => e = .returned (.int .i64 (Kl.ord (Kl.L k) (Kl.L k2))) ∧ Below w.heap.size w w' := by
  have J := Lib.hid (fun w => by have K := kCompare_any k k2 w (by omega) (by omega); rw [cmpV_ok hk hk2, chk2_ok hk hk2] at K; exact K)
  have HA := box2_below k v d q k2 v2 d2 q2 w
  clear hk hk2
  generalize Kl.ord (Kl.L k) (Kl.L k2) = r at *
  go_enter Tryd.func44, Tryd.ntmps44
  go_wp2_with fail
  refine (J.out _).mono ?_
  rintro e w1 ⟨rfl, hb1⟩
  have HB := Lib.hid (eb_of HA.out hb1 (Nat.le_refl _))
  clear hb1
  go_wp2_with fail
  go_ret
  exact ⟨rfl, HB.out⟩

theorem box3 (k v : ByteArray) (d : Bool) (q : Int) (k2 v2 : ByteArray) (d2 : Bool) (q2 : Int) (w : World) : Hid (∀ w', Below (((w.alloc (.cells #[] 47)).alloc (.cells #[.string k, .string v, .bool d, .int .i64 q] 33)).alloc (.cells #[.string k2, .string v2, .bool d2, .int .i64 q2] 33)).heap.size (((w.alloc (.cells #[] 47)).alloc (.cells #[.string k, .string v, .bool d, .int .i64 q] 33)).alloc (.cells #[.string k2, .string v2, .bool d2, .int .i64 q2] 33)) w' → (w'.cell? ⟨w.heap.size + 1, 0, none⟩ = some (.string k) ∧ w'.cell? ⟨w.heap.size + 1, 1, none⟩ = some (.string v) ∧ w'.cell? ⟨w.heap.size + 1, 2, none⟩ = some (.bool d) ∧ w'.cell? ⟨w.heap.size + 1, 3, none⟩ = some (.int .i64 q)) ∧ (w'.cell? ⟨w.heap.size + 2, 0, none⟩ = some (.string k2) ∧ w'.cell? ⟨w.heap.size + 2, 1, none⟩ = some (.string v2) ∧ w'.cell? ⟨w.heap.size + 2, 2, none⟩ = some (.bool d2) ∧ w'.cell? ⟨w.heap.size + 2, 3, none⟩ = some (.int .i64 q2))) := Lib.hid fun w' h => by
  have := (box2 k v d q k2 v2 d2 q2 (w.alloc (.cells #[] 47))).out w' h
  simpa using this
theorem box3_below (k v : ByteArray) (d : Bool) (q : Int) (k2 v2 : ByteArray) (d2 : Bool) (q2 : Int) (w : World) : Hid (Below w.heap.size w (((w.alloc (.cells #[] 47)).alloc (.cells #[.string k, .string v, .bool d, .int .i64 q] 33)).alloc (.cells #[.string k2, .string v2, .bool d2, .int .i64 q2] 33))) := Lib.hid ((((Below.refl _ _).alloc (Nat.le_refl _) _).alloc (by simp) _).alloc (by simp; omega) _)
theorem ord_key {a b : El.En} (h : Kl.ord (Kl.L a.1) (Kl.L b.1) ≠ 0) : El.ord a b = Kl.ord (Kl.L a.1) (Kl.L b.1) := if_neg h
theorem ord_seq {a b : El.En} (h : Kl.ord (Kl.L a.1) (Kl.L b.1) = 0) : El.ord a b = cmp3 b.2.2.2 a.2.2.2 := if_pos h

set_option maxHeartbeats 1000000 in
theorem ecmp_any (k v : ByteArray) (d : Bool) (q : Int) (k2 v2 : ByteArray) (d2 : Bool) (q2 : Int) (w : World) (hk : k.size ≤ 32) (hk2 : k2.size ≤ 32) :
    Calls Tryd.prog 27 #[.agg #[], .agg #[.string k, .string v, .bool d, .int .i64 q], .agg #[.string k2, .string v2, .bool d2, .int .i64 q2]] w fun e w' => e = .returned (.int .i64 (El.ord (k, v, d, q) (k2, v2, d2, q2))) ∧ Below w.heap.size w w' := by
  have J := Lib.hid (fun w => eKey_any k v d q k2 v2 d2 q2 w hk hk2)
  have HA := box3_below k v d q k2 v2 d2 q2 w
  have HC := box3 k v d q k2 v2 d2 q2 w
  by_cases h : Kl.ord (Kl.L k) (Kl.L k2) = 0
  · have H := Lib.hid (ord_seq (a := (k, v, d, q)) (b := (k2, v2, d2, q2)) h)
    rw [h] at J
    clear h hk hk2
    go_enter Tryd.func27, Tryd.ntmps27
    go_wp2_with fail
    refine (J.out _).mono ?_
    rintro e w1 ⟨rfl, hb1⟩
    have HB := Lib.hid (eb_of HA.out hb1 (Nat.le_refl _))
    obtain ⟨⟨a0, a1, a2, a3⟩, c0, c1, c2, c3⟩ := HC.out _ hb1
    clear hb1
    go_wp2_with (go_at_call 45; refine (cmp_int64 _ _ _).mono ?_; rintro e w' ⟨rfl, rfl⟩)
    go_ret
    exact ⟨by rw [H.out]; rfl, HB.out⟩
  · have H := Lib.hid (ord_key (a := (k, v, d, q)) (b := (k2, v2, d2, q2)) h)
    obtain ⟨b1, b2⟩ := ne_b h
    clear h hk hk2
    simp only at H
    generalize Kl.ord (Kl.L k) (Kl.L k2) = r at *
    go_enter Tryd.func27, Tryd.ntmps27
    go_wp2_with fail
    refine (J.out _).mono ?_
    rintro e w1 ⟨rfl, hb1⟩
    have HB := Lib.hid (eb_of HA.out hb1 (Nat.le_refl _))
    clear hb1
    go_wp2_with fail
    go_ret
    exact ⟨by rw [H.out]; rfl, HB.out⟩
end Go.Proofs.YtmobjpmkenpckaaDoor.KK

/-
  Contracts of entries: Compare, Wins, on both sides.
-/
namespace Go.Proofs.YtmobjpmkenpckaaDoor.KK
open Go.ChangeShapes Go.WideShapes Go.ChangeAt Go.RowKit Go.Proofs

theorem bcell {W w1 : World} (hb : Below W.heap.size W w1) : (∀ b o, b < W.heap.size → w1.cell? ⟨b, o, none⟩ = W.cell? ⟨b, o, none⟩) ∧ (∀ b o, b < W.heap.size → w1.frozen? ⟨b, o, none⟩ = W.frozen? ⟨b, o, none⟩) :=
  ⟨fun b o h => hb.cell (p := ⟨b, o, none⟩) h, fun b o h => hb.frozen (p := ⟨b, o, none⟩) h⟩
theorem set4 {B : Nat} {w w1 : World} {g : Nat} (h : Below B w w1) (hg : B ≤ g) (a b c d : Value) : Below B w ((((w1.setCell ⟨g, 0, none⟩ a).setCell ⟨g, 1, none⟩ b).setCell ⟨g, 2, none⟩ c).setCell ⟨g, 3, none⟩ d) :=
  (((h.setCell hg _).setCell hg _).setCell hg _).setCell hg _
theorem cmp_no {a b : El.En} (h : El.two a b ≠ 0) : El.cmp a b = 0 := if_neg h
theorem cmp_ok {a b : El.En} (h : El.two a b = 0) : El.cmp a b = El.ord a b := if_pos h
set_option maxHeartbeats 1000000 in
theorem eCompare_any (k v : ByteArray) (d : Bool) (q : Int) (k2 v2 : ByteArray) (d2 : Bool) (q2 : Int) (w : World) (hk : k.size ≤ 9223372036854775807) (hv : v.size ≤ 9223372036854775807) (hk2 : k2.size ≤ 9223372036854775807) (hv2 : v2.size ≤ 9223372036854775807) :
    Calls Tryd.prog 16 #[.agg #[.string k, .string v, .bool d, .int .i64 q], .agg #[.string k2, .string v2, .bool d2, .int .i64 q2]] w fun e w' => e = .returned (.tuple #[.int .i64 (El.cmp (k, v, d, q) (k2, v2, d2, q2)), .int .i64 (El.two (k, v, d, q) (k2, v2, d2, q2))]) ∧ Below w.heap.size w w' := by
  have J := Lib.hid (fun w => eBoth_any k v d q k2 v2 d2 q2 w hk hv hk2 hv2)
  have HA := box2_below k v d q k2 v2 d2 q2 w
  have HC := box2 k v d q k2 v2 d2 q2 w
  by_cases h : El.two (k, v, d, q) (k2, v2, d2, q2) = 0
  · have s1 := (El.chk_of (El.two_of h).1).1
    have s2 := (El.chk_of (El.two_of h).2).1
    have J2 := Lib.hid (fun w => ecmp_any k v d q k2 v2 d2 q2 w s1 s2)
    rw [cmp_ok h, h]
    rw [h] at J
    clear h s1 s2
    generalize El.ord (k, v, d, q) (k2, v2, d2, q2) = r at *
    go_enter Tryd.func16, Tryd.ntmps16
    go_wp2_with fail
    refine (J.out _).mono ?_
    rintro e w1 ⟨rfl, hb1⟩
    have HB := Lib.hid (eb_of HA.out hb1 (Nat.le_refl _))
    obtain ⟨⟨a0, a1, a2, a3⟩, c0, c1, c2, c3⟩ := HC.out _ hb1
    clear hb1
    go_wp2_with fail
    refine (J2.out _).mono ?_
    rintro e w2 ⟨rfl, hb2⟩
    have HB2 := Lib.hid (eb_of HB.out hb2 (by have := HB.out.size; omega))
    clear hb2
    go_wp2_with fail
    go_ret2
    exact ⟨rfl, HB2.out⟩
  · rw [cmp_no h]
    obtain ⟨b1, b2⟩ := ne_b h
    clear h
    generalize El.two (k, v, d, q) (k2, v2, d2, q2) = r at *
    go_enter Tryd.func16, Tryd.ntmps16
    go_wp2_with fail
    refine (J.out _).mono ?_
    rintro e w1 ⟨rfl, hb1⟩
    have HB := Lib.hid (eb_of HA.out hb1 (Nat.le_refl _))
    clear hb1
    go_wp2_with fail
    go_ret2
    exact ⟨rfl, HB.out⟩
theorem wins_no {a b : El.En} (h : El.two a b ≠ 0) : El.wins a b = (El.two a b, El.none) := if_neg h
theorem wins_key {a b : El.En} (h : El.two a b = 0) (g : a.1 ≠ b.1) : El.wins a b = (6, El.none) := by unfold El.wins; rw [if_pos h, if_neg g]
theorem wins_b {a b : El.En} (h : El.two a b = 0) (g : a.1 = b.1) (l : a.2.2.2 < b.2.2.2) : El.wins a b = (0, b) := by unfold El.wins; rw [if_pos h, if_pos g, if_pos l]
theorem wins_a {a b : El.En} (h : El.two a b = 0) (g : a.1 = b.1) (l : ¬ a.2.2.2 < b.2.2.2) : El.wins a b = (0, a) := by unfold El.wins; rw [if_pos h, if_pos g, if_neg l]
/-- an entry's cells, as one value -/
def agE (x : El.En) : Value := .agg #[.string x.1, .string x.2.1, .bool x.2.2.1, .int .i64 x.2.2.2]

set_option maxRecDepth 100000 in
set_option maxHeartbeats 2000000 in
theorem eWins_any (k v : ByteArray) (d : Bool) (q : Int) (k2 v2 : ByteArray) (d2 : Bool) (q2 : Int) (w : World) (hk : k.size ≤ 9223372036854775807) (hv : v.size ≤ 9223372036854775807) (hk2 : k2.size ≤ 9223372036854775807) (hv2 : v2.size ≤ 9223372036854775807) :
    Calls Tryd.prog 19 #[.agg #[.string k, .string v, .bool d, .int .i64 q], .agg #[.string k2, .string v2, .bool d2, .int .i64 q2]] w fun e w' => e = .returned (.tuple #[agE (El.wins (k, v, d, q) (k2, v2, d2, q2)).2, .int .i64 (El.wins (k, v, d, q) (k2, v2, d2, q2)).1]) ∧ Below w.heap.size w w' := by
  have J := Lib.hid (fun w => eBoth_any k v d q k2 v2 d2 q2 w hk hv hk2 hv2)
  have HA : Hid (Below w.heap.size w (((w.alloc (.cells #[.string k, .string v, .bool d, .int .i64 q] 33)).alloc (.cells #[.string k2, .string v2, .bool d2, .int .i64 q2] 33)).alloc (.cells #[.string ⟨#[]⟩, .string ⟨#[]⟩, .bool false, .int .i64 0] 33))) := Lib.hid ((box2_below k v d q k2 v2 d2 q2 w).out.alloc (by simp; omega) _)
  by_cases h : El.two (k, v, d, q) (k2, v2, d2, q2) = 0
  · by_cases hkk : k = k2
    · subst hkk
      have K2 := Lib.hid (fun w => eSame_yes k v d q v2 d2 q2 w)
      by_cases hq : q < q2
      · rw [wins_b h rfl hq]
        rw [h] at J
        clear h
        unfold agE
        go_enter Tryd.func19, Tryd.ntmps19
        go_wp2_with fail
        refine (J.out _).mono ?_
        rintro e w1 ⟨rfl, hb1⟩
        obtain ⟨hc, hf⟩ := bcell hb1
        have hz : w.heap.size + 3 ≤ w1.heap.size := by have := hb1.size; simpa using this
        have hz0 : w.heap.size < w1.heap.size := by omega
        have hz1 : w.heap.size + 1 < w1.heap.size := by omega
        have hz2 : w.heap.size + 2 < w1.heap.size := by omega
        have HB := Lib.hid (eb_of HA.out hb1 (Nat.le_refl _))
        clear hb1
        go_wp2_with fail
        refine (K2.out _).mono ?_
        rintro e w2 ⟨rfl, hb2⟩
        obtain ⟨hc2, hf2⟩ := bcell hb2
        have hz' := hb2.size
        have hz0' : w.heap.size < w2.heap.size := by omega
        have hz1' : w.heap.size + 1 < w2.heap.size := by omega
        have hz2' : w.heap.size + 2 < w2.heap.size := by omega
        have HB2 := Lib.hid (eb_of HB.out hb2 (by omega))
        clear hb2
        go_wp2_with fail
        exact bodyPost_ret (v := .tuple #[.agg #[.string k, .string v2, .bool d2, .int .i64 q2], .int .i64 0]) (by simp [results, Tryd.results19, go_sem, hc, hf, hz0, hz1, hz2, hc2, hf2, hz0', hz1', hz2']) rfl ⟨rfl, by first | exact set4 HB2.out (by omega) _ _ _ _ | exact HB2.out⟩
      · rw [wins_a h rfl hq]
        rw [h] at J
        clear h
        unfold agE
        go_enter Tryd.func19, Tryd.ntmps19
        go_wp2_with fail
        refine (J.out _).mono ?_
        rintro e w1 ⟨rfl, hb1⟩
        obtain ⟨hc, hf⟩ := bcell hb1
        have hz : w.heap.size + 3 ≤ w1.heap.size := by have := hb1.size; simpa using this
        have hz0 : w.heap.size < w1.heap.size := by omega
        have hz1 : w.heap.size + 1 < w1.heap.size := by omega
        have hz2 : w.heap.size + 2 < w1.heap.size := by omega
        have HB := Lib.hid (eb_of HA.out hb1 (Nat.le_refl _))
        clear hb1
        go_wp2_with fail
        refine (K2.out _).mono ?_
        rintro e w2 ⟨rfl, hb2⟩
        obtain ⟨hc2, hf2⟩ := bcell hb2
        have hz' := hb2.size
        have hz0' : w.heap.size < w2.heap.size := by omega
        have hz1' : w.heap.size + 1 < w2.heap.size := by omega
        have hz2' : w.heap.size + 2 < w2.heap.size := by omega
        have HB2 := Lib.hid (eb_of HB.out hb2 (by omega))
        clear hb2
        go_wp2_with fail
        exact bodyPost_ret (v := .tuple #[.agg #[.string k, .string v, .bool d, .int .i64 q], .int .i64 0]) (by simp [results, Tryd.results19, go_sem, hc, hf, hz0, hz1, hz2, hc2, hf2, hz0', hz1', hz2']) rfl ⟨rfl, by first | exact set4 HB2.out (by omega) _ _ _ _ | exact HB2.out⟩
    · have K2 := Lib.hid (fun w => eSame_no k v d q k2 v2 d2 q2 w hkk)
      rw [wins_key h hkk]
      rw [h] at J
      clear h hkk
      unfold agE El.none
      go_enter Tryd.func19, Tryd.ntmps19
      go_wp2_with fail
      refine (J.out _).mono ?_
      rintro e w1 ⟨rfl, hb1⟩
      obtain ⟨hc, hf⟩ := bcell hb1
      have hz : w.heap.size + 3 ≤ w1.heap.size := by have := hb1.size; simpa using this
      have hz0 : w.heap.size < w1.heap.size := by omega
      have hz1 : w.heap.size + 1 < w1.heap.size := by omega
      have hz2 : w.heap.size + 2 < w1.heap.size := by omega
      have HB := Lib.hid (eb_of HA.out hb1 (Nat.le_refl _))
      clear hb1
      go_wp2_with fail
      refine (K2.out _).mono ?_
      rintro e w2 ⟨rfl, hb2⟩
      obtain ⟨hc2, hf2⟩ := bcell hb2
      have hz' := hb2.size
      have hz0' : w.heap.size < w2.heap.size := by omega
      have hz1' : w.heap.size + 1 < w2.heap.size := by omega
      have hz2' : w.heap.size + 2 < w2.heap.size := by omega
      have HB2 := Lib.hid (eb_of HB.out hb2 (by omega))
      clear hb2
      go_wp2_with fail
      exact bodyPost_ret (v := .tuple #[.agg #[.string ⟨#[]⟩, .string ⟨#[]⟩, .bool false, .int .i64 0], .int .i64 6]) (by simp [results, Tryd.results19, go_sem, hc, hf, hz0, hz1, hz2, hc2, hf2, hz0', hz1', hz2']) rfl ⟨rfl, by first | exact set4 HB2.out (by omega) _ _ _ _ | exact HB2.out⟩
  · rw [wins_no h]
    obtain ⟨b1, b2⟩ := ne_b h
    clear h
    unfold agE El.none
    generalize El.two (k, v, d, q) (k2, v2, d2, q2) = r at *
    go_enter Tryd.func19, Tryd.ntmps19
    go_wp2_with fail
    refine (J.out _).mono ?_
    rintro e w1 ⟨rfl, hb1⟩
    obtain ⟨hc, hf⟩ := bcell hb1
    have hz : w.heap.size + 3 ≤ w1.heap.size := by have := hb1.size; simpa using this
    have hz0 : w.heap.size < w1.heap.size := by omega
    have hz1 : w.heap.size + 1 < w1.heap.size := by omega
    have hz2 : w.heap.size + 2 < w1.heap.size := by omega
    have HB := Lib.hid (eb_of HA.out hb1 (Nat.le_refl _))
    clear hb1
    go_wp2_with fail
    exact bodyPost_ret (v := .tuple #[.agg #[.string ⟨#[]⟩, .string ⟨#[]⟩, .bool false, .int .i64 0], .int .i64 r]) (by simp [results, Tryd.results19, go_sem, hc, hf, hz0, hz1, hz2]) rfl ⟨rfl, by first | exact set4 HB.out (by omega) _ _ _ _ | exact HB.out⟩
end Go.Proofs.YtmobjpmkenpckaaDoor.KK

/-
  Contracts of the reference of entries: two, order, Compare, Wins.
-/
namespace Go.Proofs.YtmobjpmkenpckaaDoor.KK
open Go.ChangeShapes Go.WideShapes Go.ChangeAt Go.RowKit Go.Proofs

theorem cmp3_lt {x y : Int} (h : x < y) : cmp3 x y = -1 := if_pos h
theorem cmp3_gt {x y : Int} (h : ¬ x < y) (g : y < x) : cmp3 x y = 1 := by unfold cmp3; rw [if_neg h, if_pos g]
theorem cmp3_eq {x y : Int} (h : ¬ x < y) (g : ¬ y < x) : cmp3 x y = 0 := by unfold cmp3; rw [if_neg h, if_neg g]
set_option maxHeartbeats 1000000 in
theorem forder_any (k v : ByteArray) (d : Bool) (q : Int) (k2 v2 : ByteArray) (d2 : Bool) (q2 : Int) (w : World) (hk : k.size ≤ 9223372036854775807) (hk2 : k2.size ≤ 9223372036854775807) :
    Calls Tryd.prog 47 #[.agg #[.string k, .string v, .bool d, .int .i64 q], .agg #[.string k2, .string v2, .bool d2, .int .i64 q2]] w fun e w' => e = .returned (.int .i64 (El.ord (k, v, d, q) (k2, v2, d2, q2))) ∧ Below w.heap.size w w' := by
  have J := Lib.hid (fun w => Order_any k k2 w hk hk2)
  have HA := box2_below k v d q k2 v2 d2 q2 w
  have HC := box2 k v d q k2 v2 d2 q2 w
  by_cases h : Kl.ord (Kl.L k) (Kl.L k2) = 0
  · have H0 := ord_seq (a := (k, v, d, q)) (b := (k2, v2, d2, q2)) h
    simp only at H0
    rw [h] at J
    clear h
    by_cases l1 : q2 < q
    · rw [cmp3_lt l1] at H0
      have H := Lib.hid H0
      clear H0
      go_enter Tryd.func47, Tryd.ntmps47
      go_wp2_with fail
      refine (J.out _).mono ?_
      rintro e w1 ⟨rfl, hb1⟩
      have HB := Lib.hid (eb_of HA.out hb1 (Nat.le_refl _))
      obtain ⟨⟨a0, a1, a2, a3⟩, c0, c1, c2, c3⟩ := HC.out _ hb1
      clear hb1
      go_wp2_with fail
      go_ret
      exact ⟨by rw [H.out]; rfl, HB.out⟩
    · by_cases l2 : q < q2
      · rw [cmp3_gt l1 l2] at H0
        have H := Lib.hid H0
        clear H0
        go_enter Tryd.func47, Tryd.ntmps47
        go_wp2_with fail
        refine (J.out _).mono ?_
        rintro e w1 ⟨rfl, hb1⟩
        have HB := Lib.hid (eb_of HA.out hb1 (Nat.le_refl _))
        obtain ⟨⟨a0, a1, a2, a3⟩, c0, c1, c2, c3⟩ := HC.out _ hb1
        clear hb1
        go_wp2_with fail
        go_ret
        exact ⟨by rw [H.out]; rfl, HB.out⟩
      · rw [cmp3_eq l1 l2] at H0
        have H := Lib.hid H0
        clear H0
        go_enter Tryd.func47, Tryd.ntmps47
        go_wp2_with fail
        refine (J.out _).mono ?_
        rintro e w1 ⟨rfl, hb1⟩
        have HB := Lib.hid (eb_of HA.out hb1 (Nat.le_refl _))
        obtain ⟨⟨a0, a1, a2, a3⟩, c0, c1, c2, c3⟩ := HC.out _ hb1
        clear hb1
        go_wp2_with fail
        go_ret
        exact ⟨by rw [H.out]; rfl, HB.out⟩
  · have H := Lib.hid (ord_key (a := (k, v, d, q)) (b := (k2, v2, d2, q2)) h)
    obtain ⟨b1, b2⟩ := ne_b h
    clear h
    simp only at H
    generalize Kl.ord (Kl.L k) (Kl.L k2) = r at *
    go_enter Tryd.func47, Tryd.ntmps47
    go_wp2_with fail
    refine (J.out _).mono ?_
    rintro e w1 ⟨rfl, hb1⟩
    have HB := Lib.hid (eb_of HA.out hb1 (Nat.le_refl _))
    clear hb1
    go_wp2_with fail
    go_ret
    exact ⟨by rw [H.out]; rfl, HB.out⟩
end Go.Proofs.YtmobjpmkenpckaaDoor.KK
