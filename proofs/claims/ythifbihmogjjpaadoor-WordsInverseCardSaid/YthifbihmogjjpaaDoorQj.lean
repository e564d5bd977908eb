/-
  Plain functions, joined into one text.
-/
import Derived.Test.YthifbihmogjjpaaDoorPv
import Derived.Test.YthifbihmogjjpaaDoorPj
import Derived.Lib.Join
import Derived.Test.YthifbihmogjjpaaDoorPm
import Derived.Test.YthifbihmogjjpaaDoorPn
import Derived.Test.YthifbihmogjjpaaDoorPp
import Derived.Test.YthifbihmogjjpaaDoorWm
/-
  Plain functions: the value of a decimal form, and how the reference reads and writes lists.
-/
namespace Go.Proofs.YthifbihmogjjpaaDoor.Pl
open Go.Lib

theorem dval_acc : ∀ (l : List UInt8) (acc : Nat), dval acc l = acc * 10 ^ l.length + dval 0 l
  | [], acc => by simp [dval_nil]
  | c :: r, acc => by
    rw [dval_cons, dval_acc r, dval_cons, dval_acc r (dstep 0 c)]
    unfold dstep
    rw [List.length_cons, Nat.pow_succ]
    rw [Nat.add_mul, Nat.zero_mul, Nat.zero_add, Nat.mul_assoc, Nat.mul_comm 10, Nat.add_assoc]
theorem dig_b {c : UInt8} (h : dig c = true) : 48 ≤ c.toNat ∧ c.toNat ≤ 57 := by
  unfold dig at h
  simp at h
  omega
theorem dval_c (c : UInt8) (r : List UInt8) : dval 0 (c :: r) = (c.toNat - 48) * 10 ^ r.length + dval 0 r := by
  rw [dval_cons, dval_acc]; unfold dstep; simp
theorem dval_lt : ∀ (l : List UInt8), l.all dig = true → dval 0 l < 10 ^ l.length
  | [], _ => by decide
  | c :: r, h => by
    simp only [List.all_cons, Bool.and_eq_true] at h
    have h1 := dig_b h.1
    have h2 := dval_lt r h.2
    rw [dval_c, List.length_cons, Nat.pow_succ]
    have h3 : (c.toNat - 48) * 10 ^ r.length ≤ 9 * 10 ^ r.length := Nat.mul_le_mul_right _ (by omega)
    omega
theorem bless_val : ∀ (a b : List UInt8), a.length = b.length → a.all dig = true → b.all dig = true → Op.bytesLess a b = decide (dval 0 a < dval 0 b)
  | [], [], _, _, _ => by simp [Op.bytesLess, dval_nil]
  | [], _ :: _, h, _, _ => by simp at h
  | _ :: _, [], h, _, _ => by simp at h
  | x :: a, y :: b, h, ha, hb => by
    simp only [List.all_cons, Bool.and_eq_true] at ha hb
    have hl : a.length = b.length := by simpa using h
    have h1 := dig_b ha.1
    have h2 := dig_b hb.1
    have h3 := dval_lt a ha.2
    have h4 := dval_lt b hb.2
    have ih := bless_val a b hl ha.2 hb.2
    rw [Op.bytesLess, dval_c, dval_c, ih, hl]
    rw [hl] at h3
    generalize 10 ^ b.length = P at h3 h4
    by_cases hxy : x = y
    · subst hxy
      have : ¬ x < x := by rw [UInt8.lt_iff_toNat_lt]; omega
      simp [this]
    · have hne : x.toNat ≠ y.toNat := fun e => hxy (UInt8.toNat_inj.1 e)
      have hb2 : (x == y) = false := by simpa using hxy
      rw [hb2, Bool.false_and, Bool.or_false, decide_eq_decide, UInt8.lt_iff_toNat_lt]
      rcases Nat.lt_or_ge x.toNat y.toNat with g | g
      · have k : (x.toNat - 48 + 1) * P ≤ (y.toNat - 48) * P := Nat.mul_le_mul_right _ (by omega)
        rw [Nat.add_mul, Nat.one_mul] at k
        exact ⟨fun _ => by omega, fun _ => g⟩
      · have k : (y.toNat - 48 + 1) * P ≤ (x.toNat - 48) * P := Nat.mul_le_mul_right _ (by omega)
        rw [Nat.add_mul, Nat.one_mul] at k
        exact ⟨fun h' => by omega, fun h' => by omega⟩
theorem nat_lead {c : UInt8} {r : List UInt8} (h : nat (c :: r) = true) (hr : r ≠ []) : 10 ^ r.length ≤ dval 0 (c :: r) := by
  have hr' := List.length_pos_iff.2 hr
  obtain ⟨c', r', he, hall⟩ := nat_parts h
  injection he with e1 e2
  subst e1 e2
  simp only [List.all_cons, Bool.and_eq_true] at hall
  have hd := dig_b hall.1
  have hc : c ≠ 48 := by
    intro e
    subst e
    have hlen : decide (1 < ((48 : UInt8) :: r).length) = true := by rw [decide_eq_true_eq, List.length_cons]; omega
    unfold nat at h
    rw [hlen] at h
    simp at h
  have hc2 : c.toNat ≠ 48 := fun e => hc (UInt8.toNat_inj.1 e)
  rw [dval_c]
  have k : 1 * 10 ^ r.length ≤ (c.toNat - 48) * 10 ^ r.length := Nat.mul_le_mul_right _ (by omega)
  omega
theorem less_short {a b : List UInt8} (ha : nat a = true) (hb : nat b = true) (h : a.length < b.length) : dval 0 a < dval 0 b := by
  obtain ⟨c, r, rfl, hd⟩ := nat_parts ha
  obtain ⟨d, q, rfl, hd2⟩ := nat_parts hb
  have h1 := dval_lt _ hd
  simp only [List.length_cons] at h h1
  have hq : q ≠ [] := by intro e; subst e; simp at h
  have h2 := nat_lead hb hq
  have h3 : 10 ^ (r.length + 1) ≤ 10 ^ q.length := Nat.pow_le_pow_right (by decide) (by omega)
  omega
/-- of decimal forms that are not negative: one is less exactly if its integer is -/
theorem less_val {a b : List UInt8} (ha : nat a = true) (hb : nat b = true) : lessB a b = decide (dval 0 a < dval 0 b) := by
  unfold lessB
  by_cases h : a.length = b.length
  · rw [if_pos h]
    obtain ⟨c, r, rfl, hd⟩ := nat_parts ha
    obtain ⟨d, q, rfl, hd2⟩ := nat_parts hb
    exact bless_val _ _ h hd hd2
  · rw [if_neg h, decide_eq_decide]
    rcases Nat.lt_or_ge a.length b.length with g | g
    · exact ⟨fun _ => less_short ha hb g, fun _ => g⟩
    · have := less_short hb ha (by omega)
      exact ⟨fun h' => by omega, fun h' => by omega⟩
theorem nat_dec {l : List UInt8} (h : nat l = true) : dec l = true ∧ l.head? ≠ some 45 := by
  obtain ⟨c, r, rfl, hd⟩ := nat_parts h
  simp only [List.all_cons, Bool.and_eq_true] at hd
  have hc := dig_b hd.1
  have h45 : ¬ (c :: r).head? = some 45 := by
    intro e
    simp only [List.head?_cons, Option.some.injEq] at e
    subst e
    have : (45 : UInt8).toNat = 45 := rfl
    omega
  refine ⟨?_, h45⟩
  unfold dec
  rw [if_neg h45]; exact h
/-- the integer of a decimal form that is not negative, if it is at most 10^9 -/
theorem intE_nat {l : List UInt8} (h : nat l = true) : intE l 0 1000000000 = if dval 0 l ≤ 1000000000 then (0, (dval 0 l : Int)) else (7, 0) := by
  obtain ⟨h1, h2⟩ := nat_dec h
  unfold intE ival
  rw [if_pos h1, if_neg h2]
  by_cases hv : dval 0 l ≤ 1000000000
  · rw [if_pos ⟨by omega, by omega⟩, if_pos hv]
  · rw [if_neg (by omega), if_neg hv]
def top : List UInt8 := [49, 48, 48, 48, 48, 48, 48, 48, 48, 48]
theorem top_nat : nat top = true := by decide
theorem top_val : dval 0 top = 1000000000 := by decide
theorem less_top {l : List UInt8} (h : nat l = true) : lessB top l = decide (1000000000 < dval 0 l) := by
  rw [less_val top_nat h, top_val]
end Go.Proofs.YthifbihmogjjpaaDoor.Pl

/-
  Plain functions: how the reference reads a span, and joins parts.
-/
namespace Go.Proofs.YthifbihmogjjpaaDoor.Pl
open Go.Lib

theorem segs_no (c : UInt8) : ∀ (l : List UInt8), ∀ t ∈ segs c l, ∀ x ∈ t, x ≠ c
  | [], t, ht, x, hx => by simp [segs] at ht; subst ht; simp at hx
  | y :: r, t, ht, x, hx => by
    have ih := segs_no c r
    rw [segs] at ht
    split at ht
    · rcases List.mem_cons.1 ht with rfl | h
      · simp at hx
      · exact ih t h x hx
    · rename_i hy
      split at ht
      · simp at ht; subst ht; simp at hx; subst hx; exact hy
      · rename_i h' t' e
        rw [e] at ih
        rcases List.mem_cons.1 ht with rfl | h
        · rcases List.mem_cons.1 hx with rfl | hx
          · exact hy
          · exact ih h' (by simp) x hx
        · exact ih t (by simp [h]) x hx
theorem dec_no {l : List UInt8} (h : ∀ x ∈ l, x ≠ 45) : dec l = nat l := by
  unfold dec
  rw [if_neg]
  intro e
  cases l with
  | nil => cases e
  | cons c r =>
    simp only [List.head?_cons, Option.some.injEq] at e
    exact h c (by simp) e
theorem nat_no {l : List UInt8} (h : nat l = true) : ∀ x ∈ l, x ≠ 45 := by
  obtain ⟨c, r, rfl, hd⟩ := nat_parts h
  intro x hx e
  subst e
  have := dig_b (List.all_eq_true.1 hd 45 hx)
  have e : (45 : UInt8).toNat = 45 := rfl
  omega
theorem idx_cases (l : List UInt8) (c : UInt8) : ((∀ x ∈ l, x ≠ c) ∧ index l [c] = -1) ∨ ∃ i : Nat, i < l.length ∧ index l [c] = i ∧ l[i]? = some c ∧ ∀ x ∈ l.take i, x ≠ c := by
  rw [index_one]
  have hge := indexByte_ge l c
  by_cases h : indexByte l c = -1
  · refine .inl ⟨fun x hx e => ?_, h⟩
    subst e
    obtain ⟨j, hj, he⟩ := List.getElem_of_mem hx
    exact indexByte_none h j (by rw [List.getElem?_eq_getElem hj, he])
  · obtain ⟨i, hi⟩ : ∃ i : Nat, indexByte l c = i := ⟨(indexByte l c).toNat, by omega⟩
    obtain ⟨g1, g2⟩ := indexByte_some hi
    have hil : i < l.length := (List.getElem?_eq_some_iff.1 g1).1
    refine .inr ⟨i, hil, hi, g1, fun x hx e => ?_⟩
    subst e
    obtain ⟨j, hj, he⟩ := List.getElem_of_mem hx
    rw [List.length_take] at hj
    rw [List.getElem_take] at he
    exact g2 j (by omega) (by rw [List.getElem?_eq_getElem (by omega), he])
theorem cut_miss {l : List UInt8} {c : UInt8} (h : index l [c] = -1) : cut l [c] = (l, [], false) := by
  unfold cut; rw [if_neg (by omega)]
theorem cut_hit {l : List UInt8} {c : UInt8} {i : Nat} (h : index l [c] = i) : cut l [c] = (l.take i, l.drop (i + 1), true) := by
  unfold cut; rw [if_pos (by omega), h]; rfl
/-- a span, out of the parts between the hyphens -/
def rsR (es : List (List UInt8)) : Option (List UInt8 × List UInt8) := match es with
  | [f] => if nat f = true then some (f, f) else none
  | [f, g] => if nat f = true ∧ nat g = true ∧ lessB f g = true then some (f, g) else none
  | _ => none
theorem rs_segs (p : List UInt8) : rs p = rsR (segs 45 p) := by
  rcases idx_cases p 45 with ⟨h1, h2⟩ | ⟨i, hil, hi, g1, g2⟩
  · rw [segs_miss 45 p h1]
    have hc := cut_miss h2
    show _ = if nat p = true then some (p, p) else none
    cases hn : nat p with
    | false => rw [rs_1 hc hn, if_neg (by simp)]
    | true => rw [rs_2 hc hn rfl, if_pos rfl]
  · have hc := cut_hit hi
    rw [segs_hit 45 p i g2 g1]
    rcases idx_cases (p.drop (i + 1)) 45 with ⟨h1, h2⟩ | ⟨j, hjl, hj, k1, k2⟩
    · rw [segs_miss 45 _ h1]
      show _ = if nat (p.take i) = true ∧ nat (p.drop (i + 1)) = true ∧ lessB (p.take i) (p.drop (i + 1)) = true then some (p.take i, p.drop (i + 1)) else none
      cases hn : nat (p.take i) with
      | false => rw [rs_1 hc hn, if_neg (fun h => by cases h.1)]
      | true =>
        cases hm : nat (p.drop (i + 1)) with
        | false => rw [rs_3 hc hn rfl hm, if_neg (fun h => by cases h.2.1)]
        | true =>
          cases hl : lessB (p.take i) (p.drop (i + 1)) with
          | false => rw [rs_4 hc hn rfl hm hl, if_neg (fun h => by cases h.2.2)]
          | true => rw [rs_5 hc hn rfl hm hl, if_pos ⟨rfl, rfl, rfl⟩]
    · have hm : nat (p.drop (i + 1)) = false := by
        rw [Bool.eq_false_iff]; intro e
        exact nat_no e 45 (List.mem_of_getElem? k1) rfl
      rw [segs_hit 45 _ j k2 k1]
      have hr : rsR (p.take i :: (p.drop (i + 1)).take j :: segs 45 ((p.drop (i + 1)).drop (j + 1))) = none := by
        cases hs : segs 45 ((p.drop (i + 1)).drop (j + 1)) with
        | nil => exact absurd hs (segs_ne 45 _)
        | cons a b => rfl
      rw [hr]
      cases hn : nat (p.take i) with
      | false => exact rs_1 hc hn
      | true => exact rs_3 hc hn rfl hm
theorem joinTail_snoc (sep : List UInt8) (r : List (List UInt8)) (t : List UInt8) : joinTail sep (r ++ [t]) = joinTail sep r ++ sep ++ t := by
  unfold joinTail; simp
theorem join_snoc (x : List UInt8) (r : List (List UInt8)) (sep t : List UInt8) : Lib.join ((x :: r) ++ [t]) sep = Lib.join (x :: r) sep ++ sep ++ t := by
  rw [List.cons_append, join_cons, join_cons, joinTail_snoc]; simp
theorem join_one' (t sep : List UInt8) : Lib.join [t] sep = t := by rw [join_cons]; simp [joinTail]
end Go.Proofs.YthifbihmogjjpaaDoor.Pl

/-
  Plain functions: decimal forms and integers are inverse to each other.
-/
namespace Go.Proofs.YthifbihmogjjpaaDoor.Pl
open Go.Lib

theorem dval_snoc (a : List UInt8) (c : UInt8) : dval 0 (a ++ [c]) = dval 0 a * 10 + (c.toNat - 48) := by
  unfold dval; rw [List.foldl_append]; rfl
/-- of as many digits: the value says which they are -/
theorem dval_same : ∀ (a b : List UInt8), a.length = b.length → a.all dig = true → b.all dig = true → dval 0 a = dval 0 b → a = b
  | [], [], _, _, _, _ => rfl
  | [], _ :: _, h, _, _, _ => by simp at h
  | _ :: _, [], h, _, _, _ => by simp at h
  | x :: a, y :: b, h, ha, hb, hv => by
    simp only [List.all_cons, Bool.and_eq_true] at ha hb
    have hl : a.length = b.length := by simpa using h
    have h1 := dig_b ha.1
    have h2 := dig_b hb.1
    have h3 := dval_lt a ha.2
    have h4 := dval_lt b hb.2
    rw [dval_c, dval_c, hl] at hv
    rw [hl] at h3
    have key : x.toNat = y.toNat ∧ dval 0 a = dval 0 b := by
      generalize 10 ^ b.length = P at h3 h4 hv
      rcases Nat.lt_trichotomy x.toNat y.toNat with g | g | g
      · have k : (x.toNat - 48 + 1) * P ≤ (y.toNat - 48) * P := Nat.mul_le_mul_right _ (by omega)
        rw [Nat.add_mul, Nat.one_mul] at k
        omega
      · rw [g] at hv; exact ⟨g, by omega⟩
      · have k : (y.toNat - 48 + 1) * P ≤ (x.toNat - 48) * P := Nat.mul_le_mul_right _ (by omega)
        rw [Nat.add_mul, Nat.one_mul] at k
        omega
    rw [UInt8.toNat_inj.1 key.1, dval_same a b hl ha.2 hb.2 key.2]
theorem nat_digits {l : List UInt8} (h : nat l = true) : l.all dig = true := by
  obtain ⟨c, r, rfl, hd⟩ := nat_parts h
  exact hd
/-- an integer that is not negative has one decimal form -/
theorem nat_inj {a b : List UInt8} (ha : nat a = true) (hb : nat b = true) (hv : dval 0 a = dval 0 b) : a = b := by
  rcases Nat.lt_trichotomy a.length b.length with g | g | g
  · have := less_short ha hb g; omega
  · exact dval_same a b g (nat_digits ha) (nat_digits hb) hv
  · have := less_short hb ha g; omega
theorem nat_mk {c : UInt8} {r : List UInt8} (hd : (c :: r).all dig = true) (h : r = [] ∨ c ≠ 48) : nat (c :: r) = true := by
  unfold nat
  rw [hd]
  rcases h with h | h
  · subst h; simp
  · have : ((c :: r).head? == some 48) = false := by simpa using h
    rw [this]; simp
theorem dig_of {n : Nat} (h : n < 10) : dig (UInt8.ofNat (48 + n)) = true ∧ (UInt8.ofNat (48 + n)).toNat = 48 + n := by
  have e : (UInt8.ofNat (48 + n)).toNat = 48 + n := UInt8.toNat_ofNat_of_lt' (by have : UInt8.size = 256 := rfl; omega)
  refine ⟨?_, e⟩
  unfold dig
  rw [e]
  simp
  omega
theorem decD (u : Nat) : dval 0 (decDigits u) = u ∧ (decDigits u).all dig = true ∧ ∃ c r, decDigits u = c :: r ∧ (r = [] ∨ c ≠ 48) ∧ (u ≠ 0 → c ≠ 48) := by
  induction u using Nat.strongRecOn with
  | _ u ih =>
    by_cases h : u < 10
    · rw [decDigits_one h]
      obtain ⟨d1, d2⟩ := dig_of h
      refine ⟨?_, by rw [List.all_cons, d1]; rfl, _, _, rfl, .inl rfl, fun h0 e => ?_⟩
      · rw [dval_c, d2, dval_nil]; simp
      · have := congrArg UInt8.toNat e
        rw [d2] at this
        have e48 : (48 : UInt8).toNat = 48 := rfl
        omega
    · have hlt : u / 10 < u := by omega
      obtain ⟨i1, i2, c, r, i3, i4, i5⟩ := ih (u / 10) hlt
      have hr : u % 10 < 10 := by omega
      obtain ⟨d1, d2⟩ := dig_of hr
      rw [decDigits, dif_neg h]
      refine ⟨?_, ?_, c, r ++ [UInt8.ofNat (48 + u % 10)], ?_, .inr (i5 (by omega)), fun _ => i5 (by omega)⟩
      · rw [dval_snoc, i1, d2]; omega
      · rw [List.all_append, i2, List.all_cons, d1]; rfl
      · rw [i3]; rfl
theorem decD_nat (u : Nat) : nat (decDigits u) = true := by
  obtain ⟨_, h2, c, r, h3, h4, _⟩ := decD u
  rw [h3] at h2 ⊢
  exact nat_mk h2 h4
/-- the decimal form of the integer of a decimal form is this -/
theorem decD_of {l : List UInt8} (h : nat l = true) : decDigits (dval 0 l) = l := nat_inj (decD_nat _) h (decD _).1
theorem itoa_of {l : List UInt8} (h : nat l = true) : itoa ((dval 0 l : Nat) : Int) = l := by rw [itoa_nonneg]; exact decD_of h
theorem itoa_nat {n : Int} (h : 0 ≤ n) : nat (itoa n) = true ∧ (dval 0 (itoa n) : Int) = n := by
  obtain ⟨u, rfl⟩ : ∃ u : Nat, n = u := ⟨n.toNat, by omega⟩
  rw [itoa_nonneg]
  exact ⟨decD_nat u, by rw [(decD u).1]⟩
/-- Int of Digits is the integer -/
theorem int_digits (n : Int) : intE (itoa n) n n = (0, n) := by
  rcases Int.lt_or_le n 0 with h | h
  · obtain ⟨u, hu, rfl⟩ : ∃ u : Nat, 1 ≤ u ∧ n = -(u : Int) := ⟨n.natAbs, by omega, by omega⟩
    rw [itoa_neg u hu]
    have hd : dec (45 :: decDigits u) = true := by
      unfold dec
      rw [if_pos (show (45 :: decDigits u).head? = some 45 from rfl), Bool.and_eq_true]
      refine ⟨?_, decD_nat u⟩
      rw [bne_iff_ne]
      intro e
      injection e with _ e
      have h1 := (decD u).1
      rw [e] at h1
      have : dval 0 [48] = 0 := by decide
      omega
    have hv : ival (45 :: decDigits u) = -(u : Int) := by
      unfold ival
      rw [if_pos (show (45 :: decDigits u).head? = some 45 from rfl)]
      show -((dval 0 (decDigits u) : Nat) : Int) = _
      rw [(decD u).1]
    unfold intE
    rw [if_pos hd, hv, if_pos ⟨Int.le_refl _, Int.le_refl _⟩]
  · obtain ⟨h1, h2⟩ := itoa_nat h
    obtain ⟨d1, d2⟩ := nat_dec h1
    have hv : ival (itoa n) = n := by unfold ival; rw [if_neg d2]; exact h2
    unfold intE
    rw [if_pos d1, hv, if_pos ⟨Int.le_refl _, Int.le_refl _⟩]
/-- Digits of Int is the decimal form -/
theorem digits_int {l : List UInt8} {lo hi k : Int} (h : intE l lo hi = (0, k)) : itoa k = l := by
  unfold intE at h
  split at h
  · rename_i hd
    split at h
    · simp only [Prod.mk.injEq, true_and] at h
      subst h
      unfold dec at hd
      unfold ival
      split at hd
      · rename_i h45
        rw [if_pos h45]
        rw [Bool.and_eq_true, bne_iff_ne] at hd
        cases l with
        | nil => cases h45
        | cons c r =>
          simp only [List.head?_cons, Option.some.injEq] at h45
          subst h45
          have hn : nat r = true := hd.2
          have hne : r ≠ [48] := fun e => hd.1 (by rw [e])
          have hv : 1 ≤ dval 0 r := by
            rcases Nat.eq_zero_or_pos (dval 0 r) with h0 | h0
            · exfalso
              apply hne
              exact nat_inj hn (by decide) (by rw [h0]; decide)
            · exact h0
          show itoa (-((dval 0 r : Nat) : Int)) = _
          rw [itoa_neg _ hv, decD_of hn]
      · rename_i h45
        rw [if_neg h45]
        exact itoa_of hd
    · cases h
  · cases h
end Go.Proofs.YthifbihmogjjpaaDoor.Pl

/-
  Plain functions: the next number; List and ParseList are inverse to each other.
-/
namespace Go.Proofs.YthifbihmogjjpaaDoor.Pl
open Go.Lib

theorem sucR_val : ∀ (x : List UInt8), x.all dig = true → dval 0 (sucR x).reverse = dval 0 x.reverse + 1 ∧ (sucR x).all dig = true
  | [], _ => by decide
  | c :: r, h => by
    simp only [List.all_cons, Bool.and_eq_true] at h
    have hc := dig_b h.1
    obtain ⟨i1, i2⟩ := sucR_val r h.2
    rw [sucR]
    by_cases h9 : c = 57
    · subst h9
      rw [if_pos rfl, List.reverse_cons, List.reverse_cons, dval_snoc, dval_snoc, i1]
      have e57 : (57 : UInt8).toNat = 57 := rfl
      have e48 : (48 : UInt8).toNat = 48 := rfl
      refine ⟨by omega, ?_⟩
      rw [List.all_cons, i2]; rfl
    · rw [if_neg h9, List.reverse_cons, List.reverse_cons, dval_snoc, dval_snoc]
      have hne : c.toNat ≠ 57 := fun e => h9 (UInt8.toNat_inj.1 e)
      have e : (UInt8.ofNat (c.toNat + 1)).toNat = c.toNat + 1 := UInt8.toNat_ofNat_of_lt' (by have : UInt8.size = 256 := rfl; omega)
      rw [e]
      refine ⟨by omega, ?_⟩
      rw [List.all_cons, h.2]
      unfold dig
      rw [e]
      simp; omega
theorem sucR_last : ∀ (x : List UInt8), x.all dig = true → (x.length ≤ 1 ∨ x.getLast? ≠ some 48) → (sucR x).getLast? ≠ some 48 ∧ sucR x ≠ []
  | [], _, _ => by decide
  | [c], h, _ => by
    simp only [List.all_cons, List.all_nil, Bool.and_true] at h
    have hc := dig_b h
    rw [sucR]
    by_cases h9 : c = 57
    · subst h9; decide
    · rw [if_neg h9]
      refine ⟨fun e => ?_, by simp⟩
      simp only [List.getLast?_singleton, Option.some.injEq] at e
      have := congrArg UInt8.toNat e
      rw [UInt8.toNat_ofNat_of_lt' (by have : UInt8.size = 256 := rfl; omega)] at this
      have e48 : (48 : UInt8).toNat = 48 := rfl
      omega
  | c :: d :: r, h, hl => by
    simp only [List.all_cons, Bool.and_eq_true] at h
    have hl' : (d :: r).getLast? ≠ some 48 := by
      rcases hl with g | g
      · simp at g
      · simpa using g
    obtain ⟨i1, i2⟩ := sucR_last (d :: r) (by simp [h.2.1, h.2.2]) (.inr hl')
    rw [sucR]
    by_cases h9 : c = 57
    · rw [if_pos h9]
      refine ⟨?_, by simp⟩
      cases hs : sucR (d :: r) with
      | nil => exact absurd hs i2
      | cons a b => rw [hs] at i1; simpa using i1
    · rw [if_neg h9]
      exact ⟨by simpa using hl', by simp⟩
/-- the next number's form is one, and its integer is the next one -/
theorem suc_val {l : List UInt8} (h : nat l = true) : nat (suc l) = true ∧ dval 0 (suc l) = dval 0 l + 1 := by
  have hd := nat_digits h
  have hr : l.reverse.all dig = true := by rw [List.all_reverse]; exact hd
  obtain ⟨h1, h2⟩ := sucR_val l.reverse hr
  rw [List.reverse_reverse] at h1
  have hlast : l.reverse.length ≤ 1 ∨ l.reverse.getLast? ≠ some 48 := by
    rw [List.length_reverse, List.getLast?_reverse]
    rcases Nat.lt_or_ge 1 l.length with g | g
    · refine .inr fun e => ?_
      unfold nat at h
      rw [e, decide_eq_true g] at h
      simp at h
    · exact .inl g
  obtain ⟨h3, h4⟩ := sucR_last l.reverse hr hlast
  refine ⟨?_, h1⟩
  have h5 : (suc l).all dig = true := by unfold suc; rw [List.all_reverse]; exact h2
  have h6 : (suc l).head? ≠ some 48 := by unfold suc; rw [List.head?_reverse]; exact h3
  cases hs : suc l with
  | nil =>
    unfold suc at hs
    exact absurd (List.reverse_eq_nil_iff.1 hs) h4
  | cons c r =>
    rw [hs] at h5 h6
    exact nat_mk h5 (.inr fun e => h6 (by rw [e]; rfl))
theorem goOn_take : ∀ (r : List Int) (x : Int), r.take (goOn x r) = from_ (x + 1) (goOn x r) ∧ (r.drop (goOn x r)).head? ≠ some (x + goOn x r + 1)
  | [], x => by simp [goOn, from_]
  | y :: r, x => by
    have ih := goOn_take r y
    rw [goOn]
    by_cases h : y = x + 1
    · rw [if_pos h]
      obtain ⟨i1, i2⟩ := ih
      refine ⟨?_, ?_⟩
      · rw [List.take_succ_cons, i1, h]
        unfold from_
        rw [List.range_succ_eq_map, List.map_cons, List.map_map]
        simp only [List.cons.injEq]
        refine ⟨by simp, List.map_congr_left fun i _ => ?_⟩
        simp only [Function.comp]
        omega
      · rw [List.drop_succ_cons]
        intro e
        apply i2
        rw [e, h]
        congr 1
        omega
    · rw [if_neg h]
      refine ⟨rfl, ?_⟩
      simp only [List.drop_zero, List.head?_cons, ne_eq, Option.some.injEq]
      intro e; apply h; omega
end Go.Proofs.YthifbihmogjjpaaDoor.Pl

/-
  Plain functions: ParseList of List is the list.
-/
namespace Go.Proofs.YthifbihmogjjpaaDoor.Pl
open Go.Lib

theorem segs_join (c : UInt8) : ∀ (ps : List (List UInt8)), ps ≠ [] → (∀ t ∈ ps, ∀ x ∈ t, x ≠ c) → segs c (Lib.join ps [c]) = ps
  | [], h, _ => absurd rfl h
  | [t], _, h => by rw [join_one', segs_miss c t (h t (by simp))]
  | t :: u :: r, _, h => by
    have ih := segs_join c (u :: r) (by simp) (fun z hz => h z (by simp at hz ⊢; exact .inr hz))
    have e : Lib.join (t :: u :: r) [c] = t ++ c :: Lib.join (u :: r) [c] := by
      rw [join_cons, join_cons]; unfold joinTail; simp
    rw [e, segs_hit c _ t.length (by rw [List.take_left' rfl]; exact h t (by simp)) (by simp)]
    rw [List.take_left' rfl]
    congr 1
    rw [show t ++ c :: Lib.join (u :: r) [c] = (t ++ [c]) ++ Lib.join (u :: r) [c] by simp, List.drop_left' (by simp)]
    exact ih
theorem join_segs (c : UInt8) : ∀ (l : List UInt8), Lib.join (segs c l) [c] = l
  | [] => by rw [segs, join_one']
  | x :: r => by
    have ih := join_segs c r
    rw [segs]
    by_cases h : x = c
    · subst h
      rw [if_pos rfl]
      cases hs : segs x r with
      | nil => exact absurd hs (segs_ne x r)
      | cons a b =>
        rw [hs] at ih
        rw [join_cons]
        rw [join_cons] at ih
        unfold joinTail at ih ⊢
        simp at ih ⊢
        exact ih
    · rw [if_neg h]
      cases hs : segs c r with
      | nil => exact absurd hs (segs_ne c r)
      | cons a b =>
        rw [hs] at ih
        rw [join_cons] at ih ⊢
        rw [List.cons_append, ih]
theorem digs_no {l : List UInt8} (h : l.all dig = true) (c : UInt8) (hc : dig c = false) : ∀ x ∈ l, x ≠ c := by
  intro x hx e
  subst e
  rw [List.all_eq_true.1 h x hx] at hc
  cases hc
theorem itoa_digs {n : Int} (h : 0 ≤ n) : (itoa n).all dig = true := nat_digits (itoa_nat h).1
theorem wr2_no {a b : Int} (ha : 0 ≤ a) (hb : 0 ≤ b) : ∀ x ∈ wr2 a b, x ≠ 44 := by
  intro x hx
  unfold wr2 at hx
  split at hx
  · exact digs_no (itoa_digs ha) 44 (by decide) x hx
  · simp only [List.mem_append, List.mem_cons, List.not_mem_nil, or_false] at hx
    rcases hx with (hx | rfl) | hx
    · exact digs_no (itoa_digs ha) 44 (by decide) x hx
    · decide
    · exact digs_no (itoa_digs hb) 44 (by decide) x hx
theorem rs_wr2 {a b : Int} (ha : 0 ≤ a) (hab : a ≤ b) : rs (wr2 a b) = some (itoa a, itoa b) := by
  have hb : 0 ≤ b := by omega
  obtain ⟨n1, v1⟩ := itoa_nat ha
  obtain ⟨n2, v2⟩ := itoa_nat hb
  rw [rs_segs]
  unfold wr2
  by_cases h : a = b
  · subst h
    rw [if_pos rfl, segs_miss 45 _ (digs_no (itoa_digs ha) 45 (by decide))]
    show (if nat (itoa a) = true then some (itoa a, itoa a) else none) = _
    rw [if_pos n1]
  · rw [if_neg h]
    have e : itoa a ++ [45] ++ itoa b = Lib.join [itoa a, itoa b] [45] := by
      rw [join_cons]; unfold joinTail; simp
    rw [e, segs_join 45 _ (by simp) (fun t ht => by
      simp only [List.mem_cons, List.not_mem_nil, or_false] at ht
      rcases ht with rfl | rfl
      · exact digs_no (itoa_digs ha) 45 (by decide)
      · exact digs_no (itoa_digs hb) 45 (by decide))]
    show (if nat (itoa a) = true ∧ nat (itoa b) = true ∧ lessB (itoa a) (itoa b) = true then some (itoa a, itoa b) else none) = _
    rw [if_pos ⟨n1, n2, by rw [less_val n1 n2]; simp; omega⟩]
theorem iv_itoa {n : Int} (h0 : 0 ≤ n) (h1 : n ≤ 1000000000) : iv (itoa n) = n ∧ (intE (itoa n) 0 1000000000).1 = 0 := by
  obtain ⟨n1, v1⟩ := itoa_nat h0
  unfold iv
  rw [intE_nat n1, if_pos (by omega)]
  exact ⟨v1, rfl⟩
theorem from_cons (x : Int) (g : Nat) : from_ x (g + 1) = x :: from_ (x + 1) g := by
  unfold from_
  rw [List.range_succ_eq_map, List.map_cons, List.map_map]
  simp only [List.cons.injEq]
  refine ⟨by simp, List.map_congr_left fun i _ => ?_⟩
  simp only [Function.comp]
  omega
theorem from_mem {x : Int} {g : Nat} {z : Int} (h : z ∈ from_ x g) : x ≤ z ∧ z < x + g := by
  unfold from_ at h
  rw [List.mem_map] at h
  obtain ⟨i, hi, rfl⟩ := h
  rw [List.mem_range] at hi
  omega
theorem run_of (x : Int) (r : List Int) : x :: r = from_ x (goOn x r + 1) ++ r.drop (goOn x r) := by
  rw [from_cons, ← (goOn_take r x).1, List.cons_append, List.take_append_drop]
/-- the parts of an ascending list are read as its spans, and these give the list -/
theorem spans_parts : ∀ (n : Nat) (l : List Int), l.length ≤ n → l.Pairwise (· < ·) → (∀ x ∈ l, 0 ≤ x ∧ x ≤ 1000000000) →
    ∀ (p : Option (List UInt8)) (acc : List Int), (∀ y, p = some y → nat y = true ∧ ∀ x, l.head? = some x → (dval 0 y : Int) + 1 < x) → acc.length + l.length ≤ 500 →
    ∃ xs, spansFrom p (parts l) = some xs ∧ numsF acc xs = (0, acc ++ l) ∧ (l ≠ [] → ∃ z, xs.getLast? = some z ∧ (intE z.2 0 1000000000).1 = 0)
  | n, [], _, _, _, p, acc, _, _ => ⟨[], rfl, by rw [numsF, List.append_nil], fun h => absurd rfl h⟩
  | 0, x :: r, h, _, _, _, _, _, _ => by simp at h
  | n + 1, x :: r, hn, hp, hb, p, acc, hq, hl => by
    have hrun := run_of x r
    obtain ⟨_, hnext⟩ := goOn_take r x
    have hx := hb x (by simp)
    have hgl := goOn_le r x
    rw [parts_cons]
    obtain ⟨g, hg⟩ : ∃ g, goOn x r = g := ⟨_, rfl⟩
    rw [hg] at hrun hnext hgl ⊢
    have hlast : x + g ∈ x :: r := by
      rw [hrun]
      apply List.mem_append_left
      unfold from_
      rw [List.mem_map]
      exact ⟨g, by simp, rfl⟩
    have hxg := hb _ hlast
    have hpa : (from_ x (g + 1) ++ r.drop g).Pairwise (· < ·) := by rw [← hrun]; exact hp
    obtain ⟨_, hp2, hp3⟩ := List.pairwise_append.1 hpa
    have hb2 : ∀ z ∈ r.drop g, 0 ≤ z ∧ z ≤ 1000000000 := fun z hz => hb z (by simp; exact .inr (List.mem_of_mem_drop hz))
    have ifr := itoa_nat hx.1
    have ila := itoa_nat hxg.1
    have hq2 : ∀ y, some (itoa (x + g)) = some y → nat y = true ∧ ∀ z, (r.drop g).head? = some z → (dval 0 y : Int) + 1 < z := by
      intro y hy
      injection hy with hy
      subst hy
      refine ⟨ila.1, fun z hz => ?_⟩
      rw [ila.2]
      have hzm : z ∈ r.drop g := List.mem_of_mem_head? hz
      have h1 := hp3 (x + g) (by unfold from_; rw [List.mem_map]; exact ⟨g, by simp, rfl⟩) z hzm
      have h2 : z ≠ x + g + 1 := fun e => hnext (by rw [hz, e])
      omega
    have hlen : (r.drop g).length ≤ n := by rw [List.length_drop]; simp at hn; omega
    have hl2 : (acc ++ from_ x (g + 1)).length + (r.drop g).length ≤ 500 := by
      rw [List.length_append, from_len, List.length_drop]
      simp at hl; omega
    obtain ⟨xs, i1, i2, i3⟩ := spans_parts n (r.drop g) hlen hp2 hb2 (some (itoa (x + g))) (acc ++ from_ x (g + 1)) hq2 hl2
    refine ⟨(itoa x, itoa (x + g)) :: xs, ?_, ?_, fun _ => ?_⟩
    · rw [spansFrom, rs_wr2 hx.1 (by omega)]
      simp only
      have key : ∀ b : Bool, b = true → (if b = true then (spansFrom (some (itoa (x + g))) (parts (r.drop g))).map ((itoa x, itoa (x + g)) :: ·) else none) = some ((itoa x, itoa (x + g)) :: xs) := fun b hb => by rw [if_pos hb, i1]; rfl
      apply key
      cases p with
      | none => rfl
      | some y =>
        obtain ⟨hy1, hy2⟩ := hq y rfl
        have hy3 := hy2 x rfl
        obtain ⟨s1, s2⟩ := suc_val hy1
        show lessB (suc y) (itoa x) = true
        rw [less_val s1 ifr.1, s2, decide_eq_true_eq]
        have := ifr.2
        omega
    · rw [numsF]
      have e1 := (iv_itoa hx.1 hx.2).1
      have e2 := (iv_itoa hxg.1 hxg.2).1
      have e3 : cnt (itoa x, itoa (x + g)) = g + 1 := by unfold cnt; rw [e1, e2]; omega
      show (if (500 : Int) - acc.length ≤ iv (itoa (x + g)) - iv (itoa x) then _ else numsF (acc ++ from_ (iv (itoa x)) (cnt (itoa x, itoa (x + g)))) xs) = _
      rw [e1, e2, e3, if_neg (by simp at hl; omega), i2, List.append_assoc, ← hrun]
    · cases hd : r.drop g with
      | nil =>
        rw [hd] at i1
        have : xs = [] := by
          have h : parts ([] : List Int) = [] := rfl
          rw [h, spansFrom] at i1
          exact (Option.some.inj i1).symm
        subst this
        exact ⟨_, rfl, (iv_itoa hxg.1 hxg.2).2⟩
      | cons a b =>
        obtain ⟨z, hz1, hz2⟩ := i3 (by rw [hd]; simp)
        refine ⟨z, ?_, hz2⟩
        cases xs with
        | nil => cases hz1
        | cons a b => simpa using hz1
theorem asc_pairwise {l : List Int} (h : ascB l = true) : l.Pairwise (· < ·) := by
  unfold ascB at h
  rw [decide_eq_true_eq] at h
  rw [List.pairwise_iff_getElem]
  have key : ∀ (d i : Nat) (hi : i + d + 1 < l.length), el l i < el l (i + d + 1) := by
    intro d
    induction d with
    | zero => intro i hi; exact h i (by omega)
    | succ d ih =>
      intro i hi
      have h1 := ih i (by omega)
      have h2 := h (i + d + 1) (by omega)
      exact Int.lt_trans h1 h2
  intro i j hi hj hij
  have hk := key (j - i - 1) i (by omega)
  rw [show i + (j - i - 1) + 1 = j by omega] at hk
  unfold el at hk
  rw [List.getElem?_eq_getElem hi, List.getElem?_eq_getElem hj] at hk
  exact hk
theorem parts_ne {l : List Int} (h : l ≠ []) : parts l ≠ [] := by
  cases l with
  | nil => exact absurd rfl h
  | cons x r => rw [parts_cons]; simp
theorem parts_no : ∀ (n : Nat) (l : List Int), l.length ≤ n → (∀ x ∈ l, 0 ≤ x) → ∀ t ∈ parts l, ∀ x ∈ t, x ≠ 44
  | _, [], _, _, t, ht, _, _ => by have h : parts ([] : List Int) = [] := rfl
                                   rw [h] at ht; cases ht
  | 0, x :: r, h, _, _, _, _, _ => by simp at h
  | n + 1, x :: r, hn, hb, t, ht, y, hy => by
    have hx := hb x (by simp)
    rw [parts_cons] at ht
    rcases List.mem_cons.1 ht with rfl | ht
    · exact wr2_no hx (by omega) y hy
    · exact parts_no n (r.drop (goOn x r)) (by rw [List.length_drop]; simp at hn; omega) (fun z hz => hb z (by simp; exact .inr (List.mem_of_mem_drop hz))) t ht y hy
/-- ParseList of List is the list -/
theorem plist_list {l : List Int} {t : List UInt8} (h : listE l = (0, t)) : plist t = (0, l) := by
  unfold listE at h
  by_cases hc : chk l = 0
  · rw [if_pos hc] at h
    by_cases h0 : l = []
    · rw [if_pos h0] at h
      simp only [Prod.mk.injEq, true_and] at h
      subst h h0
      rfl
    · rw [if_neg h0] at h
      simp only [Prod.mk.injEq, true_and] at h
      unfold chk at hc
      split at hc
      · cases hc
      split at hc
      · cases hc
      split at hc
      · rename_i h5 hany hasc
        have hb : ∀ x ∈ l, 0 ≤ x ∧ x ≤ 1000000000 := by
          intro x hx
          have h1 : outR x = false := by
            rw [Bool.eq_false_iff]; intro e
            exact hany (List.any_eq_true.2 ⟨x, hx, e⟩)
          unfold outR at h1
          simp at h1
          omega
        have hseg : segs 44 t = parts l := by
          rw [← h]
          exact segs_join 44 _ (parts_ne h0) (parts_no l.length l (Nat.le_refl _) (fun x hx => (hb x hx).1))
        obtain ⟨xs, i1, i2, i3⟩ := spans_parts l.length l (Nat.le_refl _) (asc_pairwise hasc) hb none [] (fun y hy => by cases hy) (by simp; omega)
        obtain ⟨z, hz1, hz2⟩ := i3 h0
        have hsp : spans t = some xs := by unfold spans; rw [hseg, i1]
        have ht : t ≠ [45] := by
          intro e
          rw [e] at hsp
          have : spans [45] = none := by decide +kernel
          rw [this] at hsp
          cases hsp
        unfold plist
        rw [if_neg ht, hsp]
        simp only [hz1, hz2, if_true]
        rw [i2, List.nil_append]
      · cases hc
  · rw [if_neg hc] at h
    exact absurd (congrArg Prod.fst h) hc
end Go.Proofs.YthifbihmogjjpaaDoor.Pl

/-
  Plain functions: List of ParseList is the expression.
-/
namespace Go.Proofs.YthifbihmogjjpaaDoor.Pl
open Go.Lib

theorem rs_val {t a b : List UInt8} (h : rs t = some (a, b)) : nat a = true ∧ nat b = true ∧ dval 0 a ≤ dval 0 b ∧ t = wr2 (dval 0 a : Nat) (dval 0 b : Nat) := by
  have hj := join_segs 45 t
  rw [rs_segs] at h
  cases hs : segs 45 t with
  | nil => rw [hs] at h; cases h
  | cons f r =>
    rw [hs] at h hj
    cases r with
    | nil =>
      have h' : (if nat f = true then some (f, f) else none) = some (a, b) := h
      split at h'
      · rename_i hn
        simp only [Option.some.injEq, Prod.mk.injEq] at h'
        obtain ⟨rfl, rfl⟩ := h'
        rw [join_one'] at hj
        refine ⟨hn, hn, Nat.le_refl _, ?_⟩
        unfold wr2
        rw [if_pos rfl, itoa_of hn, hj]
      · cases h'
    | cons g r =>
      cases r with
      | nil =>
        have h' : (if nat f = true ∧ nat g = true ∧ lessB f g = true then some (f, g) else none) = some (a, b) := h
        split at h'
        · rename_i hn
          obtain ⟨n1, n2, n3⟩ := hn
          simp only [Option.some.injEq, Prod.mk.injEq] at h'
          obtain ⟨rfl, rfl⟩ := h'
          rw [less_val n1 n2, decide_eq_true_eq] at n3
          refine ⟨n1, n2, by omega, ?_⟩
          unfold wr2
          rw [if_neg (by omega), itoa_of n1, itoa_of n2, ← hj, join_cons]
          unfold joinTail
          simp
        · cases h'
      | cons k r => cases h
theorem spansFrom_cons {p : Option (List UInt8)} {t : List UInt8} {ts : List (List UInt8)} {xs : List (List UInt8 × List UInt8)} (h : spansFrom p (t :: ts) = some xs) :
    ∃ x ys, xs = x :: ys ∧ rs t = some x ∧ (∀ y, p = some y → lessB (suc y) x.1 = true) ∧ spansFrom (some x.2) ts = some ys := by
  rw [spansFrom] at h
  cases hrs : rs t with
  | none => rw [hrs] at h; cases h
  | some x =>
    rw [hrs] at h
    simp only at h
    have key : ∀ b : Bool, (if b = true then (spansFrom (some x.2) ts).map (x :: ·) else none) = some xs → b = true ∧ ∃ ys, xs = x :: ys ∧ spansFrom (some x.2) ts = some ys := fun b h => by
      cases b with
      | false => cases h
      | true =>
        rw [if_pos rfl] at h
        cases hr : spansFrom (some x.2) ts with
        | none => rw [hr] at h; cases h
        | some ys =>
          rw [hr] at h
          simp only [Option.map_some, Option.some.injEq] at h
          exact ⟨rfl, ys, h.symm, rfl⟩
    obtain ⟨h1, ys, h2, h3⟩ := key _ h
    refine ⟨x, ys, h2, rfl, fun y hy => ?_, h3⟩
    subst hy
    exact h1
theorem spans_bound (B : Nat) : ∀ (ts : List (List UInt8)) (p : Option (List UInt8)) (xs : List (List UInt8 × List UInt8)), spansFrom p ts = some xs → (∀ z, xs.getLast? = some z → dval 0 z.2 ≤ B) →
    ∀ x ∈ xs, dval 0 x.1 ≤ dval 0 x.2 ∧ dval 0 x.2 ≤ B
  | [], p, xs, h, _ => by rw [spansFrom] at h; cases h; simp
  | t :: ts, p, xs, h, hB => by
    obtain ⟨x, ys, rfl, hr, hp, hs⟩ := spansFrom_cons h
    obtain ⟨n1, n2, v1, _⟩ := rs_val (a := x.1) (b := x.2) hr
    cases ys with
    | nil =>
      intro z hz
      simp only [List.mem_cons, List.not_mem_nil, or_false] at hz
      subst hz
      exact ⟨v1, hB z rfl⟩
    | cons y ys =>
      have ih := spans_bound B ts (some x.2) (y :: ys) hs (fun z hz => hB z (by simpa using hz))
      intro z hz
      rcases List.mem_cons.1 hz with rfl | hz
      · refine ⟨v1, ?_⟩
        cases ts with
        | nil => rw [spansFrom] at hs; cases hs
        | cons t' ts' =>
          obtain ⟨y', ys', he, hr', hp', _⟩ := spansFrom_cons hs
          injection he with he1 he2
          subst he1
          obtain ⟨m1, m2, u1, _⟩ := rs_val (a := y.1) (b := y.2) hr'
          obtain ⟨s1, s2⟩ := suc_val n2
          have hl := hp' z.2 rfl
          rw [less_val s1 m1, s2, decide_eq_true_eq] at hl
          have := (ih y (by simp)).2
          omega
      · exact ih z hz
theorem spansFrom_len' : ∀ (p : Option (List UInt8)) (ts : List (List UInt8)) (xs : List (List UInt8 × List UInt8)), spansFrom p ts = some xs → ∀ x ∈ xs, nat x.2 = true
  | p, [], xs, h => by rw [spansFrom] at h; cases h; simp
  | p, t :: ts, xs, h => by
    obtain ⟨x, ys, rfl, hr, _, hs⟩ := spansFrom_cons h
    intro z hz
    rcases List.mem_cons.1 hz with rfl | hz
    · exact (rs_val (a := z.1) (b := z.2) hr).2.1
    · exact spansFrom_len' _ ts ys hs z hz
theorem goOn_from : ∀ (c : Nat) (a : Int) (r : List Int), r.head? ≠ some (a + c + 1) → goOn a (from_ (a + 1) c ++ r) = c
  | 0, a, r, h => by
    show goOn a r = 0
    cases r with
    | nil => rfl
    | cons x r =>
      rw [goOn, if_neg]
      intro e
      apply h
      simp only [List.head?_cons, Option.some.injEq]
      omega
  | c + 1, a, r, h => by
    rw [from_cons, List.cons_append, goOn, if_pos rfl, goOn_from c (a + 1) r (by
      intro e
      apply h
      rw [e]
      congr 1
      omega)]
theorem from_pairwise (a : Int) (c : Nat) : (from_ a c).Pairwise (· < ·) := by
  unfold from_
  rw [List.pairwise_map]
  exact List.pairwise_lt_range.imp fun h => by omega
theorem parts_from (a : Int) (c : Nat) (r : List Int) (h : r.head? ≠ some (a + c + 1)) : parts (from_ a (c + 1) ++ r) = wr2 a (a + c) :: parts r := by
  rw [from_cons, List.cons_append, parts_cons, goOn_from c a r h]
  congr 2
  rw [List.drop_left' (from_len _ _)]
theorem parts_spans : ∀ (ts : List (List UInt8)) (p : Option (List UInt8)) (xs : List (List UInt8 × List UInt8)) (acc m : List Int), spansFrom p ts = some xs → numsF acc xs = (0, m) →
    (∀ x ∈ xs, dval 0 x.1 ≤ dval 0 x.2 ∧ dval 0 x.2 ≤ 1000000000) → (∀ y, p = some y → nat y = true) →
    ∃ l, m = acc ++ l ∧ parts l = ts ∧ l.Pairwise (· < ·) ∧ (∀ x ∈ l, 0 ≤ x ∧ x ≤ 1000000000) ∧ (∀ y, p = some y → ∀ x ∈ l, (dval 0 y : Int) + 1 < x)
  | [], p, xs, acc, m, h, hn, _, _ => by
    rw [spansFrom] at h
    cases h
    rw [numsF] at hn
    simp only [Prod.mk.injEq, true_and] at hn
    exact ⟨[], by rw [hn, List.append_nil], rfl, List.Pairwise.nil, by simp, by simp⟩
  | t :: ts, p, xs, acc, m, h, hn, hb, hpn => by
    obtain ⟨x, ys, rfl, hr, hp, hs⟩ := spansFrom_cons h
    obtain ⟨n1, n2, v1, hw⟩ := rs_val (a := x.1) (b := x.2) hr
    have hbx := hb x (by simp)
    have e1 : iv x.1 = (dval 0 x.1 : Nat) := by unfold iv; rw [intE_nat n1, if_pos (by omega)]
    have e2 : iv x.2 = (dval 0 x.2 : Nat) := by unfold iv; rw [intE_nat n2, if_pos (by omega)]
    obtain ⟨c, hc⟩ : ∃ c, dval 0 x.2 = dval 0 x.1 + c := ⟨dval 0 x.2 - dval 0 x.1, by omega⟩
    have e3 : cnt x = c + 1 := by unfold cnt; rw [e1, e2, hc]; omega
    rw [numsF] at hn
    split at hn
    · cases hn
    · rw [e1, e3] at hn
      obtain ⟨l, i1, i2, i3, i4, i5⟩ := parts_spans ts (some x.2) ys _ m hs hn (fun z hz => hb z (by simp [hz])) (fun y hy => by injection hy with hy; rw [← hy]; exact n2)
      have i6 := i5 x.2 rfl
      refine ⟨from_ (dval 0 x.1 : Nat) (c + 1) ++ l, by rw [i1, List.append_assoc], ?_, ?_, ?_, ?_⟩
      · rw [parts_from _ _ _ (by
          intro e
          have := i6 _ (List.mem_of_mem_head? e)
          omega), i2, hw]
        congr 2
        omega
      · rw [List.pairwise_append]
        refine ⟨from_pairwise _ _, i3, fun y hy z hz => ?_⟩
        have h1 := from_mem hy
        have h2 := i6 z hz
        omega
      · intro y hy
        rcases List.mem_append.1 hy with hy | hy
        · have h1 := from_mem hy
          omega
        · exact i4 y hy
      · intro y hy z hz
        have hny := hpn y hy
        obtain ⟨s1, s2⟩ := suc_val hny
        have hl := hp y hy
        rw [less_val s1 n1, s2, decide_eq_true_eq] at hl
        rcases List.mem_append.1 hz with hz | hz
        · have h1 := from_mem hz
          omega
        · have h2 := i6 z hz
          omega
theorem pairwise_asc {l : List Int} (h : l.Pairwise (· < ·)) : ascB l = true := by
  unfold ascB
  rw [decide_eq_true_eq]
  intro j hj
  rw [List.pairwise_iff_getElem] at h
  have := h j (j + 1) (by omega) (by omega) (by omega)
  unfold el
  rw [List.getElem?_eq_getElem (by omega), List.getElem?_eq_getElem (by omega)]
  exact this
/-- List of ParseList is the expression -/
theorem list_plist {s : List UInt8} {m : List Int} (h : plist s = (0, m)) : listE m = (0, s) := by
  have hfew := plist_few s
  rw [h] at hfew
  unfold plist at h
  split at h
  · rename_i hs
    simp only [Prod.mk.injEq, true_and] at h
    subst h hs
    decide
  · rename_i hs45
    cases hsp : spans s with
    | none => rw [hsp] at h; cases h
    | some xs =>
      rw [hsp] at h
      simp only at h
      have hne := spans_ne hsp
      cases hl : xs.getLast? with
      | none => exact absurd (List.getLast?_eq_none_iff.1 hl) hne
      | some z =>
        rw [hl] at h
        simp only at h
        split at h
        · rename_i hz
          have hzm := List.mem_of_getLast? hl
          have hzn : nat z.2 = true := ((spansFrom_len' _ _ _ hsp) z hzm)
          rw [intE_nat hzn] at hz
          split at hz
          · rename_i hzb
            have hb := spans_bound 1000000000 (segs 44 s) none xs hsp (fun z' hz' => by rw [hl] at hz'; injection hz' with hz'; rw [← hz']; exact hzb)
            obtain ⟨l, i1, i2, i3, i4, _⟩ := parts_spans (segs 44 s) none xs [] m hsp h hb (fun y hy => by cases hy)
            rw [List.nil_append] at i1
            subst i1
            have hm0 : m ≠ [] := by
              intro e
              subst e
              exact segs_ne 44 s i2.symm
            have hchk : chk m = 0 := by
              unfold chk
              rw [if_neg (by simpa using hfew), if_neg, if_pos (pairwise_asc i3)]
              intro e
              obtain ⟨x, hx, hxo⟩ := List.any_eq_true.1 e
              have := i4 x hx
              unfold outR at hxo
              simp at hxo
              omega
            unfold listE
            rw [if_pos hchk, if_neg hm0, i2, join_segs]
          · cases hz
        · rename_i hz
          exact absurd (congrArg Prod.fst h) hz
end Go.Proofs.YthifbihmogjjpaaDoor.Pl

/-
  Plain functions: a written byte is the one whose quoted form stands at the head.
-/
namespace Go.Proofs.YthifbihmogjjpaaDoor.Pl
open Go.Lib

theorem hv_hexd : ∀ n : Fin 16, hv (hexd n.val) = (n.val : Int) := by decide +kernel
theorem hexd_hv : ∀ a : Fin 256, 0 ≤ hv (UInt8.ofNat a.val) → hexd (hv (UInt8.ofNat a.val)).toNat = UInt8.ofNat a.val := by decide +kernel
theorem hexd_hv' (a : UInt8) (h : 0 ≤ hv a) : hexd (hv a).toNat = a := by
  have := hexd_hv ⟨a.toNat, a.toNat_lt⟩
  simp only [UInt8.ofNat_toNat] at this
  exact this h
theorem letter_raw (c x : UInt8) (h : letter c = some x) : raw x = some c ∧ ¬ x = 120 := by
  unfold letter at h
  split at h
  · cases h; subst_vars; exact ⟨rfl, by decide⟩
  split at h
  · cases h; subst_vars; exact ⟨rfl, by decide⟩
  split at h
  · cases h; subst_vars; exact ⟨rfl, by decide⟩
  split at h
  · cases h; subst_vars; exact ⟨rfl, by decide⟩
  split at h
  · cases h; subst_vars; exact ⟨rfl, by decide⟩
  cases h
theorem raw_letter (x c : UInt8) (h : raw x = some c) : letter c = some x ∧ plain c = false := by
  unfold raw at h
  split at h
  · cases h; subst_vars; exact ⟨rfl, by decide⟩
  split at h
  · cases h; subst_vars; exact ⟨rfl, by decide⟩
  split at h
  · cases h; subst_vars; exact ⟨rfl, by decide⟩
  split at h
  · cases h; subst_vars; exact ⟨rfl, by decide⟩
  split at h
  · cases h; subst_vars; exact ⟨rfl, by decide⟩
  cases h
theorem plain_not92 (c : UInt8) (h : plain c = true) : ¬ c = 92 := by rintro rfl; revert h; decide
theorem hexv_self (c : UInt8) : hexv (hexd (c.toNat / 16)) (hexd (c.toNat % 16)) = c ∧ 0 ≤ hv (hexd (c.toNat / 16)) ∧ 0 ≤ hv (hexd (c.toNat % 16)) := by
  have hb := c.toNat_lt
  have e1 := hv_hexd ⟨c.toNat / 16, by omega⟩
  have e2 := hv_hexd ⟨c.toNat % 16, by omega⟩
  simp only at e1 e2
  refine ⟨?_, by omega, by omega⟩
  apply UInt8.toNat_inj.1
  have := hexv_toNat (hexd (c.toNat / 16)) (hexd (c.toNat % 16)) (by omega) (by omega)
  omega
theorem hex_cons (a b : UInt8) (r : List UInt8) : hex (a :: b :: r) = if hv a < 0 ∨ hv b < 0 then none else if (letter (hexv a b)).isSome || plain (hexv a b) then none else some (hexv a b) := rfl
/-- a quoted form at the head is what is read there -/
theorem rb_of_esc (c : UInt8) (r : List UInt8) : rb (esc c ++ r) = some (c, (esc c).length) := by
  cases hp : plain c with
  | true =>
    rw [esc_plain c hp]
    show rb (c :: r) = _
    rw [rb_cons, if_neg (plain_not92 c hp), if_pos hp]; rfl
  | false =>
    cases hl : letter c with
    | some x =>
      rw [esc_letter c x hp hl]
      show rb (92 :: x :: r) = _
      obtain ⟨h1, h2⟩ := letter_raw c x hl
      rw [rb_cons, if_pos rfl, rb92_cons, if_neg h2, h1]; rfl
    | none =>
      rw [esc_hex c hp hl]
      show rb (92 :: 120 :: hexd (c.toNat / 16) :: hexd (c.toNat % 16) :: r) = _
      obtain ⟨h1, h2, h3⟩ := hexv_self c
      rw [rb_cons, if_pos rfl, rb92_cons, if_pos rfl]
      have : hex (hexd (c.toNat / 16) :: hexd (c.toNat % 16) :: r) = some c := by
        rw [hex_cons, if_neg (by omega), h1, hl, hp]; rfl
      rw [this]; rfl
theorem esc_of_rb (l : List UInt8) (c : UInt8) (n : Nat) (h : rb l = some (c, n)) : ∃ r, l = esc c ++ r ∧ n = (esc c).length := by
  cases l with
  | nil => cases h
  | cons b r =>
    rw [rb_cons] at h
    split at h
    · subst_vars
      cases r with
      | nil => cases h
      | cons x r' =>
        rw [rb92_cons] at h
        split at h
        · subst_vars
          match r', h with
          | [], h => cases h
          | [_], h => cases h
          | a :: b :: r2, h =>
            rw [hex_cons] at h
            by_cases hn : hv a < 0 ∨ hv b < 0
            · rw [if_pos hn] at h; cases h
            · rw [if_neg hn] at h
              by_cases hn2 : ((letter (hexv a b)).isSome || plain (hexv a b)) = true
              · rw [if_pos hn2] at h; cases h
              · rw [if_neg hn2] at h
                simp only [Option.map_some, Option.some.injEq, Prod.mk.injEq] at h
                obtain ⟨hc, rfl⟩ := h
                have ha : 0 ≤ hv a := by omega
                have hb : 0 ≤ hv b := by omega
                have hv1 := hexv_toNat a b ha hb
                rw [hc] at hv1 hn2
                have r1 := hv_range a
                have r2' := hv_range b
                have hl : letter c = none := by cases hh : letter c with
                  | none => rfl
                  | some x => rw [hh] at hn2; simp at hn2
                have hp : plain c = false := by cases hh : plain c with
                  | false => rfl
                  | true => rw [hh] at hn2; simp at hn2
                refine ⟨r2, ?_, ?_⟩
                · rw [esc_hex c hp hl]
                  have d1 : c.toNat / 16 = (hv a).toNat := by omega
                  have d2 : c.toNat % 16 = (hv b).toNat := by omega
                  rw [d1, d2, hexd_hv' a ha, hexd_hv' b hb]; rfl
                · rw [esc_hex c hp hl]; rfl
        · cases hr : raw x with
          | none => rw [hr] at h; cases h
          | some v =>
            rw [hr] at h
            simp only [Option.map_some, Option.some.injEq, Prod.mk.injEq] at h
            obtain ⟨rfl, rfl⟩ := h
            obtain ⟨h1, h2⟩ := raw_letter x v hr
            exact ⟨r', by rw [esc_letter v x h2 h1]; rfl, by rw [esc_letter v x h2 h1]; rfl⟩
    · split at h
      · rename_i hp
        simp only [Option.some.injEq, Prod.mk.injEq] at h
        obtain ⟨rfl, rfl⟩ := h
        exact ⟨r, by rw [esc_plain b hp]; rfl, by rw [esc_plain b hp]; rfl⟩
      · cases h
end Go.Proofs.YthifbihmogjjpaaDoor.Pl

/-
  Plain functions: the line of two lists of fields, one behind the other.
-/
namespace Go.Proofs.YthifbihmogjjpaaDoor.Pl
open Go.Lib

theorem jn_true : ∀ (m : List (List UInt8 × Bool)) (acc : List UInt8), (m.foldl jstep (acc, true)).1 = acc ++ (m.map fun f => 32 :: wrt f).flatten
  | [], acc => by simp
  | f :: r, acc => by
    rw [List.foldl_cons]
    show (r.foldl jstep (acc ++ 32 :: wrt f, true)).1 = _
    rw [jn_true r]; simp
theorem jn_cons (f : List UInt8 × Bool) (r : List (List UInt8 × Bool)) : jn (f :: r) = wrt f ++ (r.map fun f => 32 :: wrt f).flatten := by
  unfold jn
  rw [List.foldl_cons]
  show (r.foldl jstep (wrt f, true)).1 = _
  rw [jn_true r]
theorem jn_app {l m : List (List UInt8 × Bool)} (hl : l ≠ []) (hm : m ≠ []) : jn (l ++ m) = jn l ++ 32 :: jn m := by
  cases l with
  | nil => exact absurd rfl hl
  | cons f r =>
    cases m with
    | nil => exact absurd rfl hm
    | cons g q =>
      rw [List.cons_append, jn_cons, jn_cons, jn_cons]
      simp
theorem join_ok {fs : List (List UInt8 × Bool)} (h : (join fs).1 = 0) : tooF fs = false ∧ fs.all okF = true ∧ (jn fs).length ≤ 8192 ∧ join fs = (0, jn fs) := by
  unfold join at h ⊢
  cases ht : tooF fs with
  | true => rw [ht] at h; cases h
  | false =>
    rw [ht] at h
    cases ha : fs.all okF with
    | false => rw [ha] at h; cases h
    | true =>
      rw [ha] at h
      by_cases hl : 8192 < (jn fs).length
      · rw [if_neg (by simp), if_pos rfl, if_pos hl] at h; cases h
      · exact ⟨rfl, rfl, by omega, by rw [if_neg (by simp), if_pos rfl, if_neg hl]⟩
theorem tooF_app {l m : List (List UInt8 × Bool)} (h : tooF (l ++ m) = false) : tooF l = false ∧ tooF m = false := by
  unfold tooF at h ⊢
  simp only [Bool.or_eq_false_iff, List.length_append, List.any_append, decide_eq_false_iff_not, Nat.not_lt] at h ⊢
  exact ⟨⟨by omega, h.2.1⟩, ⟨by omega, h.2.2⟩⟩
/-- if both together have a line, each has one -/
theorem join_app {l m : List (List UInt8 × Bool)} (hl : l ≠ []) (hm : m ≠ []) (h : (join (l ++ m)).1 = 0) : (join l).1 = 0 ∧ (join m).1 = 0 ∧ l.length + m.length ≤ 64 ∧ (jn l).length + 1 + (jn m).length ≤ 8192 ∧ (join (l ++ m)).2 = jn l ++ 32 :: jn m := by
  obtain ⟨h1, h2, h3, h4⟩ := join_ok h
  obtain ⟨t1, t2⟩ := tooF_app h1
  rw [List.all_append, Bool.and_eq_true] at h2
  have h64 := (tooF_no h1).1
  rw [List.length_append] at h64
  rw [jn_app hl hm] at h3 h4
  simp only [List.length_append, List.length_cons] at h3
  refine ⟨?_, ?_, h64, by omega, by rw [h4]⟩
  · unfold join; rw [t1, h2.1, if_neg (by simp), if_pos rfl, if_neg (by omega)]
  · unfold join; rw [t2, h2.2, if_neg (by simp), if_pos rfl, if_neg (by omega)]
/-- if each has a line, and they are not too many, both together have one -/
theorem join_both {l m : List (List UInt8 × Bool)} (hl : l ≠ []) (hm : m ≠ []) (h1 : (join l).1 = 0) (h2 : (join m).1 = 0) :
    join (l ++ m) = if 64 < l.length + m.length ∨ 8192 < (jn l).length + 1 + (jn m).length then (3, []) else (0, jn l ++ 32 :: jn m) := by
  obtain ⟨a1, a2, a3, a4⟩ := join_ok h1
  obtain ⟨b1, b2, b3, b4⟩ := join_ok h2
  have ea : (l ++ m).all okF = true := by rw [List.all_append, a2, b2]; rfl
  unfold tooF at a1 b1
  rw [Bool.or_eq_false_iff] at a1 b1
  have et : tooF (l ++ m) = decide (64 < l.length + m.length) := by
    unfold tooF
    rw [List.any_append, a1.2, b1.2, List.length_append]; simp
  unfold join
  rw [et, ea, jn_app hl hm]
  by_cases h64 : 64 < l.length + m.length
  · rw [if_pos (by simpa using h64), if_pos (.inl h64)]
  · rw [if_neg (by simpa using h64), if_pos rfl]
    by_cases h8 : 8192 < (jn l).length + 1 + (jn m).length
    · rw [if_pos (by simp; omega), if_pos (.inr h8)]
    · rw [if_neg (by simp; omega), if_neg (by omega)]
theorem joinf_len (fs : List (List UInt8 × Bool)) : (join fs).2.length ≤ 8192 := by
  unfold join
  split
  · exact Nat.zero_le _
  split
  · split
    · exact Nat.zero_le _
    · simp only; omega
  · exact Nat.zero_le _
end Go.Proofs.YthifbihmogjjpaaDoor.Pl

/-
  Plain functions: Quote and Unquote, Split and Join are inverse to each other.
-/
namespace Go.Proofs.YthifbihmogjjpaaDoor.Pl
open Go.Lib

theorem esc_head (c : UInt8) : ∃ x r, esc c = x :: r ∧ ¬ x = 34 := by
  unfold esc
  by_cases h : plain c = true
  · rw [if_pos h]
    exact ⟨c, [], rfl, fun e => by subst e; revert h; decide⟩
  · rw [if_neg h]
    cases letter c with
    | none => exact ⟨92, _, rfl, by decide⟩
    | some l => exact ⟨92, _, rfl, by decide⟩
theorem qbody_cons (c : UInt8) (t : List UInt8) : qbody (c :: t) = esc c ++ qbody t := by unfold qbody; rw [List.flatMap_cons]
theorem bq_qbody : ∀ (t r : List UInt8), bq (qbody t ++ 34 :: r) = some (t, (qbody t).length + 1)
  | [], r => bq_quote r
  | c :: t, r => by
    obtain ⟨x, q, he, hx⟩ := esc_head c
    have ih := bq_qbody t r
    have hrb := rb_of_esc c (qbody t ++ 34 :: r)
    rw [qbody_cons, List.append_assoc]
    rw [he, List.cons_append] at hrb ⊢
    rw [bq_step x _ hx hrb, ← List.cons_append, List.drop_left' rfl, ih]
    simp only [Option.some.injEq, Prod.mk.injEq, true_and, List.length_append]
    omega
theorem bq_of : ∀ (n : Nat) (l t : List UInt8) (m : Nat), l.length ≤ n → bq l = some (t, m) → ∃ r, l = qbody t ++ 34 :: r ∧ m = (qbody t).length + 1
  | _, [], t, m, _, h => by rw [bq_nil] at h; cases h
  | 0, c :: r, t, m, hn, _ => by simp at hn
  | n + 1, c :: r, t, m, hn, h => by
    by_cases hc : c = 34
    · subst hc
      rw [bq_quote] at h
      simp only [Option.some.injEq, Prod.mk.injEq] at h
      obtain ⟨rfl, rfl⟩ := h
      exact ⟨r, rfl, rfl⟩
    · cases hr : rb (c :: r) with
      | none => rw [bq_stop c r hc hr] at h; cases h
      | some y =>
        obtain ⟨v, k⟩ := y
        rw [bq_step c r hc hr] at h
        obtain ⟨q, hq, hk⟩ := esc_of_rb _ v k hr
        rw [hq, hk, List.drop_left' rfl] at h
        have hel := (esc_len v).2
        have hlq : q.length ≤ n := by
          have := congrArg List.length hq
          rw [List.length_append, List.length_cons] at this
          simp at hn
          omega
        cases hb : bq q with
        | none => rw [hb] at h; cases h
        | some z =>
          obtain ⟨t', m'⟩ := z
          rw [hb] at h
          simp only [Option.some.injEq, Prod.mk.injEq] at h
          obtain ⟨rfl, rfl⟩ := h
          obtain ⟨w, hw1, hw2⟩ := bq_of n q t' m' hlq hb
          refine ⟨w, by rw [hq, hw1, qbody_cons, List.append_assoc], ?_⟩
          rw [qbody_cons, List.length_append, hw2]; omega
theorem quote_length (t : List UInt8) : (quote t).length = (qbody t).length + 2 := by unfold quote; simp
theorem rq_quote (t r : List UInt8) : rq (quote t ++ r) = some (t, (quote t).length) := by
  have e : quote t ++ r = 34 :: (qbody t ++ 34 :: r) := by unfold quote; simp
  rw [e, rq, if_pos rfl, bq_qbody, quote_length]
theorem rq_of {l t : List UInt8} {m : Nat} (h : rq l = some (t, m)) : ∃ r, l = quote t ++ r ∧ m = (quote t).length := by
  cases l with
  | nil => cases h
  | cons c q =>
    rw [rq] at h
    by_cases hc : c = 34
    · rw [if_pos hc] at h
      cases hb : bq q with
      | none => rw [hb] at h; cases h
      | some z =>
        obtain ⟨t', m'⟩ := z
        rw [hb] at h
        simp only [Option.some.injEq, Prod.mk.injEq] at h
        obtain ⟨rfl, rfl⟩ := h
        obtain ⟨r, hr1, hr2⟩ := bq_of q.length q t' m' (Nat.le_refl _) hb
        refine ⟨r, by rw [hc, hr1]; unfold quote; simp, by rw [quote_length, hr2]⟩
    · rw [if_neg hc] at h; cases h
theorem unq_quote (t : List UInt8) : unq (quote t) = some t := by
  unfold unq
  have := rq_quote t []
  rw [List.append_nil] at this
  rw [this]
  simp
theorem quote_unq {l t : List UInt8} (h : unq l = some t) : quote t = l := by
  unfold unq at h
  cases hr : rq l with
  | none => rw [hr] at h; cases h
  | some z =>
    obtain ⟨t', m⟩ := z
    rw [hr] at h
    simp only at h
    split at h
    · rename_i hm
      injection h with h
      subst h
      obtain ⟨r, h1, h2⟩ := rq_of hr
      have : r = [] := by
        have := congrArg List.length h1
        rw [List.length_append] at this
        exact List.eq_nil_of_length_eq_zero (by omega)
      rw [h1, this, List.append_nil]
    · cases h
theorem fld_wrt {l : List UInt8} {x : List UInt8 × Bool} {n : Nat} (h : fld l = some (x, n)) : l = wrt x ++ l.drop n ∧ okF x = true := by
  unfold fld at h
  split at h
  · cases hr : rq l with
    | none => rw [hr] at h; cases h
    | some z =>
      obtain ⟨t, m⟩ := z
      rw [hr] at h
      simp only [Option.map_some, Option.some.injEq, Prod.mk.injEq] at h
      obtain ⟨rfl, rfl⟩ := h
      obtain ⟨r, h1, h2⟩ := rq_of hr
      refine ⟨?_, rfl⟩
      show l = quote t ++ l.drop m
      rw [h1, h2, List.drop_left' rfl]
  · split at h
    · cases h
    · rename_i h34 h0
      simp only [Option.some.injEq, Prod.mk.injEq] at h
      obtain ⟨rfl, rfl⟩ := h
      refine ⟨(List.take_append_drop _ _).symm, ?_⟩
      have hall : (l.take (bareN l)).all bareC = true := by
        unfold bareN
        clear h0 h34
        induction l with
        | nil => rfl
        | cons c r ih =>
          rw [List.takeWhile_cons]
          split
          · rename_i h
            simp only [List.length_cons, List.take_succ_cons, List.all_cons, h, Bool.true_and]
            exact ih
          · rfl
      show (false || bareS (l.take (bareN l))) = true
      unfold bareS
      rw [hall]
      have := bareN_le l
      cases hh : l.take (bareN l) with
      | nil =>
        have h1 := congrArg List.length hh
        rw [List.length_take, List.length_nil] at h1
        omega
      | cons => rfl
theorem fld_of_wrt {x : List UInt8 × Bool} {r : List UInt8} (h : okF x = true) (hr : r = [] ∨ ∃ q, r = 32 :: q) : fld (wrt x ++ r) = some (x, (wrt x).length) := by
  obtain ⟨t, b⟩ := x
  cases b with
  | true =>
    show fld (quote t ++ r) = some ((t, true), (quote t).length)
    unfold fld
    rw [if_pos (by unfold quote; rfl), rq_quote]; rfl
  | false =>
    have hb : bareS t = true := by simpa [okF] using h
    show fld (t ++ r) = some ((t, false), t.length)
    unfold bareS at hb
    rw [Bool.and_eq_true] at hb
    obtain ⟨hb1, hb2⟩ := hb
    have hn : bareN (t ++ r) = t.length := by
      apply bareN_of _ _ (by simp) (by rw [List.take_left' rfl]; exact hb2)
      rw [List.drop_left' rfl]
      rcases hr with rfl | ⟨q, rfl⟩
      · simp
      · simp only [List.head?_cons, Option.map_some, ne_eq, Option.some.injEq]; decide
    have h0 : t.length ≠ 0 := by
      intro e
      rw [List.eq_nil_of_length_eq_zero e] at hb1
      simp at hb1
    have h34 : ¬ (t ++ r).head? = some 34 := by
      cases t with
      | nil => simp at h0
      | cons c q =>
        intro e
        simp only [List.cons_append, List.head?_cons, Option.some.injEq] at e
        subst e
        rw [List.all_cons] at hb2
        have : bareC 34 = false := by decide
        rw [this] at hb2
        cases hb2
    unfold fld
    rw [if_neg h34, hn, if_neg h0, List.take_left' rfl]
theorem wrt_ne {x : List UInt8 × Bool} (h : okF x = true) : wrt x ≠ [] := by
  obtain ⟨t, b⟩ := x
  cases b with
  | true => show quote t ≠ []; unfold quote; simp
  | false =>
    have hb : bareS t = true := by simpa [okF] using h
    show t ≠ []
    intro e
    subst e
    cases hb
theorem jn_one (x : List UInt8 × Bool) : jn [x] = wrt x := by rw [jn_cons]; simp
theorem its_jn : ∀ (fs : List (List UInt8 × Bool)), fs ≠ [] → fs.all okF = true → its (jn fs) = fs.map some
  | [], h, _ => absurd rfl h
  | [x], _, ha => by
    simp only [List.all_cons, List.all_nil, Bool.and_true] at ha
    have h := fld_of_wrt (r := []) ha (.inl rfl)
    rw [List.append_nil] at h
    rw [jn_one, its_some h, List.drop_length]
    rfl
  | x :: y :: r, _, ha => by
    rw [List.all_cons, Bool.and_eq_true] at ha
    have ih := its_jn (y :: r) (by simp) ha.2
    have e : jn (x :: y :: r) = wrt x ++ 32 :: jn (y :: r) := by
      have := jn_app (l := [x]) (m := y :: r) (by simp) (by simp)
      rw [jn_one] at this
      exact this
    rw [e, its_some (fld_of_wrt ha.1 (.inr ⟨_, rfl⟩)), List.drop_left' rfl]
    show some x :: (if (32 : UInt8) = 32 then its (jn (y :: r)) else [none]) = _
    rw [if_pos rfl, ih]; rfl
theorem jn_its : ∀ (n : Nat) (l : List UInt8), l.length ≤ n → ∀ fs, allS (its l) = some fs → fs ≠ [] ∧ jn fs = l ∧ fs.all okF = true
  | n, l, hn, fs, h => by
    cases hf : fld l with
    | none => rw [its_none hf] at h; cases h
    | some y =>
      obtain ⟨x, k⟩ := y
      obtain ⟨hw, hok⟩ := fld_wrt hf
      have hk := fld_len hf
      rw [its_some hf] at h
      cases hd : l.drop k with
      | nil =>
        rw [hd] at h hw
        have h' : allS [some x] = some fs := h
        have e : allS ([x].map some) = some [x] := allS_map [x]
        have h2 : some [x] = some fs := e.symm.trans h'
        injection h2 with h2
        subst h2
        rw [List.append_nil] at hw
        exact ⟨by simp, by rw [jn_one]; exact hw.symm, by simp [hok]⟩
      | cons c r =>
        rw [hd] at h hw
        by_cases hc : c = 32
        · subst hc
          have h' : allS (some x :: its r) = some fs := h
          have hrl : r.length < l.length := by
            have := congrArg List.length hd
            rw [List.length_drop, List.length_cons] at this
            omega
          have ⟨fs', hfs⟩ : ∃ fs', allS (its r) = some fs' ∧ fs = x :: fs' := by
            unfold allS at h' ⊢
            rw [List.all_cons] at h'
            simp only [Option.isSome_some, Bool.true_and] at h'
            split at h'
            · rename_i ha
              rw [if_pos ha]
              injection h' with h'
              exact ⟨_, rfl, h'.symm⟩
            · cases h'
          obtain ⟨hfs, rfl⟩ := hfs
          cases n with
          | zero => omega
          | succ n =>
            obtain ⟨i1, i2, i3⟩ := jn_its n r (by omega) fs' hfs
            refine ⟨by simp, ?_, by rw [List.all_cons, hok, i3]; rfl⟩
            have := jn_app (l := [x]) (m := fs') (by simp) i1
            rw [jn_one, i2] at this
            rw [hw]
            exact this
        · have h' : allS [some x, none] = some fs := by
            have e : tail (c :: r) = [none] := by show (if c = 32 then its r else [none]) = [none]; rw [if_neg hc]
            rw [e] at h; exact h
          have e : allS [some x, none] = none := by simp [allS]
          rw [e] at h'
          cases h'
theorem tooFL (fs : List (List UInt8 × Bool)) : tooF fs = tooL fs := rfl
/-- Join of Split is the line -/
theorem join_split {l : List UInt8} {fs : List (List UInt8 × Bool)} (h : split l = (0, fs)) : join fs = (0, l) := by
  unfold split at h
  split at h
  · cases h
  · rename_i h8
    cases ha : allS (seq l) with
    | none => rw [ha] at h; cases h
    | some gs =>
      rw [ha] at h
      simp only at h
      split at h
      · cases h
      · rename_i ht
        simp only [Prod.mk.injEq, true_and] at h
        subst h
        rw [Bool.not_eq_true] at ht
        by_cases h0 : l = []
        · subst h0
          have : gs = [] := by
            have e : allS (seq []) = some [] := by decide
            rw [e] at ha
            injection ha with ha
            exact ha.symm
          subst this
          decide
        · have e : seq l = its l := by unfold seq; rw [if_neg h0]
          rw [e] at ha
          obtain ⟨i1, i2, i3⟩ := jn_its l.length l (Nat.le_refl _) gs ha
          unfold join
          rw [tooFL, ht, if_neg (by simp), i3, if_pos rfl, i2, if_neg h8]
/-- Split of Join are the fields -/
theorem split_join {fs : List (List UInt8 × Bool)} {t : List UInt8} (h : join fs = (0, t)) : split t = (0, fs) := by
  obtain ⟨h1, h2, h3, h4⟩ := join_ok (fs := fs) (by rw [h])
  rw [h] at h4
  injection h4 with _ h4
  subst h4
  unfold split
  rw [if_neg (by omega)]
  by_cases h0 : fs = []
  · subst h0; decide
  · have hne : jn fs ≠ [] := by
      cases fs with
      | nil => exact absurd rfl h0
      | cons x r =>
        rw [List.all_cons, Bool.and_eq_true] at h2
        rw [jn_cons]
        simp [wrt_ne h2.1]
    have e : seq (jn fs) = fs.map some := by unfold seq; rw [if_neg hne, its_jn fs h0 h2]
    rw [e, allS_map]
    simp only
    rw [← tooFL, h1]
    rfl
end Go.Proofs.YthifbihmogjjpaaDoor.Pl
