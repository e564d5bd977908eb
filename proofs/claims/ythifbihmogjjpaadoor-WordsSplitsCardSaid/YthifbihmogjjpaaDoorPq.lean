/-
  Plain functions: how the reference reads the fields of a line.
-/
import Derived.Test.YthifbihmogjjpaaDoorXd
import Derived.Test.YthifbihmogjjpaaDoorPp
import Derived.Test.YthifbihmogjjpaaDoorWm
namespace Go.Proofs.YthifbihmogjjpaaDoor.Pl
open Go.Lib

/-- how many places come before the next space -/
def spN (l : List UInt8) : Nat := (l.takeWhile fun c => !(c == 32)).length
theorem spN_le (l : List UInt8) : spN l ≤ l.length := (List.takeWhile_sublist _).length_le
theorem spN_cons (c : UInt8) (r : List UInt8) : spN (c :: r) = if c = 32 then 0 else spN r + 1 := by
  unfold spN
  rw [List.takeWhile_cons]
  by_cases h : c = 32
  · subst h; rfl
  · rw [if_pos (by simpa using h), if_neg h]; rfl
theorem spN_head : ∀ (l : List UInt8), (l.drop (spN l)) = [] ∨ ∃ r, l.drop (spN l) = 32 :: r
  | [] => .inl rfl
  | c :: r => by
    rw [spN_cons]
    by_cases h : c = 32
    · rw [if_pos h]; exact .inr ⟨r, by rw [h]; rfl⟩
    · rw [if_neg h, List.drop_succ_cons]; exact spN_head r
theorem spN_no : ∀ (l : List UInt8) (k : Nat) (h : k < l.length), k < spN l → ¬ l[k] = 32
  | c :: r, 0, _, hk => by
    rw [spN_cons] at hk
    by_cases h : c = 32
    · rw [if_pos h] at hk; exact absurd hk (Nat.not_lt_zero _)
    · exact h
  | c :: r, k + 1, hl, hk => by
    rw [spN_cons] at hk
    by_cases h : c = 32
    · rw [if_pos h] at hk; exact absurd hk (Nat.not_lt_zero _)
    · rw [if_neg h] at hk
      exact spN_no r k (by simpa using hl) (by omega)
/-- the reference's field at the head -/
def rfld (l : List UInt8) : Option ((List UInt8 × Bool) × Nat) :=
  if rqN l = 0 then (if bareS (l.take (spN l)) then some ((l.take (spN l), false), spN l) else none) else some ((rqT l, true), rqN l)
theorem bareN_all (l : List UInt8) : (l.take (bareN l)).all bareC = true := by
  unfold bareN
  induction l with
  | nil => rfl
  | cons c r ih =>
    rw [List.takeWhile_cons]
    split
    · rename_i h
      simp only [List.length_cons, List.take_succ_cons, List.all_cons, h, Bool.true_and]
      exact ih
    · rfl
theorem bareC_34 : bareC 34 = false := by decide
theorem bareC_32 : bareC 32 = false := by decide
theorem rfld_some {l : List UInt8} {x : List UInt8 × Bool} {n : Nat} (h : rfld l = some (x, n)) : fld l = some (x, n) := by
  unfold rfld at h
  by_cases hr : rqN l = 0
  · rw [if_pos hr] at h
    split at h
    · rename_i hb
      simp only [Option.some.injEq, Prod.mk.injEq] at h
      obtain ⟨rfl, rfl⟩ := h
      unfold bareS at hb
      rw [Bool.and_eq_true] at hb
      obtain ⟨hb1, hb2⟩ := hb
      have hn : bareN l = spN l := by
        apply bareN_of l _ (spN_le l) hb2
        rcases spN_head l with h | ⟨r, h⟩
        · rw [h]; simp
        · rw [h]; simp [bareC_32]
      have h0 : spN l ≠ 0 := by intro e; rw [e] at hb1; simp at hb1
      have h34 : l.head? ≠ some 34 := by
        cases l with
        | nil => simp
        | cons c r =>
          intro e
          simp only [List.head?_cons, Option.some.injEq] at e
          subst e
          obtain ⟨m, hm⟩ : ∃ m, spN (34 :: r) = m + 1 := ⟨spN (34 :: r) - 1, by omega⟩
          rw [hm, List.take_succ_cons, List.all_cons, bareC_34] at hb2
          cases hb2
      unfold fld
      rw [if_neg h34, hn, if_neg h0]
    · cases h
  · rw [if_neg hr] at h
    simp only [Option.some.injEq, Prod.mk.injEq] at h
    obtain ⟨rfl, rfl⟩ := h
    cases hq : rq l with
    | none => exact absurd (rqT_none hq).2 hr
    | some y =>
      obtain ⟨t, m⟩ := y
      rw [(rqT_some hq).1, (rqT_some hq).2]
      have h34 : l.head? = some 34 := by
        cases l with
        | nil => cases hq
        | cons c r =>
          rw [rq] at hq
          split at hq
          · rename_i e; rw [e]; rfl
          · cases hq
      unfold fld
      rw [if_pos h34, hq]; rfl
theorem rfld_none {l : List UInt8} (h : rfld l = none) : none ∈ its l := by
  unfold rfld at h
  by_cases hr : rqN l = 0
  · rw [if_pos hr] at h
    split at h
    · cases h
    · rename_i hb
      cases hf : fld l with
      | none => rw [its_none hf]; simp
      | some y =>
        obtain ⟨x, n⟩ := y
        rw [its_some hf]
        apply List.mem_cons_of_mem
        unfold fld at hf
        split at hf
        · cases hq : rq l with
          | none => rw [hq] at hf; cases hf
          | some y =>
            have := (rqT_some (t := y.1) (m := y.2) hq).2
            rw [hr] at this
            have h2 := rq_len (l := l) (t := y.1) (m := y.2) hq
            omega
        · split at hf
          · cases hf
          · rename_i h34 h0
            simp only [Option.some.injEq, Prod.mk.injEq] at hf
            obtain ⟨_, rfl⟩ := hf
            cases hd : l.drop (bareN l) with
            | nil =>
              exfalso; apply hb
              have hlen : l.length ≤ bareN l := List.drop_eq_nil_iff.1 hd
              have hall := bareN_all l
              rw [List.take_of_length_le hlen] at hall
              unfold bareS
              have hsp : spN l = l.length := by
                rcases spN_head l with h | ⟨r, h⟩
                · have := List.drop_eq_nil_iff.1 h; have := spN_le l; omega
                · have : (32 : UInt8) ∈ l := List.mem_of_mem_drop (i := spN l) (by rw [h]; simp)
                  have := List.all_eq_true.1 hall 32 this
                  rw [bareC_32] at this; cases this
              rw [hsp, List.take_of_length_le (Nat.le_refl _), hall]
              have : 0 < l.length := by have := bareN_le l; omega
              cases l with
              | nil => simp at this
              | cons => rfl
            | cons c r =>
              by_cases hc : c = 32
              · exfalso; apply hb
                have hlt : bareN l < l.length := by
                  rcases Nat.lt_or_ge (bareN l) l.length with g | g
                  · exact g
                  · rw [List.drop_eq_nil_iff.2 g] at hd; cases hd
                have hat : l[bareN l] = 32 := by
                  rw [List.drop_eq_getElem_cons hlt] at hd
                  simp only [List.cons.injEq] at hd
                  rw [hd.1, hc]
                have hsp : spN l = bareN l := by
                  rcases Nat.lt_trichotomy (spN l) (bareN l) with g | g | g
                  · rcases spN_head l with h | ⟨r', h⟩
                    · have := List.drop_eq_nil_iff.1 h; omega
                    · have hlt2 : spN l < l.length := by omega
                      rw [List.drop_eq_getElem_cons hlt2] at h
                      simp only [List.cons.injEq] at h
                      have hm : l[spN l] ∈ l.take (bareN l) := by
                        rw [List.mem_take_iff_getElem]
                        exact ⟨spN l, by omega, rfl⟩
                      have := List.all_eq_true.1 (bareN_all l) _ hm
                      rw [h.1, bareC_32] at this; cases this
                  · exact g
                  · exact absurd hat (spN_no l _ hlt g)
                unfold bareS
                rw [hsp, bareN_all]
                have : 0 < (l.take (bareN l)).length := by rw [List.length_take]; omega
                cases hh : l.take (bareN l) with
                | nil => rw [hh] at this; simp at this
                | cons => rfl
              · simp [tail, hc]
  · rw [if_neg hr] at h; cases h
theorem rfld_len {l : List UInt8} {x : List UInt8 × Bool} {n : Nat} (h : rfld l = some (x, n)) : 1 ≤ n ∧ n ≤ l.length := fld_len (rfld_some h)
end Go.Proofs.YthifbihmogjjpaaDoor.Pl
namespace Go.Proofs.YthifbihmogjjpaaDoor
open Go.Proofs.YthifbihmogjjpaaDoor.Pl
theorem spl_seq {s : ByteArray} (h0 : 0 < s.size) : Pl.seq (Pl.L s) = Pl.its (Pl.L s) := by
  unfold Pl.seq; rw [if_neg]; rw [Pl.L_cons s h0]; simp
theorem split_end {s : ByteArray} {k n : Nat} {fs : List (List UInt8 × Bool)} {x : List UInt8 × Bool} (h8 : s.size ≤ 8192) (h0 : 0 < s.size) (hr : Pl.its (Pl.L s) = fs.map some ++ Pl.its ((Pl.L s).drop k)) (hf : rfld ((Pl.L s).drop k) = some (x, n)) (he : s.size ≤ k + n) :
    Pl.split (Pl.L s) = if Pl.tooL (fs ++ [x]) then (3, []) else (0, fs ++ [x]) := by
  have e : Pl.seq (Pl.L s) = (fs ++ [x]).map some := by
    rw [spl_seq h0, hr, its_some (rfld_some hf), List.drop_drop, tail_end s (k + n) he]; simp
  unfold Pl.split
  rw [L_length, if_neg (by omega), e, allS_map]
theorem split_bad {s : ByteArray} {k n : Nat} {fs : List (List UInt8 × Bool)} {x : List UInt8 × Bool} (h8 : s.size ≤ 8192) (h0 : 0 < s.size) (hr : Pl.its (Pl.L s) = fs.map some ++ Pl.its ((Pl.L s).drop k)) (hf : rfld ((Pl.L s).drop k) = some (x, n)) (he : k + n < s.size) (hc : ¬ s[k + n] = 32) :
    Pl.split (Pl.L s) = (6, []) := by
  have e : allS (Pl.seq (Pl.L s)) = none := by
    rw [spl_seq h0, hr, its_some (rfld_some hf), List.drop_drop, tail_no s (k + n) he hc]
    exact allS_none List.prefix_rfl (by simp)
  unfold Pl.split
  rw [L_length, if_neg (by omega), e]
theorem split_none {s : ByteArray} {k : Nat} {fs : List (List UInt8 × Bool)} (h8 : s.size ≤ 8192) (h0 : 0 < s.size) (hr : Pl.its (Pl.L s) = fs.map some ++ Pl.its ((Pl.L s).drop k)) (hf : rfld ((Pl.L s).drop k) = none) :
    Pl.split (Pl.L s) = (6, []) := by
  have e : allS (Pl.seq (Pl.L s)) = none := by
    rw [spl_seq h0, hr]
    exact allS_none List.prefix_rfl (List.mem_append_right _ (rfld_none hf))
  unfold Pl.split
  rw [L_length, if_neg (by omega), e]
theorem split_step {s : ByteArray} {k n : Nat} {fs : List (List UInt8 × Bool)} {x : List UInt8 × Bool} (hr : Pl.its (Pl.L s) = fs.map some ++ Pl.its ((Pl.L s).drop k)) (hf : rfld ((Pl.L s).drop k) = some (x, n)) (he : k + n < s.size) (hc : s[k + n] = 32) :
    Pl.its (Pl.L s) = (fs ++ [x]).map some ++ Pl.its ((Pl.L s).drop (k + n + 1)) := by
  rw [hr, its_some (rfld_some hf), List.drop_drop, tail_sp s (k + n) he hc]; simp
theorem rfld_q {l : List UInt8} {t : List UInt8} {n : Nat} (ht : rqT l = t) (hn : rqN l = n) (h : n ≠ 0) : rfld l = some ((t, true), n) := by
  unfold rfld; rw [if_neg (by rw [hn]; exact h), ht, hn]
theorem rfld_b {l : List UInt8} {m : Nat} (hn : rqN l = 0) (hm : spN l = m) (hb : bareS (l.take m) = true) : rfld l = some ((l.take m, false), m) := by
  unfold rfld; rw [if_pos hn, hm, if_pos hb]
theorem rfld_x {l : List UInt8} {m : Nat} (hn : rqN l = 0) (hm : spN l = m) (hb : bareS (l.take m) = false) : rfld l = none := by
  unfold rfld; rw [if_pos hn, hm, if_neg (by rw [hb]; simp)]
theorem spN_end {s : ByteArray} {k m : Nat} (hk : k ≤ s.size) (hm : m ≤ spN ((L s).drop k)) (h : s.size ≤ k + m) : spN ((L s).drop k) = m := by
  have := spN_le ((L s).drop k)
  rw [List.length_drop, L_length] at this
  omega
theorem spN_stop {s : ByteArray} {k m : Nat} (hm : m ≤ spN ((L s).drop k)) (h : k + m < s.size) (hc : s[k + m] = 32) : spN ((L s).drop k) = m := by
  rcases Nat.lt_or_ge m (spN ((L s).drop k)) with g | g
  · have hl : m < ((L s).drop k).length := by rw [List.length_drop, L_length]; omega
    have := spN_no _ m hl g
    rw [List.getElem_drop] at this
    exact absurd hc this
  · omega
theorem spN_more {s : ByteArray} {k m : Nat} (hm : m ≤ spN ((L s).drop k)) (h : k + m < s.size) (hc : ¬ s[k + m] = 32) : m + 1 ≤ spN ((L s).drop k) := by
  rcases Nat.lt_or_ge m (spN ((L s).drop k)) with g | g
  · omega
  · have e : spN ((L s).drop k) = m := by omega
    exfalso
    rcases spN_head ((L s).drop k) with h1 | ⟨r, h1⟩
    · rw [e, List.drop_drop, List.drop_eq_nil_iff, L_length] at h1; omega
    · rw [e, List.drop_drop, drop_cons s (k + m) h] at h1
      simp only [List.cons.injEq] at h1
      exact hc h1.1
theorem tooL_t {fs : List (List UInt8 × Bool)} {x : List UInt8 × Bool} {b : Bool} {n : Nat} (h : ((fs ++ [x]).any fun f => decide (2000 < f.1.length)) = (b || decide (2000 < n))) (g : 64 < fs.length + 1 ∨ b = true ∨ 2000 < n) : Pl.tooL (fs ++ [x]) = true := by
  unfold Pl.tooL
  rw [h, List.length_append]
  rcases g with g | g | g
  · simp [g]
  · simp [g]
  · simp [g]
theorem tooL_f {fs : List (List UInt8 × Bool)} {x : List UInt8 × Bool} {b : Bool} {n : Nat} (h : ((fs ++ [x]).any fun f => decide (2000 < f.1.length)) = (b || decide (2000 < n))) (g1 : ¬ 64 < fs.length + 1) (g2 : b = false) (g3 : ¬ 2000 < n) : Pl.tooL (fs ++ [x]) = false := by
  unfold Pl.tooL
  rw [h, List.length_append]
  simp only [List.length_cons, List.length_nil, Bool.or_eq_false_iff, decide_eq_false_iff_not]
  exact ⟨by omega, g2, g3⟩
end Go.Proofs.YthifbihmogjjpaaDoor
