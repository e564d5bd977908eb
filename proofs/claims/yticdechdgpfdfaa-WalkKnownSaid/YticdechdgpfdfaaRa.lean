/-
  Runs, plainly: how many entries are below a key, what is near to it, the part of a range.
-/
import Derived.Test.YticdechdgpfdfaaQd
namespace Go.Proofs.Yticdechdgpfdfaa.KK
open Go.ChangeShapes Go.WideShapes Go.ChangeAt Go.RowKit Go.Proofs

/-- an entry's key is less, or, with past, not greater -/
def lowB (key : ByteArray) (past : Bool) (x : El.En) : Bool := if past = true then !ltK key x.1 else ltK x.1 key
def befN (l : List El.En) (key : ByteArray) (past : Bool) : Nat := l.countP (lowB key past)
theorem befN_le (l : List El.En) (key : ByteArray) (past : Bool) : befN l key past ≤ l.length := List.countP_le_length
theorem befN_less (l : List El.En) (key : ByteArray) : befN l key false = inN l key := rfl
theorem lowB_less {key : ByteArray} {x : El.En} (h : ltK x.1 key = true) (past : Bool) : lowB key past x = true := by
  unfold lowB; cases past
  · simpa using h
  · simpa using ltK_asymm h
theorem lowB_more {key : ByteArray} {x : El.En} (h : ltK key x.1 = true) (past : Bool) : lowB key past x = false := by
  unfold lowB; cases past
  · simpa using ltK_asymm h
  · simpa using h
theorem lowB_down {key : ByteArray} {past : Bool} {x y : El.En} (h : ltK x.1 y.1 = true) (g : lowB key past y = true) : lowB key past x = true := by
  unfold lowB at g ⊢; cases past
  · simp at g ⊢; exact ltK_trans h g
  · simp at g ⊢
    cases k : ltK key x.1 with
    | false => rfl
    | true => have := ltK_trans k h; rw [g] at this; cases this
theorem lowB_at {xs : List El.En} (hs : SK xs) {key : ByteArray} {past : Bool} {i j : Nat} (hij : i ≤ j) (hj : j < xs.length) (h : lowB key past xs[j] = true) : lowB key past (xs[i]'(by omega)) = true := by
  by_cases e : i = j
  · subst e; exact h
  · exact lowB_down (List.pairwise_iff_getElem.1 hs i j (by omega) hj (by omega)) h
/-- where the low ones end -/
theorem bef_cut {xs : List El.En} {key : ByteArray} {past : Bool} {r : Nat} (hr : r ≤ xs.length) (h1 : ∀ i (h : i < xs.length), i < r → lowB key past xs[i] = true) (h2 : ∀ i (h : i < xs.length), r ≤ i → lowB key past xs[i] = false) : befN xs key past = r := count_cut _ xs r hr h1 h2
theorem bef_is {xs : List El.En} (hs : SK xs) (key : ByteArray) (past : Bool) : (∀ i (h : i < xs.length), i < befN xs key past → lowB key past xs[i] = true) ∧ (∀ i (h : i < xs.length), befN xs key past ≤ i → lowB key past xs[i] = false) := by
  have H : ∀ n, n ≤ xs.length → (∃ r, r ≤ n ∧ (∀ i (h : i < xs.length), i < r → lowB key past xs[i] = true) ∧ (∀ i (h : i < xs.length), r ≤ i → i < n → lowB key past xs[i] = false)) := by
    intro n
    induction n with
    | zero => intro _; exact ⟨0, Nat.le_refl _, fun i h g => by omega, fun i h g k => by omega⟩
    | succ n ih =>
      intro hn
      obtain ⟨r, hr, a, b⟩ := ih (by omega)
      cases g : lowB key past (xs[n]'(by omega)) with
      | false => exact ⟨r, by omega, a, fun i h k m => by
          by_cases e : i = n
          · subst e; exact g
          · exact b i h k (by omega)⟩
      | true => exact ⟨n + 1, Nat.le_refl _, fun i h k => lowB_at hs (by omega) (by omega) g, fun i h k m => by omega⟩
  obtain ⟨r, hr, a, b⟩ := H xs.length (Nat.le_refl _)
  have e := bef_cut hr a (fun i h k => b i h k h)
  rw [e]; exact ⟨a, fun i h k => b i h k h⟩
theorem sub_skR {xs : List El.En} (h : SK xs) (a b : Nat) : SK ((xs.drop a).take b) := (List.Pairwise.drop h).take
/-- only the block of the key has to be looked through -/
theorem bef_part {st : Nat} {ms : List ByteArray} {xs : List El.En} (hst : 1 ≤ st) (hs : SK xs) (hf : fitsF st ms xs = true) (key : ByteArray) (past : Bool) :
    befN xs key past = upN ms key * st + befN (partE st ms xs key) key past := by
  obtain ⟨p1, p2⟩ := part_len (key := key) hst (fits_len hf)
  have lowA : ∀ j (h : j < xs.length), j < upN ms key * st → ltK xs[j].1 key = true := fun j hj hlt => by
    have hb := span_at hst hs hf hj
    rw [keyAt_eq hj] at hb
    cases g : ltK xs[j].1 key with
    | true => rfl
    | false =>
      have h1 := up_mono ms g
      rw [hb] at h1
      have h2 := (Nat.le_div_iff_mul_le (show 0 < st by omega)).1 h1
      omega
  have lowC : ∀ j (h : j < xs.length), upN ms key * st + st ≤ j → ltK key xs[j].1 = true := fun j hj hle => by
    have hb := span_at hst hs hf hj
    rw [keyAt_eq hj] at hb
    cases g : ltK key xs[j].1 with
    | true => rfl
    | false =>
      have h1 := up_mono ms g
      rw [hb] at h1
      have h2 := (Nat.div_lt_iff_lt_mul (show 0 < st by omega)).1 (show j / st < upN ms key + 1 by omega)
      rw [Nat.add_mul, Nat.one_mul] at h2
      omega
  obtain ⟨q1, q2⟩ := bef_is (sub_skR hs (upN ms key * st) (min (upN ms key * st + st) xs.length - upN ms key * st)) key past
  have hle := befN_le (partE st ms xs key) key past
  rw [p2] at hle
  refine bef_cut (by omega) (fun i hi hr => ?_) fun i hi hr => ?_
  · by_cases g : i < upN ms key * st
    · exact lowB_less (lowA i hi g) past
    · have hj : i - upN ms key * st < (partE st ms xs key).length := by rw [p2]; omega
      have := q1 (i - upN ms key * st) hj (by unfold partE at hr; omega)
      obtain ⟨z1, z2⟩ := part_at hj
      have e : (partE st ms xs key)[i - upN ms key * st] = xs[i] := by rw [z2]; simp only [show upN ms key * st + (i - upN ms key * st) = i by omega]
      rw [← e]; exact this
  · by_cases g : upN ms key * st + st ≤ i
    · exact lowB_more (lowC i hi g) past
    · have hj : i - upN ms key * st < (partE st ms xs key).length := by rw [p2]; omega
      have := q2 (i - upN ms key * st) hj (by unfold partE at hr; omega)
      obtain ⟨z1, z2⟩ := part_at hj
      have e : (partE st ms xs key)[i - upN ms key * st] = xs[i] := by rw [z2]; simp only [show upN ms key * st + (i - upN ms key * st) = i by omega]
      rw [← e]; exact this
/-- Check -/
def runE (id : Int) (xs : List El.En) : Int × Int := if id < 1 ∨ 1000000 < id then (-1, 7) else listE xs
theorem runE_no {id : Int} {xs : List El.En} (h : id < 1 ∨ 1000000 < id) : runE id xs = (-1, 7) := if_pos h
theorem runE_ok {id : Int} {xs : List El.En} (h : ¬ (id < 1 ∨ 1000000 < id)) : runE id xs = listE xs := if_neg h
theorem run_list {id : Int} {xs : List El.En} (h : (runE id xs).2 = 0) : (listE xs).2 = 0 := by
  by_cases g : id < 1 ∨ 1000000 < id
  · rw [runE_no g] at h; cases h
  · rw [runE_ok g] at h; exact h
def askR (id : Int) (xs : List El.En) (key : ByteArray) : Int := if (runE id xs).2 ≠ 0 then (runE id xs).2 else chk1 key.size
theorem askR_no {id : Int} {xs : List El.En} {key : ByteArray} (h : (runE id xs).2 ≠ 0) : askR id xs key = (runE id xs).2 := if_pos h
theorem askR_ok {id : Int} {xs : List El.En} {key : ByteArray} (h : (runE id xs).2 = 0) : askR id xs key = chk1 key.size := if_neg (by rw [h]; simp)
theorem askR_zero {id : Int} {xs : List El.En} {key : ByteArray} (h : askR id xs key = 0) : (runE id xs).2 = 0 ∧ key.size ≤ 32 := by
  by_cases g : (runE id xs).2 = 0
  · rw [askR_ok g] at h
    refine ⟨g, ?_⟩
    by_cases k : key.size ≤ 32
    · exact k
    · rw [chk1_no k] at h; exact absurd h (by decide)
  · rw [askR_no g] at h; exact absurd h g
def entR (xs : List El.En) (i : Nat) : El.En := xs.getD i El.none
theorem entR_eq {xs : List El.En} {i : Nat} (h : i < xs.length) : entR xs i = xs[i] := by
  unfold entR; rw [List.getD_eq_getElem?_getD, List.getElem?_eq_getElem h]; rfl
def floorR (id : Int) (xs : List El.En) (key : ByteArray) (strict : Bool) : El.En × Int :=
  if askR id xs key ≠ 0 then (El.none, askR id xs key) else if befN xs key (!strict) = 0 then (El.none, 4) else (entR xs (befN xs key (!strict) - 1), 0)
def ceilR (id : Int) (xs : List El.En) (key : ByteArray) (strict : Bool) : El.En × Int :=
  if askR id xs key ≠ 0 then (El.none, askR id xs key) else if befN xs key strict = xs.length then (El.none, 4) else (entR xs (befN xs key strict), 0)
def getR (id : Int) (xs : List El.En) (key : ByteArray) : El.En × Int :=
  if (floorR id xs key false).2 ≠ 0 then (El.none, (floorR id xs key false).2) else if (floorR id xs key false).1.1 = key then floorR id xs key false else (El.none, 4)
/-- the reference's Get -/
def getS (id : Int) (xs : List El.En) (key : ByteArray) : El.En × Int :=
  if askR id xs key ≠ 0 then (El.none, askR id xs key) else if atE key 0 xs < 0 then (El.none, 4) else (entR xs (atE key 0 xs).toNat, 0)
theorem floorR_no {id : Int} {xs : List El.En} {key : ByteArray} {s : Bool} (h : askR id xs key ≠ 0) : floorR id xs key s = (El.none, askR id xs key) := if_pos h
theorem floorR_none {id : Int} {xs : List El.En} {key : ByteArray} {s : Bool} (h : askR id xs key = 0) (g : befN xs key (!s) = 0) : floorR id xs key s = (El.none, 4) := by
  unfold floorR; rw [if_neg (by rw [h]; simp), if_pos g]
theorem floorR_ok {id : Int} {xs : List El.En} {key : ByteArray} {s : Bool} (h : askR id xs key = 0) (g : befN xs key (!s) ≠ 0) : floorR id xs key s = (entR xs (befN xs key (!s) - 1), 0) := by
  unfold floorR; rw [if_neg (by rw [h]; simp), if_neg g]
theorem ceilR_no {id : Int} {xs : List El.En} {key : ByteArray} {s : Bool} (h : askR id xs key ≠ 0) : ceilR id xs key s = (El.none, askR id xs key) := if_pos h
theorem ceilR_none {id : Int} {xs : List El.En} {key : ByteArray} {s : Bool} (h : askR id xs key = 0) (g : befN xs key s = xs.length) : ceilR id xs key s = (El.none, 4) := by
  unfold ceilR; rw [if_neg (by rw [h]; simp), if_pos g]
theorem ceilR_ok {id : Int} {xs : List El.En} {key : ByteArray} {s : Bool} (h : askR id xs key = 0) (g : befN xs key s ≠ xs.length) : ceilR id xs key s = (entR xs (befN xs key s), 0) := by
  unfold ceilR; rw [if_neg (by rw [h]; simp), if_neg g]
theorem get_no {id : Int} {xs : List El.En} {key : ByteArray} (h : askR id xs key ≠ 0) : getR id xs key = (El.none, askR id xs key) ∧ getS id xs key = (El.none, askR id xs key) := by
  unfold getR getS
  rw [floorR_no h, if_pos h, if_pos h]; exact ⟨rfl, rfl⟩
theorem get_same (id : Int) (xs : List El.En) (key : ByteArray) : getR id xs key = getS id xs key := by
  by_cases h : askR id xs key = 0
  rotate_left
  · rw [(get_no h).1, (get_no h).2]
  obtain ⟨hr, hk⟩ := askR_zero h
  obtain ⟨hl, hc, hs⟩ := list_ok (run_list hr)
  obtain ⟨b1, b2⟩ := bef_is hs key true
  have hle := befN_le xs key true
  unfold getS
  rw [if_neg (by rw [h]; simp)]
  by_cases he : ∃ j, ∃ g : j < xs.length, xs[j].1 = key
  · obtain ⟨j, hj, hjk⟩ := he
    have e : befN xs key true = j + 1 := by
      refine bef_cut (by omega) (fun i hi hr => ?_) fun i hi hr => ?_
      · have := keyAt_le hs (show i ≤ j by omega) hj
        rw [keyAt_eq hj, keyAt_eq hi, hjk] at this
        unfold lowB; simpa using this
      · have := keyAt_lt hs (show j < i by omega) hi
        rw [keyAt_eq hj, keyAt_eq hi, hjk] at this
        exact lowB_more this true
    have ea := atE_here hs hj hjk j 0 (by omega)
    rw [List.drop_zero] at ea
    unfold getR
    rw [floorR_ok h (by simp; omega)]
    simp only [Bool.not_false]
    rw [e, ea, show j + 1 - 1 = j by omega, entR_eq hj, if_neg (by simp), if_pos hjk, if_neg (by omega), show ((j : Nat) : Int).toNat = j by omega, entR_eq hj]
  · have ea : atE key 0 xs = -1 := atE_none fun x hx e => by
      obtain ⟨j, hj, rfl⟩ := List.getElem_of_mem hx
      exact he ⟨j, hj, e⟩
    rw [ea, if_pos (by decide)]
    unfold getR
    by_cases g : befN xs key true = 0
    · rw [floorR_none h (by simpa using g)]; simp
    · rw [floorR_ok h (by simpa using g)]
      simp only [Bool.not_false]
      rw [if_neg (by simp), entR_eq (by omega), if_neg (fun e => he ⟨_, _, e⟩)]
def toN (xs : List El.En) (lo hi : ByteArray) (b : Bool) : Nat := if b = true then max (inN xs lo) (inN xs hi) else xs.length
def partR (id : Int) (xs : List El.En) (lo hi : ByteArray) (b : Bool) : Int × Int × Int :=
  if (runE id xs).2 ≠ 0 then (0, 0, (runE id xs).2) else if chkR lo hi b ≠ 0 then (0, 0, chkR lo hi b) else (((inN xs lo : Nat) : Int), ((toN xs lo hi b : Nat) : Int), 0)
theorem partR_no {id : Int} {xs : List El.En} {lo hi : ByteArray} {b : Bool} (h : (runE id xs).2 ≠ 0) : partR id xs lo hi b = (0, 0, (runE id xs).2) := if_pos h
theorem partR_form {id : Int} {xs : List El.En} {lo hi : ByteArray} {b : Bool} (h : (runE id xs).2 = 0) (g : chkR lo hi b ≠ 0) : partR id xs lo hi b = (0, 0, chkR lo hi b) := by
  unfold partR; rw [if_neg (by rw [h]; simp), if_pos g]
theorem partR_ok {id : Int} {xs : List El.En} {lo hi : ByteArray} {b : Bool} (h : (runE id xs).2 = 0) (g : chkR lo hi b = 0) : partR id xs lo hi b = (((inN xs lo : Nat) : Int), ((toN xs lo hi b : Nat) : Int), 0) := by
  unfold partR; rw [if_neg (by rw [h]; simp), if_neg (by rw [g]; simp)]
theorem toN_le (xs : List El.En) (lo hi : ByteArray) (b : Bool) : inN xs lo ≤ toN xs lo hi b ∧ toN xs lo hi b ≤ xs.length := by
  have h1 := inN_le xs lo
  have h2 := inN_le xs hi
  unfold toN
  cases b
  · simp; exact h1
  · simp only [if_true]; omega
def liveN (l : List El.En) : Nat := l.countP fun x => !x.2.2.1
def deadN (l : List El.En) : Nat := l.countP fun x => x.2.2.1
def subR (xs : List El.En) (a b : Nat) : List El.En := (xs.drop a).take (b - a)
def countR (id : Int) (xs : List El.En) (lo hi : ByteArray) (b : Bool) : Int × Int × Int :=
  if (partR id xs lo hi b).2.2 ≠ 0 then (0, 0, (partR id xs lo hi b).2.2) else (((liveN (subR xs (inN xs lo) (toN xs lo hi b)) : Nat) : Int), ((deadN (subR xs (inN xs lo) (toN xs lo hi b)) : Nat) : Int), 0)
end Go.Proofs.Yticdechdgpfdfaa.KK
