/-
  Plain functions: spans, and what comes after a number.
-/
import Derived.Test.YthifbihmogjjpaaDoorPs
import Derived.Test.YthifbihmogjjpaaDoorPh
import Derived.Lib.IndexMore
import GoSem.Op.String
namespace Go.Proofs.YthifbihmogjjpaaDoor.Pl
open Go.Lib

/-- a decimal form is less than another one -/
def lessB (a b : List UInt8) : Bool := if a.length = b.length then Op.bytesLess a b else decide (a.length < b.length)
/-- the decimal form of the next number, from the last digit on -/
def sucR : List UInt8 → List UInt8
  | [] => [49]
  | c :: r => if c = 57 then 48 :: sucR r else UInt8.ofNat (c.toNat + 1) :: r
def suc (l : List UInt8) : List UInt8 := (sucR l.reverse).reverse
theorem sucR_len : ∀ l, (sucR l).length ≤ l.length + 1
  | [] => by simp [sucR]
  | c :: r => by
    have := sucR_len r
    rw [sucR]; split <;> simp; omega
theorem suc_len (l : List UInt8) : (suc l).length ≤ l.length + 1 := by
  have := sucR_len l.reverse
  unfold suc; simp at this ⊢; exact this
theorem sucR_zeros (r : List UInt8) : ∀ m, sucR (List.replicate m 57 ++ r) = List.replicate m 48 ++ sucR r
  | 0 => rfl
  | m + 1 => by
    rw [List.replicate_succ, List.cons_append, sucR, if_pos rfl, sucR_zeros r m]; rfl
/-- the rest from place k + 1 on are nines -/
theorem suc_at {l : List UInt8} {k : Nat} (hk : k < l.length) (hn : ∀ (j : Nat) (h : j < l.length), k < j → l[j] = 57) (hc : ¬ l[k] = 57) :
    suc l = l.take k ++ UInt8.ofNat (l[k].toNat + 1) :: List.replicate (l.length - 1 - k) 48 := by
  have e : l.drop (k + 1) = List.replicate (l.length - 1 - k) 57 := by
    apply List.ext_getElem
    · simp; omega
    · intro i h1 h2
      rw [List.getElem_drop, List.getElem_replicate]
      exact hn _ _ (by omega)
  have e2 : l = l.take k ++ l[k] :: l.drop (k + 1) := by
    rw [← List.drop_eq_getElem_cons hk, List.take_append_drop]
  unfold suc
  conv => lhs; rw [e2]
  rw [e, List.reverse_append, List.reverse_cons, List.reverse_replicate, List.append_assoc]
  rw [sucR_zeros, List.singleton_append, sucR, if_neg hc]
  simp
theorem suc_all {l : List UInt8} (hn : ∀ (j : Nat) (h : j < l.length), l[j] = 57) : suc l = 49 :: List.replicate l.length 48 := by
  have e : l = List.replicate l.length 57 := by
    apply List.ext_getElem
    · simp
    · intro i h1 h2
      rw [List.getElem_replicate]; exact hn _ _
  unfold suc
  conv => lhs; rw [e]
  rw [List.reverse_replicate]
  have := sucR_zeros [] l.length
  rw [List.append_nil] at this
  rw [this, sucR]
  simp
/-- a span: its first and its last number, as they are written -/
def rs (l : List UInt8) : Option (List UInt8 × List UInt8) :=
  if nat (cut l [45]).1 = false then none
  else if (cut l [45]).2.2 = false then some ((cut l [45]).1, (cut l [45]).1)
  else if nat (cut l [45]).2.1 = false then none
  else if lessB (cut l [45]).1 (cut l [45]).2.1 = false then none
  else some ((cut l [45]).1, (cut l [45]).2.1)
theorem rs_1 {l f r : List UInt8} {b : Bool} (h : cut l [45] = (f, r, b)) (h1 : nat f = false) : rs l = none := by unfold rs; rw [h, if_pos h1]
theorem rs_2 {l f r : List UInt8} {b : Bool} (h : cut l [45] = (f, r, b)) (h1 : nat f = true) (h2 : b = false) : rs l = some (f, f) := by
  unfold rs; rw [h, if_neg (by rw [h1]; simp), if_pos h2]
theorem rs_3 {l f r : List UInt8} {b : Bool} (h : cut l [45] = (f, r, b)) (h1 : nat f = true) (h2 : b = true) (h3 : nat r = false) : rs l = none := by
  unfold rs; rw [h, if_neg (by rw [h1]; simp), if_neg (by rw [h2]; simp), if_pos h3]
theorem rs_4 {l f r : List UInt8} {b : Bool} (h : cut l [45] = (f, r, b)) (h1 : nat f = true) (h2 : b = true) (h3 : nat r = true) (h4 : lessB f r = false) : rs l = none := by
  unfold rs; rw [h, if_neg (by rw [h1]; simp), if_neg (by rw [h2]; simp), if_neg (by rw [h3]; simp), if_pos h4]
theorem rs_5 {l f r : List UInt8} {b : Bool} (h : cut l [45] = (f, r, b)) (h1 : nat f = true) (h2 : b = true) (h3 : nat r = true) (h4 : lessB f r = true) : rs l = some (f, r) := by
  unfold rs; rw [h, if_neg (by rw [h1]; simp), if_neg (by rw [h2]; simp), if_neg (by rw [h3]; simp), if_neg (by rw [h4]; simp)]
/-- the spans of parts; the last number so far, if there is one -/
def spansFrom : Option (List UInt8) → List (List UInt8) → Option (List (List UInt8 × List UInt8))
  | _, [] => some []
  | p, t :: ts => match rs t with
    | none => none
    | some x => if (match p with | none => true | some y => lessB (suc y) x.1) then (spansFrom (some x.2) ts).map (x :: ·) else none
def spans (l : List UInt8) : Option (List (List UInt8 × List UInt8)) := spansFrom none (segs 44 l)
theorem cut_len (l sep : List UInt8) : (cut l sep).1.length ≤ l.length ∧ (cut l sep).2.1.length ≤ l.length := by
  unfold cut
  split
  · simp; omega
  · simp
theorem rs_len {l : List UInt8} {x : List UInt8 × List UInt8} (h : rs l = some x) : x.1.length ≤ l.length ∧ x.2.length ≤ l.length ∧ nat x.1 = true ∧ nat x.2 = true := by
  have hc := cut_len l [45]
  unfold rs at h
  split at h
  · cases h
  split at h
  · cases h
    rename_i h1 _
    exact ⟨hc.1, hc.1, by simpa using h1, by simpa using h1⟩
  split at h
  · cases h
  split at h
  · cases h
  · cases h
    rename_i h1 _ h3 _
    exact ⟨hc.1, hc.2, by simpa using h1, by simpa using h3⟩
end Go.Proofs.YthifbihmogjjpaaDoor.Pl
