/-
  Runs: Count of two parts, plainly.
-/
import Derived.Test.YtjnbdeahmbkbnaaRs
namespace Go.Proofs.Ytjnbdeahmbkbnaa.KK
open Go.ChangeShapes Go.WideShapes Go.ChangeAt Go.RowKit Go.Proofs

theorem live_dead (l : List El.En) : liveN l + deadN l = l.length := by
  induction l with
  | nil => rfl
  | cons x t ih =>
    unfold liveN deadN at ih ⊢
    simp only [List.countP_cons, List.length_cons]
    cases x.2.2.1 <;> simp <;> omega
theorem sub_len {xs : List El.En} {a b : Nat} (h : b ≤ xs.length) : (subR xs a b).length = b - a := by
  unfold subR; rw [List.length_take, List.length_drop]; omega
theorem sub_app (xs : List El.En) {a p b : Nat} (h : a ≤ p) (g : p ≤ b) : subR xs a b = subR xs a p ++ subR xs p b := by
  unfold subR
  rw [show b - a = (p - a) + (b - p) by omega, List.take_add, List.drop_drop, show a + (p - a) = p by omega]
theorem sub_head {xs : List El.En} {k b : Nat} (h : k < b) (g : b ≤ xs.length) : subR xs k b = xs[k]'(by omega) :: subR xs (k + 1) b := by
  unfold subR
  rw [List.drop_eq_getElem_cons (show k < xs.length by omega), show b - k = (b - (k + 1)) + 1 by omega, List.take_succ_cons]
theorem dead_head {xs : List El.En} {k b : Nat} (h : k < b) (g : b ≤ xs.length) : deadN (subR xs k b) = deadN (subR xs (k + 1) b) + (if (xs[k]'(by omega)).2.2.1 = true then 1 else 0) := by
  rw [sub_head h g]; unfold deadN; rw [List.countP_cons]
theorem sub_self (xs : List El.En) (a : Nat) : subR xs a a = [] := by unfold subR; simp
/-- the dead ones that are still to come -/
def remD (xs : List El.En) (f t k : Nat) : Nat := deadN (subR xs (max f (min k t)) t)
theorem remD_zero {xs : List El.En} {f t : Nat} (h : f ≤ t) : remD xs f t 0 = deadN (subR xs f t) := by unfold remD; rw [show max f (min 0 t) = f by omega]
theorem remD_end {xs : List El.En} {f t k : Nat} (h : f ≤ t) (g : t ≤ k) : remD xs f t k = 0 := by unfold remD; rw [show max f (min k t) = t by omega, sub_self]; rfl
theorem remD_out {xs : List El.En} {f t k : Nat} (h : f ≤ t) (g : ¬ (f ≤ k ∧ k < t)) : remD xs f t (k + 1) = remD xs f t k := by unfold remD; rw [show max f (min (k + 1) t) = max f (min k t) by omega]
theorem remD_in {xs : List El.En} {f t k : Nat} (ht : t ≤ xs.length) (h1 : f ≤ k) (h2 : k < t) : remD xs f t k = remD xs f t (k + 1) + (if (xs[k]'(by omega)).2.2.1 = true then 1 else 0) := by
  unfold remD
  rw [show max f (min k t) = k by omega, show max f (min (k + 1) t) = k + 1 by omega, dead_head h2 ht]
theorem remD_le (xs : List El.En) {f t k : Nat} (ht : t ≤ xs.length) : remD xs f t k ≤ t := by
  unfold remD deadN
  refine Nat.le_trans List.countP_le_length ?_
  rw [sub_len ht]; omega
theorem in_iff {xs : List El.En} (hs : SK xs) (key : ByteArray) {i : Nat} (hi : i < xs.length) : ltK xs[i].1 key = decide (i < inN xs key) := by
  obtain ⟨a, b⟩ := bef_is hs key false
  rw [befN_less] at a b
  by_cases h : i < inN xs key
  · rw [decide_eq_true h]
    have := a i hi h
    unfold lowB at this; simpa using this
  · rw [decide_eq_false h]
    have := b i hi (by omega)
    unfold lowB at this; simpa using this
theorem has_at {xs : List El.En} (hs : SK xs) (lo hi : ByteArray) (b : Bool) {i : Nat} (h : i < xs.length) : hasB lo hi b xs[i].1 = decide (inN xs lo ≤ i ∧ i < toN xs lo hi b) := by
  have h1 := in_iff hs lo h
  have h2 := in_iff hs hi h
  unfold ltK at h1 h2
  unfold hasB toN
  rw [h1, h2]
  cases b with
  | false =>
    simp only [Bool.not_false, Bool.true_or, Bool.and_true, if_neg (show ¬ false = true by simp)]
    rw [Bool.eq_iff_iff]; simp; omega
  | true =>
    rw [if_pos rfl]
    rw [Bool.eq_iff_iff]; simp; omega
theorem in_mono (xs : List El.En) {a b : ByteArray} (h : ltK b a = false) : inN xs a ≤ inN xs b := countP_mono' (fun x hx => ltK_le hx h) xs
structure Split (id : Int) (xs : List El.En) (lo hi : ByteArray) (b : Bool) (key : ByteArray) (p : Nat) : Prop where
  le1 : inN xs lo ≤ p
  le2 : p ≤ toN xs lo hi b
  c1 : countR id xs lo key true = (((liveN (subR xs (inN xs lo) p) : Nat) : Int), ((deadN (subR xs (inN xs lo) p) : Nat) : Int), 0)
  c2 : countR id xs key hi b = (((liveN (subR xs p (toN xs lo hi b)) : Nat) : Int), ((deadN (subR xs p (toN xs lo hi b)) : Nat) : Int), 0)
theorem split_of {id : Int} {xs : List El.En} {lo hi : ByteArray} {b : Bool} {key : ByteArray} (hr : (runE id xs).2 = 0) (hc : chkR lo hi b = 0) (hk : key.size ≤ 32) (hh : hasB lo hi b key = true) : Split id xs lo hi b key (inN xs key) := by
  obtain ⟨s1, s2⟩ := chkR_sizes hc
  have hb2 : b = false → hi.size = 0 := fun e => by
    unfold chkR at hc
    rw [if_neg (fun g => g ⟨s1, s2⟩)] at hc
    by_cases g : hi.size = 0
    · exact g
    · rw [if_pos ⟨e, g⟩] at hc; cases hc
  have c1 : chkR lo key true = 0 := by unfold chkR; rw [if_neg (fun g => g ⟨s1, hk⟩), if_neg (fun g => by cases g.1)]
  have c2 : chkR key hi b = 0 := by unfold chkR; rw [if_neg (fun g => g ⟨hk, s2⟩), if_neg (fun g => g.2 (hb2 g.1))]
  have hlo : ltK key lo = false := by
    unfold hasB at hh
    cases g : ltK key lo with
    | false => rfl
    | true => unfold ltK at g; rw [g] at hh; simp at hh
  have e1 := in_mono xs hlo
  have e3 := toN_le xs lo hi b
  have e4 := inN_le xs key
  have e5 : toN xs lo hi b = toN xs key hi b ∧ inN xs key ≤ toN xs lo hi b := by
    unfold toN
    cases b with
    | false => exact ⟨rfl, by simpa using e4⟩
    | true =>
      have hhi : ltK hi key = false := by
        unfold hasB at hh
        simp at hh
        exact ltK_asymm hh.2
      have := in_mono xs hhi
      rw [if_pos rfl, if_pos rfl]
      omega
  have e6 : toN xs lo key true = inN xs key := by unfold toN; rw [if_pos rfl]; omega
  refine ⟨e1, e5.2, ?_, ?_⟩
  · rw [countR_ok (by rw [partR_ok hr c1]), e6]
  · rw [countR_ok (by rw [partR_ok hr c2]), ← e5.1]
theorem split_sums {id : Int} {xs : List El.En} {lo hi : ByteArray} {b : Bool} {key : ByteArray} {p : Nat} (S : Split id xs lo hi b key p) :
    liveN (subR xs (inN xs lo) p) + liveN (subR xs p (toN xs lo hi b)) = liveN (subR xs (inN xs lo) (toN xs lo hi b)) ∧ deadN (subR xs (inN xs lo) p) + deadN (subR xs p (toN xs lo hi b)) = deadN (subR xs (inN xs lo) (toN xs lo hi b)) := by
  rw [sub_app xs S.le1 S.le2]
  unfold liveN deadN
  rw [List.countP_append, List.countP_append]; exact ⟨rfl, rfl⟩
end Go.Proofs.Ytjnbdeahmbkbnaa.KK
