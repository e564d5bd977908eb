/-
  Runs: what is around a key, plainly.
-/
import Derived.Test.YtjnbdeahmbkbnaaRn
namespace Go.Proofs.Ytjnbdeahmbkbnaa.KK
open Go.ChangeShapes Go.WideShapes Go.ChangeAt Go.RowKit Go.Proofs

theorem chk_ne4 (x : El.En) : El.chk x ≠ 4 := by
  unfold El.chk
  repeat' split
  all_goals decide
theorem wrong_ne4 (p : Option El.En) (x : El.En) : wrong p x ≠ 4 := by
  unfold wrong
  split
  · cases p with
    | none => simp
    | some y => simp only; split <;> decide
  · exact chk_ne4 x
theorem scan_ne4 : ∀ (xs : List El.En) (i : Nat) (p : Option El.En), (scan i p xs).2 ≠ 4
  | [], _, _ => by simp [scan]
  | x :: t, i, p => by
    rw [scan]
    split
    · exact scan_ne4 t _ _
    · exact wrong_ne4 p x
theorem runE_ne4 (id : Int) (xs : List El.En) : (runE id xs).2 ≠ 4 := by
  unfold runE listE
  split
  · decide
  · split
    · decide
    · exact scan_ne4 xs 0 none
theorem askR_ne4 (id : Int) (xs : List El.En) (key : ByteArray) : askR id xs key ≠ 4 := by
  by_cases h : (runE id xs).2 = 0
  · rw [askR_ok h]
    by_cases g : key.size ≤ 32
    · rw [chk1_ok g]; decide
    · rw [chk1_no g]; decide
  · rw [askR_no h]; exact runE_ne4 id xs
theorem run_ok {id : Int} {xs : List El.En} (h : (runE id xs).2 = 0) : xs.length ≤ 5000 ∧ (∀ x ∈ xs, El.chk x = 0) ∧ SK xs := list_ok (run_list h)
/-- where the key is, or would be -/
theorem around {xs : List El.En} (hs : SK xs) (key : ByteArray) :
    (∃ h : befN xs key false < xs.length, (xs[befN xs key false]'h).1 = key ∧ befN xs key true = befN xs key false + 1) ∨ (befN xs key true = befN xs key false ∧ ∀ x ∈ xs, x.1 ≠ key) := by
  obtain ⟨a1, a2⟩ := bef_is hs key false
  have hle := befN_le xs key false
  by_cases he : ∃ j, ∃ g : j < xs.length, xs[j].1 = key
  · obtain ⟨j, hj, hjk⟩ := he
    have e1 : befN xs key false = j := by
      refine bef_cut (by omega) (fun i hi hr => ?_) fun i hi hr => ?_
      · have := keyAt_lt hs hr hj
        rw [keyAt_eq hj, keyAt_eq hi, hjk] at this
        exact lowB_less this false
      · have := keyAt_le hs hr hi
        rw [keyAt_eq hj, keyAt_eq hi, hjk] at this
        unfold lowB; simpa using this
    have e2 : befN xs key true = j + 1 := by
      refine bef_cut (by omega) (fun i hi hr => ?_) fun i hi hr => ?_
      · have := keyAt_le hs (show i ≤ j by omega) hj
        rw [keyAt_eq hj, keyAt_eq hi, hjk] at this
        unfold lowB; simpa using this
      · have := keyAt_lt hs (show j < i by omega) hi
        rw [keyAt_eq hj, keyAt_eq hi, hjk] at this
        exact lowB_more this true
    refine .inl ⟨by omega, ?_, by omega⟩
    simp only [e1]; exact hjk
  · refine .inr ⟨?_, fun x hx e => ?_⟩
    · refine bef_cut hle (fun i hi hr => ?_) fun i hi hr => ?_
      · have h1 := a1 i hi hr
        unfold lowB at h1 ⊢
        simp at h1 ⊢
        exact ltK_asymm h1
      · have h1 := a2 i hi hr
        unfold lowB at h1 ⊢
        simp at h1 ⊢
        cases g : ltK key xs[i].1 with
        | true => rfl
        | false => exact absurd ⟨i, hi, ltK_total h1 g⟩ he
    · obtain ⟨j, hj, rfl⟩ := List.getElem_of_mem hx
      exact he ⟨j, hj, e⟩
theorem nb_found {id : Int} {xs : List El.En} {key : ByteArray} (ha : askR id xs key = 0) (h : befN xs key false < xs.length) (hk : (xs[befN xs key false]'h).1 = key) (e : befN xs key true = befN xs key false + 1) :
    getR id xs key = (xs[befN xs key false]'h, 0) ∧ floorR id xs key false = (xs[befN xs key false]'h, 0) ∧ ceilR id xs key false = (xs[befN xs key false]'h, 0) := by
  have f : floorR id xs key false = (xs[befN xs key false]'h, 0) := by
    rw [floorR_ok ha (by simp; omega)]
    simp only [Bool.not_false]
    rw [e, show befN xs key false + 1 - 1 = befN xs key false by omega, entR_eq h]
  refine ⟨?_, f, ?_⟩
  · unfold getR; rw [f, if_neg (by simp), if_pos hk]
  · rw [ceilR_ok ha (by omega), entR_eq h]
theorem nb_not {id : Int} {xs : List El.En} {key : ByteArray} (ha : askR id xs key = 0) (e : befN xs key true = befN xs key false) (hk : ∀ x ∈ xs, x.1 ≠ key) :
    getR id xs key = (El.none, 4) ∧ floorR id xs key false = floorR id xs key true ∧ ceilR id xs key false = ceilR id xs key true := by
  refine ⟨?_, ?_, ?_⟩
  · rw [get_same]; unfold getS
    rw [if_neg (by rw [ha]; simp), atE_none hk, if_pos (by decide)]
  · unfold floorR; simp only [Bool.not_false, Bool.not_true]; rw [e]
  · unfold ceilR; rw [e]
theorem low_none {id : Int} {xs : List El.En} {key : ByteArray} {s : Bool} (ha : askR id xs key = 0) (h : befN xs key (!s) = 0) : floorR id xs key s = (El.none, 4) := floorR_none ha h
theorem low_some {id : Int} {xs : List El.En} {key : ByteArray} {s : Bool} {j : Nat} (ha : askR id xs key = 0) (h : befN xs key (!s) = j + 1) : ∃ g : j < xs.length, floorR id xs key s = (xs[j], 0) := by
  have := befN_le xs key (!s)
  refine ⟨by omega, ?_⟩
  rw [floorR_ok ha (by omega), h, show j + 1 - 1 = j by omega, entR_eq (by omega)]
theorem high_some {id : Int} {xs : List El.En} {key : ByteArray} {s : Bool} {q : Nat} (ha : askR id xs key = 0) (h : befN xs key s = q) (g : q < xs.length) : ceilR id xs key s = (xs[q], 0) := by
  rw [ceilR_ok ha (by omega), h, entR_eq g]
end Go.Proofs.Ytjnbdeahmbkbnaa.KK
