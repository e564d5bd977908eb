/-
  Differences the other way; a slice of differences as an argument.
-/
import Derived.Test.YtbgpcmpbfenplaaWb
import Derived.Test.YtbgpcmpbfenplaaOr
namespace Go.Proofs.Ytbgpcmpbfenplaa.KK
open Go.ChangeShapes Go.ChangeMaps Go.WideShapes Go.ChangeAt Go.RowKit Go.Proofs Go.Lib Go.Joins Go.Deep

theorem dq_nn : diffP [] [] = [] := by unfold diffP; rfl
theorem dq_cn (x : Pr) (xs : List Pr) : diffP (x :: xs) [] = (2, x.1, x.2, ⟨#[]⟩) :: diffP xs [] := by rw [diffP]
theorem dq_nc (y : Pr) (ys : List Pr) : diffP [] (y :: ys) = (1, y.1, ⟨#[]⟩, y.2) :: diffP [] ys := by rw [diffP]
theorem dq_lt {x y : Pr} {xs ys : List Pr} (h : Kl.lt (Kl.L x.1) (Kl.L y.1) = true) : diffP (x :: xs) (y :: ys) = (2, x.1, x.2, ⟨#[]⟩) :: diffP xs (y :: ys) := by rw [diffP, if_pos h]
theorem dq_gt {x y : Pr} {xs ys : List Pr} (h : Kl.lt (Kl.L x.1) (Kl.L y.1) = false) (g : Kl.lt (Kl.L y.1) (Kl.L x.1) = true) : diffP (x :: xs) (y :: ys) = (1, y.1, ⟨#[]⟩, y.2) :: diffP (x :: xs) ys := by rw [diffP, if_neg (by rw [h]; simp), if_pos g]
theorem dq_eq {x y : Pr} {xs ys : List Pr} (h : Kl.lt (Kl.L x.1) (Kl.L y.1) = false) (g : Kl.lt (Kl.L y.1) (Kl.L x.1) = false) : diffP (x :: xs) (y :: ys) = (if x.2 = y.2 then [] else [(3, x.1, x.2, y.2)]) ++ diffP xs ys := by rw [diffP, if_neg (by rw [h]; simp), if_neg (by rw [g]; simp)]
theorem kl_same {a b : ByteArray} (h : Kl.lt (Kl.L a) (Kl.L b) = false) (g : Kl.lt (Kl.L b) (Kl.L a) = false) : a = b := by
  have e := Kl.lt_total h g
  exact Classical.byContradiction fun n => str_ne n (by rw [toList_L, toList_L]; exact e)
theorem diffP_turn : ∀ (xs ys : List Pr), diffP ys xs = turnL (diffP xs ys)
  | [], [] => by rw [dq_nn]; rfl
  | x :: xs, [] => by rw [dq_nc, dq_cn, diffP_turn xs []]; rfl
  | [], y :: ys => by rw [dq_cn, dq_nc, diffP_turn [] ys]; rfl
  | x :: xs, y :: ys => by
    cases h : Kl.lt (Kl.L x.1) (Kl.L y.1) with
    | true => rw [dq_lt h, dq_gt (Kl.lt_asymm h) h, diffP_turn xs (y :: ys)]; rfl
    | false =>
      cases g : Kl.lt (Kl.L y.1) (Kl.L x.1) with
      | true => rw [dq_gt h g, dq_lt g, diffP_turn (x :: xs) ys]; rfl
      | false =>
        have hk : x.1 = y.1 := kl_same h g
        rw [dq_eq h g, dq_eq g h, diffP_turn xs ys]
        by_cases hv : x.2 = y.2
        · rw [if_pos hv, if_pos hv.symm]; rfl
        · rw [if_neg hv, if_neg (fun e => hv e.symm), hk]; rfl
termination_by xs ys => xs.length + ys.length
theorem diffE_zero {xs ys : List Pr} : diffE xs ys = 0 ↔ (mapE xs).2 = 0 ∧ (mapE ys).2 = 0 := by
  unfold diffE
  by_cases h : (mapE xs).2 = 0
  · rw [if_neg (by rw [h]; simp)]; exact ⟨fun g => ⟨h, g⟩, fun g => g.2⟩
  · rw [if_pos h]; exact ⟨fun g => absurd g h, fun g => absurd g.1 h⟩
theorem diffE_turn (xs ys : List Pr) : diffE xs ys = 0 ↔ diffE ys xs = 0 := by rw [diffE_zero, diffE_zero]; exact ⟨fun h => ⟨h.2, h.1⟩, fun h => ⟨h.2, h.1⟩⟩
theorem diffM_turn (xs ys : List Pr) : diffM ys xs = turnL (diffM xs ys) := by
  unfold diffM
  by_cases h : diffE xs ys = 0
  · rw [if_pos h, if_pos ((diffE_turn xs ys).1 h)]; exact diffP_turn xs ys
  · rw [if_neg h, if_neg (fun g => h ((diffE_turn xs ys).2 g))]; rfl
theorem diffM_len (xs ys : List Pr) : (diffM xs ys).length ≤ xs.length + ys.length := by
  unfold diffM
  by_cases h : diffE xs ys = 0
  · rw [if_pos h]; exact diffP_len xs ys
  · rw [if_neg h]; simp
theorem ycItem : Try.prog.cellsOf 74 = 4 := by kernel_rfl
def FitI (x : It) : Prop := True
set_option maxRecDepth 100000 in
theorem item_elem {H : Type} {enc : TypeId × Value → H} {W : World} {b n : Nat} {sp : Nat → Bool} {hd : Bool} {cs : List Value} {z : DataW H × List MemPlace} (h : DataW.trod enc Try.prog W b sp hd n 74 cs = some z) :
    ∃ x : It, cs = itC x ∧ FitI x ∧ Op.Same enc Try.prog 74 cs z := by
  obtain ⟨y0, y1, y2, y3, m, rfl, hl, h0, h1, h2, h3⟩ := trod_struct4 Try.underlying74 h
  have hl' := hl
  rw [ycItem] at hl
  match cs, hl with
  | [c0, c1, c2, c3], _ =>
    simp only [ycStr, ycInt, List.drop_zero, List.drop_succ_cons, List.take_succ_cons, List.take_zero] at h0 h1 h2 h3
    obtain ⟨q, e0, x0, hq⟩ := DataW.trod_int Try.underlying3 h0
    obtain ⟨k, e1, x1, hk⟩ := DataW.trod_string Try.underlying9 h1
    obtain ⟨x, e2, x2, hx⟩ := DataW.trod_string Try.underlying9 h2
    obtain ⟨y, e3, x3, hy⟩ := DataW.trod_string Try.underlying9 h3
    simp only [List.cons.injEq, and_true] at e0 e1 e2 e3
    subst e0 e1 e2 e3 x0 x1 x2 x3
    refine ⟨(q, k, x, y), rfl, trivial, Op.struct4_same Try.underlying74 hl' ?_ ?_ ?_ ?_⟩
    · simp only [ycInt, List.drop_zero, List.take_succ_cons, List.take_zero]; exact Op.int_same Try.underlying3 hq
    · simp only [ycStr, List.drop_succ_cons, List.drop_zero, List.take_succ_cons, List.take_zero]; exact Op.str_same Try.underlying9 hk
    · simp only [ycStr, List.drop_succ_cons, List.drop_zero, List.take_succ_cons, List.take_zero]; exact Op.str_same Try.underlying9 hx
    · simp only [ycStr, List.drop_succ_cons, List.drop_zero, List.take_succ_cons, List.take_zero]; exact Op.str_same Try.underlying9 hy
theorem itAt_of {W : World} {A : Option Addr} {xs : List It} (h : Op.At 4 itC W A xs) : ItAt W A xs := by
  rcases h with h | ⟨b, off, hA, hb, hc⟩
  · exact .inl h
  · exact .inr ⟨b, off, hA, hb, fun i hi => ⟨hc i hi 0 (by omega), hc i hi 1 (by omega), hc i hi 2 (by omega), hc i hi 3 (by omega)⟩⟩
theorem its_open {H : Type} {enc : TypeId × Value → H} {W : World} {v0 : Value} {d0 : DataW H} {p0 : List MemPlace} (h0 : DataW.Trod enc Try.prog W 0 (fun _ => true) true 38 v0 d0 p0) (hv : ∃ A l c, v0 = .slice A l c) :
    ∃ A c xs, v0 = .slice A xs.length c ∧ ItAt W A xs ∧ xs.length ≤ maxLen ∧ xs.length ≤ c ∧ (A = none → c = 0) ∧
      ∀ (W' : World) (sp : Nat → Bool), Below W.heap.size W W' → (∀ x ∈ p0, sp x.block = true) → DataW.Trod enc Try.prog W' 0 sp true 38 v0 d0 p0 := by
  obtain ⟨A, c, xs, h1, h2, h3, _, h5, h6, h7⟩ := Op.open_list Try.underlying38 4 (by omega) ycItem itC (fun _ => rfl) FitI (fun h => item_elem h) h0 hv
  exact ⟨A, c, xs, h1, itAt_of h2, h3, h5, h6, h7⟩
end Go.Proofs.Ytbgpcmpbfenplaa.KK
