/-
  Arguments that are slices of entries: opened, and read again.
-/
import Derived.Test.YtebjhjmlpodkgaaOp
import Derived.Test.YtebjhjmlpodkgaaQb
namespace Go.Proofs.Ytebjhjmlpodkgaa.KK
open Go.ChangeShapes Go.ChangeMaps Go.WideShapes Go.ChangeAt Go.RowKit Go.Proofs Go.Lib Go.Joins Go.Deep

theorem ycEnt : Try.prog.cellsOf 45 = 4 := by kernel_rfl
theorem ycStr : Try.prog.cellsOf 9 = 1 := by kernel_rfl
theorem ycBool : Try.prog.cellsOf 4 = 1 := by kernel_rfl
theorem ycI64 : Try.prog.cellsOf 2 = 1 := by kernel_rfl
def cells4 (x : El.En) : List Value := [.string x.1, .string x.2.1, .bool x.2.2.1, .int .i64 x.2.2.2]
def FitX (x : El.En) : Prop := x.1.size ≤ maxLen ∧ x.2.1.size ≤ maxLen
set_option maxRecDepth 100000 in
theorem entry_elem {H : Type} {enc : TypeId × Value → H} {W : World} {b n : Nat} {sp : Nat → Bool} {hd : Bool} {cs : List Value} {z : DataW H × List MemPlace} (h : DataW.trod enc Try.prog W b sp hd n 45 cs = some z) :
    ∃ x : El.En, cs = cells4 x ∧ FitX x ∧ Op.Same enc Try.prog 45 cs z := by
  obtain ⟨y0, y1, y2, y3, m, rfl, hl, h0, h1, h2, h3⟩ := trod_struct4 Try.underlying45 h
  have hl' := hl
  rw [ycEnt] at hl
  match cs, hl with
  | [c0, c1, c2, c3], _ =>
    simp only [ycStr, ycBool, ycI64, List.drop_zero, List.drop_succ_cons, List.take_succ_cons, List.take_zero] at h0 h1 h2 h3
    obtain ⟨k, e0, x0, hk⟩ := DataW.trod_string Try.underlying9 h0
    obtain ⟨x, e1, x1, hx⟩ := DataW.trod_string Try.underlying9 h1
    obtain ⟨dd, e2, x2⟩ := DataW.trod_bool Try.underlying4 h2
    obtain ⟨q, e3, x3, hq⟩ := DataW.trod_int Try.underlying2 h3
    simp only [List.cons.injEq, and_true] at e0 e1 e2 e3
    subst e0 e1 e2 e3 x0 x1 x2 x3
    refine ⟨(k, x, dd, q), rfl, ⟨hk, hx⟩, Op.struct4_same Try.underlying45 hl' ?_ ?_ ?_ ?_⟩
    · simp only [ycStr, List.drop_zero, List.take_succ_cons, List.take_zero]; exact Op.str_same Try.underlying9 hk
    · simp only [ycStr, List.drop_succ_cons, List.drop_zero, List.take_succ_cons, List.take_zero]; exact Op.str_same Try.underlying9 hx
    · simp only [ycBool, List.drop_succ_cons, List.drop_zero, List.take_succ_cons, List.take_zero]; exact Op.bool_same Try.underlying4
    · simp only [ycI64, List.drop_succ_cons, List.drop_zero, List.take_succ_cons, List.take_zero]; exact Op.int_same Try.underlying2 hq
theorem esAt_of {W : World} {A : Option Addr} {xs : List El.En} (h : Op.At 4 cells4 W A xs) : EsAt W A xs := by
  rcases h with h | ⟨b, off, hA, hb, hc⟩
  · exact .inl h
  · exact .inr ⟨b, off, hA, hb, fun i hi => ⟨hc i hi 0 (by omega), hc i hi 1 (by omega), hc i hi 2 (by omega), hc i hi 3 (by omega)⟩⟩
theorem sized_fit {xs : List El.En} (h : ∀ x ∈ xs, FitX x) : Sized xs := fun x hx => by have := h x hx; unfold FitX maxLen at this; omega
theorem es_open {H : Type} {enc : TypeId × Value → H} {W : World} {v0 : Value} {d0 : DataW H} {p0 : List MemPlace} (h0 : DataW.Trod enc Try.prog W 0 (fun _ => true) true 34 v0 d0 p0) (hv : ∃ A l c, v0 = .slice A l c) :
    ∃ A c xs, v0 = .slice A xs.length c ∧ EsAt W A xs ∧ xs.length ≤ maxLen ∧ Sized xs ∧ xs.length ≤ c ∧ (A = none → c = 0) ∧
      ∀ (W' : World) (sp : Nat → Bool), Below W.heap.size W W' → (∀ x ∈ p0, sp x.block = true) → DataW.Trod enc Try.prog W' 0 sp true 34 v0 d0 p0 := by
  obtain ⟨A, c, xs, h1, h2, h3, h4, h5, h6, h7⟩ := Op.open_list Try.underlying34 4 (by omega) ycEnt cells4 (fun _ => rfl) FitX (fun h => entry_elem h) h0 hv
  exact ⟨A, c, xs, h1, esAt_of h2, h3, sized_fit h4, h5, h6, h7⟩
end Go.Proofs.Ytebjhjmlpodkgaa.KK
