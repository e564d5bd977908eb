/-
  Arguments: a run, a range.
-/
import Derived.Test.YtndmmajhhjohhaaOp
import Derived.Test.YtndmmajhhjohhaaQd
import Derived.OpenShut
namespace Go.Proofs.Ytndmmajhhjohhaa.KK
open Go.ChangeShapes Go.ChangeMaps Go.WideShapes Go.ChangeAt Go.RowKit Go.Proofs Go.Lib Go.Joins Go.Deep

theorem ycEnt : Try.prog.cellsOf 34 = 4 := by kernel_rfl
theorem ycStr : Try.prog.cellsOf 9 = 1 := by kernel_rfl
theorem ycBool : Try.prog.cellsOf 4 = 1 := by kernel_rfl
theorem ycI64 : Try.prog.cellsOf 2 = 1 := by kernel_rfl
def cells4 (x : El.En) : List Value := [.string x.1, .string x.2.1, .bool x.2.2.1, .int .i64 x.2.2.2]
def FitX (x : El.En) : Prop := x.1.size ≤ maxLen ∧ x.2.1.size ≤ maxLen
set_option maxRecDepth 100000 in
theorem entry_elem {H : Type} {enc : TypeId × Value → H} {W : World} {b n : Nat} {sp : Nat → Bool} {hd : Bool} {cs : List Value} {z : DataW H × List MemPlace} (h : DataW.trod enc Try.prog W b sp hd n 34 cs = some z) :
    ∃ x : El.En, cs = cells4 x ∧ FitX x ∧ Op.Same enc Try.prog 34 cs z := by
  obtain ⟨y0, y1, y2, y3, m, rfl, hl, h0, h1, h2, h3⟩ := trod_struct4 Try.underlying34 h
  have hl' := hl
  rw [ycEnt] at hl
  match cs, hl with
  | [c0, c1, c2, c3], _ =>
    simp only [ycStr, ycBool, ycI64, List.drop_zero, List.drop_succ_cons, List.take_succ_cons, List.take_zero] at h0 h1 h2 h3
    obtain ⟨k, e0, x0, hk⟩ := DataW.trod_string Try.underlying9 h0
    obtain ⟨x, e1, x1, hx⟩ := DataW.trod_string Try.underlying9 h1
    obtain ⟨dd, e2, x2⟩ := DataW.trod_bool Try.underlying4 h2
    obtain ⟨q, e3, x3, hq⟩ := DataW.trod_int Try.underlying2 h3
    simp only [List.cons.injEq, and_true] at e0 e1 e2 e3
    subst e0 e1 e2 e3 x0 x1 x2 x3
    refine ⟨(k, x, dd, q), rfl, ⟨hk, hx⟩, Op.struct4_same Try.underlying34 hl' ?_ ?_ ?_ ?_⟩
    · simp only [ycStr, List.drop_zero, List.take_succ_cons, List.take_zero]; exact Op.str_same Try.underlying9 hk
    · simp only [ycStr, List.drop_succ_cons, List.drop_zero, List.take_succ_cons, List.take_zero]; exact Op.str_same Try.underlying9 hx
    · simp only [ycBool, List.drop_succ_cons, List.drop_zero, List.take_succ_cons, List.take_zero]; exact Op.bool_same Try.underlying4
    · simp only [ycI64, List.drop_succ_cons, List.drop_zero, List.take_succ_cons, List.take_zero]; exact Op.int_same Try.underlying2 hq
theorem esAt_of {W : World} {A : Option Addr} {xs : List El.En} (h : Op.At 4 cells4 W A xs) : EsAt W A xs := by
  rcases h with h | ⟨b, off, hA, hb, hc⟩
  · exact .inl h
  · exact .inr ⟨b, off, hA, hb, fun i hi => ⟨hc i hi 0 (by omega), hc i hi 1 (by omega), hc i hi 2 (by omega), hc i hi 3 (by omega)⟩⟩
theorem sized_fit {xs : List El.En} (h : ∀ x ∈ xs, FitX x) : Sized xs := fun x hx => by have := h x hx; unfold FitX maxLen at this; omega
set_option maxRecDepth 100000 in
theorem es_open {H : Type} {enc : TypeId × Value → H} {W : World} {v0 : Value} {d0 : DataW H} {p0 : List MemPlace} (h0 : DataW.Trod enc Try.prog W 0 (fun _ => true) true 22 v0 d0 p0) (hv : ∃ A l c, v0 = .slice A l c) :
    ∃ A c xs, v0 = .slice A xs.length c ∧ EsAt W A xs ∧ xs.length ≤ maxLen ∧ Sized xs ∧ xs.length ≤ c ∧ (A = none → c = 0) ∧
      ∀ (W' : World) (sp : Nat → Bool), Below W.heap.size W W' → (∀ x ∈ p0, sp x.block = true) → DataW.Trod enc Try.prog W' 0 sp true 22 v0 d0 p0 := by
  obtain ⟨A, c, xs, h1, h2, h3, h4, h5, h6, h7⟩ := Op.open_list Try.underlying22 4 (by omega) ycEnt cells4 (fun _ => rfl) FitX (fun h => entry_elem h) h0 hv
  exact ⟨A, c, xs, h1, esAt_of h2, h3, sized_fit h4, h5, h6, h7⟩
theorem wf_i64 {n : Int} (h : (Lit.int .i64 n).wf = true) : -9223372036854775808 ≤ n ∧ n ≤ 9223372036854775807 := by
  simpa [Lit.wf, IntKind.min, IntKind.max, IntKind.signed, IntKind.bits] using h
theorem ycInt : Try.prog.cellsOf 3 = 1 := by kernel_rfl
set_option maxRecDepth 100000 in
theorem run_open {H : Type} {enc : TypeId × Value → H} {W : World} {r : Reach} {b0 : Nat} {v0 : Value} {d0 : DataW H} {p0 : List MemPlace} (hv : Value.okWide Try.prog W r b0 24 v0) (h0 : DataW.Trod enc Try.prog W 0 (fun _ => true) true 24 v0 d0 p0) :
    ∃ s A c xs, v0 = .agg #[.int .i64 s, .slice A xs.length c] ∧ (-9223372036854775808 ≤ s ∧ s ≤ 9223372036854775807) ∧ EsAt W A xs ∧ xs.length ≤ maxLen ∧ Sized xs ∧ xs.length ≤ c ∧ (A = none → c = 0) ∧
      ∀ (W' : World) (sp : Nat → Bool), Below W.heap.size W W' → (∀ x ∈ p0, sp x.block = true) → DataW.Trod enc Try.prog W' 0 sp true 24 v0 d0 p0 := by
  obtain ⟨c0, c1, ⟨d00, p00⟩, ⟨d01, p01⟩, m, rfl, rfl, rfl, hy0, hy1⟩ := open_agg2 Try.underlying24 (by kernel_rfl) (by kernel_rfl) hv h0
  obtain ⟨s, e1, hx1, hwf⟩ := DataW.trod_int Try.underlying3 hy0
  simp only [List.cons.injEq, and_true] at e1
  subst e1
  simp only [Prod.mk.injEq] at hx1
  obtain ⟨rfl, rfl⟩ := hx1
  have hsl : ∃ A l c, c1 = .slice A l c := by
    rcases open_slice Try.underlying22 hy1 with ⟨hc, _⟩ | ⟨a, len, cap, _, _, _, _, hc, _⟩
    · simp only [List.cons.injEq, and_true] at hc; exact ⟨_, _, _, hc⟩
    · simp only [List.cons.injEq, and_true] at hc; exact ⟨_, _, _, hc⟩
  obtain ⟨A0, l0, k0, rfl⟩ := hsl
  obtain ⟨A, c, xs, e2, h1, h2, h3, h4, h5, h6⟩ := es_open (v0 := .slice A0 l0 k0) ⟨m, hy1⟩ ⟨_, _, _, rfl⟩
  rw [e2] at h6 ⊢
  refine ⟨s, A, c, xs, rfl, wf_i64 hwf, h1, h2, h3, h4, h5, fun W' sp hb hsp => ?_⟩
  exact shut_agg2 (y0 := (.lit (.int .i64 s), [])) (y1 := (d01, p01)) Try.underlying24 (by kernel_rfl) (by kernel_rfl) ⟨1, trod_int_mk 0 Try.underlying3 hwf⟩ (h6 W' sp hb (fun x hx => hsp x (by simpa using hx)))
set_option maxRecDepth 100000 in
theorem range_open {H : Type} {enc : TypeId × Value → H} {W : World} {r : Reach} {b0 : Nat} {v0 : Value} {d0 : DataW H} {p0 : List MemPlace} (hv : Value.okWide Try.prog W r b0 39 v0) (h0 : DataW.Trod enc Try.prog W 0 (fun _ => true) true 39 v0 d0 p0) :
    ∃ lo hi b, v0 = .agg #[.string lo, .string hi, .bool b] ∧ lo.size ≤ maxLen ∧ hi.size ≤ maxLen ∧ p0 = [] ∧ ∀ (W' : World) (b' : Nat) (sp' : Nat → Bool) (hd' : Bool), DataW.Trod enc Try.prog W' b' sp' hd' 39 v0 d0 p0 := by
  obtain ⟨c00, c01, c02, y00, y01, y02, m0, rfl, rfl, rfl, hy00, hy01, hy02⟩ := open_agg3 Try.underlying39 (by kernel_rfl) (by kernel_rfl) hv h0
  obtain ⟨lo, e00, rfl, hlo⟩ := DataW.trod_string Try.underlying9 hy00
  obtain ⟨hi, e01, rfl, hhi⟩ := DataW.trod_string Try.underlying9 hy01
  obtain ⟨b, e02, rfl⟩ := DataW.trod_bool Try.underlying4 hy02
  simp at e00 e01 e02
  subst e00 e01 e02
  exact ⟨lo, hi, b, rfl, hlo, hhi, rfl, fun W' b' sp' hd' => shut_agg3 (y0 := (.lit (.string lo.data.toList), [])) (y1 := (.lit (.string hi.data.toList), [])) (y2 := (.lit (.bool b), [])) Try.underlying39 (by kernel_rfl) (by kernel_rfl) (shut_string Try.underlying9 hlo) (shut_string Try.underlying9 hhi) (shut_bool Try.underlying4 b)⟩
end Go.Proofs.Ytndmmajhhjohhaa.KK
