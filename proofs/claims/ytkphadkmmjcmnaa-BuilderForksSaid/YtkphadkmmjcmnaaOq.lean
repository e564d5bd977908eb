/-
  Arguments that are slices of entries, a call, slices of calls: opened, and read again.
-/
import Derived.Test.YtkphadkmmjcmnaaOp
import Derived.Test.YtkphadkmmjcmnaaBa
namespace Go.Proofs.Ytkphadkmmjcmnaa.KK
open Go.ChangeShapes Go.ChangeMaps Go.WideShapes Go.ChangeAt Go.RowKit Go.Proofs Go.Lib Go.Joins Go.Deep

theorem ycEnt : Try.prog.cellsOf 36 = 4 := by kernel_rfl
theorem ycStr : Try.prog.cellsOf 9 = 1 := by kernel_rfl
theorem ycBool : Try.prog.cellsOf 4 = 1 := by kernel_rfl
theorem ycI64 : Try.prog.cellsOf 2 = 1 := by kernel_rfl
def cells4 (x : El.En) : List Value := [.string x.1, .string x.2.1, .bool x.2.2.1, .int .i64 x.2.2.2]
def FitX (x : El.En) : Prop := x.1.size ≤ maxLen ∧ x.2.1.size ≤ maxLen
set_option maxRecDepth 100000 in
theorem entry_elem {H : Type} {enc : TypeId × Value → H} {W : World} {b n : Nat} {sp : Nat → Bool} {hd : Bool} {cs : List Value} {z : DataW H × List MemPlace} (h : DataW.trod enc Try.prog W b sp hd n 36 cs = some z) :
    ∃ x : El.En, cs = cells4 x ∧ FitX x ∧ Op.Same enc Try.prog 36 cs z := by
  obtain ⟨y0, y1, y2, y3, m, rfl, hl, h0, h1, h2, h3⟩ := trod_struct4 Try.underlying36 h
  have hl' := hl
  rw [ycEnt] at hl
  match cs, hl with
  | [c0, c1, c2, c3], _ =>
    simp only [ycStr, ycBool, ycI64, List.drop_zero, List.drop_succ_cons, List.take_succ_cons, List.take_zero] at h0 h1 h2 h3
    obtain ⟨k, e0, x0, hk⟩ := DataW.trod_string Try.underlying9 h0
    obtain ⟨x, e1, x1, hx⟩ := DataW.trod_string Try.underlying9 h1
    obtain ⟨dd, e2, x2⟩ := DataW.trod_bool Try.underlying4 h2
    obtain ⟨q, e3, x3, hq⟩ := DataW.trod_int Try.underlying2 h3
    simp only [List.cons.injEq, and_true] at e0 e1 e2 e3
    subst e0 e1 e2 e3 x0 x1 x2 x3
    refine ⟨(k, x, dd, q), rfl, ⟨hk, hx⟩, Op.struct4_same Try.underlying36 hl' ?_ ?_ ?_ ?_⟩
    · simp only [ycStr, List.drop_zero, List.take_succ_cons, List.take_zero]; exact Op.str_same Try.underlying9 hk
    · simp only [ycStr, List.drop_succ_cons, List.drop_zero, List.take_succ_cons, List.take_zero]; exact Op.str_same Try.underlying9 hx
    · simp only [ycBool, List.drop_succ_cons, List.drop_zero, List.take_succ_cons, List.take_zero]; exact Op.bool_same Try.underlying4
    · simp only [ycI64, List.drop_succ_cons, List.drop_zero, List.take_succ_cons, List.take_zero]; exact Op.int_same Try.underlying2 hq
theorem esAt_of {W : World} {A : Option Addr} {xs : List El.En} (h : Op.At 4 cells4 W A xs) : EsAt W A xs := by
  rcases h with h | ⟨b, off, hA, hb, hc⟩
  · exact .inl h
  · exact .inr ⟨b, off, hA, hb, fun i hi => ⟨hc i hi 0 (by omega), hc i hi 1 (by omega), hc i hi 2 (by omega), hc i hi 3 (by omega)⟩⟩
theorem sized_fit {xs : List El.En} (h : ∀ x ∈ xs, FitX x) : Sized xs := fun x hx => by have := h x hx; unfold FitX maxLen at this; omega
theorem es_open {H : Type} {enc : TypeId × Value → H} {W : World} {v0 : Value} {d0 : DataW H} {p0 : List MemPlace} (h0 : DataW.Trod enc Try.prog W 0 (fun _ => true) true 41 v0 d0 p0) (hv : ∃ A l c, v0 = .slice A l c) :
    ∃ A c xs, v0 = .slice A xs.length c ∧ EsAt W A xs ∧ xs.length ≤ maxLen ∧ Sized xs ∧ xs.length ≤ c ∧ (A = none → c = 0) ∧
      ∀ (W' : World) (sp : Nat → Bool), Below W.heap.size W W' → (∀ x ∈ p0, sp x.block = true) → DataW.Trod enc Try.prog W' 0 sp true 41 v0 d0 p0 := by
  obtain ⟨A, c, xs, h1, h2, h3, h4, h5, h6, h7⟩ := Op.open_list Try.underlying41 4 (by omega) ycEnt cells4 (fun _ => rfl) FitX (fun h => entry_elem h) h0 hv
  exact ⟨A, c, xs, h1, esAt_of h2, h3, sized_fit h4, h5, h6, h7⟩
/-- a call of the law: what, the entry, the id -/
abbrev Cl := Int × El.En × Int
instance : Inhabited Cl := ⟨(0, El.none, 0)⟩
def cells6 (x : Cl) : List Value := [.int .u8 x.1, .string x.2.1.1, .string x.2.1.2.1, .bool x.2.1.2.2.1, .int .i64 x.2.1.2.2.2, .int .i64 x.2.2]
def FitC (x : Cl) : Prop := FitX x.2.1 ∧ (0 ≤ x.1 ∧ x.1 ≤ 255) ∧ -9223372036854775808 ≤ x.2.2 ∧ x.2.2 ≤ 9223372036854775807
theorem ycCall : Try.prog.cellsOf 38 = 6 := by kernel_rfl
theorem ycU8 : Try.prog.cellsOf 5 = 1 := by kernel_rfl
theorem ycInt : Try.prog.cellsOf 3 = 1 := by kernel_rfl
theorem wf_i64 {n : Int} (h : (Lit.int .i64 n).wf = true) : -9223372036854775808 ≤ n ∧ n ≤ 9223372036854775807 := by
  simpa [Lit.wf, IntKind.min, IntKind.max, IntKind.signed, IntKind.bits] using h
theorem wf_u8 {n : Int} (h : (Lit.int .u8 n).wf = true) : 0 ≤ n ∧ n ≤ 255 := by
  simpa [Lit.wf, IntKind.min, IntKind.max, IntKind.signed, IntKind.bits] using h
set_option maxRecDepth 100000 in
theorem call_elem {H : Type} {enc : TypeId × Value → H} {W : World} {b n : Nat} {sp : Nat → Bool} {hd : Bool} {cs : List Value} {z : DataW H × List MemPlace} (h : DataW.trod enc Try.prog W b sp hd n 38 cs = some z) :
    ∃ x : Cl, cs = cells6 x ∧ FitC x ∧ Op.Same enc Try.prog 38 cs z := by
  obtain ⟨y0, y1, y2, m, rfl, hl, h0, h1, h2⟩ := trod_struct3 Try.underlying38 h
  have hl' := hl
  rw [ycCall] at hl
  match cs, hl with
  | [c0, c1, c2, c3, c4, c5], _ =>
    simp only [ycU8, ycEnt, ycInt, List.drop_zero, List.drop_succ_cons, List.take_succ_cons, List.take_zero] at h0 h1 h2
    obtain ⟨wh, e0, x0, hw⟩ := DataW.trod_int Try.underlying5 h0
    obtain ⟨x, ex, hx, hsame⟩ := entry_elem h1
    obtain ⟨id, e2, x2, hid⟩ := DataW.trod_int Try.underlying3 h2
    unfold cells4 at ex
    simp only [List.cons.injEq, and_true] at e0 ex e2
    obtain ⟨rfl, rfl, rfl, rfl⟩ := ex
    subst e0 e2 x0 x2
    refine ⟨(wh, x, id), rfl, ⟨hx, wf_u8 hw, wf_i64 hid⟩, Op.struct3_same Try.underlying38 hl' ?_ ?_ ?_⟩
    · simp only [ycU8, List.drop_zero, List.take_succ_cons, List.take_zero]; exact Op.int_same Try.underlying5 hw
    · simp only [ycEnt, List.drop_succ_cons, List.drop_zero, List.take_succ_cons, List.take_zero]; exact hsame
    · simp only [ycInt, List.drop_succ_cons, List.drop_zero, List.take_succ_cons, List.take_zero]; exact Op.int_same Try.underlying3 hid
theorem array6 {α : Type} {cs : Array α} (h : cs.size = 6) : ∃ c0 c1 c2 c3 c4 c5, cs = #[c0, c1, c2, c3, c4, c5] := by
  obtain ⟨l⟩ := cs
  match l, h with
  | [c0, c1, c2, c3, c4, c5], _ => exact ⟨c0, c1, c2, c3, c4, c5, rfl⟩
set_option maxRecDepth 100000 in
theorem call_open {H : Type} {enc : TypeId × Value → H} {W : World} {r : Reach} {b0 : Nat} {v0 : Value} {d0 : DataW H} {p0 : List MemPlace} (hv : Value.okWide Try.prog W r b0 38 v0) (h0 : DataW.Trod enc Try.prog W 0 (fun _ => true) true 38 v0 d0 p0) :
    ∃ x : Cl, v0 = .agg (cells6 x).toArray ∧ FitC x ∧ ∀ (W' : World) (b' : Nat) (sp' : Nat → Bool) (hd' : Bool), DataW.Trod enc Try.prog W' b' sp' hd' 38 v0 d0 p0 := by
  obtain ⟨cs, rfl, hsz⟩ := okWide_struct Try.underlying38 hv
  obtain ⟨c0, c1, c2, c3, c4, c5, rfl⟩ := array6 (hsz.trans ycCall)
  obtain ⟨fuel, hf⟩ := h0
  obtain ⟨x, hx, hfit, hsame⟩ := call_elem hf
  have hx' : [c0, c1, c2, c3, c4, c5] = cells6 x := by simpa [Value.cells] using hx
  refine ⟨x, by rw [← hx'], hfit, fun W' b' sp' hd' => ?_⟩
  obtain ⟨n, hn⟩ := hsame W' b' sp' hd'
  exact ⟨n, hn⟩
theorem calls_open {H : Type} {enc : TypeId × Value → H} {W : World} {v0 : Value} {d0 : DataW H} {p0 : List MemPlace} (h0 : DataW.Trod enc Try.prog W 0 (fun _ => true) true 22 v0 d0 p0) (hv : ∃ A l c, v0 = .slice A l c) :
    ∃ A c xs, v0 = .slice A xs.length c ∧ Op.At 6 cells6 W A xs ∧ xs.length ≤ maxLen ∧ (∀ x ∈ xs, FitC x) ∧ xs.length ≤ c ∧ (A = none → c = 0) ∧
      ∀ (W' : World) (sp : Nat → Bool), Below W.heap.size W W' → (∀ x ∈ p0, sp x.block = true) → DataW.Trod enc Try.prog W' 0 sp true 22 v0 d0 p0 :=
  Op.open_list Try.underlying22 6 (by omega) ycCall cells6 (fun _ => rfl) FitC (fun h => call_elem h) h0 hv
end Go.Proofs.Ytkphadkmmjcmnaa.KK
