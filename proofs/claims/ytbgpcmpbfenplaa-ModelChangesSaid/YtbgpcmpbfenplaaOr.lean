/-
  Arguments of the model's laws: a handle, a range, slices of pairs and of writes: opened, and read again.
-/
import Derived.Test.YtbgpcmpbfenplaaOp
import Derived.Test.YtbgpcmpbfenplaaVj
namespace Go.Proofs.Ytbgpcmpbfenplaa.KK
open Go.ChangeShapes Go.ChangeMaps Go.WideShapes Go.ChangeAt Go.RowKit Go.Proofs Go.Lib Go.Joins Go.Deep

theorem ycStr : Try.prog.cellsOf 9 = 1 := by kernel_rfl
theorem ycBool : Try.prog.cellsOf 4 = 1 := by kernel_rfl
theorem ycInt : Try.prog.cellsOf 3 = 1 := by kernel_rfl
theorem ycPair : Try.prog.cellsOf 31 = 2 := by kernel_rfl
theorem ycWrite : Try.prog.cellsOf 76 = 3 := by kernel_rfl
theorem ycHandle : Try.prog.cellsOf 52 = 2 := by kernel_rfl
theorem ycRange : Try.prog.cellsOf 24 = 3 := by kernel_rfl
theorem wf_i64 {n : Int} (h : (Lit.int .i64 n).wf = true) : -9223372036854775808 ≤ n ∧ n ≤ 9223372036854775807 := by
  simpa [Lit.wf, IntKind.min, IntKind.max, IntKind.signed, IntKind.bits] using h
theorem struct2_same {P : Program} {H : Type} {enc : TypeId × Value → H} {t : TypeId} {f0 f1 : Field} {cs : List Value} {y0 y1 : DataW H × List MemPlace} (ht : P.underlying t = some (.struct #[f0, f1])) (hl : cs.length = P.cellsOf t)
    (h0 : Op.Same enc P f0.type ((cs.drop f0.offset).take (P.cellsOf f0.type)) y0) (h1 : Op.Same enc P f1.type ((cs.drop f1.offset).take (P.cellsOf f1.type)) y1) :
    Op.Same enc P t cs (.agg [y0.1, y1.1], y0.2 ++ y1.2) := fun W' b' sp' hd' => by
  obtain ⟨n0, t0⟩ := h0 W' b' sp' hd'
  obtain ⟨n1, t1⟩ := h1 W' b' sp' hd'
  exact ⟨_, trod_struct2_mk ht hl (DataW.trod_le (show n0 ≤ n0 + n1 by omega) t0) (DataW.trod_le (show n1 ≤ n0 + n1 by omega) t1)⟩
def fitP (x : Pr) : Prop := x.1.size ≤ maxLen ∧ x.2.size ≤ maxLen
def cells2 (x : Pr) : List Value := [.string x.1, .string x.2]
set_option maxRecDepth 100000 in
theorem pair_elem {H : Type} {enc : TypeId × Value → H} {W : World} {b n : Nat} {sp : Nat → Bool} {hd : Bool} {cs : List Value} {z : DataW H × List MemPlace} (h : DataW.trod enc Try.prog W b sp hd n 31 cs = some z) :
    ∃ x : Pr, cs = cells2 x ∧ fitP x ∧ Op.Same enc Try.prog 31 cs z := by
  obtain ⟨y0, y1, m, rfl, hl, h0, h1⟩ := trod_struct2 Try.underlying31 h
  have hl' := hl
  rw [ycPair] at hl
  match cs, hl with
  | [c0, c1], _ =>
    simp only [ycStr, List.drop_zero, List.drop_succ_cons, List.take_succ_cons, List.take_zero] at h0 h1
    obtain ⟨k, e0, x0, hk⟩ := DataW.trod_string Try.underlying9 h0
    obtain ⟨x, e1, x1, hx⟩ := DataW.trod_string Try.underlying9 h1
    simp only [List.cons.injEq, and_true] at e0 e1
    subst e0 e1 x0 x1
    refine ⟨(k, x), rfl, ⟨hk, hx⟩, struct2_same Try.underlying31 hl' ?_ ?_⟩
    · simp only [ycStr, List.drop_zero, List.take_succ_cons, List.take_zero]; exact Op.str_same Try.underlying9 hk
    · simp only [ycStr, List.drop_succ_cons, List.drop_zero, List.take_succ_cons, List.take_zero]; exact Op.str_same Try.underlying9 hx
theorem ps_of {W : World} {A : Option Addr} {xs : List Pr} (h : Op.At 2 cells2 W A xs) : PsAt W A xs := by
  rcases h with h | ⟨b, off, hA, hb, hc⟩
  · exact .inl h
  · exact .inr ⟨b, off, hA, hb, fun i hi => ⟨hc i hi 0 (by omega), hc i hi 1 (by omega)⟩⟩
theorem sizedP_fit {xs : List Pr} (h : ∀ x ∈ xs, fitP x) : SizedP xs := fun x hx => by have := h x hx; unfold fitP maxLen at this; omega
theorem ps_open {H : Type} {enc : TypeId × Value → H} {W : World} {v0 : Value} {d0 : DataW H} {p0 : List MemPlace} (h0 : DataW.Trod enc Try.prog W 0 (fun _ => true) true 22 v0 d0 p0) (hv : ∃ A l c, v0 = .slice A l c) :
    ∃ A c xs, v0 = .slice A xs.length c ∧ PsAt W A xs ∧ xs.length ≤ maxLen ∧ SizedP xs ∧ xs.length ≤ c ∧ (A = none → c = 0) ∧
      ∀ (W' : World) (sp : Nat → Bool), Below W.heap.size W W' → (∀ x ∈ p0, sp x.block = true) → DataW.Trod enc Try.prog W' 0 sp true 22 v0 d0 p0 := by
  obtain ⟨A, c, xs, h1, h2, h3, h4, h5, h6, h7⟩ := Op.open_list Try.underlying22 2 (by omega) ycPair cells2 (fun _ => rfl) fitP (fun h => pair_elem h) h0 hv
  exact ⟨A, c, xs, h1, ps_of h2, h3, sizedP_fit h4, h5, h6, h7⟩
def fitW (x : Wr) : Prop := x.1.size ≤ maxLen ∧ x.2.1.size ≤ maxLen
def cells3 (x : Wr) : List Value := [.string x.1, .string x.2.1, .bool x.2.2]
set_option maxRecDepth 100000 in
theorem ssb_elem {T : TypeId} {f0 f1 f2 : Field} (hu : Try.prog.underlying T = some (.struct #[f0, f1, f2])) (hc : Try.prog.cellsOf T = 3) (t0 : f0.type = 9) (t1 : f1.type = 9) (t2 : f2.type = 4) (o0 : f0.offset = 0) (o1 : f1.offset = 1) (o2 : f2.offset = 2)
    {H : Type} {enc : TypeId × Value → H} {W : World} {b n : Nat} {sp : Nat → Bool} {hd : Bool} {cs : List Value} {z : DataW H × List MemPlace} (h : DataW.trod enc Try.prog W b sp hd n T cs = some z) :
    ∃ x : Wr, cs = cells3 x ∧ fitW x ∧ Op.Same enc Try.prog T cs z := by
  obtain ⟨y0, y1, y2, m, rfl, hl, h0, h1, h2⟩ := trod_struct3 hu h
  have hl' := hl
  rw [hc] at hl
  match cs, hl with
  | [c0, c1, c2], _ =>
    simp only [t0, t1, t2, o0, o1, o2, ycStr, ycBool, List.drop_zero, List.drop_succ_cons, List.take_succ_cons, List.take_zero] at h0 h1 h2
    obtain ⟨k, e0, x0, hk⟩ := DataW.trod_string Try.underlying9 h0
    obtain ⟨x, e1, x1, hx⟩ := DataW.trod_string Try.underlying9 h1
    obtain ⟨dd, e2, x2⟩ := DataW.trod_bool Try.underlying4 h2
    simp only [List.cons.injEq, and_true] at e0 e1 e2
    subst e0 e1 e2 x0 x1 x2
    refine ⟨(k, x, dd), rfl, ⟨hk, hx⟩, Op.struct3_same hu hl' ?_ ?_ ?_⟩
    · simp only [t0, o0, ycStr, List.drop_zero, List.take_succ_cons, List.take_zero]; exact Op.str_same Try.underlying9 hk
    · simp only [t1, o1, ycStr, List.drop_succ_cons, List.drop_zero, List.take_succ_cons, List.take_zero]; exact Op.str_same Try.underlying9 hx
    · simp only [t2, o2, ycBool, List.drop_succ_cons, List.drop_zero, List.take_succ_cons, List.take_zero]; exact Op.bool_same Try.underlying4
theorem ws_of {W : World} {A : Option Addr} {xs : List Wr} (h : Op.At 3 cells3 W A xs) : WsAt W A xs := by
  rcases h with h | ⟨b, off, hA, hb, hc⟩
  · exact .inl h
  · exact .inr ⟨b, off, hA, hb, fun i hi => ⟨hc i hi 0 (by omega), hc i hi 1 (by omega), hc i hi 2 (by omega)⟩⟩
theorem sizedW_fit {xs : List Wr} (h : ∀ x ∈ xs, fitW x) : SizedW xs := fun x hx => by have := h x hx; unfold fitW maxLen at this; omega
theorem ws_open {H : Type} {enc : TypeId × Value → H} {W : World} {v0 : Value} {d0 : DataW H} {p0 : List MemPlace} (h0 : DataW.Trod enc Try.prog W 0 (fun _ => true) true 53 v0 d0 p0) (hv : ∃ A l c, v0 = .slice A l c) :
    ∃ A c xs, v0 = .slice A xs.length c ∧ WsAt W A xs ∧ xs.length ≤ maxLen ∧ SizedW xs ∧ xs.length ≤ c ∧ (A = none → c = 0) ∧
      ∀ (W' : World) (sp : Nat → Bool), Below W.heap.size W W' → (∀ x ∈ p0, sp x.block = true) → DataW.Trod enc Try.prog W' 0 sp true 53 v0 d0 p0 := by
  obtain ⟨A, c, xs, h1, h2, h3, h4, h5, h6, h7⟩ := Op.open_list Try.underlying53 3 (by omega) ycWrite cells3 (fun _ => rfl) fitW (fun h => ssb_elem Try.underlying76 ycWrite rfl rfl rfl rfl rfl rfl h) h0 hv
  exact ⟨A, c, xs, h1, ws_of h2, h3, sizedW_fit h4, h5, h6, h7⟩
theorem array3 {α : Type} {cs : Array α} (h : cs.size = 3) : ∃ c0 c1 c2, cs = #[c0, c1, c2] := by
  obtain ⟨l⟩ := cs
  match l, h with
  | [c0, c1, c2], _ => exact ⟨c0, c1, c2, rfl⟩
theorem array2 {α : Type} {cs : Array α} (h : cs.size = 2) : ∃ c0 c1, cs = #[c0, c1] := by
  obtain ⟨l⟩ := cs
  match l, h with
  | [c0, c1], _ => exact ⟨c0, c1, rfl⟩
set_option maxRecDepth 100000 in
theorem range_open {H : Type} {enc : TypeId × Value → H} {W : World} {r : Reach} {b0 : Nat} {v0 : Value} {d0 : DataW H} {p0 : List MemPlace} (hv : Value.okWide Try.prog W r b0 24 v0) (h0 : DataW.Trod enc Try.prog W 0 (fun _ => true) true 24 v0 d0 p0) :
    ∃ x : Wr, v0 = .agg (cells3 x).toArray ∧ fitW x ∧ ∀ (W' : World) (b' : Nat) (sp' : Nat → Bool) (hd' : Bool), DataW.Trod enc Try.prog W' b' sp' hd' 24 v0 d0 p0 := by
  obtain ⟨cs, rfl, hsz⟩ := okWide_struct Try.underlying24 hv
  obtain ⟨c0, c1, c2, rfl⟩ := array3 (hsz.trans ycRange)
  obtain ⟨fuel, hf⟩ := h0
  obtain ⟨x, hx, hfit, hsame⟩ := ssb_elem Try.underlying24 ycRange rfl rfl rfl rfl rfl rfl hf
  have hx' : [c0, c1, c2] = cells3 x := by simpa [Value.cells] using hx
  refine ⟨x, by rw [← hx'], hfit, fun W' b' sp' hd' => ?_⟩
  obtain ⟨n, hn⟩ := hsame W' b' sp' hd'
  exact ⟨n, hn⟩
def cellsH (x : Int × Int) : List Value := [.int .i64 x.1, .int .i64 x.2]
def fitH (x : Int × Int) : Prop := (-9223372036854775808 ≤ x.1 ∧ x.1 ≤ 9223372036854775807) ∧ (-9223372036854775808 ≤ x.2 ∧ x.2 ≤ 9223372036854775807)
set_option maxRecDepth 100000 in
theorem handle_elem {H : Type} {enc : TypeId × Value → H} {W : World} {b n : Nat} {sp : Nat → Bool} {hd : Bool} {cs : List Value} {z : DataW H × List MemPlace} (h : DataW.trod enc Try.prog W b sp hd n 52 cs = some z) :
    ∃ x : Int × Int, cs = cellsH x ∧ fitH x ∧ Op.Same enc Try.prog 52 cs z := by
  obtain ⟨y0, y1, m, rfl, hl, h0, h1⟩ := trod_struct2 Try.underlying52 h
  have hl' := hl
  rw [ycHandle] at hl
  match cs, hl with
  | [c0, c1], _ =>
    simp only [ycInt, List.drop_zero, List.drop_succ_cons, List.take_succ_cons, List.take_zero] at h0 h1
    obtain ⟨i, e0, x0, hi⟩ := DataW.trod_int Try.underlying3 h0
    obtain ⟨g, e1, x1, hg⟩ := DataW.trod_int Try.underlying3 h1
    simp only [List.cons.injEq, and_true] at e0 e1
    subst e0 e1 x0 x1
    refine ⟨(i, g), rfl, ⟨wf_i64 hi, wf_i64 hg⟩, struct2_same Try.underlying52 hl' ?_ ?_⟩
    · simp only [ycInt, List.drop_zero, List.take_succ_cons, List.take_zero]; exact Op.int_same Try.underlying3 hi
    · simp only [ycInt, List.drop_succ_cons, List.drop_zero, List.take_succ_cons, List.take_zero]; exact Op.int_same Try.underlying3 hg
set_option maxRecDepth 100000 in
theorem handle_open {H : Type} {enc : TypeId × Value → H} {W : World} {r : Reach} {b0 : Nat} {v0 : Value} {d0 : DataW H} {p0 : List MemPlace} (hv : Value.okWide Try.prog W r b0 52 v0) (h0 : DataW.Trod enc Try.prog W 0 (fun _ => true) true 52 v0 d0 p0) :
    ∃ x : Int × Int, v0 = .agg (cellsH x).toArray ∧ fitH x ∧ ∀ (W' : World) (b' : Nat) (sp' : Nat → Bool) (hd' : Bool), DataW.Trod enc Try.prog W' b' sp' hd' 52 v0 d0 p0 := by
  obtain ⟨cs, rfl, hsz⟩ := okWide_struct Try.underlying52 hv
  obtain ⟨c0, c1, rfl⟩ := array2 (hsz.trans ycHandle)
  obtain ⟨fuel, hf⟩ := h0
  obtain ⟨x, hx, hfit, hsame⟩ := handle_elem hf
  have hx' : [c0, c1] = cellsH x := by simpa [Value.cells] using hx
  refine ⟨x, by rw [← hx'], hfit, fun W' b' sp' hd' => ?_⟩
  obtain ⟨n, hn⟩ := hsame W' b' sp' hd'
  exact ⟨n, hn⟩
end Go.Proofs.Ytbgpcmpbfenplaa.KK
