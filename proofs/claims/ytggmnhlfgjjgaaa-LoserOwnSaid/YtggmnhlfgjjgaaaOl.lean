/-
  Trees of losers: arguments that are keys, a key, numbers: opened, and read again.
-/
import Derived.Test.YtggmnhlfgjjgaaaOp
import Derived.Test.YtggmnhlfgjjgaaaLa
namespace Go.Proofs.Ytggmnhlfgjjgaaa.KK
open Go.ChangeShapes Go.ChangeMaps Go.WideShapes Go.ChangeAt Go.RowKit Go.Proofs Go.Lib Go.Joins Go.Deep

theorem ycKey : Try.prog.cellsOf 41 = 2 := by kernel_rfl
theorem ycStr : Try.prog.cellsOf 9 = 1 := by kernel_rfl
theorem ycBool : Try.prog.cellsOf 4 = 1 := by kernel_rfl
theorem ycInt : Try.prog.cellsOf 3 = 1 := by kernel_rfl
theorem wf_i64 {n : Int} (h : (Lit.int .i64 n).wf = true) : -9223372036854775808 ≤ n ∧ n ≤ 9223372036854775807 := by
  simpa [Lit.wf, IntKind.min, IntKind.max, IntKind.signed, IntKind.bits] using h
theorem struct2_same {P : Program} {H : Type} {enc : TypeId × Value → H} {t : TypeId} {f0 f1 : Field} {cs : List Value} {y0 y1 : DataW H × List MemPlace} (ht : P.underlying t = some (.struct #[f0, f1])) (hl : cs.length = P.cellsOf t)
    (h0 : Op.Same enc P f0.type ((cs.drop f0.offset).take (P.cellsOf f0.type)) y0) (h1 : Op.Same enc P f1.type ((cs.drop f1.offset).take (P.cellsOf f1.type)) y1) :
    Op.Same enc P t cs (.agg [y0.1, y1.1], y0.2 ++ y1.2) := fun W' b' sp' hd' => by
  obtain ⟨n0, t0⟩ := h0 W' b' sp' hd'
  obtain ⟨n1, t1⟩ := h1 W' b' sp' hd'
  exact ⟨_, trod_struct2_mk ht hl (DataW.trod_le (show n0 ≤ n0 + n1 by omega) t0) (DataW.trod_le (show n1 ≤ n0 + n1 by omega) t1)⟩
def cellsLK (x : LK) : List Value := [.string x.1, .bool x.2]
def FitK (x : LK) : Prop := x.1.size ≤ maxLen
set_option maxRecDepth 100000 in
theorem key_elem {H : Type} {enc : TypeId × Value → H} {W : World} {b n : Nat} {sp : Nat → Bool} {hd : Bool} {cs : List Value} {z : DataW H × List MemPlace} (h : DataW.trod enc Try.prog W b sp hd n 41 cs = some z) :
    ∃ x : LK, cs = cellsLK x ∧ FitK x ∧ Op.Same enc Try.prog 41 cs z := by
  obtain ⟨y0, y1, m, rfl, hl, h0, h1⟩ := trod_struct2 Try.underlying41 h
  have hl' := hl
  rw [ycKey] at hl
  match cs, hl with
  | [c0, c1], _ =>
    simp only [ycStr, ycBool, List.drop_zero, List.drop_succ_cons, List.take_succ_cons, List.take_zero] at h0 h1
    obtain ⟨k, e0, x0, hk⟩ := DataW.trod_string Try.underlying9 h0
    obtain ⟨dd, e1, x1⟩ := DataW.trod_bool Try.underlying4 h1
    simp only [List.cons.injEq, and_true] at e0 e1
    subst e0 e1 x0 x1
    refine ⟨(k, dd), rfl, hk, struct2_same Try.underlying41 hl' ?_ ?_⟩
    · simp only [ycStr, List.drop_zero, List.take_succ_cons, List.take_zero]; exact Op.str_same Try.underlying9 hk
    · simp only [ycBool, List.drop_succ_cons, List.drop_zero, List.take_succ_cons, List.take_zero]; exact Op.bool_same Try.underlying4
theorem ksAt_of {W : World} {A : Option Addr} {xs : List LK} (h : Op.At 2 cellsLK W A xs) : KsAt W A xs := by
  rcases h with h | ⟨b, off, hA, hb, hc⟩
  · exact .inl h
  · exact .inr ⟨b, off, hA, hb, fun i hi => ⟨hc i hi 0 (by omega), hc i hi 1 (by omega)⟩⟩
theorem ks_open {H : Type} {enc : TypeId × Value → H} {W : World} {v0 : Value} {d0 : DataW H} {p0 : List MemPlace} (h0 : DataW.Trod enc Try.prog W 0 (fun _ => true) true 26 v0 d0 p0) (hv : ∃ A l c, v0 = .slice A l c) :
    ∃ A c xs, v0 = .slice A xs.length c ∧ KsAt W A xs ∧ xs.length ≤ maxLen ∧ SizedL xs ∧ xs.length ≤ c ∧ (A = none → c = 0) ∧
      ∀ (W' : World) (sp : Nat → Bool), Below W.heap.size W W' → (∀ x ∈ p0, sp x.block = true) → DataW.Trod enc Try.prog W' 0 sp true 26 v0 d0 p0 := by
  obtain ⟨A, c, xs, h1, h2, h3, h4, h5, h6, h7⟩ := Op.open_list Try.underlying26 2 (by omega) ycKey cellsLK (fun _ => rfl) FitK (fun h => key_elem h) h0 hv
  exact ⟨A, c, xs, h1, ksAt_of h2, h3, fun k hk => by have := h4 k hk; unfold FitK maxLen at this; omega, h5, h6, h7⟩
set_option maxRecDepth 100000 in
theorem key_open {H : Type} {enc : TypeId × Value → H} {W : World} {r : Reach} {b0 : Nat} {v0 : Value} {d0 : DataW H} {p0 : List MemPlace} (hv : Value.okWide Try.prog W r b0 41 v0) (h0 : DataW.Trod enc Try.prog W 0 (fun _ => true) true 41 v0 d0 p0) :
    ∃ key d, v0 = .agg #[.string key, .bool d] ∧ key.size ≤ maxLen ∧ p0 = [] ∧ ∀ (W' : World) (b' : Nat) (sp' : Nat → Bool) (hd' : Bool), DataW.Trod enc Try.prog W' b' sp' hd' 41 v0 d0 p0 := by
  obtain ⟨c0, c1, y0, y1, m, rfl, rfl, rfl, hy0, hy1⟩ := open_agg2 Try.underlying41 (by kernel_rfl) (by kernel_rfl) hv h0
  obtain ⟨key, e0, rfl, hk⟩ := DataW.trod_string Try.underlying9 hy0
  obtain ⟨d, e1, rfl⟩ := DataW.trod_bool Try.underlying4 hy1
  simp only [List.cons.injEq, and_true] at e0 e1
  subst e0 e1
  refine ⟨key, d, rfl, hk, rfl, fun W' b' sp' hd' => ?_⟩
  refine shut_agg2 (enc := enc) (w := W') (base := b') (spare := sp') (held := hd') (y0 := (.lit (.string key.data.toList), [])) (y1 := (.lit (.bool d), [])) Try.underlying41 (by kernel_rfl) (by kernel_rfl) ?_ ?_
  · exact shut_string Try.underlying9 hk
  · exact shut_bool Try.underlying4 d
theorem int_elem {H : Type} {enc : TypeId × Value → H} {W : World} {b n : Nat} {sp : Nat → Bool} {hd : Bool} {cs : List Value} {z : DataW H × List MemPlace} (h : DataW.trod enc Try.prog W b sp hd n 3 cs = some z) :
    ∃ x : Int, cs = [.int .i64 x] ∧ (-9223372036854775808 ≤ x ∧ x ≤ 9223372036854775807) ∧ Op.Same enc Try.prog 3 cs z := by
  obtain ⟨x, rfl, rfl, hx⟩ := DataW.trod_int Try.underlying3 h
  exact ⟨x, rfl, wf_i64 hx, Op.int_same Try.underlying3 hx⟩
theorem is_open {H : Type} {enc : TypeId × Value → H} {W : World} {v0 : Value} {d0 : DataW H} {p0 : List MemPlace} (h0 : DataW.Trod enc Try.prog W 0 (fun _ => true) true 25 v0 d0 p0) (hv : ∃ A l c, v0 = .slice A l c) :
    ∃ A c xs, v0 = .slice A xs.length c ∧ IsAt W A xs ∧ xs.length ≤ maxLen ∧ (∀ x ∈ xs, -9223372036854775808 ≤ x ∧ x ≤ 9223372036854775807) ∧ xs.length ≤ c ∧ (A = none → c = 0) ∧
      ∀ (W' : World) (sp : Nat → Bool), Below W.heap.size W W' → (∀ x ∈ p0, sp x.block = true) → DataW.Trod enc Try.prog W' 0 sp true 25 v0 d0 p0 := by
  obtain ⟨A, c, xs, h1, h2, h3, h4, h5, h6, h7⟩ := Op.open_list (X := Int) Try.underlying25 1 (by omega) ycInt (fun x => [.int .i64 x]) (fun _ => rfl) (fun x => -9223372036854775808 ≤ x ∧ x ≤ 9223372036854775807) (fun h => int_elem h) h0 hv
  refine ⟨A, c, xs, h1, ?_, h3, h4, h5, h6, h7⟩
  rcases h2 with h | ⟨b, off, hA, hb, hc⟩
  · exact .inl h
  · refine .inr ⟨b, off, hA, hb, fun i hi => ?_⟩
    have := hc i hi 0 (by omega)
    simpa using this
end Go.Proofs.Ytggmnhlfgjjgaaa.KK
