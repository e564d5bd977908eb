/-
  Trees of losers: an argument that is two numbers: opened, and read again.
-/
import Derived.Test.YthmipjlmmgdpmaaOl
import Derived.OpenShut
import Derived.Lib.SmallJoins
namespace Go.Proofs.Ythmipjlmmgdpmaa.KK
open Go.ChangeShapes Go.ChangeMaps Go.WideShapes Go.ChangeAt Go.RowKit Go.Proofs Go.Lib Go.Joins Go.Deep
theorem okWide_array2 {P : Program} {W : World} {r : Reach} {b0 : Nat} {t e : TypeId} {v : Value} (ht : P.underlying t = some (.array 2 e)) (hC : P.cellsOf t = 2) (h : Value.okWide P W r b0 t v) : ∃ c0 c1, v = .agg #[c0, c1] := by
  simp only [Value.okWide, ht] at h
  obtain ⟨cs, h1, h2, _⟩ := h
  obtain ⟨c0, c1, rfl⟩ := array2 (h2.trans hC)
  exact ⟨c0, c1, h1⟩
theorem trod_array2 {H : Type} {enc : TypeId × Value → H} {P : Program} {w : World} {base : Nat} {spare : Nat → Bool} {held : Bool} {t e : TypeId} {fuel : Nat} {c0 c1 : Value} {x : DataW H × List MemPlace} (ht : P.underlying t = some (.array 2 e)) (hce : P.cellsOf e = 1)
    (h : DataW.trod enc P w base spare held fuel t [c0, c1] = some x) :
    ∃ y0 y1 n, x = (.agg [y0.1, y1.1], y0.2 ++ y1.2) ∧ DataW.trod enc P w base spare held n e [c0] = some y0 ∧ DataW.trod enc P w base spare held n e [c1] = some y1 := by
  cases fuel with
  | zero => simp [DataW.trod] at h
  | succ n =>
    unfold DataW.trod at h
    rw [ht] at h
    have r2 : List.range 2 = [0, 1] := rfl
    simp [r2, hce] at h
    obtain ⟨_, h⟩ := h
    cases h0 : DataW.trod enc P w base spare held n e [c0] with
    | none => simp [h0] at h
    | some y0 =>
      cases h1 : DataW.trod enc P w base spare held n e [c1] with
      | none => simp [h0, h1] at h
      | some y1 =>
        simp [h0, h1] at h
        exact ⟨y0, y1, n, h.symm, h0, h1⟩
theorem trod_array2_mk {H : Type} {enc : TypeId × Value → H} {P : Program} {w : World} {base : Nat} {spare : Nat → Bool} {held : Bool} {t e : TypeId} {n : Nat} {c0 c1 : Value} {y0 y1 : DataW H × List MemPlace} (ht : P.underlying t = some (.array 2 e)) (hce : P.cellsOf e = 1) (hC : P.cellsOf t = 2)
    (h0 : DataW.trod enc P w base spare held n e [c0] = some y0) (h1 : DataW.trod enc P w base spare held n e [c1] = some y1) : DataW.trod enc P w base spare held (n + 1) t [c0, c1] = some (.agg [y0.1, y1.1], y0.2 ++ y1.2) := by
  unfold DataW.trod
  rw [ht]
  have r2 : List.range 2 = [0, 1] := rfl
  simp [r2, hce, hC, h0, h1]
set_option maxRecDepth 100000 in
theorem ints2_open {H : Type} {enc : TypeId × Value → H} {W : World} {r : Reach} {b0 : Nat} {v0 : Value} {d0 : DataW H} {p0 : List MemPlace} (hv : Value.okWide Try.prog W r b0 40 v0) (h0 : DataW.Trod enc Try.prog W 0 (fun _ => true) true 40 v0 d0 p0) :
    ∃ b c, v0 = .agg #[.int .i64 b, .int .i64 c] ∧ (-9223372036854775808 ≤ b ∧ b ≤ 9223372036854775807) ∧ (-9223372036854775808 ≤ c ∧ c ≤ 9223372036854775807) ∧ p0 = [] ∧ ∀ (W' : World) (b' : Nat) (sp' : Nat → Bool) (hd' : Bool), DataW.Trod enc Try.prog W' b' sp' hd' 40 v0 d0 p0 := by
  have hC : Try.prog.cellsOf 40 = 2 := by kernel_rfl
  have hI : Try.prog.cellsOf 3 = 1 := by kernel_rfl
  obtain ⟨c0, c1, rfl⟩ := okWide_array2 Try.underlying40 hC hv
  obtain ⟨fuel, hf⟩ := h0
  have hf' : DataW.trod enc Try.prog W 0 (fun _ => true) true fuel 40 [c0, c1] = some (d0, p0) := by simpa [Value.cells] using hf
  obtain ⟨y0, y1, n, hx, h1, h2⟩ := trod_array2 Try.underlying40 hI hf'
  obtain ⟨b, e0, rfl, w0⟩ := DataW.trod_int Try.underlying3 h1
  obtain ⟨c, e1, rfl, w1⟩ := DataW.trod_int Try.underlying3 h2
  simp only [List.cons.injEq, and_true] at e0 e1
  subst e0 e1
  simp only [Prod.mk.injEq] at hx
  obtain ⟨rfl, rfl⟩ := hx
  refine ⟨b, c, rfl, wf_i64 w0, wf_i64 w1, rfl, fun W' b' sp' hd' => ?_⟩
  obtain ⟨n0, t0⟩ : ∃ n, DataW.trod enc Try.prog W' b' sp' hd' n 3 [.int .i64 b] = some (.lit (.int .i64 b), []) := ⟨1, trod_int_mk 0 Try.underlying3 w0⟩
  obtain ⟨n1, t1⟩ : ∃ n, DataW.trod enc Try.prog W' b' sp' hd' n 3 [.int .i64 c] = some (.lit (.int .i64 c), []) := ⟨1, trod_int_mk 0 Try.underlying3 w1⟩
  have ts := trod_array2_mk (t := 40) Try.underlying40 hI hC (DataW.trod_le (Nat.le_max_left n0 n1) t0) (DataW.trod_le (Nat.le_max_right n0 n1) t1)
  exact ⟨_, by simpa [Value.cells] using ts⟩
end Go.Proofs.Ythmipjlmmgdpmaa.KK
