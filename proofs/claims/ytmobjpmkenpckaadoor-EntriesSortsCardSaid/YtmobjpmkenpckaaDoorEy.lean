/-
  From what the rows list to what the contracts ask of the world; an entry as an argument, opened and shut.
-/
import Derived.Test.YtmobjpmkenpckaaDoorRows
import Derived.Test.YtmobjpmkenpckaaDoorQe
import Derived.Lib.LaidU8
import Derived.MakeChecks
import Derived.Deep.DeepHandedRow
import Derived.Lay
import Derived.Lib.SmallJoins
import Derived.OpenShut
import Derived.WalkKit
import Derived.ProofKit
namespace Go.Proofs.YtmobjpmkenpckaaDoor.KK
open Go.ChangeShapes Go.ChangeMaps Go.WideShapes Go.ChangeAt Go.RowKit Go.Proofs Go.Lib Go.Joins

theorem ytPow : (Tryd.prog.globals[(1 : Nat)]?).map (·.type) = some 106 := by kernel_rfl
theorem ycU64 : Tryd.prog.cellsOf 99 = 1 := by kernel_rfl
theorem ycPow : Tryd.prog.cellsOf 106 = 20 := by kernel_rfl
theorem pow_of_reads {W : World} (h : VarReads Tryd.prog W "internal/strconv.uint64pow10" Rows.laid_internal_strconv_uint64pow10) : Lib.TabIs Tryd.prog W "internal/strconv.uint64pow10" .u64 Lib.pow10Tab := by
  obtain ⟨g, t, cs, fuel, p, hg, hty, hvar, hd⟩ := h
  obtain rfl := Option.some.inj (gPow.symm.trans hg)
  obtain rfl := Option.some.inj (ytPow.symm.trans hty)
  unfold Lib.TabIs
  rw [hvar, ← cells_of_tab (zs := Lib.pow10Tab) Tryd.underlying106 Tryd.underlying99 ycU64 ycPow hd]
theorem heap5 {W : World} (h : W.ShapedOpen Tryd.prog) : 5 ≤ W.heap.size := by
  obtain ⟨z, hz⟩ : ∃ z, ((begin Tryd.prog (fun _ _ => 0) default).world.heap[4]?).bind Obj.row? = some z := Option.isSome_iff_exists.1 (by kernel_rfl)
  obtain ⟨cs, hcs, _⟩ := h.1 4 z.1 z.2 (of_decide_eq_true (by kernel_rfl)) hz
  rcases Nat.lt_or_ge 4 W.heap.size with h | h
  · exact h
  · rw [Array.getElem?_eq_none h] at hcs; cases hcs
theorem env_of_reads {W : World} (hsh : W.ShapedOpen Tryd.prog) (h1 : VarReads Tryd.prog W "internal/strconv.uint64pow10" Rows.laid_internal_strconv_uint64pow10) : EnvE W := ⟨⟨trivial, pow_of_reads h1⟩, heap5 hsh⟩

section
variable {H : Type} {enc : TypeId × Value → H} {W : World} {b : Nat} {sp : Nat → Bool} {hd : Bool}
set_option maxRecDepth 100000 in
/-- an entry as an argument -/
theorem entry_open {r : Reach} {b0 : Nat} {v : Value} {d : DataW H} {p : List MemPlace} (hv : Value.okWide Tryd.prog W r b0 33 v) (h : DataW.Trod enc Tryd.prog W b sp hd 33 v d p) :
    ∃ (k x : ByteArray) (dd : Bool) (q : Int), v = .agg #[.string k, .string x, .bool dd, .int .i64 q] ∧ p = [] ∧ k.size ≤ maxLen ∧ x.size ≤ maxLen ∧
      (∀ (W' : World) (b' : Nat) (sp' : Nat → Bool) (hd' : Bool), DataW.Trod enc Tryd.prog W' b' sp' hd' 33 v d []) := by
  obtain ⟨v0, v1, v2, v3, ⟨d0, p0⟩, ⟨d1, p1⟩, ⟨d2, p2⟩, ⟨d3, p3⟩, n, rfl, rfl, rfl, h0, h1, h2, h3⟩ := open_agg4 Tryd.underlying33 (by kernel_rfl) (by kernel_rfl) hv h
  obtain ⟨k, e0, x0, hk⟩ := DataW.trod_string Tryd.underlying9 h0
  obtain ⟨x, e1, x1, hx⟩ := DataW.trod_string Tryd.underlying9 h1
  obtain ⟨dd, e2, x2⟩ := DataW.trod_bool Tryd.underlying4 h2
  obtain ⟨q, e3, x3, hq⟩ := DataW.trod_int Tryd.underlying2 h3
  simp only [List.cons.injEq, and_true] at e0 e1 e2 e3
  subst e0 e1 e2 e3
  simp only [Prod.mk.injEq] at x0 x1 x2 x3
  obtain ⟨rfl, rfl⟩ := x0
  obtain ⟨rfl, rfl⟩ := x1
  obtain ⟨rfl, rfl⟩ := x2
  obtain ⟨rfl, rfl⟩ := x3
  refine ⟨k, x, dd, q, rfl, rfl, hk, hx, fun W' b' sp' hd' => ?_⟩
  have hs := fun (s : ByteArray) (hs : s.size ≤ maxLen) => shut_string (enc := enc) (P := Tryd.prog) (w := W') (base := b') (sp := sp') (held := hd') Tryd.underlying9 hs
  have hbl : DataW.Trod enc Tryd.prog W' b' sp' hd' 4 (.bool dd) (.lit (.bool dd)) [] := shut_bool Tryd.underlying4 dd
  exact shut_agg4 (y0 := (.lit (.string k.data.toList), [])) (y1 := (.lit (.string x.data.toList), [])) (y2 := (.lit (.bool dd), [])) (y3 := (.lit (.int .i64 q), [])) Tryd.underlying33 (by kernel_rfl) (by kernel_rfl)
    (by obtain ⟨m, hm⟩ := hs k hk; exact ⟨m, by simpa [Value.cells] using hm⟩) (by obtain ⟨m, hm⟩ := hs x hx; exact ⟨m, by simpa [Value.cells] using hm⟩)
    (by obtain ⟨m, hm⟩ := hbl; exact ⟨m, by simpa [Value.cells] using hm⟩) ⟨1, trod_int_mk 0 Tryd.underlying2 hq⟩
end
end Go.Proofs.YtmobjpmkenpckaaDoor.KK
