/-
  Shadow: arguments that are a state, an entry.
-/
import Derived.Test.YtlobkbhghpknmaaOs
import Derived.OpenShut
namespace Go.Proofs.Ytlobkbhghpknmaa.KK
open Go.ChangeShapes Go.ChangeMaps Go.WideShapes Go.ChangeAt Go.RowKit Go.Proofs Go.Lib Go.Joins Go.Deep

section
variable {H : Type} {enc : TypeId × Value → H} {W : World} {b : Nat} {sp : Nat → Bool} {hd : Bool}
set_option maxRecDepth 100000 in
/-- an entry as an argument -/
theorem entry_open {r : Reach} {b0 : Nat} {v : Value} {d : DataW H} {p : List MemPlace} (hv : Value.okWide Try.prog W r b0 25 v) (h : DataW.Trod enc Try.prog W b sp hd 25 v d p) :
    ∃ (k x : ByteArray) (dd : Bool) (q : Int), v = .agg #[.string k, .string x, .bool dd, .int .i64 q] ∧ p = [] ∧ k.size ≤ maxLen ∧ x.size ≤ maxLen ∧
      (∀ (W' : World) (b' : Nat) (sp' : Nat → Bool) (hd' : Bool), DataW.Trod enc Try.prog W' b' sp' hd' 25 v d []) := by
  obtain ⟨v0, v1, v2, v3, ⟨d0, p0⟩, ⟨d1, p1⟩, ⟨d2, p2⟩, ⟨d3, p3⟩, n, rfl, rfl, rfl, h0, h1, h2, h3⟩ := open_agg4 Try.underlying25 (by kernel_rfl) (by kernel_rfl) hv h
  obtain ⟨k, e0, x0, hk⟩ := DataW.trod_string Try.underlying9 h0
  obtain ⟨x, e1, x1, hx⟩ := DataW.trod_string Try.underlying9 h1
  obtain ⟨dd, e2, x2⟩ := DataW.trod_bool Try.underlying4 h2
  obtain ⟨q, e3, x3, hq⟩ := DataW.trod_int Try.underlying2 h3
  simp only [List.cons.injEq, and_true] at e0 e1 e2 e3
  subst e0 e1 e2 e3
  simp only [Prod.mk.injEq] at x0 x1 x2 x3
  obtain ⟨rfl, rfl⟩ := x0
  obtain ⟨rfl, rfl⟩ := x1
  obtain ⟨rfl, rfl⟩ := x2
  obtain ⟨rfl, rfl⟩ := x3
  refine ⟨k, x, dd, q, rfl, rfl, hk, hx, fun W' b' sp' hd' => ?_⟩
  have hs := fun (s : ByteArray) (hs : s.size ≤ maxLen) => shut_string (enc := enc) (P := Try.prog) (w := W') (base := b') (sp := sp') (held := hd') Try.underlying9 hs
  have hbl : DataW.Trod enc Try.prog W' b' sp' hd' 4 (.bool dd) (.lit (.bool dd)) [] := shut_bool Try.underlying4 dd
  exact shut_agg4 (y0 := (.lit (.string k.data.toList), [])) (y1 := (.lit (.string x.data.toList), [])) (y2 := (.lit (.bool dd), [])) (y3 := (.lit (.int .i64 q), [])) Try.underlying25 (by kernel_rfl) (by kernel_rfl)
    (by obtain ⟨m, hm⟩ := hs k hk; exact ⟨m, by simpa [Value.cells] using hm⟩) (by obtain ⟨m, hm⟩ := hs x hx; exact ⟨m, by simpa [Value.cells] using hm⟩)
    (by obtain ⟨m, hm⟩ := hbl; exact ⟨m, by simpa [Value.cells] using hm⟩) ⟨1, trod_int_mk 0 Try.underlying2 hq⟩
end
theorem state_open {H : Type} {enc : TypeId × Value → H} {W : World} {r : Reach} {b0 : Nat} {v0 : Value} {d0 : DataW H} {p0 : List MemPlace} (hv : Value.okWide Try.prog W r b0 23 v0) (h0 : DataW.Trod enc Try.prog W 0 (fun _ => true) true 23 v0 d0 p0) :
    ∃ s l b, v0 = .agg #[.bool s, .string l, .bool b] ∧ l.size ≤ maxLen ∧ p0 = [] ∧ ∀ (W' : World) (b' : Nat) (sp' : Nat → Bool) (hd' : Bool), DataW.Trod enc Try.prog W' b' sp' hd' 23 v0 d0 p0 := by
  obtain ⟨c00, c01, c02, y00, y01, y02, m0, rfl, rfl, rfl, hy00, hy01, hy02⟩ := open_agg3 Try.underlying23 (by kernel_rfl) (by kernel_rfl) hv h0
  obtain ⟨s, e00, rfl⟩ := DataW.trod_bool Try.underlying4 hy00
  obtain ⟨l, e01, rfl, hl⟩ := DataW.trod_string Try.underlying9 hy01
  obtain ⟨b, e02, rfl⟩ := DataW.trod_bool Try.underlying4 hy02
  simp at e00 e01 e02
  subst e00 e01 e02
  exact ⟨s, l, b, rfl, hl, rfl, fun W' b' sp' hd' => shut_agg3 (y0 := (.lit (.bool s), [])) (y1 := (.lit (.string l.data.toList), [])) (y2 := (.lit (.bool b), [])) Try.underlying23 (by kernel_rfl) (by kernel_rfl) (shut_bool Try.underlying4 s) (shut_string Try.underlying9 hl) (shut_bool Try.underlying4 b)⟩
end Go.Proofs.Ytlobkbhghpknmaa.KK
