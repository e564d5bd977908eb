/-
  Opener: a place.
-/
import Derived.Test.YtndmmajhhjohhaaOc
import Derived.Deep.Strs
namespace Go.Proofs.Ytndmmajhhjohhaa.KK
open Go.Deep Go.ChangeMaps Go.ChangeShapes Go.WideShapes Go.ChangeAt Go.RowKit Go.Proofs Go.Joins Go.Lib

set_option maxRecDepth 100000 in
theorem place_open {H : Type} {enc : TypeId × Value → H} {W : World} {r : Reach} {b0 : Nat} {v0 : Value} {d0 : DataW H} {p0 : List MemPlace} (hv : Value.okWide Try.prog W r b0 41 v0) (h0 : DataW.Trod enc Try.prog W 0 (fun _ => true) true 41 v0 d0 p0) :
    ∃ key past lo hi b, v0 = .agg #[.string key, .bool past, .string lo, .string hi, .bool b] ∧ key.size ≤ maxLen ∧ lo.size ≤ maxLen ∧ hi.size ≤ maxLen ∧ p0 = [] ∧ ∀ (W' : World) (b' : Nat) (sp' : Nat → Bool) (hd' : Bool), DataW.Trod enc Try.prog W' b' sp' hd' 41 v0 d0 p0 := by
  obtain ⟨cs, rfl, hsz⟩ := okWide_struct Try.underlying41 hv
  have hC : Try.prog.cellsOf 41 = 5 := by kernel_rfl
  have hR : Try.prog.cellsOf 39 = 3 := by kernel_rfl
  have hS : Try.prog.cellsOf 9 = 1 := by kernel_rfl
  have hB : Try.prog.cellsOf 4 = 1 := by kernel_rfl
  have hs5 := hsz.trans hC
  obtain ⟨c0, c1, c2, c3, c4, rfl⟩ : ∃ c0 c1 c2 c3 c4, cs = #[c0, c1, c2, c3, c4] := ⟨cs[0], cs[1], cs[2], cs[3], cs[4], by
    apply Array.ext
    · simp [hs5]
    · intro i h1 h2
      have : i = 0 ∨ i = 1 ∨ i = 2 ∨ i = 3 ∨ i = 4 := by omega
      rcases this with rfl | rfl | rfl | rfl | rfl <;> rfl⟩
  obtain ⟨fuel, hf⟩ := h0
  obtain ⟨y0, y1, y2, n, hx, _, h0, h1, h2⟩ := trod_struct3 Try.underlying41 hf
  have k0 : DataW.trod enc Try.prog W 0 (fun _ => true) true n 9 [c0] = some y0 := by simpa [Value.cells, hS] using h0
  have k1 : DataW.trod enc Try.prog W 0 (fun _ => true) true n 4 [c1] = some y1 := by simpa [Value.cells, hB] using h1
  have k2 : DataW.trod enc Try.prog W 0 (fun _ => true) true n 39 [c2, c3, c4] = some y2 := by simpa [Value.cells, hR] using h2
  obtain ⟨z0, z1, z2, m, hz, _, g0, g1, g2⟩ := trod_struct3 Try.underlying39 k2
  have l0 : DataW.trod enc Try.prog W 0 (fun _ => true) true m 9 [c2] = some z0 := by simpa [hS] using g0
  have l1 : DataW.trod enc Try.prog W 0 (fun _ => true) true m 9 [c3] = some z1 := by simpa [hS] using g1
  have l2 : DataW.trod enc Try.prog W 0 (fun _ => true) true m 4 [c4] = some z2 := by simpa [hB] using g2
  obtain ⟨key, e0, rfl, hk⟩ := DataW.trod_string Try.underlying9 k0
  obtain ⟨past, e1, rfl⟩ := DataW.trod_bool Try.underlying4 k1
  obtain ⟨lo, e2, rfl, hlo⟩ := DataW.trod_string Try.underlying9 l0
  obtain ⟨hi, e3, rfl, hhi⟩ := DataW.trod_string Try.underlying9 l1
  obtain ⟨b, e4, rfl⟩ := DataW.trod_bool Try.underlying4 l2
  simp only [List.cons.injEq, and_true] at e0 e1 e2 e3 e4
  subst e0 e1 e2 e3 e4
  subst hz
  simp only [Prod.mk.injEq] at hx
  obtain ⟨rfl, rfl⟩ := hx
  refine ⟨key, past, lo, hi, b, rfl, hk, hlo, hhi, rfl, fun W' b' sp' hd' => ?_⟩
  have st : ∀ s : ByteArray, s.size ≤ maxLen → ∃ n, DataW.trod enc Try.prog W' b' sp' hd' n 9 [.string s] = some (.lit (.string s.data.toList), []) := fun s h => shut_string_cell Try.underlying9 h
  obtain ⟨n0, t0⟩ := st key hk
  obtain ⟨n2, t2⟩ := st lo hlo
  obtain ⟨n3, t3⟩ := st hi hhi
  have t1 : DataW.trod enc Try.prog W' b' sp' hd' 1 4 [.bool past] = some (.lit (.bool past), []) := by simp [DataW.trod, Try.underlying4]
  have t4 : DataW.trod enc Try.prog W' b' sp' hd' 1 4 [.bool b] = some (.lit (.bool b), []) := by simp [DataW.trod, Try.underlying4]
  obtain ⟨M, hM⟩ : ∃ M, M = n0 + n2 + n3 + 1 := ⟨_, rfl⟩
  have u := trod_struct3_mk (t := 39) (n := M) (cs := [.string lo, .string hi, .bool b]) Try.underlying39 (by simp [hR]) (by simpa [hS] using DataW.trod_le (show n2 ≤ M by omega) t2) (by simpa [hS] using DataW.trod_le (show n3 ≤ M by omega) t3) (by simpa [hB] using DataW.trod_le (show 1 ≤ M by omega) t4)
  have ts := trod_struct3_mk (t := 41) (n := M + 1) (cs := [.string key, .bool past, .string lo, .string hi, .bool b]) Try.underlying41 (by simp [hC]) (by simpa [hS] using DataW.trod_le (show n0 ≤ M + 1 by omega) t0) (by simpa [hB] using DataW.trod_le (show 1 ≤ M + 1 by omega) t1) (by simpa [hR] using u)
  exact ⟨_, by simpa [Value.cells] using ts⟩
end Go.Proofs.Ytndmmajhhjohhaa.KK
