/-
  An argument that is a slice of runs: opened, and read again.
-/
import Derived.Test.YtebjhjmlpodkgaaOs
import Derived.Test.YtebjhjmlpodkgaaPf
namespace Go.Proofs.Ytebjhjmlpodkgaa.KK
open Go.ChangeShapes Go.ChangeMaps Go.WideShapes Go.ChangeAt Go.RowKit Go.Proofs Go.Lib Go.Joins Go.Deep

theorem ycSl : Try.prog.cellsOf 34 = 1 := by kernel_rfl
/-- runs of any length -/
def SizedM (rs : List Rn) : Prop := ∀ r ∈ rs, r.2.2.length ≤ 9223372036854775807 ∧ Sized r.2.2
set_option maxRecDepth 100000 in
theorem run_elem {H : Type} {enc : TypeId × Value → H} {W : World} {n : Nat} {v : Value} {z : DataW H × List MemPlace} (h : DataW.trod enc Try.prog W 0 (fun _ => true) true n 34 [v] = some z) :
    ∃ r : Rn, v = .slice r.1 r.2.2.length r.2.1 ∧ EsAt W r.1 r.2.2 ∧ r.2.2.length ≤ 9223372036854775807 ∧ Sized r.2.2 ∧ r.2.2.length ≤ r.2.1 ∧ (r.1 = none → r.2.1 = 0) ∧
      ∀ (W' : World) (sp : Nat → Bool), Below W.heap.size W W' → (∀ x ∈ z.2, sp x.block = true) → ∃ n', DataW.trod enc Try.prog W' 0 sp true n' 34 [v] = some z := by
  have hv : ∃ A l c, v = .slice A l c := by
    rcases open_slice Try.underlying34 h with ⟨hc, _⟩ | ⟨a, len, cap, _, _, _, _, hc, _⟩
    · exact ⟨none, 0, 0, by simpa using hc⟩
    · exact ⟨some a, len, cap, by simpa using hc⟩
  obtain ⟨A0, l0, c0, rfl⟩ := hv
  obtain ⟨A, c, xs, he, hF, hlen, hz, hcap, hnil, hback⟩ := es_open (enc := enc) (v0 := .slice A0 l0 c0) (d0 := z.1) (p0 := z.2) ⟨n, h⟩ ⟨_, _, _, rfl⟩
  refine ⟨(A, c, xs), he, hF, (by unfold maxLen at hlen; exact hlen), hz, hcap, hnil, fun W' sp hb hsp => ?_⟩
  obtain ⟨m, hm⟩ := hback W' sp hb hsp
  exact ⟨m, hm⟩
set_option maxRecDepth 100000 in
theorem rs_open {H : Type} {enc : TypeId × Value → H} {W : World} {v0 : Value} {d0 : DataW H} {p0 : List MemPlace} (h0 : DataW.Trod enc Try.prog W 0 (fun _ => true) true 22 v0 d0 p0) (hv : ∃ A l c, v0 = .slice A l c) :
    ∃ A c rs, v0 = .slice A rs.length c ∧ RsAt W A rs ∧ rs.length ≤ maxLen ∧ SizedM rs ∧ CapR rs ∧ rs.length ≤ c ∧ (A = none → c = 0) ∧
      ∀ (W' : World) (sp : Nat → Bool), Below W.heap.size W W' → (∀ x ∈ p0, sp x.block = true) → DataW.Trod enc Try.prog W' 0 sp true 22 v0 d0 p0 := by
  obtain ⟨A0, l0, c0, rfl⟩ := hv
  obtain ⟨n, h0⟩ := h0
  rcases open_slice1 Try.underlying22 ycSl h0 with ⟨hc, hx⟩ | ⟨a, len, cap, m, kk, V, D, Q, hc, hb0, hl, hm, hmm, hx, hall⟩
  · have hc : [Value.slice A0 l0 c0] = [.slice none 0 0] := hc
    simp only [List.cons.injEq, and_true, Value.slice.injEq] at hc
    obtain ⟨rfl, rfl, rfl⟩ := hc
    simp only [Prod.mk.injEq] at hx
    obtain ⟨rfl, rfl⟩ := hx
    exact ⟨none, 0, [], rfl, .inl rfl, by simp, fun x hx => (by cases hx), fun x hx => (by cases hx), Nat.le_refl _, fun _ => rfl, fun W' sp _ _ => ⟨1, by simp [DataW.trod, Try.underlying22, Value.cells]⟩⟩
  · have hc : [Value.slice A0 l0 c0] = [.slice (some a) len cap] := hc
    simp only [List.cons.injEq, and_true, Value.slice.injEq] at hc
    obtain ⟨rfl, rfl, rfl⟩ := hc
    simp only [if_true] at hmm
    subst hmm
    simp only [Prod.mk.injEq] at hx
    obtain ⟨rfl, rfl⟩ := hx
    have each : ∀ i, i < m → ∃ r : Rn, V i = .slice r.1 r.2.2.length r.2.1 ∧ (EsAt W r.1 r.2.2 ∧ r.2.2.length ≤ 9223372036854775807 ∧ Sized r.2.2 ∧ r.2.2.length ≤ r.2.1 ∧ (r.1 = none → r.2.1 = 0)) ∧
        ∀ (W' : World) (sp : Nat → Bool), Below W.heap.size W W' → (∀ x ∈ Q i, sp x.block = true) → ∃ n', DataW.trod enc Try.prog W' 0 sp true n' 34 [V i] = some (D i, Q i) := fun i hi => by
      obtain ⟨r, e1, e2, e3, e4, e5, e6, e7⟩ := run_elem (hall i hi).2
      exact ⟨r, e1, ⟨e2, e3, e4, e5, e6⟩, e7⟩
    obtain ⟨E, hE⟩ := choose_lt each
    have first : 0 < m → ∃ u, W.cell? (a.add 0) = some u := fun hm0 => ⟨_, (hall 0 hm0).1⟩
    refine ⟨some a, m, (List.range l0).map E, by simp, ?_, by simp; omega, fun x hx => ?_, fun x hx => ?_, by simp; omega, (fun h => by cases h), ?_⟩
    · by_cases hl0 : l0 = 0
      · subst hl0; exact .inl rfl
      · obtain ⟨u, h00⟩ := first (by omega)
        have hs := World.cell?_spot h00
        have hlt := Op.block_lt h00
        obtain ⟨b, off, spot⟩ := a
        have hspot : spot = none := by simpa [Addr.add] using hs
        subst hspot
        rw [Op.add_at'] at hlt
        refine .inr ⟨b, off, rfl, hlt, fun i hi => ?_⟩
        have hi' : i < l0 := by simpa using hi
        have g := (hall i (by omega)).1
        rw [Op.add_at', (hE i (by omega)).1] at g
        simp only [List.getElem_map, List.getElem_range]
        exact ⟨g, (hE i (by omega)).2.1.1⟩
    · obtain ⟨i, hi, rfl⟩ := List.mem_map.1 hx
      have q := (hE i (by have := List.mem_range.1 hi; omega)).2.1
      exact ⟨q.2.1, q.2.2.1⟩
    · obtain ⟨i, hi, rfl⟩ := List.mem_map.1 hx
      have q := (hE i (by have := List.mem_range.1 hi; omega)).2.1
      exact ⟨q.2.2.2.1, q.2.2.2.2⟩
    · intro W' sp hb hsp
      have hD : ∀ i, i < m → ∃ n', DataW.trod enc Try.prog W' 0 sp true n' 34 [V i] = some (D i, Q i) := fun i hi => (hE i hi).2.2 W' sp hb (fun x hx => hsp x (List.mem_append_right _ (List.mem_flatMap.2 ⟨i, List.mem_range.2 hi, hx⟩)))
      by_cases hm0 : m = 0
      · subst hm0
        obtain rfl : l0 = 0 := by omega
        cases hs : sp a.block with
        | true => exact shut_slice_whole_cells (enc := enc) (P := Try.prog) (w := W') (base := 0) (spare := sp) (held := true) (a := a) (len := 0) (cap := 0) Try.underlying22 (Nat.zero_le _) (Nat.le_refl _) (Nat.zero_le _) hs D Q (fun i hi => absurd hi (Nat.not_lt_zero _))
        | false => exact shut_slice_cells (enc := enc) (P := Try.prog) (w := W') (base := 0) (spare := sp) (held := true) (a := a) (len := 0) (cap := 0) Try.underlying22 (Nat.zero_le _) (Nat.le_refl _) (Nat.zero_le _) hs D Q (fun i hi => absurd hi (Nat.not_lt_zero _))
      · obtain ⟨u, h00⟩ := first (by omega)
        have hs := World.cell?_spot h00
        have hlt := Op.block_lt h00
        obtain ⟨b, off, spot⟩ := a
        have hspot : spot = none := by simpa [Addr.add] using hs
        subst hspot
        rw [Op.add_at'] at hlt
        have hspb : sp b = true := hsp (.cell b (off + 0)) (List.mem_append_left _ (by
          simp only [MemPlace.row, List.mem_map, List.mem_range]
          exact ⟨0, by omega, rfl⟩))
        have K := shut_slice_whole_cells (enc := enc) (P := Try.prog) (w := W') (base := 0) (spare := sp) (held := true) (a := ⟨b, off, none⟩) (len := l0) (cap := m) Try.underlying22 (Nat.zero_le _) hl hm hspb D Q (fun i hi => by
          obtain ⟨n', hn'⟩ := hD i hi
          refine ⟨[V i], n', ?_, hn'⟩
          rw [ycSl, Nat.mul_one, Op.add_at']
          refine cells?_of (Nat.zero_le _) rfl fun j hj => ?_
          obtain rfl : j = 0 := by omega
          have g := (hall i hi).1
          rw [Op.add_at'] at g
          rw [Nat.add_zero, hb.cell (p := ⟨b, off + i, none⟩) hlt]
          exact g)
        rw [ycSl, Nat.mul_one] at K
        exact K
end Go.Proofs.Ytebjhjmlpodkgaa.KK
