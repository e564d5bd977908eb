/-
  An argument that is a slice of structs by value, whatever they hold: opened, and read again. A value that reads the same wherever it lies.
-/
import Derived.Test.YtebjhjmlpodkgaaRows
import Derived.MakeChecks
import Derived.Deep.DeepHandedRow
import Derived.Lay
import Derived.Lib.SmallJoins
import Derived.OpenShut
import Derived.WalkKit
import Derived.ProofKit
import Derived.Deep.SlicePairs
namespace Go.Proofs.Ytebjhjmlpodkgaa.Op
open Go.ChangeShapes Go.ChangeMaps Go.WideShapes Go.ChangeAt Go.RowKit Go.Proofs Go.Lib Go.Joins Go.Deep

section
variable {P : Program}
theorem block_lt {w : World} {a : Addr} {v : Value} (h : w.cell? a = some v) : a.block < w.heap.size := by
  rcases Nat.lt_or_ge a.block w.heap.size with h' | h'
  · exact h'
  · simp [World.cell?, Array.getElem?_eq_none h'] at h
theorem add_at' (b off j : Nat) : (⟨b, off, none⟩ : Addr).add j = ⟨b, off + j, none⟩ := by unfold Addr.add; split <;> simp_all
/-- cells that read the same wherever they lie -/
def Same {H : Type} (enc : TypeId × Value → H) (P : Program) (t : TypeId) (cs : List Value) (z : DataW H × List MemPlace) : Prop :=
  ∀ (W' : World) (b' : Nat) (sp' : Nat → Bool) (hd' : Bool), ∃ n', DataW.trod enc P W' b' sp' hd' n' t cs = some z
theorem int_same {H : Type} {enc : TypeId × Value → H} {t : TypeId} {k : IntKind} {n : Int} (ht : P.underlying t = some (.int k)) (hw : (Lit.int k n).wf = true) : Same enc P t [.int k n] (.lit (.int k n), []) := fun W' b' sp' hd' => ⟨_, trod_int_mk 0 ht hw⟩
theorem str_same {H : Type} {enc : TypeId × Value → H} {t : TypeId} {s : ByteArray} (ht : P.underlying t = some .string) (hs : s.size ≤ maxLen) : Same enc P t [.string s] (.lit (.string s.data.toList), []) := fun W' b' sp' hd' => by
  obtain ⟨m, hm⟩ := shut_string (enc := enc) (P := P) (w := W') (base := b') (sp := sp') (held := hd') ht hs
  exact ⟨m, by simpa [Value.cells] using hm⟩
theorem bool_same {H : Type} {enc : TypeId × Value → H} {t : TypeId} {d : Bool} (ht : P.underlying t = some .bool) : Same enc P t [.bool d] (.lit (.bool d), []) := fun W' b' sp' hd' => by
  have hbl : DataW.Trod enc P W' b' sp' hd' t (.bool d) (.lit (.bool d)) [] := shut_bool ht d
  obtain ⟨m, hm⟩ := hbl
  exact ⟨m, by simpa [Value.cells] using hm⟩
theorem struct3_same {H : Type} {enc : TypeId × Value → H} {t : TypeId} {f0 f1 f2 : Field} {cs : List Value} {y0 y1 y2 : DataW H × List MemPlace} (ht : P.underlying t = some (.struct #[f0, f1, f2])) (hl : cs.length = P.cellsOf t)
    (h0 : Same enc P f0.type ((cs.drop f0.offset).take (P.cellsOf f0.type)) y0) (h1 : Same enc P f1.type ((cs.drop f1.offset).take (P.cellsOf f1.type)) y1) (h2 : Same enc P f2.type ((cs.drop f2.offset).take (P.cellsOf f2.type)) y2) :
    Same enc P t cs (.agg [y0.1, y1.1, y2.1], y0.2 ++ (y1.2 ++ y2.2)) := fun W' b' sp' hd' => by
  obtain ⟨n0, t0⟩ := h0 W' b' sp' hd'
  obtain ⟨n1, t1⟩ := h1 W' b' sp' hd'
  obtain ⟨n2, t2⟩ := h2 W' b' sp' hd'
  exact ⟨_, trod_struct3_mk ht hl (DataW.trod_le (show n0 ≤ n0 + n1 + n2 by omega) t0) (DataW.trod_le (show n1 ≤ n0 + n1 + n2 by omega) t1) (DataW.trod_le (show n2 ≤ n0 + n1 + n2 by omega) t2)⟩
theorem struct4_same {H : Type} {enc : TypeId × Value → H} {t : TypeId} {f0 f1 f2 f3 : Field} {cs : List Value} {y0 y1 y2 y3 : DataW H × List MemPlace} (ht : P.underlying t = some (.struct #[f0, f1, f2, f3])) (hl : cs.length = P.cellsOf t)
    (h0 : Same enc P f0.type ((cs.drop f0.offset).take (P.cellsOf f0.type)) y0) (h1 : Same enc P f1.type ((cs.drop f1.offset).take (P.cellsOf f1.type)) y1) (h2 : Same enc P f2.type ((cs.drop f2.offset).take (P.cellsOf f2.type)) y2) (h3 : Same enc P f3.type ((cs.drop f3.offset).take (P.cellsOf f3.type)) y3) :
    Same enc P t cs (.agg [y0.1, y1.1, y2.1, y3.1], y0.2 ++ (y1.2 ++ (y2.2 ++ y3.2))) := fun W' b' sp' hd' => by
  obtain ⟨n0, t0⟩ := h0 W' b' sp' hd'
  obtain ⟨n1, t1⟩ := h1 W' b' sp' hd'
  obtain ⟨n2, t2⟩ := h2 W' b' sp' hd'
  obtain ⟨n3, t3⟩ := h3 W' b' sp' hd'
  exact ⟨_, trod_struct4_mk ht hl (DataW.trod_le (show n0 ≤ n0 + n1 + n2 + n3 by omega) t0) (DataW.trod_le (show n1 ≤ n0 + n1 + n2 + n3 by omega) t1) (DataW.trod_le (show n2 ≤ n0 + n1 + n2 + n3 by omega) t2) (DataW.trod_le (show n3 ≤ n0 + n1 + n2 + n3 by omega) t3)⟩
/-- a list of things of k cells each lies there -/
def At {X : Type} (k : Nat) (cells : X → List Value) (W : World) (A : Option Addr) (xs : List X) : Prop :=
  xs = [] ∨ ∃ b off, A = some ⟨b, off, none⟩ ∧ b < W.heap.size ∧ ∀ (i : Nat) (h : i < xs.length) (j : Nat), j < k → W.cell? ⟨b, off + i * k + j, none⟩ = (cells xs[i])[j]?
set_option maxRecDepth 100000 in
theorem open_list {X : Type} [Inhabited X] {H : Type} {enc : TypeId × Value → H} {ST T : TypeId} (hST : P.underlying ST = some (.slice T)) (k : Nat) (hk : 0 < k) (hT : P.cellsOf T = k) (cells : X → List Value) (hlen : ∀ x, (cells x).length = k) (good : X → Prop)
    (elem : ∀ {W : World} {b n : Nat} {sp : Nat → Bool} {hd : Bool} {cs : List Value} {z : DataW H × List MemPlace}, DataW.trod enc P W b sp hd n T cs = some z → ∃ x, cs = cells x ∧ good x ∧ Same enc P T cs z)
    {W : World} {v0 : Value} {d0 : DataW H} {p0 : List MemPlace} (h0 : DataW.Trod enc P W 0 (fun _ => true) true ST v0 d0 p0) (hv : ∃ A l c, v0 = .slice A l c) :
    ∃ A c xs, v0 = .slice A xs.length c ∧ At k cells W A xs ∧ xs.length ≤ maxLen ∧ (∀ x ∈ xs, good x) ∧ xs.length ≤ c ∧ (A = none → c = 0) ∧
      ∀ (W' : World) (sp : Nat → Bool), Below W.heap.size W W' → (∀ x ∈ p0, sp x.block = true) → DataW.Trod enc P W' 0 sp true ST v0 d0 p0 := by
  obtain ⟨A0, l0, c0, rfl⟩ := hv
  obtain ⟨n, h0⟩ := h0
  rcases open_slice hST h0 with ⟨hc, hx⟩ | ⟨a, len, cap, m, kk, D, Q, hc, hb0, hl, hm, hmm, hx, hall⟩
  · have hc : [Value.slice A0 l0 c0] = [.slice none 0 0] := hc
    simp only [List.cons.injEq, and_true, Value.slice.injEq] at hc
    obtain ⟨rfl, rfl, rfl⟩ := hc
    simp only [Prod.mk.injEq] at hx
    obtain ⟨rfl, rfl⟩ := hx
    exact ⟨none, 0, [], rfl, .inl rfl, by simp, fun x hx => (by cases hx), Nat.le_refl _, fun _ => rfl, fun W' sp _ _ => ⟨1, by simp [DataW.trod, hST, Value.cells]⟩⟩
  · have hc : [Value.slice A0 l0 c0] = [.slice (some a) len cap] := hc
    simp only [List.cons.injEq, and_true, Value.slice.injEq] at hc
    obtain ⟨rfl, rfl, rfl⟩ := hc
    simp only [if_true] at hmm
    subst hmm
    simp only [Prod.mk.injEq] at hx
    obtain ⟨rfl, rfl⟩ := hx
    have each : ∀ i, i < m → ∃ x : X, W.cells? 0 (a.add (i * k)) k = some (cells x) ∧ good x ∧ Same enc P T (cells x) (D i, Q i) := fun i hi => by
      obtain ⟨cs', h1, h2⟩ := hall i hi
      rw [hT] at h1
      obtain ⟨x, rfl, e1, e2⟩ := elem h2
      exact ⟨x, h1, e1, e2⟩
    obtain ⟨E, hE⟩ := choose_lt each
    have hcell : ∀ i, i < m → ∀ j (hj : j < k), W.cell? ((a.add (i * k)).add j) = (cells (E i))[j]? := fun i hi j hj => by
      obtain ⟨_, hlen', hc⟩ := World.cells?_some (hE i hi).1
      exact hc j hj
    have first : 0 < m → ∃ u, W.cell? ((a.add (0 * k)).add 0) = some u := fun hm0 => by
      have := hcell 0 hm0 0 hk
      rw [List.getElem?_eq_getElem (by rw [hlen]; exact hk)] at this
      exact ⟨_, this⟩
    refine ⟨some a, m, (List.range l0).map E, by simp, ?_, by simp; omega, fun x hx => ?_, by simp; omega, (fun h => by cases h), ?_⟩
    · by_cases hl0 : l0 = 0
      · subst hl0; exact .inl rfl
      · obtain ⟨u, h00⟩ := first (by omega)
        rw [add_add] at h00
        have hs := World.cell?_spot h00
        have hlt := block_lt h00
        obtain ⟨b, off, spot⟩ := a
        have hspot : spot = none := by simpa [Addr.add] using hs
        subst hspot
        rw [add_at'] at hlt
        refine .inr ⟨b, off, rfl, hlt, fun i hi j hj => ?_⟩
        have hi' : i < l0 := by simpa using hi
        have g := hcell i (by omega) j hj
        simp only [add_at'] at g
        simp only [List.getElem_map, List.getElem_range]
        exact g
    · obtain ⟨i, hi, rfl⟩ := List.mem_map.1 hx
      exact (hE i (by have := List.mem_range.1 hi; omega)).2.1
    · intro W' sp hb hsp
      by_cases hm0 : m = 0
      · subst hm0
        obtain rfl : l0 = 0 := by omega
        cases hs : sp a.block with
        | true => exact shut_slice_whole_cells (enc := enc) (P := P) (w := W') (base := 0) (spare := sp) (held := true) (a := a) (len := 0) (cap := 0) hST (Nat.zero_le _) (Nat.le_refl _) (Nat.zero_le _) hs D Q (fun i hi => absurd hi (Nat.not_lt_zero _))
        | false => exact shut_slice_cells (enc := enc) (P := P) (w := W') (base := 0) (spare := sp) (held := true) (a := a) (len := 0) (cap := 0) hST (Nat.zero_le _) (Nat.le_refl _) (Nat.zero_le _) hs D Q (fun i hi => absurd hi (Nat.not_lt_zero _))
      · obtain ⟨u, h00⟩ := first (by omega)
        rw [add_add] at h00
        have hs := World.cell?_spot h00
        have hlt := block_lt h00
        obtain ⟨b, off, spot⟩ := a
        have hspot : spot = none := by simpa [Addr.add] using hs
        subst hspot
        rw [add_at'] at hlt
        have hspb : sp b = true := hsp (.cell b (off + 0)) (List.mem_append_left _ (by
          simp only [MemPlace.row, List.mem_map, List.mem_range, hT]
          exact ⟨0, Nat.mul_pos (by omega) hk, rfl⟩))
        refine shut_slice_whole_cells (enc := enc) (P := P) (w := W') (base := 0) (spare := sp) (held := true) (a := ⟨b, off, none⟩) hST (Nat.zero_le _) hl hm hspb D Q (fun i hi => ?_)
        obtain ⟨n', hn'⟩ := (hE i hi).2.2 W' 0 sp true
        refine ⟨cells (E i), n', ?_, hn'⟩
        rw [hT, add_at']
        refine cells?_of (Nat.zero_le _) (hlen _) fun j hj => ?_
        have g := hcell i hi j hj
        rw [add_at', add_at'] at g
        rw [hb.cell (p := ⟨b, off + i * k + j, none⟩) hlt]
        exact g
end
end Go.Proofs.Ytebjhjmlpodkgaa.Op
