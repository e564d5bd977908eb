/-
  An argument that is a slice of entries: opened, and read again.
-/
import Derived.Test.YtmobjpmkenpckaaDoorEy
import Derived.Test.YtmobjpmkenpckaaDoorFa
import Derived.Deep.SlicePairs
namespace Go.Proofs.YtmobjpmkenpckaaDoor.KK
open Go.ChangeShapes Go.ChangeMaps Go.WideShapes Go.ChangeAt Go.RowKit Go.Proofs Go.Lib Go.Joins Go.Deep

theorem ycEnt : Tryd.prog.cellsOf 33 = 4 := by kernel_rfl
theorem ycStr : Tryd.prog.cellsOf 9 = 1 := by kernel_rfl
theorem ycBool : Tryd.prog.cellsOf 4 = 1 := by kernel_rfl
theorem ycI64 : Tryd.prog.cellsOf 2 = 1 := by kernel_rfl
theorem block_lt {w : World} {a : Addr} {v : Value} (h : w.cell? a = some v) : a.block < w.heap.size := by
  rcases Nat.lt_or_ge a.block w.heap.size with h' | h'
  · exact h'
  · simp [World.cell?, Array.getElem?_eq_none h'] at h
def cells4 (x : El.En) : List Value := [.string x.1, .string x.2.1, .bool x.2.2.1, .int .i64 x.2.2.2]
set_option maxRecDepth 100000 in
theorem entry_trod {H : Type} {enc : TypeId × Value → H} {W : World} {b n : Nat} {sp : Nat → Bool} {hd : Bool} {cs : List Value} {z : DataW H × List MemPlace} (h : DataW.trod enc Tryd.prog W b sp hd n 33 cs = some z) :
    ∃ x : El.En, cs = cells4 x ∧ x.1.size ≤ maxLen ∧ x.2.1.size ≤ maxLen ∧ z.2 = [] ∧ ∀ (W' : World) (b' : Nat) (sp' : Nat → Bool) (hd' : Bool), ∃ n', DataW.trod enc Tryd.prog W' b' sp' hd' n' 33 cs = some z := by
  obtain ⟨y0, y1, y2, y3, m, rfl, hl, h0, h1, h2, h3⟩ := trod_struct4 Tryd.underlying33 h
  rw [ycEnt] at hl
  match cs, hl with
  | [c0, c1, c2, c3], _ =>
    simp only [ycStr, ycBool, ycI64, List.drop_zero, List.drop_succ_cons, List.take_succ_cons, List.take_zero] at h0 h1 h2 h3
    obtain ⟨k, e0, x0, hk⟩ := DataW.trod_string Tryd.underlying9 h0
    obtain ⟨x, e1, x1, hx⟩ := DataW.trod_string Tryd.underlying9 h1
    obtain ⟨dd, e2, x2⟩ := DataW.trod_bool Tryd.underlying4 h2
    obtain ⟨q, e3, x3, hq⟩ := DataW.trod_int Tryd.underlying2 h3
    simp only [List.cons.injEq, and_true] at e0 e1 e2 e3
    subst e0 e1 e2 e3 x0 x1 x2 x3
    refine ⟨(k, x, dd, q), rfl, hk, hx, rfl, fun W' b' sp' hd' => ?_⟩
    obtain ⟨n0, t0⟩ : ∃ n, DataW.trod enc Tryd.prog W' b' sp' hd' n 9 [.string k] = some (.lit (.string k.data.toList), []) := by
      obtain ⟨m, hm⟩ := shut_string (enc := enc) (P := Tryd.prog) (w := W') (base := b') (sp := sp') (held := hd') Tryd.underlying9 hk
      exact ⟨m, by simpa [Value.cells] using hm⟩
    obtain ⟨n1, t1⟩ : ∃ n, DataW.trod enc Tryd.prog W' b' sp' hd' n 9 [.string x] = some (.lit (.string x.data.toList), []) := by
      obtain ⟨m, hm⟩ := shut_string (enc := enc) (P := Tryd.prog) (w := W') (base := b') (sp := sp') (held := hd') Tryd.underlying9 hx
      exact ⟨m, by simpa [Value.cells] using hm⟩
    obtain ⟨n2, t2⟩ : ∃ n, DataW.trod enc Tryd.prog W' b' sp' hd' n 4 [.bool dd] = some (.lit (.bool dd), []) := by
      have hbl : DataW.Trod enc Tryd.prog W' b' sp' hd' 4 (.bool dd) (.lit (.bool dd)) [] := shut_bool Tryd.underlying4 dd
      obtain ⟨m, hm⟩ := hbl
      exact ⟨m, by simpa [Value.cells] using hm⟩
    have t3 : DataW.trod enc Tryd.prog W' b' sp' hd' 1 2 [.int .i64 q] = some (.lit (.int .i64 q), []) := trod_int_mk 0 Tryd.underlying2 hq
    have g0 := DataW.trod_le (show n0 ≤ n0 + n1 + n2 + 1 by omega) t0
    have g1 := DataW.trod_le (show n1 ≤ n0 + n1 + n2 + 1 by omega) t1
    have g2 := DataW.trod_le (show n2 ≤ n0 + n1 + n2 + 1 by omega) t2
    have g3 := DataW.trod_le (show 1 ≤ n0 + n1 + n2 + 1 by omega) t3
    exact ⟨_, trod_struct4_mk (cs := [.string k, .string x, .bool dd, .int .i64 q]) Tryd.underlying33 (by rw [ycEnt]; rfl)
      (by simp only [ycStr, List.drop_zero, List.take_succ_cons, List.take_zero]; exact g0) (by simp only [ycStr, List.drop_succ_cons, List.drop_zero, List.take_succ_cons, List.take_zero]; exact g1)
      (by simp only [ycBool, List.drop_succ_cons, List.drop_zero, List.take_succ_cons, List.take_zero]; exact g2) (by simp only [ycI64, List.drop_succ_cons, List.drop_zero, List.take_succ_cons, List.take_zero]; exact g3)⟩
set_option maxRecDepth 100000 in
theorem es_open {H : Type} {enc : TypeId × Value → H} {W : World} {v0 : Value} {d0 : DataW H} {p0 : List MemPlace} (h0 : DataW.Trod enc Tryd.prog W 0 (fun _ => true) true 22 v0 d0 p0) (hv : ∃ A l c, v0 = .slice A l c) :
    ∃ A c xs, v0 = .slice A xs.length c ∧ EsAt W A xs ∧ xs.length ≤ maxLen ∧ Sized xs ∧
      ∀ (W' : World) (sp : Nat → Bool), Below W.heap.size W W' → (∀ x ∈ p0, sp x.block = true) → DataW.Trod enc Tryd.prog W' 0 sp true 22 v0 d0 p0 := by
  obtain ⟨A0, l0, c0, rfl⟩ := hv
  obtain ⟨n, h0⟩ := h0
  rcases open_slice Tryd.underlying22 h0 with ⟨hc, hx⟩ | ⟨a, len, cap, m, k, D, P, hc, hb0, hl, hm, hmm, hx, hall⟩
  · have hc : [Value.slice A0 l0 c0] = [.slice none 0 0] := hc
    simp only [List.cons.injEq, and_true, Value.slice.injEq] at hc
    obtain ⟨rfl, rfl, rfl⟩ := hc
    simp only [Prod.mk.injEq] at hx
    obtain ⟨rfl, rfl⟩ := hx
    exact ⟨none, 0, [], rfl, .inl rfl, by simp, fun x hx => (by cases hx), fun W' sp _ _ => ⟨1, by simp [DataW.trod, Tryd.underlying22, Value.cells]⟩⟩
  · have hc : [Value.slice A0 l0 c0] = [.slice (some a) len cap] := hc
    simp only [List.cons.injEq, and_true, Value.slice.injEq] at hc
    obtain ⟨rfl, rfl, rfl⟩ := hc
    simp only [if_true] at hmm
    subst hmm
    simp only [Prod.mk.injEq] at hx
    obtain ⟨rfl, rfl⟩ := hx
    have each : ∀ i, i < m → ∃ x : El.En, W.cells? 0 (a.add (i * 4)) 4 = some (cells4 x) ∧ x.1.size ≤ maxLen ∧ x.2.1.size ≤ maxLen ∧ P i = [] ∧ ∀ (W' : World) (b' : Nat) (sp' : Nat → Bool) (hd' : Bool), ∃ n', DataW.trod enc Tryd.prog W' b' sp' hd' n' 33 (cells4 x) = some (D i, P i) := fun i hi => by
      obtain ⟨cs', h1, h2⟩ := hall i hi
      rw [ycEnt] at h1
      obtain ⟨x, rfl, e1, e2, e3, e4⟩ := entry_trod h2
      exact ⟨x, h1, e1, e2, e3, e4⟩
    obtain ⟨E, hE⟩ := choose_lt each
    have hcell : ∀ i, i < m → ∀ j (hj : j < 4), W.cell? ((a.add (i * 4)).add j) = (cells4 (E i))[j]? := fun i hi j hj => by
      obtain ⟨_, hlen, hc⟩ := World.cells?_some (hE i hi).1
      exact hc j hj
    refine ⟨some a, m, (List.range l0).map E, by simp, ?_, by simp; omega, fun x hx => ?_, ?_⟩
    · by_cases hl0 : l0 = 0
      · subst hl0; exact .inl rfl
      · have h00 : _ = some (Value.string (E 0).1) := (hcell 0 (by omega) 0 (by omega)).trans rfl
        rw [add_add] at h00
        have hs := World.cell?_spot h00
        have hlt := block_lt h00
        obtain ⟨b, off, spot⟩ := a
        have hspot : spot = none := by simpa [Addr.add] using hs
        subst hspot
        rw [add_at'] at hlt
        refine .inr ⟨b, off, rfl, hlt, fun i hi => ?_⟩
        have hi' : i < l0 := by simpa using hi
        have g := fun j hj => hcell i (by omega) j hj
        simp only [add_at'] at g
        simp only [List.getElem_map, List.getElem_range]
        exact ⟨g 0 (by omega), g 1 (by omega), g 2 (by omega), g 3 (by omega)⟩
    · obtain ⟨i, hi, rfl⟩ := List.mem_map.1 hx
      have := hE i (by have := List.mem_range.1 hi; omega)
      unfold maxLen at this
      omega
    · intro W' sp hb hsp
      by_cases hm0 : m = 0
      · subst hm0
        obtain rfl : l0 = 0 := by omega
        cases hs : sp a.block with
        | true => exact shut_slice_whole_cells (enc := enc) (P := Tryd.prog) (w := W') (base := 0) (spare := sp) (held := true) (a := a) (len := 0) (cap := 0) Tryd.underlying22 (Nat.zero_le _) (Nat.le_refl _) (Nat.zero_le _) hs D P (fun i hi => absurd hi (Nat.not_lt_zero _))
        | false => exact shut_slice_cells (enc := enc) (P := Tryd.prog) (w := W') (base := 0) (spare := sp) (held := true) (a := a) (len := 0) (cap := 0) Tryd.underlying22 (Nat.zero_le _) (Nat.le_refl _) (Nat.zero_le _) hs D P (fun i hi => absurd hi (Nat.not_lt_zero _))
      · have h00 : _ = some (Value.string (E 0).1) := (hcell 0 (by omega) 0 (by omega)).trans rfl
        rw [add_add] at h00
        have hs := World.cell?_spot h00
        have hlt := block_lt h00
        obtain ⟨b, off, spot⟩ := a
        have hspot : spot = none := by simpa [Addr.add] using hs
        subst hspot
        rw [add_at'] at hlt
        have hspb : sp b = true := hsp (.cell b (off + 0)) (List.mem_append_left _ (by
          simp only [MemPlace.row, List.mem_map, List.mem_range, ycEnt]
          exact ⟨0, by omega, rfl⟩))
        refine shut_slice_whole_cells (enc := enc) (P := Tryd.prog) (w := W') (base := 0) (spare := sp) (held := true) (a := ⟨b, off, none⟩) Tryd.underlying22 (Nat.zero_le _) hl hm hspb D P (fun i hi => ?_)
        obtain ⟨n', hn'⟩ := (hE i hi).2.2.2.2 W' 0 sp true
        refine ⟨cells4 (E i), n', ?_, hn'⟩
        rw [ycEnt, add_at']
        refine cells?_of (Nat.zero_le _) rfl fun j hj => ?_
        have g := hcell i hi j hj
        rw [add_at', add_at'] at g
        rw [hb.cell (p := ⟨b, off + i * 4 + j, none⟩) hlt]
        exact g
end Go.Proofs.YtmobjpmkenpckaaDoor.KK
