/-
  An argument that is a slice of fields: opened, and read again.
-/
import Derived.Test.YthifbihmogjjpaaDoorYa
import Derived.Test.YthifbihmogjjpaaDoorWk
import Derived.Deep.SlicePairs
import Derived.OpenShut
namespace Go.Proofs.YthifbihmogjjpaaDoor
open Go.ChangeShapes Go.ChangeMaps Go.WideShapes Go.ChangeAt Go.RowKit Go.Proofs Go.Deep

theorem ycField : Tryd.prog.cellsOf 48 = 2 := by kernel_rfl
theorem ycStr : Tryd.prog.cellsOf 9 = 1 := by kernel_rfl
theorem ycBool : Tryd.prog.cellsOf 4 = 1 := by kernel_rfl
def sOf (v : Value) : List UInt8 := match v with | .string s => s.data.toList | _ => []
def bOf (v : Value) : Bool := match v with | .bool b => b | _ => false

theorem add_at (b off j : Nat) : (⟨b, off, none⟩ : Addr).add j = ⟨b, off + j, none⟩ := by unfold Addr.add; split <;> simp_all
theorem block_lt {w : World} {a : Addr} {v : Value} (h : w.cell? a = some v) : a.block < w.heap.size := by
  rcases Nat.lt_or_ge a.block w.heap.size with h' | h'
  · exact h'
  · simp [World.cell?, Array.getElem?_eq_none h'] at h

set_option maxRecDepth 100000 in
theorem fields_open {H : Type} {enc : TypeId × Value → H} {W : World} {v0 : Value} {d0 : DataW H} {p0 : List MemPlace} (h0 : DataW.Trod enc Tryd.prog W 0 (fun _ => true) true 23 v0 d0 p0) (hv : ∃ A l c, v0 = .slice A l c) :
    ∃ A c fs, v0 = .slice A fs.length c ∧ FldsAt W A fs ∧ fs.length ≤ maxLen ∧
      ∀ (W' : World) (sp : Nat → Bool), Below W.heap.size W W' → (∀ x ∈ p0, sp x.block = true) → DataW.Trod enc Tryd.prog W' 0 sp true 23 v0 d0 p0 := by
  obtain ⟨A0, l0, c0, rfl⟩ := hv
  obtain ⟨n, h0⟩ := h0
  rcases open_slice_pairs Tryd.underlying23 Tryd.underlying48 ycField rfl rfl ycStr ycBool h0 with ⟨hc, hx⟩ | ⟨a, len, cap, m, k, V0, V1, D0, D1, P0, P1, hc, _, hl, hm, hmm, hx, hall⟩
  · have hc : [Value.slice A0 l0 c0] = [.slice none 0 0] := hc
    simp only [List.cons.injEq, and_true, Value.slice.injEq] at hc
    obtain ⟨rfl, rfl, rfl⟩ := hc
    simp only [Prod.mk.injEq] at hx
    obtain ⟨rfl, rfl⟩ := hx
    exact ⟨none, 0, [], rfl, .inl rfl, by simp, fun W' sp _ _ => ⟨1, by simp [DataW.trod, Tryd.underlying23, Value.cells]⟩⟩
  · have hc : [Value.slice A0 l0 c0] = [.slice (some a) len cap] := hc
    simp only [List.cons.injEq, and_true, Value.slice.injEq] at hc
    obtain ⟨rfl, rfl, rfl⟩ := hc
    simp only [if_true] at hmm
    subst hmm
    simp only [Prod.mk.injEq] at hx
    obtain ⟨rfl, rfl⟩ := hx
    have hstr : ∀ i, i < m → V0 i = .string ⟨(sOf (V0 i)).toArray⟩ := fun i hi => by
      obtain ⟨s, h1, h2⟩ := DataW.trod_string Tryd.underlying9 (hall i hi).2.2.1
      simp only [List.cons.injEq, and_true] at h1
      rw [h1]
      simp [sOf]
    have hbool : ∀ i, i < m → V1 i = .bool (bOf (V1 i)) := fun i hi => by
      obtain ⟨s, h1, h2⟩ := DataW.trod_bool Tryd.underlying4 (hall i hi).2.2.2
      simp only [List.cons.injEq, and_true] at h1
      rw [h1]; rfl
    refine ⟨some a, m, (List.range l0).map fun i => (sOf (V0 i), bOf (V1 i)), by simp, ?_, by simp; omega, ?_⟩
    · by_cases hl0 : l0 = 0
      · subst hl0; exact .inl rfl
      · have hs := World.cell?_spot (hall 0 (by omega)).1
        have hlt := block_lt (hall 0 (by omega)).1
        obtain ⟨b, off, spot⟩ := a
        have hspot : spot = none := by simpa [Addr.add] using hs
        subst hspot
        rw [add_at] at hlt
        refine .inr ⟨b, off, rfl, hlt, fun i hi => ?_⟩
        have hi' : i < l0 := by simpa using hi
        have h1 := (hall i (by omega)).1
        have h2 := (hall i (by omega)).2.1
        rw [add_at] at h1 h2
        simp only [List.getElem_map, List.getElem_range]
        rw [← hstr i (by omega), ← hbool i (by omega)]
        exact ⟨h1, by rw [show off + i * 2 + 1 = off + (i * 2 + 1) by omega]; exact h2⟩
    · intro W' sp hb hsp
      have tstr : ∀ i, i < m → ∃ n, DataW.trod enc Tryd.prog W' 0 sp true n 9 [V0 i] = some (D0 i, P0 i) := fun i hi => by
        obtain ⟨s, h1, h2, h3⟩ := DataW.trod_string Tryd.underlying9 (hall i hi).2.2.1
        simp only [List.cons.injEq, and_true] at h1
        rw [h1, h2]
        exact shut_string Tryd.underlying9 h3
      have tbool : ∀ i, i < m → ∃ n, DataW.trod enc Tryd.prog W' 0 sp true n 4 [V1 i] = some (D1 i, P1 i) := fun i hi => by
        obtain ⟨s, h1, h2⟩ := DataW.trod_bool Tryd.underlying4 (hall i hi).2.2.2
        simp only [List.cons.injEq, and_true] at h1
        rw [h1, h2]
        exact shut_bool Tryd.underlying4 s
      by_cases hm0 : m = 0
      · subst hm0
        obtain rfl : l0 = 0 := by omega
        cases hs : sp a.block with
        | true =>
          obtain ⟨n, hn⟩ := shut_slice_whole_cells (enc := enc) (P := Tryd.prog) (w := W') (base := 0) (spare := sp) (held := true) (a := a) (len := 0) (cap := 0) Tryd.underlying23 (Nat.zero_le _) (Nat.le_refl _) (Nat.zero_le _) hs (fun i => .agg [D0 i, D1 i]) (fun i => P0 i ++ P1 i) (fun i hi => absurd hi (Nat.not_lt_zero _))
          exact ⟨n, by rw [ycField] at hn; exact hn⟩
        | false =>
          obtain ⟨n, hn⟩ := shut_slice_cells (enc := enc) (P := Tryd.prog) (w := W') (base := 0) (spare := sp) (held := true) (a := a) (len := 0) (cap := 0) Tryd.underlying23 (Nat.zero_le _) (Nat.le_refl _) (Nat.zero_le _) hs (fun i => .agg [D0 i, D1 i]) (fun i => P0 i ++ P1 i) (fun i hi => absurd hi (Nat.not_lt_zero _))
          exact ⟨n, by rw [ycField] at hn; exact hn⟩
      · have hs := World.cell?_spot (hall 0 (by omega)).1
        have hlt := block_lt (hall 0 (by omega)).1
        obtain ⟨b, off, spot⟩ := a
        have hspot : spot = none := by simpa [Addr.add] using hs
        subst hspot
        rw [add_at] at hlt
        have hspb : sp b = true := hsp (.cell b (off + 0)) (List.mem_append_left _ (by
          simp only [MemPlace.row, List.mem_map, List.mem_range]
          exact ⟨0, by omega, rfl⟩))
        exact shut_slice_pairs_whole Tryd.underlying23 Tryd.underlying48 ycField rfl rfl ycStr ycBool (Nat.zero_le _) hl hm hspb V0 V1 D0 D1 P0 P1
          (fun i hi => by have h1 := (hall i hi).1; rw [add_at] at h1; rw [hb.cell (p := ⟨b, off + i * 2, none⟩) hlt]; exact h1)
          (fun i hi => by have h1 := (hall i hi).2.1; rw [add_at] at h1; rw [hb.cell (p := ⟨b, off + i * 2 + 1, none⟩) hlt, show off + i * 2 + 1 = off + (i * 2 + 1) by omega]; exact h1) tstr tbool
end Go.Proofs.YthifbihmogjjpaaDoor
