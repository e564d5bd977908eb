/-
  A slice of entries that came in: its length is at most its capacity; of none there is no room.
-/
import Derived.Test.YtmobjpmkenpckaaDoorFe
namespace Go.Proofs.YtmobjpmkenpckaaDoor.KK
open Go.ChangeShapes Go.WideShapes Go.ChangeAt Go.RowKit Go.Proofs Go.Lib Go.Joins Go.Deep

theorem es_cap {H : Type} {enc : TypeId × Value → H} {W : World} {A : Option Addr} {l c : Nat} {d0 : DataW H} {p0 : List MemPlace} (h0 : DataW.Trod enc Tryd.prog W 0 (fun _ => true) true 22 (.slice A l c) d0 p0) : l ≤ c ∧ (A = none → c = 0) := by
  obtain ⟨n, h0⟩ := h0
  rcases open_slice Tryd.underlying22 h0 with ⟨hc, hx⟩ | ⟨a, len, cap, m, k, D, P, hc, hb0, hl, hm, hmm, hx, hall⟩
  · have hc : [Value.slice A l c] = [.slice none 0 0] := hc
    simp only [List.cons.injEq, and_true, Value.slice.injEq] at hc
    obtain ⟨rfl, rfl, rfl⟩ := hc
    exact ⟨Nat.le_refl _, fun _ => rfl⟩
  · have hc : [Value.slice A l c] = [.slice (some a) len cap] := hc
    simp only [List.cons.injEq, and_true, Value.slice.injEq] at hc
    obtain ⟨rfl, rfl, rfl⟩ := hc
    exact ⟨hl, fun e => by cases e⟩
end Go.Proofs.YtmobjpmkenpckaaDoor.KK
