/-
  The law's Far.
-/
import Derived.Test.YtbgpcmpbfenplaaUf
namespace Go.Proofs.Ytbgpcmpbfenplaa.KK
open Go.ChangeShapes Go.WideShapes Go.ChangeAt Go.RowKit Go.Proofs

/-- what Far answers: at most 4005 pairs where it says no -/
def FarOut (n : Nat) (w : World) (e : Ending) (w' : World) : Prop := ∃ b, e = .returned (.bool b) ∧ (b = false → n ≤ 4005) ∧ Below w.heap.size w w'
theorem FarOut.yes {n : Nat} {w w' : World} (h : Below w.heap.size w w') : FarOut n w (.returned (.bool true)) w' := ⟨true, rfl, (fun e => by cases e), h⟩
theorem FarOut.no {n : Nat} {w w' : World} (hn : n ≤ 4005) (h : Below w.heap.size w w') : FarOut n w (.returned (.bool false)) w' := ⟨false, rfl, fun _ => hn, h⟩
set_option maxRecDepth 100000 in
set_option maxHeartbeats 1000000 in
theorem far_any (A : Option Addr) (c : Nat) (xs : List Pr) (w : World) (hf : PsAt w A xs) (hn : xs.length ≤ 9223372036854775807) (hs : SizedP xs) :
    Calls Try.prog 9 #[.slice A xs.length c] w fun e w' => FarOut xs.length w e w' := by
  have HF := Lib.hid hf
  have HS := Lib.hid hs
  obtain ⟨n, hnn⟩ : ∃ n, xs.length = n := ⟨_, rfl⟩
  rw [hnn] at hn ⊢
  have HN := Lib.hid hnn
  clear hf hs hnn
  by_cases h5 : 4005 < n
  · have h60 : 60 < n := by omega
    have h4 : ¬ n < 4000 := by omega
    go_enter Try.func9, Try.ntmps9
    go_wp2_with fail
    go_ret
    exact .yes (Below.refl _ _)
  by_cases h60 : 60 < n
  · by_cases h4 : n < 4000
    · go_enter Try.func9, Try.ntmps9
      go_wp2_with fail
      go_ret
      exact .yes (Below.refl _ _)
    go_enter Try.func9, Try.ntmps9
    go_wp2_with fail
    go_loopw [4] (fun i wr => ∃ k : Nat, k ≤ n ∧ i = .int .i64 k ∧ Below w.heap.size w wr) (fun i _ => n - (intOf i).toNat)
    case atStart => exact ⟨0, Nat.zero_le _, rfl, Below.refl _ _⟩
    case round =>
      obtain ⟨k, hk, rfl, hb⟩ := hrel
      have HB := Lib.hid hb
      clear hb
      by_cases hlt : k < n
      rotate_left
      · have hf1 : ¬ (k : Int) < (n : Int) := by omega
        go_wp2_with fail
        go_ret
        exact .no (by omega) HB.out
      have hf1 : (k : Int) < (n : Int) := by omega
      have hlx : k < xs.length := by rw [HN.out]; exact hlt
      rcases HF.out.below HB.out (Nat.le_refl _) with h0 | ⟨b, off, rfl, hbl, hc⟩
      · rw [h0] at hlx; simp at hlx
      obtain ⟨g0, g1⟩ := hc k hlx
      clear hc
      obtain ⟨sk, sv⟩ := HS.out.at hlx
      obtain ⟨⟨xk, xv⟩, hx⟩ : ∃ x, xs[k] = x := ⟨_, rfl⟩
      rw [hx] at g0 g1 sk sv
      clear hx
      simp only at g0 g1 sk sv
      by_cases hk2 : 4 < xk.size
      · go_wp2_with fail
        go_ret
        exact .yes (by first | exact HB.out | exact eb_of HB.out (below_drewN' 1) (Nat.le_refl _))
      by_cases hv2 : 4 < xv.size
      · go_wp2_with fail
        go_ret
        exact .yes (by first | exact HB.out | exact eb_of HB.out (below_drewN' 1) (Nat.le_refl _))
      go_wp2_with fail
      exact ⟨⟨k + 1, by omega, by go_num, (by first | exact HB.out | exact eb_of HB.out (below_drewN' 1) (Nat.le_refl _))⟩, by simp [intOf]; omega⟩
  go_enter Try.func9, Try.ntmps9
  go_wp2_with fail
  go_loopw [4] (fun i wr => ∃ k : Nat, k ≤ n ∧ i = .int .i64 k ∧ Below w.heap.size w wr) (fun i _ => n - (intOf i).toNat)
  case atStart => exact ⟨0, Nat.zero_le _, rfl, Below.refl _ _⟩
  case round =>
    obtain ⟨k, hk, rfl, hb⟩ := hrel
    have HB := Lib.hid hb
    clear hb
    by_cases hlt : k < n
    rotate_left
    · have hf1 : ¬ (k : Int) < (n : Int) := by omega
      go_wp2_with fail
      go_ret
      exact .no (by omega) HB.out
    have hf1 : (k : Int) < (n : Int) := by omega
    have hlx : k < xs.length := by rw [HN.out]; exact hlt
    rcases HF.out.below HB.out (Nat.le_refl _) with h0 | ⟨b, off, rfl, hbl, hc⟩
    · rw [h0] at hlx; simp at hlx
    obtain ⟨g0, g1⟩ := hc k hlx
    clear hc
    obtain ⟨sk, sv⟩ := HS.out.at hlx
    obtain ⟨⟨xk, xv⟩, hx⟩ : ∃ x, xs[k] = x := ⟨_, rfl⟩
    rw [hx] at g0 g1 sk sv
    clear hx
    simp only at g0 g1 sk sv
    by_cases hk2 : 200 < xk.size
    · go_wp2_with fail
      go_ret
      exact .yes (by first | exact HB.out | exact eb_of HB.out (below_drewN' 1) (Nat.le_refl _))
    by_cases hv2 : 200 < xv.size
    · go_wp2_with fail
      go_ret
      exact .yes (by first | exact HB.out | exact eb_of HB.out (below_drewN' 1) (Nat.le_refl _))
    go_wp2_with fail
    exact ⟨⟨k + 1, by omega, by go_num, (by first | exact HB.out | exact eb_of HB.out (below_drewN' 1) (Nat.le_refl _))⟩, by simp [intOf]; omega⟩
end Go.Proofs.Ytbgpcmpbfenplaa.KK
