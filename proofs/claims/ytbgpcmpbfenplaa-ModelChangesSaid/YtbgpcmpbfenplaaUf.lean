/-
  The law's wide.
-/
import Derived.Test.YtbgpcmpbfenplaaUe
namespace Go.Proofs.Ytbgpcmpbfenplaa.KK
open Go.ChangeShapes Go.WideShapes Go.ChangeAt Go.RowKit Go.Proofs

def bigW (x : Wr) : Bool := decide (200 < x.1.size) || decide (200 < x.2.1.size)
def wideE (xs : List Wr) : Bool := decide (12 < xs.length) || xs.any bigW
theorem anyW_no {xs : List Wr} {k : Nat} (h : k < xs.length) (g : bigW xs[k] = false) : (xs.drop k).any bigW = (xs.drop (k + 1)).any bigW := by
  rw [List.drop_eq_getElem_cons h, List.any_cons, g, Bool.false_or]
theorem anyW_yes {xs : List Wr} {k : Nat} (h : k < xs.length) (g : bigW xs[k] = true) : (xs.drop k).any bigW = true := by
  rw [List.drop_eq_getElem_cons h, List.any_cons, g, Bool.true_or]
set_option maxRecDepth 100000 in
theorem wide_any (A : Option Addr) (c : Nat) (xs : List Wr) (w : World) (hf : WsAt w A xs) (hn : xs.length ≤ 9223372036854775807) (hs : SizedW xs) :
    Calls Try.prog 34 #[.slice A xs.length c] w fun e w' => e = .returned (.bool (wideE xs)) ∧ Below w.heap.size w w' := by
  by_cases h12 : 12 < xs.length
  · have H := Lib.hid (show true = wideE xs by unfold wideE; rw [decide_eq_true h12]; rfl)
    clear hf hs
    go_enter Try.func34, Try.ntmps34
    go_wp2_with fail
    go_ret
    exact ⟨retB H.out, Below.refl _ _⟩
  have HAL : Hid (wideE xs = xs.any bigW) := Lib.hid (by unfold wideE; rw [decide_eq_false h12]; rfl)
  have HF := Lib.hid hf
  have HS := Lib.hid hs
  obtain ⟨n, hnn⟩ : ∃ n, xs.length = n := ⟨_, rfl⟩
  rw [hnn] at hn h12 ⊢
  have HN := Lib.hid hnn
  clear hf hs hnn
  go_enter Try.func34, Try.ntmps34
  go_wp2_with fail
  go_loopw [3] (fun i wr => ∃ k : Nat, k ≤ n ∧ i = .int .i64 k ∧ Below w.heap.size w wr ∧ xs.any bigW = (xs.drop k).any bigW) (fun i _ => n - (intOf i).toNat)
  case atStart => exact ⟨0, Nat.zero_le _, rfl, Below.refl _ _, rfl⟩
  case round =>
    obtain ⟨k, hk, rfl, hb, ha⟩ := hrel
    have hsz := hb.size
    have HA := Lib.hid ha
    have HB := Lib.hid hb
    clear ha hb
    by_cases hlt : k < n
    rotate_left
    · have hf1 : ¬ (k : Int) < (n : Int) := by omega
      have HE := Lib.hid (show false = (xs.drop k).any bigW by rw [List.drop_of_length_le (by rw [HN.out]; omega)]; rfl)
      go_wp2_with fail
      go_ret
      exact ⟨retB (HE.out.trans (HA.out.symm.trans HAL.out.symm)), HB.out⟩
    have hf1 : (k : Int) < (n : Int) := by omega
    have hlx : k < xs.length := by rw [HN.out]; exact hlt
    rcases HF.out.below HB.out (Nat.le_refl _) with h0 | ⟨b, off, rfl, hbl, hc⟩
    · rw [h0] at hlx; simp at hlx
    obtain ⟨g0, g1, _⟩ := hc k hlx
    clear hc
    obtain ⟨sk, sv⟩ := HS.out.at hlx
    have HOK := Lib.hid (anyW_no hlx)
    have HNO := Lib.hid (anyW_yes hlx)
    obtain ⟨⟨xk, xv, xd⟩, hx⟩ : ∃ x, xs[k] = x := ⟨_, rfl⟩
    rw [hx] at g0 g1 sk sv HOK HNO
    clear hx
    simp only at g0 g1 sk sv
    by_cases hk2 : 200 < xk.size
    · have HL := Lib.hid (HNO.out (by unfold bigW; simp [hk2]))
      clear HOK HNO
      go_wp2_with fail
      go_ret
      exact ⟨retB (HL.out.symm.trans (HA.out.symm.trans HAL.out.symm)), (by first | exact HB.out | exact eb_of HB.out (below_drewN' 1) (Nat.le_refl _))⟩
    by_cases hv2 : 200 < xv.size
    · have HL := Lib.hid (HNO.out (by unfold bigW; simp [hv2]))
      clear HOK HNO
      go_wp2_with fail
      go_ret
      exact ⟨retB (HL.out.symm.trans (HA.out.symm.trans HAL.out.symm)), (by first | exact HB.out | exact eb_of HB.out (below_drewN' 1) (Nat.le_refl _))⟩
    have HL := Lib.hid (HOK.out (by unfold bigW; simp [hk2, hv2]))
    clear HOK HNO
    go_wp2_with fail
    exact ⟨⟨k + 1, by omega, by go_num, (by first | exact HB.out | exact eb_of HB.out (below_drewN' 1) (Nat.le_refl _)), HA.out.trans HL.out⟩, by simp [intOf]; omega⟩
end Go.Proofs.Ytbgpcmpbfenplaa.KK
