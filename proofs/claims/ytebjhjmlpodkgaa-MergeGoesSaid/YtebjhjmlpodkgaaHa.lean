/-
  The reference's Same (of entries' Ei).
-/
import Derived.Test.YtebjhjmlpodkgaaPn
namespace Go.Proofs.Ytebjhjmlpodkgaa.KK
open Go.ChangeShapes Go.WideShapes Go.ChangeAt Go.RowKit Go.Proofs

set_option maxHeartbeats 2000000 in
theorem sameE_any (A A' : Option Addr) (c c' : Nat) (xs ys : List El.En) (w : World) (hf : EsAt w A xs) (hg : EsAt w A' ys) (hn : xs.length ≤ 9223372036854775807) (hn' : ys.length ≤ 9223372036854775807) :
    Calls Try.prog 20 #[.slice A xs.length c, .slice A' ys.length c'] w fun e w' => e = .returned (.bool (decide (xs = ys))) ∧ Below w.heap.size w w' := by
  by_cases hlen : xs.length = ys.length
  rotate_left
  · have h1 : ((xs.length : Int) == (ys.length : Int)) = false := by simp; omega
    have h2 : ((xs.length : Int) != (ys.length : Int)) = true := by simp; omega
    have H : Hid (xs ≠ ys) := Lib.hid (fun e => hlen (by rw [e]))
    clear hlen
    go_enter Try.func20, Try.ntmps20
    go_wp2_with fail
    go_ret
    exact ⟨retB (by simp [H.out]), Below.refl _ _⟩
  have h1 : ((xs.length : Int) == (ys.length : Int)) = true := by simp; omega
  have h2 : ((xs.length : Int) != (ys.length : Int)) = false := by simp; omega
  have HL := Lib.hid hlen
  clear hlen
  go_enter Try.func20, Try.ntmps20
  go_wp2_with fail
  go_loopw [5] (fun i wr => ∃ k : Nat, k ≤ xs.length ∧ i = .int .i64 k ∧ Below w.heap.size w wr ∧ xs.take k = ys.take k) (fun i _ => xs.length - (intOf i).toNat)
  case atStart => exact ⟨0, Nat.zero_le _, rfl, Below.refl _ _, by simp⟩
  case round =>
    obtain ⟨k, hk, rfl, hb, ha⟩ := hrel
    have hsz := hb.size
    have HA := Lib.hid ha
    have HB := Lib.hid hb
    have hf' := hf.below hb (Nat.le_refl _)
    have hg' := hg.below hb (Nat.le_refl _)
    clear ha hb hf hg
    by_cases hlt : k < xs.length
    · rcases hf' with h0 | ⟨b, off, rfl, hbl, hc⟩
      · subst h0; simp at hlt
      have hlt' : k < ys.length := by have := HL.out; omega
      rcases hg' with h0 | ⟨b', off', rfl, hbl', hc'⟩
      · subst h0; simp at hlt'
      obtain ⟨g0, g1, g2, g3⟩ := hc k hlt
      obtain ⟨k0, k1, k2, k3⟩ := hc' k hlt'
      have l1 : (k : Int) < (xs.length : Int) := by omega
      have l2 : (k : Int) < (ys.length : Int) := by omega
      clear hc hc'
      by_cases heq : xs[k] = ys[k]
      · have HE := Lib.hid heq
        rw [← heq] at k0 k1 k2 k3
        clear heq
        go_wp2_with fail
        go_quiet (fail)
        go_wp2_with fail
        go_roundw
        case rel =>
          refine ⟨k + 1, by omega, by go_num, HB.out.trans ((below_drewN' _).mono hsz), ?_⟩
          rw [List.take_succ_eq_append_getElem hlt, List.take_succ_eq_append_getElem hlt', HA.out, HE.out]
        case measure => simp [intOf]; omega
      · have HN : Hid (xs ≠ ys) := Lib.hid (fun e => heq (by simp only [e]))
        by_cases e0 : xs[k].1 = ys[k].1
        · rw [← e0] at k0
          by_cases e1 : xs[k].2.1 = ys[k].2.1
          · rw [← e1] at k1
            by_cases e2 : xs[k].2.2.1 = ys[k].2.2.1
            · rw [← e2] at k2
              have e3 : (xs[k].2.2.2 == ys[k].2.2.2) = false := by
                rw [beq_eq_false_iff_ne]; intro e3; exact heq (Prod.ext e0 (Prod.ext e1 (Prod.ext e2 e3)))
              clear heq e0 e1 e2
              go_wp2_with fail
              go_quiet (fail)
              go_wp2_with fail
              go_ret
              exact ⟨retB (by simp [HN.out]), HB.out.trans ((below_drewN' _).mono hsz)⟩
            · have e3 : (xs[k].2.2.1 == ys[k].2.2.1) = false := by rw [beq_eq_false_iff_ne]; exact e2
              clear heq e0 e1 e2
              go_wp2_with fail
              go_quiet (fail)
              go_wp2_with fail
              go_ret
              exact ⟨retB (by simp [HN.out]), HB.out.trans ((below_drewN' _).mono hsz)⟩
          · have e3 := str_beq_ne e1
            clear heq e0 e1
            go_wp2_with fail
            go_quiet (fail)
            go_wp2_with fail
            go_ret
            exact ⟨retB (by simp [HN.out]), HB.out.trans ((below_drewN' _).mono hsz)⟩
        · have e3 := str_beq_ne e0
          clear heq e0
          go_wp2_with fail
          go_quiet (fail)
          go_wp2_with fail
          go_ret
          exact ⟨retB (by simp [HN.out]), HB.out.trans ((below_drewN' _).mono hsz)⟩
    · have HE : Hid (xs = ys) := Lib.hid (by
        have := HA.out
        have h3 := HL.out
        rwa [List.take_of_length_le (by omega), List.take_of_length_le (by omega)] at this)
      go_wp2_with fail
      go_ret
      exact ⟨retB (by simp [HE.out]), HB.out⟩
end Go.Proofs.Ytebjhjmlpodkgaa.KK
