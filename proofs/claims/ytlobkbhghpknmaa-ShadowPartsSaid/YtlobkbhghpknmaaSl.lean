/-
  Shadow: far; the walks of Filters, Counts and Later.
-/
import Derived.Test.YtlobkbhghpknmaaSk
namespace Go.Proofs.Ytlobkbhghpknmaa.KK
open Go.ChangeShapes Go.WideShapes Go.ChangeAt Go.RowKit Go.Proofs

theorem ba_nil {s : ByteArray} (h : s.size = 0) : s = ⟨#[]⟩ := by
  cases s with
  | mk d => congr; exact Array.eq_empty_of_size_eq_zero h
/-- what far answers -/
def FarOut (n : Nat) (w : World) (e : Ending) (w' : World) : Prop := ∃ b, e = .returned (.bool b) ∧ (b = false → n ≤ 20005) ∧ Below w.heap.size w w'
theorem FarOut.yes {n : Nat} {w : World} : FarOut n w (.returned (.bool true)) w := ⟨true, rfl, (fun h => by cases h), Below.refl _ _⟩
theorem FarOut.no {n : Nat} {w : World} (h : n ≤ 20005) : FarOut n w (.returned (.bool false)) w := ⟨false, rfl, fun _ => h, Below.refl _ _⟩
set_option maxRecDepth 100000 in
set_option maxHeartbeats 4000000 in
theorem far12_any (A : Option Addr) (c : Nat) (xs : List El.En) (w : World) (hf : EsAt w A xs) (hn : xs.length ≤ 9223372036854775807) :
    Calls Try.prog 17 #[.slice A xs.length c] w fun e w' => FarOut xs.length w e w' := by
  obtain ⟨n, hnn⟩ : ∃ n, xs.length = n := ⟨_, rfl⟩
  rw [hnn] at hn ⊢
  have HN := Lib.hid hnn
  have HF := Lib.hid hf
  clear hnn hf
  by_cases h1 : n ≤ 200
  rotate_left
  · by_cases h2 : n ≤ 20000 ∨ 20005 < n
    · have h200 : 200 < n := by omega
      clear h1
      rcases h2 with h2 | h2
      all_goals
        (try have h3 : ¬ n ≤ 20000 := by omega)
        go_enter Try.func17, Try.ntmps17
        go_wp2_with fail
        go_ret
        exact .yes
    have e1 : decide ((200 : Int) < (n : Int)) = true := by simp; omega
    have e2 : decide ((n : Int) ≤ 20000) = false := by simp; omega
    have e3 : decide ((20005 : Int) < (n : Int)) = false := by simp; omega
    have hfin : n ≤ 20005 := by omega
    clear h1 h2
    go_enter Try.func17, Try.ntmps17
    go_wp2_with fail
    go_loopw [3] (fun i wr => ∃ k : Nat, k ≤ n ∧ i = .int .i64 k ∧ wr = w) (fun i _ => n - (intOf i).toNat)
    case atStart => exact ⟨0, Nat.zero_le _, rfl, rfl⟩
    case round =>
      obtain ⟨k, hk, rfl, rfl⟩ := hrel
      by_cases hlt : k < n
      rotate_left
      · go_wp2_with fail
        go_ret
        exact .no hfin
      have hlx : k < xs.length := by rw [HN.out]; exact hlt
      rcases HF.out with h0 | ⟨b, off, rfl, hbl, hc⟩
      · rw [h0] at hlx; simp at hlx
      obtain ⟨g0, g1, g2, g3⟩ := hc k hlx
      clear hc
      obtain ⟨⟨xk, xv, xd, xq⟩, hx⟩ : ∃ x, xs[k] = x := ⟨_, rfl⟩
      rw [hx] at g0 g1 g2 g3
      simp only at g0 g1 g2 g3
      clear hx
      by_cases hx : xk = ⟨#[]⟩ ∧ xv = ⟨#[]⟩ ∧ xd = false ∧ xq = 0
      · obtain ⟨rfl, rfl, rfl, rfl⟩ := hx
        go_wp2_with fail
        go_roundw
        case rel => exact ⟨k + 1, by omega, by go_num, trivial⟩
        case measure => simp [intOf]; omega
      · by_cases e0 : xk = ⟨#[]⟩
        · subst e0
          by_cases e1' : xv = ⟨#[]⟩
          · subst e1'
            cases xd with
            | true =>
              clear hx
              go_wp2_with fail
              go_ret
              exact .yes
            | false =>
              have e4 : (xq == 0) = false := by rw [beq_eq_false_iff_ne]; exact fun e => hx ⟨rfl, rfl, rfl, e⟩
              clear hx
              go_wp2_with fail
              go_ret
              exact .yes
          · obtain ⟨z1, z2⟩ := str_full xv (fun e => e1' (ba_nil e))
            clear hx e1'
            go_wp2_with fail
            go_ret
            exact .yes
        · obtain ⟨z1, z2⟩ := str_full xk (fun e => e0 (ba_nil e))
          clear hx e0
          go_wp2_with fail
          go_ret
          exact .yes
  have e1 : decide ((200 : Int) < (n : Int)) = false := by simp; omega
  have e3 : decide ((20005 : Int) < (n : Int)) = false := by simp; omega
  have hfin : n ≤ 20005 := by omega
  go_enter Try.func17, Try.ntmps17
  go_wp2_with fail
  go_loopw [3] (fun i wr => ∃ k : Nat, k ≤ n ∧ i = .int .i64 k ∧ wr = w) (fun i _ => n - (intOf i).toNat)
  case atStart => exact ⟨0, Nat.zero_le _, rfl, rfl⟩
  case round =>
    obtain ⟨k, hk, rfl, rfl⟩ := hrel
    by_cases hlt : k < n
    rotate_left
    · go_wp2_with fail
      go_ret
      exact .no hfin
    have hlx : k < xs.length := by rw [HN.out]; exact hlt
    rcases HF.out with h0 | ⟨b, off, rfl, hbl, hc⟩
    · rw [h0] at hlx; simp at hlx
    obtain ⟨g0, g1, g2, g3⟩ := hc k hlx
    clear hc
    obtain ⟨⟨xk, xv, xd, xq⟩, hx⟩ : ∃ x, xs[k] = x := ⟨_, rfl⟩
    rw [hx] at g0 g1 g2 g3
    simp only at g0 g1 g2 g3
    clear hx
    by_cases s1 : 200 < xk.size
    · go_wp2_with fail
      go_ret
      exact .yes
    by_cases s2 : 200 < xv.size
    · go_wp2_with fail
      go_ret
      exact .yes
    go_wp2_with fail
    go_roundw
    case rel => exact ⟨k + 1, by omega, by go_num, trivial⟩
    case measure => simp [intOf]; omega
end Go.Proofs.Ytlobkbhghpknmaa.KK
