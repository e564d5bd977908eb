/-
  The reference's digit and bytes.
-/
import Derived.Test.YtgljgjkoaaibnaaMd
namespace Go.Proofs.Ytgljgjkoaaibnaa.KK
open Go.ChangeShapes Go.WideShapes Go.ChangeAt Go.RowKit Go.Proofs

def dgs : ByteArray := ⟨#[48, 49, 50, 51, 52, 53, 54, 55, 56, 57, 97, 98, 99, 100, 101, 102]⟩
theorem hvI_tab : ∀ (n : Fin 256) (k : Fin 16), (hvI (UInt8.ofNat n.val) = (k.val : Int)) = (Kl.hxD k.val = UInt8.ofNat n.val) := by
  have : ∀ (n : Fin 256) (k : Fin 16), decide (hvI (UInt8.ofNat n.val) = (k.val : Int)) = decide (Kl.hxD k.val = UInt8.ofNat n.val) := by decide +kernel
  intro n k
  exact propext (decide_eq_decide.1 (this n k))
theorem hvI_range : ∀ n : Fin 256, -1 ≤ hvI (UInt8.ofNat n.val) ∧ hvI (UInt8.ofNat n.val) ≤ 15 := by decide +kernel
theorem hvI_at (c : UInt8) (k : Nat) (hk : k < 16) : hvI c = (k : Int) ↔ Kl.hxD k = c := by
  have := hvI_tab ⟨c.toNat, c.toNat_lt⟩ ⟨k, hk⟩
  simp only [UInt8.ofNat_toNat] at this
  rw [this]
theorem hvI_bd (c : UInt8) : -1 ≤ hvI c ∧ hvI c ≤ 15 := by
  have := hvI_range ⟨c.toNat, c.toNat_lt⟩
  simpa using this

theorem hexj0 : ∀ w, (Instr.index 9 (.string ⟨#[48, 49, 50, 51, 52, 53, 54, 55, 56, 57, 97, 98, 99, 100, 101, 102]⟩) (.int .i64 ((0 : Nat) : Int))).run Try.prog w = .ok (.int .u8 ((Kl.hxD 0).toNat : Int)) w := fun _ => by kernel_rfl
theorem hexj1 : ∀ w, (Instr.index 9 (.string ⟨#[48, 49, 50, 51, 52, 53, 54, 55, 56, 57, 97, 98, 99, 100, 101, 102]⟩) (.int .i64 ((1 : Nat) : Int))).run Try.prog w = .ok (.int .u8 ((Kl.hxD 1).toNat : Int)) w := fun _ => by kernel_rfl
theorem hexj2 : ∀ w, (Instr.index 9 (.string ⟨#[48, 49, 50, 51, 52, 53, 54, 55, 56, 57, 97, 98, 99, 100, 101, 102]⟩) (.int .i64 ((2 : Nat) : Int))).run Try.prog w = .ok (.int .u8 ((Kl.hxD 2).toNat : Int)) w := fun _ => by kernel_rfl
theorem hexj3 : ∀ w, (Instr.index 9 (.string ⟨#[48, 49, 50, 51, 52, 53, 54, 55, 56, 57, 97, 98, 99, 100, 101, 102]⟩) (.int .i64 ((3 : Nat) : Int))).run Try.prog w = .ok (.int .u8 ((Kl.hxD 3).toNat : Int)) w := fun _ => by kernel_rfl
theorem hexj4 : ∀ w, (Instr.index 9 (.string ⟨#[48, 49, 50, 51, 52, 53, 54, 55, 56, 57, 97, 98, 99, 100, 101, 102]⟩) (.int .i64 ((4 : Nat) : Int))).run Try.prog w = .ok (.int .u8 ((Kl.hxD 4).toNat : Int)) w := fun _ => by kernel_rfl
theorem hexj5 : ∀ w, (Instr.index 9 (.string ⟨#[48, 49, 50, 51, 52, 53, 54, 55, 56, 57, 97, 98, 99, 100, 101, 102]⟩) (.int .i64 ((5 : Nat) : Int))).run Try.prog w = .ok (.int .u8 ((Kl.hxD 5).toNat : Int)) w := fun _ => by kernel_rfl
theorem hexj6 : ∀ w, (Instr.index 9 (.string ⟨#[48, 49, 50, 51, 52, 53, 54, 55, 56, 57, 97, 98, 99, 100, 101, 102]⟩) (.int .i64 ((6 : Nat) : Int))).run Try.prog w = .ok (.int .u8 ((Kl.hxD 6).toNat : Int)) w := fun _ => by kernel_rfl
theorem hexj7 : ∀ w, (Instr.index 9 (.string ⟨#[48, 49, 50, 51, 52, 53, 54, 55, 56, 57, 97, 98, 99, 100, 101, 102]⟩) (.int .i64 ((7 : Nat) : Int))).run Try.prog w = .ok (.int .u8 ((Kl.hxD 7).toNat : Int)) w := fun _ => by kernel_rfl
theorem hexj8 : ∀ w, (Instr.index 9 (.string ⟨#[48, 49, 50, 51, 52, 53, 54, 55, 56, 57, 97, 98, 99, 100, 101, 102]⟩) (.int .i64 ((8 : Nat) : Int))).run Try.prog w = .ok (.int .u8 ((Kl.hxD 8).toNat : Int)) w := fun _ => by kernel_rfl
theorem hexj9 : ∀ w, (Instr.index 9 (.string ⟨#[48, 49, 50, 51, 52, 53, 54, 55, 56, 57, 97, 98, 99, 100, 101, 102]⟩) (.int .i64 ((9 : Nat) : Int))).run Try.prog w = .ok (.int .u8 ((Kl.hxD 9).toNat : Int)) w := fun _ => by kernel_rfl
theorem hexj10 : ∀ w, (Instr.index 9 (.string ⟨#[48, 49, 50, 51, 52, 53, 54, 55, 56, 57, 97, 98, 99, 100, 101, 102]⟩) (.int .i64 ((10 : Nat) : Int))).run Try.prog w = .ok (.int .u8 ((Kl.hxD 10).toNat : Int)) w := fun _ => by kernel_rfl
theorem hexj11 : ∀ w, (Instr.index 9 (.string ⟨#[48, 49, 50, 51, 52, 53, 54, 55, 56, 57, 97, 98, 99, 100, 101, 102]⟩) (.int .i64 ((11 : Nat) : Int))).run Try.prog w = .ok (.int .u8 ((Kl.hxD 11).toNat : Int)) w := fun _ => by kernel_rfl
theorem hexj12 : ∀ w, (Instr.index 9 (.string ⟨#[48, 49, 50, 51, 52, 53, 54, 55, 56, 57, 97, 98, 99, 100, 101, 102]⟩) (.int .i64 ((12 : Nat) : Int))).run Try.prog w = .ok (.int .u8 ((Kl.hxD 12).toNat : Int)) w := fun _ => by kernel_rfl
theorem hexj13 : ∀ w, (Instr.index 9 (.string ⟨#[48, 49, 50, 51, 52, 53, 54, 55, 56, 57, 97, 98, 99, 100, 101, 102]⟩) (.int .i64 ((13 : Nat) : Int))).run Try.prog w = .ok (.int .u8 ((Kl.hxD 13).toNat : Int)) w := fun _ => by kernel_rfl
theorem hexj14 : ∀ w, (Instr.index 9 (.string ⟨#[48, 49, 50, 51, 52, 53, 54, 55, 56, 57, 97, 98, 99, 100, 101, 102]⟩) (.int .i64 ((14 : Nat) : Int))).run Try.prog w = .ok (.int .u8 ((Kl.hxD 14).toNat : Int)) w := fun _ => by kernel_rfl
theorem hexj15 : ∀ w, (Instr.index 9 (.string ⟨#[48, 49, 50, 51, 52, 53, 54, 55, 56, 57, 97, 98, 99, 100, 101, 102]⟩) (.int .i64 ((15 : Nat) : Int))).run Try.prog w = .ok (.int .u8 ((Kl.hxD 15).toNat : Int)) w := fun _ => by kernel_rfl
theorem hex_at (n : Nat) (h : n < 16) : ∀ w, (Instr.index 9 (.string ⟨#[48, 49, 50, 51, 52, 53, 54, 55, 56, 57, 97, 98, 99, 100, 101, 102]⟩) (.int .i64 (n : Int))).run Try.prog w = .ok (.int .u8 ((Kl.hxD n).toNat : Int)) w :=
  match n, h with
  | 0, _ => hexj0
  | 1, _ => hexj1
  | 2, _ => hexj2
  | 3, _ => hexj3
  | 4, _ => hexj4
  | 5, _ => hexj5
  | 6, _ => hexj6
  | 7, _ => hexj7
  | 8, _ => hexj8
  | 9, _ => hexj9
  | 10, _ => hexj10
  | 11, _ => hexj11
  | 12, _ => hexj12
  | 13, _ => hexj13
  | 14, _ => hexj14
  | 15, _ => hexj15
  | m + 16, h => absurd h (by omega)

set_option maxHeartbeats 1000000 in
theorem digit_any (c : UInt8) (w : World) :
    Calls Try.prog 59 #[.int .u8 (c.toNat : Int)] w fun e w' => e = .returned (.int .i64 (hvI c)) ∧ w = w' := by
  go_enter Try.func59, Try.ntmps59
  go_wp2_with fail
  go_loop [3] (fun i => ∃ k : Nat, k ≤ 16 ∧ i = .int .i64 k ∧ ∀ j, j < k → hvI c ≠ (j : Int)) (fun i => 16 - (intOf i).toNat)
  case atStart => exact ⟨0, by omega, rfl, fun j hj => by omega⟩
  case round =>
    obtain ⟨k, hk, rfl, hno⟩ := hrel
    have HN := Lib.hid hno
    clear hno
    by_cases hlt : k < 16
    · have x1 := hex_at k hlt
      have d1 : decide ((k : Int) < 16) = true := by simp; omega
      by_cases he : Kl.hxD k = c
      · have H : Hid (hvI c = (k : Int)) := Lib.hid ((hvI_at c k hlt).2 he)
        have q1 : (((Kl.hxD k).toNat : Int) == (c.toNat : Int)) = true := beqT he
        clear he
        go_wp2_with fail
        go_ret
        exact ⟨by rw [H.out]; rfl, rfl⟩
      · have H : Hid (¬ hvI c = (k : Int)) := Lib.hid (fun h => he ((hvI_at c k hlt).1 h))
        have q1 : (((Kl.hxD k).toNat : Int) == (c.toNat : Int)) = false := beqF he
        clear he
        go_wp2_with fail
        go_round
        case rel =>
          refine ⟨k + 1, by omega, by go_num, fun j hj => ?_⟩
          rcases Nat.lt_or_ge j k with h | h
          · exact HN.out j h
          · obtain rfl : j = k := by omega
            exact H.out
        case measure => simp [intOf]; omega
    · have H : Hid (hvI c = -1) := Lib.hid (by
        have hb := hvI_bd c
        have := HN.out
        rcases Int.lt_or_le (hvI c) 0 with h | h
        · omega
        · have := HN.out (hvI c).toNat (by omega)
          omega)
      have d1 : decide ((k : Int) < 16) = false := by simp; omega
      go_wp2_with fail
      go_ret
      exact ⟨by rw [H.out]; rfl, rfl⟩
end Go.Proofs.Ytgljgjkoaaibnaa.KK
