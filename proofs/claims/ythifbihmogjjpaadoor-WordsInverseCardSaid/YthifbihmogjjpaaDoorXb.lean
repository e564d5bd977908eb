/-
  Contracts of the reference's hex, escaped and Quote.
-/
import Derived.Test.YthifbihmogjjpaaDoorXa
import Derived.Lib.AppendStr
namespace Go.Proofs.YthifbihmogjjpaaDoor
open Go.ChangeShapes Go.WideShapes Go.ChangeAt Go.RowKit Go.Proofs

theorem rhex_any (n : Nat) (h : n < 16) (w : World) :
    Calls Tryd.prog 65 #[.int .u8 (n : Int)] w fun e w' => e = .returned (.int .u8 ((Pl.hexd n).toNat : Int)) ∧ w = w' := by
  have x1 := hex_index n h
  go_enter Tryd.func65, Tryd.ntmps65
  go_wp2_with fail
  go_ret
  exact ⟨rfl, rfl⟩

set_option maxRecDepth 100000 in
theorem escaped_plain (c : UInt8) (w : World) (hp : Pl.plain c = true) :
    Calls Tryd.prog 46 #[.int .u8 (c.toNat : Int)] w fun e w' => e = .returned (.string ⟨(Pl.esc c).toArray⟩) ∧ Below w.heap.size w w' := by
  have H := Lib.hid (Pl.esc_plain c hp)
  have HP := Lib.hid hp
  clear hp
  have hcv := conv_new w (c.toNat : Int) c rfl
  go_enter Tryd.func46, Tryd.ntmps46
  go_wp2_with (go_at_call 47; refine (plain_any _ _).mono ?_; rw [HP.out]; rintro e w' ⟨rfl, rfl⟩)
  go_ret
  exact ⟨by rw [H.out]; rfl, (Below.refl _ w).alloc (Nat.le_refl _) _⟩

set_option maxRecDepth 100000 in
theorem escaped_letter (c l : UInt8) (w : World) (hp : Pl.plain c = false) (hl : Pl.letter c = some l) :
    Calls Tryd.prog 46 #[.int .u8 (c.toNat : Int)] w fun e w' => e = .returned (.string ⟨(Pl.esc c).toArray⟩) ∧ Below w.heap.size w w' := by
  have H := Lib.hid (Pl.esc_letter c l hp hl)
  have HP := Lib.hid hp
  clear hp
  unfold Pl.letter at hl
  by_cases c1 : c = 34
  · subst c1
    obtain rfl : (34 : UInt8) = l := by simpa using hl
    clear hl
    go_enter Tryd.func46, Tryd.ntmps46
    go_wp2_with (go_at_call 47; refine (plain_any 34 _).mono ?_; rw [HP.out]; rintro e w' ⟨rfl, rfl⟩)
    go_ret
    exact ⟨by rw [H.out]; rfl, Below.refl _ w⟩
  rw [if_neg c1] at hl
  by_cases c2 : c = 92
  · subst c2
    obtain rfl : (92 : UInt8) = l := by simpa using hl
    clear hl
    go_enter Tryd.func46, Tryd.ntmps46
    go_wp2_with (go_at_call 47; refine (plain_any 92 _).mono ?_; rw [HP.out]; rintro e w' ⟨rfl, rfl⟩)
    go_ret
    exact ⟨by rw [H.out]; rfl, Below.refl _ w⟩
  rw [if_neg c2] at hl
  by_cases c3 : c = 10
  · subst c3
    obtain rfl : (110 : UInt8) = l := by simpa using hl
    clear hl
    go_enter Tryd.func46, Tryd.ntmps46
    go_wp2_with (go_at_call 47; refine (plain_any 10 _).mono ?_; rw [HP.out]; rintro e w' ⟨rfl, rfl⟩)
    go_ret
    exact ⟨by rw [H.out]; rfl, Below.refl _ w⟩
  rw [if_neg c3] at hl
  by_cases c4 : c = 13
  · subst c4
    obtain rfl : (114 : UInt8) = l := by simpa using hl
    clear hl
    go_enter Tryd.func46, Tryd.ntmps46
    go_wp2_with (go_at_call 47; refine (plain_any 13 _).mono ?_; rw [HP.out]; rintro e w' ⟨rfl, rfl⟩)
    go_ret
    exact ⟨by rw [H.out]; rfl, Below.refl _ w⟩
  rw [if_neg c4] at hl
  by_cases c5 : c = 9
  · subst c5
    obtain rfl : (116 : UInt8) = l := by simpa using hl
    clear hl
    go_enter Tryd.func46, Tryd.ntmps46
    go_wp2_with (go_at_call 47; refine (plain_any 9 _).mono ?_; rw [HP.out]; rintro e w' ⟨rfl, rfl⟩)
    go_ret
    exact ⟨by rw [H.out]; rfl, Below.refl _ w⟩
  rw [if_neg c5] at hl
  cases hl

theorem conv_two (w : World) (a b : UInt8) :
    (convert 29 9 (.slice (some ⟨w.heap.size, 0, none⟩) 2 2)).run Tryd.prog (w.alloc (.cells #[.int .u8 (a.toNat : Int), .int .u8 (b.toNat : Int)] 5)) = .ok (.string ⟨[a, b].toArray⟩) (w.alloc (.cells #[.int .u8 (a.toNat : Int), .int .u8 (b.toNat : Int)] 5)) :=
  conv_own (base := 0) (t := [a, b]) (World.ownsRow_lit w #[.int .u8 (a.toNat : Int), .int .u8 (b.toNat : Int)] 2 (Nat.zero_le _) (by decide) rfl)

set_option maxRecDepth 100000 in
set_option maxHeartbeats 1000000 in
theorem escaped_hex (c : UInt8) (w : World) (hp : Pl.plain c = false) (hl : Pl.letter c = none) :
    Calls Tryd.prog 46 #[.int .u8 (c.toNat : Int)] w fun e w' => e = .returned (.string ⟨(Pl.esc c).toArray⟩) ∧ Below w.heap.size w w' := by
  have hh := Pl.esc_hex c hp hl
  have HP := Lib.hid hp
  have c1 : ¬ c = 34 := by rintro rfl; cases hl
  have c2 : ¬ c = 92 := by rintro rfl; cases hl
  have c3 : ¬ c = 10 := by rintro rfl; cases hl
  have c4 : ¬ c = 13 := by rintro rfl; cases hl
  have c5 : ¬ c = 9 := by rintro rfl; cases hl
  have q1 : ((c.toNat : Int) == 34) = false := Pl.num_ne _ 34 c1
  have q2 : ((c.toNat : Int) == 92) = false := Pl.num_ne _ 92 c2
  have q3 : ((c.toNat : Int) == 10) = false := Pl.num_ne _ 10 c3
  have q4 : ((c.toNat : Int) == 13) = false := Pl.num_ne _ 13 c4
  have q5 : ((c.toNat : Int) == 9) = false := Pl.num_ne _ 9 c5
  clear hp hl c1 c2 c3 c4 c5
  have hb256 : c.toNat < 256 := c.toNat_lt
  obtain ⟨n1, hn1⟩ : ∃ n1, c.toNat / 16 = n1 := ⟨_, rfl⟩
  obtain ⟨n2, hn2⟩ : ∃ n2, c.toNat % 16 = n2 := ⟨_, rfl⟩
  have l1 : n1 < 16 := by omega
  have l2 : n2 < 16 := by omega
  have a1 : Int.tdiv (c.toNat : Int) 16 = (n1 : Int) := by rw [Int.tdiv_eq_ediv_of_nonneg (by omega)]; omega
  have a2 : Int.tmod (c.toNat : Int) 16 = (n2 : Int) := by rw [Int.tmod_eq_emod_of_nonneg (by omega)]; omega
  rw [hn1, hn2] at hh
  clear hn1 hn2
  have H := Lib.hid hh
  clear hh
  have lw1 : IntKind.u8.wrap (n1 : Int) = (n1 : Int) := IntWalk.u8_in _ (by omega)
  have lw2 : IntKind.u8.wrap (n2 : Int) = (n2 : Int) := IntWalk.u8_in _ (by omega)
  have hcv := conv_two w (Pl.hexd n1) (Pl.hexd n2)
  go_enter Tryd.func46, Tryd.ntmps46
  go_wp2_with (first
    | (go_at_call 47; refine (plain_any _ _).mono ?_; rw [HP.out]; rintro e w' ⟨rfl, rfl⟩)
    | (go_at_call 65; refine (rhex_any n1 l1 _).mono ?_; rintro e w' ⟨rfl, rfl⟩)
    | (go_at_call 65; refine (rhex_any n2 l2 _).mono ?_; rintro e w' ⟨rfl, rfl⟩))
  go_ret
  exact ⟨by rw [H.out]; exact congrArg (fun t => Ending.returned (Value.string t)) (bytes_app [92, 120] [Pl.hexd n1, Pl.hexd n2]), (Below.refl _ w).alloc (Nat.le_refl _) _⟩

theorem escaped_any (c : UInt8) (w : World) :
    Calls Tryd.prog 46 #[.int .u8 (c.toNat : Int)] w fun e w' => e = .returned (.string ⟨(Pl.esc c).toArray⟩) ∧ Below w.heap.size w w' := by
  cases hp : Pl.plain c with
  | true => exact escaped_plain c w hp
  | false =>
    cases hl : Pl.letter c with
    | some l => exact escaped_letter c l w hp hl
    | none => exact escaped_hex c w hp hl
end Go.Proofs.YthifbihmogjjpaaDoor
