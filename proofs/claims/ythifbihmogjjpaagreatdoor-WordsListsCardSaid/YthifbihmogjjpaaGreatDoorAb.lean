/-
  The contract of the reference's next.
-/
import Derived.Test.YthifbihmogjjpaaGreatDoorAa
namespace Go.Proofs.YthifbihmogjjpaaGreatDoor
open Go.ChangeShapes Go.WideShapes Go.ChangeAt Go.RowKit Go.Proofs

theorem s_at (s : ByteArray) (k : Nat) (h : k < s.size) (h' : k < (Pl.L s).length) : (Pl.L s)[k] = s[k] := rfl
theorem rep_snoc (m : Nat) : List.replicate (m + 1) (48 : UInt8) = List.replicate m 48 ++ [48] := List.replicate_succ'

set_option maxRecDepth 100000 in
set_option maxHeartbeats 2000000 in
theorem rnext_any (s : ByteArray) (w : World) (hs : s.size ≤ 4000000000) (hd : ∀ (j : Nat) (h : j < s.size), s[j].toNat ≤ 57) :
    Calls Tryz.prog 25 #[.string s] w fun e w' => e = .returned (.string ⟨(Pl.suc (Pl.L s)).toArray⟩) ∧ Below w.heap.size w w' := by
  have hl := Pl.L_length s
  have HD := Lib.hid hd
  clear hd
  go_enter Tryz.func25, Tryz.ntmps25
  go_wp2_with fail
  go_loop [3] (fun i => ∃ k : Nat, k ≤ s.size ∧ i = .int .i64 ((k : Int) - 1) ∧ Hid (∀ (j : Nat) (h : j < s.size), k ≤ j → s[j] = 57)) (fun i => (intOf i + 1).toNat)
  case atStart => exact ⟨s.size, Nat.le_refl _, rfl, Lib.hid fun j h g => by omega⟩
  case round =>
    obtain ⟨k, hk, rfl, HN⟩ := hrel
    cases k with
    | zero =>
      have hneg : ¬ (0 : Int) ≤ ((0 : Nat) : Int) - 1 := by omega
      have HR : Hid (Pl.suc (Pl.L s) = 49 :: List.replicate s.size 48) := Lib.hid (by
        rw [← hl]
        exact Pl.suc_all fun j hj => HN.out j (by omega) (Nat.zero_le _))
      go_wp2_with fail
      go_loop [4, 5] (fun o i => ∃ (m : Nat) (z : List UInt8), m ≤ s.size ∧ i = .int .i64 m ∧ o = .string ⟨z.toArray⟩ ∧ z.length = m ∧ Hid (z = List.replicate m 48)) (fun _ i => s.size - (intOf i).toNat)
      case atStart => exact ⟨0, [], Nat.zero_le _, by first | rfl | simp, rfl, rfl, Lib.hid rfl⟩
      case round =>
        obtain ⟨m, z, hm, rfl, rfl, hzl, HZ⟩ := hrel
        have hml := size_mk z
        rw [hzl] at hml
        have hov : ¬ 9223372036854775807 < m + 1 := by omega
        have hov2 : ¬ 9223372036854775807 < 1 + m := by omega
        by_cases hlt : m < s.size
        · go_wp2_with fail
          go_round
          case rel => exact ⟨m + 1, z ++ [48], by omega, by go_num, by rw [show (⟨#[48]⟩ : ByteArray) = ⟨[48].toArray⟩ from rfl, bytes_app], by rw [List.length_append, hzl]; rfl, Lib.hid (by rw [rep_snoc, HZ.out])⟩
          case measure => simp [intOf]; omega
        · have hme : m = s.size := by omega
          have HM := Lib.hid hme
          clear hme
          go_wp2_with fail
          go_ret
          exact ⟨by rw [HR.out, show (⟨#[49]⟩ : ByteArray) = ⟨[49].toArray⟩ from rfl, bytes_app, HZ.out, HM.out]; rfl, Below.refl _ _⟩
    | succ k =>
      have e : ((k + 1 : Nat) : Int) - 1 = (k : Int) := by omega
      rw [e]
      have hkl : k < s.size := by omega
      have hd := HD.out k hkl
      by_cases h9 : s[k] = 57
      · have e2 : ((s[k].toNat : Int) == 57) = true := Pl.num_eq _ 57 h9
        have HN2 : Hid (∀ (j : Nat) (h : j < s.size), k ≤ j → s[j] = 57) := Lib.hid fun j h g => by
          rcases Nat.lt_or_ge k j with g' | g'
          · exact HN.out j h g'
          · obtain rfl : j = k := by omega
            exact h9
        clear h9 e
        go_wp2_with fail
        go_round
        case rel => exact ⟨k, by omega, by go_num, HN2⟩
        case measure => first | (simp [intOf]; done) | (simp [intOf]; omega)
      · have e2 : ((s[k].toNat : Int) == 57) = false := Pl.num_ne _ 57 h9
        have HR := Lib.hid (Pl.suc_at (l := Pl.L s) (k := k) (by omega) (fun j hj g => HN.out j (by omega) g) h9)
        clear h9 e
        go_wp2_with fail
        go_loop [4, 5] (fun o i => ∃ (m : Nat) (z : List UInt8), k + 1 + m ≤ s.size ∧ i = .int .i64 ((k + 1 + m : Nat) : Int) ∧ o = .string ⟨z.toArray⟩ ∧ z.length = m ∧ Hid (z = List.replicate m 48)) (fun _ i => s.size - (intOf i).toNat)
        case atStart => exact ⟨0, [], by omega, by go_num, rfl, rfl, Lib.hid rfl⟩
        case round =>
          obtain ⟨m, z, hm, rfl, rfl, hzl, HZ⟩ := hrel
          have hml := size_mk z
          rw [hzl] at hml
          have hov : ¬ 9223372036854775807 < m + 1 := by omega
          by_cases hlt : k + 1 + m < s.size
          · go_wp2_with fail
            go_round
            case rel => exact ⟨m + 1, z ++ [48], by omega, by go_num, by rw [show (⟨#[48]⟩ : ByteArray) = ⟨[48].toArray⟩ from rfl, bytes_app], by rw [List.length_append, hzl]; rfl, Lib.hid (by rw [rep_snoc, HZ.out])⟩
            case measure => simp [intOf]; omega
          · have hme : m = (Pl.L s).length - 1 - k := by omega
            have HM := Lib.hid hme
            clear hme
            have hlt2 : ¬ ((k + 1 + m : Nat) : Int) < (s.size : Int) := by omega
            have hk0 : ¬ (k : Int) < 0 := by omega
            have hcn : (UInt8.ofNat (s[k].toNat + 1)).toNat = s[k].toNat + 1 := UInt8.toNat_ofNat_of_lt' (by have : UInt8.size = 256 := rfl; omega)
            have hext : s.extract 0 k = ⟨((Pl.L s).take k).toArray⟩ := by
              have e : (s.extract 0 k).data.toList = (Pl.L s).take k := by rw [Lib.extract_data]; simp [Pl.L]
              rw [← e]
            have hel := hd
            have hcv := fun (w : World) (B : Nat) => conv_at w B ((s[k].toNat : Int) + 1) (UInt8.ofNat (s[k].toNat + 1)) (by rw [hcn]; rfl)
            have HEX := Lib.hid hext
            obtain ⟨c, hc⟩ : ∃ c, UInt8.ofNat (s[k].toNat + 1) = c := ⟨_, rfl⟩
            rw [hc] at hcv hcn
            have HCC := Lib.hid hc
            have HR2 : Hid (Pl.suc (Pl.L s) = (Pl.L s).take k ++ c :: List.replicate ((Pl.L s).length - 1 - k) 48) := Lib.hid (by rw [← HCC.out]; exact HR.out)
            have HF : Hid (s.extract 0 k ++ ⟨[c].toArray⟩ ++ ⟨z.toArray⟩ = (⟨(Pl.suc (Pl.L s)).toArray⟩ : ByteArray)) := Lib.hid (by
              rw [HR2.out, HEX.out, bytes_app, bytes_app, HZ.out, HM.out]
              simp)
            clear hc hext hcn
            have lw1 : IntKind.u8.wrap ((s[k].toNat : Int) + 1) = (s[k].toNat : Int) + 1 := IntWalk.u8_in _ (by omega)
            go_wp2_with fail
            have z1 := hcv (w.alloc (.cells #[.int .u8 ((s[k].toNat : Int) + 1)] 5)) w.heap.size (cell_new w _ _)
            have z2 := hcv (w.drew.alloc (.cells #[.int .u8 ((s[k].toNat : Int) + 1)] 5)) w.heap.size (cell_new w _ _)
            have z3 := hcv (w.alloc (.cells #[.int .u8 ((s[k].toNat : Int) + 1)] 5)).drew w.heap.size (cell_new w _ _)
            have hx1 : (s.extract 0 k).size = k := by rw [ByteArray.size_extract]; omega
            have hx2 := size_mk [c]
            clear hcv
            go_region_with (fail)
            all_goals
              go_wp2_with fail
              go_ret
              refine ⟨by rw [← HF.out]; rfl, ?_⟩
              first
                | exact (Below.refl _ w).alloc (Nat.le_refl _) _
                | exact redrew ((Below.refl _ w).alloc (Nat.le_refl _) _)
                | exact (redrew (Below.refl w.heap.size w)).alloc (Nat.le_refl _) _
                | exact redrew (redrew ((Below.refl _ w).alloc (Nat.le_refl _) _))
                | exact redrew ((redrew (Below.refl w.heap.size w)).alloc (Nat.le_refl _) _)
end Go.Proofs.YthifbihmogjjpaaGreatDoor
