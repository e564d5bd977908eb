/-
  The contract of the reference's Digits.
-/
import Derived.Test.YthifbihmogjjpaaGreatDoorQa
import Derived.Test.YthifbihmogjjpaaGreatDoorWo
import Derived.Deep.RegionHeld3
import Derived.Deep.AppendLies
import Derived.OwnWalk
namespace Go.Proofs.YthifbihmogjjpaaGreatDoor
open Go.ChangeShapes Go.WideShapes Go.ChangeAt Go.RowKit Go.Proofs

/-- string([]byte{c}) -/
theorem conv_at (w : World) (B : Nat) (m : Int) (c : UInt8) (hm : m = c.toNat) (h : w.cell? ⟨B, 0, none⟩ = some (.int .u8 m)) :
    (convert 68 9 (.slice (some ⟨B, 0, none⟩) 1 1)).run Tryz.prog w = .ok (.string ⟨[c].toArray⟩) w := by
  subst hm
  rw [run_convert_bytes_arg _ _ _ Tryz.underlying68 Tryz.underlying5 B 0 1 1 [(c.toNat : Int)] rfl (fun i hi => ?_) _ Tryz.underlying9]
  · exact congrArg (fun t => Result.ok (Value.string t) _) (str_nums [c])
  · have : i = 0 := by simpa using hi
    subst this
    exact h
theorem cell_new (w : World) (m : Value) (t : TypeId) : (w.alloc (.cells #[m] t)).cell? ⟨w.heap.size, 0, none⟩ = some m :=
  World.news_of_block (cs := #[m]) (t := t) (fr := (0, 0)) (heap_alloc_new w _) 0 _ rfl
theorem conv_new (w : World) (m : Int) (c : UInt8) (hm : m = c.toNat) :
    (convert 68 9 (.slice (some ⟨w.heap.size, 0, none⟩) 1 1)).run Tryz.prog (w.alloc (.cells #[.int .u8 m] 5)) = .ok (.string ⟨[c].toArray⟩) (w.alloc (.cells #[.int .u8 m] 5)) :=
  conv_at _ _ m c hm (cell_new _ _ _)

set_option maxRecDepth 100000 in
theorem rDigits_one (n : Int) (w : World) (h0 : 0 ≤ n) (h1 : n ≤ 9) :
    Calls Tryz.prog 19 #[.int .i64 n] w fun e w' => e = .returned (.string ⟨(Lib.itoa n).toArray⟩) ∧ Below w.heap.size w w' := by
  have H := Lib.hid (Pl.itoa_one n h0 h1)
  have hcv := conv_new w (48 + n) (UInt8.ofNat (48 + n).toNat) (by rw [UInt8.toNat_ofNat_of_lt' (by simp; omega)]; omega)
  go_enter Tryz.func19, Tryz.ntmps19
  go_wp2_with fail
  go_ret
  exact ⟨by rw [H.out]; rfl, (Below.refl _ _).alloc (by first | (simp; done) | (simp; omega)) _⟩

theorem undrew {w w1 : World} (h : Below w.drew.heap.size w.drew w1) : Below w.heap.size w w1 := ⟨h.os, h.tape, h.output, h.size, h.block⟩
def digM (n : Int) : Nat := 2 * n.natAbs + (if n < 0 then 1 else 0)
theorem bytes_app (a b : List UInt8) : (⟨a.toArray⟩ : ByteArray) ++ ⟨b.toArray⟩ = ⟨(a ++ b).toArray⟩ := by
  apply ByteArray.ext; simp

set_option maxRecDepth 100000 in
set_option maxHeartbeats 2000000 in
theorem rDigits_all : ∀ (m : Nat) (n : Int) (w : World), digM n ≤ m → -9223372036854775808 ≤ n → n ≤ 9223372036854775807 →
    Calls Tryz.prog 19 #[.int .i64 n] w fun e w' => e = .returned (.string ⟨(Lib.itoa n).toArray⟩) ∧ Below w.heap.size w w' := by
  intro m
  induction m using Nat.strongRecOn with
  | _ m ih =>
  intro n w hm b0 b1
  by_cases h0 : 0 ≤ n ∧ n ≤ 9
  · exact rDigits_one n w h0.1 h0.2
  by_cases h1 : -9 ≤ n ∧ n < 0
  · have hc : Calls Tryz.prog 19 #[.int .i64 (-n)] w fun e w' => e = .returned (.string ⟨(Lib.itoa (-n)).toArray⟩) ∧ Below w.heap.size w w' := rDigits_one (-n) w (by omega) (by omega)
    have H := Pl.itoa_minus n h1.2
    have hl := Lib.itoa_length_le (-n) (by omega) (by omega)
    obtain ⟨t, ht⟩ : ∃ t, Lib.itoa (-n) = t := ⟨_, rfl⟩
    rw [ht] at H hl hc
    have H := Lib.hid H
    have HC := Lib.hid hc
    obtain ⟨h2, h3⟩ := h1
    clear ht
    clear hc ih hm
    go_enter Tryz.func19, Tryz.ntmps19
    go_wp2_with (go_at_call 19; refine HC.out.mono ?_; rintro e w1 ⟨rfl, hb⟩; have HB := Lib.hid hb; clear hb)
    go_ret
    exact ⟨by rw [H.out, show (45 : UInt8) :: t = [45] ++ t from rfl, ← bytes_app]; rfl, HB.out⟩
  have hbig : 9 < n ∨ n < -9 := by omega
  have hq : digM (Int.tdiv n 10) < m := by
    unfold digM at hm ⊢
    rcases hbig with h | h
    · rw [Int.tdiv_eq_ediv_of_nonneg (by omega)]
      split at hm <;> split <;> omega
    · have : Int.tdiv n 10 = -((-n) / 10) := by
        rw [← Int.tdiv_eq_ediv_of_nonneg (by omega), Int.neg_tdiv, Int.neg_neg]
      rw [this]
      split at hm <;> split <;> omega
  have hq0 : -9223372036854775808 ≤ Int.tdiv n 10 ∧ Int.tdiv n 10 ≤ 9223372036854775807 := by
    rcases hbig with h | h
    · rw [Int.tdiv_eq_ediv_of_nonneg (by omega)]; omega
    · have : Int.tdiv n 10 = -((-n) / 10) := by
        rw [← Int.tdiv_eq_ediv_of_nonneg (by omega), Int.neg_tdiv, Int.neg_neg]
      omega
  have hc := fun w => ih _ hq (Int.tdiv n 10) w (Nat.le_refl _) hq0.1 hq0.2
  have H := Lib.hid (Pl.itoa_last n hbig)
  have HC := Lib.hid hc
  clear hc ih hq hm
  have hcv := fun (w : World) (B : Nat) => conv_at w B (48 + (n.natAbs % 10 : Nat)) (UInt8.ofNat (48 + n.natAbs % 10)) (by rw [UInt8.toNat_ofNat_of_lt' (by show _ < 256; omega)]; omega)
  obtain ⟨r, hr⟩ : ∃ r : Nat, n.natAbs % 10 = r := ⟨_, rfl⟩
  obtain ⟨q, hqq⟩ : ∃ q, Int.tdiv n 10 = q := ⟨_, rfl⟩
  have hr9 : r ≤ 9 := by omega
  rw [hr] at hcv H
  obtain ⟨c, hcc⟩ : ∃ c, UInt8.ofNat (48 + r) = c := ⟨_, rfl⟩
  rw [hcc] at hcv H
  clear hcc
  rw [hqq] at H HC hq0
  obtain ⟨q0, q1⟩ := hq0
  have hl := Lib.itoa_length_le q q0 q1
  obtain ⟨t, ht⟩ : ∃ t, Lib.itoa q = t := ⟨_, rfl⟩
  rw [ht] at H HC hl
  clear ht hbig
  have lw1 : IntKind.i64.wrap q = q := IntWalk.i64_in _ (by omega)
  have lw2 : IntKind.i64.wrap (48 + (r : Int)) = 48 + (r : Int) := IntWalk.i64_in _ (by omega)
  have lw3 : IntKind.u8.wrap (48 + (r : Int)) = 48 + (r : Int) := IntWalk.u8_in _ (by omega)
  have hneg' : n < 0 → Int.tmod n 10 = -(r : Int) := by
    intro h
    have : Int.tmod n 10 = -((-n) % 10) := by
      rw [← Int.tmod_eq_emod_of_nonneg (by omega), Int.neg_tmod, Int.neg_neg]
    rw [this]; omega
  by_cases hneg : n < 0
  · have hm := hneg' hneg
    have h9 : n < -9 := by omega
    clear hneg' hr
    by_cases hz : r = 0
    · subst hz
      have hm : Int.tmod n 10 = 0 := by rw [hm]; rfl
      have hcv : ∀ (w : World) (B : Nat), w.cell? ⟨B, 0, none⟩ = some (.int .u8 48) → (convert 68 9 (.slice (some ⟨B, 0, none⟩) 1 1)).run Tryz.prog w = .ok (.string ⟨[c].toArray⟩) w := hcv
      clear lw2 lw3
      have lw2 : IntKind.i64.wrap 48 = 48 := IntWalk.i64_in _ (by omega)
      have lw3 : IntKind.u8.wrap 48 = 48 := IntWalk.u8_in _ (by omega)
      go_enter Tryz.func19, Tryz.ntmps19
      go_wp2_with fail
      have hl2 : ¬ 9223372036854775807 < t.length + 1 := by omega
      have z1 := hcv (w.alloc (.cells #[.int .u8 48] 5)) w.heap.size (cell_new w _ _)
      have z2 := hcv (w.drew.alloc (.cells #[.int .u8 48] 5)) w.heap.size (cell_new w _ _)
      have z3 := hcv (w.alloc (.cells #[.int .u8 48] 5)).drew w.heap.size (cell_new w _ _)
      go_region_with
          (first
            | (go_at_call 19; refine (HC.out _).mono ?_; rintro e w1 ⟨rfl, hb⟩; have q0 : w1.cell? ⟨w.heap.size, 0, none⟩ = some (.int .u8 48) := (hb.cell (p := ⟨w.heap.size, 0, none⟩) (by simp)).trans (cell_new _ _ _); have q1 := hcv _ _ q0; have q2 := hcv w1.drew _ q0; have HB := Lib.hid hb; clear hb)
            | (go_at_call 19; refine (HC.out _).mono ?_; rintro e w1 ⟨rfl, hb⟩; have q1 := hcv _ _ (cell_new w1 (.int .u8 48) 5); have q2 := hcv (w1.drew.alloc (.cells #[.int .u8 48] 5)) w1.heap.size (cell_new w1 _ _); have q3 := hcv (w1.alloc (.cells #[.int .u8 48] 5)).drew w1.heap.size (cell_new w1 _ _); have HB := Lib.hid hb; clear hb))
      all_goals
        go_wp2_with fail
        go_ret
        refine ⟨by rw [H.out, ← bytes_app]; rfl, ?_⟩
        have HB2 := HB.out
        clear HB
        first
          | exact (undrew HB2).alloc (undrew HB2).size _
          | exact below_of ((Below.refl _ w).alloc (Nat.le_refl _) _) (undrew HB2) (Nat.le_refl _)
    · have hrp : -(r : Int) < 0 := by omega
      go_enter Tryz.func19, Tryz.ntmps19
      go_wp2_with fail
      have hl2 : ¬ 9223372036854775807 < t.length + 1 := by omega
      have z1 := hcv (w.alloc (.cells #[.int .u8 (48 + (r : Int))] 5)) w.heap.size (cell_new w _ _)
      have z2 := hcv (w.drew.alloc (.cells #[.int .u8 (48 + (r : Int))] 5)) w.heap.size (cell_new w _ _)
      have z3 := hcv (w.alloc (.cells #[.int .u8 (48 + (r : Int))] 5)).drew w.heap.size (cell_new w _ _)
      go_region_with
          (first
            | (go_at_call 19; refine (HC.out _).mono ?_; rintro e w1 ⟨rfl, hb⟩; have q0 : w1.cell? ⟨w.heap.size, 0, none⟩ = some (.int .u8 (48 + (r : Int))) := (hb.cell (p := ⟨w.heap.size, 0, none⟩) (by simp)).trans (cell_new _ _ _); have q1 := hcv _ _ q0; have q2 := hcv w1.drew _ q0; have HB := Lib.hid hb; clear hb)
            | (go_at_call 19; refine (HC.out _).mono ?_; rintro e w1 ⟨rfl, hb⟩; have q1 := hcv _ _ (cell_new w1 (.int .u8 (48 + (r : Int))) 5); have q2 := hcv (w1.drew.alloc (.cells #[.int .u8 (48 + (r : Int))] 5)) w1.heap.size (cell_new w1 _ _); have q3 := hcv (w1.alloc (.cells #[.int .u8 (48 + (r : Int))] 5)).drew w1.heap.size (cell_new w1 _ _); have HB := Lib.hid hb; clear hb))
      all_goals
        go_wp2_with fail
        go_ret
        refine ⟨by rw [H.out, ← bytes_app]; rfl, ?_⟩
        have HB2 := HB.out
        clear HB
        first
          | exact (undrew HB2).alloc (undrew HB2).size _
          | exact below_of ((Below.refl _ w).alloc (Nat.le_refl _) _) (undrew HB2) (Nat.le_refl _)
  · have hm : Int.tmod n 10 = (r : Int) := by
      rw [Int.tmod_eq_emod_of_nonneg (by omega)]; omega
    have h9 : 9 < n := by omega
    clear hr hneg hneg'
    go_enter Tryz.func19, Tryz.ntmps19
    go_wp2_with fail
    have hl2 : ¬ 9223372036854775807 < t.length + 1 := by omega
    have z1 := hcv (w.alloc (.cells #[.int .u8 (48 + (r : Int))] 5)) w.heap.size (cell_new w _ _)
    have z2 := hcv (w.drew.alloc (.cells #[.int .u8 (48 + (r : Int))] 5)) w.heap.size (cell_new w _ _)
    have z3 := hcv (w.alloc (.cells #[.int .u8 (48 + (r : Int))] 5)).drew w.heap.size (cell_new w _ _)
    go_region_with
        (first
          | (go_at_call 19; refine (HC.out _).mono ?_; rintro e w1 ⟨rfl, hb⟩; have q0 : w1.cell? ⟨w.heap.size, 0, none⟩ = some (.int .u8 (48 + (r : Int))) := (hb.cell (p := ⟨w.heap.size, 0, none⟩) (by simp)).trans (cell_new _ _ _); have q1 := hcv _ _ q0; have q2 := hcv w1.drew _ q0; have HB := Lib.hid hb; clear hb)
          | (go_at_call 19; refine (HC.out _).mono ?_; rintro e w1 ⟨rfl, hb⟩; have q1 := hcv _ _ (cell_new w1 (.int .u8 (48 + (r : Int))) 5); have q2 := hcv (w1.drew.alloc (.cells #[.int .u8 (48 + (r : Int))] 5)) w1.heap.size (cell_new w1 _ _); have q3 := hcv (w1.alloc (.cells #[.int .u8 (48 + (r : Int))] 5)).drew w1.heap.size (cell_new w1 _ _); have HB := Lib.hid hb; clear hb))
    all_goals
      go_wp2_with fail
      go_ret
      refine ⟨by rw [H.out, ← bytes_app]; rfl, ?_⟩
      have HB2 := HB.out
      clear HB
      first
        | exact (undrew HB2).alloc (undrew HB2).size _
        | exact below_of ((Below.refl _ w).alloc (Nat.le_refl _) _) (undrew HB2) (Nat.le_refl _)

theorem rDigits_any (n : Int) (w : World) (h0 : -9223372036854775808 ≤ n) (h1 : n ≤ 9223372036854775807) :
    Calls Tryz.prog 19 #[.int .i64 n] w fun e w' => e = .returned (.string ⟨(Lib.itoa n).toArray⟩) ∧ Below w.heap.size w w' := rDigits_all _ n w (Nat.le_refl _) h0 h1
end Go.Proofs.YthifbihmogjjpaaGreatDoor
