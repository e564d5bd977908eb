/-
  Contracts of checkList, spanEnd, writtenSpan.
-/
import Derived.Test.YthifbihmogjjpaaDoorWo
import Derived.Test.YthifbihmogjjpaaDoorPi
import Derived.BigQuiet
import Derived.Lib.ItoaLen
namespace Go.Proofs.YthifbihmogjjpaaDoor
open Go.ChangeShapes Go.WideShapes Go.ChangeAt Go.RowKit Go.Proofs

/-- a slice value that reads as integers -/
def IntsAt (w : World) (A : Option Addr) (l : List Int) : Prop :=
  l = [] ∨ ∃ b off, A = some ⟨b, off, none⟩ ∧ b < w.heap.size ∧ ∀ (i : Nat), i < l.length → w.cell? ⟨b, off + i, none⟩ = some (.int .i64 (Pl.el l i))
theorem IntsAt.below {B : Nat} {w w' : World} {A : Option Addr} {l : List Int} (h : IntsAt w A l) (hb : Below B w w') (hB : w.heap.size ≤ B) : IntsAt w' A l := by
  rcases h with h | ⟨b, off, hA, hlt, hc⟩
  · exact .inl h
  · refine .inr ⟨b, off, hA, Nat.lt_of_lt_of_le hlt hb.size, fun i hi => ?_⟩
    rw [hb.cell (p := ⟨b, off + i, none⟩) (by simp; omega)]; exact hc i hi
def Fits (l : List Int) : Prop := ∀ i, -9223372036854775808 ≤ Pl.el l i ∧ Pl.el l i ≤ 9223372036854775807
theorem retI {a b : Int} {w w' : World} (h : b = a) (hw : Below w.heap.size w w') : Ending.returned (.int .i64 a) = Ending.returned (.int .i64 b) ∧ Below w.heap.size w w' := ⟨by rw [h], hw⟩

set_option maxRecDepth 100000 in
set_option maxHeartbeats 1000000 in
theorem checkList_any (A : Option Addr) (c : Nat) (l : List Int) (w : World) (hl : IntsAt w A l) (hf : Fits l) (hn : l.length ≤ 4294967295) :
    Calls Tryd.prog 33 #[.slice A l.length c] w fun e w' => e = .returned (.int .i64 (Pl.chk l)) ∧ Below w.heap.size w w' := by
  by_cases h5 : 500 < l.length
  · have H : Hid (Pl.chk l = 3) := Lib.hid (by unfold Pl.chk; rw [if_pos h5])
    go_enter Tryd.func33, Tryd.ntmps33
    go_wp2_with fail
    go_ret
    exact retI H.out (Below.refl _ _)
  have h5' : ((500 : Int) < (l.length : Int)) = False := by simp; omega
  have hdec : decide ((500 : Int) < (l.length : Int)) = false := by simp; omega
  clear h5'
  go_enter Tryd.func33, Tryd.ntmps33
  go_wp2_with fail
  go_loop [11] (fun i => ∃ k : Nat, k ≤ l.length ∧ i = .int .i64 k ∧ (l.take k).any Pl.outR = false) (fun i => l.length - (intOf i).toNat)
  case atStart => exact ⟨0, Nat.zero_le _, rfl, by simp⟩
  case round =>
    obtain ⟨k, hk, rfl, ha⟩ := hrel
    have HA := Lib.hid ha
    clear ha
    by_cases hlt : k < l.length
    · rcases hl with h0 | ⟨b, off, rfl, hbl, hc⟩
      · subst h0; simp at hlt
      have g0 := hc k hlt
      clear hc
      obtain ⟨x, hx⟩ : ∃ x, Pl.el l k = x := ⟨_, rfl⟩
      rw [hx] at g0
      have HX := Lib.hid hx
      clear hx
      by_cases h1 : x < 0
      · have H : Hid (Pl.chk l = 7) := Lib.hid (by
          unfold Pl.chk; rw [if_neg (by omega), if_pos (Pl.any_el l k hlt (by rw [HX.out]; simp [Pl.outR, h1]))])
        go_wp2_with fail
        go_ret
        exact retI H.out (Below.refl _ _)
      by_cases h2 : 1000000000 < x
      · have H : Hid (Pl.chk l = 7) := Lib.hid (by
          unfold Pl.chk; rw [if_neg (by omega), if_pos (Pl.any_el l k hlt (by rw [HX.out]; simp [Pl.outR, h2]))])
        go_wp2_with fail
        go_ret
        exact retI H.out (Below.refl _ _)
      go_wp2_with fail
      go_round
      case rel => exact ⟨k + 1, by omega, by go_num, by rw [Pl.any_take l k hlt, HA.out, HX.out]; simp [Pl.outR]; omega⟩
      case measure => simp [intOf]; omega
    · have HN : Hid (l.any Pl.outR = false) := Lib.hid (by have := HA.out; rwa [List.take_of_length_le (by omega)] at this)
      clear hk HA
      go_wp2_with fail
      go_loopw [5] (fun i wr => ∃ k : Nat, 1 ≤ k ∧ (k ≤ l.length ∨ k = 1) ∧ i = .int .i64 k ∧ Below w.heap.size w wr ∧ ∀ j, j + 1 < k → Pl.el l j < Pl.el l (j + 1)) (fun i _ => l.length - (intOf i).toNat)
      case atStart => exact ⟨1, Nat.le_refl _, .inr rfl, rfl, Below.refl _ _, fun j hj => by omega⟩
      case round =>
        obtain ⟨k, hk1, hk, rfl, hb, ha⟩ := hrel
        have HA := Lib.hid ha
        have HB := Lib.hid hb
        have hsz := hb.size
        have hl' := hl.below hb (Nat.le_refl _)
        clear ha hb hl
        by_cases hlt : k < l.length
        · rcases hl' with h0 | ⟨b, off, rfl, hbl, hc⟩
          · subst h0; simp at hlt
          obtain ⟨m, rfl⟩ : ∃ m, k = m + 1 := ⟨k - 1, by omega⟩
          have g0 := hc m (by omega)
          have g1 := hc (m + 1) hlt
          clear hc
          obtain ⟨x, hx⟩ : ∃ x, Pl.el l m = x := ⟨_, rfl⟩
          obtain ⟨y, hy⟩ : ∃ y, Pl.el l (m + 1) = y := ⟨_, rfl⟩
          rw [hx] at g0
          rw [hy] at g1
          have HX := Lib.hid hx
          have HY := Lib.hid hy
          clear hx hy
          have e1 : (m : Int) < (l.length : Int) := by omega
          have e2 : (m : Int) + 1 < (l.length : Int) := by omega
          by_cases hxy : x < y
          · go_wp2_with fail
            go_quiet (fail)
            go_wp2_with fail
            go_roundw
            case rel =>
              refine ⟨m + 1 + 1, by omega, by omega, by go_num, HB.out.trans ((below_drewN' _).mono hsz), fun j hj => ?_⟩
              by_cases hjm : j = m
              · subst hjm; rw [HX.out, HY.out]; exact hxy
              · exact HA.out j (by omega)
            case measure => simp [intOf]; omega
          · have H : Hid (Pl.chk l = 6) := Lib.hid (by
              unfold Pl.chk; rw [if_neg (by omega), HN.out]
              have : Pl.ascB l = false := by
                unfold Pl.ascB; rw [decide_eq_false_iff_not]; intro h
                have := h m (by omega)
                rw [HX.out, HY.out] at this; exact hxy this
              rw [this]; simp)
            go_wp2_with fail
            go_quiet (fail)
            go_wp2_with fail
            go_ret
            exact retI H.out (HB.out.trans ((below_drewN' _).mono hsz))
        · have H : Hid (Pl.chk l = 0) := Lib.hid (by
            unfold Pl.chk; rw [if_neg (by omega), HN.out]
            have : Pl.ascB l = true := by
              unfold Pl.ascB; rw [decide_eq_true_eq]; intro j hj
              exact HA.out j (by omega)
            rw [this]; simp)
          go_wp2_with fail
          go_ret
          exact retI H.out HB.out

theorem writtenSpan_any (a b : Int) (w : World) (hl : LibAt w) (h9 : 9 ≤ w.heap.size) (a0 : 0 ≤ a) (a1 : a ≤ 1000000000) (b0 : 0 ≤ b) (b1 : b ≤ 1000000000) :
    Calls Tryd.prog 35 #[.int .i64 a, .int .i64 b] w fun e w' => e = .returned (.string ⟨(Pl.wr2 a b).toArray⟩) ∧ Below w.heap.size w w' := by
  have HL := Lib.hid hl
  have la := Lib.itoa_length_le a (by omega) (by omega)
  have lb := Lib.itoa_length_le b (by omega) (by omega)
  clear hl
  by_cases h : a = b
  · have H : Hid (Pl.wr2 a b = Lib.itoa a) := Lib.hid (by unfold Pl.wr2; rw [if_pos h])
    have q : (a == b) = true := by simpa using h
    clear h
    go_enter Tryd.func35, Tryd.ntmps35
    go_wp2_with (go_at_call 21; refine (Digits_any _ _ HL.out (by omega) (by omega)).mono ?_; rintro e w1 ⟨rfl, hb⟩; have HB := Lib.hid hb; clear hb)
    go_ret
    exact ⟨by rw [H.out]; rfl, HB.out⟩
  · have H : Hid (Pl.wr2 a b = Lib.itoa a ++ [45] ++ Lib.itoa b) := Lib.hid (by unfold Pl.wr2; rw [if_neg h])
    have q : (a == b) = false := by simpa using h
    clear h
    go_enter Tryd.func35, Tryd.ntmps35
    go_wp2_with fail
    refine (Digits_any _ _ HL.out (by omega) (by omega)).mono ?_
    rintro e w1 ⟨rfl, hb⟩
    have HL1 := Lib.hid (HL.out.below hb h9)
    have HB := Lib.hid hb
    clear hb
    go_wp2_with fail
    refine (Digits_any _ _ HL1.out (by omega) (by omega)).mono ?_
    rintro e w2 ⟨rfl, hb2⟩
    have HB2 := Lib.hid hb2
    clear hb2
    go_wp2_with fail
    go_ret
    exact ⟨by rw [H.out, ← ByteArray.mk_append_mk, ← ByteArray.mk_append_mk]; rfl, below_of HB.out HB2.out (Nat.le_refl _)⟩
end Go.Proofs.YthifbihmogjjpaaDoor
