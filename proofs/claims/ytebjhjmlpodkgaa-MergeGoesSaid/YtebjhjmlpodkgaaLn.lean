/-
  Trees of losers: the law's comparisons, for what is equal; far; the example.
-/
import Derived.Test.YtebjhjmlpodkgaaLm
namespace Go.Proofs.Ytebjhjmlpodkgaa.KK
open Go.ChangeShapes Go.WideShapes Go.ChangeAt Go.RowKit Go.Proofs

set_option maxHeartbeats 2000000 in
theorem ints_eq (A A' : Option Addr) (c c' : Nat) (xs : List Int) (w : World) (hf : IsAt w A xs) (hg : IsAt w A' xs) (hn : xs.length ≤ 4294967295) :
    Calls Try.prog 21 #[.slice A xs.length c, .slice A' xs.length c'] w fun e w' => e = .returned (.bool true) ∧ Below w.heap.size w w' := by
  obtain ⟨n, hnn⟩ : ∃ n, xs.length = n := ⟨_, rfl⟩
  have HN := Lib.hid hnn
  rw [hnn] at hn ⊢
  clear hnn
  have HF := Lib.hid hf
  have HG := Lib.hid hg
  clear hf hg
  go_enter Try.func21, Try.ntmps21
  go_wp2_with fail
  go_loopw [5] (fun i wr => ∃ k : Nat, k ≤ n ∧ i = .int .i64 k ∧ Below w.heap.size w wr) (fun i _ => n - (intOf i).toNat)
  case atStart => exact ⟨0, Nat.zero_le _, rfl, Below.refl _ _⟩
  case round =>
    obtain ⟨k, hk, rfl, hb⟩ := hrel
    have hsz := hb.size
    have HB := Lib.hid hb
    have hf' := HF.out.below hb (Nat.le_refl _)
    have hg' := HG.out.below hb (Nat.le_refl _)
    clear hb
    by_cases hlt : k < n
    · have hl : k < xs.length := by rw [HN.out]; exact hlt
      rcases hf' with h0 | ⟨b, off, rfl, hbl, hc⟩
      · subst h0; simp at hl
      rcases hg' with h0 | ⟨b', off', rfl, hbl', hc'⟩
      · subst h0; simp at hl
      have g0 := hc k hl
      have k0 := hc' k hl
      have l1 : (k : Int) < (n : Int) := by omega
      clear hc hc'
      generalize xs[k] = v at *
      go_wp2_with fail
      go_quiet (fail)
      go_wp2_with fail
      go_roundw
      case rel => exact ⟨k + 1, by omega, by go_num, HB.out.trans ((below_drewN' _).mono hsz)⟩
      case measure => simp [intOf]; omega
    · go_wp2_with fail
      go_ret
      exact ⟨rfl, HB.out⟩
set_option maxRecDepth 100000 in
set_option maxHeartbeats 4000000 in
theorem same_eq (A A' B B' : Option Addr) (c c' d d' : Nat) (ks : List LK) (ls : List Int) (win : Int) (w : World) (hf : KsAt w A ks) (hf' : KsAt w A' ks) (hg : IsAt w B ls) (hg' : IsAt w B' ls) (hn : ks.length ≤ 4294967295) (hm : ls.length ≤ 4294967295) :
    Calls Try.prog 51 #[.agg #[.slice A ks.length c, .slice B ls.length d, .int .i64 win], .agg #[.slice A' ks.length c', .slice B' ls.length d', .int .i64 win]] w fun e w' => e = .returned (.bool true) ∧ Below w.heap.size w w' := by
  obtain ⟨n, hnn⟩ : ∃ n, ks.length = n := ⟨_, rfl⟩
  have HN := Lib.hid hnn
  obtain ⟨w0, hw0⟩ : ∃ w0, w0 = (w.alloc (.cells #[.slice A ks.length c, .slice B ls.length d, .int .i64 win] 28)).alloc (.cells #[.slice A' ks.length c', .slice B' ls.length d', .int .i64 win] 28) := ⟨_, rfl⟩
  have HB0 : Hid (Below w.heap.size w w0) := Lib.hid (hw0 ▸ alloc2_below _ _ _)
  have HR0 : Hid (Row3 w0 w.heap.size 28 (.slice A ks.length c) (.slice B ls.length d) (.int .i64 win)) := Lib.hid (hw0 ▸ hp2 _ _ _)
  have HR1 : Hid (Row3 w0 (w.heap.size + 1) 28 (.slice A' ks.length c') (.slice B' ls.length d') (.int .i64 win)) := Lib.hid (hw0 ▸ hp3 _ _ _ rfl)
  have JI := Lib.hid (fun w' (hb : Below w.heap.size w w') => ints_eq B B' d d' ls w' (hg.below hb (Nat.le_refl _)) (hg'.below hb (Nat.le_refl _)) hm)
  have HF := Lib.hid (hf.below HB0.out (Nat.le_refl _))
  have HF' := Lib.hid (hf'.below HB0.out (Nat.le_refl _))
  rw [hnn] at hn hw0 HR0 HR1 ⊢
  clear hf hf' hg hg' hnn
  generalize ls.length = m at *
  go_enter Try.func51, Try.ntmps51
  go_upto_region 1 with fail
  rw [← hw0]
  clear hw0
  have x0 := HR0.out.c0
  have x1 := HR0.out.c1
  have x2 := HR0.out.c2
  have y0 := HR1.out.c0
  have y1 := HR1.out.c1
  have y2 := HR1.out.c2
  go_wp2_with fail
  refine (JI.out _ HB0.out).mono ?_
  rintro e w1 ⟨rfl, hb⟩
  have HB1 := Lib.hid hb
  clear hb x0 x1 x2 y0 y1 y2
  have hle := HB0.out.size
  go_wp2_with fail
  go_loopw [5] (fun i wr => ∃ k : Nat, k ≤ n ∧ i = .int .i64 k ∧ Below w0.heap.size w0 wr) (fun i _ => n - (intOf i).toNat)
  case atStart => exact ⟨0, Nat.zero_le _, rfl, HB1.out⟩
  case round =>
    obtain ⟨k, hk, rfl, hb⟩ := hrel
    have hsz := hb.size
    have HB := Lib.hid hb
    have hf' := HF.out.below hb (Nat.le_refl _)
    have hg' := HF'.out.below hb (Nat.le_refl _)
    have x0 := (HR0.out.below hb (Nat.le_refl _)).c0
    have y0 := (HR1.out.below hb (Nat.le_refl _)).c0
    clear hb
    by_cases hlt : k < n
    · have hl : k < ks.length := by rw [HN.out]; exact hlt
      rcases hf' with h0 | ⟨b, off, rfl, hbl, hc⟩
      · subst h0; simp at hl
      rcases hg' with h0 | ⟨b', off', rfl, hbl', hc'⟩
      · subst h0; simp at hl
      obtain ⟨g0, g1⟩ := hc k hl
      obtain ⟨k0, k1⟩ := hc' k hl
      have l1 : (k : Int) < (n : Int) := by omega
      clear hc hc'
      generalize ks[k] = v at *
      obtain ⟨v1, v2⟩ := v
      go_wp2_with fail
      go_quiet (fail)
      go_wp2_with fail
      go_roundw
      case rel => exact ⟨k + 1, by omega, by go_num, HB.out.trans ((below_drewN' _).mono hsz)⟩
      case measure => simp [intOf]; omega
    · go_wp2_with fail
      go_ret
      exact ⟨rfl, HB0.out.trans (HB.out.mono hle)⟩
end Go.Proofs.Ytebjhjmlpodkgaa.KK
