/-
  Fences: Same.
-/
import Derived.Test.YtpgngiegpigfiaaFr
namespace Go.Proofs.Ytpgngiegpigfiaa.KK
open Go.ChangeShapes Go.WideShapes Go.ChangeAt Go.RowKit Go.Proofs

set_option maxRecDepth 100000 in
set_option maxHeartbeats 2000000 in
theorem Same7_any (s s' : Int) (A A' : Option Addr) (c c' : Nat) (ms ns : List ByteArray) (w : World) (hf : SsAt w A ms) (hg : SsAt w A' ns) (hn : ms.length ≤ 4294967295) (hn' : ns.length ≤ 4294967295) :
    Calls Try.prog 17 #[.agg #[.int .i64 s, .slice A ms.length c], .agg #[.int .i64 s', .slice A' ns.length c']] w fun e w' => e = .returned (.bool (decide (s = s') && decide (ms = ns))) ∧ Below w.heap.size w w' := by
  have HX := boxF s A ms.length c w
  have HY : Hid (∀ w', Below ((w.alloc (.cells #[.int .i64 s, .slice A ms.length c] 25)).alloc (.cells #[.int .i64 s', .slice A' ns.length c'] 25)).heap.size ((w.alloc (.cells #[.int .i64 s, .slice A ms.length c] 25)).alloc (.cells #[.int .i64 s', .slice A' ns.length c'] 25)) w' →
      w'.cell? ⟨w.heap.size, 0, none⟩ = some (.int .i64 s) ∧ w'.cell? ⟨w.heap.size, 1, none⟩ = some (.slice A ms.length c) ∧ w'.cell? ⟨w.heap.size + 1, 0, none⟩ = some (.int .i64 s') ∧ w'.cell? ⟨w.heap.size + 1, 1, none⟩ = some (.slice A' ns.length c') ∧ w.heap.size + 1 < w'.heap.size ∧ Below w.heap.size w w') := Lib.hid fun w' h => by
    have h1 : Below (w.alloc (.cells #[.int .i64 s, .slice A ms.length c] 25)).heap.size (w.alloc (.cells #[.int .i64 s, .slice A ms.length c] 25)) w' := ((Below.refl _ _).alloc (Nat.le_refl _) _).trans (h.mono (by simp))
    obtain ⟨x0, x1, x2, x3⟩ := HX.out _ h1
    have HR := Row2.new (w.alloc (.cells #[.int .i64 s, .slice A ms.length c] 25)) 25 (.int .i64 s') (.slice A' ns.length c')
    have HR := HR.below h (Nat.le_refl _)
    rw [show (w.alloc (.cells #[.int .i64 s, .slice A ms.length c] 25)).heap.size = w.heap.size + 1 by simp] at HR
    exact ⟨x0, x1, HR.c0, HR.c1, HR.lt, x3⟩
  obtain ⟨x0, x1, x2, x3, x4, x5⟩ := HY.out _ (Below.refl _ _)
  have HB := Lib.hid x5
  clear x4 x5
  by_cases hs : s = s'
  rotate_left
  · have H : Hid ((decide (s = s') && decide (ms = ns)) = false) := Lib.hid (by rw [decide_eq_false hs, Bool.false_and])
    have h1 : (s == s') = false := by rw [beq_eq_false_iff_ne]; exact hs
    have h2 : (s != s') = true := by rw [bne_iff_ne]; exact hs
    clear hs hf hg
    go_enter Try.func17, Try.ntmps17
    go_wp2_with fail
    go_ret
    exact ⟨retB (by rw [H.out]), HB.out⟩
  subst hs
  by_cases hlen : ms.length = ns.length
  rotate_left
  · have H : Hid (decide (ms = ns) = false) := Lib.hid (decide_eq_false (p := ms = ns) (fun e => hlen (by rw [e])))
    obtain ⟨n1, n2⟩ := num_ne hlen
    clear hf hg hlen
    go_enter Try.func17, Try.ntmps17
    go_wp2_with fail
    go_ret
    exact ⟨retB (by rw [H.out]; simp), HB.out⟩
  have H : Hid ((decide (s = s) && decide (ms = ns)) = decide (ms = ns)) := Lib.hid (by simp)
  have HL := Lib.hid hlen
  have n1 : ((ms.length : Int) == (ns.length : Int)) = true := by simp; omega
  have n2 : ((ms.length : Int) != (ns.length : Int)) = false := by simp; omega
  have HF := Lib.hid hf
  have HG := Lib.hid hg
  clear hf hg hlen
  go_enter Try.func17, Try.ntmps17
  go_wp2_with fail
  go_loopw [5] (fun i wr => ∃ k : Nat, k ≤ ms.length ∧ i = .int .i64 k ∧ Below ((w.alloc (.cells #[.int .i64 s, .slice A ms.length c] 25)).alloc (.cells #[.int .i64 s, .slice A' ns.length c'] 25)).heap.size ((w.alloc (.cells #[.int .i64 s, .slice A ms.length c] 25)).alloc (.cells #[.int .i64 s, .slice A' ns.length c'] 25)) wr ∧ ms.take k = ns.take k) (fun i _ => ms.length - (intOf i).toNat)
  case atStart => exact ⟨0, Nat.zero_le _, rfl, Below.refl _ _, by simp⟩
  case round =>
    obtain ⟨k, hk, rfl, hb, ha⟩ := hrel
    obtain ⟨v0, v1, v2, v3, v4, v5⟩ := HY.out _ hb
    have HC := Lib.hid hb
    have HW := Lib.hid v5
    have HA := Lib.hid ha
    clear hb ha v4 v5 x0 x1 x2 x3 n1 n2
    by_cases hlt : k < ms.length
    rotate_left
    · have HE : Hid (ms = ns) := Lib.hid (by
        have h1 := HA.out; have h2 := HL.out
        rwa [List.take_of_length_le (by omega), List.take_of_length_le (by omega)] at h1)
      go_wp2_with fail
      go_ret
      exact ⟨retB (by rw [decide_eq_true HE.out]; simp), HW.out⟩
    have hlt' : k < ns.length := by have := HL.out; omega
    have hle2 : (k : Int) < (ns.length : Int) := by omega
    have e1 := HF.out.below HW.out (Nat.le_refl _)
    have e2 := HG.out.below HW.out (Nat.le_refl _)
    rcases e1 with h0 | ⟨b, off, rfl, hbl, hc⟩
    · subst h0; simp at hlt
    rcases e2 with h0 | ⟨b', off', rfl, hbl', hc'⟩
    · subst h0; simp at hlt'
    have g0 := hc k hlt
    have g1 := hc' k hlt'
    clear hc hc'
    by_cases he : ms[k] = ns[k]
    · have HE : Hid (ms.take (k + 1) = ns.take (k + 1)) := Lib.hid (by rw [List.take_succ_eq_append_getElem hlt, List.take_succ_eq_append_getElem hlt', HA.out, he])
      rw [← he] at g1
      clear he
      generalize ms[k] = m at *
      go_wp2_with fail
      go_quiet (fail)
      go_wp2_with fail
      go_roundw
      case rel => exact ⟨k + 1, by omega, by go_num, HC.out.trans ((below_drewN' _).mono HC.out.size), HE.out⟩
      case measure => simp [intOf]; omega
    · have HE : Hid (decide (ms = ns) = false) := Lib.hid (decide_eq_false (fun e => he (by simp only [e])))
      have he2 := str_beq_ne he
      have he3 := str_ne he
      clear he
      generalize ms[k] = m at *
      generalize ns[k] = m' at *
      go_wp2_with fail
      go_quiet (fail)
      go_wp2_with fail
      go_ret
      exact ⟨retB (by rw [HE.out]; simp), HW.out.trans ((below_drewN' _).mono HW.out.size)⟩
end Go.Proofs.Ytpgngiegpigfiaa.KK
