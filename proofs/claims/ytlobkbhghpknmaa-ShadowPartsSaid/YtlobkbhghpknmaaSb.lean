/-
  Shadow: checkNext, fateOf, next, Step.
-/
import Derived.Test.YtlobkbhghpknmaaSa
namespace Go.Proofs.Ytlobkbhghpknmaa.KK
open Go.ChangeShapes Go.WideShapes Go.ChangeAt Go.RowKit Go.Proofs

theorem stepE_chk {s : St} {x : El.En} (h : chkS s ≠ 0) : stepE s x = chkS s := if_neg h
theorem stepE_ent {s : St} {x : El.En} (h : chkS s = 0) (g : El.chk x ≠ 0) : stepE s x = El.chk x := by unfold stepE; rw [if_pos h, if_neg g]
theorem stepE_less {s : St} {x : El.En} (h : chkS s = 0) (g : El.chk x = 0) (k : s.1 = true ∧ lessS x.1 s.2.1 = true) : stepE s x = 6 := by unfold stepE; rw [if_pos h, if_pos g, if_pos k]
theorem stepE_ok {s : St} {x : El.En} (h : chkS s = 0) (g : El.chk x = 0) (k : ¬ (s.1 = true ∧ lessS x.1 s.2.1 = true)) : stepE s x = 0 := by unfold stepE; rw [if_pos h, if_pos g, if_neg k]
/-- the boxes of a state and an entry, in whatever comes -/
theorem box_se (s : Bool) (l : ByteArray) (b : Bool) (k v : ByteArray) (d : Bool) (q : Int) (w : World) : Hid (Below w.heap.size w ((w.alloc (.cells #[.bool s, .string l, .bool b] 23)).alloc (.cells #[.string k, .string v, .bool d, .int .i64 q] 25))) := Lib.hid (al2 _ _ _)

set_option maxRecDepth 100000 in
set_option maxHeartbeats 2000000 in
theorem checkNext_any (s : Bool) (l : ByteArray) (b : Bool) (k v : ByteArray) (d : Bool) (q : Int) (w : World) (hl : l.size ≤ 9223372036854775807) (hk : k.size ≤ 9223372036854775807) (hv : v.size ≤ 9223372036854775807) :
    Calls Try.prog 32 #[.agg #[.bool s, .string l, .bool b], .agg #[.string k, .string v, .bool d, .int .i64 q]] w fun e w' => e = .returned (.int .i64 (stepE (s, l, b) (k, v, d, q))) ∧ Below w.heap.size w w' := by
  have HA := box_se s l b k v d q w
  have J1 := Lib.hid (fun w => pChk_any s l b w hl)
  have J2 := Lib.hid (fun w => eCheck_any k v d q w hk hv)
  by_cases h1 : chkS (s, l, b) = 0
  rotate_left
  · rw [stepE_chk h1]
    obtain ⟨b1, b2⟩ := ne_b h1
    clear h1 J2
    generalize chkS (s, l, b) = r at *
    go_enter Try.func32, Try.ntmps32
    go_wp2_with fail
    refine (J1.out _).mono ?_
    rintro e w1 ⟨rfl, hb⟩
    have HB := Lib.hid (eb_of HA.out hb (Nat.le_refl _))
    clear hb
    go_wp2_with fail
    go_ret
    exact ⟨rfl, HB.out⟩
  rw [h1] at J1
  by_cases h2 : El.chk (k, v, d, q) = 0
  rotate_left
  · rw [stepE_ent h1 h2]
    obtain ⟨b1, b2⟩ := ne_b h2
    clear h1 h2
    generalize El.chk (k, v, d, q) = r at *
    go_enter Try.func32, Try.ntmps32
    go_wp2_with fail
    refine (J1.out _).mono ?_
    rintro e w1 ⟨rfl, hb⟩
    obtain ⟨hc, hf⟩ := bcl hb
    have hz : w.heap.size + 2 ≤ w1.heap.size := by have := hb.size; simpa using this
    have hz0 : w.heap.size < w1.heap.size := by omega
    have hz1 : w.heap.size + 1 < w1.heap.size := by omega
    have HB := Lib.hid (eb_of HA.out hb (Nat.le_refl _))
    clear hb
    go_wp2_with fail
    refine (J2.out _).mono ?_
    rintro e w2 ⟨rfl, hb⟩
    have HB2 := Lib.hid (eb_of HB.out hb (by omega))
    clear hb
    go_wp2_with fail
    go_ret
    exact ⟨rfl, HB2.out⟩
  rw [h2] at J2
  have H : Hid (stepE (s, l, b) (k, v, d, q) = if s = true ∧ lessS k l = true then 6 else 0) := Lib.hid (by
    unfold stepE; rw [if_pos h1, if_pos h2])
  clear h1 h2
  cases s with
  | false =>
    rw [H.out, if_neg (by simp)]
    go_enter Try.func32, Try.ntmps32
    go_wp2_with fail
    refine (J1.out _).mono ?_
    rintro e w1 ⟨rfl, hb⟩
    obtain ⟨hc, hf⟩ := bcl hb
    have hz : w.heap.size + 2 ≤ w1.heap.size := by have := hb.size; simpa using this
    have hz0 : w.heap.size < w1.heap.size := by omega
    have hz1 : w.heap.size + 1 < w1.heap.size := by omega
    have HB := Lib.hid (eb_of HA.out hb (Nat.le_refl _))
    clear hb
    go_wp2_with fail
    refine (J2.out _).mono ?_
    rintro e w2 ⟨rfl, hb⟩
    obtain ⟨hc2, hf2⟩ := bcl hb
    have hz' := hb.size
    have hz0' : w.heap.size < w2.heap.size := by omega
    have hz1' : w.heap.size + 1 < w2.heap.size := by omega
    have HB2 := Lib.hid (eb_of HB.out hb (by omega))
    clear hb
    go_wp2_with fail
    go_ret
    exact ⟨rfl, HB2.out⟩
  | true =>
    have HL : Hid (Op.bytesLess k.toList l.toList = lessS k l) := Lib.hid rfl
    cases hls : lessS k l
    all_goals
      rw [hls] at HL H
      rw [H.out]
      have hll := HL.out
      clear hls
      go_enter Try.func32, Try.ntmps32
      go_wp2_with fail
      refine (J1.out _).mono ?_
      rintro e w1 ⟨rfl, hb⟩
      obtain ⟨hc, hf⟩ := bcl hb
      have hz : w.heap.size + 2 ≤ w1.heap.size := by have := hb.size; simpa using this
      have hz0 : w.heap.size < w1.heap.size := by omega
      have hz1 : w.heap.size + 1 < w1.heap.size := by omega
      have HB := Lib.hid (eb_of HA.out hb (Nat.le_refl _))
      clear hb
      go_wp2_with fail
      refine (J2.out _).mono ?_
      rintro e w2 ⟨rfl, hb⟩
      obtain ⟨hc2, hf2⟩ := bcl hb
      have hz' := hb.size
      have hz0' : w.heap.size < w2.heap.size := by omega
      have hz1' : w.heap.size + 1 < w2.heap.size := by omega
      have HB2 := Lib.hid (eb_of HB.out hb (by omega))
      clear hb
      go_wp2_with fail
      go_ret
      exact ⟨rfl, HB2.out⟩

theorem fate_shad {s : St} {x : El.En} (h : s.1 = true ∧ x.1 = s.2.1) : fateS s x = .shad := if_pos h
theorem fate_drop {s : St} {x : El.En} (h : ¬ (s.1 = true ∧ x.1 = s.2.1)) (g : s.2.2 = true ∧ x.2.2.1 = true) : fateS s x = .drop := by unfold fateS; rw [if_neg h, if_pos g]
theorem fate_kept {s : St} {x : El.En} (h : ¬ (s.1 = true ∧ x.1 = s.2.1)) (g : ¬ (s.2.2 = true ∧ x.2.2.1 = true)) : fateS s x = .kept := by unfold fateS; rw [if_neg h, if_neg g]
set_option maxRecDepth 100000 in
set_option maxHeartbeats 2000000 in
theorem fateOf_any (s : Bool) (l : ByteArray) (b : Bool) (k v : ByteArray) (d : Bool) (q : Int) (w : World) :
    Calls Try.prog 33 #[.agg #[.bool s, .string l, .bool b], .agg #[.string k, .string v, .bool d, .int .i64 q]] w fun e w' => e = .returned (.iface (fateS (s, l, b) (k, v, d, q)).ty (.agg #[.string k, .string v, .bool d, .int .i64 q])) ∧ Below w.heap.size w w' := by
  by_cases h1 : s = true ∧ k = l
  · rw [fate_shad h1]
    obtain ⟨rfl, rfl⟩ := h1
    go_enter Try.func33, Try.ntmps33
    go_wp2_with fail
    go_ret
    exact ⟨rfl, al3 _ _ _ _⟩
  have h0 : s = false ∨ (s = true ∧ (k.toList == l.toList) = false) := by
    cases s with
    | false => exact .inl rfl
    | true => exact .inr ⟨rfl, str_beq_ne (fun e => h1 ⟨rfl, e⟩)⟩
  by_cases h2 : b = true ∧ d = true
  · rw [fate_drop h1 h2]
    obtain ⟨rfl, rfl⟩ := h2
    clear h1
    rcases h0 with rfl | ⟨rfl, hne⟩
    all_goals
      go_enter Try.func33, Try.ntmps33
      go_wp2_with fail
      go_ret
      exact ⟨rfl, al3 _ _ _ _⟩
  · rw [fate_kept h1 h2]
    have h3 : b = false ∨ (b = true ∧ d = false) := by cases b; exact .inl rfl; cases d; exact .inr ⟨rfl, rfl⟩; exact absurd ⟨rfl, rfl⟩ h2
    clear h1 h2
    rcases h0 with rfl | ⟨rfl, hne⟩
    all_goals
      rcases h3 with rfl | ⟨rfl, rfl⟩
      all_goals
        go_enter Try.func33, Try.ntmps33
        go_wp2_with fail
        go_ret
        exact ⟨rfl, al3 _ _ _ _⟩
end Go.Proofs.Ytlobkbhghpknmaa.KK
