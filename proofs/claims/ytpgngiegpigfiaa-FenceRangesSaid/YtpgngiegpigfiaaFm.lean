/-
  Fences: Span of the program.
-/
import Derived.Test.YtpgngiegpigfiaaFl
namespace Go.Proofs.Ytpgngiegpigfiaa.KK
open Go.ChangeShapes Go.WideShapes Go.ChangeAt Go.RowKit Go.Proofs

def spanE (s : Int) (ms : List ByteArray) (n : Int) (key : ByteArray) : Int × Int × Int :=
  if keyE s ms key ≠ 0 then (0, 0, keyE s ms key) else if n < 0 ∨ 5000 < n then (0, 0, 7) else if ms.length ≠ mk n.toNat s.toNat then (0, 0, 6)
  else (((upN ms key * s.toNat : Nat) : Int), ((min (upN ms key * s.toNat + s.toNat) n.toNat : Nat) : Int), 0)
theorem spanE_no {s : Int} {ms : List ByteArray} {n : Int} {key : ByteArray} (h : keyE s ms key ≠ 0) : spanE s ms n key = (0, 0, keyE s ms key) := if_pos h
theorem spanE_far {s : Int} {ms : List ByteArray} {n : Int} {key : ByteArray} (h : keyE s ms key = 0) (g : n < 0 ∨ 5000 < n) : spanE s ms n key = (0, 0, 7) := by
  unfold spanE; rw [if_neg (by rw [h]; simp), if_pos g]
theorem spanE_form {s : Int} {ms : List ByteArray} {n : Int} {key : ByteArray} (h : keyE s ms key = 0) (g : ¬ (n < 0 ∨ 5000 < n)) (k : ms.length ≠ mk n.toNat s.toNat) : spanE s ms n key = (0, 0, 6) := by
  unfold spanE; rw [if_neg (by rw [h]; simp), if_neg g, if_pos k]
theorem spanE_ok {s : Int} {ms : List ByteArray} {n : Int} {key : ByteArray} (h : keyE s ms key = 0) (g : ¬ (n < 0 ∨ 5000 < n)) (k : ms.length = mk n.toNat s.toNat) :
    spanE s ms n key = (((upN ms key * s.toNat : Nat) : Int), ((min (upN ms key * s.toNat + s.toNat) n.toNat : Nat) : Int), 0) := by
  unfold spanE; rw [if_neg (by rw [h]; simp), if_neg g, if_neg (by omega)]
set_option maxRecDepth 100000 in
set_option maxHeartbeats 2000000 in
theorem pSpan7_any (s : Int) (A : Option Addr) (c : Nat) (ms : List ByteArray) (n : Int) (key : ByteArray) (w : World) (hf : SsAt w A ms) (hn : ms.length ≤ 4294967295) (hs : SizedS ms) (hz : key.size ≤ 9223372036854775807) :
    Calls Try.prog 28 #[.agg #[.int .i64 s, .slice A ms.length c], .int .i64 n, .string key] w fun e w' => e = .returned (.tuple #[.int .i64 (spanE s ms n key).1, .int .i64 (spanE s ms n key).2.1, .int .i64 (spanE s ms n key).2.2]) ∧ Below w.heap.size w w' := by
  have HX := boxF s A ms.length c w
  obtain ⟨x0, x1, x2, x3⟩ := HX.out _ (Below.refl _ _)
  have HB := Lib.hid x3
  have J1 := Lib.hid (fun w1 (h : Below w.heap.size w w1) => checkKey_any s A c ms key w1 (hf.below h (Nat.le_refl _)) hn hs hz)
  clear x3
  by_cases h : keyE s ms key = 0
  rotate_left
  · have HL := Lib.hid (spanE_no (n := n) h)
    obtain ⟨b1, b2⟩ := ne_b h
    clear hf hs h
    generalize keyE s ms key = r at *
    go_enter Try.func28, Try.ntmps28
    go_wp2_with fail
    refine (J1.out _ HB.out).mono ?_
    rintro e w1 ⟨rfl, hb⟩
    have HB1 := Lib.hid (eb_of HB.out hb (by simp))
    clear hb
    go_wp2_with fail
    go_ret3
    exact ⟨ret3 HL.out, HB1.out⟩
  rw [h] at J1
  obtain ⟨G, hk⟩ := keyE_zero h
  by_cases g1 : n < 0
  · have HL := Lib.hid (spanE_far h (.inl g1))
    clear hf hs h G
    go_enter Try.func28, Try.ntmps28
    go_wp2_with fail
    refine (J1.out _ HB.out).mono ?_
    rintro e w1 ⟨rfl, hb⟩
    have HB1 := Lib.hid (eb_of HB.out hb (by simp))
    clear hb
    go_wp2_with fail
    go_ret3
    exact ⟨ret3 HL.out, HB1.out⟩
  by_cases g2 : 5000 < n
  · have HL := Lib.hid (spanE_far h (.inr g2))
    clear hf hs h G
    go_enter Try.func28, Try.ntmps28
    go_wp2_with fail
    refine (J1.out _ HB.out).mono ?_
    rintro e w1 ⟨rfl, hb⟩
    have HB1 := Lib.hid (eb_of HB.out hb (by simp))
    clear hb
    go_wp2_with fail
    go_ret3
    exact ⟨ret3 HL.out, HB1.out⟩
  obtain ⟨st, rfl⟩ : ∃ st : Nat, s = (st : Int) := ⟨s.toNat, by have := G.step; omega⟩
  obtain ⟨m, rfl⟩ : ∃ m : Nat, n = (m : Int) := ⟨n.toNat, by omega⟩
  have hst : 1 ≤ st ∧ st ≤ 64 := by have := G.step; omega
  have JM := Lib.hid (fun w => marksFor_any m st w (by omega) hst.1 hst.2)
  by_cases hlen : ms.length = mk m st
  rotate_left
  · have HL := Lib.hid (spanE_form (n := (m : Int)) h (by omega) (by rw [show ((m : Nat) : Int).toNat = m by omega, show ((st : Nat) : Int).toNat = st by omega]; exact hlen))
    obtain ⟨n1, n2⟩ := num_ne hlen
    clear hf hs h G hlen
    generalize mk m st = q at *
    go_enter Try.func28, Try.ntmps28
    go_wp2_with fail
    refine (J1.out _ HB.out).mono ?_
    rintro e w1 ⟨rfl, hb⟩
    obtain ⟨u0, u1, u2, u3⟩ := HX.out _ hb
    have HB1 := Lib.hid u3
    have z0 := abv_cell u2 u0
    have z1 := abv_cell u2 u1
    clear hb u3
    go_wp2_with fail
    refine wp_region_abv (by first | assumption | kernel_rfl) (by kernel_rfl) ?_
    repeat (first | go_big_quiet_step (exact callAbv0 (JM.out _)) | quiet_step (exact callAbv0 (JM.out _)))
    refine wpQuiet_nil ?_
    intro w2 hw2
    obtain ⟨p, rfl⟩ := hw2
    have HB2 := Lib.hid (eb_of HB1.out p.h (Nat.le_refl _))
    go_wp2_with fail
    go_ret3
    exact ⟨ret3 HL.out, HB2.out⟩
  have HL := Lib.hid (spanE_ok (n := (m : Int)) h (by omega) (by rw [show ((m : Nat) : Int).toNat = m by omega, show ((st : Nat) : Int).toNat = st by omega]; exact hlen))
  rw [show ((m : Nat) : Int).toNat = m by omega, show ((st : Nat) : Int).toNat = st by omega] at HL
  have J2 : Hid (∀ w1, Below w.heap.size w w1 → Calls Try.prog 49 #[.agg #[.int .i64 (st : Int), .slice A ms.length c], .string key] w1 fun e w' => e = .returned (.int .i64 (upN ms key)) ∧ Below w1.heap.size w1 w') := Lib.hid (fun w1 (h : Below w.heap.size w w1) => blockOf_any st A c ms key w1 (hf.below h (Nat.le_refl _)) hn G.key hk G.asc)
  have hup := upN_le ms key
  have hl5 := G.len
  have J3 := Lib.hid (fun w => bounds_any m st (upN ms key) w (by omega) hst.2 (by omega))
  rw [← hlen] at JM
  clear hf hs h G hlen
  generalize upN ms key = up at *
  generalize up * st = f1 at *
  generalize min (f1 + st) m = f2 at *
  go_enter Try.func28, Try.ntmps28
  go_wp2_with fail
  refine (J1.out _ HB.out).mono ?_
  rintro e w1 ⟨rfl, hb⟩
  obtain ⟨u0, u1, u2, u3⟩ := HX.out _ hb
  have HB1 := Lib.hid u3
  have HC := Lib.hid hb
  have z0 := abv_cell u2 u0
  have z1 := abv_cell u2 u1
  clear hb u3
  go_wp2_with fail
  refine wp_region_abv (by first | assumption | kernel_rfl) (by kernel_rfl) ?_
  repeat (first | go_big_quiet_step (exact callAbv0 (JM.out _)) | quiet_step (exact callAbv0 (JM.out _)))
  refine wpQuiet_nil ?_
  intro w2 hw2
  obtain ⟨p, rfl⟩ := hw2
  have HC2 := Lib.hid (eb_of HC.out p.h (Nat.le_refl _))
  obtain ⟨v0, v1, v2, v3⟩ := HX.out _ HC2.out
  have HB2 := Lib.hid v3
  clear z0 z1 u0 u1 u2 v3
  have z0 := abv_cell v2 v0
  have z1 := abv_cell v2 v1
  have J4 : Hid (∀ p2 : Abv p.world, Calls Try.prog 49 #[.agg #[.int .i64 (st : Int), .slice A ms.length c], .string key] p2.world fun e w' => e = .returned (.int .i64 up) ∧ Below p2.world.heap.size p2.world w') := Lib.hid (fun p2 => J2.out _ (eb_of HB2.out p2.h (Nat.le_refl _)))
  go_wp2_with fail
  refine wp_region_abv (by first | assumption | kernel_rfl) (by kernel_rfl) ?_
  repeat (first | go_big_quiet_step (first | (go_at_call 49; exact callAbv (J4.out _)) | exact callAbv (J4.out _) | exact callAbv0 (J3.out _)) | quiet_step (first | exact callAbv (J4.out _) | exact callAbv0 (J3.out _)))
  refine wpQuiet_nil ?_
  intro w3 hw3
  obtain ⟨p2, rfl⟩ := hw3
  have HB3 := Lib.hid (eb_of HB2.out p2.h (Nat.le_refl _))
  go_wp2_with fail
  go_ret3
  exact ⟨ret3 HL.out, HB3.out⟩
end Go.Proofs.Ytpgngiegpigfiaa.KK
