/-
  Shadow: the reference's Step.
-/
import Derived.Test.YtlobkbhghpknmaaSc
namespace Go.Proofs.Ytlobkbhghpknmaa.KK
open Go.ChangeShapes Go.WideShapes Go.ChangeAt Go.RowKit Go.Proofs

set_option maxRecDepth 100000 in
set_option maxHeartbeats 2000000 in
theorem rstep_no (s : Bool) (l : ByteArray) (b : Bool) (k v : ByteArray) (d : Bool) (q : Int) (w : World) (hl : l.size ≤ 9223372036854775807) (hk : k.size ≤ 9223372036854775807) (hv : v.size ≤ 9223372036854775807) (h : stepE (s, l, b) (k, v, d, q) ≠ 0) :
    Calls Try.prog 12 #[.agg #[.bool s, .string l, .bool b], .agg #[.string k, .string v, .bool d, .int .i64 q]] w fun e w' => e = .returned (.tuple #[.bool false, .agg #[.bool false, .string ⟨#[]⟩, .bool false], .int .i64 (stepE (s, l, b) (k, v, d, q))]) ∧ Below w.heap.size w w' := by
  have HA := rows_se s l b k v d q w _ rfl
  have J1 := Lib.hid (fun w => rChk_any s l b w hl)
  have J2 := Lib.hid (fun w => fCheck_any k v d q w hk hv)
  by_cases h1 : chkS (s, l, b) = 0
  rotate_left
  · rw [stepE_chk h1]
    obtain ⟨b1, b2⟩ := ne_b h1
    clear h1 h J2
    generalize chkS (s, l, b) = r at *
    go_enter Try.func12, Try.ntmps12
    go_wp2_with fail
    refine (J1.out _).mono ?_
    rintro e w1 ⟨rfl, hb⟩
    obtain ⟨r0, r1, r2, hB⟩ := HA.out _ hb
    have HB := Lib.hid hB
    have hz := hb.size
    have a0 := r0.c0; have a1 := r0.c1; have a2 := r0.c2
    have b0 := r1.c0; have b1' := r1.c1; have b2' := r1.c2; have b3 := r1.c3
    have c0 := r2.c0; have c1 := r2.c1; have c2 := r2.c2
    have f0 := r2.fz 0; have f1 := r2.fz 1; have f2 := r2.fz 2
    (try simp only [World.size_alloc] at hz)
    clear hB hb
    go_wp2_with fail
    have hr := r2.set (.bool false) (.string ⟨#[]⟩) (.bool false)
    have hBf := set3s HB.out (show w.heap.size ≤ w.heap.size + 1 + 1 by omega) (.bool false) (.string ⟨#[]⟩) (.bool false)
    clear c0 c1 c2
    revert hr hBf
    generalize World.setCell _ _ _ = W
    intro hr hBf
    have c0 := hr.c0; have c1 := hr.c1; have c2 := hr.c2
    exact bodyPost_ret (v := .tuple #[.bool false, .agg #[.bool false, .string ⟨#[]⟩, .bool false], .int .i64 r]) (by simp [results, Try.results12, go_sem, c0, c1, c2]) rfl ⟨rfl, hBf⟩
  rw [h1] at J1
  by_cases h2 : El.chk (k, v, d, q) = 0
  rotate_left
  · rw [stepE_ent h1 h2]
    obtain ⟨b1, b2⟩ := ne_b h2
    clear h1 h2 h
    generalize El.chk (k, v, d, q) = r at *
    go_enter Try.func12, Try.ntmps12
    go_wp2_with fail
    refine (J1.out _).mono ?_
    rintro e w1 ⟨rfl, hb⟩
    obtain ⟨r0, r1, r2, hB⟩ := HA.out _ hb
    have HB := Lib.hid hB
    have hz := hb.size
    have a0 := r0.c0; have a1 := r0.c1; have a2 := r0.c2
    have b0 := r1.c0; have b1' := r1.c1; have b2' := r1.c2; have b3 := r1.c3
    have c0 := r2.c0; have c1 := r2.c1; have c2 := r2.c2
    have f0 := r2.fz 0; have f1 := r2.fz 1; have f2 := r2.fz 2
    (try simp only [World.size_alloc] at hz)
    clear hB hb
    have HA2 : Hid (∀ w', Below w1.heap.size w1 w' → (Row3 w' w.heap.size 23 (.bool s) (.string l) (.bool b) ∧ Row4 w' (w.heap.size + 1) 25 (.string k) (.string v) (.bool d) (.int .i64 q) ∧ Row3 w' (w.heap.size + 1 + 1) 23 (.bool false) (.string ⟨#[]⟩) (.bool false) ∧ Below w.heap.size w w')) := Lib.hid fun w' h => ⟨r0.below h (Nat.le_refl _), r1.below h (Nat.le_refl _), r2.below h (Nat.le_refl _), eb_of HB.out h (by have := HB.out.size; omega)⟩
    clear r0 r1 r2 HB
    have hz1 := hz
    clear hz
    go_wp2_with fail
    clear a0 a1 a2 b0 b1' b2' b3 c0 c1 c2 f0 f1 f2
    refine (J2.out _).mono ?_
    rintro e w2 ⟨rfl, hb⟩
    obtain ⟨r0, r1, r2, hB⟩ := HA2.out _ hb
    have HB := Lib.hid hB
    have hz := hb.size
    have a0 := r0.c0; have a1 := r0.c1; have a2 := r0.c2
    have b0 := r1.c0; have b1' := r1.c1; have b2' := r1.c2; have b3 := r1.c3
    have c0 := r2.c0; have c1 := r2.c1; have c2 := r2.c2
    have f0 := r2.fz 0; have f1 := r2.fz 1; have f2 := r2.fz 2
    (try simp only [World.size_alloc] at hz)
    clear hB hb
    go_wp2_with fail
    have hr := r2.set (.bool false) (.string ⟨#[]⟩) (.bool false)
    have hBf := set3s HB.out (show w.heap.size ≤ w.heap.size + 1 + 1 by omega) (.bool false) (.string ⟨#[]⟩) (.bool false)
    clear c0 c1 c2
    revert hr hBf
    generalize World.setCell _ _ _ = W
    intro hr hBf
    have c0 := hr.c0; have c1 := hr.c1; have c2 := hr.c2
    exact bodyPost_ret (v := .tuple #[.bool false, .agg #[.bool false, .string ⟨#[]⟩, .bool false], .int .i64 r]) (by simp [results, Try.results12, go_sem, c0, c1, c2]) rfl ⟨rfl, hBf⟩
  rw [h2] at J2
  have h3 : s = true ∧ lessS k l = true := Classical.byContradiction fun hn => h (stepE_ok h1 h2 hn)
  rw [stepE_less h1 h2 h3]
  have hll : Op.bytesLess k.toList l.toList = true := h3.2
  obtain ⟨rfl, _⟩ := h3
  clear h h1 h2
  go_enter Try.func12, Try.ntmps12
  go_wp2_with fail
  refine (J1.out _).mono ?_
  rintro e w1 ⟨rfl, hb⟩
  obtain ⟨r0, r1, r2, hB⟩ := HA.out _ hb
  have HB := Lib.hid hB
  have hz := hb.size
  have a0 := r0.c0; have a1 := r0.c1; have a2 := r0.c2
  have b0 := r1.c0; have b1' := r1.c1; have b2' := r1.c2; have b3 := r1.c3
  have c0 := r2.c0; have c1 := r2.c1; have c2 := r2.c2
  have f0 := r2.fz 0; have f1 := r2.fz 1; have f2 := r2.fz 2
  (try simp only [World.size_alloc] at hz)
  clear hB hb
  have HA2 : Hid (∀ w', Below w1.heap.size w1 w' → (Row3 w' w.heap.size 23 (.bool true) (.string l) (.bool b) ∧ Row4 w' (w.heap.size + 1) 25 (.string k) (.string v) (.bool d) (.int .i64 q) ∧ Row3 w' (w.heap.size + 1 + 1) 23 (.bool false) (.string ⟨#[]⟩) (.bool false) ∧ Below w.heap.size w w')) := Lib.hid fun w' h => ⟨r0.below h (Nat.le_refl _), r1.below h (Nat.le_refl _), r2.below h (Nat.le_refl _), eb_of HB.out h (by have := HB.out.size; omega)⟩
  clear r0 r1 r2 HB
  have hz1 := hz
  clear hz
  go_wp2_with fail
  clear a0 a1 a2 b0 b1' b2' b3 c0 c1 c2 f0 f1 f2
  refine (J2.out _).mono ?_
  rintro e w2 ⟨rfl, hb⟩
  obtain ⟨r0, r1, r2, hB⟩ := HA2.out _ hb
  have HB := Lib.hid hB
  have hz := hb.size
  have a0 := r0.c0; have a1 := r0.c1; have a2 := r0.c2
  have b0 := r1.c0; have b1' := r1.c1; have b2' := r1.c2; have b3 := r1.c3
  have c0 := r2.c0; have c1 := r2.c1; have c2 := r2.c2
  have f0 := r2.fz 0; have f1 := r2.fz 1; have f2 := r2.fz 2
  (try simp only [World.size_alloc] at hz)
  clear hB hb
  go_wp2_with fail
  have hr := r2.set (.bool false) (.string ⟨#[]⟩) (.bool false)
  have hBf := set3s HB.out (show w.heap.size ≤ w.heap.size + 1 + 1 by omega) (.bool false) (.string ⟨#[]⟩) (.bool false)
  clear c0 c1 c2
  revert hr hBf
  generalize World.setCell _ _ _ = W
  intro hr hBf
  have c0 := hr.c0; have c1 := hr.c1; have c2 := hr.c2
  exact bodyPost_ret (v := .tuple #[.bool false, .agg #[.bool false, .string ⟨#[]⟩, .bool false], .int .i64 6]) (by simp [results, Try.results12, go_sem, c0, c1, c2]) rfl ⟨rfl, hBf⟩

theorem keptB_eq (s : Bool) (l : ByteArray) (b : Bool) (x : El.En) : keptB (s, l, b) x = ((!s || !decide (x.1 = l)) && !(b && x.2.2.1)) := by
  unfold keptB fateS
  cases s <;> cases b <;> cases x.2.2.1 <;> by_cases e : x.1 = l <;> simp [e]
set_option maxRecDepth 100000 in
set_option maxHeartbeats 2000000 in
theorem rstep_ok (s : Bool) (l : ByteArray) (b : Bool) (k v : ByteArray) (d : Bool) (q : Int) (w : World) (hl : l.size ≤ 9223372036854775807) (hk : k.size ≤ 9223372036854775807) (hv : v.size ≤ 9223372036854775807) (h : stepE (s, l, b) (k, v, d, q) = 0) :
    Calls Try.prog 12 #[.agg #[.bool s, .string l, .bool b], .agg #[.string k, .string v, .bool d, .int .i64 q]] w fun e w' => e = .returned (.tuple #[.bool (keptB (s, l, b) (k, v, d, q)), .agg #[.bool true, .string k, .bool b], .int .i64 0]) ∧ Below w.heap.size w w' := by
  have HA := rows_se s l b k v d q w _ rfl
  have J1 := Lib.hid (fun w => rChk_any s l b w hl)
  have J2 := Lib.hid (fun w => fCheck_any k v d q w hk hv)
  have h1 : chkS (s, l, b) = 0 := Classical.byContradiction fun hn => hn (by rw [stepE_chk hn] at h; exact h)
  have h2 : El.chk (k, v, d, q) = 0 := Classical.byContradiction fun hn => hn (by rw [stepE_ent h1 hn] at h; exact h)
  have h3 : ¬ (s = true ∧ lessS k l = true) := fun hn => by rw [stepE_less h1 h2 hn] at h; cases h
  rw [h1] at J1
  rw [h2] at J2
  rw [keptB_eq]
  have hs : s = false ∨ (s = true ∧ k = l ∧ Op.bytesLess k.toList k.toList = false) ∨ (s = true ∧ decide (k = l) = false ∧ (k.toList == l.toList) = false ∧ Op.bytesLess k.toList l.toList = false) := by
    cases s with
    | false => exact .inl rfl
    | true =>
      have hll : Op.bytesLess k.toList l.toList = false := by
        cases hq : Op.bytesLess k.toList l.toList
        · rfl
        · exact absurd ⟨rfl, hq⟩ h3
      by_cases e : k = l
      · exact .inr (.inl ⟨rfl, e, by rw [← e] at hll; exact hll⟩)
      · exact .inr (.inr ⟨rfl, decide_eq_false e, str_beq_ne e, hll⟩)
  clear h h1 h2 h3
  rcases hs with rfl | ⟨rfl, rfl, hll⟩ | ⟨rfl, hdk, hne, hll⟩
  all_goals
    (try rw [hdk])
    (try simp only [decide_true])
    (try clear hdk)
    cases b with
    | false =>
      go_enter Try.func12, Try.ntmps12
      go_wp2_with fail
      refine (J1.out _).mono ?_
      rintro e w1 ⟨rfl, hb⟩
      obtain ⟨r0, r1, r2, hB⟩ := HA.out _ hb
      have HB := Lib.hid hB
      have hz := hb.size
      have a0 := r0.c0; have a1 := r0.c1; have a2 := r0.c2
      have b0 := r1.c0; have b1' := r1.c1; have b2' := r1.c2; have b3 := r1.c3
      have c0 := r2.c0; have c1 := r2.c1; have c2 := r2.c2
      have f0 := r2.fz 0; have f1 := r2.fz 1; have f2 := r2.fz 2
      (try simp only [World.size_alloc] at hz)
      clear hB hb
      have HA2 := Lib.hid (fun w' (h : Below w1.heap.size w1 w') => And.intro (r0.below h (Nat.le_refl _)) (And.intro (r1.below h (Nat.le_refl _)) (And.intro (r2.below h (Nat.le_refl _)) (eb_of HB.out h (by have := HB.out.size; omega)))))
      clear r0 r1 r2 HB
      have hz1 := hz
      clear hz
      go_wp2_with fail
      clear a0 a1 a2 b0 b1' b2' b3 c0 c1 c2 f0 f1 f2
      refine (J2.out _).mono ?_
      rintro e w2 ⟨rfl, hb⟩
      obtain ⟨r0, r1, r2, hB⟩ := HA2.out _ hb
      have HB := Lib.hid hB
      have hz := hb.size
      have a0 := r0.c0; have a1 := r0.c1; have a2 := r0.c2
      have b0 := r1.c0; have b1' := r1.c1; have b2' := r1.c2; have b3 := r1.c3
      have c0 := r2.c0; have c1 := r2.c1; have c2 := r2.c2
      have f0 := r2.fz 0; have f1 := r2.fz 1; have f2 := r2.fz 2
      (try simp only [World.size_alloc] at hz)
      clear hB hb
      go_wp2_with fail
      have HR2 := Lib.hid r2
      clear r2
      go_region
      all_goals
        go_wp2_with fail
        have hr := (HR2.out.set (.bool true) (.string k) (.bool false)).below (Below.refl _ _).drew (Nat.le_refl _)
        have hBf := (set3s HB.out (show w.heap.size ≤ w.heap.size + 1 + 1 by omega) (.bool true) (.string k) (.bool false)).drew
        clear c0 c1 c2
        revert hr hBf
        generalize World.drew _ = W
        intro hr hBf
        have c0 := hr.c0; have c1 := hr.c1; have c2 := hr.c2
        exact bodyPost_ret (v := .tuple #[_, .agg #[.bool true, .string k, .bool false], .int .i64 0]) (by simp [results, Try.results12, go_sem, c0, c1, c2]; (try rfl)) rfl ⟨by cases d <;> simp, hBf⟩
    | true =>
      go_enter Try.func12, Try.ntmps12
      go_wp2_with fail
      refine (J1.out _).mono ?_
      rintro e w1 ⟨rfl, hb⟩
      obtain ⟨r0, r1, r2, hB⟩ := HA.out _ hb
      have HB := Lib.hid hB
      have hz := hb.size
      have a0 := r0.c0; have a1 := r0.c1; have a2 := r0.c2
      have b0 := r1.c0; have b1' := r1.c1; have b2' := r1.c2; have b3 := r1.c3
      have c0 := r2.c0; have c1 := r2.c1; have c2 := r2.c2
      have f0 := r2.fz 0; have f1 := r2.fz 1; have f2 := r2.fz 2
      (try simp only [World.size_alloc] at hz)
      clear hB hb
      have HA2 := Lib.hid (fun w' (h : Below w1.heap.size w1 w') => And.intro (r0.below h (Nat.le_refl _)) (And.intro (r1.below h (Nat.le_refl _)) (And.intro (r2.below h (Nat.le_refl _)) (eb_of HB.out h (by have := HB.out.size; omega)))))
      clear r0 r1 r2 HB
      have hz1 := hz
      clear hz
      go_wp2_with fail
      clear a0 a1 a2 b0 b1' b2' b3 c0 c1 c2 f0 f1 f2
      refine (J2.out _).mono ?_
      rintro e w2 ⟨rfl, hb⟩
      obtain ⟨r0, r1, r2, hB⟩ := HA2.out _ hb
      have HB := Lib.hid hB
      have hz := hb.size
      have a0 := r0.c0; have a1 := r0.c1; have a2 := r0.c2
      have b0 := r1.c0; have b1' := r1.c1; have b2' := r1.c2; have b3 := r1.c3
      have c0 := r2.c0; have c1 := r2.c1; have c2 := r2.c2
      have f0 := r2.fz 0; have f1 := r2.fz 1; have f2 := r2.fz 2
      (try simp only [World.size_alloc] at hz)
      clear hB hb
      go_wp2_with fail
      have HR2 := Lib.hid r2
      clear r2
      go_region
      all_goals
        go_wp2_with fail
        have hr := (HR2.out.set (.bool true) (.string k) (.bool true)).below (Below.refl _ _).drew (Nat.le_refl _)
        have hBf := (set3s HB.out (show w.heap.size ≤ w.heap.size + 1 + 1 by omega) (.bool true) (.string k) (.bool true)).drew
        clear c0 c1 c2
        revert hr hBf
        generalize World.drew _ = W
        intro hr hBf
        have c0 := hr.c0; have c1 := hr.c1; have c2 := hr.c2
        exact bodyPost_ret (v := .tuple #[_, .agg #[.bool true, .string k, .bool true], .int .i64 0]) (by simp [results, Try.results12, go_sem, c0, c1, c2]; (try rfl)) rfl ⟨by cases d <;> simp, hBf⟩
end Go.Proofs.Ytlobkbhghpknmaa.KK
