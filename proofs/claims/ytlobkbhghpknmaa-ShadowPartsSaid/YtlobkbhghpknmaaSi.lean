/-
  Shadow: the reference's Count; what an outcome's numbers are.
-/
import Derived.Test.YtlobkbhghpknmaaSh
namespace Go.Proofs.Ytlobkbhghpknmaa.KK
open Go.ChangeShapes Go.WideShapes Go.ChangeAt Go.RowKit Go.Proofs

theorem stepE_b (s : Bool) (l : ByteArray) (b b' : Bool) (x : El.En) : stepE (s, l, b) x = stepE (s, l, b') x := rfl
theorem fate_b (s : Bool) (l : ByteArray) (b : Bool) (x : El.En) : fateS (s, l, false) x = match fateS (s, l, b) x with | .shad => .shad | _ => .kept := by
  unfold fateS
  cases s <;> cases b <;> cases x.2.2.1 <;> by_cases e : x.1 = l <;> simp [e]
/-- both ways at once: errors are the same, and of each other's numbers one tells -/
theorem sgo_both (b : Bool) : ∀ (t : List El.En) (s : Bool) (l : ByteArray) (i : Nat) (o o' : Oc), o.1.length + o.2.1 + o.2.2 = i → o'.1.length = o.1.length + o.2.2 → o'.2.1 = o.2.1 → o'.2.2 = 0 →
    (sgo (s, l, b) i o t).2 = (sgo (s, l, false) i o' t).2 ∧
    ((sgo (s, l, b) i o t).2.2 = 0 → (sgo (s, l, b) i o t).2.1 = 0 ∧ (sgo (s, l, b) i o t).1.1.length + (sgo (s, l, b) i o t).1.2.1 + (sgo (s, l, b) i o t).1.2.2 = i + t.length ∧ (sgo (s, l, false) i o' t).1.1.length = (sgo (s, l, b) i o t).1.1.length + (sgo (s, l, b) i o t).1.2.2 ∧ (sgo (s, l, false) i o' t).1.2.1 = (sgo (s, l, b) i o t).1.2.1 ∧ (sgo (s, l, false) i o' t).1.2.2 = 0) ∧
    ((sgo (s, l, b) i o t).2.2 ≠ 0 → (sgo (s, l, b) i o t).1 = zO ∧ (sgo (s, l, false) i o' t).1 = zO)
  | [], s, l, i, o, o', h1, h2, h3, h4 => by
    simp only [sgo, List.length_nil, Nat.add_zero]
    exact ⟨trivial, fun _ => ⟨trivial, h1, h2, h3, h4⟩, fun h => absurd rfl h⟩
  | x :: t, s, l, i, o, o', h1, h2, h3, h4 => by
    unfold sgo
    rw [stepE_b s l false b x]
    by_cases h : stepE (s, l, b) x = 0
    · rw [if_pos h, if_pos h]
      have hf := fate_b s l b x
      have key := sgo_both b t true x.1 (i + 1) (addO o x (fateS (s, l, b) x)) (addO o' x (fateS (s, l, false) x)) (by cases fateS (s, l, b) x <;> simp [addO] <;> omega) (by rw [hf]; cases fateS (s, l, b) x <;> simp [addO] <;> omega) (by rw [hf]; cases fateS (s, l, b) x <;> simp [addO] <;> omega) (by rw [hf]; cases fateS (s, l, b) x <;> simp [addO] <;> omega)
      simp only [nextS, List.length_cons]
      refine ⟨key.1, fun h0 => ?_, key.2.2⟩
      obtain ⟨k0, k1, k2, k3, k4⟩ := key.2.1 h0
      exact ⟨k0, by omega, k2, k3, k4⟩
    · rw [if_neg h, if_neg h]
      exact ⟨rfl, fun g => absurd g h, fun _ => ⟨rfl, rfl⟩⟩
theorem sift_both (xs : List El.En) (b : Bool) : (siftE xs b).2 = (siftE xs false).2 ∧
    ((siftE xs b).2.2 = 0 → (siftE xs b).2.1 = 0 ∧ (siftE xs b).1.1.length + (siftE xs b).1.2.1 + (siftE xs b).1.2.2 = xs.length ∧ (siftE xs false).1.1.length = (siftE xs b).1.1.length + (siftE xs b).1.2.2 ∧ (siftE xs false).1.2.1 = (siftE xs b).1.2.1 ∧ (siftE xs false).1.2.2 = 0) ∧
    ((siftE xs b).2.2 ≠ 0 → (siftE xs b).1 = zO ∧ (siftE xs false).1 = zO) := by
  unfold siftE
  by_cases h : 20000 < xs.length
  · rw [if_pos h, if_pos h]; exact ⟨rfl, fun g => absurd g (by decide), fun _ => ⟨rfl, rfl⟩⟩
  · rw [if_neg h, if_neg h]
    have := sgo_both b xs false ⟨#[]⟩ 0 zO zO rfl rfl rfl rfl
    simpa using this
set_option maxRecDepth 100000 in
set_option maxHeartbeats 2000000 in
theorem rCount_any (A : Option Addr) (c : Nat) (xs : List El.En) (b : Bool) (w : World) (hf : EsAt w A xs) (hn : xs.length ≤ 4294967295) (hs : Sized xs) :
    Calls Try.prog 21 #[.slice A xs.length c, .bool b] w fun e w' => e = .returned (.tuple #[.agg #[.int .i64 ((siftE xs b).1.1.length : Int), .int .i64 ((siftE xs b).1.2.1 : Int), .int .i64 ((siftE xs b).1.2.2 : Int)], .int .i64 (siftE xs b).2.1, .int .i64 (siftE xs b).2.2]) ∧ Below w.heap.size w w' := by
  have J1 := Lib.hid (fun w h => rFilter_any A c xs false w h hn hs)
  have J2 := Lib.hid (fun w h => rFilter_any A c xs b w h hn hs)
  obtain ⟨q1, q2, q3⟩ := sift_both xs b
  have HF := Lib.hid hf
  unfold FiltOut at J1 J2
  generalize siftE xs false = r1 at *
  generalize siftE xs b = r2 at *
  obtain ⟨⟨ks1, sh1, dr1⟩, i1, er1⟩ := r1
  obtain ⟨⟨ks2, sh2, dr2⟩, i2, er2⟩ := r2
  simp only [Prod.mk.injEq] at q1 q2 q3
  obtain ⟨rfl, rfl⟩ := q1
  simp only at J1 J2 ⊢
  obtain ⟨m1, hm1⟩ : ∃ m, ks1.length = m := ⟨_, rfl⟩
  obtain ⟨m2, hm2⟩ : ∃ m, ks2.length = m := ⟨_, rfl⟩
  obtain ⟨n, hnn⟩ : ∃ m, xs.length = m := ⟨_, rfl⟩
  have hr1 := hm1
  have hr2 := hm2
  rw [hm1, hm2, hnn] at q2
  rw [hm1, hnn] at J1
  rw [hm2, hnn] at J2
  rw [hm2, hnn]
  rw [hnn] at hn
  have HN := Lib.hid hnn
  clear hf hs hm1 hm2 hnn
  by_cases he : er2 = 0
  rotate_left
  · obtain ⟨b1, b2⟩ := ne_b he
    obtain ⟨z1, z2⟩ := q3 he
    unfold zO at z1 z2
    simp only [Prod.mk.injEq] at z1 z2
    obtain ⟨rfl, rfl, rfl⟩ := z1
    simp at hr2
    subst hr2
    clear he q2 q3 z2 hr1
    go_enter Try.func21, Try.ntmps21
    go_wp2_with fail
    refine (J1.out _ (HF.out.below (al1 _ _) (Nat.le_refl _))).mono ?_
    rintro e w1 ⟨A1, c1, rfl, _, hb⟩
    have hr : Row3 w1 w.heap.size 38 (.int .i64 0) (.int .i64 0) (.int .i64 0) := (hb.block _ (by simp)).trans (heap_alloc_new _ _)
    have c0 := hr.c0; have c1' := hr.c1; have c2 := hr.c2
    have f0 := hr.fz 0; have f1 := hr.fz 1; have f2 := hr.fz 2
    have hlt := hr.lt
    have HR := Lib.hid hr
    have HB := Lib.hid (eb_of (al1 w (.cells #[.int .i64 0, .int .i64 0, .int .i64 0] 38)) hb (Nat.le_refl _))
    clear hb hr
    go_wp2_with fail
    have hr := HR.out.set (.int .i64 0) (.int .i64 0) (.int .i64 0)
    have hBf := set3s HB.out (Nat.le_refl _) (.int .i64 0) (.int .i64 0) (.int .i64 0)
    clear c0 c1' c2
    revert hr hBf
    generalize World.setCell _ _ _ = W
    intro hr hBf
    have c0 := hr.c0; have c1' := hr.c1; have c2 := hr.c2
    exact bodyPost_ret (v := .tuple #[.agg #[.int .i64 0, .int .i64 0, .int .i64 0], .int .i64 i2, .int .i64 er2]) (by simp [results, Try.results21, go_sem, c0, c1', c2]) rfl ⟨rfl, hBf⟩
  · obtain ⟨rfl, q4, q5, q6, q7⟩ := q2 he
    subst he
    have e1 : IntKind.i64.wrap ((n : Int) - (m1 : Int)) = (sh2 : Int) := by rw [IntKind.wrap_i64]; omega
    have e2 : IntKind.i64.wrap ((m1 : Int) - (m2 : Int)) = (dr2 : Int) := by rw [IntKind.wrap_i64]; omega
    clear q2 q3 q4 q5 q6 q7 hr1 hr2
    go_enter Try.func21, Try.ntmps21
    go_wp2_with fail
    refine (J1.out _ (HF.out.below (al1 _ _) (Nat.le_refl _))).mono ?_
    rintro e w1 ⟨A1, c1, rfl, _, hb⟩
    have HF1 := Lib.hid ((HF.out.below (al1 w (.cells #[.int .i64 0, .int .i64 0, .int .i64 0] 38)) (Nat.le_refl _)).below hb (Nat.le_refl _))
    have hr1 : Row3 w1 w.heap.size 38 (.int .i64 0) (.int .i64 0) (.int .i64 0) := (hb.block _ (by simp)).trans (heap_alloc_new _ _)
    have HR1 := Lib.hid hr1
    have HB1 := Lib.hid (eb_of (al1 w (.cells #[.int .i64 0, .int .i64 0, .int .i64 0] 38)) hb (Nat.le_refl _))
    clear hb hr1
    go_wp2_with fail
    refine (J2.out _ HF1.out).mono ?_
    rintro e w2 ⟨A2, c2', rfl, _, hb⟩
    have hr := HR1.out.below hb (Nat.le_refl _)
    have c0 := hr.c0; have c1' := hr.c1; have c2 := hr.c2
    have f0 := hr.fz 0; have f1 := hr.fz 1; have f2 := hr.fz 2
    have hlt := hr.lt
    have HR := Lib.hid hr
    have HB := Lib.hid (eb_of HB1.out hb (Nat.le_refl _))
    clear hb hr
    go_wp2_with fail
    have hr := HR.out.set (.int .i64 (m2 : Int)) (.int .i64 (sh2 : Int)) (.int .i64 (dr2 : Int))
    have hBf := set3s HB.out (Nat.le_refl _) (.int .i64 (m2 : Int)) (.int .i64 (sh2 : Int)) (.int .i64 (dr2 : Int))
    clear c0 c1' c2
    revert hr hBf
    generalize World.setCell _ _ _ = W
    intro hr hBf
    have c0 := hr.c0; have c1' := hr.c1; have c2 := hr.c2
    exact bodyPost_ret (v := .tuple #[.agg #[.int .i64 (m2 : Int), .int .i64 (sh2 : Int), .int .i64 (dr2 : Int)], .int .i64 0, .int .i64 0]) (by simp [results, Try.results21, go_sem, c0, c1', c2]) rfl ⟨rfl, hBf⟩
end Go.Proofs.Ytlobkbhghpknmaa.KK
