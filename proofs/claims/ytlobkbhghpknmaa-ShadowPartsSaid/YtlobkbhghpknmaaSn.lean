/-
  Shadow: the walk of Counts.
-/
import Derived.Test.YtlobkbhghpknmaaSm
namespace Go.Proofs.Ytlobkbhghpknmaa.KK
open Go.ChangeShapes Go.WideShapes Go.ChangeAt Go.RowKit Go.Proofs

set_option maxRecDepth 100000 in
set_option maxHeartbeats 4000000 in
theorem Counts_any (A : Option Addr) (c : Nat) (xs : List El.En) (w : World) (hf : EsAt w A xs) (hn : xs.length ≤ 9223372036854775807) (hs : Sized xs) :
    Calls Try.prog 7 #[.slice A xs.length c] w fun e w' => e = .returned (.bool true) ∧ Below w.heap.size w w' := by
  have JF := Lib.hid (far12_any A c xs w hf hn)
  have HF := Lib.hid hf
  have HS := Lib.hid hs
  obtain ⟨n, hnn⟩ : ∃ n, xs.length = n := ⟨_, rfl⟩
  rw [hnn] at hn JF ⊢
  have HN := Lib.hid hnn
  clear hnn hf hs
  go_enter Try.func7, Try.ntmps7
  go_wp2_with fail
  refine JF.out.mono ?_
  rintro e w1 ⟨b, rfl, hfar, hb⟩
  have HB1 := Lib.hid hb
  have HF1 := Lib.hid (HF.out.below hb (Nat.le_refl _))
  clear hb
  cases b with
  | true =>
    clear hfar
    go_wp2_with fail
    refine (awake12_any _).mono ?_
    rintro e w2 ⟨rfl, hb⟩
    have HB2 := Lib.hid (eb_of HB1.out hb (Nat.le_refl _))
    clear hb
    go_wp2_with fail
    go_ret
    exact ⟨rfl, HB2.out⟩
  | false =>
    have hn' := hfar rfl
    clear hfar
    have hn32 : xs.length ≤ 4294967295 := by have := HN.out; omega
    have J1 := Lib.hid (fun w h => pCount_any A c xs false w h hn32 HS.out)
    have J2 := Lib.hid (fun w h => pCount_any A c xs true w h hn32 HS.out)
    have J3 := Lib.hid (fun w h => pFilter_any A c xs false w h hn32 HS.out)
    have J4 := Lib.hid (fun w h => pFilter_any A c xs true w h hn32 HS.out)
    obtain ⟨q1, q2, q3⟩ := sift_both xs true
    unfold FiltOut at J3 J4
    rw [HN.out] at J1 J2 J3 J4 q2
    generalize siftE xs false = r1 at *
    generalize siftE xs true = r2 at *
    obtain ⟨⟨ks1, sh1, dr1⟩, i1, er1⟩ := r1
    obtain ⟨⟨ks2, sh2, dr2⟩, i2, er2⟩ := r2
    simp only [Prod.mk.injEq] at q1 q2 q3
    obtain ⟨rfl, rfl⟩ := q1
    simp only at J1 J2 J3 J4
    obtain ⟨m1, hm1⟩ : ∃ m, ks1.length = m := ⟨_, rfl⟩
    obtain ⟨m2, hm2⟩ : ∃ m, ks2.length = m := ⟨_, rfl⟩
    rw [hm1] at J1 J3
    rw [hm2] at J2 J4
    by_cases he : er2 = 0
    rotate_left
    · obtain ⟨b1, b2⟩ := ne_b he
      obtain ⟨z1, z2⟩ := q3 he
      unfold zO at z1 z2
      simp only [Prod.mk.injEq] at z1 z2
      obtain ⟨rfl, rfl, rfl⟩ := z1
      obtain ⟨rfl, rfl, rfl⟩ := z2
      simp only [List.length_nil] at hm1 hm2
      subst hm1 hm2
      clear he q2 q3 hn32 J3 J4
      simp only [Int.ofNat_zero, Int.natCast_zero, Int.cast_ofNat_Int] at J1 J2
      go_wp2_with fail
      refine (J1.out _ HF1.out).mono ?_
      rintro e w4 ⟨rfl, hb⟩
      have hb5 := bl_al hb (Nat.le_refl _) (.cells #[.int .i64 0, .int .i64 0, .int .i64 0] 38)
      have HR : Hid (Row3 (w4.alloc (.cells #[.int .i64 0, .int .i64 0, .int .i64 0] 38)) w4.heap.size 38 (.int .i64 0) (.int .i64 0) (.int .i64 0)) := Lib.hid (heap_alloc_new _ _)
      have HB5 := Lib.hid (eb_of HB1.out hb5 (Nat.le_refl _))
      have HF5 := Lib.hid (HF1.out.below hb5 (Nat.le_refl _))
      clear hb hb5
      go_wp2_with fail
      refine (J2.out _ HF5.out).mono ?_
      rintro e w6 ⟨rfl, hb⟩
      have hb5 := bl_al hb (Nat.le_refl _) (.cells #[.int .i64 0, .int .i64 0, .int .i64 0] 38)
      have HR6 : Hid (Row3 (w6.alloc (.cells #[.int .i64 0, .int .i64 0, .int .i64 0] 38)) w6.heap.size 38 (.int .i64 0) (.int .i64 0) (.int .i64 0)) := Lib.hid (heap_alloc_new _ _)
      have HR5 := Lib.hid (HR.out.below hb5 (Nat.le_refl _))
      have HB7 := Lib.hid (eb_of HB5.out hb5 (Nat.le_refl _))
      have HF7 := Lib.hid (HF5.out.below hb5 (Nat.le_refl _))
      clear hb hb5
      have h5 := HR5.out
      have h6 := HR6.out
      have p0 := h5.c0; have p1 := h5.c1; have p2 := h5.c2
      have hl5 := h5.lt
      clear h5 h6
      have HBX := HB7
      go_wp2_with fail
      refine (awake12_any _).mono ?_
      rintro e w9 ⟨rfl, hb⟩
      have HB9 := Lib.hid (eb_of HBX.out hb (Nat.le_refl _))
      clear hb
      go_wp2_with fail
      go_ret
      exact ⟨rfl, HB9.out⟩
    · obtain ⟨rfl, q4, q5, q6, q7⟩ := q2 he
      subst he
      rw [hm2] at q4 q5
      rw [hm1] at q5
      subst q6 q7
      have e1 : IntKind.i64.wrap ((m1 : Int) + (sh1 : Int)) = (n : Int) := by rw [IntKind.wrap_i64]; omega
      have e2 : IntKind.i64.wrap ((m2 : Int) + (sh1 : Int)) = (m2 : Int) + (sh1 : Int) := by rw [IntKind.wrap_i64]; omega
      have e3 : IntKind.i64.wrap ((m2 : Int) + (sh1 : Int) + (dr2 : Int)) = (n : Int) := by rw [IntKind.wrap_i64]; omega
      have e4 : decide ((0 : Int) ≤ (dr2 : Int)) = true := by simp
      clear q2 q3 q4 q5 hm1 hm2 hn32
      go_wp2_with fail
      refine (J1.out _ HF1.out).mono ?_
      rintro e w4 ⟨rfl, hb⟩
      have hb5 := bl_al hb (Nat.le_refl _) (.cells #[.int .i64 (m1 : Int), .int .i64 (sh1 : Int), .int .i64 0] 38)
      have HR : Hid (Row3 (w4.alloc (.cells #[.int .i64 (m1 : Int), .int .i64 (sh1 : Int), .int .i64 0] 38)) w4.heap.size 38 (.int .i64 (m1 : Int)) (.int .i64 (sh1 : Int)) (.int .i64 0)) := Lib.hid (heap_alloc_new _ _)
      have HB5 := Lib.hid (eb_of HB1.out hb5 (Nat.le_refl _))
      have HF5 := Lib.hid (HF1.out.below hb5 (Nat.le_refl _))
      clear hb hb5
      go_wp2_with fail
      refine (J2.out _ HF5.out).mono ?_
      rintro e w6 ⟨rfl, hb⟩
      have hb5 := bl_al hb (Nat.le_refl _) (.cells #[.int .i64 (m2 : Int), .int .i64 (sh1 : Int), .int .i64 (dr2 : Int)] 38)
      have HR6 : Hid (Row3 (w6.alloc (.cells #[.int .i64 (m2 : Int), .int .i64 (sh1 : Int), .int .i64 (dr2 : Int)] 38)) w6.heap.size 38 (.int .i64 (m2 : Int)) (.int .i64 (sh1 : Int)) (.int .i64 (dr2 : Int))) := Lib.hid (heap_alloc_new _ _)
      have HR5 := Lib.hid (HR.out.below hb5 (Nat.le_refl _))
      have HB7 := Lib.hid (eb_of HB5.out hb5 (Nat.le_refl _))
      have HF7 := Lib.hid (HF5.out.below hb5 (Nat.le_refl _))
      clear hb hb5
      go_wp2_with fail
      refine (J3.out _ HF7.out).mono ?_
      rintro e w8 ⟨A8, c8, rfl, _, hb⟩
      have HB8 := Lib.hid (eb_of HB7.out hb (Nat.le_refl _))
      have HF8 := Lib.hid (HF7.out.below hb (Nat.le_refl _))
      have HR8 := Lib.hid (HR5.out.below hb (Nat.le_refl _))
      have HS8 := Lib.hid (HR6.out.below hb (Nat.le_refl _))
      clear hb
      go_wp2_with fail
      refine (J4.out _ HF8.out).mono ?_
      rintro e w10 ⟨A10, c10, rfl, _, hb⟩
      have HB10 := Lib.hid (eb_of HB8.out hb (Nat.le_refl _))
      have h5 := HR8.out.below hb (Nat.le_refl _)
      have h6 := HS8.out.below hb (Nat.le_refl _)
      have p0 := h5.c0; have p1 := h5.c1; have p2 := h5.c2
      have q0 := h6.c0; have q1 := h6.c1; have q2 := h6.c2
      clear hb h5 h6
      have HBX := HB10
      go_wp2_with fail
      refine (awake12_any _).mono ?_
      rintro e w9 ⟨rfl, hb⟩
      have HB9 := Lib.hid (eb_of HBX.out hb (Nat.le_refl _))
      clear hb
      go_wp2_with fail
      go_ret
      exact ⟨rfl, HB9.out⟩
end Go.Proofs.Ytlobkbhghpknmaa.KK
