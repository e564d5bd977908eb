/-
  Shadow: the walk of Later.
-/
import Derived.Test.YtlobkbhghpknmaaSn
import Derived.Test.YtlobkbhghpknmaaSu
namespace Go.Proofs.Ytlobkbhghpknmaa.KK
open Go.ChangeShapes Go.WideShapes Go.ChangeAt Go.RowKit Go.Proofs

theorem firsts_sub : ∀ (t : List El.En) (s : Bool) (l : ByteArray), ∀ x ∈ firsts s l t, x ∈ t
  | [], _, _, _, h => h
  | y :: t, s, l, x, h => by
    rw [firsts_cons] at h
    split at h
    · exact List.mem_cons_of_mem _ (firsts_sub t _ _ x h)
    · rcases List.mem_cons.1 h with rfl | h
      · exact List.mem_cons_self
      · exact List.mem_cons_of_mem _ (firsts_sub t _ _ x h)
theorem sift_sized {xs : List El.En} {b : Bool} (h : (siftE xs b).2.2 = 0) (hs : Sized xs) : Sized (siftE xs b).1.1 := by
  obtain ⟨h1, h2⟩ := sift_run h
  rw [sift_of h1 h2 b]
  intro x hx
  exact hs x (firsts_sub _ _ _ x (List.mem_filter.1 hx).1)
set_option maxRecDepth 100000 in
set_option maxHeartbeats 4000000 in
theorem Later_any (A : Option Addr) (c : Nat) (xs : List El.En) (w : World) (hf : EsAt w A xs) (hn : xs.length ≤ 9223372036854775807) (hs : Sized xs) :
    Calls Try.prog 9 #[.slice A xs.length c] w fun e w' => e = .returned (.bool true) ∧ Below w.heap.size w w' := by
  have JF := Lib.hid (far12_any A c xs w hf hn)
  have HF := Lib.hid hf
  have HS := Lib.hid hs
  obtain ⟨n, hnn⟩ : ∃ n, xs.length = n := ⟨_, rfl⟩
  rw [hnn] at hn JF ⊢
  have HN := Lib.hid hnn
  clear hnn hf hs
  go_enter Try.func9, Try.ntmps9
  go_wp2_with fail
  refine JF.out.mono ?_
  rintro e w1 ⟨b, rfl, hfar, hb⟩
  have HB1 := Lib.hid hb
  have HF1 := Lib.hid (HF.out.below hb (Nat.le_refl _))
  clear hb
  cases b with
  | true =>
    clear hfar
    go_wp2_with fail
    refine (awake12_any _).mono ?_
    rintro e w2 ⟨rfl, hb⟩
    have HB2 := Lib.hid (eb_of HB1.out hb (Nat.le_refl _))
    clear hb
    go_wp2_with fail
    go_ret
    exact ⟨rfl, HB2.out⟩
  | false =>
    have hn' := hfar rfl
    clear hfar
    have hn32 : xs.length ≤ 4294967295 := by have := HN.out; omega
    have J1 := Lib.hid (fun w h => pFilter_any A c xs false w h hn32 HS.out)
    have J3 := Lib.hid (fun w h => pFilter_any A c xs true w h hn32 HS.out)
    have J5 := Lib.hid (fun w h => pCount_any A c xs true w h hn32 HS.out)
    unfold FiltOut at J1 J3
    by_cases he : (siftE xs false).2.2 = 0
    rotate_left
    · obtain ⟨b1, b2⟩ := ne_b he
      clear he J3 J5 hn32
      rw [HN.out] at J1
      generalize siftE xs false = r at *
      obtain ⟨⟨ks, sh, dr⟩, i, er⟩ := r
      simp only at J1 b1 b2
      generalize ks.length = m at *
      go_wp2_with fail
      refine (J1.out _ HF1.out).mono ?_
      rintro e w2 ⟨A2, c2, rfl, _, hb⟩
      have HB2 := Lib.hid (eb_of HB1.out hb (Nat.le_refl _))
      clear hb
      go_wp2_with fail
      refine (awake12_any _).mono ?_
      rintro e w9 ⟨rfl, hb⟩
      have HB9 := Lib.hid (eb_of HB2.out hb (Nat.le_refl _))
      clear hb
      go_wp2_with fail
      go_ret
      exact ⟨rfl, HB9.out⟩
    · obtain ⟨q1, q2⟩ := sift_later he
      have q3 := (sift_both xs false).2.1 he
      have hm := sift_len xs false
      have hm2 := sift_len xs true
      have hz1 := sift_sized he HS.out
      have J2 := Lib.hid (fun w A c h => pFilter_any A c (siftE xs false).1.1 true w h (by omega) hz1)
      have J4 := Lib.hid (fun w A c h => pCount_any A c (siftE xs false).1.1 true w h (by omega) hz1)
      unfold FiltOut at J2
      rw [q1] at J2 J4
      rw [HN.out] at J1 J3 J5 hm hm2
      have he1 : (siftE xs false).2.1 = 0 := q3.1
      rw [he, he1] at J1
      clear q1 q3 he he1 hz1 hn32
      generalize siftE xs false = r1 at *
      generalize siftE xs true = r2 at *
      obtain ⟨⟨ks1, sh1, dr1⟩, i1, er1⟩ := r1
      obtain ⟨⟨ks2, sh2, dr2⟩, i2, er2⟩ := r2
      simp only [Prod.mk.injEq] at q2
      obtain ⟨rfl, rfl⟩ := q2
      simp only at J1 J2 J3 J4 J5 hm hm2
      have J6 := Lib.hid (fun A A' c c' w h g => sameE_any A A' c c' ks2 ks2 w h g (by omega) (by omega))
      simp only [decide_true] at J6
      obtain ⟨m1, hm1⟩ : ∃ m, ks1.length = m := ⟨_, rfl⟩
      obtain ⟨m2, hm2'⟩ : ∃ m, ks2.length = m := ⟨_, rfl⟩
      rw [hm1] at J1 J2 J4
      rw [hm2'] at J2 J3 J4 J5 J6
      clear hm hm2 hm1 hm2'
      go_wp2_with fail
      refine (J1.out _ HF1.out).mono ?_
      rintro e w2 ⟨A2, c2, rfl, he2, hb⟩
      have HB2 := Lib.hid (eb_of HB1.out hb (Nat.le_refl _))
      have HF2 := Lib.hid (HF1.out.below hb (Nat.le_refl _))
      have HE2 := Lib.hid he2
      clear hb he2
      go_wp2_with fail
      refine (J2.out _ _ _ HE2.out).mono ?_
      rintro e w3 ⟨A3, c3, rfl, he3, hb⟩
      have HB3 := Lib.hid (eb_of HB2.out hb (Nat.le_refl _))
      have HF3 := Lib.hid (HF2.out.below hb (Nat.le_refl _))
      have HE3 := Lib.hid (HE2.out.below hb (Nat.le_refl _))
      have HG3 := Lib.hid he3
      clear hb he3
      go_wp2_with fail
      refine (J3.out _ HF3.out).mono ?_
      rintro e w4 ⟨A4, c4, rfl, he4, hb⟩
      have HB4 := Lib.hid (eb_of HB3.out hb (Nat.le_refl _))
      have HF4 := Lib.hid (HF3.out.below hb (Nat.le_refl _))
      have HE4 := Lib.hid (HE3.out.below hb (Nat.le_refl _))
      have HG4 := Lib.hid (HG3.out.below hb (Nat.le_refl _))
      have HW4 := Lib.hid he4
      clear hb he4
      go_wp2_with fail
      refine (J4.out _ _ _ HE4.out).mono ?_
      rintro e w5 ⟨rfl, hb⟩
      have hb5 := bl_al hb (Nat.le_refl _) (.cells #[.int .i64 (m2 : Int), .int .i64 0, .int .i64 (dr2 : Int)] 38)
      have HR : Hid (Row3 (w5.alloc (.cells #[.int .i64 (m2 : Int), .int .i64 0, .int .i64 (dr2 : Int)] 38)) w5.heap.size 38 (.int .i64 (m2 : Int)) (.int .i64 0) (.int .i64 (dr2 : Int))) := Lib.hid (heap_alloc_new _ _)
      have HB5 := Lib.hid (eb_of HB4.out hb5 (Nat.le_refl _))
      have HF5 := Lib.hid (HF4.out.below hb5 (Nat.le_refl _))
      have HG5 := Lib.hid (HG4.out.below hb5 (Nat.le_refl _))
      have HW5 := Lib.hid (HW4.out.below hb5 (Nat.le_refl _))
      clear hb hb5
      go_wp2_with fail
      refine (J5.out _ HF5.out).mono ?_
      rintro e w6 ⟨rfl, hb⟩
      have hb5 := bl_al hb (Nat.le_refl _) (.cells #[.int .i64 (m2 : Int), .int .i64 (sh2 : Int), .int .i64 (dr2 : Int)] 38)
      have HR6 : Hid (Row3 (w6.alloc (.cells #[.int .i64 (m2 : Int), .int .i64 (sh2 : Int), .int .i64 (dr2 : Int)] 38)) w6.heap.size 38 (.int .i64 (m2 : Int)) (.int .i64 (sh2 : Int)) (.int .i64 (dr2 : Int))) := Lib.hid (heap_alloc_new _ _)
      have HR5 := Lib.hid (HR.out.below hb5 (Nat.le_refl _))
      have HB6 := Lib.hid (eb_of HB5.out hb5 (Nat.le_refl _))
      have HG6 := Lib.hid (HG5.out.below hb5 (Nat.le_refl _))
      have HW6 := Lib.hid (HW5.out.below hb5 (Nat.le_refl _))
      clear hb hb5
      go_wp2_with fail
      refine (J6.out _ _ _ _ _ HG6.out HW6.out).mono ?_
      rintro e w8 ⟨rfl, hb⟩
      have HB8 := Lib.hid (eb_of HB6.out hb (Nat.le_refl _))
      have h5 := HR5.out.below hb (Nat.le_refl _)
      have h6 := HR6.out.below hb (Nat.le_refl _)
      have p0 := h5.c0; have p1 := h5.c1; have p2 := h5.c2
      have q0 := h6.c0; have q1 := h6.c1; have q2 := h6.c2
      clear hb h5 h6
      go_wp2_with fail
      refine (awake12_any _).mono ?_
      rintro e w9 ⟨rfl, hb⟩
      have HB9 := Lib.hid (eb_of HB8.out hb (Nat.le_refl _))
      clear hb
      go_wp2_with fail
      go_ret
      exact ⟨rfl, HB9.out⟩
end Go.Proofs.Ytlobkbhghpknmaa.KK
