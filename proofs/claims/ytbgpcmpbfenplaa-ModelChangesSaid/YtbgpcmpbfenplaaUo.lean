/-
  The reference's Floor and Ceiling.
-/
import Derived.Test.YtbgpcmpbfenplaaUn
namespace Go.Proofs.Ytbgpcmpbfenplaa.KK
open Go.ChangeShapes Go.WideShapes Go.ChangeAt Go.RowKit Go.Proofs

theorem hasP_ne {key : ByteArray} {xs : List Pr} {p : Nat} (h : hasP key xs = false) (hp : posP key xs = p) (g : p < xs.length) : xs[p].1 ≠ key := by
  unfold hasP at h
  rw [hp, List.getElem?_eq_getElem g] at h
  exact of_decide_eq_false h
theorem hasP_eq {key : ByteArray} {xs : List Pr} {p : Nat} (h : hasP key xs = true) (hp : posP key xs = p) (g : p < xs.length) : xs[p].1 = key := by
  subst hp; exact hasP_key h g

set_option maxRecDepth 100000 in
set_option maxHeartbeats 2000000 in
theorem rFloor_any (A : Option Addr) (c : Nat) (xs : List Pr) (key : ByteArray) (w : World) (hf : PsAt w A xs) (hn : xs.length ≤ 4294967295) (hs : SizedP xs) (hk : key.size ≤ 9223372036854775807) :
    Calls Try.prog 14 #[.slice A xs.length c, .string key] w fun e w' => e = .returned (.tuple #[.agg #[.string (floorE xs key).2.1, .string (floorE xs key).2.2], .int .i64 (floorE xs key).1]) ∧ Below w.heap.size w w' := by
  have J1 := Lib.hid (fun w1 (h : Below w.heap.size w w1) => rAsked_any A c xs key w1 (hf.below h (Nat.le_refl _)) hn hs hk)
  by_cases he : askE xs key = 0
  rotate_left
  · have HE : Hid (floorE xs key = (askE xs key, noneP)) := Lib.hid (if_pos he)
    obtain ⟨b1, b2⟩ := ne_b he
    clear he hf hs
    generalize askE xs key = r at *
    generalize xs.length = n at *
    go_enter Try.func14, Try.ntmps14
    go_wp2_with fail
    refine (J1.out _ (alloc_below _ _)).mono ?_
    rintro e w1 ⟨rfl, hb⟩
    have HB := Lib.hid ((alloc_below w (.cells #[.string ⟨#[]⟩, .string ⟨#[]⟩] 31)).trans (hb.mono (by simp)))
    have HR := Lib.hid ((Row2.new w 31 (.string ⟨#[]⟩) (.string ⟨#[]⟩)).below hb (Nat.le_refl _))
    clear hb J1
    have r0 := HR.out.c0
    have r1 := HR.out.c1
    have z0 := HR.out.fz 0
    have z1 := HR.out.fz 1
    go_wp2_with fail
    have k0 : ((w1.setCell ⟨w.heap.size, 0, none⟩ (.string ⟨#[]⟩)).setCell ⟨w.heap.size, 1, none⟩ (.string ⟨#[]⟩)).cell? ⟨w.heap.size, 0, none⟩ = some (.string ⟨#[]⟩) := (HR.out.set (u0 := .string ⟨#[]⟩) (u1 := .string ⟨#[]⟩)).c0
    have k1 : ((w1.setCell ⟨w.heap.size, 0, none⟩ (.string ⟨#[]⟩)).setCell ⟨w.heap.size, 1, none⟩ (.string ⟨#[]⟩)).cell? ⟨w.heap.size, 1, none⟩ = some (.string ⟨#[]⟩) := (HR.out.set (u0 := .string ⟨#[]⟩) (u1 := .string ⟨#[]⟩)).c1
    refine bodyPost_ret (v := .tuple #[.agg #[.string ⟨#[]⟩, .string ⟨#[]⟩], .int .i64 r]) (by simp [results, Try.f14, go_sem, k0, k1]) rfl ?_
    exact ⟨by (rw [HE.out]) <;> rfl, set2_below HB.out (Nat.le_refl _) _ _⟩

  obtain ⟨e1, e2⟩ := askE_ok he
  obtain ⟨x4, xz, xs'⟩ := map_ok e1
  have J2 := Lib.hid (fun w1 (h : Below w.heap.size w w1) => rPlace_is A c xs key w1 (hf.below h (Nat.le_refl _)) hn)
  rw [he] at J1
  have HF := Lib.hid hf
  have hple := posP_le key xs
  cases hq : hasP key xs with
  | true =>
    obtain ⟨p, hp⟩ : ∃ p, posP key xs = p := ⟨_, rfl⟩
    have hix : p < xs.length := by rw [← hp]; exact hasP_lt hq
    obtain ⟨⟨xk, xv⟩, hxx⟩ : ∃ x, xs[p] = x := ⟨_, rfl⟩
    have HE : Hid (floorE xs key = (0, (xk, xv))) := Lib.hid (by
      unfold floorE
      rw [if_neg (by rw [he]; simp), if_pos hq, hp, List.getD_eq_getElem?_getD, List.getElem?_eq_getElem hix, hxx]; try rfl)
    have hkey : xk = key := by have := hasP_eq hq hp hix; rw [hxx] at this; exact this
    rw [hp] at J2
    rw [hp] at hple
    have hI : (p : Int) < (xs.length : Int) := by omega
    have HX := Lib.hid hxx
    clear hp hq he e1 e2 xz xs' hf hs hxx
    subst hkey
    obtain ⟨n, hnn⟩ : ∃ n, xs.length = n := ⟨_, rfl⟩
    rw [hnn] at J1 J2 hI hple hn x4 ⊢
    clear hnn
    go_enter Try.func14, Try.ntmps14
    go_wp2_with fail
    refine (J1.out _ (alloc_below _ _)).mono ?_
    rintro e w1 ⟨rfl, hb⟩
    have HB := Lib.hid ((alloc_below w (.cells #[.string ⟨#[]⟩, .string ⟨#[]⟩] 31)).trans (hb.mono (by simp)))
    have HR := Lib.hid ((Row2.new w 31 (.string ⟨#[]⟩) (.string ⟨#[]⟩)).below hb (Nat.le_refl _))
    clear hb J1
    go_wp2_with fail
    refine (J2.out _ HB.out).mono ?_
    rintro e w2 ⟨rfl, hb⟩
    have HB2 := Lib.hid (eb_of HB.out hb (Nat.le_refl _))
    have HR := Lib.hid (HR.out.below hb (Nat.le_refl _))
    clear hb J2
    have r0 := HR.out.c0
    have r1 := HR.out.c1
    have z0 := HR.out.fz 0
    have z1 := HR.out.fz 1
    rcases HF.out.below HB2.out (Nat.le_refl _) with h0 | ⟨b, off, rfl, hbl, hc⟩
    · rw [h0] at hix; simp at hix
    obtain ⟨g0, g1⟩ := hc p hix
    rw [HX.out] at g0 g1
    simp only at g0 g1
    clear hc
    go_wp2_with fail
    have k0 : ((w2.setCell ⟨w.heap.size, 0, none⟩ (.string xk)).setCell ⟨w.heap.size, 1, none⟩ (.string xv)).cell? ⟨w.heap.size, 0, none⟩ = some (.string xk) := (HR.out.set (u0 := .string xk) (u1 := .string xv)).c0
    have k1 : ((w2.setCell ⟨w.heap.size, 0, none⟩ (.string xk)).setCell ⟨w.heap.size, 1, none⟩ (.string xv)).cell? ⟨w.heap.size, 1, none⟩ = some (.string xv) := (HR.out.set (u0 := .string xk) (u1 := .string xv)).c1
    refine bodyPost_ret (v := .tuple #[.agg #[.string xk, .string xv], .int .i64 0]) (by simp [results, Try.f14, go_sem, k0, k1]) rfl ?_
    exact ⟨by (rw [HE.out]) <;> rfl, set2_below HB2.out (Nat.le_refl _) _ _⟩

  | false =>
    by_cases h0 : posP key xs = 0
    · have HE : Hid (floorE xs key = (4, noneP)) := Lib.hid (by
        unfold floorE
        rw [if_neg (by rw [he]; simp), if_neg (by rw [hq]; simp), if_pos h0])
      by_cases hz0 : 0 < xs.length
      · rw [h0] at J2
        have hne := hasP_ne hq h0 hz0
        obtain ⟨xk, hxk⟩ : ∃ x, xs[0].1 = x := ⟨_, rfl⟩
        rw [hxk] at hne
        have HXK := Lib.hid hxk
        have hn1 := str_ne hne
        have hn2 := str_beq_ne hne
        have HZ := Lib.hid hz0
        clear hxk hq he e1 e2 xz xs' hf hs h0 hple hne
        obtain ⟨n, hnn⟩ : ∃ n, xs.length = n := ⟨_, rfl⟩
        rw [hnn] at J1 J2 hn x4 hz0 ⊢
        clear hnn
        have hI : (0 : Int) < (n : Int) := by omega
        go_enter Try.func14, Try.ntmps14
        go_wp2_with fail
        refine (J1.out _ (alloc_below _ _)).mono ?_
        rintro e w1 ⟨rfl, hb⟩
        have HB := Lib.hid ((alloc_below w (.cells #[.string ⟨#[]⟩, .string ⟨#[]⟩] 31)).trans (hb.mono (by simp)))
        have HR := Lib.hid ((Row2.new w 31 (.string ⟨#[]⟩) (.string ⟨#[]⟩)).below hb (Nat.le_refl _))
        clear hb J1
        go_wp2_with fail
        refine (J2.out _ HB.out).mono ?_
        rintro e w2 ⟨rfl, hb⟩
        have HB2 := Lib.hid (eb_of HB.out hb (Nat.le_refl _))
        have HR := Lib.hid (HR.out.below hb (Nat.le_refl _))
        clear hb J2
        have r0 := HR.out.c0
        have r1 := HR.out.c1
        have z0 := HR.out.fz 0
        have z1 := HR.out.fz 1
        rcases HF.out.below HB2.out (Nat.le_refl _) with hh | ⟨b, off, rfl, hbl, hc⟩
        · have := HZ.out; rw [hh] at this; simp at this
        obtain ⟨g0, _⟩ := hc 0 HZ.out
        rw [HXK.out, Nat.zero_mul, Nat.add_zero] at g0
        clear hc
        go_wp2_with fail
        have k0 : ((w2.setCell ⟨w.heap.size, 0, none⟩ (.string ⟨#[]⟩)).setCell ⟨w.heap.size, 1, none⟩ (.string ⟨#[]⟩)).cell? ⟨w.heap.size, 0, none⟩ = some (.string ⟨#[]⟩) := (HR.out.set (u0 := .string ⟨#[]⟩) (u1 := .string ⟨#[]⟩)).c0
        have k1 : ((w2.setCell ⟨w.heap.size, 0, none⟩ (.string ⟨#[]⟩)).setCell ⟨w.heap.size, 1, none⟩ (.string ⟨#[]⟩)).cell? ⟨w.heap.size, 1, none⟩ = some (.string ⟨#[]⟩) := (HR.out.set (u0 := .string ⟨#[]⟩) (u1 := .string ⟨#[]⟩)).c1
        refine bodyPost_ret (v := .tuple #[.agg #[.string ⟨#[]⟩, .string ⟨#[]⟩], .int .i64 4]) (by simp [results, Try.f14, go_sem, k0, k1]) rfl ?_
        exact ⟨by (rw [HE.out]) <;> rfl, set2_below HB2.out (Nat.le_refl _) _ _⟩


      · rw [h0] at J2
        clear hq he e1 e2 xz xs' hf hs h0 hple
        have hl0 : xs.length = 0 := by omega
        rw [hl0] at J1 J2 ⊢
        go_enter Try.func14, Try.ntmps14
        go_wp2_with fail
        refine (J1.out _ (alloc_below _ _)).mono ?_
        rintro e w1 ⟨rfl, hb⟩
        have HB := Lib.hid ((alloc_below w (.cells #[.string ⟨#[]⟩, .string ⟨#[]⟩] 31)).trans (hb.mono (by simp)))
        have HR := Lib.hid ((Row2.new w 31 (.string ⟨#[]⟩) (.string ⟨#[]⟩)).below hb (Nat.le_refl _))
        clear hb J1
        go_wp2_with fail
        refine (J2.out _ HB.out).mono ?_
        rintro e w2 ⟨rfl, hb⟩
        have HB2 := Lib.hid (eb_of HB.out hb (Nat.le_refl _))
        have HR := Lib.hid (HR.out.below hb (Nat.le_refl _))
        clear hb J2
        have r0 := HR.out.c0
        have r1 := HR.out.c1
        have z0 := HR.out.fz 0
        have z1 := HR.out.fz 1
        go_wp2_with fail
        have k0 : ((w2.setCell ⟨w.heap.size, 0, none⟩ (.string ⟨#[]⟩)).setCell ⟨w.heap.size, 1, none⟩ (.string ⟨#[]⟩)).cell? ⟨w.heap.size, 0, none⟩ = some (.string ⟨#[]⟩) := (HR.out.set (u0 := .string ⟨#[]⟩) (u1 := .string ⟨#[]⟩)).c0
        have k1 : ((w2.setCell ⟨w.heap.size, 0, none⟩ (.string ⟨#[]⟩)).setCell ⟨w.heap.size, 1, none⟩ (.string ⟨#[]⟩)).cell? ⟨w.heap.size, 1, none⟩ = some (.string ⟨#[]⟩) := (HR.out.set (u0 := .string ⟨#[]⟩) (u1 := .string ⟨#[]⟩)).c1
        refine bodyPost_ret (v := .tuple #[.agg #[.string ⟨#[]⟩, .string ⟨#[]⟩], .int .i64 4]) (by simp [results, Try.f14, go_sem, k0, k1]) rfl ?_
        exact ⟨by (rw [HE.out]) <;> rfl, set2_below HB2.out (Nat.le_refl _) _ _⟩
    · obtain ⟨p, hp⟩ : ∃ p, posP key xs = p + 1 := ⟨posP key xs - 1, by omega⟩
      have hix : p < xs.length := by omega
      obtain ⟨⟨xk, xv⟩, hxx⟩ : ∃ x, xs[p] = x := ⟨_, rfl⟩
      have HE : Hid (floorE xs key = (0, (xk, xv))) := Lib.hid (by
        unfold floorE
        rw [if_neg (by rw [he]; simp), if_neg (by rw [hq]; simp), if_neg h0, hp, Nat.add_sub_cancel, List.getD_eq_getElem?_getD, List.getElem?_eq_getElem hix, hxx]; try rfl)
      by_cases hz0 : p + 1 < xs.length
      · rw [hp] at J2
        have HX := Lib.hid hxx
        have hne := hasP_ne hq hp hz0
        obtain ⟨yk, hyk⟩ : ∃ x, xs[p + 1].1 = x := ⟨_, rfl⟩
        rw [hyk] at hne
        have HYK := Lib.hid hyk
        have hn1 := str_ne hne
        have hn2 := str_beq_ne hne
        have HZ := Lib.hid hz0
        clear hyk hne
        clear hp hq he e1 e2 xz xs' hf hs hxx h0 hple
        have q1 : (((p + 1 : Nat) : Int) == 0) = false := by rw [beq_eq_false_iff_ne]; omega
        have q2 : ((p : Int) + 1 == 0) = false := by rw [beq_eq_false_iff_ne]; omega
        have q3 : IntKind.i64.wrap (((p + 1 : Nat) : Int) - 1) = (p : Int) := by rw [IntKind.wrap_i64]; omega
        have hI : (p : Int) < (xs.length : Int) := by omega
        obtain ⟨n, hnn⟩ : ∃ n, xs.length = n := ⟨_, rfl⟩
        have hixn : p < n := by omega
        rw [hnn] at J1 J2 hI hn x4 hz0 ⊢
        have hI3 : ((p + 1 : Nat) : Int) < (n : Int) := by omega
        have hI4 : (p : Int) + 1 < (n : Int) := by omega
        clear hnn
        go_enter Try.func14, Try.ntmps14
        go_wp2_with fail
        refine (J1.out _ (alloc_below _ _)).mono ?_
        rintro e w1 ⟨rfl, hb⟩
        have HB := Lib.hid ((alloc_below w (.cells #[.string ⟨#[]⟩, .string ⟨#[]⟩] 31)).trans (hb.mono (by simp)))
        have HR := Lib.hid ((Row2.new w 31 (.string ⟨#[]⟩) (.string ⟨#[]⟩)).below hb (Nat.le_refl _))
        clear hb J1
        go_wp2_with fail
        refine (J2.out _ HB.out).mono ?_
        rintro e w2 ⟨rfl, hb⟩
        have HB2 := Lib.hid (eb_of HB.out hb (Nat.le_refl _))
        have HR := Lib.hid (HR.out.below hb (Nat.le_refl _))
        clear hb J2
        have r0 := HR.out.c0
        have r1 := HR.out.c1
        have z0 := HR.out.fz 0
        have z1 := HR.out.fz 1
        rcases HF.out.below HB2.out (Nat.le_refl _) with h0 | ⟨b, off, rfl, hbl, hc⟩
        · rw [h0] at hix; simp at hix
        obtain ⟨y0, _⟩ := hc (p + 1) HZ.out
        rw [HYK.out] at y0
        obtain ⟨g0, g1⟩ := hc p hix
        rw [HX.out] at g0 g1
        simp only at g0 g1
        clear hc
        go_wp2_with fail
        have k0 : ((w2.setCell ⟨w.heap.size, 0, none⟩ (.string xk)).setCell ⟨w.heap.size, 1, none⟩ (.string xv)).cell? ⟨w.heap.size, 0, none⟩ = some (.string xk) := (HR.out.set (u0 := .string xk) (u1 := .string xv)).c0
        have k1 : ((w2.setCell ⟨w.heap.size, 0, none⟩ (.string xk)).setCell ⟨w.heap.size, 1, none⟩ (.string xv)).cell? ⟨w.heap.size, 1, none⟩ = some (.string xv) := (HR.out.set (u0 := .string xk) (u1 := .string xv)).c1
        refine bodyPost_ret (v := .tuple #[.agg #[.string xk, .string xv], .int .i64 0]) (by simp [results, Try.f14, go_sem, k0, k1]) rfl ?_
        exact ⟨by (rw [HE.out]) <;> rfl, set2_below HB2.out (Nat.le_refl _) _ _⟩
      · rw [hp] at J2
        have HX := Lib.hid hxx
        clear hp hq he e1 e2 xz xs' hf hs hxx h0 hple
        have q1 : (((p + 1 : Nat) : Int) == 0) = false := by rw [beq_eq_false_iff_ne]; omega
        have q2 : ((p : Int) + 1 == 0) = false := by rw [beq_eq_false_iff_ne]; omega
        have q3 : IntKind.i64.wrap (((p + 1 : Nat) : Int) - 1) = (p : Int) := by rw [IntKind.wrap_i64]; omega
        have hI : (p : Int) < (xs.length : Int) := by omega
        obtain ⟨n, hnn⟩ : ∃ n, xs.length = n := ⟨_, rfl⟩
        have hixn : p < n := by omega
        rw [hnn] at J1 J2 hI hn x4 hz0 ⊢
        have hI3 : ¬ ((p + 1 : Nat) : Int) < (n : Int) := by omega
        have hI4 : ¬ (p : Int) + 1 < (n : Int) := by omega
        clear hnn
        go_enter Try.func14, Try.ntmps14
        go_wp2_with fail
        refine (J1.out _ (alloc_below _ _)).mono ?_
        rintro e w1 ⟨rfl, hb⟩
        have HB := Lib.hid ((alloc_below w (.cells #[.string ⟨#[]⟩, .string ⟨#[]⟩] 31)).trans (hb.mono (by simp)))
        have HR := Lib.hid ((Row2.new w 31 (.string ⟨#[]⟩) (.string ⟨#[]⟩)).below hb (Nat.le_refl _))
        clear hb J1
        go_wp2_with fail
        refine (J2.out _ HB.out).mono ?_
        rintro e w2 ⟨rfl, hb⟩
        have HB2 := Lib.hid (eb_of HB.out hb (Nat.le_refl _))
        have HR := Lib.hid (HR.out.below hb (Nat.le_refl _))
        clear hb J2
        have r0 := HR.out.c0
        have r1 := HR.out.c1
        have z0 := HR.out.fz 0
        have z1 := HR.out.fz 1
        rcases HF.out.below HB2.out (Nat.le_refl _) with h0 | ⟨b, off, rfl, hbl, hc⟩
        · rw [h0] at hix; simp at hix
        obtain ⟨g0, g1⟩ := hc p hix
        rw [HX.out] at g0 g1
        simp only at g0 g1
        clear hc
        go_wp2_with fail
        have k0 : ((w2.setCell ⟨w.heap.size, 0, none⟩ (.string xk)).setCell ⟨w.heap.size, 1, none⟩ (.string xv)).cell? ⟨w.heap.size, 0, none⟩ = some (.string xk) := (HR.out.set (u0 := .string xk) (u1 := .string xv)).c0
        have k1 : ((w2.setCell ⟨w.heap.size, 0, none⟩ (.string xk)).setCell ⟨w.heap.size, 1, none⟩ (.string xv)).cell? ⟨w.heap.size, 1, none⟩ = some (.string xv) := (HR.out.set (u0 := .string xk) (u1 := .string xv)).c1
        refine bodyPost_ret (v := .tuple #[.agg #[.string xk, .string xv], .int .i64 0]) (by simp [results, Try.f14, go_sem, k0, k1]) rfl ?_
        exact ⟨by (rw [HE.out]) <;> rfl, set2_below HB2.out (Nat.le_refl _) _ _⟩

set_option maxRecDepth 100000 in
set_option maxHeartbeats 2000000 in
theorem rCeil_any (A : Option Addr) (c : Nat) (xs : List Pr) (key : ByteArray) (w : World) (hf : PsAt w A xs) (hn : xs.length ≤ 4294967295) (hs : SizedP xs) (hk : key.size ≤ 9223372036854775807) :
    Calls Try.prog 16 #[.slice A xs.length c, .string key] w fun e w' => e = .returned (.tuple #[.agg #[.string (ceilE xs key).2.1, .string (ceilE xs key).2.2], .int .i64 (ceilE xs key).1]) ∧ Below w.heap.size w w' := by
  have J1 := Lib.hid (fun w1 (h : Below w.heap.size w w1) => rAsked_any A c xs key w1 (hf.below h (Nat.le_refl _)) hn hs hk)
  by_cases he : askE xs key = 0
  rotate_left
  · have HE : Hid (ceilE xs key = (askE xs key, noneP)) := Lib.hid (if_pos he)
    obtain ⟨b1, b2⟩ := ne_b he
    clear he hf hs
    generalize askE xs key = r at *
    generalize xs.length = n at *
    go_enter Try.func16, Try.ntmps16
    go_wp2_with fail
    refine (J1.out _ (alloc_below _ _)).mono ?_
    rintro e w1 ⟨rfl, hb⟩
    have HB := Lib.hid ((alloc_below w (.cells #[.string ⟨#[]⟩, .string ⟨#[]⟩] 31)).trans (hb.mono (by simp)))
    have HR := Lib.hid ((Row2.new w 31 (.string ⟨#[]⟩) (.string ⟨#[]⟩)).below hb (Nat.le_refl _))
    clear hb J1
    have r0 := HR.out.c0
    have r1 := HR.out.c1
    have z0 := HR.out.fz 0
    have z1 := HR.out.fz 1
    go_wp2_with fail
    have k0 : ((w1.setCell ⟨w.heap.size, 0, none⟩ (.string ⟨#[]⟩)).setCell ⟨w.heap.size, 1, none⟩ (.string ⟨#[]⟩)).cell? ⟨w.heap.size, 0, none⟩ = some (.string ⟨#[]⟩) := (HR.out.set (u0 := .string ⟨#[]⟩) (u1 := .string ⟨#[]⟩)).c0
    have k1 : ((w1.setCell ⟨w.heap.size, 0, none⟩ (.string ⟨#[]⟩)).setCell ⟨w.heap.size, 1, none⟩ (.string ⟨#[]⟩)).cell? ⟨w.heap.size, 1, none⟩ = some (.string ⟨#[]⟩) := (HR.out.set (u0 := .string ⟨#[]⟩) (u1 := .string ⟨#[]⟩)).c1
    refine bodyPost_ret (v := .tuple #[.agg #[.string ⟨#[]⟩, .string ⟨#[]⟩], .int .i64 r]) (by simp [results, Try.f16, go_sem, k0, k1]) rfl ?_
    exact ⟨by (rw [HE.out]) <;> rfl, set2_below HB.out (Nat.le_refl _) _ _⟩

  obtain ⟨e1, e2⟩ := askE_ok he
  obtain ⟨x4, xz, xs'⟩ := map_ok e1
  have J2 := Lib.hid (fun w1 (h : Below w.heap.size w w1) => rPlace_is A c xs key w1 (hf.below h (Nat.le_refl _)) hn)
  rw [he] at J1
  have HF := Lib.hid hf
  have hple := posP_le key xs
  by_cases h0 : posP key xs = xs.length
  · have HE : Hid (ceilE xs key = (4, noneP)) := Lib.hid (by
      unfold ceilE
      rw [if_neg (by rw [he]; simp), if_pos h0])
    rw [h0] at J2
    clear he e1 e2 xz xs' hf hs h0 hple
    generalize xs.length = n at *
    generalize hasP key xs = q at *
    go_enter Try.func16, Try.ntmps16
    go_wp2_with fail
    refine (J1.out _ (alloc_below _ _)).mono ?_
    rintro e w1 ⟨rfl, hb⟩
    have HB := Lib.hid ((alloc_below w (.cells #[.string ⟨#[]⟩, .string ⟨#[]⟩] 31)).trans (hb.mono (by simp)))
    have HR := Lib.hid ((Row2.new w 31 (.string ⟨#[]⟩) (.string ⟨#[]⟩)).below hb (Nat.le_refl _))
    clear hb J1
    go_wp2_with fail
    refine (J2.out _ HB.out).mono ?_
    rintro e w2 ⟨rfl, hb⟩
    have HB2 := Lib.hid (eb_of HB.out hb (Nat.le_refl _))
    have HR := Lib.hid (HR.out.below hb (Nat.le_refl _))
    clear hb J2
    have r0 := HR.out.c0
    have r1 := HR.out.c1
    have z0 := HR.out.fz 0
    have z1 := HR.out.fz 1
    go_wp2_with fail
    have k0 : ((w2.setCell ⟨w.heap.size, 0, none⟩ (.string ⟨#[]⟩)).setCell ⟨w.heap.size, 1, none⟩ (.string ⟨#[]⟩)).cell? ⟨w.heap.size, 0, none⟩ = some (.string ⟨#[]⟩) := (HR.out.set (u0 := .string ⟨#[]⟩) (u1 := .string ⟨#[]⟩)).c0
    have k1 : ((w2.setCell ⟨w.heap.size, 0, none⟩ (.string ⟨#[]⟩)).setCell ⟨w.heap.size, 1, none⟩ (.string ⟨#[]⟩)).cell? ⟨w.heap.size, 1, none⟩ = some (.string ⟨#[]⟩) := (HR.out.set (u0 := .string ⟨#[]⟩) (u1 := .string ⟨#[]⟩)).c1
    refine bodyPost_ret (v := .tuple #[.agg #[.string ⟨#[]⟩, .string ⟨#[]⟩], .int .i64 4]) (by simp [results, Try.f16, go_sem, k0, k1]) rfl ?_
    exact ⟨by (rw [HE.out]) <;> rfl, set2_below HB2.out (Nat.le_refl _) _ _⟩

  · obtain ⟨p, hp⟩ : ∃ p, posP key xs = p := ⟨_, rfl⟩
    have hix : p < xs.length := by omega
    obtain ⟨⟨xk, xv⟩, hxx⟩ : ∃ x, xs[p] = x := ⟨_, rfl⟩
    have HE : Hid (ceilE xs key = (0, (xk, xv))) := Lib.hid (by
      unfold ceilE
      rw [if_neg (by rw [he]; simp), if_neg h0, hp, List.getD_eq_getElem?_getD, List.getElem?_eq_getElem hix, hxx]; try rfl)
    rw [hp] at J2 hple
    have hI : (p : Int) < (xs.length : Int) := by omega
    have hI2 : ((p : Int) == (xs.length : Int)) = false := by rw [beq_eq_false_iff_ne]; omega
    have HX := Lib.hid hxx
    clear hp he e1 e2 xz xs' hf hs hxx h0
    generalize hasP key xs = q at *
    obtain ⟨n, hnn⟩ : ∃ n, xs.length = n := ⟨_, rfl⟩
    rw [hnn] at J1 J2 hI hI2 hple hn x4 ⊢
    clear hnn
    go_enter Try.func16, Try.ntmps16
    go_wp2_with fail
    refine (J1.out _ (alloc_below _ _)).mono ?_
    rintro e w1 ⟨rfl, hb⟩
    have HB := Lib.hid ((alloc_below w (.cells #[.string ⟨#[]⟩, .string ⟨#[]⟩] 31)).trans (hb.mono (by simp)))
    have HR := Lib.hid ((Row2.new w 31 (.string ⟨#[]⟩) (.string ⟨#[]⟩)).below hb (Nat.le_refl _))
    clear hb J1
    go_wp2_with fail
    refine (J2.out _ HB.out).mono ?_
    rintro e w2 ⟨rfl, hb⟩
    have HB2 := Lib.hid (eb_of HB.out hb (Nat.le_refl _))
    have HR := Lib.hid (HR.out.below hb (Nat.le_refl _))
    clear hb J2
    have r0 := HR.out.c0
    have r1 := HR.out.c1
    have z0 := HR.out.fz 0
    have z1 := HR.out.fz 1
    rcases HF.out.below HB2.out (Nat.le_refl _) with h0 | ⟨b, off, rfl, hbl, hc⟩
    · rw [h0] at hix; simp at hix
    obtain ⟨g0, g1⟩ := hc p hix
    rw [HX.out] at g0 g1
    simp only at g0 g1
    clear hc
    go_wp2_with fail
    have k0 : ((w2.setCell ⟨w.heap.size, 0, none⟩ (.string xk)).setCell ⟨w.heap.size, 1, none⟩ (.string xv)).cell? ⟨w.heap.size, 0, none⟩ = some (.string xk) := (HR.out.set (u0 := .string xk) (u1 := .string xv)).c0
    have k1 : ((w2.setCell ⟨w.heap.size, 0, none⟩ (.string xk)).setCell ⟨w.heap.size, 1, none⟩ (.string xv)).cell? ⟨w.heap.size, 1, none⟩ = some (.string xv) := (HR.out.set (u0 := .string xk) (u1 := .string xv)).c1
    refine bodyPost_ret (v := .tuple #[.agg #[.string xk, .string xv], .int .i64 0]) (by simp [results, Try.f16, go_sem, k0, k1]) rfl ?_
    exact ⟨by (rw [HE.out]) <;> rfl, set2_below HB2.out (Nat.le_refl _) _ _⟩

end Go.Proofs.Ytbgpcmpbfenplaa.KK
