/-
  Merges: awake.
-/
import Derived.Test.YtebjhjmlpodkgaaPv
namespace Go.Proofs.Ytebjhjmlpodkgaa.KK
open Go.ChangeShapes Go.WideShapes Go.ChangeAt Go.RowKit Go.Proofs

theorem ex_cells {w : World} {g : Nat} {xs : List El.En} (h : EsAt w (some ⟨g, 0, none⟩) xs) (i : Nat) (hi : i < xs.length) : w.cell? ⟨g, i * 4, none⟩ = some (.string xs[i].1) ∧ w.cell? ⟨g, i * 4 + 1, none⟩ = some (.string xs[i].2.1) ∧ w.cell? ⟨g, i * 4 + 2, none⟩ = some (.bool xs[i].2.2.1) ∧ w.cell? ⟨g, i * 4 + 3, none⟩ = some (.int .i64 xs[i].2.2.2) := by
  rcases h with h0 | ⟨b, o, e, _, hc⟩
  · rw [h0] at hi; simp at hi
  · obtain ⟨rfl, rfl⟩ : g = b ∧ 0 = o := by injection e with e; injection e with e1 e2; exact ⟨e1, e2⟩
    have := hc i hi
    simpa using this
set_option maxRecDepth 100000 in
set_option maxHeartbeats 8000000 in
theorem awake11_any (w : World) : Calls Try.prog 14 #[] w fun e w' => e = .returned (.bool true) ∧ Below w.heap.size w w' := by
  go_enter Try.func14, Try.ntmps14
  go_wp2_with fail
  refine (ex_any11 _).mono ?_
  rintro e w1 ⟨rr, g0, g1, rfl, hr, hb⟩
  have HR1 := Lib.hid hr
  have HB1 := Lib.hid hb
  clear hr hb
  go_wp2_with fail
  refine (ex_all _ g0 g1 2 w1 HR1.out).mono ?_
  rintro e w2 ⟨A', B', ca, cb, rfl, he, hi, hb⟩
  have HR2 := Lib.hid (HR1.out.below hb (Nat.le_refl _))
  have HE2 := Lib.hid he
  have HI2 := Lib.hid hi
  have HB2 := Lib.hid (eb_of HB1.out hb (Nat.le_refl _))
  clear he hi hb HR1 HB1
  go_wp2_with fail
  refine (ex_begin _ g0 g1 2 w2 HR2.out).mono ?_
  rintro e w3 ⟨sr, sa, sk, sl, c1, c2, c3, c4, rfl, hrd, hb⟩
  obtain ⟨w4, hw4⟩ : ∃ w4, w3.alloc (.cells #[.slice (some ⟨sr, 0, none⟩) 2 c1, .slice (some ⟨sa, 0, none⟩) 2 c2, .slice (some ⟨sk, 0, none⟩) 2 c3, .slice (some ⟨sl, 0, none⟩) 2 c4, .int .i64 1] 30) = w4 := ⟨_, rfl⟩
  have hb4 : Below w3.heap.size w3 w4 := hw4 ▸ alloc_below _ _
  have hb24 := eb_of hb hb4 (Nat.le_refl _)
  have HR4 := Lib.hid (HR2.out.below hb24 (Nat.le_refl _))
  have HE4 := Lib.hid (HE2.out.below hb24 (Nat.le_refl _))
  have HI4 := Lib.hid (HI2.out.below hb24 (Nat.le_refl _))
  have HB4 := Lib.hid (eb_of HB2.out hb24 (Nat.le_refl _))
  have HS4 := Lib.hid (hrd.below hb4 (Nat.le_refl _))
  have HSB4 : Hid (Rw5 w4 w3.heap.size 30 (.slice (some ⟨sr, 0, none⟩) 2 c1) (.slice (some ⟨sa, 0, none⟩) 2 c2) (.slice (some ⟨sk, 0, none⟩) 2 c3) (.slice (some ⟨sl, 0, none⟩) 2 c4) (.int .i64 1)) := Lib.hid (hw4 ▸ heap_alloc_new w3 _)
  clear hb hb4 hb24 hrd HR2 HE2 HI2 HB2
  have y0 := HSB4.out.c0
  have y1 := HSB4.out.c1
  have y2 := HSB4.out.c2
  have y3 := HSB4.out.c3
  have y4 := HSB4.out.c4
  go_wp2_with fail
  refine (ex_peek sr sa sk sl g0 g1 c1 c2 c3 c4 w4 HS4.out).mono ?_
  rintro e w5 ⟨rfl, hb⟩
  obtain ⟨w6, hw6⟩ : ∃ w6, w5.alloc (.cells #[.string ⟨#[97]⟩, .string ⟨#[49]⟩, .bool false, .int .i64 1] 45) = w6 := ⟨_, rfl⟩
  have hb6 : Below w5.heap.size w5 w6 := hw6 ▸ alloc_below _ _
  have hb46 := eb_of hb hb6 (Nat.le_refl _)
  have HR6 := Lib.hid (HR4.out.below hb46 (Nat.le_refl _))
  have HE6 := Lib.hid (HE4.out.below hb46 (Nat.le_refl _))
  have HI6 := Lib.hid (HI4.out.below hb46 (Nat.le_refl _))
  have HB6 := Lib.hid (eb_of HB4.out hb46 (Nat.le_refl _))
  have HS6 := Lib.hid (HS4.out.below hb46 (Nat.le_refl _))
  have HSB6 := Lib.hid (HSB4.out.below hb46 (Nat.le_refl _))
  have HX6 : Hid (Rw4 w6 w5.heap.size 45 (.string ⟨#[97]⟩) (.string ⟨#[49]⟩) (.bool false) (.int .i64 1)) := Lib.hid (hw6 ▸ heap_alloc_new w5 _)
  clear hb hb6 hb46 HR4 HE4 HI4 HB4 HS4 HSB4 y0 y1 y2 y3 y4 hw4
  have y0 := HSB6.out.c0
  have y1 := HSB6.out.c1
  have y2 := HSB6.out.c2
  have y3 := HSB6.out.c3
  have y4 := HSB6.out.c4
  go_wp2_with fail
  refine (ex_skip sr sa sk sl g0 g1 c1 c2 c3 c4 w6 HS6.out).mono ?_
  rintro e w7 ⟨tr, ta, tk, tl, d1, d2, d3, d4, rfl, hrd, hb⟩
  obtain ⟨w8, hw8⟩ : ∃ w8, w7.alloc (.cells #[.slice (some ⟨tr, 0, none⟩) 2 d1, .slice (some ⟨ta, 0, none⟩) 2 d2, .slice (some ⟨tk, 0, none⟩) 2 d3, .slice (some ⟨tl, 0, none⟩) 2 d4, .int .i64 1] 30) = w8 := ⟨_, rfl⟩
  have hb8 : Below w7.heap.size w7 w8 := hw8 ▸ alloc_below _ _
  have hb68 := eb_of hb hb8 (Nat.le_refl _)
  have HR8 := Lib.hid (HR6.out.below hb68 (Nat.le_refl _))
  have HE8 := Lib.hid (HE6.out.below hb68 (Nat.le_refl _))
  have HI8 := Lib.hid (HI6.out.below hb68 (Nat.le_refl _))
  have HB8 := Lib.hid (eb_of HB6.out hb68 (Nat.le_refl _))
  have HX8 := Lib.hid (HX6.out.below hb68 (Nat.le_refl _))
  have HT8 := Lib.hid (hrd.below hb8 (Nat.le_refl _))
  have HTB8 : Hid (Rw5 w8 w7.heap.size 30 (.slice (some ⟨tr, 0, none⟩) 2 d1) (.slice (some ⟨ta, 0, none⟩) 2 d2) (.slice (some ⟨tk, 0, none⟩) 2 d3) (.slice (some ⟨tl, 0, none⟩) 2 d4) (.int .i64 1)) := Lib.hid (hw8 ▸ heap_alloc_new w7 _)
  clear hb hb8 hb68 hrd HR6 HE6 HI6 HB6 HS6 HSB6 HX6 y0 y1 y2 y3 y4 hw6
  have y0 := HTB8.out.c0
  have y1 := HTB8.out.c1
  have y2 := HTB8.out.c2
  have y3 := HTB8.out.c3
  have y4 := HTB8.out.c4
  go_wp2_with fail
  refine (ex_next tr ta tk tl g0 g1 d1 d2 d3 d4 w8 HT8.out).mono ?_
  rintro e w9 ⟨ur, ua, uk, ul, e1, e2, e3, e4, wn, hwn, rfl, hrd, hb⟩
  obtain ⟨w10, hw10⟩ : ∃ w10, (w9.alloc (.cells #[.string ⟨#[99]⟩, .string ⟨#[51]⟩, .bool false, .int .i64 3] 45)).alloc (.cells #[.slice (some ⟨ur, 0, none⟩) 2 e1, .slice (some ⟨ua, 0, none⟩) 2 e2, .slice (some ⟨uk, 0, none⟩) 2 e3, .slice (some ⟨ul, 0, none⟩) 2 e4, .int .i64 (wn : Nat)] 30) = w10 := ⟨_, rfl⟩
  have hb10 : Below w9.heap.size w9 w10 := hw10 ▸ alloc2_below _ _ _
  have hb810 := eb_of hb hb10 (Nat.le_refl _)
  have HR10 := Lib.hid (HR8.out.below hb810 (Nat.le_refl _))
  have HE10 := Lib.hid (HE8.out.below hb810 (Nat.le_refl _))
  have HI10 := Lib.hid (HI8.out.below hb810 (Nat.le_refl _))
  have HB10 := Lib.hid (eb_of HB8.out hb810 (Nat.le_refl _))
  have HX10 := Lib.hid (HX8.out.below hb810 (Nat.le_refl _))
  have HTB10 := Lib.hid (HTB8.out.below hb810 (Nat.le_refl _))
  have HTA10 := Lib.hid (HT8.out.ats.below hb810 (Nat.le_refl _))
  have HU10 := Lib.hid (hrd.below hb10 (Nat.le_refl _))
  have HY10 : Hid (Rw4 w10 w9.heap.size 45 (.string ⟨#[99]⟩) (.string ⟨#[51]⟩) (.bool false) (.int .i64 3)) := Lib.hid (hw10 ▸ hp2 w9 _ _)
  have HUB10 : Hid (Rw5 w10 (w9.heap.size + 1) 30 (.slice (some ⟨ur, 0, none⟩) 2 e1) (.slice (some ⟨ua, 0, none⟩) 2 e2) (.slice (some ⟨uk, 0, none⟩) 2 e3) (.slice (some ⟨ul, 0, none⟩) 2 e4) (.int .i64 (wn : Nat))) := Lib.hid (hw10 ▸ hp3 w9 _ _ rfl)
  have HWN := Lib.hid hwn
  clear hb hb10 hb810 hrd HR8 HE8 HI8 HB8 HX8 HT8 HTB8 y0 y1 y2 y3 y4 hw8 hwn
  have y0 := HUB10.out.c0
  have y1 := HUB10.out.c1
  have y2 := HUB10.out.c2
  have y3 := HUB10.out.c3
  have y4 := HUB10.out.c4
  go_wp2_with fail
  refine (ex_peek2 ur ua uk ul g0 g1 e1 e2 e3 e4 wn w10 HWN.out HU10.out).mono ?_
  rintro e w11 ⟨rfl, hb⟩
  obtain ⟨w12, hw12⟩ : ∃ w12, w11.alloc (.cells #[.string ⟨#[]⟩, .string ⟨#[]⟩, .bool false, .int .i64 0] 45) = w12 := ⟨_, rfl⟩
  have hb12 : Below w11.heap.size w11 w12 := hw12 ▸ alloc_below _ _
  have hb112 := eb_of hb hb12 (Nat.le_refl _)
  have HR12 := Lib.hid (HR10.out.below hb112 (Nat.le_refl _))
  have HE12 := Lib.hid (HE10.out.below hb112 (Nat.le_refl _))
  have HI12 := Lib.hid (HI10.out.below hb112 (Nat.le_refl _))
  have HB12 := Lib.hid (eb_of HB10.out hb112 (Nat.le_refl _))
  have HX12 := Lib.hid (HX10.out.below hb112 (Nat.le_refl _))
  have HTB12 := Lib.hid (HTB10.out.below hb112 (Nat.le_refl _))
  have HTA12 := Lib.hid (HTA10.out.below hb112 (Nat.le_refl _))
  have HY12 := Lib.hid (HY10.out.below hb112 (Nat.le_refl _))
  clear hb hb12 hb112 HR10 HE10 HI10 HB10 HX10 HTB10 HTA10 HU10 HY10 HUB10 y0 y1 y2 y3 y4 hw10
  obtain ⟨w13, hw13⟩ : ∃ w13, ((w12.alloc (.cells #[.int .i64 0, .int .i64 3] 3)).alloc (.cells #[.string ⟨#[98]⟩, .bool false, .string ⟨#[]⟩, .bool true] 41)).alloc (.cells #[.int .i64 0, .int .i64 1] 3) = w13 := ⟨_, rfl⟩
  have hb13 : Below w12.heap.size w12 w13 := hw13 ▸ bA (bA (alloc_below w12 _) _) _
  have hI1 : IsAt w13 (some ⟨w12.heap.size, 0, none⟩) [0, 3] := hw13 ▸ ((isNew (W := w12) (L := [0, 3]) rfl rfl).below (alloc2_below _ _ _) (Nat.le_refl _))
  have hK1 : KsAt w13 (some ⟨w12.heap.size + 1, 0, none⟩) bKs := hw13 ▸ (((CR.new (w := w12.alloc (.cells #[.int .i64 0, .int .i64 3] 3)) (t := 41) (vs := keysV bKs) rfl).ks.below (alloc_below _ _) (Nat.le_refl _)) |> fun h => by rwa [World.size_alloc] at h)
  have hL1 : IsAt w13 (some ⟨w12.heap.size + 1 + 1, 0, none⟩) [0, 1] := hw13 ▸ (isNew (L := [0, 1]) rfl (by simp))
  have JC := Lib.hid (ex_check (some ⟨rr, 0, none⟩) (some ⟨w12.heap.size, 0, none⟩) (some ⟨w12.heap.size + 1, 0, none⟩) (some ⟨w12.heap.size + 1 + 1, 0, none⟩) g0 g1 2 2 2 2 w13 (HR12.out.below hb13 (Nat.le_refl _)) hI1 hK1 hL1)
  have HB13 := Lib.hid hb13
  have hs12 : w12.heap.size = w11.heap.size + 1 := by rw [← hw12]; simp
  rw [hs12] at JC
  clear hs12
  have HW12 := Lib.hid hw12
  have HW13 := Lib.hid hw13
  clear hb13 hI1 hK1 hL1 hw12 hw13
  go_wp2_with fail
  rw [HW12.out, HW13.out]
  refine JC.out.mono ?_
  rintro e w14 ⟨rfl, hb⟩
  have hb1214 := eb_of HB13.out hb (Nat.le_refl _)
  have HR14 := Lib.hid (HR12.out.below hb1214 (Nat.le_refl _))
  have HE14 := Lib.hid (HE12.out.below hb1214 (Nat.le_refl _))
  have HI14 := Lib.hid (HI12.out.below hb1214 (Nat.le_refl _))
  have HB14 := Lib.hid (eb_of HB12.out hb1214 (Nat.le_refl _))
  have HX14 := Lib.hid (HX12.out.below hb1214 (Nat.le_refl _))
  have HTB14 := Lib.hid (HTB12.out.below hb1214 (Nat.le_refl _))
  have HTA14 := Lib.hid (HTA12.out.below hb1214 (Nat.le_refl _))
  have HY14 := Lib.hid (HY12.out.below hb1214 (Nat.le_refl _))
  clear hb hb1214 HR12 HE12 HI12 HB12 HX12 HTB12 HTA12 HY12 HB13 JC HW12 HW13
  go_wp2_with fail
  generalize w14 = wz at *
  generalize w5.heap.size = bX at *
  generalize w7.heap.size = bT at *
  generalize w9.heap.size = bY at *
  have HK : Hid (∀ w', Below wz.heap.size wz w' → Below wz.heap.size wz w' ∧ w'.cell? ⟨rr, 0, none⟩ = some (.slice (some ⟨g0, 0, none⟩) 1 1) ∧ w'.cell? ⟨rr, 1, none⟩ = some (.slice (some ⟨g1, 0, none⟩) 3 3) ∧ w'.cell? ⟨g0, 0, none⟩ = some (.string ⟨#[98]⟩) ∧ w'.cell? ⟨g0, 1, none⟩ = some (.string ⟨#[]⟩) ∧ w'.cell? ⟨g0, 2, none⟩ = some (.bool true) ∧ w'.cell? ⟨g0, 3, none⟩ = some (.int .i64 9) ∧ w'.cell? ⟨g1, 0, none⟩ = some (.string ⟨#[97]⟩) ∧ w'.cell? ⟨g1, 1, none⟩ = some (.string ⟨#[49]⟩) ∧ w'.cell? ⟨g1, 2, none⟩ = some (.bool false) ∧ w'.cell? ⟨g1, 3, none⟩ = some (.int .i64 1) ∧ w'.cell? ⟨g1, 4, none⟩ = some (.string ⟨#[98]⟩) ∧ w'.cell? ⟨g1, 5, none⟩ = some (.string ⟨#[50]⟩) ∧ w'.cell? ⟨g1, 6, none⟩ = some (.bool false) ∧ w'.cell? ⟨g1, 7, none⟩ = some (.int .i64 2) ∧ w'.cell? ⟨g1, 8, none⟩ = some (.string ⟨#[99]⟩) ∧ w'.cell? ⟨g1, 9, none⟩ = some (.string ⟨#[51]⟩) ∧ w'.cell? ⟨g1, 10, none⟩ = some (.bool false) ∧ w'.cell? ⟨g1, 11, none⟩ = some (.int .i64 3) ∧ w'.cell? ⟨bX, 0, none⟩ = some (.string ⟨#[97]⟩) ∧ w'.cell? ⟨bX, 1, none⟩ = some (.string ⟨#[49]⟩) ∧ w'.cell? ⟨bX, 2, none⟩ = some (.bool false) ∧ w'.cell? ⟨bX, 3, none⟩ = some (.int .i64 1) ∧ w'.cell? ⟨bT, 1, none⟩ = some (.slice (some ⟨ta, 0, none⟩) 2 d2) ∧ w'.cell? ⟨bY, 0, none⟩ = some (.string ⟨#[99]⟩) ∧ w'.cell? ⟨bY, 1, none⟩ = some (.string ⟨#[51]⟩) ∧ w'.cell? ⟨bY, 2, none⟩ = some (.bool false) ∧ w'.cell? ⟨bY, 3, none⟩ = some (.int .i64 3)) := Lib.hid (fun w' h => by
    have hr := HR14.out.below h (Nat.le_refl _)
    rcases hr with h0 | ⟨b, o, e, hbl, hc⟩
    · cases h0
    obtain ⟨rfl, rfl⟩ : rr = b ∧ 0 = o := by injection e with e; injection e with e1 e2; exact ⟨e1, e2⟩
    have q0 := hc 0 (by simp [exRs])
    have q1 := hc 1 (by simp [exRs])
    have p0 : EsAt w' (some ⟨g0, 0, none⟩) [x0] := q0.2
    have p1 : EsAt w' (some ⟨g1, 0, none⟩) [x1, x2, x3] := q1.2
    have t0 := ex_cells p0 0 (by simp)
    have t1 := ex_cells p1 0 (by simp)
    have t2 := ex_cells p1 1 (by simp)
    have t3 := ex_cells p1 2 (by simp)
    have rX := HX14.out.below h (Nat.le_refl _)
    have rT := HTB14.out.below h (Nat.le_refl _)
    have rY := HY14.out.below h (Nat.le_refl _)
    exact ⟨h, q0.1, q1.1, t0.1, t0.2.1, t0.2.2.1, t0.2.2.2, t1.1, t1.2.1, t1.2.2.1, t1.2.2.2, t2.1, t2.2.1, t2.2.2.1, t2.2.2.2, t3.1, t3.2.1, t3.2.2.1, t3.2.2.2, rX.c0, rX.c1, rX.c2, rX.c3, rT.c1, rY.c0, rY.c1, rY.c2, rY.c3⟩)
  have JS1 : Hid (∀ w1 w2, Below wz.heap.size wz w1 → Below (w1.alloc (.cells #[.string ⟨#[97]⟩, .string ⟨#[49]⟩, .bool false, .int .i64 1, .string ⟨#[98]⟩, .string ⟨#[]⟩, .bool true, .int .i64 9, .string ⟨#[98]⟩, .string ⟨#[50]⟩, .bool false, .int .i64 2, .string ⟨#[99]⟩, .string ⟨#[51]⟩, .bool false, .int .i64 3] 45)).heap.size (w1.alloc (.cells #[.string ⟨#[97]⟩, .string ⟨#[49]⟩, .bool false, .int .i64 1, .string ⟨#[98]⟩, .string ⟨#[]⟩, .bool true, .int .i64 9, .string ⟨#[98]⟩, .string ⟨#[50]⟩, .bool false, .int .i64 2, .string ⟨#[99]⟩, .string ⟨#[51]⟩, .bool false, .int .i64 3] 45)) w2 → Calls Try.prog 20 #[.slice A' 4 ca, .slice (some ⟨w1.heap.size, 0, none⟩) 4 4] w2 fun e w' => e = .returned (.bool true) ∧ Below wz.heap.size wz w') := Lib.hid (fun w1 w2 h hz => by
    have ha := alloc_below w1 (.cells #[.string ⟨#[97]⟩, .string ⟨#[49]⟩, .bool false, .int .i64 1, .string ⟨#[98]⟩, .string ⟨#[]⟩, .bool true, .int .i64 9, .string ⟨#[98]⟩, .string ⟨#[50]⟩, .bool false, .int .i64 2, .string ⟨#[99]⟩, .string ⟨#[51]⟩, .bool false, .int .i64 3] 45)
    have h2 := eb_of (eb_of h ha (Nat.le_refl _)) hz (Nat.le_refl _)
    refine (sameE_any A' _ ca 4 [x1, x0, x2, x3] [x1, x0, x2, x3] _ (HE14.out.below h2 (Nat.le_refl _)) ((es_lit w1 #[.string ⟨#[97]⟩, .string ⟨#[49]⟩, .bool false, .int .i64 1, .string ⟨#[98]⟩, .string ⟨#[]⟩, .bool true, .int .i64 9, .string ⟨#[98]⟩, .string ⟨#[50]⟩, .bool false, .int .i64 2, .string ⟨#[99]⟩, .string ⟨#[51]⟩, .bool false, .int .i64 3] [x1, x0, x2, x3] rfl (by decide)).below hz (Nat.le_refl _)) (by decide) (by decide)).mono ?_
    rintro e w' ⟨rfl, hb⟩
    exact ⟨by simp, eb_of h2 hb (Nat.le_refl _)⟩)
  have JI1 : Hid (∀ w1 w2, Below wz.heap.size wz w1 → Below (w1.alloc (.cells #[.int .i64 1, .int .i64 0, .int .i64 1, .int .i64 1] 3)).heap.size (w1.alloc (.cells #[.int .i64 1, .int .i64 0, .int .i64 1, .int .i64 1] 3)) w2 → Calls Try.prog 21 #[.slice B' 4 cb, .slice (some ⟨w1.heap.size, 0, none⟩) 4 4] w2 fun e w' => e = .returned (.bool true) ∧ Below wz.heap.size wz w') := Lib.hid (fun w1 w2 h hz => by
    have ha := alloc_below w1 (.cells #[.int .i64 1, .int .i64 0, .int .i64 1, .int .i64 1] 3)
    have h2 := eb_of (eb_of h ha (Nat.le_refl _)) hz (Nat.le_refl _)
    refine (ints_eq B' _ cb 4 [1, 0, 1, 1] _ (HI14.out.below h2 (Nat.le_refl _)) ((isNew (W := w1) (L := [1, 0, 1, 1]) rfl rfl).below hz (Nat.le_refl _)) (by decide)).mono ?_
    rintro e w' ⟨rfl, hb⟩
    exact ⟨rfl, eb_of h2 hb (Nat.le_refl _)⟩)
  have JI2 : Hid (∀ w1 w2, Below wz.heap.size wz w1 → Below (w1.alloc (.cells #[.int .i64 1, .int .i64 2] 3)).heap.size (w1.alloc (.cells #[.int .i64 1, .int .i64 2] 3)) w2 → Calls Try.prog 21 #[.slice (some ⟨ta, 0, none⟩) 2 d2, .slice (some ⟨w1.heap.size, 0, none⟩) 2 2] w2 fun e w' => e = .returned (.bool true) ∧ Below wz.heap.size wz w') := Lib.hid (fun w1 w2 h hz => by
    have ha := alloc_below w1 (.cells #[.int .i64 1, .int .i64 2] 3)
    have h2 := eb_of (eb_of h ha (Nat.le_refl _)) hz (Nat.le_refl _)
    refine (ints_eq _ _ d2 2 [1, 2] _ (HTA14.out.below h2 (Nat.le_refl _)) ((isNew (W := w1) (L := [1, 2]) rfl rfl).below hz (Nat.le_refl _)) (by decide)).mono ?_
    rintro e w' ⟨rfl, hb⟩
    exact ⟨rfl, eb_of h2 hb (Nat.le_refl _)⟩)
  have kf0 : ∀ w', Below wz.heap.size wz w' → w'.cell? ⟨rr, 0, none⟩ = some (.slice (some ⟨g0, 0, none⟩) 1 1) := fun w' h => (HK.out w' h).2.1
  have kf1 : ∀ w', Below wz.heap.size wz w' → w'.cell? ⟨rr, 1, none⟩ = some (.slice (some ⟨g1, 0, none⟩) 3 3) := fun w' h => (HK.out w' h).2.2.1
  have kf2 : ∀ w', Below wz.heap.size wz w' → w'.cell? ⟨g0, 0, none⟩ = some (.string ⟨#[98]⟩) := fun w' h => (HK.out w' h).2.2.2.1
  have kf3 : ∀ w', Below wz.heap.size wz w' → w'.cell? ⟨g0, 1, none⟩ = some (.string ⟨#[]⟩) := fun w' h => (HK.out w' h).2.2.2.2.1
  have kf4 : ∀ w', Below wz.heap.size wz w' → w'.cell? ⟨g0, 2, none⟩ = some (.bool true) := fun w' h => (HK.out w' h).2.2.2.2.2.1
  have kf5 : ∀ w', Below wz.heap.size wz w' → w'.cell? ⟨g0, 3, none⟩ = some (.int .i64 9) := fun w' h => (HK.out w' h).2.2.2.2.2.2.1
  have kf6 : ∀ w', Below wz.heap.size wz w' → w'.cell? ⟨g1, 0, none⟩ = some (.string ⟨#[97]⟩) := fun w' h => (HK.out w' h).2.2.2.2.2.2.2.1
  have kf7 : ∀ w', Below wz.heap.size wz w' → w'.cell? ⟨g1, 1, none⟩ = some (.string ⟨#[49]⟩) := fun w' h => (HK.out w' h).2.2.2.2.2.2.2.2.1
  have kf8 : ∀ w', Below wz.heap.size wz w' → w'.cell? ⟨g1, 2, none⟩ = some (.bool false) := fun w' h => (HK.out w' h).2.2.2.2.2.2.2.2.2.1
  have kf9 : ∀ w', Below wz.heap.size wz w' → w'.cell? ⟨g1, 3, none⟩ = some (.int .i64 1) := fun w' h => (HK.out w' h).2.2.2.2.2.2.2.2.2.2.1
  have kf10 : ∀ w', Below wz.heap.size wz w' → w'.cell? ⟨g1, 4, none⟩ = some (.string ⟨#[98]⟩) := fun w' h => (HK.out w' h).2.2.2.2.2.2.2.2.2.2.2.1
  have kf11 : ∀ w', Below wz.heap.size wz w' → w'.cell? ⟨g1, 5, none⟩ = some (.string ⟨#[50]⟩) := fun w' h => (HK.out w' h).2.2.2.2.2.2.2.2.2.2.2.2.1
  have kf12 : ∀ w', Below wz.heap.size wz w' → w'.cell? ⟨g1, 6, none⟩ = some (.bool false) := fun w' h => (HK.out w' h).2.2.2.2.2.2.2.2.2.2.2.2.2.1
  have kf13 : ∀ w', Below wz.heap.size wz w' → w'.cell? ⟨g1, 7, none⟩ = some (.int .i64 2) := fun w' h => (HK.out w' h).2.2.2.2.2.2.2.2.2.2.2.2.2.2.1
  have kf14 : ∀ w', Below wz.heap.size wz w' → w'.cell? ⟨g1, 8, none⟩ = some (.string ⟨#[99]⟩) := fun w' h => (HK.out w' h).2.2.2.2.2.2.2.2.2.2.2.2.2.2.2.1
  have kf15 : ∀ w', Below wz.heap.size wz w' → w'.cell? ⟨g1, 9, none⟩ = some (.string ⟨#[51]⟩) := fun w' h => (HK.out w' h).2.2.2.2.2.2.2.2.2.2.2.2.2.2.2.2.1
  have kf16 : ∀ w', Below wz.heap.size wz w' → w'.cell? ⟨g1, 10, none⟩ = some (.bool false) := fun w' h => (HK.out w' h).2.2.2.2.2.2.2.2.2.2.2.2.2.2.2.2.2.1
  have kf17 : ∀ w', Below wz.heap.size wz w' → w'.cell? ⟨g1, 11, none⟩ = some (.int .i64 3) := fun w' h => (HK.out w' h).2.2.2.2.2.2.2.2.2.2.2.2.2.2.2.2.2.2.1
  have kf18 : ∀ w', Below wz.heap.size wz w' → w'.cell? ⟨bX, 0, none⟩ = some (.string ⟨#[97]⟩) := fun w' h => (HK.out w' h).2.2.2.2.2.2.2.2.2.2.2.2.2.2.2.2.2.2.2.1
  have kf19 : ∀ w', Below wz.heap.size wz w' → w'.cell? ⟨bX, 1, none⟩ = some (.string ⟨#[49]⟩) := fun w' h => (HK.out w' h).2.2.2.2.2.2.2.2.2.2.2.2.2.2.2.2.2.2.2.2.1
  have kf20 : ∀ w', Below wz.heap.size wz w' → w'.cell? ⟨bX, 2, none⟩ = some (.bool false) := fun w' h => (HK.out w' h).2.2.2.2.2.2.2.2.2.2.2.2.2.2.2.2.2.2.2.2.2.1
  have kf21 : ∀ w', Below wz.heap.size wz w' → w'.cell? ⟨bX, 3, none⟩ = some (.int .i64 1) := fun w' h => (HK.out w' h).2.2.2.2.2.2.2.2.2.2.2.2.2.2.2.2.2.2.2.2.2.2.1
  have kf22 : ∀ w', Below wz.heap.size wz w' → w'.cell? ⟨bT, 1, none⟩ = some (.slice (some ⟨ta, 0, none⟩) 2 d2) := fun w' h => (HK.out w' h).2.2.2.2.2.2.2.2.2.2.2.2.2.2.2.2.2.2.2.2.2.2.2.1
  have kf23 : ∀ w', Below wz.heap.size wz w' → w'.cell? ⟨bY, 0, none⟩ = some (.string ⟨#[99]⟩) := fun w' h => (HK.out w' h).2.2.2.2.2.2.2.2.2.2.2.2.2.2.2.2.2.2.2.2.2.2.2.2.1
  have kf24 : ∀ w', Below wz.heap.size wz w' → w'.cell? ⟨bY, 1, none⟩ = some (.string ⟨#[51]⟩) := fun w' h => (HK.out w' h).2.2.2.2.2.2.2.2.2.2.2.2.2.2.2.2.2.2.2.2.2.2.2.2.2.1
  have kf25 : ∀ w', Below wz.heap.size wz w' → w'.cell? ⟨bY, 2, none⟩ = some (.bool false) := fun w' h => (HK.out w' h).2.2.2.2.2.2.2.2.2.2.2.2.2.2.2.2.2.2.2.2.2.2.2.2.2.2.1
  have kf26 : ∀ w', Below wz.heap.size wz w' → w'.cell? ⟨bY, 3, none⟩ = some (.int .i64 3) := fun w' h => (HK.out w' h).2.2.2.2.2.2.2.2.2.2.2.2.2.2.2.2.2.2.2.2.2.2.2.2.2.2.2
  clear HK
  have HF := Lib.hid (Below.refl wz.heap.size wz)
  have HBZ := HB14
  clear HR14 HE14 HI14 HB14 HX14 HTB14 HTA14 HY14
  try dsimp only [List.append]
  refine wp_region_noPanic ?_
  refine wp_region_held_drew (S := fun w' => Below wz.heap.size wz w') (by kernel_rfl) (bD HF.out) (fun hHeld => ?_)
  simp only [List.size_toArray, List.length_cons, List.length_nil, Nat.reduceAdd, Array.replicate_succ, Array.replicate_zero, List.push_toArray, List.append_toArray, List.nil_append, List.cons_append]
  refine wpAnyH_take (i := 0) (oi := { dst := some 71, op := Op.move (Operand.tmp 2), type := 34, pos := "law.go:26", after := #[], guard := none }) (v := ?_) rfl (by as_aux_lemma => kernel_rfl) (by as_aux_lemma => kernel_rfl) (by as_aux_lemma => kernel_rfl) (fun _ _ _ h => h) (Or.inl ⟨by rfl, ?_⟩) (by assumption) ?_
  rotate_left
  · intro w hSw
    try dsimp only at hSw
    go_simp
    try with_reducible rfl
  (try simp only [Act.put, List.setIfInBounds_toArray, List.set_cons_zero, List.set_cons_succ])
  refine wpAnyH_take (i := 1) (oi := { dst := some 72, op := Op.move (Operand.tmp 1), type := 22, pos := "law.go:26", after := #[], guard := none }) (v := ?_) rfl (by as_aux_lemma => kernel_rfl) (by as_aux_lemma => kernel_rfl) (by as_aux_lemma => kernel_rfl) (fun _ _ _ h => h) (Or.inl ⟨by rfl, ?_⟩) (by assumption) ?_
  rotate_left
  · intro w hSw
    try dsimp only at hSw
    go_simp
    try with_reducible rfl
  (try simp only [Act.put, List.setIfInBounds_toArray, List.set_cons_zero, List.set_cons_succ])
  refine wpAnyH_take (i := 2) (oi := { dst := some 73, op := Op.indexAddr 22 (Operand.tmp 72) (Operand.const (Value.int IntKind.i64 1)), type := 0, pos := "law.go:26", after := #[{ on := 1, ground := Ground.data }], guard := none }) (v := ?_) rfl (by as_aux_lemma => kernel_rfl) (by as_aux_lemma => kernel_rfl) (by as_aux_lemma => kernel_rfl) (fun _ _ _ h => h) (Or.inl ⟨by rfl, ?_⟩) (by assumption) ?_
  rotate_left
  · intro w hSw
    try dsimp only at hSw
    go_simp
    try with_reducible rfl
  (try simp only [Act.put, List.setIfInBounds_toArray, List.set_cons_zero, List.set_cons_succ])
  refine wpAnyH_take (i := 3) (oi := { dst := some 74, op := Op.load 34 (Operand.tmp 73), type := 34, pos := "law.go:26", after := #[{ on := 2, ground := Ground.data }], guard := none }) (v := ?_) rfl (by as_aux_lemma => kernel_rfl) (by as_aux_lemma => kernel_rfl) (by as_aux_lemma => kernel_rfl) (fun _ _ _ h => h) (Or.inl ⟨by rfl, ?_⟩) (by assumption) ?_
  rotate_left
  · intro w hSw
    try dsimp only at hSw
    go_simp
    try with_reducible rfl
  (try simp only [Act.put, List.setIfInBounds_toArray, List.set_cons_zero, List.set_cons_succ])
  refine wpAnyH_take (i := 4) (oi := { dst := some 75, op := Op.indexAddr 34 (Operand.tmp 74) (Operand.const (Value.int IntKind.i64 0)), type := 0, pos := "law.go:26", after := #[{ on := 3, ground := Ground.data }], guard := none }) (v := ?_) rfl (by as_aux_lemma => kernel_rfl) (by as_aux_lemma => kernel_rfl) (by as_aux_lemma => kernel_rfl) (fun _ _ _ h => h) (Or.inl ⟨by rfl, ?_⟩) (by assumption) ?_
  rotate_left
  · intro w hSw
    try dsimp only at hSw
    go_simp
    try with_reducible rfl
  (try simp only [Act.put, List.setIfInBounds_toArray, List.set_cons_zero, List.set_cons_succ])
  refine wpAnyH_take (i := 5) (oi := { dst := some 76, op := Op.load 45 (Operand.tmp 75), type := 45, pos := "law.go:26", after := #[{ on := 4, ground := Ground.data }], guard := none }) (v := ?_) rfl (by as_aux_lemma => kernel_rfl) (by as_aux_lemma => kernel_rfl) (by as_aux_lemma => kernel_rfl) (fun _ _ _ h => h) (Or.inl ⟨by rfl, ?_⟩) (by assumption) ?_
  rotate_left
  · intro w hSw
    try dsimp only at hSw
    go_simp
    try with_reducible rfl
  (try simp only [Act.put, List.setIfInBounds_toArray, List.set_cons_zero, List.set_cons_succ])
  refine wpAnyH_take (i := 6) (oi := { dst := some 77, op := Op.move (Operand.tmp 1), type := 22, pos := "law.go:26", after := #[], guard := none }) (v := ?_) rfl (by as_aux_lemma => kernel_rfl) (by as_aux_lemma => kernel_rfl) (by as_aux_lemma => kernel_rfl) (fun _ _ _ h => h) (Or.inl ⟨by rfl, ?_⟩) (by assumption) ?_
  rotate_left
  · intro w hSw
    try dsimp only at hSw
    go_simp
    try with_reducible rfl
  (try simp only [Act.put, List.setIfInBounds_toArray, List.set_cons_zero, List.set_cons_succ])
  refine wpAnyH_take (i := 7) (oi := { dst := some 78, op := Op.indexAddr 22 (Operand.tmp 77) (Operand.const (Value.int IntKind.i64 0)), type := 0, pos := "law.go:26", after := #[{ on := 6, ground := Ground.data }], guard := none }) (v := ?_) rfl (by as_aux_lemma => kernel_rfl) (by as_aux_lemma => kernel_rfl) (by as_aux_lemma => kernel_rfl) (fun _ _ _ h => h) (Or.inl ⟨by rfl, ?_⟩) (by assumption) ?_
  rotate_left
  · intro w hSw
    try dsimp only at hSw
    go_simp
    try with_reducible rfl
  (try simp only [Act.put, List.setIfInBounds_toArray, List.set_cons_zero, List.set_cons_succ])
  refine wpAnyH_take (i := 8) (oi := { dst := some 79, op := Op.load 34 (Operand.tmp 78), type := 34, pos := "law.go:26", after := #[{ on := 7, ground := Ground.data }], guard := none }) (v := ?_) rfl (by as_aux_lemma => kernel_rfl) (by as_aux_lemma => kernel_rfl) (by as_aux_lemma => kernel_rfl) (fun _ _ _ h => h) (Or.inl ⟨by rfl, ?_⟩) (by assumption) ?_
  rotate_left
  · intro w hSw
    try dsimp only at hSw
    go_simp
    try with_reducible rfl
  (try simp only [Act.put, List.setIfInBounds_toArray, List.set_cons_zero, List.set_cons_succ])
  refine wpAnyH_take (i := 9) (oi := { dst := some 80, op := Op.indexAddr 34 (Operand.tmp 79) (Operand.const (Value.int IntKind.i64 0)), type := 0, pos := "law.go:26", after := #[{ on := 8, ground := Ground.data }], guard := none }) (v := ?_) rfl (by as_aux_lemma => kernel_rfl) (by as_aux_lemma => kernel_rfl) (by as_aux_lemma => kernel_rfl) (fun _ _ _ h => h) (Or.inl ⟨by rfl, ?_⟩) (by assumption) ?_
  rotate_left
  · intro w hSw
    try dsimp only at hSw
    go_simp
    try with_reducible rfl
  (try simp only [Act.put, List.setIfInBounds_toArray, List.set_cons_zero, List.set_cons_succ])
  refine wpAnyH_take (i := 10) (oi := { dst := some 81, op := Op.load 45 (Operand.tmp 80), type := 45, pos := "law.go:26", after := #[{ on := 9, ground := Ground.data }], guard := none }) (v := ?_) rfl (by as_aux_lemma => kernel_rfl) (by as_aux_lemma => kernel_rfl) (by as_aux_lemma => kernel_rfl) (fun _ _ _ h => h) (Or.inl ⟨by rfl, ?_⟩) (by assumption) ?_
  rotate_left
  · intro w hSw
    try dsimp only at hSw
    go_simp
    try with_reducible rfl
  (try simp only [Act.put, List.setIfInBounds_toArray, List.set_cons_zero, List.set_cons_succ])
  refine wpAnyH_take (i := 11) (oi := { dst := some 82, op := Op.move (Operand.tmp 1), type := 22, pos := "law.go:26", after := #[], guard := none }) (v := ?_) rfl (by as_aux_lemma => kernel_rfl) (by as_aux_lemma => kernel_rfl) (by as_aux_lemma => kernel_rfl) (fun _ _ _ h => h) (Or.inl ⟨by rfl, ?_⟩) (by assumption) ?_
  rotate_left
  · intro w hSw
    try dsimp only at hSw
    go_simp
    try with_reducible rfl
  (try simp only [Act.put, List.setIfInBounds_toArray, List.set_cons_zero, List.set_cons_succ])
  refine wpAnyH_take (i := 12) (oi := { dst := some 83, op := Op.indexAddr 22 (Operand.tmp 82) (Operand.const (Value.int IntKind.i64 1)), type := 0, pos := "law.go:26", after := #[{ on := 11, ground := Ground.data }], guard := none }) (v := ?_) rfl (by as_aux_lemma => kernel_rfl) (by as_aux_lemma => kernel_rfl) (by as_aux_lemma => kernel_rfl) (fun _ _ _ h => h) (Or.inl ⟨by rfl, ?_⟩) (by assumption) ?_
  rotate_left
  · intro w hSw
    try dsimp only at hSw
    go_simp
    try with_reducible rfl
  (try simp only [Act.put, List.setIfInBounds_toArray, List.set_cons_zero, List.set_cons_succ])
  refine wpAnyH_take (i := 13) (oi := { dst := some 84, op := Op.load 34 (Operand.tmp 83), type := 34, pos := "law.go:26", after := #[{ on := 12, ground := Ground.data }], guard := none }) (v := ?_) rfl (by as_aux_lemma => kernel_rfl) (by as_aux_lemma => kernel_rfl) (by as_aux_lemma => kernel_rfl) (fun _ _ _ h => h) (Or.inl ⟨by rfl, ?_⟩) (by assumption) ?_
  rotate_left
  · intro w hSw
    try dsimp only at hSw
    go_simp
    try with_reducible rfl
  (try simp only [Act.put, List.setIfInBounds_toArray, List.set_cons_zero, List.set_cons_succ])
  refine wpAnyH_take (i := 14) (oi := { dst := some 85, op := Op.indexAddr 34 (Operand.tmp 84) (Operand.const (Value.int IntKind.i64 1)), type := 0, pos := "law.go:26", after := #[{ on := 13, ground := Ground.data }], guard := none }) (v := ?_) rfl (by as_aux_lemma => kernel_rfl) (by as_aux_lemma => kernel_rfl) (by as_aux_lemma => kernel_rfl) (fun _ _ _ h => h) (Or.inl ⟨by rfl, ?_⟩) (by assumption) ?_
  rotate_left
  · intro w hSw
    try dsimp only at hSw
    go_simp
    try with_reducible rfl
  (try simp only [Act.put, List.setIfInBounds_toArray, List.set_cons_zero, List.set_cons_succ])
  refine wpAnyH_take (i := 15) (oi := { dst := some 86, op := Op.load 45 (Operand.tmp 85), type := 45, pos := "law.go:26", after := #[{ on := 14, ground := Ground.data }], guard := none }) (v := ?_) rfl (by as_aux_lemma => kernel_rfl) (by as_aux_lemma => kernel_rfl) (by as_aux_lemma => kernel_rfl) (fun _ _ _ h => h) (Or.inl ⟨by rfl, ?_⟩) (by assumption) ?_
  rotate_left
  · intro w hSw
    try dsimp only at hSw
    go_simp
    try with_reducible rfl
  (try simp only [Act.put, List.setIfInBounds_toArray, List.set_cons_zero, List.set_cons_succ])
  refine wpAnyH_take (i := 16) (oi := { dst := some 87, op := Op.move (Operand.tmp 1), type := 22, pos := "law.go:26", after := #[], guard := none }) (v := ?_) rfl (by as_aux_lemma => kernel_rfl) (by as_aux_lemma => kernel_rfl) (by as_aux_lemma => kernel_rfl) (fun _ _ _ h => h) (Or.inl ⟨by rfl, ?_⟩) (by assumption) ?_
  rotate_left
  · intro w hSw
    try dsimp only at hSw
    go_simp
    try with_reducible rfl
  (try simp only [Act.put, List.setIfInBounds_toArray, List.set_cons_zero, List.set_cons_succ])
  refine wpAnyH_take (i := 17) (oi := { dst := some 88, op := Op.indexAddr 22 (Operand.tmp 87) (Operand.const (Value.int IntKind.i64 1)), type := 0, pos := "law.go:26", after := #[{ on := 16, ground := Ground.data }], guard := none }) (v := ?_) rfl (by as_aux_lemma => kernel_rfl) (by as_aux_lemma => kernel_rfl) (by as_aux_lemma => kernel_rfl) (fun _ _ _ h => h) (Or.inl ⟨by rfl, ?_⟩) (by assumption) ?_
  rotate_left
  · intro w hSw
    try dsimp only at hSw
    go_simp
    try with_reducible rfl
  (try simp only [Act.put, List.setIfInBounds_toArray, List.set_cons_zero, List.set_cons_succ])
  refine wpAnyH_take (i := 18) (oi := { dst := some 89, op := Op.load 34 (Operand.tmp 88), type := 34, pos := "law.go:26", after := #[{ on := 17, ground := Ground.data }], guard := none }) (v := ?_) rfl (by as_aux_lemma => kernel_rfl) (by as_aux_lemma => kernel_rfl) (by as_aux_lemma => kernel_rfl) (fun _ _ _ h => h) (Or.inl ⟨by rfl, ?_⟩) (by assumption) ?_
  rotate_left
  · intro w hSw
    try dsimp only at hSw
    go_simp
    try with_reducible rfl
  (try simp only [Act.put, List.setIfInBounds_toArray, List.set_cons_zero, List.set_cons_succ])
  refine wpAnyH_take (i := 19) (oi := { dst := some 90, op := Op.indexAddr 34 (Operand.tmp 89) (Operand.const (Value.int IntKind.i64 2)), type := 0, pos := "law.go:26", after := #[{ on := 18, ground := Ground.data }], guard := none }) (v := ?_) rfl (by as_aux_lemma => kernel_rfl) (by as_aux_lemma => kernel_rfl) (by as_aux_lemma => kernel_rfl) (fun _ _ _ h => h) (Or.inl ⟨by rfl, ?_⟩) (by assumption) ?_
  rotate_left
  · intro w hSw
    try dsimp only at hSw
    go_simp
    try with_reducible rfl
  (try simp only [Act.put, List.setIfInBounds_toArray, List.set_cons_zero, List.set_cons_succ])
  refine wpAnyH_take (i := 20) (oi := { dst := some 91, op := Op.load 45 (Operand.tmp 90), type := 45, pos := "law.go:26", after := #[{ on := 19, ground := Ground.data }], guard := none }) (v := ?_) rfl (by as_aux_lemma => kernel_rfl) (by as_aux_lemma => kernel_rfl) (by as_aux_lemma => kernel_rfl) (fun _ _ _ h => h) (Or.inl ⟨by rfl, ?_⟩) (by assumption) ?_
  rotate_left
  · intro w hSw
    try dsimp only at hSw
    go_simp
    try with_reducible rfl
  (try simp only [Act.put, List.setIfInBounds_toArray, List.set_cons_zero, List.set_cons_succ])
  refine wpAnyH_ready (rs := [21]) (by as_aux_lemma => kernel_rfl) (by simp) ?_
  refine AllReadyH.cons (o := { dst := some 92, op := Op.buildSlice 34 4 #[(0, Operand.tmp 76), (1, Operand.tmp 81), (2, Operand.tmp 86), (3, Operand.tmp 91)], type := 34, pos := "law.go:26", after := #[{ on := 5, ground := Ground.data }, { on := 10, ground := Ground.data }, { on := 15, ground := Ground.data }, { on := 20, ground := Ground.data }], guard := none }) rfl (fun K hK => ?_) ?_
  rotate_left
  · exact AllReadyH.nil
  go_simp
  refine hK.out _ _ ?_ (fun hHeld => ?_)
  · (try dsimp only)
    first | with_reducible assumption | with_reducible exact HF.out | with_reducible exact bD HF.out | with_reducible exact bA (by assumption) _ | with_reducible exact bA HF.out _ | with_reducible exact bD (bA HF.out _)
  clear hK K
  (try simp only [Act.put, List.setIfInBounds_toArray, List.set_cons_zero, List.set_cons_succ])
  refine wpAnyH_ready (rs := [22]) (by as_aux_lemma => kernel_rfl) (by simp) ?_
  refine AllReadyH.cons (o := { dst := some 93, op := Op.call { callee := Callee.value (Operand.func 20), args := #[Operand.tmp 71, Operand.tmp 92], argTypes := #[34, 34] }, type := 4, pos := "law.go:26", after := #[{ on := 0, ground := Ground.data }, { on := 21, ground := Ground.data }], guard := none }) rfl (fun K hK => ?_) ?_
  rotate_left
  · exact AllReadyH.nil
  go_simp
  go_at_call 20
  refine (JS1.out _ _ (by first | with_reducible assumption | with_reducible exact HF.out | with_reducible exact bD HF.out | with_reducible exact bA HF.out _ | with_reducible exact bD (bA HF.out _) | with_reducible exact bA (by assumption) _) (by first | exact Below.refl _ _ | exact (Below.refl _ _).drew | assumption)).mono ?_
  rintro e wc0 ⟨rfl, hc0⟩
  (try go_wp2_with fail)
  refine hK.out _ _ ?_ (fun hHeld => ?_)
  · (try dsimp only)
    first | with_reducible assumption | with_reducible exact HF.out | with_reducible exact bD HF.out | with_reducible exact bA (by assumption) _ | with_reducible exact bA HF.out _ | with_reducible exact bD (bA HF.out _)
  clear hK K
  (try simp only [Act.put, List.setIfInBounds_toArray, List.set_cons_zero, List.set_cons_succ])
  refine wpAnyH_take (i := 23) (oi := { dst := some 94, op := Op.move (Operand.tmp 93), type := 4, pos := "law.go:26", after := #[{ on := 22, ground := Ground.data }, { on := 22, ground := Ground.chain }], guard := none }) (v := Value.bool true) rfl (by as_aux_lemma => kernel_rfl) (by as_aux_lemma => kernel_rfl) (by as_aux_lemma => kernel_rfl) (fun _ _ _ h => h) (Or.inl ⟨by rfl, ?_⟩) (by assumption) ?_
  · intro w hSw
    try dsimp only at hSw
    go_simp
    try with_reducible rfl
  (try simp only [Act.put, List.setIfInBounds_toArray, List.set_cons_zero, List.set_cons_succ])
  refine wpAnyH_take (i := 24) (oi := { dst := some 95, op := Op.move (Operand.tmp 3), type := 25, pos := "law.go:26", after := #[{ on := 23, ground := Ground.guard }], guard := some (23, true) }) (v := ?_) rfl (by as_aux_lemma => kernel_rfl) (by as_aux_lemma => kernel_rfl) (by as_aux_lemma => kernel_rfl) (fun _ _ _ h => h) (Or.inl ⟨by rfl, ?_⟩) (by assumption) ?_
  rotate_left
  · intro w hSw
    try dsimp only at hSw
    go_simp
    try with_reducible rfl
  (try simp only [Act.put, List.setIfInBounds_toArray, List.set_cons_zero, List.set_cons_succ])
  refine wpAnyH_ready (rs := [25]) (by as_aux_lemma => kernel_rfl) (by simp) ?_
  refine AllReadyH.cons (o := { dst := some 96, op := Op.buildSlice 25 4 #[(0, Operand.const (Value.int IntKind.i64 1)), (1, Operand.const (Value.int IntKind.i64 0)), (2, Operand.const (Value.int IntKind.i64 1)), (3, Operand.const (Value.int IntKind.i64 1))], type := 25, pos := "law.go:26", after := #[{ on := 23, ground := Ground.guard }], guard := some (23, true) }) rfl (fun K hK => ?_) ?_
  rotate_left
  · exact AllReadyH.nil
  go_simp
  refine hK.out _ _ ?_ (fun hHeld => ?_)
  · (try dsimp only)
    first | with_reducible assumption | with_reducible exact HF.out | with_reducible exact bD HF.out | with_reducible exact bA (by assumption) _ | with_reducible exact bA HF.out _ | with_reducible exact bD (bA HF.out _)
  clear hK K
  (try simp only [Act.put, List.setIfInBounds_toArray, List.set_cons_zero, List.set_cons_succ])
  refine wpAnyH_ready (rs := [26]) (by as_aux_lemma => kernel_rfl) (by simp) ?_
  refine AllReadyH.cons (o := { dst := some 97, op := Op.call { callee := Callee.value (Operand.func 21), args := #[Operand.tmp 95, Operand.tmp 96], argTypes := #[25, 25] }, type := 4, pos := "law.go:26", after := #[{ on := 24, ground := Ground.data }, { on := 25, ground := Ground.data }, { on := 23, ground := Ground.chain }, { on := 23, ground := Ground.guard }], guard := some (23, true) }) rfl (fun K hK => ?_) ?_
  rotate_left
  · exact AllReadyH.nil
  go_simp
  go_at_call 21
  refine (JI1.out _ _ (by first | with_reducible assumption | with_reducible exact HF.out | with_reducible exact bD HF.out | with_reducible exact bA HF.out _ | with_reducible exact bD (bA HF.out _) | with_reducible exact bA (by assumption) _) (by first | exact Below.refl _ _ | exact (Below.refl _ _).drew | assumption)).mono ?_
  rintro e wc1 ⟨rfl, hc1⟩
  (try go_wp2_with fail)
  refine hK.out _ _ ?_ (fun hHeld => ?_)
  · (try dsimp only)
    first | with_reducible assumption | with_reducible exact HF.out | with_reducible exact bD HF.out | with_reducible exact bA (by assumption) _ | with_reducible exact bA HF.out _ | with_reducible exact bD (bA HF.out _)
  clear hK K
  (try simp only [Act.put, List.setIfInBounds_toArray, List.set_cons_zero, List.set_cons_succ])
  refine wpAnyH_take (i := 27) (oi := { dst := some 98, op := Op.pick (Operand.tmp 94) (Operand.tmp 97) (Operand.const (Value.bool false)), type := 4, pos := "law.go:26", after := #[{ on := 23, ground := Ground.data }, { on := 26, ground := Ground.data }], guard := none }) (v := Value.bool true) rfl (by as_aux_lemma => kernel_rfl) (by as_aux_lemma => kernel_rfl) (by as_aux_lemma => kernel_rfl) (fun _ _ _ h => h) (Or.inl ⟨by rfl, ?_⟩) (by assumption) ?_
  · intro w hSw
    try dsimp only at hSw
    go_simp
    try with_reducible rfl
  (try simp only [Act.put, List.setIfInBounds_toArray, List.set_cons_zero, List.set_cons_succ])
  refine wpAnyH_take (i := 28) (oi := { dst := some 99, op := Op.move (Operand.tmp 98), type := 4, pos := "law.go:26", after := #[{ on := 27, ground := Ground.data }, { on := 26, ground := Ground.chain }], guard := none }) (v := Value.bool true) rfl (by as_aux_lemma => kernel_rfl) (by as_aux_lemma => kernel_rfl) (by as_aux_lemma => kernel_rfl) (fun _ _ _ h => h) (Or.inl ⟨by rfl, ?_⟩) (by assumption) ?_
  · intro w hSw
    try dsimp only at hSw
    go_simp
    try with_reducible rfl
  (try simp only [Act.put, List.setIfInBounds_toArray, List.set_cons_zero, List.set_cons_succ])
  refine wpAnyH_take (i := 29) (oi := { dst := some 100, op := Op.move (Operand.tmp 4), type := 31, pos := "law.go:26", after := #[{ on := 28, ground := Ground.guard }], guard := some (28, true) }) (v := ?_) rfl (by as_aux_lemma => kernel_rfl) (by as_aux_lemma => kernel_rfl) (by as_aux_lemma => kernel_rfl) (fun _ _ _ h => h) (Or.inl ⟨by rfl, ?_⟩) (by assumption) ?_
  rotate_left
  · intro w hSw
    try dsimp only at hSw
    go_simp
    try with_reducible rfl
  (try simp only [Act.put, List.setIfInBounds_toArray, List.set_cons_zero, List.set_cons_succ])
  refine wpAnyH_take (i := 30) (oi := { dst := some 101, op := Op.binOp BinOp.eql 31 (Operand.tmp 100) (Operand.const (Value.int IntKind.i64 0)) 31, type := 4, pos := "law.go:26", after := #[{ on := 29, ground := Ground.data }, { on := 28, ground := Ground.guard }], guard := some (28, true) }) (v := Value.bool true) rfl (by as_aux_lemma => kernel_rfl) (by as_aux_lemma => kernel_rfl) (by as_aux_lemma => kernel_rfl) (fun _ _ _ h => h) (Or.inl ⟨by rfl, ?_⟩) (by assumption) ?_
  · intro w hSw
    try dsimp only at hSw
    go_simp
    try with_reducible rfl
  (try simp only [Act.put, List.setIfInBounds_toArray, List.set_cons_zero, List.set_cons_succ])
  refine wpAnyH_take (i := 31) (oi := { dst := some 102, op := Op.pick (Operand.tmp 99) (Operand.tmp 101) (Operand.const (Value.bool false)), type := 4, pos := "law.go:26", after := #[{ on := 28, ground := Ground.data }, { on := 30, ground := Ground.data }], guard := none }) (v := Value.bool true) rfl (by as_aux_lemma => kernel_rfl) (by as_aux_lemma => kernel_rfl) (by as_aux_lemma => kernel_rfl) (fun _ _ _ h => h) (Or.inl ⟨by rfl, ?_⟩) (by assumption) ?_
  · intro w hSw
    try dsimp only at hSw
    go_simp
    try with_reducible rfl
  (try simp only [Act.put, List.setIfInBounds_toArray, List.set_cons_zero, List.set_cons_succ])
  refine wpAnyH_take (i := 32) (oi := { dst := some 103, op := Op.move (Operand.tmp 102), type := 4, pos := "law.go:26", after := #[{ on := 31, ground := Ground.data }, { on := 28, ground := Ground.chain }], guard := none }) (v := Value.bool true) rfl (by as_aux_lemma => kernel_rfl) (by as_aux_lemma => kernel_rfl) (by as_aux_lemma => kernel_rfl) (fun _ _ _ h => h) (Or.inl ⟨by rfl, ?_⟩) (by assumption) ?_
  · intro w hSw
    try dsimp only at hSw
    go_simp
    try with_reducible rfl
  (try simp only [Act.put, List.setIfInBounds_toArray, List.set_cons_zero, List.set_cons_succ])
  refine wpAnyH_take (i := 33) (oi := { dst := some 104, op := Op.move (Operand.tmp 7), type := 31, pos := "law.go:26", after := #[{ on := 32, ground := Ground.guard }], guard := some (32, true) }) (v := ?_) rfl (by as_aux_lemma => kernel_rfl) (by as_aux_lemma => kernel_rfl) (by as_aux_lemma => kernel_rfl) (fun _ _ _ h => h) (Or.inl ⟨by rfl, ?_⟩) (by assumption) ?_
  rotate_left
  · intro w hSw
    try dsimp only at hSw
    go_simp
    try with_reducible rfl
  (try simp only [Act.put, List.setIfInBounds_toArray, List.set_cons_zero, List.set_cons_succ])
  refine wpAnyH_take (i := 34) (oi := { dst := some 105, op := Op.binOp BinOp.eql 31 (Operand.tmp 104) (Operand.const (Value.int IntKind.i64 0)) 31, type := 4, pos := "law.go:26", after := #[{ on := 33, ground := Ground.data }, { on := 32, ground := Ground.guard }], guard := some (32, true) }) (v := Value.bool true) rfl (by as_aux_lemma => kernel_rfl) (by as_aux_lemma => kernel_rfl) (by as_aux_lemma => kernel_rfl) (fun _ _ _ h => h) (Or.inl ⟨by rfl, ?_⟩) (by assumption) ?_
  · intro w hSw
    try dsimp only at hSw
    go_simp
    try with_reducible rfl
  (try simp only [Act.put, List.setIfInBounds_toArray, List.set_cons_zero, List.set_cons_succ])
  refine wpAnyH_take (i := 35) (oi := { dst := some 106, op := Op.pick (Operand.tmp 103) (Operand.tmp 105) (Operand.const (Value.bool false)), type := 4, pos := "law.go:26", after := #[{ on := 32, ground := Ground.data }, { on := 34, ground := Ground.data }], guard := none }) (v := Value.bool true) rfl (by as_aux_lemma => kernel_rfl) (by as_aux_lemma => kernel_rfl) (by as_aux_lemma => kernel_rfl) (fun _ _ _ h => h) (Or.inl ⟨by rfl, ?_⟩) (by assumption) ?_
  · intro w hSw
    try dsimp only at hSw
    go_simp
    try with_reducible rfl
  (try simp only [Act.put, List.setIfInBounds_toArray, List.set_cons_zero, List.set_cons_succ])
  refine wpAnyH_take (i := 36) (oi := { dst := some 107, op := Op.move (Operand.tmp 106), type := 4, pos := "law.go:26", after := #[{ on := 35, ground := Ground.data }, { on := 32, ground := Ground.chain }], guard := none }) (v := Value.bool true) rfl (by as_aux_lemma => kernel_rfl) (by as_aux_lemma => kernel_rfl) (by as_aux_lemma => kernel_rfl) (fun _ _ _ h => h) (Or.inl ⟨by rfl, ?_⟩) (by assumption) ?_
  · intro w hSw
    try dsimp only at hSw
    go_simp
    try with_reducible rfl
  (try simp only [Act.put, List.setIfInBounds_toArray, List.set_cons_zero, List.set_cons_succ])
  refine wpAnyH_take (i := 37) (oi := { dst := some 108, op := Op.load 45 (Operand.tmp 8), type := 45, pos := "law.go:26", after := #[{ on := 36, ground := Ground.guard }], guard := some (36, true) }) (v := ?_) rfl (by as_aux_lemma => kernel_rfl) (by as_aux_lemma => kernel_rfl) (by as_aux_lemma => kernel_rfl) (fun _ _ _ h => h) (Or.inl ⟨by rfl, ?_⟩) (by assumption) ?_
  rotate_left
  · intro w hSw
    try dsimp only at hSw
    go_simp
    try with_reducible rfl
  (try simp only [Act.put, List.setIfInBounds_toArray, List.set_cons_zero, List.set_cons_succ])
  refine wpAnyH_take (i := 38) (oi := { dst := some 109, op := Op.move (Operand.tmp 1), type := 22, pos := "law.go:26", after := #[{ on := 36, ground := Ground.guard }], guard := some (36, true) }) (v := ?_) rfl (by as_aux_lemma => kernel_rfl) (by as_aux_lemma => kernel_rfl) (by as_aux_lemma => kernel_rfl) (fun _ _ _ h => h) (Or.inl ⟨by rfl, ?_⟩) (by assumption) ?_
  rotate_left
  · intro w hSw
    try dsimp only at hSw
    go_simp
    try with_reducible rfl
  (try simp only [Act.put, List.setIfInBounds_toArray, List.set_cons_zero, List.set_cons_succ])
  refine wpAnyH_take (i := 39) (oi := { dst := some 110, op := Op.indexAddr 22 (Operand.tmp 109) (Operand.const (Value.int IntKind.i64 1)), type := 0, pos := "law.go:26", after := #[{ on := 38, ground := Ground.data }, { on := 36, ground := Ground.guard }], guard := some (36, true) }) (v := ?_) rfl (by as_aux_lemma => kernel_rfl) (by as_aux_lemma => kernel_rfl) (by as_aux_lemma => kernel_rfl) (fun _ _ _ h => h) (Or.inl ⟨by rfl, ?_⟩) (by assumption) ?_
  rotate_left
  · intro w hSw
    try dsimp only at hSw
    go_simp
    try with_reducible rfl
  (try simp only [Act.put, List.setIfInBounds_toArray, List.set_cons_zero, List.set_cons_succ])
  refine wpAnyH_take (i := 40) (oi := { dst := some 111, op := Op.load 34 (Operand.tmp 110), type := 34, pos := "law.go:26", after := #[{ on := 39, ground := Ground.data }, { on := 36, ground := Ground.guard }], guard := some (36, true) }) (v := ?_) rfl (by as_aux_lemma => kernel_rfl) (by as_aux_lemma => kernel_rfl) (by as_aux_lemma => kernel_rfl) (fun _ _ _ h => h) (Or.inl ⟨by rfl, ?_⟩) (by assumption) ?_
  rotate_left
  · intro w hSw
    try dsimp only at hSw
    go_simp
    try with_reducible rfl
  (try simp only [Act.put, List.setIfInBounds_toArray, List.set_cons_zero, List.set_cons_succ])
  refine wpAnyH_take (i := 41) (oi := { dst := some 112, op := Op.indexAddr 34 (Operand.tmp 111) (Operand.const (Value.int IntKind.i64 0)), type := 0, pos := "law.go:26", after := #[{ on := 40, ground := Ground.data }, { on := 36, ground := Ground.guard }], guard := some (36, true) }) (v := ?_) rfl (by as_aux_lemma => kernel_rfl) (by as_aux_lemma => kernel_rfl) (by as_aux_lemma => kernel_rfl) (fun _ _ _ h => h) (Or.inl ⟨by rfl, ?_⟩) (by assumption) ?_
  rotate_left
  · intro w hSw
    try dsimp only at hSw
    go_simp
    try with_reducible rfl
  (try simp only [Act.put, List.setIfInBounds_toArray, List.set_cons_zero, List.set_cons_succ])
  refine wpAnyH_take (i := 42) (oi := { dst := some 113, op := Op.load 45 (Operand.tmp 112), type := 45, pos := "law.go:26", after := #[{ on := 41, ground := Ground.data }, { on := 36, ground := Ground.guard }], guard := some (36, true) }) (v := ?_) rfl (by as_aux_lemma => kernel_rfl) (by as_aux_lemma => kernel_rfl) (by as_aux_lemma => kernel_rfl) (fun _ _ _ h => h) (Or.inl ⟨by rfl, ?_⟩) (by assumption) ?_
  rotate_left
  · intro w hSw
    try dsimp only at hSw
    go_simp
    try with_reducible rfl
  (try simp only [Act.put, List.setIfInBounds_toArray, List.set_cons_zero, List.set_cons_succ])
  refine wpAnyH_take (i := 43) (oi := { dst := some 114, op := Op.binOp BinOp.eql 45 (Operand.tmp 108) (Operand.tmp 113) 45, type := 4, pos := "law.go:26", after := #[{ on := 37, ground := Ground.data }, { on := 42, ground := Ground.data }, { on := 36, ground := Ground.guard }], guard := some (36, true) }) (v := Value.bool true) rfl (by as_aux_lemma => kernel_rfl) (by as_aux_lemma => kernel_rfl) (by as_aux_lemma => kernel_rfl) (fun _ _ _ h => h) (Or.inl ⟨by rfl, ?_⟩) (by assumption) ?_
  · intro w hSw
    try dsimp only at hSw
    go_simp
    try with_reducible rfl
  (try simp only [Act.put, List.setIfInBounds_toArray, List.set_cons_zero, List.set_cons_succ])
  refine wpAnyH_take (i := 44) (oi := { dst := some 115, op := Op.pick (Operand.tmp 107) (Operand.tmp 114) (Operand.const (Value.bool false)), type := 4, pos := "law.go:26", after := #[{ on := 36, ground := Ground.data }, { on := 43, ground := Ground.data }], guard := none }) (v := Value.bool true) rfl (by as_aux_lemma => kernel_rfl) (by as_aux_lemma => kernel_rfl) (by as_aux_lemma => kernel_rfl) (fun _ _ _ h => h) (Or.inl ⟨by rfl, ?_⟩) (by assumption) ?_
  · intro w hSw
    try dsimp only at hSw
    go_simp
    try with_reducible rfl
  (try simp only [Act.put, List.setIfInBounds_toArray, List.set_cons_zero, List.set_cons_succ])
  refine wpAnyH_take (i := 45) (oi := { dst := some 116, op := Op.move (Operand.tmp 115), type := 4, pos := "law.go:26", after := #[{ on := 44, ground := Ground.data }, { on := 36, ground := Ground.chain }], guard := none }) (v := Value.bool true) rfl (by as_aux_lemma => kernel_rfl) (by as_aux_lemma => kernel_rfl) (by as_aux_lemma => kernel_rfl) (fun _ _ _ h => h) (Or.inl ⟨by rfl, ?_⟩) (by assumption) ?_
  · intro w hSw
    try dsimp only at hSw
    go_simp
    try with_reducible rfl
  (try simp only [Act.put, List.setIfInBounds_toArray, List.set_cons_zero, List.set_cons_succ])
  refine wpAnyH_take (i := 46) (oi := { dst := some 117, op := Op.move (Operand.tmp 9), type := 3, pos := "law.go:26", after := #[{ on := 45, ground := Ground.guard }], guard := some (45, true) }) (v := ?_) rfl (by as_aux_lemma => kernel_rfl) (by as_aux_lemma => kernel_rfl) (by as_aux_lemma => kernel_rfl) (fun _ _ _ h => h) (Or.inl ⟨by rfl, ?_⟩) (by assumption) ?_
  rotate_left
  · intro w hSw
    try dsimp only at hSw
    go_simp
    try with_reducible rfl
  (try simp only [Act.put, List.setIfInBounds_toArray, List.set_cons_zero, List.set_cons_succ])
  refine wpAnyH_take (i := 47) (oi := { dst := some 118, op := Op.binOp BinOp.eql 3 (Operand.tmp 117) (Operand.const (Value.int IntKind.i64 1)) 3, type := 4, pos := "law.go:26", after := #[{ on := 46, ground := Ground.data }, { on := 45, ground := Ground.guard }], guard := some (45, true) }) (v := Value.bool true) rfl (by as_aux_lemma => kernel_rfl) (by as_aux_lemma => kernel_rfl) (by as_aux_lemma => kernel_rfl) (fun _ _ _ h => h) (Or.inl ⟨by rfl, ?_⟩) (by assumption) ?_
  · intro w hSw
    try dsimp only at hSw
    go_simp
    try with_reducible rfl
  (try simp only [Act.put, List.setIfInBounds_toArray, List.set_cons_zero, List.set_cons_succ])
  refine wpAnyH_take (i := 48) (oi := { dst := some 119, op := Op.pick (Operand.tmp 116) (Operand.tmp 118) (Operand.const (Value.bool false)), type := 4, pos := "law.go:26", after := #[{ on := 45, ground := Ground.data }, { on := 47, ground := Ground.data }], guard := none }) (v := Value.bool true) rfl (by as_aux_lemma => kernel_rfl) (by as_aux_lemma => kernel_rfl) (by as_aux_lemma => kernel_rfl) (fun _ _ _ h => h) (Or.inl ⟨by rfl, ?_⟩) (by assumption) ?_
  · intro w hSw
    try dsimp only at hSw
    go_simp
    try with_reducible rfl
  (try simp only [Act.put, List.setIfInBounds_toArray, List.set_cons_zero, List.set_cons_succ])
  refine wpAnyH_take (i := 49) (oi := { dst := some 120, op := Op.move (Operand.tmp 119), type := 4, pos := "law.go:26", after := #[{ on := 48, ground := Ground.data }, { on := 45, ground := Ground.chain }], guard := none }) (v := Value.bool true) rfl (by as_aux_lemma => kernel_rfl) (by as_aux_lemma => kernel_rfl) (by as_aux_lemma => kernel_rfl) (fun _ _ _ h => h) (Or.inl ⟨by rfl, ?_⟩) (by assumption) ?_
  · intro w hSw
    try dsimp only at hSw
    go_simp
    try with_reducible rfl
  (try simp only [Act.put, List.setIfInBounds_toArray, List.set_cons_zero, List.set_cons_succ])
  refine wpAnyH_take (i := 50) (oi := { dst := some 121, op := Op.move (Operand.tmp 10), type := 31, pos := "law.go:26", after := #[{ on := 49, ground := Ground.guard }], guard := some (49, true) }) (v := ?_) rfl (by as_aux_lemma => kernel_rfl) (by as_aux_lemma => kernel_rfl) (by as_aux_lemma => kernel_rfl) (fun _ _ _ h => h) (Or.inl ⟨by rfl, ?_⟩) (by assumption) ?_
  rotate_left
  · intro w hSw
    try dsimp only at hSw
    go_simp
    try with_reducible rfl
  (try simp only [Act.put, List.setIfInBounds_toArray, List.set_cons_zero, List.set_cons_succ])
  refine wpAnyH_take (i := 51) (oi := { dst := some 122, op := Op.binOp BinOp.eql 31 (Operand.tmp 121) (Operand.const (Value.int IntKind.i64 0)) 31, type := 4, pos := "law.go:26", after := #[{ on := 50, ground := Ground.data }, { on := 49, ground := Ground.guard }], guard := some (49, true) }) (v := Value.bool true) rfl (by as_aux_lemma => kernel_rfl) (by as_aux_lemma => kernel_rfl) (by as_aux_lemma => kernel_rfl) (fun _ _ _ h => h) (Or.inl ⟨by rfl, ?_⟩) (by assumption) ?_
  · intro w hSw
    try dsimp only at hSw
    go_simp
    try with_reducible rfl
  (try simp only [Act.put, List.setIfInBounds_toArray, List.set_cons_zero, List.set_cons_succ])
  refine wpAnyH_take (i := 52) (oi := { dst := some 123, op := Op.pick (Operand.tmp 120) (Operand.tmp 122) (Operand.const (Value.bool false)), type := 4, pos := "law.go:26", after := #[{ on := 49, ground := Ground.data }, { on := 51, ground := Ground.data }], guard := none }) (v := Value.bool true) rfl (by as_aux_lemma => kernel_rfl) (by as_aux_lemma => kernel_rfl) (by as_aux_lemma => kernel_rfl) (fun _ _ _ h => h) (Or.inl ⟨by rfl, ?_⟩) (by assumption) ?_
  · intro w hSw
    try dsimp only at hSw
    go_simp
    try with_reducible rfl
  (try simp only [Act.put, List.setIfInBounds_toArray, List.set_cons_zero, List.set_cons_succ])
  refine wpAnyH_take (i := 53) (oi := { dst := some 124, op := Op.move (Operand.tmp 123), type := 4, pos := "law.go:26", after := #[{ on := 52, ground := Ground.data }, { on := 49, ground := Ground.chain }], guard := none }) (v := Value.bool true) rfl (by as_aux_lemma => kernel_rfl) (by as_aux_lemma => kernel_rfl) (by as_aux_lemma => kernel_rfl) (fun _ _ _ h => h) (Or.inl ⟨by rfl, ?_⟩) (by assumption) ?_
  · intro w hSw
    try dsimp only at hSw
    go_simp
    try with_reducible rfl
  (try simp only [Act.put, List.setIfInBounds_toArray, List.set_cons_zero, List.set_cons_succ])
  refine wpAnyH_take (i := 54) (oi := { dst := some 125, op := Op.fieldAddr 30 (Operand.tmp 11) 1, type := 0, pos := "law.go:26", after := #[{ on := 53, ground := Ground.guard }], guard := some (53, true) }) (v := ?_) rfl (by as_aux_lemma => kernel_rfl) (by as_aux_lemma => kernel_rfl) (by as_aux_lemma => kernel_rfl) (fun _ _ _ h => h) (Or.inl ⟨by rfl, ?_⟩) (by assumption) ?_
  rotate_left
  · intro w hSw
    try dsimp only at hSw
    go_simp
    try with_reducible rfl
  (try simp only [Act.put, List.setIfInBounds_toArray, List.set_cons_zero, List.set_cons_succ])
  refine wpAnyH_take (i := 55) (oi := { dst := some 126, op := Op.load 25 (Operand.tmp 125), type := 25, pos := "law.go:26", after := #[{ on := 54, ground := Ground.data }, { on := 53, ground := Ground.guard }], guard := some (53, true) }) (v := ?_) rfl (by as_aux_lemma => kernel_rfl) (by as_aux_lemma => kernel_rfl) (by as_aux_lemma => kernel_rfl) (fun _ _ _ h => h) (Or.inl ⟨by rfl, ?_⟩) (by assumption) ?_
  rotate_left
  · intro w hSw
    try dsimp only at hSw
    go_simp
    try with_reducible rfl
  (try simp only [Act.put, List.setIfInBounds_toArray, List.set_cons_zero, List.set_cons_succ])
  refine wpAnyH_ready (rs := [56]) (by as_aux_lemma => kernel_rfl) (by simp) ?_
  refine AllReadyH.cons (o := { dst := some 127, op := Op.buildSlice 25 2 #[(0, Operand.const (Value.int IntKind.i64 1)), (1, Operand.const (Value.int IntKind.i64 2))], type := 25, pos := "law.go:26", after := #[{ on := 53, ground := Ground.guard }], guard := some (53, true) }) rfl (fun K hK => ?_) ?_
  rotate_left
  · exact AllReadyH.nil
  go_simp
  refine hK.out _ _ ?_ (fun hHeld => ?_)
  · (try dsimp only)
    first | with_reducible assumption | with_reducible exact HF.out | with_reducible exact bD HF.out | with_reducible exact bA (by assumption) _ | with_reducible exact bA HF.out _ | with_reducible exact bD (bA HF.out _)
  clear hK K
  (try simp only [Act.put, List.setIfInBounds_toArray, List.set_cons_zero, List.set_cons_succ])
  refine wpAnyH_ready (rs := [57]) (by as_aux_lemma => kernel_rfl) (by simp) ?_
  refine AllReadyH.cons (o := { dst := some 128, op := Op.call { callee := Callee.value (Operand.func 21), args := #[Operand.tmp 126, Operand.tmp 127], argTypes := #[25, 25] }, type := 4, pos := "law.go:26", after := #[{ on := 55, ground := Ground.data }, { on := 56, ground := Ground.data }, { on := 53, ground := Ground.chain }, { on := 53, ground := Ground.guard }], guard := some (53, true) }) rfl (fun K hK => ?_) ?_
  rotate_left
  · exact AllReadyH.nil
  go_simp
  go_at_call 21
  refine (JI2.out _ _ (by first | with_reducible assumption | with_reducible exact HF.out | with_reducible exact bD HF.out | with_reducible exact bA HF.out _ | with_reducible exact bD (bA HF.out _) | with_reducible exact bA (by assumption) _) (by first | exact Below.refl _ _ | exact (Below.refl _ _).drew | assumption)).mono ?_
  rintro e wc2 ⟨rfl, hc2⟩
  (try go_wp2_with fail)
  refine hK.out _ _ ?_ (fun hHeld => ?_)
  · (try dsimp only)
    first | with_reducible assumption | with_reducible exact HF.out | with_reducible exact bD HF.out | with_reducible exact bA (by assumption) _ | with_reducible exact bA HF.out _ | with_reducible exact bD (bA HF.out _)
  clear hK K
  (try simp only [Act.put, List.setIfInBounds_toArray, List.set_cons_zero, List.set_cons_succ])
  refine wpAnyH_take (i := 58) (oi := { dst := some 129, op := Op.pick (Operand.tmp 124) (Operand.tmp 128) (Operand.const (Value.bool false)), type := 4, pos := "law.go:26", after := #[{ on := 53, ground := Ground.data }, { on := 57, ground := Ground.data }], guard := none }) (v := Value.bool true) rfl (by as_aux_lemma => kernel_rfl) (by as_aux_lemma => kernel_rfl) (by as_aux_lemma => kernel_rfl) (fun _ _ _ h => h) (Or.inl ⟨by rfl, ?_⟩) (by assumption) ?_
  · intro w hSw
    try dsimp only at hSw
    go_simp
    try with_reducible rfl
  (try simp only [Act.put, List.setIfInBounds_toArray, List.set_cons_zero, List.set_cons_succ])
  refine wpAnyH_take (i := 59) (oi := { dst := some 130, op := Op.move (Operand.tmp 129), type := 4, pos := "law.go:26", after := #[{ on := 58, ground := Ground.data }, { on := 57, ground := Ground.chain }], guard := none }) (v := Value.bool true) rfl (by as_aux_lemma => kernel_rfl) (by as_aux_lemma => kernel_rfl) (by as_aux_lemma => kernel_rfl) (fun _ _ _ h => h) (Or.inl ⟨by rfl, ?_⟩) (by assumption) ?_
  · intro w hSw
    try dsimp only at hSw
    go_simp
    try with_reducible rfl
  (try simp only [Act.put, List.setIfInBounds_toArray, List.set_cons_zero, List.set_cons_succ])
  refine wpAnyH_take (i := 60) (oi := { dst := some 131, op := Op.move (Operand.tmp 12), type := 31, pos := "law.go:26", after := #[{ on := 59, ground := Ground.guard }], guard := some (59, true) }) (v := ?_) rfl (by as_aux_lemma => kernel_rfl) (by as_aux_lemma => kernel_rfl) (by as_aux_lemma => kernel_rfl) (fun _ _ _ h => h) (Or.inl ⟨by rfl, ?_⟩) (by assumption) ?_
  rotate_left
  · intro w hSw
    try dsimp only at hSw
    go_simp
    try with_reducible rfl
  (try simp only [Act.put, List.setIfInBounds_toArray, List.set_cons_zero, List.set_cons_succ])
  refine wpAnyH_take (i := 61) (oi := { dst := some 132, op := Op.binOp BinOp.eql 31 (Operand.tmp 131) (Operand.const (Value.int IntKind.i64 0)) 31, type := 4, pos := "law.go:26", after := #[{ on := 60, ground := Ground.data }, { on := 59, ground := Ground.guard }], guard := some (59, true) }) (v := Value.bool true) rfl (by as_aux_lemma => kernel_rfl) (by as_aux_lemma => kernel_rfl) (by as_aux_lemma => kernel_rfl) (fun _ _ _ h => h) (Or.inl ⟨by rfl, ?_⟩) (by assumption) ?_
  · intro w hSw
    try dsimp only at hSw
    go_simp
    try with_reducible rfl
  (try simp only [Act.put, List.setIfInBounds_toArray, List.set_cons_zero, List.set_cons_succ])
  refine wpAnyH_take (i := 62) (oi := { dst := some 133, op := Op.pick (Operand.tmp 130) (Operand.tmp 132) (Operand.const (Value.bool false)), type := 4, pos := "law.go:26", after := #[{ on := 59, ground := Ground.data }, { on := 61, ground := Ground.data }], guard := none }) (v := Value.bool true) rfl (by as_aux_lemma => kernel_rfl) (by as_aux_lemma => kernel_rfl) (by as_aux_lemma => kernel_rfl) (fun _ _ _ h => h) (Or.inl ⟨by rfl, ?_⟩) (by assumption) ?_
  · intro w hSw
    try dsimp only at hSw
    go_simp
    try with_reducible rfl
  (try simp only [Act.put, List.setIfInBounds_toArray, List.set_cons_zero, List.set_cons_succ])
  refine wpAnyH_take (i := 63) (oi := { dst := some 134, op := Op.move (Operand.tmp 133), type := 4, pos := "law.go:26", after := #[{ on := 62, ground := Ground.data }, { on := 59, ground := Ground.chain }], guard := none }) (v := Value.bool true) rfl (by as_aux_lemma => kernel_rfl) (by as_aux_lemma => kernel_rfl) (by as_aux_lemma => kernel_rfl) (fun _ _ _ h => h) (Or.inl ⟨by rfl, ?_⟩) (by assumption) ?_
  · intro w hSw
    try dsimp only at hSw
    go_simp
    try with_reducible rfl
  (try simp only [Act.put, List.setIfInBounds_toArray, List.set_cons_zero, List.set_cons_succ])
  refine wpAnyH_take (i := 64) (oi := { dst := some 135, op := Op.load 45 (Operand.tmp 13), type := 45, pos := "law.go:26", after := #[{ on := 63, ground := Ground.guard }], guard := some (63, true) }) (v := ?_) rfl (by as_aux_lemma => kernel_rfl) (by as_aux_lemma => kernel_rfl) (by as_aux_lemma => kernel_rfl) (fun _ _ _ h => h) (Or.inl ⟨by rfl, ?_⟩) (by assumption) ?_
  rotate_left
  · intro w hSw
    try dsimp only at hSw
    go_simp
    try with_reducible rfl
  (try simp only [Act.put, List.setIfInBounds_toArray, List.set_cons_zero, List.set_cons_succ])
  refine wpAnyH_take (i := 65) (oi := { dst := some 136, op := Op.move (Operand.tmp 1), type := 22, pos := "law.go:26", after := #[{ on := 63, ground := Ground.guard }], guard := some (63, true) }) (v := ?_) rfl (by as_aux_lemma => kernel_rfl) (by as_aux_lemma => kernel_rfl) (by as_aux_lemma => kernel_rfl) (fun _ _ _ h => h) (Or.inl ⟨by rfl, ?_⟩) (by assumption) ?_
  rotate_left
  · intro w hSw
    try dsimp only at hSw
    go_simp
    try with_reducible rfl
  (try simp only [Act.put, List.setIfInBounds_toArray, List.set_cons_zero, List.set_cons_succ])
  refine wpAnyH_take (i := 66) (oi := { dst := some 137, op := Op.indexAddr 22 (Operand.tmp 136) (Operand.const (Value.int IntKind.i64 1)), type := 0, pos := "law.go:26", after := #[{ on := 65, ground := Ground.data }, { on := 63, ground := Ground.guard }], guard := some (63, true) }) (v := ?_) rfl (by as_aux_lemma => kernel_rfl) (by as_aux_lemma => kernel_rfl) (by as_aux_lemma => kernel_rfl) (fun _ _ _ h => h) (Or.inl ⟨by rfl, ?_⟩) (by assumption) ?_
  rotate_left
  · intro w hSw
    try dsimp only at hSw
    go_simp
    try with_reducible rfl
  (try simp only [Act.put, List.setIfInBounds_toArray, List.set_cons_zero, List.set_cons_succ])
  refine wpAnyH_take (i := 67) (oi := { dst := some 138, op := Op.load 34 (Operand.tmp 137), type := 34, pos := "law.go:26", after := #[{ on := 66, ground := Ground.data }, { on := 63, ground := Ground.guard }], guard := some (63, true) }) (v := ?_) rfl (by as_aux_lemma => kernel_rfl) (by as_aux_lemma => kernel_rfl) (by as_aux_lemma => kernel_rfl) (fun _ _ _ h => h) (Or.inl ⟨by rfl, ?_⟩) (by assumption) ?_
  rotate_left
  · intro w hSw
    try dsimp only at hSw
    go_simp
    try with_reducible rfl
  (try simp only [Act.put, List.setIfInBounds_toArray, List.set_cons_zero, List.set_cons_succ])
  refine wpAnyH_take (i := 68) (oi := { dst := some 139, op := Op.indexAddr 34 (Operand.tmp 138) (Operand.const (Value.int IntKind.i64 2)), type := 0, pos := "law.go:26", after := #[{ on := 67, ground := Ground.data }, { on := 63, ground := Ground.guard }], guard := some (63, true) }) (v := ?_) rfl (by as_aux_lemma => kernel_rfl) (by as_aux_lemma => kernel_rfl) (by as_aux_lemma => kernel_rfl) (fun _ _ _ h => h) (Or.inl ⟨by rfl, ?_⟩) (by assumption) ?_
  rotate_left
  · intro w hSw
    try dsimp only at hSw
    go_simp
    try with_reducible rfl
  (try simp only [Act.put, List.setIfInBounds_toArray, List.set_cons_zero, List.set_cons_succ])
  refine wpAnyH_take (i := 69) (oi := { dst := some 140, op := Op.load 45 (Operand.tmp 139), type := 45, pos := "law.go:26", after := #[{ on := 68, ground := Ground.data }, { on := 63, ground := Ground.guard }], guard := some (63, true) }) (v := ?_) rfl (by as_aux_lemma => kernel_rfl) (by as_aux_lemma => kernel_rfl) (by as_aux_lemma => kernel_rfl) (fun _ _ _ h => h) (Or.inl ⟨by rfl, ?_⟩) (by assumption) ?_
  rotate_left
  · intro w hSw
    try dsimp only at hSw
    go_simp
    try with_reducible rfl
  (try simp only [Act.put, List.setIfInBounds_toArray, List.set_cons_zero, List.set_cons_succ])
  refine wpAnyH_take (i := 70) (oi := { dst := some 141, op := Op.binOp BinOp.eql 45 (Operand.tmp 135) (Operand.tmp 140) 45, type := 4, pos := "law.go:26", after := #[{ on := 64, ground := Ground.data }, { on := 69, ground := Ground.data }, { on := 63, ground := Ground.guard }], guard := some (63, true) }) (v := Value.bool true) rfl (by as_aux_lemma => kernel_rfl) (by as_aux_lemma => kernel_rfl) (by as_aux_lemma => kernel_rfl) (fun _ _ _ h => h) (Or.inl ⟨by rfl, ?_⟩) (by assumption) ?_
  · intro w hSw
    try dsimp only at hSw
    go_simp
    try with_reducible rfl
  (try simp only [Act.put, List.setIfInBounds_toArray, List.set_cons_zero, List.set_cons_succ])
  refine wpAnyH_take (i := 71) (oi := { dst := some 142, op := Op.pick (Operand.tmp 134) (Operand.tmp 141) (Operand.const (Value.bool false)), type := 4, pos := "law.go:26", after := #[{ on := 63, ground := Ground.data }, { on := 70, ground := Ground.data }], guard := none }) (v := Value.bool true) rfl (by as_aux_lemma => kernel_rfl) (by as_aux_lemma => kernel_rfl) (by as_aux_lemma => kernel_rfl) (fun _ _ _ h => h) (Or.inl ⟨by rfl, ?_⟩) (by assumption) ?_
  · intro w hSw
    try dsimp only at hSw
    go_simp
    try with_reducible rfl
  (try simp only [Act.put, List.setIfInBounds_toArray, List.set_cons_zero, List.set_cons_succ])
  refine wpAnyH_take (i := 72) (oi := { dst := some 143, op := Op.move (Operand.tmp 142), type := 4, pos := "law.go:26", after := #[{ on := 71, ground := Ground.data }, { on := 63, ground := Ground.chain }], guard := none }) (v := Value.bool true) rfl (by as_aux_lemma => kernel_rfl) (by as_aux_lemma => kernel_rfl) (by as_aux_lemma => kernel_rfl) (fun _ _ _ h => h) (Or.inl ⟨by rfl, ?_⟩) (by assumption) ?_
  · intro w hSw
    try dsimp only at hSw
    go_simp
    try with_reducible rfl
  (try simp only [Act.put, List.setIfInBounds_toArray, List.set_cons_zero, List.set_cons_succ])
  refine wpAnyH_take (i := 73) (oi := { dst := some 144, op := Op.move (Operand.tmp 14), type := 3, pos := "law.go:26", after := #[{ on := 72, ground := Ground.guard }], guard := some (72, true) }) (v := ?_) rfl (by as_aux_lemma => kernel_rfl) (by as_aux_lemma => kernel_rfl) (by as_aux_lemma => kernel_rfl) (fun _ _ _ h => h) (Or.inl ⟨by rfl, ?_⟩) (by assumption) ?_
  rotate_left
  · intro w hSw
    try dsimp only at hSw
    go_simp
    try with_reducible rfl
  (try simp only [Act.put, List.setIfInBounds_toArray, List.set_cons_zero, List.set_cons_succ])
  refine wpAnyH_take (i := 74) (oi := { dst := some 145, op := Op.binOp BinOp.eql 3 (Operand.tmp 144) (Operand.const (Value.int IntKind.i64 1)) 3, type := 4, pos := "law.go:26", after := #[{ on := 73, ground := Ground.data }, { on := 72, ground := Ground.guard }], guard := some (72, true) }) (v := Value.bool true) rfl (by as_aux_lemma => kernel_rfl) (by as_aux_lemma => kernel_rfl) (by as_aux_lemma => kernel_rfl) (fun _ _ _ h => h) (Or.inl ⟨by rfl, ?_⟩) (by assumption) ?_
  · intro w hSw
    try dsimp only at hSw
    go_simp
    try with_reducible rfl
  (try simp only [Act.put, List.setIfInBounds_toArray, List.set_cons_zero, List.set_cons_succ])
  refine wpAnyH_take (i := 75) (oi := { dst := some 146, op := Op.pick (Operand.tmp 143) (Operand.tmp 145) (Operand.const (Value.bool false)), type := 4, pos := "law.go:26", after := #[{ on := 72, ground := Ground.data }, { on := 74, ground := Ground.data }], guard := none }) (v := Value.bool true) rfl (by as_aux_lemma => kernel_rfl) (by as_aux_lemma => kernel_rfl) (by as_aux_lemma => kernel_rfl) (fun _ _ _ h => h) (Or.inl ⟨by rfl, ?_⟩) (by assumption) ?_
  · intro w hSw
    try dsimp only at hSw
    go_simp
    try with_reducible rfl
  (try simp only [Act.put, List.setIfInBounds_toArray, List.set_cons_zero, List.set_cons_succ])
  refine wpAnyH_take (i := 76) (oi := { dst := some 147, op := Op.move (Operand.tmp 146), type := 4, pos := "law.go:26", after := #[{ on := 75, ground := Ground.data }, { on := 72, ground := Ground.chain }], guard := none }) (v := Value.bool true) rfl (by as_aux_lemma => kernel_rfl) (by as_aux_lemma => kernel_rfl) (by as_aux_lemma => kernel_rfl) (fun _ _ _ h => h) (Or.inl ⟨by rfl, ?_⟩) (by assumption) ?_
  · intro w hSw
    try dsimp only at hSw
    go_simp
    try with_reducible rfl
  (try simp only [Act.put, List.setIfInBounds_toArray, List.set_cons_zero, List.set_cons_succ])
  refine wpAnyH_take (i := 77) (oi := { dst := some 148, op := Op.move (Operand.tmp 16), type := 31, pos := "law.go:26", after := #[{ on := 76, ground := Ground.guard }], guard := some (76, true) }) (v := ?_) rfl (by as_aux_lemma => kernel_rfl) (by as_aux_lemma => kernel_rfl) (by as_aux_lemma => kernel_rfl) (fun _ _ _ h => h) (Or.inl ⟨by rfl, ?_⟩) (by assumption) ?_
  rotate_left
  · intro w hSw
    try dsimp only at hSw
    go_simp
    try with_reducible rfl
  (try simp only [Act.put, List.setIfInBounds_toArray, List.set_cons_zero, List.set_cons_succ])
  refine wpAnyH_take (i := 78) (oi := { dst := some 149, op := Op.binOp BinOp.eql 31 (Operand.tmp 148) (Operand.const (Value.int IntKind.i64 0)) 31, type := 4, pos := "law.go:26", after := #[{ on := 77, ground := Ground.data }, { on := 76, ground := Ground.guard }], guard := some (76, true) }) (v := Value.bool true) rfl (by as_aux_lemma => kernel_rfl) (by as_aux_lemma => kernel_rfl) (by as_aux_lemma => kernel_rfl) (fun _ _ _ h => h) (Or.inl ⟨by rfl, ?_⟩) (by assumption) ?_
  · intro w hSw
    try dsimp only at hSw
    go_simp
    try with_reducible rfl
  (try simp only [Act.put, List.setIfInBounds_toArray, List.set_cons_zero, List.set_cons_succ])
  refine wpAnyH_take (i := 79) (oi := { dst := some 150, op := Op.pick (Operand.tmp 147) (Operand.tmp 149) (Operand.const (Value.bool false)), type := 4, pos := "law.go:26", after := #[{ on := 76, ground := Ground.data }, { on := 78, ground := Ground.data }], guard := none }) (v := Value.bool true) rfl (by as_aux_lemma => kernel_rfl) (by as_aux_lemma => kernel_rfl) (by as_aux_lemma => kernel_rfl) (fun _ _ _ h => h) (Or.inl ⟨by rfl, ?_⟩) (by assumption) ?_
  · intro w hSw
    try dsimp only at hSw
    go_simp
    try with_reducible rfl
  (try simp only [Act.put, List.setIfInBounds_toArray, List.set_cons_zero, List.set_cons_succ])
  refine wpAnyH_take (i := 80) (oi := { dst := some 151, op := Op.move (Operand.tmp 150), type := 4, pos := "law.go:26", after := #[{ on := 79, ground := Ground.data }, { on := 76, ground := Ground.chain }], guard := none }) (v := Value.bool true) rfl (by as_aux_lemma => kernel_rfl) (by as_aux_lemma => kernel_rfl) (by as_aux_lemma => kernel_rfl) (fun _ _ _ h => h) (Or.inl ⟨by rfl, ?_⟩) (by assumption) ?_
  · intro w hSw
    try dsimp only at hSw
    go_simp
    try with_reducible rfl
  (try simp only [Act.put, List.setIfInBounds_toArray, List.set_cons_zero, List.set_cons_succ])
  refine wpAnyH_take (i := 81) (oi := { dst := some 152, op := Op.move (Operand.tmp 19), type := 31, pos := "law.go:26", after := #[{ on := 80, ground := Ground.guard }], guard := some (80, true) }) (v := ?_) rfl (by as_aux_lemma => kernel_rfl) (by as_aux_lemma => kernel_rfl) (by as_aux_lemma => kernel_rfl) (fun _ _ _ h => h) (Or.inl ⟨by rfl, ?_⟩) (by assumption) ?_
  rotate_left
  · intro w hSw
    try dsimp only at hSw
    go_simp
    try with_reducible rfl
  (try simp only [Act.put, List.setIfInBounds_toArray, List.set_cons_zero, List.set_cons_succ])
  refine wpAnyH_take (i := 82) (oi := { dst := some 153, op := Op.binOp BinOp.eql 31 (Operand.tmp 152) (Operand.const (Value.int IntKind.i64 12)) 31, type := 4, pos := "law.go:26", after := #[{ on := 81, ground := Ground.data }, { on := 80, ground := Ground.guard }], guard := some (80, true) }) (v := Value.bool true) rfl (by as_aux_lemma => kernel_rfl) (by as_aux_lemma => kernel_rfl) (by as_aux_lemma => kernel_rfl) (fun _ _ _ h => h) (Or.inl ⟨by rfl, ?_⟩) (by assumption) ?_
  · intro w hSw
    try dsimp only at hSw
    go_simp
    try with_reducible rfl
  (try simp only [Act.put, List.setIfInBounds_toArray, List.set_cons_zero, List.set_cons_succ])
  refine wpAnyH_take (i := 83) (oi := { dst := some 154, op := Op.pick (Operand.tmp 151) (Operand.tmp 153) (Operand.const (Value.bool false)), type := 4, pos := "law.go:26", after := #[{ on := 80, ground := Ground.data }, { on := 82, ground := Ground.data }], guard := none }) (v := Value.bool true) rfl (by as_aux_lemma => kernel_rfl) (by as_aux_lemma => kernel_rfl) (by as_aux_lemma => kernel_rfl) (fun _ _ _ h => h) (Or.inl ⟨by rfl, ?_⟩) (by assumption) ?_
  · intro w hSw
    try dsimp only at hSw
    go_simp
    try with_reducible rfl
  (try simp only [Act.put, List.setIfInBounds_toArray, List.set_cons_zero, List.set_cons_succ])
  refine wpAnyH_take (i := 84) (oi := { dst := some 155, op := Op.move (Operand.tmp 154), type := 4, pos := "law.go:26", after := #[{ on := 83, ground := Ground.data }, { on := 80, ground := Ground.chain }], guard := none }) (v := Value.bool true) rfl (by as_aux_lemma => kernel_rfl) (by as_aux_lemma => kernel_rfl) (by as_aux_lemma => kernel_rfl) (fun _ _ _ h => h) (Or.inl ⟨by rfl, ?_⟩) (by assumption) ?_
  · intro w hSw
    try dsimp only at hSw
    go_simp
    try with_reducible rfl
  (try simp only [Act.put, List.setIfInBounds_toArray, List.set_cons_zero, List.set_cons_succ])
  refine wpAnyH_take (i := 85) (oi := { dst := some 156, op := Op.move (Operand.tmp 20), type := 3, pos := "law.go:26", after := #[{ on := 84, ground := Ground.guard }], guard := some (84, true) }) (v := ?_) rfl (by as_aux_lemma => kernel_rfl) (by as_aux_lemma => kernel_rfl) (by as_aux_lemma => kernel_rfl) (fun _ _ _ h => h) (Or.inl ⟨by rfl, ?_⟩) (by assumption) ?_
  rotate_left
  · intro w hSw
    try dsimp only at hSw
    go_simp
    try with_reducible rfl
  (try simp only [Act.put, List.setIfInBounds_toArray, List.set_cons_zero, List.set_cons_succ])
  refine wpAnyH_take (i := 86) (oi := { dst := some 157, op := Op.binOp BinOp.eql 3 (Operand.tmp 156) (Operand.const (Value.int IntKind.i64 0)) 3, type := 4, pos := "law.go:26", after := #[{ on := 85, ground := Ground.data }, { on := 84, ground := Ground.guard }], guard := some (84, true) }) (v := Value.bool true) rfl (by as_aux_lemma => kernel_rfl) (by as_aux_lemma => kernel_rfl) (by as_aux_lemma => kernel_rfl) (fun _ _ _ h => h) (Or.inl ⟨by rfl, ?_⟩) (by assumption) ?_
  · intro w hSw
    try dsimp only at hSw
    go_simp
    try with_reducible rfl
  (try simp only [Act.put, List.setIfInBounds_toArray, List.set_cons_zero, List.set_cons_succ])
  refine wpAnyH_take (i := 87) (oi := { dst := some 158, op := Op.pick (Operand.tmp 155) (Operand.tmp 157) (Operand.const (Value.bool false)), type := 4, pos := "law.go:26", after := #[{ on := 84, ground := Ground.data }, { on := 86, ground := Ground.data }], guard := none }) (v := Value.bool true) rfl (by as_aux_lemma => kernel_rfl) (by as_aux_lemma => kernel_rfl) (by as_aux_lemma => kernel_rfl) (fun _ _ _ h => h) (Or.inl ⟨by rfl, ?_⟩) (by assumption) ?_
  · intro w hSw
    try dsimp only at hSw
    go_simp
    try with_reducible rfl
  (try simp only [Act.put, List.setIfInBounds_toArray, List.set_cons_zero, List.set_cons_succ])
  refine wpAnyH_take (i := 88) (oi := { dst := some 159, op := Op.move (Operand.tmp 158), type := 4, pos := "law.go:26", after := #[{ on := 87, ground := Ground.data }, { on := 84, ground := Ground.chain }], guard := none }) (v := Value.bool true) rfl (by as_aux_lemma => kernel_rfl) (by as_aux_lemma => kernel_rfl) (by as_aux_lemma => kernel_rfl) (fun _ _ _ h => h) (Or.inl ⟨by rfl, ?_⟩) (by assumption) ?_
  · intro w hSw
    try dsimp only at hSw
    go_simp
    try with_reducible rfl
  (try simp only [Act.put, List.setIfInBounds_toArray, List.set_cons_zero, List.set_cons_succ])
  refine wpAnyH_take (i := 89) (oi := { dst := some 160, op := Op.move (Operand.tmp 21), type := 31, pos := "law.go:26", after := #[{ on := 88, ground := Ground.guard }], guard := some (88, true) }) (v := ?_) rfl (by as_aux_lemma => kernel_rfl) (by as_aux_lemma => kernel_rfl) (by as_aux_lemma => kernel_rfl) (fun _ _ _ h => h) (Or.inl ⟨by rfl, ?_⟩) (by assumption) ?_
  rotate_left
  · intro w hSw
    try dsimp only at hSw
    go_simp
    try with_reducible rfl
  (try simp only [Act.put, List.setIfInBounds_toArray, List.set_cons_zero, List.set_cons_succ])
  refine wpAnyH_take (i := 90) (oi := { dst := some 161, op := Op.binOp BinOp.eql 31 (Operand.tmp 160) (Operand.const (Value.int IntKind.i64 6)) 31, type := 4, pos := "law.go:26", after := #[{ on := 89, ground := Ground.data }, { on := 88, ground := Ground.guard }], guard := some (88, true) }) (v := Value.bool true) rfl (by as_aux_lemma => kernel_rfl) (by as_aux_lemma => kernel_rfl) (by as_aux_lemma => kernel_rfl) (fun _ _ _ h => h) (Or.inl ⟨by rfl, ?_⟩) (by assumption) ?_
  · intro w hSw
    try dsimp only at hSw
    go_simp
    try with_reducible rfl
  (try simp only [Act.put, List.setIfInBounds_toArray, List.set_cons_zero, List.set_cons_succ])
  refine wpAnyH_take (i := 91) (oi := { dst := some 162, op := Op.pick (Operand.tmp 159) (Operand.tmp 161) (Operand.const (Value.bool false)), type := 4, pos := "law.go:26", after := #[{ on := 88, ground := Ground.data }, { on := 90, ground := Ground.data }], guard := none }) (v := Value.bool true) rfl (by as_aux_lemma => kernel_rfl) (by as_aux_lemma => kernel_rfl) (by as_aux_lemma => kernel_rfl) (fun _ _ _ h => h) (Or.inl ⟨by rfl, ?_⟩) (by assumption) ?_
  · intro w hSw
    try dsimp only at hSw
    go_simp
    try with_reducible rfl
  (try simp only [Act.put, List.setIfInBounds_toArray, List.set_cons_zero, List.set_cons_succ])
  refine wpAnyH_take (i := 92) (oi := { dst := some 0, op := Op.assign (Operand.tmp 162), type := 4, pos := "law.go:26", after := ([{ on := 91, ground := Ground.data }, { on := 88, ground := Ground.chain }, { on := 0, ground := Ground.phase }, { on := 1, ground := Ground.phase }, { on := 2, ground := Ground.phase }, { on := 3, ground := Ground.phase }, { on := 4, ground := Ground.phase }, { on := 5, ground := Ground.phase }, { on := 6, ground := Ground.phase }, { on := 7, ground := Ground.phase }, { on := 8, ground := Ground.phase }, { on := 9, ground := Ground.phase }, { on := 10, ground := Ground.phase }, { on := 11, ground := Ground.phase }, { on := 12, ground := Ground.phase }, { on := 13, ground := Ground.phase }, { on := 14, ground := Ground.phase }, { on := 15, ground := Ground.phase }, { on := 16, ground := Ground.phase }, { on := 17, ground := Ground.phase }, { on := 18, ground := Ground.phase }, { on := 19, ground := Ground.phase }, { on := 20, ground := Ground.phase }, { on := 21, ground := Ground.phase }, { on := 22, ground := Ground.phase }, { on := 23, ground := Ground.phase }, { on := 24, ground := Ground.phase }, { on := 25, ground := Ground.phase }, { on := 26, ground := Ground.phase }, { on := 27, ground := Ground.phase }, { on := 28, ground := Ground.phase }, { on := 29, ground := Ground.phase }, { on := 30, ground := Ground.phase }, { on := 31, ground := Ground.phase }, { on := 32, ground := Ground.phase }, { on := 33, ground := Ground.phase }, { on := 34, ground := Ground.phase }, { on := 35, ground := Ground.phase }, { on := 36, ground := Ground.phase }, { on := 37, ground := Ground.phase }, { on := 38, ground := Ground.phase }, { on := 39, ground := Ground.phase }, { on := 40, ground := Ground.phase }, { on := 41, ground := Ground.phase }, { on := 42, ground := Ground.phase }, { on := 43, ground := Ground.phase }, { on := 44, ground := Ground.phase }].append [{ on := 45, ground := Ground.phase }, { on := 46, ground := Ground.phase }, { on := 47, ground := Ground.phase }, { on := 48, ground := Ground.phase }, { on := 49, ground := Ground.phase }, { on := 50, ground := Ground.phase }, { on := 51, ground := Ground.phase }, { on := 52, ground := Ground.phase }, { on := 53, ground := Ground.phase }, { on := 54, ground := Ground.phase }, { on := 55, ground := Ground.phase }, { on := 56, ground := Ground.phase }, { on := 57, ground := Ground.phase }, { on := 58, ground := Ground.phase }, { on := 59, ground := Ground.phase }, { on := 60, ground := Ground.phase }, { on := 61, ground := Ground.phase }, { on := 62, ground := Ground.phase }, { on := 63, ground := Ground.phase }, { on := 64, ground := Ground.phase }, { on := 65, ground := Ground.phase }, { on := 66, ground := Ground.phase }, { on := 67, ground := Ground.phase }, { on := 68, ground := Ground.phase }, { on := 69, ground := Ground.phase }, { on := 70, ground := Ground.phase }, { on := 71, ground := Ground.phase }, { on := 72, ground := Ground.phase }, { on := 73, ground := Ground.phase }, { on := 74, ground := Ground.phase }, { on := 75, ground := Ground.phase }, { on := 76, ground := Ground.phase }, { on := 77, ground := Ground.phase }, { on := 78, ground := Ground.phase }, { on := 79, ground := Ground.phase }, { on := 80, ground := Ground.phase }, { on := 81, ground := Ground.phase }, { on := 82, ground := Ground.phase }, { on := 83, ground := Ground.phase }, { on := 84, ground := Ground.phase }, { on := 85, ground := Ground.phase }, { on := 86, ground := Ground.phase }, { on := 87, ground := Ground.phase }, { on := 88, ground := Ground.phase }, { on := 89, ground := Ground.phase }, { on := 90, ground := Ground.phase }, { on := 91, ground := Ground.phase }]).toArray, guard := none }) (v := Value.bool true) rfl (by as_aux_lemma => kernel_rfl) (by as_aux_lemma => kernel_rfl) (by as_aux_lemma => kernel_rfl) (fun _ _ _ h => h) (Or.inl ⟨by rfl, ?_⟩) (by assumption) ?_
  · intro w hSw
    try dsimp only at hSw
    go_simp
    try with_reducible rfl
  (try simp only [Act.put, List.setIfInBounds_toArray, List.set_cons_zero, List.set_cons_succ])
  refine wpAnyH_done (by as_aux_lemma => kernel_rfl) ?_ _
  refine NoPanic.normal ?_
  all_goals
    go_wp2_with fail
    go_ret
    exact ⟨rfl, eb_of HBZ.out (by assumption) (by first | exact Nat.le_refl _ | exact HBZ.out.size)⟩
end Go.Proofs.Ytebjhjmlpodkgaa.KK
