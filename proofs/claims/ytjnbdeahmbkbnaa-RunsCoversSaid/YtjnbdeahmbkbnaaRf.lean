/-
  Runs: find with one search.
-/
import Derived.Test.YtjnbdeahmbkbnaaRe
namespace Go.Proofs.Ytjnbdeahmbkbnaa.KK
open Go.ChangeShapes Go.WideShapes Go.ChangeAt Go.RowKit Go.Proofs

set_option maxRecDepth 100000 in
set_option maxHeartbeats 4000000 in
theorem findF_any (id : Int) (B : Option Addr) (d : Nat) (xs : List El.En) (key : ByteArray) (strict : Bool) (w : World) (hf : EsAt w B xs) (hn : xs.length ≤ 4294967295) (hs : Sized xs) (hcap : xs.length ≤ d) (hnil : B = none → d = 0) (hz : key.size ≤ 9223372036854775807) :
    Calls Try.prog 38 #[.agg #[.int .i64 id, .slice B xs.length d], .string key, .bool strict, .iface 60 (.agg #[])] w fun e w' => e = .returned (entV (floorR id xs key strict)) ∧ Below w.heap.size w w' := by
  have HX := boxU id B xs.length d w
  have hb0 := alloc_below (w.alloc (.cells #[.int .i64 id, .slice B xs.length d] 24)) (.cells #[.string ⟨#[]⟩, .string ⟨#[]⟩, .bool false, .int .i64 0] 31)
  have HXX : Hid (∀ w', Below ((w.alloc (.cells #[.int .i64 id, .slice B xs.length d] 24)).alloc (.cells #[.string ⟨#[]⟩, .string ⟨#[]⟩, .bool false, .int .i64 0] 31)).heap.size ((w.alloc (.cells #[.int .i64 id, .slice B xs.length d] 24)).alloc (.cells #[.string ⟨#[]⟩, .string ⟨#[]⟩, .bool false, .int .i64 0] 31)) w' → w'.cell? ⟨w.heap.size, 0, none⟩ = some (.int .i64 id) ∧ w'.cell? ⟨w.heap.size, 1, none⟩ = some (.slice B xs.length d) ∧ Row4 w' (w.heap.size + 1) 31 (.string ⟨#[]⟩) (.string ⟨#[]⟩) (.bool false) (.int .i64 0) ∧ w.heap.size + 2 ≤ w'.heap.size ∧ Below w.heap.size w w') := Lib.hid (fun w' h => by
    obtain ⟨x0, x1, x2, x3⟩ := HX.out _ (hb0.trans (h.mono (by simp)))
    have e := heap_alloc_new (w.alloc (.cells #[.int .i64 id, .slice B xs.length d] 24)) (.cells #[.string ⟨#[]⟩, .string ⟨#[]⟩, .bool false, .int .i64 0] 31)
    rw [show (w.alloc (.cells #[.int .i64 id, .slice B xs.length d] 24)).heap.size = w.heap.size + 1 by simp] at e
    exact ⟨x0, x1, (h.block (w.heap.size + 1) (by simp)).trans e, by have := h.size; simp at this; omega, x3⟩)
  obtain ⟨x0, x1, x2, x3, x4⟩ := HXX.out _ (Below.refl _ _)
  have HB := Lib.hid x4
  have J1 := Lib.hid (fun w1 (h : Below w.heap.size w w1) => pCheck8_any id B d xs w1 (hf.below h (Nat.le_refl _)) hn hs)
  have JK := Lib.hid (fun w => kCheck_any key w hz)
  clear hb0 x2 x4 HX
  by_cases h1 : (runE id xs).2 = 0
  rotate_left
  · have HL := Lib.hid (show floorR id xs key strict = (El.none, (runE id xs).2) by rw [floorR_no (by rw [askR_no h1]; exact h1), askR_no h1])
    obtain ⟨b1, b2⟩ := ne_b h1
    generalize (runE id xs).2 = r at *
    generalize (runE id xs).1 = r0 at *
    generalize floorR id xs key strict = res at *
    clear h1 hf hs hcap hnil JK
    generalize xs.length = n at *
    go_enter Try.func38, Try.ntmps38
    go_wp2_with fail
    refine (J1.out _ HB.out).mono ?_
    rintro e w1 ⟨rfl, hb⟩
    obtain ⟨y0, y1, y2, y3, y4⟩ := HXX.out _ hb
    have HB1 := Lib.hid y4
    have r0 := y2.c0
    have r1 := y2.c1
    have r2 := y2.c2
    have r3 := y2.c3
    have f0 := y2.fz
    have HRO := Lib.hid y2
    have HR := Lib.hid (y2.set (.string ⟨#[]⟩) (.string ⟨#[]⟩) (.bool false) (.int .i64 0))
    clear hb x0 x1 y4 y2
    go_wp2_with fail
    have k0 := HR.out.c0
    have k1 := HR.out.c1
    have k2 := HR.out.c2
    have k3 := HR.out.c3
    exact bodyPost_ret (v := .tuple #[.agg #[.string ⟨#[]⟩, .string ⟨#[]⟩, .bool false, .int .i64 0], .int .i64 r]) (by simp [results, Try.results38, go_sem, k0, k1, k2, k3]) rfl ⟨retN HL.out, set4 HB1.out (by omega) _ _ _ _⟩
  rw [h1] at J1
  by_cases h2 : key.size ≤ 32
  rotate_left
  · have HL := Lib.hid (show floorR id xs key strict = (El.none, 3) by rw [floorR_no (by rw [askR_ok h1, chk1_no h2]; decide), askR_ok h1, chk1_no h2])
    rw [chk1_no h2] at JK
    generalize (runE id xs).1 = r0 at *
    generalize floorR id xs key strict = res at *
    clear h1 h2 hf hs hcap hnil
    generalize xs.length = n at *
    go_enter Try.func38, Try.ntmps38
    go_wp2_with fail
    refine (J1.out _ HB.out).mono ?_
    rintro e w1 ⟨rfl, hb⟩
    obtain ⟨y0, y1, y2, y3, y4⟩ := HXX.out _ hb
    have HB1 := Lib.hid y4
    have r0 := y2.c0
    have r1 := y2.c1
    have r2 := y2.c2
    have r3 := y2.c3
    have f0 := y2.fz
    have HRO := Lib.hid y2
    have HR := Lib.hid (y2.set (.string ⟨#[]⟩) (.string ⟨#[]⟩) (.bool false) (.int .i64 0))
    clear hb x0 x1 y4 y2
    go_wp2_with fail
    refine (JK.out _).mono ?_
    rintro e w2 ⟨rfl, rfl⟩
    go_wp2_with fail
    have k0 := HR.out.c0
    have k1 := HR.out.c1
    have k2 := HR.out.c2
    have k3 := HR.out.c3
    exact bodyPost_ret (v := .tuple #[.agg #[.string ⟨#[]⟩, .string ⟨#[]⟩, .bool false, .int .i64 0], .int .i64 3]) (by simp [results, Try.results38, go_sem, k0, k1, k2, k3]) rfl ⟨retN HL.out, set4 HB1.out (by omega) _ _ _ _⟩
  rw [chk1_ok h2] at JK
  have ha : askR id xs key = 0 := by rw [askR_ok h1, chk1_ok h2]
  have hl := run_list h1
  have I := ix_ok (B := B) hcap hnil hl
  have JI : Hid (∀ w1, Below w.heap.size w w1 → Calls Try.prog 40 #[.agg #[.int .i64 id, .slice B xs.length d]] w1 fun e w' => ∃ A c, e = .returned (.agg #[.slice B xs.length d, .int .i64 16, .slice A (makeM 16 xs).length c]) ∧ SsAt w' A (makeM 16 xs) ∧ Below w1.heap.size w1 w') := Lib.hid (fun w1 (h : Below w.heap.size w w1) => indexOf_any id B d xs w1 (hf.below h (Nat.le_refl _)) hn hs hcap hl)
  have JS := Lib.hid (fun A c w1 (h : Below w.heap.size w w1) (hss : SsAt w1 A (makeM 16 xs)) => floorIn_any B d xs A c (makeM 16 xs) key strict w1 (hf.below h (Nat.le_refl _)) hss I h2)
  generalize makeM 16 xs = ms at *
  generalize (runE id xs).1 = r0 at *
  have HFF := Lib.hid hf
  clear h1 h2 hs hcap hnil hl I hf
  cases ho : floorO xs key strict with
  | none =>
    have HL := Lib.hid (show floorR id xs key strict = (El.none, 4) from floorO_r4 ha ho)
    rw [ho] at JS
    rw [show seekV none = .nilIface from rfl] at JS
    generalize floorR id xs key strict = res at *
    clear ho ha HFF
    generalize xs.length = n at *
    go_enter Try.func38, Try.ntmps38
    go_wp2_with fail
    refine (J1.out _ HB.out).mono ?_
    rintro e w1 ⟨rfl, hb⟩
    obtain ⟨y0, y1, y2, y3, y4⟩ := HXX.out _ hb
    have HB1 := Lib.hid y4
    have r0 := y2.c0
    have r1 := y2.c1
    have r2 := y2.c2
    have r3 := y2.c3
    have f0 := y2.fz
    have HRO := Lib.hid y2
    have HR := Lib.hid (y2.set (.string ⟨#[]⟩) (.string ⟨#[]⟩) (.bool false) (.int .i64 0))
    clear hb x0 x1 y4 y2
    go_wp2_with fail
    refine (JK.out _).mono ?_
    rintro e w2 ⟨rfl, rfl⟩
    go_wp2_with fail
    have hN := nilF
    have hM := nilF_m
    have hA := asT_nil
    have HF := Lib.hid (Below.refl w1.heap.size w1)
    have HK : Hid (∀ w', Below w1.heap.size w1 w' → Below w1.heap.size w1 w' ∧ w'.cell? ⟨w.heap.size, 0, none⟩ = some (.int .i64 id) ∧ w'.cell? ⟨w.heap.size, 1, none⟩ = some (.slice B n d)) := Lib.hid (fun w' h => ⟨h, (h.cell (p := ⟨w.heap.size, 0, none⟩) (by simp; omega)).trans y0, (h.cell (p := ⟨w.heap.size, 1, none⟩) (by simp; omega)).trans y1⟩)
    go_region_held3 (fun w' => Below w1.heap.size w1 w' ∧ w'.cell? ⟨w.heap.size, 0, none⟩ = some (.int .i64 id) ∧ w'.cell? ⟨w.heap.size, 1, none⟩ = some (.slice B n d))
      (first
        | (exact HK.out _ (by assumption))
        | (exact HK.out _ HF.out)
        | (exact HK.out _ (eb_of (by assumption) (below_drewN' 1) (Nat.le_refl _)))
        | (exact HK.out _ (eb_of (by assumption) (alloc_below _ _) (Nat.le_refl _)))
        | (exact HK.out _ (eb_of (And.left (by assumption)) (alloc_below _ _) (Nat.le_refl _))))
      (first
        | (go_at_call 40; refine (JI.out _ (eb_of HB1.out (by first | assumption | exact HF.out | exact below_drewN' 1 | exact And.left (by assumption)) (Nat.le_refl _))).mono ?_; rintro e w5 ⟨A5, c5, rfl, hs5, hb5⟩; have hb6 := eb_of (by first | assumption | exact HF.out | exact below_drewN' 1 | exact And.left (by assumption)) hb5 (Nat.le_refl _); clear hb5)
        | (go_at_call 94; refine (JS.out _ _ _ (eb_of HB1.out (by first | assumption | exact And.left (by assumption)) (Nat.le_refl _)) (by assumption)).mono ?_; rintro e w7 ⟨rfl, hb7⟩; have hb8 := eb_of (by first | assumption | exact And.left (by assumption)) hb7 (Nat.le_refl _); clear hb7))
    all_goals
      have HB2 := Lib.hid (eb_of HB1.out (by assumption : Below w1.heap.size w1 _) (Nat.le_refl _))
      have hrw : Row4 _ (w.heap.size + 1) _ _ _ _ _ := HRO.out.below (by assumption : Below w1.heap.size w1 _) (Nat.le_refl _)
      have s0 := hrw.c0
      have s1 := hrw.c1
      have s2 := hrw.c2
      have s3 := hrw.c3
      have sf := hrw.fz
      have HRW := Lib.hid (hrw.set (.string ⟨#[]⟩) (.string ⟨#[]⟩) (.bool false) (.int .i64 0))
      have k0 := HRW.out.c0
      have k1 := HRW.out.c1
      have k2 := HRW.out.c2
      have k3 := HRW.out.c3
      clear hrw
      go_wp2_with fail
      exact bodyPost_ret (v := .tuple #[.agg #[.string ⟨#[]⟩, .string ⟨#[]⟩, .bool false, .int .i64 0], .int .i64 4]) (by simp [results, Try.results38, go_sem, k0, k1, k2, k3]) rfl ⟨retN HL.out, set4 HB2.out (by omega) _ _ _ _⟩
  | some k =>
    obtain ⟨hr, hkn⟩ := floorO_r0 ha ho
    rw [entR_eq hkn] at hr
    have HL := Lib.hid hr
    rw [ho] at JS
    rw [show seekV (some k) = .iface 3 (.int .i64 (k : Int)) from rfl] at JS
    generalize floorR id xs key strict = res at *
    rcases HFF.out with h0 | ⟨b, off, rfl, hbl, hc⟩
    · subst h0; simp at hkn
    obtain ⟨g0, g1, g2, g3⟩ := hc k hkn
    have HG : Hid (∀ w', Below w.heap.size w w' → w'.cell? ⟨b, off + k * 4, none⟩ = some (.string xs[k].1) ∧ w'.cell? ⟨b, off + k * 4 + 1, none⟩ = some (.string xs[k].2.1) ∧ w'.cell? ⟨b, off + k * 4 + 2, none⟩ = some (.bool xs[k].2.2.1) ∧ w'.cell? ⟨b, off + k * 4 + 3, none⟩ = some (.int .i64 xs[k].2.2.2)) := Lib.hid (fun w' h => by
      have e : ∀ o, w'.cell? ⟨b, o, none⟩ = w.cell? ⟨b, o, none⟩ := fun o => h.cell (p := ⟨b, o, none⟩) hbl
      rw [e, e, e, e]; exact ⟨g0, g1, g2, g3⟩)
    clear ho ha HFF hr hc g0 g1 g2 g3
    generalize xs[k] = x at *
    generalize xs.length = n at *
    have hk0 : (0 : Int) ≤ (k : Int) := by omega
    have hk1 : (k : Int) < (n : Int) := by omega
    go_enter Try.func38, Try.ntmps38
    go_wp2_with fail
    refine (J1.out _ HB.out).mono ?_
    rintro e w1 ⟨rfl, hb⟩
    obtain ⟨y0, y1, y2, y3, y4⟩ := HXX.out _ hb
    have HB1 := Lib.hid y4
    have r0 := y2.c0
    have r1 := y2.c1
    have r2 := y2.c2
    have r3 := y2.c3
    have f0 := y2.fz
    have HRO := Lib.hid y2
    have HR := Lib.hid (y2.set (.string ⟨#[]⟩) (.string ⟨#[]⟩) (.bool false) (.int .i64 0))
    clear hb x0 x1 y4 y2
    go_wp2_with fail
    refine (JK.out _).mono ?_
    rintro e w2 ⟨rfl, rfl⟩
    go_wp2_with fail
    have hN := nilF
    have hM := nilF_m
    have hA := asT_int
    have HF := Lib.hid (Below.refl w1.heap.size w1)
    have HK : Hid (∀ w', Below w1.heap.size w1 w' → Below w1.heap.size w1 w' ∧ w'.cell? ⟨w.heap.size, 0, none⟩ = some (.int .i64 id) ∧ w'.cell? ⟨w.heap.size, 1, none⟩ = some (.slice (some ⟨b, off, none⟩) n d)) := Lib.hid (fun w' h => ⟨h, (h.cell (p := ⟨w.heap.size, 0, none⟩) (by simp; omega)).trans y0, (h.cell (p := ⟨w.heap.size, 1, none⟩) (by simp; omega)).trans y1⟩)
    go_region_held3 (fun w' => Below w1.heap.size w1 w' ∧ w'.cell? ⟨w.heap.size, 0, none⟩ = some (.int .i64 id) ∧ w'.cell? ⟨w.heap.size, 1, none⟩ = some (.slice (some ⟨b, off, none⟩) n d))
      (first
        | (exact HK.out _ (by assumption))
        | (exact HK.out _ HF.out)
        | (exact HK.out _ (eb_of (by assumption) (below_drewN' 1) (Nat.le_refl _)))
        | (exact HK.out _ (eb_of (by assumption) (alloc_below _ _) (Nat.le_refl _)))
        | (exact HK.out _ (eb_of (And.left (by assumption)) (alloc_below _ _) (Nat.le_refl _))))
      (first
        | (go_at_call 40; refine (JI.out _ (eb_of HB1.out (by first | assumption | exact HF.out | exact below_drewN' 1 | exact And.left (by assumption)) (Nat.le_refl _))).mono ?_; rintro e w5 ⟨A5, c5, rfl, hs5, hb5⟩; have hb6 := eb_of (by first | assumption | exact HF.out | exact below_drewN' 1 | exact And.left (by assumption)) hb5 (Nat.le_refl _); clear hb5)
        | (go_at_call 94; refine (JS.out _ _ _ (eb_of HB1.out (by first | assumption | exact And.left (by assumption)) (Nat.le_refl _)) (by assumption)).mono ?_; rintro e w7 ⟨rfl, hb7⟩; have hb8 := eb_of (by first | assumption | exact And.left (by assumption)) hb7 (Nat.le_refl _); clear hb7))
    all_goals
      have HB2 := Lib.hid (eb_of HB1.out (by assumption : Below w1.heap.size w1 _) (Nat.le_refl _))
      obtain ⟨v0, v1, v2, v3⟩ := HG.out _ HB2.out
      have hrw : Row4 _ (w.heap.size + 1) _ _ _ _ _ := HRO.out.below (by assumption : Below w1.heap.size w1 _) (Nat.le_refl _)
      have s0 := hrw.c0
      have s1 := hrw.c1
      have s2 := hrw.c2
      have s3 := hrw.c3
      have sf := hrw.fz
      have HRW := Lib.hid (hrw.set (.string x.1) (.string x.2.1) (.bool x.2.2.1) (.int .i64 x.2.2.2))
      have k0 := HRW.out.c0
      have k1 := HRW.out.c1
      have k2 := HRW.out.c2
      have k3 := HRW.out.c3
      clear hrw
      go_wp2_with fail
      exact bodyPost_ret (v := .tuple #[.agg #[.string x.1, .string x.2.1, .bool x.2.2.1, .int .i64 x.2.2.2], .int .i64 0]) (by simp [results, Try.results38, go_sem, k0, k1, k2, k3]) rfl ⟨retN HL.out, set4 HB2.out (by omega) _ _ _ _⟩
end Go.Proofs.Ytjnbdeahmbkbnaa.KK
