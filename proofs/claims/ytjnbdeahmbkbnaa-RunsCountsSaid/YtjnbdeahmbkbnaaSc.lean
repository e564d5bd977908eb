/-
  RunsCounts: the walk.
-/
import Derived.Test.YtjnbdeahmbkbnaaSb
namespace Go.Proofs.Ytjnbdeahmbkbnaa.KK
open Go.ChangeShapes Go.WideShapes Go.ChangeAt Go.RowKit Go.Proofs

set_option maxRecDepth 100000 in
set_option maxHeartbeats 16000000 in
theorem Counts8_any (id : Int) (A : Option Addr) (c : Nat) (xs : List El.En) (lo hi : ByteArray) (bd : Bool) (key : ByteArray) (w : World) (hf : EsAt w A xs) (hn : xs.length ≤ 9223372036854775807) (hs : Sized xs) (hcap : xs.length ≤ c) (hnil : A = none → c = 0) (hlo : lo.size ≤ 9223372036854775807) (hhi : hi.size ≤ 9223372036854775807) (hz : key.size ≤ 9223372036854775807) :
    Calls Try.prog 6 #[.agg #[.int .i64 id, .slice A xs.length c], .agg #[.string lo, .string hi, .bool bd], .string key] w fun e w' => e = .returned (.bool true) ∧ Below w.heap.size w w' := by
  have HX := boxUR id A xs.length c lo hi bd w
  obtain ⟨x0, x1, x2, x3, x4, x5, x6⟩ := HX.out _ (Below.refl _ _)
  have HB := Lib.hid x6
  have JF := Lib.hid (fun w1 (h : Below w.heap.size w w1) => far8_any id A c xs w1 (hf.below h (Nat.le_refl _)) hn hs)
  have JW := Lib.hid (fun w => awake8_any w)
  have JK := Lib.hid (fun w => rCheck_any key w hz)
  clear x5 x6
  cases hfa : farF xs with
  | true =>
    rw [hfa] at JF
    clear hfa hf hs hcap hnil
    generalize xs.length = n at *
    go_enter Try.func6, Try.ntmps6
    go_wp2_with fail
    refine (JF.out _ HB.out).mono ?_
    rintro e w0 ⟨rfl, hb⟩
    have HC0 := Lib.hid hb
    clear hb x0 x1 x2 x3 x4
    obtain ⟨y0, y1, y2, y3, y4, y5, y6⟩ := HX.out _ HC0.out
    have HB0 := Lib.hid y6
    clear y6
    go_wp2_with fail
    refine (JW.out _).mono ?_
    rintro e w99 ⟨rfl, hb⟩
    have HB99 := Lib.hid (eb_of HB0.out hb (Nat.le_refl _))
    clear hb
    go_wp2_with fail
    go_ret
    exact ⟨by first | rfl | (simp; done), HB99.out⟩
  | false =>
  have hl5 := far_len hfa
  rw [hfa] at JF
  clear hfa
  by_cases hk1 : 100 < lo.size
  · have hk1' : (100 : Int) < (lo.size : Int) := by omega
    clear hk1 hf hs hcap hnil hl5
    generalize xs.length = n at *
    go_enter Try.func6, Try.ntmps6
    go_wp2_with fail
    refine (JF.out _ HB.out).mono ?_
    rintro e w0 ⟨rfl, hb⟩
    have HC0 := Lib.hid hb
    clear hb x0 x1 x2 x3 x4
    obtain ⟨y0, y1, y2, y3, y4, y5, y6⟩ := HX.out _ HC0.out
    have HB0 := Lib.hid y6
    clear y6
    go_wp2_with fail
    refine (JW.out _).mono ?_
    rintro e w99 ⟨rfl, hb⟩
    have HB99 := Lib.hid (eb_of HB0.out hb (Nat.le_refl _))
    clear hb
    go_wp2_with fail
    go_ret
    exact ⟨by first | rfl | (simp; done), HB99.out⟩
  by_cases hk2 : 100 < hi.size
  · have hk1' : ¬ (100 : Int) < (lo.size : Int) := by omega
    have hk2' : (100 : Int) < (hi.size : Int) := by omega
    clear hk1 hk2 hf hs hcap hnil hl5
    generalize xs.length = n at *
    go_enter Try.func6, Try.ntmps6
    go_wp2_with fail
    refine (JF.out _ HB.out).mono ?_
    rintro e w0 ⟨rfl, hb⟩
    have HC0 := Lib.hid hb
    clear hb x0 x1 x2 x3 x4
    obtain ⟨y0, y1, y2, y3, y4, y5, y6⟩ := HX.out _ HC0.out
    have HB0 := Lib.hid y6
    clear y6
    go_wp2_with fail
    refine (JW.out _).mono ?_
    rintro e w99 ⟨rfl, hb⟩
    have HB99 := Lib.hid (eb_of HB0.out hb (Nat.le_refl _))
    clear hb
    go_wp2_with fail
    go_ret
    exact ⟨by first | rfl | (simp; done), HB99.out⟩
  by_cases hk3 : 100 < key.size
  · have hk1' : ¬ (100 : Int) < (lo.size : Int) := by omega
    have hk2' : ¬ (100 : Int) < (hi.size : Int) := by omega
    have hk3' : (100 : Int) < (key.size : Int) := by omega
    clear hk1 hk2 hk3 hf hs hcap hnil hl5
    generalize xs.length = n at *
    go_enter Try.func6, Try.ntmps6
    go_wp2_with fail
    refine (JF.out _ HB.out).mono ?_
    rintro e w0 ⟨rfl, hb⟩
    have HC0 := Lib.hid hb
    clear hb x0 x1 x2 x3 x4
    obtain ⟨y0, y1, y2, y3, y4, y5, y6⟩ := HX.out _ HC0.out
    have HB0 := Lib.hid y6
    clear y6
    go_wp2_with fail
    refine (JW.out _).mono ?_
    rintro e w99 ⟨rfl, hb⟩
    have HB99 := Lib.hid (eb_of HB0.out hb (Nat.le_refl _))
    clear hb
    go_wp2_with fail
    go_ret
    exact ⟨by first | rfl | (simp; done), HB99.out⟩
  have hk1' : ¬ (100 : Int) < (lo.size : Int) := by omega
  have hk2' : ¬ (100 : Int) < (hi.size : Int) := by omega
  have hk3' : ¬ (100 : Int) < (key.size : Int) := by omega
  have hn5 : xs.length ≤ 4294967295 := by omega
  have J1 := Lib.hid (fun w1 (h : Below w.heap.size w w1) => pPart8_any id A c xs lo hi bd w1 (hf.below h (Nat.le_refl _)) hn5 hs hcap hnil hlo hhi)
  have J2 := Lib.hid (fun w1 (h : Below w.heap.size w w1) => pCount8_any id A c xs lo hi bd w1 (hf.below h (Nat.le_refl _)) hn5 hs hcap hnil hlo hhi)
  have J3 := Lib.hid (fun w1 (h : Below w.heap.size w w1) => pCount8_any id A c xs lo key true w1 (hf.below h (Nat.le_refl _)) hn5 hs hcap hnil hlo hz)
  have J4 := Lib.hid (fun w1 (h : Below w.heap.size w w1) => pCount8_any id A c xs key hi bd w1 (hf.below h (Nat.le_refl _)) hn5 hs hcap hnil hz hhi)
  have JH := Lib.hid (fun w => Has_any lo hi bd key w hlo hhi hz)
  by_cases he : (partR id xs lo hi bd).2.2 = 0
  rotate_left
  · obtain ⟨e1, e2⟩ := part_err he
    rw [e1, e2] at J1
    rw [countR_no he] at J2
    dsimp only at J2
    obtain ⟨b1, b2⟩ := ne_b he
    clear hf hs hcap hnil hl5 hn5 hk1 hk2 hk3 J3 J4 JH JK e1 e2 he
    generalize (partR id xs lo hi bd).2.2 = r at *
    generalize xs.length = n at *
    go_enter Try.func6, Try.ntmps6
    go_wp2_with fail
    refine (JF.out _ HB.out).mono ?_
    rintro e w0 ⟨rfl, hb⟩
    have HC0 := Lib.hid hb
    clear hb x0 x1 x2 x3 x4
    obtain ⟨y0, y1, y2, y3, y4, y5, y6⟩ := HX.out _ HC0.out
    have HB0 := Lib.hid y6
    clear y6
    go_wp2_with fail
    refine (J1.out _ HB0.out).mono ?_
    rintro e w1 ⟨rfl, hb⟩
    have HC1 := Lib.hid (eb_of HC0.out hb (Nat.le_refl _))
    clear hb y0 y1 y2 y3 y4 y5
    obtain ⟨y0, y1, y2, y3, y4, y5, y6⟩ := HX.out _ HC1.out
    have HB1 := Lib.hid y6
    clear y6
    go_wp2_with fail
    refine (J2.out _ HB1.out).mono ?_
    rintro e w2 ⟨rfl, hb⟩
    have HC2 := Lib.hid (eb_of HC1.out hb (Nat.le_refl _))
    clear hb y0 y1 y2 y3 y4 y5
    obtain ⟨y0, y1, y2, y3, y4, y5, y6⟩ := HX.out _ HC2.out
    have HB2 := Lib.hid y6
    clear y6
    go_wp2_with fail
    refine (JW.out _).mono ?_
    rintro e w99 ⟨rfl, hb⟩
    have HB99 := Lib.hid (eb_of HB2.out hb (Nat.le_refl _))
    clear hb
    go_wp2_with fail
    go_ret
    exact ⟨by first | rfl | (simp; done), HB99.out⟩
  obtain ⟨hp, hr, hc⟩ := part_good he
  obtain ⟨hn50, hck, hasc⟩ := run_ok hr
  rw [hp] at J1
  rw [countR_ok he] at J2
  dsimp only at J1 J2
  obtain ⟨hft, htl⟩ := toN_le xs lo hi bd
  have HHAS := Lib.hid (fun i (h : i < xs.length) => has_at hasc lo hi bd h)
  have HLD := Lib.hid (live_dead (subR xs (inN xs lo) (toN xs lo hi bd)))
  rw [sub_len htl] at HLD
  have HSPL := Lib.hid (fun (h1 : key.size ≤ 32) (h2 : hasB lo hi bd key = true) => split_of hr hc h1 h2)
  have HCK := Lib.hid (fun x (hx : x ∈ xs) => (El.chk_of (hck x hx)).1)
  have HF := Lib.hid hf
  have HR0 := Lib.hid (remD_zero (xs := xs) hft)
  have HSUM := Lib.hid (fun (S : Split id xs lo hi bd key (inN xs key)) => split_sums S)
  clear hp hr hc hck hasc he hf hs hcap hnil hl5 hn5 hk1 hk2 hk3
  generalize hS : subR xs (inN xs lo) (toN xs lo hi bd) = S at *
  have HSS := Lib.hid hS
  clear hS
  obtain ⟨L, hL⟩ : ∃ L, liveN S = L := ⟨_, rfl⟩
  obtain ⟨D, hD⟩ : ∃ D, deadN S = D := ⟨_, rfl⟩
  rw [hL, hD] at J2 HLD
  rw [hD] at HR0
  have HLL := Lib.hid hL
  have HDD := Lib.hid hD
  clear hL hD
  obtain ⟨f, hfe⟩ : ∃ f, inN xs lo = f := ⟨_, rfl⟩
  obtain ⟨t, hte⟩ : ∃ t, toN xs lo hi bd = t := ⟨_, rfl⟩
  rw [hfe, hte] at HR0 HHAS HLD HSS J1
  rw [hfe] at hft
  rw [hte] at hft htl
  have HFE := Lib.hid hfe
  have HTE := Lib.hid hte
  clear hfe hte
  have hld := HLD.out
  have hnb : (((L : Int) + (D : Int)) != ((t : Int) - (f : Int))) = false := by rw [bne_eq_false_iff_eq]; omega
  have hnb2 : (((L : Int) + (D : Int)) == ((t : Int) - (f : Int))) = true := by rw [beq_iff_eq]; omega
  have hL5 : L ≤ 5000 := by omega
  have hD5 : D ≤ 5000 := by omega
  have hf0 : ¬ (f : Int) < 0 := by omega
  have hft0 : ¬ (t : Int) < (f : Int) := by omega
  have hft1 : ¬ t < f := by omega
  have htl1 : ¬ xs.length < t := by omega
  have htl0 : ¬ (xs.length : Int) < (t : Int) := by omega
  have hw1 : IntKind.i64.wrap ((L : Int) + (D : Int)) = (L : Int) + (D : Int) := by rw [IntKind.wrap_i64]; omega
  have hw2 : IntKind.i64.wrap ((t : Int) - (f : Int)) = (t : Int) - (f : Int) := by rw [IntKind.wrap_i64]; omega
  clear hld
  go_enter Try.func6, Try.ntmps6
  go_wp2_with fail
  refine (JF.out _ HB.out).mono ?_
  rintro e w0 ⟨rfl, hb⟩
  have HC0 := Lib.hid hb
  clear hb x0 x1 x2 x3 x4
  obtain ⟨y0, y1, y2, y3, y4, y5, y6⟩ := HX.out _ HC0.out
  have HB0 := Lib.hid y6
  clear y6
  go_wp2_with fail
  refine (J1.out _ HB0.out).mono ?_
  rintro e w1 ⟨rfl, hb⟩
  have HC1 := Lib.hid (eb_of HC0.out hb (Nat.le_refl _))
  clear hb y0 y1 y2 y3 y4 y5
  obtain ⟨y0, y1, y2, y3, y4, y5, y6⟩ := HX.out _ HC1.out
  have HB1 := Lib.hid y6
  clear y6
  go_wp2_with fail
  refine (J2.out _ HB1.out).mono ?_
  rintro e w2 ⟨rfl, hb⟩
  have HC2 := Lib.hid (eb_of HC1.out hb (Nat.le_refl _))
  clear hb y0 y1 y2 y3 y4 y5
  obtain ⟨y0, y1, y2, y3, y4, y5, y6⟩ := HX.out _ HC2.out
  have HB2 := Lib.hid y6
  clear y6
  go_wp2_with fail
  clear hw1 hw2 hnb hnb2 y0 y1 y2 y3 y4 y5
  go_loopw [11, 13] (fun u i wr => ∃ k : Nat, k ≤ xs.length ∧ u = .int .i64 (remD xs f t k : Nat) ∧ i = .int .i64 k ∧ Below ((w.alloc (.cells #[.int .i64 id, .slice A xs.length c] 24)).alloc (.cells #[.string lo, .string hi, .bool bd] 37)).heap.size ((w.alloc (.cells #[.int .i64 id, .slice A xs.length c] 24)).alloc (.cells #[.string lo, .string hi, .bool bd] 37)) wr) (fun _ i _ => xs.length - (intOf i).toNat)
  case atStart => exact ⟨0, Nat.zero_le _, by rw [HR0.out], rfl, HC2.out⟩
  case round =>
    obtain ⟨k, hk, rfl, rfl, hb⟩ := hrel
    have HC3 := Lib.hid hb
    clear hb
    obtain ⟨y0, y1, y2, y3, y4, y5, y6⟩ := HX.out _ HC3.out
    have HB3 := Lib.hid y6
    clear y6
    have hrl := remD_le xs (f := f) (k := k) htl
    by_cases hlt : k < xs.length
    rotate_left
    · obtain rfl : k = xs.length := by omega
      rw [remD_end hft htl]
      clear hrl
      by_cases hk32 : key.size ≤ 32
      rotate_left
      · rw [chk1_no hk32] at JK
        clear hk32
        go_wp2_with fail
        refine (JK.out _).mono ?_
        rintro e w50 ⟨rfl, rfl⟩
        go_wp2_with fail
        refine (JW.out _).mono ?_
        rintro e w99 ⟨rfl, hb⟩
        have HB99 := Lib.hid (eb_of HB3.out hb (Nat.le_refl _))
        clear hb
        go_wp2_with fail
        go_ret
        exact ⟨by first | rfl | (simp; done), HB99.out⟩
      rw [chk1_ok hk32] at JK
      cases hh : hasB lo hi bd key with
      | false =>
        rw [hh] at JH
        clear hh
        go_wp2_with fail
        refine (JK.out _).mono ?_
        rintro e w50 ⟨rfl, rfl⟩
        go_wp2_with fail
        refine (JH.out _).mono ?_
        rintro e w4 ⟨rfl, hb⟩
        have HC4 := Lib.hid (eb_of HC3.out hb (Nat.le_refl _))
        clear hb y0 y1 y2 y3 y4 y5
        obtain ⟨y0, y1, y2, y3, y4, y5, y6⟩ := HX.out _ HC4.out
        have HB4 := Lib.hid y6
        clear y6
        go_wp2_with fail
        refine (JW.out _).mono ?_
        rintro e w99 ⟨rfl, hb⟩
        have HB99 := Lib.hid (eb_of HB4.out hb (Nat.le_refl _))
        clear hb
        go_wp2_with fail
        go_ret
        exact ⟨by first | rfl | (simp; done), HB99.out⟩
      | true =>
        have SP := HSPL.out hk32 hh
        have SM := HSUM.out SP
        have c1 := SP.c1
        have c2 := SP.c2
        have l1 := SP.le1
        have l2 := SP.le2
        rw [HFE.out] at c1 l1 SM
        rw [HTE.out] at c2 l2 SM
        rw [HLL.out, HDD.out] at SM
        rw [c1] at J3
        rw [c2] at J4
        dsimp only at J3 J4
        rw [hh] at JH
        have hld := HLD.out
        clear SP c1 c2 hh hk32 HSPL HSUM HR0 HHAS HCK HF HSS HLL HDD HFE HTE
        generalize liveN (subR xs f (inN xs key)) = a1 at *
        generalize deadN (subR xs f (inN xs key)) = a2 at *
        generalize liveN (subR xs (inN xs key) t) = a3 at *
        generalize deadN (subR xs (inN xs key) t) = a4 at *
        obtain ⟨s1, s2⟩ := SM
        have q1 : (((a1 : Int) + (a3 : Int)) == (L : Int)) = true := by rw [beq_iff_eq]; omega
        have q2 : (((a2 : Int) + (a4 : Int)) == ((t : Int) - (f : Int) - (L : Int))) = true := by rw [beq_iff_eq]; omega
        have q1' : ¬ ¬ ((a1 : Int) + (a3 : Int)) = (L : Int) := by omega
        have q2' : ¬ ¬ ((a2 : Int) + (a4 : Int)) = ((t : Int) - (f : Int) - (L : Int)) := by omega
        have hw1 : IntKind.i64.wrap ((a1 : Int) + (a3 : Int)) = (a1 : Int) + (a3 : Int) := by rw [IntKind.wrap_i64]; omega
        have hw2 : IntKind.i64.wrap ((a2 : Int) + (a4 : Int)) = (a2 : Int) + (a4 : Int) := by rw [IntKind.wrap_i64]; omega
        have hw3 : IntKind.i64.wrap ((t : Int) - (f : Int)) = (t : Int) - (f : Int) := by rw [IntKind.wrap_i64]; omega
        have hw4 : IntKind.i64.wrap ((t : Int) - (f : Int) - (L : Int)) = (t : Int) - (f : Int) - (L : Int) := by rw [IntKind.wrap_i64]; omega
        have b1 : a1 ≤ 5000 := by omega
        have b2 : a2 ≤ 5000 := by omega
        have b3 : a3 ≤ 5000 := by omega
        have b4 : a4 ≤ 5000 := by omega
        clear s1 s2 hld
        go_wp2_with fail
        refine (JK.out _).mono ?_
        rintro e w50 ⟨rfl, rfl⟩
        go_wp2_with fail
        refine (JH.out _).mono ?_
        rintro e w4 ⟨rfl, hb⟩
        have HC4 := Lib.hid (eb_of HC3.out hb (Nat.le_refl _))
        clear hb y0 y1 y2 y3 y4 y5
        obtain ⟨y0, y1, y2, y3, y4, y5, y6⟩ := HX.out _ HC4.out
        have HB4 := Lib.hid y6
        clear y6
        go_wp2_with fail
        refine (J3.out _ HB4.out).mono ?_
        rintro e w5 ⟨rfl, hb⟩
        have HC5 := Lib.hid (eb_of HC4.out hb (Nat.le_refl _))
        clear hb y0 y1 y2 y3 y4 y5
        obtain ⟨y0, y1, y2, y3, y4, y5, y6⟩ := HX.out _ HC5.out
        have HB5 := Lib.hid y6
        clear y6
        go_wp2_with fail
        refine (J4.out _ HB5.out).mono ?_
        rintro e w6 ⟨rfl, hb⟩
        have HC6 := Lib.hid (eb_of HC5.out hb (Nat.le_refl _))
        clear hb y0 y1 y2 y3 y4 y5
        obtain ⟨y0, y1, y2, y3, y4, y5, y6⟩ := HX.out _ HC6.out
        have HB6 := Lib.hid y6
        clear y6
        go_wp2_with fail
        refine (JW.out _).mono ?_
        rintro e w99 ⟨rfl, hb⟩
        have HB99 := Lib.hid (eb_of HB6.out hb (Nat.le_refl _))
        clear hb
        go_wp2_with fail
        go_ret
        exact ⟨by first | rfl | (simp; done), HB99.out⟩
    have hkl : k < xs.length := hlt
    have HT := Lib.hid (HHAS.out k hlt)
    obtain ⟨b, off, rfl, hbl, hc⟩ : ∃ b off, A = some ⟨b, off, none⟩ ∧ b < w.heap.size ∧ ∀ (i : Nat) (h : i < xs.length), w.cell? ⟨b, off + i * 4, none⟩ = some (.string xs[i].1) ∧ w.cell? ⟨b, off + i * 4 + 1, none⟩ = some (.string xs[i].2.1) ∧ w.cell? ⟨b, off + i * 4 + 2, none⟩ = some (.bool xs[i].2.2.1) ∧ w.cell? ⟨b, off + i * 4 + 3, none⟩ = some (.int .i64 xs[i].2.2.2) := by
      rcases HF.out with h | h
      · subst h; simp at hlt
      · exact h
    have hck := HC3.out
    have HVW : Hid (∀ w', Below w.heap.size w w' → w'.cell? ⟨b, off + k * 4, none⟩ = some (.string xs[k].1) ∧ w'.cell? ⟨b, off + k * 4 + 2, none⟩ = some (.bool xs[k].2.2.1)) := Lib.hid (fun w' h => by
      have e : ∀ o, w'.cell? ⟨b, o, none⟩ = w.cell? ⟨b, o, none⟩ := fun o => h.cell (p := ⟨b, o, none⟩) hbl
      rw [e, e]; exact ⟨(hc k hkl).1, (hc k hkl).2.2.1⟩)
    have JHK : Hid (∀ w1, Calls Try.prog 28 #[.agg #[.string lo, .string hi, .bool bd], .string xs[k].1] w1 fun e w' => e = .returned (.bool (hasB lo hi bd xs[k].1)) ∧ Below w1.heap.size w1 w') := Lib.hid (fun w1 => Has_any lo hi bd xs[k].1 w1 hlo hhi (by have := HCK.out _ (List.getElem_mem hkl); omega))
    obtain ⟨v0, v1⟩ := HVW.out _ HB3.out
    have hk0 : (0 : Int) ≤ (k : Int) := by omega
    have hk1 : (k : Int) < (xs.length : Int) := by omega
    clear hck hc hbl HHAS HSPL HSUM
    by_cases hin : f ≤ k ∧ k < t
    · have RI := remD_in htl hin.1 hin.2
      rw [HT.out, decide_eq_true hin] at JHK
      have i1 : (f : Int) ≤ (k : Int) := by omega
      have i2 : (k : Int) < (t : Int) := by omega
      have RIH := Lib.hid RI
      have hr1 := remD_le xs (f := f) (k := k + 1) htl
      clear RI HT
      generalize xs[k] = x at *
      obtain ⟨xk, xv, xd, xq⟩ := x
      dsimp only at v0 v1 JHK RIH HVW
      have hrl2 := hrl
      cases xd with
      | true =>
        have RJ : Hid (remD xs f t k = remD xs f t (k + 1) + 1) := Lib.hid (RIH.out.trans (by simp))
        rw [RJ.out] at hrl ⊢
        clear RIH
        have z0 := abv_c y0
        have z1 := abv_c y1
        have z2 := abv_c y2
        have z3 := abv_c y3
        have z4 := abv_c y4
        have z5 := abv_c v0
        go_wp2_with fail
        refine wp_region_abv (by first | assumption | kernel_rfl) (by kernel_rfl) ?_
        repeat (first | go_big_quiet_step (exact callAbv (JHK.out _)) | quiet_step (exact callAbv (JHK.out _)))
        refine wpQuiet_nil ?_
        intro w10 hw10
        obtain ⟨p1, rfl⟩ := hw10
        have HC4 := Lib.hid (eb_of HC3.out p1.h (Nat.le_refl _))
        clear z0 z1 z2 z3 z4 z5 v0 v1 y0 y1 y2 y3 y4 y5
        obtain ⟨y0, y1, y2, y3, y4, y5, y6⟩ := HX.out _ HC4.out
        have HB4 := Lib.hid y6
        clear y6
        obtain ⟨v0, v1⟩ := HVW.out _ HB4.out
        go_wp2_with fail
        go_roundw
        case rel => exact ⟨k + 1, by omega, by go_num, by go_num, HC4.out⟩
        case measure => simp [intOf]; try omega
      | false =>
        have RJ : Hid (remD xs f t k = remD xs f t (k + 1)) := Lib.hid (RIH.out.trans (by simp))
        rw [RJ.out] at hrl ⊢
        clear RIH
        have z0 := abv_c y0
        have z1 := abv_c y1
        have z2 := abv_c y2
        have z3 := abv_c y3
        have z4 := abv_c y4
        have z5 := abv_c v0
        go_wp2_with fail
        refine wp_region_abv (by first | assumption | kernel_rfl) (by kernel_rfl) ?_
        repeat (first | go_big_quiet_step (exact callAbv (JHK.out _)) | quiet_step (exact callAbv (JHK.out _)))
        refine wpQuiet_nil ?_
        intro w10 hw10
        obtain ⟨p1, rfl⟩ := hw10
        have HC4 := Lib.hid (eb_of HC3.out p1.h (Nat.le_refl _))
        clear z0 z1 z2 z3 z4 z5 v0 v1 y0 y1 y2 y3 y4 y5
        obtain ⟨y0, y1, y2, y3, y4, y5, y6⟩ := HX.out _ HC4.out
        have HB4 := Lib.hid y6
        clear y6
        obtain ⟨v0, v1⟩ := HVW.out _ HB4.out
        go_wp2_with fail
        go_roundw
        case rel => exact ⟨k + 1, by omega, by go_num, by go_num, HC4.out⟩
        case measure => simp [intOf]; try omega
    · have RJ := Lib.hid (remD_out (xs := xs) hft hin)
      rw [HT.out, decide_eq_false hin] at JHK
      rw [← RJ.out] at hrl ⊢
      generalize xs[k] = x at *
      obtain ⟨xk, xv, xd, xq⟩ := x
      dsimp only at v0 v1 JHK HVW
      by_cases hkf : f ≤ k
      · have i1 : (f : Int) ≤ (k : Int) := by omega
        have i2 : ¬ (k : Int) < (t : Int) := by omega
        have i3 : ¬ k < t := by omega
        have i6 : (t : Int) ≤ (k : Int) := by omega
        clear HT hin hkf RJ
        have z0 := abv_c y0
        have z1 := abv_c y1
        have z2 := abv_c y2
        have z3 := abv_c y3
        have z4 := abv_c y4
        have z5 := abv_c v0
        go_wp2_with fail
        refine wp_region_abv (by first | assumption | kernel_rfl) (by kernel_rfl) ?_
        repeat (first | go_big_quiet_step (exact callAbv (JHK.out _)) | quiet_step (exact callAbv (JHK.out _)))
        refine wpQuiet_nil ?_
        intro w10 hw10
        obtain ⟨p1, rfl⟩ := hw10
        have HC4 := Lib.hid (eb_of HC3.out p1.h (Nat.le_refl _))
        clear z0 z1 z2 z3 z4 z5 v0 v1 y0 y1 y2 y3 y4 y5
        obtain ⟨y0, y1, y2, y3, y4, y5, y6⟩ := HX.out _ HC4.out
        have HB4 := Lib.hid y6
        clear y6
        obtain ⟨v0, v1⟩ := HVW.out _ HB4.out
        go_wp2_with fail
        go_roundw
        case rel => exact ⟨k + 1, by omega, by go_num, by go_num, HC4.out⟩
        case measure => simp [intOf]; try omega
      · have i1 : ¬ (f : Int) ≤ (k : Int) := by omega
        have i3 : ¬ f ≤ k := by omega
        have i6 : (k : Int) < (f : Int) := by omega
        clear HT hin hkf RJ
        have z0 := abv_c y0
        have z1 := abv_c y1
        have z2 := abv_c y2
        have z3 := abv_c y3
        have z4 := abv_c y4
        have z5 := abv_c v0
        go_wp2_with fail
        refine wp_region_abv (by first | assumption | kernel_rfl) (by kernel_rfl) ?_
        repeat (first | go_big_quiet_step (exact callAbv (JHK.out _)) | quiet_step (exact callAbv (JHK.out _)))
        refine wpQuiet_nil ?_
        intro w10 hw10
        obtain ⟨p1, rfl⟩ := hw10
        have HC4 := Lib.hid (eb_of HC3.out p1.h (Nat.le_refl _))
        clear z0 z1 z2 z3 z4 z5 v0 v1 y0 y1 y2 y3 y4 y5
        obtain ⟨y0, y1, y2, y3, y4, y5, y6⟩ := HX.out _ HC4.out
        have HB4 := Lib.hid y6
        clear y6
        obtain ⟨v0, v1⟩ := HVW.out _ HB4.out
        go_wp2_with fail
        go_roundw
        case rel => exact ⟨k + 1, by omega, by go_num, by go_num, HC4.out⟩
        case measure => simp [intOf]; try omega
end Go.Proofs.Ytjnbdeahmbkbnaa.KK
