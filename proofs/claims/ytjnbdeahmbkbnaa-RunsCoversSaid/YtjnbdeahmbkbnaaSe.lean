/-
  RunsCovers: the walk.
-/
import Derived.Test.YtjnbdeahmbkbnaaSa
import Derived.Test.YtjnbdeahmbkbnaaSd
namespace Go.Proofs.Ytjnbdeahmbkbnaa.KK
open Go.ChangeShapes Go.WideShapes Go.ChangeAt Go.RowKit Go.Proofs

theorem ov_err {ia ib : Int} {xs ys : List El.En} (h : (covA ia xs).2 ≠ 0 ∨ (covA ib ys).2 ≠ 0) : ∃ g1 g2 : Int, ovA ia xs ib ys = (false, g1) ∧ ovA ib ys ia xs = (false, g2) ∧ ((g1 = 0 ∧ g2 = 0) ∨ (g1 ≠ 0 ∧ g2 ≠ 0)) := by
  by_cases a : (runE ia xs).2 = 0
  · by_cases b : (runE ib ys).2 = 0
    · by_cases k : xs.length = 0 ∨ ys.length = 0
      · exact ⟨0, 0, ovA_nil a b k, ovA_nil b a k.symm, .inl ⟨rfl, rfl⟩⟩
      · rw [covA_ok a (by omega), covA_ok b (by omega)] at h
        simp at h
    · exact ⟨_, _, ovA_no2 a b, ovA_no1 b, .inr ⟨b, b⟩⟩
  · by_cases b : (runE ib ys).2 = 0
    · exact ⟨_, _, ovA_no1 a, ovA_no2 b a, .inr ⟨a, a⟩⟩
    · exact ⟨_, _, ovA_no1 a, ovA_no1 b, .inr ⟨a, b⟩⟩
theorem cov_good {id : Int} {xs : List El.En} (h : (covA id xs).2 = 0) : (runE id xs).2 = 0 ∧ Rn xs := by
  by_cases a : (runE id xs).2 = 0
  · by_cases k : xs.length = 0
    · rw [covA_nil a k] at h; cases h
    · obtain ⟨_, hck, hs⟩ := run_ok a
      exact ⟨a, by omega, fun x hx => (El.chk_of (hck x hx)).1, hs⟩
  · rw [covA_no a] at h; exact absurd h a
set_option maxRecDepth 100000 in
set_option maxHeartbeats 8000000 in
theorem Covers8_any (ia : Int) (A : Option Addr) (c : Nat) (xs : List El.En) (ib : Int) (B : Option Addr) (d : Nat) (ys : List El.En) (lo hi : ByteArray) (bd : Bool) (w : World) (hf : EsAt w A xs) (hn : xs.length ≤ 9223372036854775807) (hs : Sized xs) (hcap : xs.length ≤ c) (hnil : A = none → c = 0) (hg : EsAt w B ys) (hm : ys.length ≤ 9223372036854775807) (ht : Sized ys) (hcap2 : ys.length ≤ d) (hnil2 : B = none → d = 0) (hlo : lo.size ≤ 9223372036854775807) (hhi : hi.size ≤ 9223372036854775807) :
    Calls Try.prog 7 #[.agg #[.int .i64 ia, .slice A xs.length c], .agg #[.int .i64 ib, .slice B ys.length d], .agg #[.string lo, .string hi, .bool bd]] w fun e w' => e = .returned (.bool true) ∧ Below w.heap.size w w' := by
  have HX := boxUUR ia A xs.length c ib B ys.length d lo hi bd w
  obtain ⟨x0, x1, x2, x3, x4, x5, x6, x7, x8⟩ := HX.out _ (Below.refl _ _)
  have HB := Lib.hid x8
  have JA := Lib.hid (fun w1 (h : Below w.heap.size w w1) => far8_any ia A c xs w1 (hf.below h (Nat.le_refl _)) hn hs)
  have JB := Lib.hid (fun w1 (h : Below w.heap.size w w1) => far8_any ib B d ys w1 (hg.below h (Nat.le_refl _)) hm ht)
  have JW := Lib.hid (fun w => awake8_any w)
  clear x7 x8
  cases hfa : farF xs with
  | true =>
    rw [hfa] at JA
    clear hfa hf hs hcap hnil hg ht hcap2 hnil2
    generalize xs.length = n at *
    generalize ys.length = m at *
    go_enter Try.func7, Try.ntmps7
    go_wp2_with fail
    refine (JA.out _ HB.out).mono ?_
    rintro e w0 ⟨rfl, hb⟩
    have HC0 := Lib.hid hb
    clear hb x0 x1 x2 x3 x4 x5 x6
    obtain ⟨y0, y1, y2, y3, y4, y5, y6, y7, y8⟩ := HX.out _ HC0.out
    have HB0 := Lib.hid y8
    clear y8
    go_wp2_with fail
    refine (JW.out _).mono ?_
    rintro e w99 ⟨rfl, hb⟩
    have HB99 := Lib.hid (eb_of HB0.out hb (Nat.le_refl _))
    clear hb
    go_wp2_with fail
    go_ret
    exact ⟨by first | rfl | (simp; done), HB99.out⟩
  | false =>
  have hl5 := far_len hfa
  rw [hfa] at JA
  clear hfa
  cases hfb : farF ys with
  | true =>
    rw [hfb] at JB
    clear hfb hf hs hcap hnil hg ht hcap2 hnil2 hl5
    generalize xs.length = n at *
    generalize ys.length = m at *
    go_enter Try.func7, Try.ntmps7
    go_wp2_with fail
    refine (JA.out _ HB.out).mono ?_
    rintro e w0 ⟨rfl, hb⟩
    have HC0 := Lib.hid hb
    clear hb x0 x1 x2 x3 x4 x5 x6
    obtain ⟨y0, y1, y2, y3, y4, y5, y6, y7, y8⟩ := HX.out _ HC0.out
    have HB0 := Lib.hid y8
    clear y8
    go_wp2_with fail
    refine (JB.out _ HB0.out).mono ?_
    rintro e w1 ⟨rfl, hb⟩
    have HC1 := Lib.hid (eb_of HC0.out hb (Nat.le_refl _))
    clear hb y0 y1 y2 y3 y4 y5 y6 y7
    obtain ⟨y0, y1, y2, y3, y4, y5, y6, y7, y8⟩ := HX.out _ HC1.out
    have HB1 := Lib.hid y8
    clear y8
    go_wp2_with fail
    refine (JW.out _).mono ?_
    rintro e w99 ⟨rfl, hb⟩
    have HB99 := Lib.hid (eb_of HB1.out hb (Nat.le_refl _))
    clear hb
    go_wp2_with fail
    go_ret
    exact ⟨by first | rfl | (simp; done), HB99.out⟩
  | false =>
  have hm5 := far_len hfb
  rw [hfb] at JB
  clear hfb
  by_cases hk1 : 100 < lo.size
  · have hk1' : (100 : Int) < (lo.size : Int) := by omega
    clear hk1 hf hs hcap hnil hg ht hcap2 hnil2 hl5 hm5
    generalize xs.length = n at *
    generalize ys.length = m at *
    go_enter Try.func7, Try.ntmps7
    go_wp2_with fail
    refine (JA.out _ HB.out).mono ?_
    rintro e w0 ⟨rfl, hb⟩
    have HC0 := Lib.hid hb
    clear hb x0 x1 x2 x3 x4 x5 x6
    obtain ⟨y0, y1, y2, y3, y4, y5, y6, y7, y8⟩ := HX.out _ HC0.out
    have HB0 := Lib.hid y8
    clear y8
    go_wp2_with fail
    refine (JB.out _ HB0.out).mono ?_
    rintro e w1 ⟨rfl, hb⟩
    have HC1 := Lib.hid (eb_of HC0.out hb (Nat.le_refl _))
    clear hb y0 y1 y2 y3 y4 y5 y6 y7
    obtain ⟨y0, y1, y2, y3, y4, y5, y6, y7, y8⟩ := HX.out _ HC1.out
    have HB1 := Lib.hid y8
    clear y8
    go_wp2_with fail
    refine (JW.out _).mono ?_
    rintro e w99 ⟨rfl, hb⟩
    have HB99 := Lib.hid (eb_of HB1.out hb (Nat.le_refl _))
    clear hb
    go_wp2_with fail
    go_ret
    exact ⟨by first | rfl | (simp; done), HB99.out⟩
  by_cases hk2 : 100 < hi.size
  · have hk1' : ¬ (100 : Int) < (lo.size : Int) := by omega
    have hk2' : (100 : Int) < (hi.size : Int) := by omega
    clear hk1 hk2 hf hs hcap hnil hg ht hcap2 hnil2 hl5 hm5
    generalize xs.length = n at *
    generalize ys.length = m at *
    go_enter Try.func7, Try.ntmps7
    go_wp2_with fail
    refine (JA.out _ HB.out).mono ?_
    rintro e w0 ⟨rfl, hb⟩
    have HC0 := Lib.hid hb
    clear hb x0 x1 x2 x3 x4 x5 x6
    obtain ⟨y0, y1, y2, y3, y4, y5, y6, y7, y8⟩ := HX.out _ HC0.out
    have HB0 := Lib.hid y8
    clear y8
    go_wp2_with fail
    refine (JB.out _ HB0.out).mono ?_
    rintro e w1 ⟨rfl, hb⟩
    have HC1 := Lib.hid (eb_of HC0.out hb (Nat.le_refl _))
    clear hb y0 y1 y2 y3 y4 y5 y6 y7
    obtain ⟨y0, y1, y2, y3, y4, y5, y6, y7, y8⟩ := HX.out _ HC1.out
    have HB1 := Lib.hid y8
    clear y8
    go_wp2_with fail
    refine (JW.out _).mono ?_
    rintro e w99 ⟨rfl, hb⟩
    have HB99 := Lib.hid (eb_of HB1.out hb (Nat.le_refl _))
    clear hb
    go_wp2_with fail
    go_ret
    exact ⟨by first | rfl | (simp; done), HB99.out⟩
  have hk1' : ¬ (100 : Int) < (lo.size : Int) := by omega
  have hk2' : ¬ (100 : Int) < (hi.size : Int) := by omega
  have hn5 : xs.length ≤ 4294967295 := by omega
  have hm5' : ys.length ≤ 4294967295 := by omega
  have JP := Lib.hid (fun w1 (h : Below w.heap.size w w1) => pCover8_any ia A c xs w1 (hf.below h (Nat.le_refl _)) hn5 hs)
  have JQ := Lib.hid (fun w1 (h : Below w.heap.size w w1) => pCover8_any ib B d ys w1 (hg.below h (Nat.le_refl _)) hm5' ht)
  have JO := Lib.hid (fun w1 (h : Below w.heap.size w w1) => pOver8_any ia A c xs ib B d ys w1 (hf.below h (Nat.le_refl _)) hn5 hs (hg.below h (Nat.le_refl _)) hm5' ht)
  have JR := Lib.hid (fun w1 (h : Below w.heap.size w w1) => pOver8_any ib B d ys ia A c xs w1 (hg.below h (Nat.le_refl _)) hm5' ht (hf.below h (Nat.le_refl _)) hn5 hs)
  have JT := Lib.hid (fun (l1 l2 : ByteArray) (b1 : Bool) (z1 : l1.size ≤ 9223372036854775807) (z2 : l2.size ≤ 9223372036854775807) w1 (h : Below w.heap.size w w1) => pPart8_any ia A c xs l1 l2 b1 w1 (hf.below h (Nat.le_refl _)) hn5 hs hcap hnil z1 z2)
  have HF := Lib.hid hf
  have HG := Lib.hid hg
  unfold rngV at JP JQ
  clear hf hs hcap hnil hg ht hcap2 hnil2 hl5 hm5 hk1 hk2
  by_cases he : (covA ia xs).2 ≠ 0 ∨ (covA ib ys).2 ≠ 0
  · obtain ⟨g1, g2, e1, e2, hgg⟩ := ov_err he
    rw [e1] at JO
    rw [e2] at JR
    dsimp only at JO JR
    clear e1 e2 JT HF HG
    generalize covA ia xs = p at *
    generalize covA ib ys = q at *
    generalize xs.length = n at *
    generalize ys.length = m at *
    obtain ⟨⟨pl, ph, pd⟩, pe⟩ := p
    obtain ⟨⟨ql, qh, qd⟩, qe⟩ := q
    dsimp only at JP JQ he
    rcases hgg with ⟨rfl, rfl⟩ | ⟨hg1, hg2⟩
    · by_cases hpe : pe = 0
      · subst hpe
        have hqe : qe ≠ 0 := by simpa using he
        obtain ⟨b1, b2⟩ := ne_b hqe
        clear he hqe
        go_enter Try.func7, Try.ntmps7
        go_wp2_with fail
        refine (JA.out _ HB.out).mono ?_
        rintro e w0 ⟨rfl, hb⟩
        have HC0 := Lib.hid hb
        clear hb x0 x1 x2 x3 x4 x5 x6
        obtain ⟨y0, y1, y2, y3, y4, y5, y6, y7, y8⟩ := HX.out _ HC0.out
        have HB0 := Lib.hid y8
        clear y8
        go_wp2_with fail
        refine (JB.out _ HB0.out).mono ?_
        rintro e w1 ⟨rfl, hb⟩
        have HC1 := Lib.hid (eb_of HC0.out hb (Nat.le_refl _))
        clear hb y0 y1 y2 y3 y4 y5 y6 y7
        obtain ⟨y0, y1, y2, y3, y4, y5, y6, y7, y8⟩ := HX.out _ HC1.out
        have HB1 := Lib.hid y8
        clear y8
        go_wp2_with fail
        refine (JP.out _ HB1.out).mono ?_
        rintro e w2 ⟨rfl, hb⟩
        have HC2 := Lib.hid (eb_of HC1.out hb (Nat.le_refl _))
        clear hb y0 y1 y2 y3 y4 y5 y6 y7
        have hbx := alloc_below w2 (.cells #[.string pl, .string ph, .bool pd] 37)
        have HC3 := Lib.hid (eb_of HC2.out hbx (Nat.le_refl _))
        have RP3 := Lib.hid (Row3.new w2 37 (.string pl) (.string ph) (.bool pd))
        clear hbx
        obtain ⟨y0, y1, y2, y3, y4, y5, y6, y7, y8⟩ := HX.out _ HC3.out
        have HB3 := Lib.hid y8
        clear y8
        go_wp2_with fail
        refine (JQ.out _ HB3.out).mono ?_
        rintro e w4 ⟨rfl, hb⟩
        have HC4 := Lib.hid (eb_of HC3.out hb (Nat.le_refl _))
        have RP4 := Lib.hid (RP3.out.below hb (Nat.le_refl _))
        clear hb y0 y1 y2 y3 y4 y5 y6 y7
        have hbx := alloc_below w4 (.cells #[.string ql, .string qh, .bool qd] 37)
        have HC5 := Lib.hid (eb_of HC4.out hbx (Nat.le_refl _))
        have RP5 := Lib.hid (RP4.out.below hbx (Nat.le_refl _))
        have RQ5 := Lib.hid (Row3.new w4 37 (.string ql) (.string qh) (.bool qd))
        clear hbx
        obtain ⟨y0, y1, y2, y3, y4, y5, y6, y7, y8⟩ := HX.out _ HC5.out
        have HB5 := Lib.hid y8
        clear y8
        go_wp2_with fail
        refine (JO.out _ HB5.out).mono ?_
        rintro e w6 ⟨rfl, hb⟩
        have HC6 := Lib.hid (eb_of HC5.out hb (Nat.le_refl _))
        have RP6 := Lib.hid (RP5.out.below hb (Nat.le_refl _))
        have RQ6 := Lib.hid (RQ5.out.below hb (Nat.le_refl _))
        clear hb y0 y1 y2 y3 y4 y5 y6 y7
        obtain ⟨y0, y1, y2, y3, y4, y5, y6, y7, y8⟩ := HX.out _ HC6.out
        have HB6 := Lib.hid y8
        clear y8
        go_wp2_with fail
        refine (JR.out _ HB6.out).mono ?_
        rintro e w7 ⟨rfl, hb⟩
        have HC7 := Lib.hid (eb_of HC6.out hb (Nat.le_refl _))
        have RP7 := Lib.hid (RP6.out.below hb (Nat.le_refl _))
        have RQ7 := Lib.hid (RQ6.out.below hb (Nat.le_refl _))
        clear hb y0 y1 y2 y3 y4 y5 y6 y7
        obtain ⟨y0, y1, y2, y3, y4, y5, y6, y7, y8⟩ := HX.out _ HC7.out
        have HB7 := Lib.hid y8
        clear y8
        go_wp2_with fail
        refine (JW.out _).mono ?_
        rintro e w99 ⟨rfl, hb⟩
        have HB99 := Lib.hid (eb_of HB7.out hb (Nat.le_refl _))
        clear hb
        go_wp2_with fail
        go_ret
        exact ⟨by first | rfl | (simp; done), HB99.out⟩
      · obtain ⟨b1, b2⟩ := ne_b hpe
        clear he hpe
        go_enter Try.func7, Try.ntmps7
        go_wp2_with fail
        refine (JA.out _ HB.out).mono ?_
        rintro e w0 ⟨rfl, hb⟩
        have HC0 := Lib.hid hb
        clear hb x0 x1 x2 x3 x4 x5 x6
        obtain ⟨y0, y1, y2, y3, y4, y5, y6, y7, y8⟩ := HX.out _ HC0.out
        have HB0 := Lib.hid y8
        clear y8
        go_wp2_with fail
        refine (JB.out _ HB0.out).mono ?_
        rintro e w1 ⟨rfl, hb⟩
        have HC1 := Lib.hid (eb_of HC0.out hb (Nat.le_refl _))
        clear hb y0 y1 y2 y3 y4 y5 y6 y7
        obtain ⟨y0, y1, y2, y3, y4, y5, y6, y7, y8⟩ := HX.out _ HC1.out
        have HB1 := Lib.hid y8
        clear y8
        go_wp2_with fail
        refine (JP.out _ HB1.out).mono ?_
        rintro e w2 ⟨rfl, hb⟩
        have HC2 := Lib.hid (eb_of HC1.out hb (Nat.le_refl _))
        clear hb y0 y1 y2 y3 y4 y5 y6 y7
        have hbx := alloc_below w2 (.cells #[.string pl, .string ph, .bool pd] 37)
        have HC3 := Lib.hid (eb_of HC2.out hbx (Nat.le_refl _))
        have RP3 := Lib.hid (Row3.new w2 37 (.string pl) (.string ph) (.bool pd))
        clear hbx
        obtain ⟨y0, y1, y2, y3, y4, y5, y6, y7, y8⟩ := HX.out _ HC3.out
        have HB3 := Lib.hid y8
        clear y8
        go_wp2_with fail
        refine (JQ.out _ HB3.out).mono ?_
        rintro e w4 ⟨rfl, hb⟩
        have HC4 := Lib.hid (eb_of HC3.out hb (Nat.le_refl _))
        have RP4 := Lib.hid (RP3.out.below hb (Nat.le_refl _))
        clear hb y0 y1 y2 y3 y4 y5 y6 y7
        have hbx := alloc_below w4 (.cells #[.string ql, .string qh, .bool qd] 37)
        have HC5 := Lib.hid (eb_of HC4.out hbx (Nat.le_refl _))
        have RP5 := Lib.hid (RP4.out.below hbx (Nat.le_refl _))
        have RQ5 := Lib.hid (Row3.new w4 37 (.string ql) (.string qh) (.bool qd))
        clear hbx
        obtain ⟨y0, y1, y2, y3, y4, y5, y6, y7, y8⟩ := HX.out _ HC5.out
        have HB5 := Lib.hid y8
        clear y8
        go_wp2_with fail
        refine (JO.out _ HB5.out).mono ?_
        rintro e w6 ⟨rfl, hb⟩
        have HC6 := Lib.hid (eb_of HC5.out hb (Nat.le_refl _))
        have RP6 := Lib.hid (RP5.out.below hb (Nat.le_refl _))
        have RQ6 := Lib.hid (RQ5.out.below hb (Nat.le_refl _))
        clear hb y0 y1 y2 y3 y4 y5 y6 y7
        obtain ⟨y0, y1, y2, y3, y4, y5, y6, y7, y8⟩ := HX.out _ HC6.out
        have HB6 := Lib.hid y8
        clear y8
        go_wp2_with fail
        refine (JR.out _ HB6.out).mono ?_
        rintro e w7 ⟨rfl, hb⟩
        have HC7 := Lib.hid (eb_of HC6.out hb (Nat.le_refl _))
        have RP7 := Lib.hid (RP6.out.below hb (Nat.le_refl _))
        have RQ7 := Lib.hid (RQ6.out.below hb (Nat.le_refl _))
        clear hb y0 y1 y2 y3 y4 y5 y6 y7
        obtain ⟨y0, y1, y2, y3, y4, y5, y6, y7, y8⟩ := HX.out _ HC7.out
        have HB7 := Lib.hid y8
        clear y8
        go_wp2_with fail
        refine (JW.out _).mono ?_
        rintro e w99 ⟨rfl, hb⟩
        have HB99 := Lib.hid (eb_of HB7.out hb (Nat.le_refl _))
        clear hb
        go_wp2_with fail
        go_ret
        exact ⟨by first | rfl | (simp; done), HB99.out⟩
    · obtain ⟨b3, b4⟩ := ne_b hg1
      obtain ⟨b5, b6⟩ := ne_b hg2
      clear hg1 hg2
      by_cases hpe : pe = 0
      · subst hpe
        have hqe : qe ≠ 0 := by simpa using he
        obtain ⟨b1, b2⟩ := ne_b hqe
        clear he hqe
        go_enter Try.func7, Try.ntmps7
        go_wp2_with fail
        refine (JA.out _ HB.out).mono ?_
        rintro e w0 ⟨rfl, hb⟩
        have HC0 := Lib.hid hb
        clear hb x0 x1 x2 x3 x4 x5 x6
        obtain ⟨y0, y1, y2, y3, y4, y5, y6, y7, y8⟩ := HX.out _ HC0.out
        have HB0 := Lib.hid y8
        clear y8
        go_wp2_with fail
        refine (JB.out _ HB0.out).mono ?_
        rintro e w1 ⟨rfl, hb⟩
        have HC1 := Lib.hid (eb_of HC0.out hb (Nat.le_refl _))
        clear hb y0 y1 y2 y3 y4 y5 y6 y7
        obtain ⟨y0, y1, y2, y3, y4, y5, y6, y7, y8⟩ := HX.out _ HC1.out
        have HB1 := Lib.hid y8
        clear y8
        go_wp2_with fail
        refine (JP.out _ HB1.out).mono ?_
        rintro e w2 ⟨rfl, hb⟩
        have HC2 := Lib.hid (eb_of HC1.out hb (Nat.le_refl _))
        clear hb y0 y1 y2 y3 y4 y5 y6 y7
        have hbx := alloc_below w2 (.cells #[.string pl, .string ph, .bool pd] 37)
        have HC3 := Lib.hid (eb_of HC2.out hbx (Nat.le_refl _))
        have RP3 := Lib.hid (Row3.new w2 37 (.string pl) (.string ph) (.bool pd))
        clear hbx
        obtain ⟨y0, y1, y2, y3, y4, y5, y6, y7, y8⟩ := HX.out _ HC3.out
        have HB3 := Lib.hid y8
        clear y8
        go_wp2_with fail
        refine (JQ.out _ HB3.out).mono ?_
        rintro e w4 ⟨rfl, hb⟩
        have HC4 := Lib.hid (eb_of HC3.out hb (Nat.le_refl _))
        have RP4 := Lib.hid (RP3.out.below hb (Nat.le_refl _))
        clear hb y0 y1 y2 y3 y4 y5 y6 y7
        have hbx := alloc_below w4 (.cells #[.string ql, .string qh, .bool qd] 37)
        have HC5 := Lib.hid (eb_of HC4.out hbx (Nat.le_refl _))
        have RP5 := Lib.hid (RP4.out.below hbx (Nat.le_refl _))
        have RQ5 := Lib.hid (Row3.new w4 37 (.string ql) (.string qh) (.bool qd))
        clear hbx
        obtain ⟨y0, y1, y2, y3, y4, y5, y6, y7, y8⟩ := HX.out _ HC5.out
        have HB5 := Lib.hid y8
        clear y8
        go_wp2_with fail
        refine (JO.out _ HB5.out).mono ?_
        rintro e w6 ⟨rfl, hb⟩
        have HC6 := Lib.hid (eb_of HC5.out hb (Nat.le_refl _))
        have RP6 := Lib.hid (RP5.out.below hb (Nat.le_refl _))
        have RQ6 := Lib.hid (RQ5.out.below hb (Nat.le_refl _))
        clear hb y0 y1 y2 y3 y4 y5 y6 y7
        obtain ⟨y0, y1, y2, y3, y4, y5, y6, y7, y8⟩ := HX.out _ HC6.out
        have HB6 := Lib.hid y8
        clear y8
        go_wp2_with fail
        refine (JR.out _ HB6.out).mono ?_
        rintro e w7 ⟨rfl, hb⟩
        have HC7 := Lib.hid (eb_of HC6.out hb (Nat.le_refl _))
        have RP7 := Lib.hid (RP6.out.below hb (Nat.le_refl _))
        have RQ7 := Lib.hid (RQ6.out.below hb (Nat.le_refl _))
        clear hb y0 y1 y2 y3 y4 y5 y6 y7
        obtain ⟨y0, y1, y2, y3, y4, y5, y6, y7, y8⟩ := HX.out _ HC7.out
        have HB7 := Lib.hid y8
        clear y8
        go_wp2_with fail
        refine (JW.out _).mono ?_
        rintro e w99 ⟨rfl, hb⟩
        have HB99 := Lib.hid (eb_of HB7.out hb (Nat.le_refl _))
        clear hb
        go_wp2_with fail
        go_ret
        exact ⟨by first | rfl | (simp; done), HB99.out⟩
      · obtain ⟨b1, b2⟩ := ne_b hpe
        clear he hpe
        go_enter Try.func7, Try.ntmps7
        go_wp2_with fail
        refine (JA.out _ HB.out).mono ?_
        rintro e w0 ⟨rfl, hb⟩
        have HC0 := Lib.hid hb
        clear hb x0 x1 x2 x3 x4 x5 x6
        obtain ⟨y0, y1, y2, y3, y4, y5, y6, y7, y8⟩ := HX.out _ HC0.out
        have HB0 := Lib.hid y8
        clear y8
        go_wp2_with fail
        refine (JB.out _ HB0.out).mono ?_
        rintro e w1 ⟨rfl, hb⟩
        have HC1 := Lib.hid (eb_of HC0.out hb (Nat.le_refl _))
        clear hb y0 y1 y2 y3 y4 y5 y6 y7
        obtain ⟨y0, y1, y2, y3, y4, y5, y6, y7, y8⟩ := HX.out _ HC1.out
        have HB1 := Lib.hid y8
        clear y8
        go_wp2_with fail
        refine (JP.out _ HB1.out).mono ?_
        rintro e w2 ⟨rfl, hb⟩
        have HC2 := Lib.hid (eb_of HC1.out hb (Nat.le_refl _))
        clear hb y0 y1 y2 y3 y4 y5 y6 y7
        have hbx := alloc_below w2 (.cells #[.string pl, .string ph, .bool pd] 37)
        have HC3 := Lib.hid (eb_of HC2.out hbx (Nat.le_refl _))
        have RP3 := Lib.hid (Row3.new w2 37 (.string pl) (.string ph) (.bool pd))
        clear hbx
        obtain ⟨y0, y1, y2, y3, y4, y5, y6, y7, y8⟩ := HX.out _ HC3.out
        have HB3 := Lib.hid y8
        clear y8
        go_wp2_with fail
        refine (JQ.out _ HB3.out).mono ?_
        rintro e w4 ⟨rfl, hb⟩
        have HC4 := Lib.hid (eb_of HC3.out hb (Nat.le_refl _))
        have RP4 := Lib.hid (RP3.out.below hb (Nat.le_refl _))
        clear hb y0 y1 y2 y3 y4 y5 y6 y7
        have hbx := alloc_below w4 (.cells #[.string ql, .string qh, .bool qd] 37)
        have HC5 := Lib.hid (eb_of HC4.out hbx (Nat.le_refl _))
        have RP5 := Lib.hid (RP4.out.below hbx (Nat.le_refl _))
        have RQ5 := Lib.hid (Row3.new w4 37 (.string ql) (.string qh) (.bool qd))
        clear hbx
        obtain ⟨y0, y1, y2, y3, y4, y5, y6, y7, y8⟩ := HX.out _ HC5.out
        have HB5 := Lib.hid y8
        clear y8
        go_wp2_with fail
        refine (JO.out _ HB5.out).mono ?_
        rintro e w6 ⟨rfl, hb⟩
        have HC6 := Lib.hid (eb_of HC5.out hb (Nat.le_refl _))
        have RP6 := Lib.hid (RP5.out.below hb (Nat.le_refl _))
        have RQ6 := Lib.hid (RQ5.out.below hb (Nat.le_refl _))
        clear hb y0 y1 y2 y3 y4 y5 y6 y7
        obtain ⟨y0, y1, y2, y3, y4, y5, y6, y7, y8⟩ := HX.out _ HC6.out
        have HB6 := Lib.hid y8
        clear y8
        go_wp2_with fail
        refine (JR.out _ HB6.out).mono ?_
        rintro e w7 ⟨rfl, hb⟩
        have HC7 := Lib.hid (eb_of HC6.out hb (Nat.le_refl _))
        have RP7 := Lib.hid (RP6.out.below hb (Nat.le_refl _))
        have RQ7 := Lib.hid (RQ6.out.below hb (Nat.le_refl _))
        clear hb y0 y1 y2 y3 y4 y5 y6 y7
        obtain ⟨y0, y1, y2, y3, y4, y5, y6, y7, y8⟩ := HX.out _ HC7.out
        have HB7 := Lib.hid y8
        clear y8
        go_wp2_with fail
        refine (JW.out _).mono ?_
        rintro e w99 ⟨rfl, hb⟩
        have HB99 := Lib.hid (eb_of HB7.out hb (Nat.le_refl _))
        clear hb
        go_wp2_with fail
        go_ret
        exact ⟨by first | rfl | (simp; done), HB99.out⟩
  have he1 : (covA ia xs).2 = 0 := by
    by_cases g : (covA ia xs).2 = 0
    · exact g
    · exact absurd (.inl g) he
  have he2 : (covA ib ys).2 = 0 := by
    by_cases g : (covA ib ys).2 = 0
    · exact g
    · exact absurd (.inr g) he
  obtain ⟨r1, X⟩ := cov_good he1
  obtain ⟨r2, Y⟩ := cov_good he2
  have hx0 := X.pos
  have hy0 := Y.pos
  rw [covA_ok r1 (by omega)] at JP
  rw [covA_ok r2 (by omega)] at JQ
  rw [ovA_ok r1 r2 (by omega)] at JO
  rw [ovA_ok r2 r1 (by omega), ov_symm X Y] at JR
  have cs1 := cov_sizes X.pos X.key
  have cs2 := cov_sizes Y.pos Y.key
  have JT1 := Lib.hid (JT.out (covL xs) (covH xs) (covB xs) (by omega) (by omega))
  rw [part_cov r1 X] at JT1
  have JTX := Lib.hid (JT.out lo hi bd hlo hhi)
  dsimp only at JP JQ JO JR JT1
  have JC := Lib.hid (fun w => rCheckRange_any lo hi bd w hlo hhi)
  have JM := Lib.hid (fun w => rMeet_any (covL xs) (covH xs) (covB xs) lo hi bd w (by omega) (by omega) hlo hhi)
  have HSOME := Lib.hid (some_is X Y)
  have JHQ := Lib.hid (fun (x : El.En) (hx : x ∈ xs) w => Has_any (covL ys) (covH ys) (covB ys) x.1 w (by omega) (by omega) (by have := X.key x hx; omega))
  have JHP := Lib.hid (fun (y : El.En) (hy : y ∈ ys) w => Has_any (covL xs) (covH xs) (covB xs) y.1 w (by omega) (by omega) (by have := Y.key y hy; omega))
  clear he he1 he2 JT
  by_cases hc : chkR lo hi bd = 0
  rotate_left
  · obtain ⟨b1, b2⟩ := ne_b hc
    clear cs1 cs2 X Y r1 r2 hc JM JTX
    generalize chkR lo hi bd = rc at *
    generalize ovV xs ys = ov at *
    generalize covL xs = pl at *
    generalize covH xs = ph at *
    generalize covB xs = pd at *
    generalize covL ys = ql at *
    generalize covH ys = qh at *
    generalize covB ys = qd at *
    go_enter Try.func7, Try.ntmps7
    go_wp2_with fail
    refine (JA.out _ HB.out).mono ?_
    rintro e w0 ⟨rfl, hb⟩
    have HC0 := Lib.hid hb
    clear hb x0 x1 x2 x3 x4 x5 x6
    obtain ⟨y0, y1, y2, y3, y4, y5, y6, y7, y8⟩ := HX.out _ HC0.out
    have HB0 := Lib.hid y8
    clear y8
    go_wp2_with fail
    refine (JB.out _ HB0.out).mono ?_
    rintro e w1 ⟨rfl, hb⟩
    have HC1 := Lib.hid (eb_of HC0.out hb (Nat.le_refl _))
    clear hb y0 y1 y2 y3 y4 y5 y6 y7
    obtain ⟨y0, y1, y2, y3, y4, y5, y6, y7, y8⟩ := HX.out _ HC1.out
    have HB1 := Lib.hid y8
    clear y8
    go_wp2_with fail
    refine (JP.out _ HB1.out).mono ?_
    rintro e w2 ⟨rfl, hb⟩
    have HC2 := Lib.hid (eb_of HC1.out hb (Nat.le_refl _))
    clear hb y0 y1 y2 y3 y4 y5 y6 y7
    have hbx := alloc_below w2 (.cells #[.string pl, .string ph, .bool pd] 37)
    have HC3 := Lib.hid (eb_of HC2.out hbx (Nat.le_refl _))
    have RP3 := Lib.hid (Row3.new w2 37 (.string pl) (.string ph) (.bool pd))
    clear hbx
    obtain ⟨y0, y1, y2, y3, y4, y5, y6, y7, y8⟩ := HX.out _ HC3.out
    have HB3 := Lib.hid y8
    clear y8
    go_wp2_with fail
    refine (JQ.out _ HB3.out).mono ?_
    rintro e w4 ⟨rfl, hb⟩
    have HC4 := Lib.hid (eb_of HC3.out hb (Nat.le_refl _))
    have RP4 := Lib.hid (RP3.out.below hb (Nat.le_refl _))
    clear hb y0 y1 y2 y3 y4 y5 y6 y7
    have hbx := alloc_below w4 (.cells #[.string ql, .string qh, .bool qd] 37)
    have HC5 := Lib.hid (eb_of HC4.out hbx (Nat.le_refl _))
    have RP5 := Lib.hid (RP4.out.below hbx (Nat.le_refl _))
    have RQ5 := Lib.hid (Row3.new w4 37 (.string ql) (.string qh) (.bool qd))
    clear hbx
    obtain ⟨y0, y1, y2, y3, y4, y5, y6, y7, y8⟩ := HX.out _ HC5.out
    have HB5 := Lib.hid y8
    clear y8
    go_wp2_with fail
    refine (JO.out _ HB5.out).mono ?_
    rintro e w6 ⟨rfl, hb⟩
    have HC6 := Lib.hid (eb_of HC5.out hb (Nat.le_refl _))
    have RP6 := Lib.hid (RP5.out.below hb (Nat.le_refl _))
    have RQ6 := Lib.hid (RQ5.out.below hb (Nat.le_refl _))
    clear hb y0 y1 y2 y3 y4 y5 y6 y7
    obtain ⟨y0, y1, y2, y3, y4, y5, y6, y7, y8⟩ := HX.out _ HC6.out
    have HB6 := Lib.hid y8
    clear y8
    go_wp2_with fail
    refine (JR.out _ HB6.out).mono ?_
    rintro e w7 ⟨rfl, hb⟩
    have HC7 := Lib.hid (eb_of HC6.out hb (Nat.le_refl _))
    have RP7 := Lib.hid (RP6.out.below hb (Nat.le_refl _))
    have RQ7 := Lib.hid (RQ6.out.below hb (Nat.le_refl _))
    clear hb y0 y1 y2 y3 y4 y5 y6 y7
    obtain ⟨y0, y1, y2, y3, y4, y5, y6, y7, y8⟩ := HX.out _ HC7.out
    have HB7 := Lib.hid y8
    clear y8
    have rp0 := RP7.out.c0
    have rp1 := RP7.out.c1
    have rp2 := RP7.out.c2
    go_wp2_with fail
    clear rp0 rp1 rp2
    refine (JT1.out _ HB7.out).mono ?_
    rintro e w8 ⟨rfl, hb⟩
    have HC8 := Lib.hid (eb_of HC7.out hb (Nat.le_refl _))
    have RP8 := Lib.hid (RP7.out.below hb (Nat.le_refl _))
    have RQ8 := Lib.hid (RQ7.out.below hb (Nat.le_refl _))
    clear hb y0 y1 y2 y3 y4 y5 y6 y7
    obtain ⟨y0, y1, y2, y3, y4, y5, y6, y7, y8⟩ := HX.out _ HC8.out
    have HB8 := Lib.hid y8
    clear y8
    go_wp2_with fail
    refine (JC.out _).mono ?_
    rintro e w9 ⟨rfl, hb⟩
    have HC9 := Lib.hid (eb_of HC8.out hb (Nat.le_refl _))
    have RP9 := Lib.hid (RP8.out.below hb (Nat.le_refl _))
    have RQ9 := Lib.hid (RQ8.out.below hb (Nat.le_refl _))
    clear hb y0 y1 y2 y3 y4 y5 y6 y7
    obtain ⟨y0, y1, y2, y3, y4, y5, y6, y7, y8⟩ := HX.out _ HC9.out
    have HB9 := Lib.hid y8
    clear y8
    go_wp2_with fail
    have HALL : Hid (∀ w', Below w9.heap.size w9 w' → Below (((w.alloc (.cells #[.int .i64 ia, .slice A xs.length c] 24)).alloc (.cells #[.int .i64 ib, .slice B ys.length d] 24)).alloc (.cells #[.string lo, .string hi, .bool bd] 37)).heap.size (((w.alloc (.cells #[.int .i64 ia, .slice A xs.length c] 24)).alloc (.cells #[.int .i64 ib, .slice B ys.length d] 24)).alloc (.cells #[.string lo, .string hi, .bool bd] 37)) w' ∧ Row3 w' _ _ _ _ _ ∧ Row3 w' _ _ _ _ _) := Lib.hid (fun w' h => ⟨HC9.out.trans (h.mono HC9.out.size), RP9.out.below h (Nat.le_refl _), RQ9.out.below h (Nat.le_refl _)⟩)
    clear y0 y1 y2 y3 y4 y5 y6 y7 RP9 RQ9
    go_loopw [24, 25] (fun u i wr => ∃ k : Nat, k ≤ xs.length ∧ u = .bool (anyC (xs.take k) ql qh qd) ∧ i = .int .i64 k ∧ Below w9.heap.size w9 wr) (fun _ i _ => xs.length - (intOf i).toNat)
    case atStart => exact ⟨0, Nat.zero_le _, rfl, rfl, Below.refl _ _⟩
    case round =>
      obtain ⟨k, hk, rfl, rfl, hb⟩ := hrel
      have HZ := Lib.hid hb
      obtain ⟨hc, rp, rq⟩ := HALL.out _ hb
      obtain ⟨y0, y1, y2, y3, y4, y5, y6, y7, y8⟩ := HX.out _ hc
      have HBr := Lib.hid y8
      clear hb hc y8
      by_cases hlt : k < xs.length
      · have hk0 : (0 : Int) ≤ (k : Int) := by omega
        have hk1 : (k : Int) < (xs.length : Int) := by omega
        have HN := Lib.hid (anyC_next hlt ql qh qd)
        have JH := Lib.hid (fun w => JHQ.out xs[k] (List.getElem_mem hlt) w)
        rcases HF.out with h0 | ⟨b, off, rfl, hbl, hc⟩
        · subst h0; simp at hlt
        have g0 := (HBr.out.cell (p := ⟨b, off + k * 4, none⟩) hbl).trans (hc k hlt).1
        clear hc hbl rp
        generalize hasB ql qh qd xs[k].1 = hv at *
        generalize xs[k].1 = xk at *
        have c0 := rq.c0
        have c1 := rq.c1
        have c2 := rq.c2
        have z0 := abv_c y0
        have z1 := abv_c y1
        have z2 := abv_c c0
        have z3 := abv_c c1
        have z4 := abv_c c2
        have z5 := abv_c g0
        cases hu : anyC (xs.take k) ql qh qd with
        | true =>
          rw [hu, Bool.true_or] at HN
          clear hu
          go_wp2_with fail
          refine wp_region_abv (by first | assumption | kernel_rfl) (by kernel_rfl) ?_
          repeat (first | go_big_quiet_step (exact callAbv (JH.out _)) | quiet_step (exact callAbv (JH.out _)))
          refine wpQuiet_nil ?_
          intro w90 hw90
          obtain ⟨p1, rfl⟩ := hw90
          have HZ1 := Lib.hid (eb_of HZ.out p1.h (Nat.le_refl _))
          go_wp2_with fail
          go_roundw
          case rel => exact ⟨k + 1, by omega, by rw [HN.out], by go_num, HZ1.out⟩
          case measure => simp [intOf]; try omega
        | false =>
          rw [hu, Bool.false_or] at HN
          clear hu
          go_wp2_with fail
          refine wp_region_abv (by first | assumption | kernel_rfl) (by kernel_rfl) ?_
          repeat (first | go_big_quiet_step (exact callAbv (JH.out _)) | quiet_step (exact callAbv (JH.out _)))
          refine wpQuiet_nil ?_
          intro w90 hw90
          obtain ⟨p1, rfl⟩ := hw90
          have HZ1 := Lib.hid (eb_of HZ.out p1.h (Nat.le_refl _))
          go_wp2_with fail
          go_roundw
          case rel => exact ⟨k + 1, by omega, by rw [HN.out], by go_num, HZ1.out⟩
          case measure => simp [intOf]; try omega
      obtain rfl : k = xs.length := by omega
      rw [List.take_length]
      generalize hA1 : anyC xs ql qh qd = v1 at *
      clear hlt hk
      go_wp2_with fail
      clear y0 y1 y2 y3 y4 y5 y6 y7 rp rq
      go_loopw [24, 26] (fun u i wr2 => ∃ k : Nat, k ≤ ys.length ∧ u = .bool (v1 || anyC (ys.take k) pl ph pd) ∧ i = .int .i64 k ∧ Below w9.heap.size w9 wr2) (fun _ i _ => ys.length - (intOf i).toNat)
      case atStart => exact ⟨0, Nat.zero_le _, by (unfold anyC; simp), rfl, HZ.out⟩
      case round =>
        obtain ⟨k, hk, rfl, rfl, hb⟩ := hrel
        clear HBr HZ
        have HZ := Lib.hid hb
        obtain ⟨hc, rp, rq⟩ := HALL.out _ hb
        obtain ⟨y0, y1, y2, y3, y4, y5, y6, y7, y8⟩ := HX.out _ hc
        have HBr := Lib.hid y8
        clear hb hc y8
        by_cases hlt : k < ys.length
        · have hk0 : (0 : Int) ≤ (k : Int) := by omega
          have hk1 : (k : Int) < (ys.length : Int) := by omega
          have HN := Lib.hid (anyC_next hlt pl ph pd)
          have JH := Lib.hid (fun w => JHP.out ys[k] (List.getElem_mem hlt) w)
          rcases HG.out with h0 | ⟨b, off, rfl, hbl, hc⟩
          · subst h0; simp at hlt
          have g0 := (HBr.out.cell (p := ⟨b, off + k * 4, none⟩) hbl).trans (hc k hlt).1
          clear hc hbl rq
          generalize hasB pl ph pd ys[k].1 = hv at *
          generalize ys[k].1 = xk at *
          have c0 := rp.c0
          have c1 := rp.c1
          have c2 := rp.c2
          have z0 := abv_c y2
          have z1 := abv_c y3
          have z2 := abv_c c0
          have z3 := abv_c c1
          have z4 := abv_c c2
          have z5 := abv_c g0
          cases hu : (v1 || anyC (ys.take k) pl ph pd) with
          | true =>
            have HN2 : Hid ((v1 || anyC (ys.take (k + 1)) pl ph pd) = true) := Lib.hid (by rw [HN.out, ← Bool.or_assoc, hu, Bool.true_or])
            clear hu
            go_wp2_with fail
            refine wp_region_abv (by first | assumption | kernel_rfl) (by kernel_rfl) ?_
            repeat (first | go_big_quiet_step (exact callAbv (JH.out _)) | quiet_step (exact callAbv (JH.out _)))
            refine wpQuiet_nil ?_
            intro w90 hw90
            obtain ⟨p1, rfl⟩ := hw90
            have HZ1 := Lib.hid (eb_of HZ.out p1.h (Nat.le_refl _))
            go_wp2_with fail
            go_roundw
            case rel => exact ⟨k + 1, by omega, by rw [HN2.out], by go_num, HZ1.out⟩
            case measure => simp [intOf]; try omega
          | false =>
            have HN2 : Hid ((v1 || anyC (ys.take (k + 1)) pl ph pd) = hv) := Lib.hid (by rw [HN.out, ← Bool.or_assoc, hu, Bool.false_or])
            clear hu
            go_wp2_with fail
            refine wp_region_abv (by first | assumption | kernel_rfl) (by kernel_rfl) ?_
            repeat (first | go_big_quiet_step (exact callAbv (JH.out _)) | quiet_step (exact callAbv (JH.out _)))
            refine wpQuiet_nil ?_
            intro w90 hw90
            obtain ⟨p1, rfl⟩ := hw90
            have HZ1 := Lib.hid (eb_of HZ.out p1.h (Nat.le_refl _))
            go_wp2_with fail
            go_roundw
            case rel => exact ⟨k + 1, by omega, by rw [HN2.out], by go_num, HZ1.out⟩
            case measure => simp [intOf]; try omega
        obtain rfl : k = ys.length := by omega
        rw [List.take_length, HSOME.out]
        clear hlt hk
        go_wp2_with fail
        refine (JW.out _).mono ?_
        rintro e w99 ⟨rfl, hb⟩
        have HB99 := Lib.hid (eb_of HBr.out hb (Nat.le_refl _))
        clear hb
        go_wp2_with fail
        go_ret
        exact ⟨by first | rfl | (simp; done), HB99.out⟩
  rw [hc] at JC
  have hms : (meetV (covL xs) (covH xs) (covB xs) lo hi bd).1.size ≤ 32 ∧ (meetV (covL xs) (covH xs) (covB xs) lo hi bd).2.1.size ≤ 32 := by
    obtain ⟨a1, a2⟩ := chkR_sizes hc
    unfold meetV
    split
    · unfold mLo mHi
      refine ⟨?_, ?_⟩ <;> (simp only; split <;> omega)
    · exact ⟨by decide, by decide⟩
  have JE := Lib.hid (fun w => rEmpty_any (meetV (covL xs) (covH xs) (covB xs) lo hi bd).1 (meetV (covL xs) (covH xs) (covB xs) lo hi bd).2.1 (meetV (covL xs) (covH xs) (covB xs) lo hi bd).2.2 w (by omega) (by omega))
  have HPN := Lib.hid (part_none (id := ia) (xs := xs) (lo := lo) (hi := hi) (b := bd) X hc)
  rw [partR_ok r1 hc] at JTX
  dsimp only at JTX
  clear cs1 cs2 X Y r1 r2 hc hms
  generalize inN xs lo = f1 at *
  generalize toN xs lo hi bd = t1 at *
  generalize ovV xs ys = ov at *
  generalize mErr (covL xs) (covH xs) (covB xs) lo hi bd = me at *
  generalize (meetV (covL xs) (covH xs) (covB xs) lo hi bd).1 = ml at *
  generalize (meetV (covL xs) (covH xs) (covB xs) lo hi bd).2.1 = mh at *
  generalize (meetV (covL xs) (covH xs) (covB xs) lo hi bd).2.2 = mb at *
  generalize chkR ml mh mb = mc at *
  generalize covL xs = pl at *
  generalize covH xs = ph at *
  generalize covB xs = pd at *
  generalize covL ys = ql at *
  generalize covH ys = qh at *
  generalize covB ys = qd at *
  cases hem : emptyV ml mh mb with
  | true =>
    obtain rfl := HPN.out hem
    rw [hem] at JE
    clear hem HPN
    go_enter Try.func7, Try.ntmps7
    go_wp2_with fail
    refine (JA.out _ HB.out).mono ?_
    rintro e w0 ⟨rfl, hb⟩
    have HC0 := Lib.hid hb
    clear hb x0 x1 x2 x3 x4 x5 x6
    obtain ⟨y0, y1, y2, y3, y4, y5, y6, y7, y8⟩ := HX.out _ HC0.out
    have HB0 := Lib.hid y8
    clear y8
    go_wp2_with fail
    refine (JB.out _ HB0.out).mono ?_
    rintro e w1 ⟨rfl, hb⟩
    have HC1 := Lib.hid (eb_of HC0.out hb (Nat.le_refl _))
    clear hb y0 y1 y2 y3 y4 y5 y6 y7
    obtain ⟨y0, y1, y2, y3, y4, y5, y6, y7, y8⟩ := HX.out _ HC1.out
    have HB1 := Lib.hid y8
    clear y8
    go_wp2_with fail
    refine (JP.out _ HB1.out).mono ?_
    rintro e w2 ⟨rfl, hb⟩
    have HC2 := Lib.hid (eb_of HC1.out hb (Nat.le_refl _))
    clear hb y0 y1 y2 y3 y4 y5 y6 y7
    have hbx := alloc_below w2 (.cells #[.string pl, .string ph, .bool pd] 37)
    have HC3 := Lib.hid (eb_of HC2.out hbx (Nat.le_refl _))
    have RP3 := Lib.hid (Row3.new w2 37 (.string pl) (.string ph) (.bool pd))
    clear hbx
    obtain ⟨y0, y1, y2, y3, y4, y5, y6, y7, y8⟩ := HX.out _ HC3.out
    have HB3 := Lib.hid y8
    clear y8
    go_wp2_with fail
    refine (JQ.out _ HB3.out).mono ?_
    rintro e w4 ⟨rfl, hb⟩
    have HC4 := Lib.hid (eb_of HC3.out hb (Nat.le_refl _))
    have RP4 := Lib.hid (RP3.out.below hb (Nat.le_refl _))
    clear hb y0 y1 y2 y3 y4 y5 y6 y7
    have hbx := alloc_below w4 (.cells #[.string ql, .string qh, .bool qd] 37)
    have HC5 := Lib.hid (eb_of HC4.out hbx (Nat.le_refl _))
    have RP5 := Lib.hid (RP4.out.below hbx (Nat.le_refl _))
    have RQ5 := Lib.hid (Row3.new w4 37 (.string ql) (.string qh) (.bool qd))
    clear hbx
    obtain ⟨y0, y1, y2, y3, y4, y5, y6, y7, y8⟩ := HX.out _ HC5.out
    have HB5 := Lib.hid y8
    clear y8
    go_wp2_with fail
    refine (JO.out _ HB5.out).mono ?_
    rintro e w6 ⟨rfl, hb⟩
    have HC6 := Lib.hid (eb_of HC5.out hb (Nat.le_refl _))
    have RP6 := Lib.hid (RP5.out.below hb (Nat.le_refl _))
    have RQ6 := Lib.hid (RQ5.out.below hb (Nat.le_refl _))
    clear hb y0 y1 y2 y3 y4 y5 y6 y7
    obtain ⟨y0, y1, y2, y3, y4, y5, y6, y7, y8⟩ := HX.out _ HC6.out
    have HB6 := Lib.hid y8
    clear y8
    go_wp2_with fail
    refine (JR.out _ HB6.out).mono ?_
    rintro e w7 ⟨rfl, hb⟩
    have HC7 := Lib.hid (eb_of HC6.out hb (Nat.le_refl _))
    have RP7 := Lib.hid (RP6.out.below hb (Nat.le_refl _))
    have RQ7 := Lib.hid (RQ6.out.below hb (Nat.le_refl _))
    clear hb y0 y1 y2 y3 y4 y5 y6 y7
    obtain ⟨y0, y1, y2, y3, y4, y5, y6, y7, y8⟩ := HX.out _ HC7.out
    have HB7 := Lib.hid y8
    clear y8
    have rp0 := RP7.out.c0
    have rp1 := RP7.out.c1
    have rp2 := RP7.out.c2
    go_wp2_with fail
    clear rp0 rp1 rp2
    refine (JT1.out _ HB7.out).mono ?_
    rintro e w8 ⟨rfl, hb⟩
    have HC8 := Lib.hid (eb_of HC7.out hb (Nat.le_refl _))
    have RP8 := Lib.hid (RP7.out.below hb (Nat.le_refl _))
    have RQ8 := Lib.hid (RQ7.out.below hb (Nat.le_refl _))
    clear hb y0 y1 y2 y3 y4 y5 y6 y7
    obtain ⟨y0, y1, y2, y3, y4, y5, y6, y7, y8⟩ := HX.out _ HC8.out
    have HB8 := Lib.hid y8
    clear y8
    go_wp2_with fail
    refine (JC.out _).mono ?_
    rintro e w9 ⟨rfl, hb⟩
    have HC9 := Lib.hid (eb_of HC8.out hb (Nat.le_refl _))
    have RP9 := Lib.hid (RP8.out.below hb (Nat.le_refl _))
    have RQ9 := Lib.hid (RQ8.out.below hb (Nat.le_refl _))
    clear hb y0 y1 y2 y3 y4 y5 y6 y7
    obtain ⟨y0, y1, y2, y3, y4, y5, y6, y7, y8⟩ := HX.out _ HC9.out
    have HB9 := Lib.hid y8
    clear y8
    have rp0 := RP9.out.c0
    have rp1 := RP9.out.c1
    have rp2 := RP9.out.c2
    go_wp2_with fail
    clear rp0 rp1 rp2
    refine (JM.out _).mono ?_
    rintro e w10 ⟨rfl, hb⟩
    have HC10 := Lib.hid (eb_of HC9.out hb (Nat.le_refl _))
    have RP10 := Lib.hid (RP9.out.below hb (Nat.le_refl _))
    have RQ10 := Lib.hid (RQ9.out.below hb (Nat.le_refl _))
    clear hb y0 y1 y2 y3 y4 y5 y6 y7
    have hbx := alloc_below w10 (.cells #[.string ml, .string mh, .bool mb] 37)
    have HC11 := Lib.hid (eb_of HC10.out hbx (Nat.le_refl _))
    have RP11 := Lib.hid (RP10.out.below hbx (Nat.le_refl _))
    have RQ11 := Lib.hid (RQ10.out.below hbx (Nat.le_refl _))
    have RM11 := Lib.hid (Row3.new w10 37 (.string ml) (.string mh) (.bool mb))
    clear hbx
    obtain ⟨y0, y1, y2, y3, y4, y5, y6, y7, y8⟩ := HX.out _ HC11.out
    have HB11 := Lib.hid y8
    clear y8
    have rm0 := RM11.out.c0
    have rm1 := RM11.out.c1
    have rm2 := RM11.out.c2
    go_wp2_with fail
    clear rm0 rm1 rm2
    refine (JE.out _).mono ?_
    rintro e w12 ⟨rfl, hb⟩
    have HC12 := Lib.hid (eb_of HC11.out hb (Nat.le_refl _))
    have RP12 := Lib.hid (RP11.out.below hb (Nat.le_refl _))
    have RQ12 := Lib.hid (RQ11.out.below hb (Nat.le_refl _))
    have RM12 := Lib.hid (RM11.out.below hb (Nat.le_refl _))
    clear hb y0 y1 y2 y3 y4 y5 y6 y7
    obtain ⟨y0, y1, y2, y3, y4, y5, y6, y7, y8⟩ := HX.out _ HC12.out
    have HB12 := Lib.hid y8
    clear y8
    go_wp2_with fail
    refine (JTX.out _ HB12.out).mono ?_
    rintro e w13 ⟨rfl, hb⟩
    have HC13 := Lib.hid (eb_of HC12.out hb (Nat.le_refl _))
    have RP13 := Lib.hid (RP12.out.below hb (Nat.le_refl _))
    have RQ13 := Lib.hid (RQ12.out.below hb (Nat.le_refl _))
    have RM13 := Lib.hid (RM12.out.below hb (Nat.le_refl _))
    clear hb y0 y1 y2 y3 y4 y5 y6 y7
    obtain ⟨y0, y1, y2, y3, y4, y5, y6, y7, y8⟩ := HX.out _ HC13.out
    have HB13 := Lib.hid y8
    clear y8
    go_wp2_with fail
    have HALL : Hid (∀ w', Below w13.heap.size w13 w' → Below (((w.alloc (.cells #[.int .i64 ia, .slice A xs.length c] 24)).alloc (.cells #[.int .i64 ib, .slice B ys.length d] 24)).alloc (.cells #[.string lo, .string hi, .bool bd] 37)).heap.size (((w.alloc (.cells #[.int .i64 ia, .slice A xs.length c] 24)).alloc (.cells #[.int .i64 ib, .slice B ys.length d] 24)).alloc (.cells #[.string lo, .string hi, .bool bd] 37)) w' ∧ Row3 w' _ _ _ _ _ ∧ Row3 w' _ _ _ _ _) := Lib.hid (fun w' h => ⟨HC13.out.trans (h.mono HC13.out.size), RP13.out.below h (Nat.le_refl _), RQ13.out.below h (Nat.le_refl _)⟩)
    clear y0 y1 y2 y3 y4 y5 y6 y7 RP13 RQ13
    go_loopw [24, 25] (fun u i wr => ∃ k : Nat, k ≤ xs.length ∧ u = .bool (anyC (xs.take k) ql qh qd) ∧ i = .int .i64 k ∧ Below w13.heap.size w13 wr) (fun _ i _ => xs.length - (intOf i).toNat)
    case atStart => exact ⟨0, Nat.zero_le _, rfl, rfl, Below.refl _ _⟩
    case round =>
      obtain ⟨k, hk, rfl, rfl, hb⟩ := hrel
      have HZ := Lib.hid hb
      obtain ⟨hc, rp, rq⟩ := HALL.out _ hb
      obtain ⟨y0, y1, y2, y3, y4, y5, y6, y7, y8⟩ := HX.out _ hc
      have HBr := Lib.hid y8
      clear hb hc y8
      by_cases hlt : k < xs.length
      · have hk0 : (0 : Int) ≤ (k : Int) := by omega
        have hk1 : (k : Int) < (xs.length : Int) := by omega
        have HN := Lib.hid (anyC_next hlt ql qh qd)
        have JH := Lib.hid (fun w => JHQ.out xs[k] (List.getElem_mem hlt) w)
        rcases HF.out with h0 | ⟨b, off, rfl, hbl, hc⟩
        · subst h0; simp at hlt
        have g0 := (HBr.out.cell (p := ⟨b, off + k * 4, none⟩) hbl).trans (hc k hlt).1
        clear hc hbl rp
        generalize hasB ql qh qd xs[k].1 = hv at *
        generalize xs[k].1 = xk at *
        have c0 := rq.c0
        have c1 := rq.c1
        have c2 := rq.c2
        have z0 := abv_c y0
        have z1 := abv_c y1
        have z2 := abv_c c0
        have z3 := abv_c c1
        have z4 := abv_c c2
        have z5 := abv_c g0
        cases hu : anyC (xs.take k) ql qh qd with
        | true =>
          rw [hu, Bool.true_or] at HN
          clear hu
          go_wp2_with fail
          refine wp_region_abv (by first | assumption | kernel_rfl) (by kernel_rfl) ?_
          repeat (first | go_big_quiet_step (exact callAbv (JH.out _)) | quiet_step (exact callAbv (JH.out _)))
          refine wpQuiet_nil ?_
          intro w90 hw90
          obtain ⟨p1, rfl⟩ := hw90
          have HZ1 := Lib.hid (eb_of HZ.out p1.h (Nat.le_refl _))
          go_wp2_with fail
          go_roundw
          case rel => exact ⟨k + 1, by omega, by rw [HN.out], by go_num, HZ1.out⟩
          case measure => simp [intOf]; try omega
        | false =>
          rw [hu, Bool.false_or] at HN
          clear hu
          go_wp2_with fail
          refine wp_region_abv (by first | assumption | kernel_rfl) (by kernel_rfl) ?_
          repeat (first | go_big_quiet_step (exact callAbv (JH.out _)) | quiet_step (exact callAbv (JH.out _)))
          refine wpQuiet_nil ?_
          intro w90 hw90
          obtain ⟨p1, rfl⟩ := hw90
          have HZ1 := Lib.hid (eb_of HZ.out p1.h (Nat.le_refl _))
          go_wp2_with fail
          go_roundw
          case rel => exact ⟨k + 1, by omega, by rw [HN.out], by go_num, HZ1.out⟩
          case measure => simp [intOf]; try omega
      obtain rfl : k = xs.length := by omega
      rw [List.take_length]
      generalize hA1 : anyC xs ql qh qd = v1 at *
      clear hlt hk
      go_wp2_with fail
      clear y0 y1 y2 y3 y4 y5 y6 y7 rp rq
      go_loopw [24, 26] (fun u i wr2 => ∃ k : Nat, k ≤ ys.length ∧ u = .bool (v1 || anyC (ys.take k) pl ph pd) ∧ i = .int .i64 k ∧ Below w13.heap.size w13 wr2) (fun _ i _ => ys.length - (intOf i).toNat)
      case atStart => exact ⟨0, Nat.zero_le _, by (unfold anyC; simp), rfl, HZ.out⟩
      case round =>
        obtain ⟨k, hk, rfl, rfl, hb⟩ := hrel
        clear HBr HZ
        have HZ := Lib.hid hb
        obtain ⟨hc, rp, rq⟩ := HALL.out _ hb
        obtain ⟨y0, y1, y2, y3, y4, y5, y6, y7, y8⟩ := HX.out _ hc
        have HBr := Lib.hid y8
        clear hb hc y8
        by_cases hlt : k < ys.length
        · have hk0 : (0 : Int) ≤ (k : Int) := by omega
          have hk1 : (k : Int) < (ys.length : Int) := by omega
          have HN := Lib.hid (anyC_next hlt pl ph pd)
          have JH := Lib.hid (fun w => JHP.out ys[k] (List.getElem_mem hlt) w)
          rcases HG.out with h0 | ⟨b, off, rfl, hbl, hc⟩
          · subst h0; simp at hlt
          have g0 := (HBr.out.cell (p := ⟨b, off + k * 4, none⟩) hbl).trans (hc k hlt).1
          clear hc hbl rq
          generalize hasB pl ph pd ys[k].1 = hv at *
          generalize ys[k].1 = xk at *
          have c0 := rp.c0
          have c1 := rp.c1
          have c2 := rp.c2
          have z0 := abv_c y2
          have z1 := abv_c y3
          have z2 := abv_c c0
          have z3 := abv_c c1
          have z4 := abv_c c2
          have z5 := abv_c g0
          cases hu : (v1 || anyC (ys.take k) pl ph pd) with
          | true =>
            have HN2 : Hid ((v1 || anyC (ys.take (k + 1)) pl ph pd) = true) := Lib.hid (by rw [HN.out, ← Bool.or_assoc, hu, Bool.true_or])
            clear hu
            go_wp2_with fail
            refine wp_region_abv (by first | assumption | kernel_rfl) (by kernel_rfl) ?_
            repeat (first | go_big_quiet_step (exact callAbv (JH.out _)) | quiet_step (exact callAbv (JH.out _)))
            refine wpQuiet_nil ?_
            intro w90 hw90
            obtain ⟨p1, rfl⟩ := hw90
            have HZ1 := Lib.hid (eb_of HZ.out p1.h (Nat.le_refl _))
            go_wp2_with fail
            go_roundw
            case rel => exact ⟨k + 1, by omega, by rw [HN2.out], by go_num, HZ1.out⟩
            case measure => simp [intOf]; try omega
          | false =>
            have HN2 : Hid ((v1 || anyC (ys.take (k + 1)) pl ph pd) = hv) := Lib.hid (by rw [HN.out, ← Bool.or_assoc, hu, Bool.false_or])
            clear hu
            go_wp2_with fail
            refine wp_region_abv (by first | assumption | kernel_rfl) (by kernel_rfl) ?_
            repeat (first | go_big_quiet_step (exact callAbv (JH.out _)) | quiet_step (exact callAbv (JH.out _)))
            refine wpQuiet_nil ?_
            intro w90 hw90
            obtain ⟨p1, rfl⟩ := hw90
            have HZ1 := Lib.hid (eb_of HZ.out p1.h (Nat.le_refl _))
            go_wp2_with fail
            go_roundw
            case rel => exact ⟨k + 1, by omega, by rw [HN2.out], by go_num, HZ1.out⟩
            case measure => simp [intOf]; try omega
        obtain rfl : k = ys.length := by omega
        rw [List.take_length, HSOME.out]
        clear hlt hk
        go_wp2_with fail
        refine (JW.out _).mono ?_
        rintro e w99 ⟨rfl, hb⟩
        have HB99 := Lib.hid (eb_of HBr.out hb (Nat.le_refl _))
        clear hb
        go_wp2_with fail
        go_ret
        exact ⟨by first | rfl | (simp; done), HB99.out⟩
  | false =>
    rw [hem] at JE
    clear hem HPN
    go_enter Try.func7, Try.ntmps7
    go_wp2_with fail
    refine (JA.out _ HB.out).mono ?_
    rintro e w0 ⟨rfl, hb⟩
    have HC0 := Lib.hid hb
    clear hb x0 x1 x2 x3 x4 x5 x6
    obtain ⟨y0, y1, y2, y3, y4, y5, y6, y7, y8⟩ := HX.out _ HC0.out
    have HB0 := Lib.hid y8
    clear y8
    go_wp2_with fail
    refine (JB.out _ HB0.out).mono ?_
    rintro e w1 ⟨rfl, hb⟩
    have HC1 := Lib.hid (eb_of HC0.out hb (Nat.le_refl _))
    clear hb y0 y1 y2 y3 y4 y5 y6 y7
    obtain ⟨y0, y1, y2, y3, y4, y5, y6, y7, y8⟩ := HX.out _ HC1.out
    have HB1 := Lib.hid y8
    clear y8
    go_wp2_with fail
    refine (JP.out _ HB1.out).mono ?_
    rintro e w2 ⟨rfl, hb⟩
    have HC2 := Lib.hid (eb_of HC1.out hb (Nat.le_refl _))
    clear hb y0 y1 y2 y3 y4 y5 y6 y7
    have hbx := alloc_below w2 (.cells #[.string pl, .string ph, .bool pd] 37)
    have HC3 := Lib.hid (eb_of HC2.out hbx (Nat.le_refl _))
    have RP3 := Lib.hid (Row3.new w2 37 (.string pl) (.string ph) (.bool pd))
    clear hbx
    obtain ⟨y0, y1, y2, y3, y4, y5, y6, y7, y8⟩ := HX.out _ HC3.out
    have HB3 := Lib.hid y8
    clear y8
    go_wp2_with fail
    refine (JQ.out _ HB3.out).mono ?_
    rintro e w4 ⟨rfl, hb⟩
    have HC4 := Lib.hid (eb_of HC3.out hb (Nat.le_refl _))
    have RP4 := Lib.hid (RP3.out.below hb (Nat.le_refl _))
    clear hb y0 y1 y2 y3 y4 y5 y6 y7
    have hbx := alloc_below w4 (.cells #[.string ql, .string qh, .bool qd] 37)
    have HC5 := Lib.hid (eb_of HC4.out hbx (Nat.le_refl _))
    have RP5 := Lib.hid (RP4.out.below hbx (Nat.le_refl _))
    have RQ5 := Lib.hid (Row3.new w4 37 (.string ql) (.string qh) (.bool qd))
    clear hbx
    obtain ⟨y0, y1, y2, y3, y4, y5, y6, y7, y8⟩ := HX.out _ HC5.out
    have HB5 := Lib.hid y8
    clear y8
    go_wp2_with fail
    refine (JO.out _ HB5.out).mono ?_
    rintro e w6 ⟨rfl, hb⟩
    have HC6 := Lib.hid (eb_of HC5.out hb (Nat.le_refl _))
    have RP6 := Lib.hid (RP5.out.below hb (Nat.le_refl _))
    have RQ6 := Lib.hid (RQ5.out.below hb (Nat.le_refl _))
    clear hb y0 y1 y2 y3 y4 y5 y6 y7
    obtain ⟨y0, y1, y2, y3, y4, y5, y6, y7, y8⟩ := HX.out _ HC6.out
    have HB6 := Lib.hid y8
    clear y8
    go_wp2_with fail
    refine (JR.out _ HB6.out).mono ?_
    rintro e w7 ⟨rfl, hb⟩
    have HC7 := Lib.hid (eb_of HC6.out hb (Nat.le_refl _))
    have RP7 := Lib.hid (RP6.out.below hb (Nat.le_refl _))
    have RQ7 := Lib.hid (RQ6.out.below hb (Nat.le_refl _))
    clear hb y0 y1 y2 y3 y4 y5 y6 y7
    obtain ⟨y0, y1, y2, y3, y4, y5, y6, y7, y8⟩ := HX.out _ HC7.out
    have HB7 := Lib.hid y8
    clear y8
    have rp0 := RP7.out.c0
    have rp1 := RP7.out.c1
    have rp2 := RP7.out.c2
    go_wp2_with fail
    clear rp0 rp1 rp2
    refine (JT1.out _ HB7.out).mono ?_
    rintro e w8 ⟨rfl, hb⟩
    have HC8 := Lib.hid (eb_of HC7.out hb (Nat.le_refl _))
    have RP8 := Lib.hid (RP7.out.below hb (Nat.le_refl _))
    have RQ8 := Lib.hid (RQ7.out.below hb (Nat.le_refl _))
    clear hb y0 y1 y2 y3 y4 y5 y6 y7
    obtain ⟨y0, y1, y2, y3, y4, y5, y6, y7, y8⟩ := HX.out _ HC8.out
    have HB8 := Lib.hid y8
    clear y8
    go_wp2_with fail
    refine (JC.out _).mono ?_
    rintro e w9 ⟨rfl, hb⟩
    have HC9 := Lib.hid (eb_of HC8.out hb (Nat.le_refl _))
    have RP9 := Lib.hid (RP8.out.below hb (Nat.le_refl _))
    have RQ9 := Lib.hid (RQ8.out.below hb (Nat.le_refl _))
    clear hb y0 y1 y2 y3 y4 y5 y6 y7
    obtain ⟨y0, y1, y2, y3, y4, y5, y6, y7, y8⟩ := HX.out _ HC9.out
    have HB9 := Lib.hid y8
    clear y8
    have rp0 := RP9.out.c0
    have rp1 := RP9.out.c1
    have rp2 := RP9.out.c2
    go_wp2_with fail
    clear rp0 rp1 rp2
    refine (JM.out _).mono ?_
    rintro e w10 ⟨rfl, hb⟩
    have HC10 := Lib.hid (eb_of HC9.out hb (Nat.le_refl _))
    have RP10 := Lib.hid (RP9.out.below hb (Nat.le_refl _))
    have RQ10 := Lib.hid (RQ9.out.below hb (Nat.le_refl _))
    clear hb y0 y1 y2 y3 y4 y5 y6 y7
    have hbx := alloc_below w10 (.cells #[.string ml, .string mh, .bool mb] 37)
    have HC11 := Lib.hid (eb_of HC10.out hbx (Nat.le_refl _))
    have RP11 := Lib.hid (RP10.out.below hbx (Nat.le_refl _))
    have RQ11 := Lib.hid (RQ10.out.below hbx (Nat.le_refl _))
    have RM11 := Lib.hid (Row3.new w10 37 (.string ml) (.string mh) (.bool mb))
    clear hbx
    obtain ⟨y0, y1, y2, y3, y4, y5, y6, y7, y8⟩ := HX.out _ HC11.out
    have HB11 := Lib.hid y8
    clear y8
    have rm0 := RM11.out.c0
    have rm1 := RM11.out.c1
    have rm2 := RM11.out.c2
    go_wp2_with fail
    clear rm0 rm1 rm2
    refine (JE.out _).mono ?_
    rintro e w12 ⟨rfl, hb⟩
    have HC12 := Lib.hid (eb_of HC11.out hb (Nat.le_refl _))
    have RP12 := Lib.hid (RP11.out.below hb (Nat.le_refl _))
    have RQ12 := Lib.hid (RQ11.out.below hb (Nat.le_refl _))
    have RM12 := Lib.hid (RM11.out.below hb (Nat.le_refl _))
    clear hb y0 y1 y2 y3 y4 y5 y6 y7
    obtain ⟨y0, y1, y2, y3, y4, y5, y6, y7, y8⟩ := HX.out _ HC12.out
    have HB12 := Lib.hid y8
    clear y8
    go_wp2_with fail
    refine (JTX.out _ HB12.out).mono ?_
    rintro e w13 ⟨rfl, hb⟩
    have HC13 := Lib.hid (eb_of HC12.out hb (Nat.le_refl _))
    have RP13 := Lib.hid (RP12.out.below hb (Nat.le_refl _))
    have RQ13 := Lib.hid (RQ12.out.below hb (Nat.le_refl _))
    have RM13 := Lib.hid (RM12.out.below hb (Nat.le_refl _))
    clear hb y0 y1 y2 y3 y4 y5 y6 y7
    obtain ⟨y0, y1, y2, y3, y4, y5, y6, y7, y8⟩ := HX.out _ HC13.out
    have HB13 := Lib.hid y8
    clear y8
    go_wp2_with fail
    have HALL : Hid (∀ w', Below w13.heap.size w13 w' → Below (((w.alloc (.cells #[.int .i64 ia, .slice A xs.length c] 24)).alloc (.cells #[.int .i64 ib, .slice B ys.length d] 24)).alloc (.cells #[.string lo, .string hi, .bool bd] 37)).heap.size (((w.alloc (.cells #[.int .i64 ia, .slice A xs.length c] 24)).alloc (.cells #[.int .i64 ib, .slice B ys.length d] 24)).alloc (.cells #[.string lo, .string hi, .bool bd] 37)) w' ∧ Row3 w' _ _ _ _ _ ∧ Row3 w' _ _ _ _ _) := Lib.hid (fun w' h => ⟨HC13.out.trans (h.mono HC13.out.size), RP13.out.below h (Nat.le_refl _), RQ13.out.below h (Nat.le_refl _)⟩)
    clear y0 y1 y2 y3 y4 y5 y6 y7 RP13 RQ13
    go_loopw [24, 25] (fun u i wr => ∃ k : Nat, k ≤ xs.length ∧ u = .bool (anyC (xs.take k) ql qh qd) ∧ i = .int .i64 k ∧ Below w13.heap.size w13 wr) (fun _ i _ => xs.length - (intOf i).toNat)
    case atStart => exact ⟨0, Nat.zero_le _, rfl, rfl, Below.refl _ _⟩
    case round =>
      obtain ⟨k, hk, rfl, rfl, hb⟩ := hrel
      have HZ := Lib.hid hb
      obtain ⟨hc, rp, rq⟩ := HALL.out _ hb
      obtain ⟨y0, y1, y2, y3, y4, y5, y6, y7, y8⟩ := HX.out _ hc
      have HBr := Lib.hid y8
      clear hb hc y8
      by_cases hlt : k < xs.length
      · have hk0 : (0 : Int) ≤ (k : Int) := by omega
        have hk1 : (k : Int) < (xs.length : Int) := by omega
        have HN := Lib.hid (anyC_next hlt ql qh qd)
        have JH := Lib.hid (fun w => JHQ.out xs[k] (List.getElem_mem hlt) w)
        rcases HF.out with h0 | ⟨b, off, rfl, hbl, hc⟩
        · subst h0; simp at hlt
        have g0 := (HBr.out.cell (p := ⟨b, off + k * 4, none⟩) hbl).trans (hc k hlt).1
        clear hc hbl rp
        generalize hasB ql qh qd xs[k].1 = hv at *
        generalize xs[k].1 = xk at *
        have c0 := rq.c0
        have c1 := rq.c1
        have c2 := rq.c2
        have z0 := abv_c y0
        have z1 := abv_c y1
        have z2 := abv_c c0
        have z3 := abv_c c1
        have z4 := abv_c c2
        have z5 := abv_c g0
        cases hu : anyC (xs.take k) ql qh qd with
        | true =>
          rw [hu, Bool.true_or] at HN
          clear hu
          go_wp2_with fail
          refine wp_region_abv (by first | assumption | kernel_rfl) (by kernel_rfl) ?_
          repeat (first | go_big_quiet_step (exact callAbv (JH.out _)) | quiet_step (exact callAbv (JH.out _)))
          refine wpQuiet_nil ?_
          intro w90 hw90
          obtain ⟨p1, rfl⟩ := hw90
          have HZ1 := Lib.hid (eb_of HZ.out p1.h (Nat.le_refl _))
          go_wp2_with fail
          go_roundw
          case rel => exact ⟨k + 1, by omega, by rw [HN.out], by go_num, HZ1.out⟩
          case measure => simp [intOf]; try omega
        | false =>
          rw [hu, Bool.false_or] at HN
          clear hu
          go_wp2_with fail
          refine wp_region_abv (by first | assumption | kernel_rfl) (by kernel_rfl) ?_
          repeat (first | go_big_quiet_step (exact callAbv (JH.out _)) | quiet_step (exact callAbv (JH.out _)))
          refine wpQuiet_nil ?_
          intro w90 hw90
          obtain ⟨p1, rfl⟩ := hw90
          have HZ1 := Lib.hid (eb_of HZ.out p1.h (Nat.le_refl _))
          go_wp2_with fail
          go_roundw
          case rel => exact ⟨k + 1, by omega, by rw [HN.out], by go_num, HZ1.out⟩
          case measure => simp [intOf]; try omega
      obtain rfl : k = xs.length := by omega
      rw [List.take_length]
      generalize hA1 : anyC xs ql qh qd = v1 at *
      clear hlt hk
      go_wp2_with fail
      clear y0 y1 y2 y3 y4 y5 y6 y7 rp rq
      go_loopw [24, 26] (fun u i wr2 => ∃ k : Nat, k ≤ ys.length ∧ u = .bool (v1 || anyC (ys.take k) pl ph pd) ∧ i = .int .i64 k ∧ Below w13.heap.size w13 wr2) (fun _ i _ => ys.length - (intOf i).toNat)
      case atStart => exact ⟨0, Nat.zero_le _, by (unfold anyC; simp), rfl, HZ.out⟩
      case round =>
        obtain ⟨k, hk, rfl, rfl, hb⟩ := hrel
        clear HBr HZ
        have HZ := Lib.hid hb
        obtain ⟨hc, rp, rq⟩ := HALL.out _ hb
        obtain ⟨y0, y1, y2, y3, y4, y5, y6, y7, y8⟩ := HX.out _ hc
        have HBr := Lib.hid y8
        clear hb hc y8
        by_cases hlt : k < ys.length
        · have hk0 : (0 : Int) ≤ (k : Int) := by omega
          have hk1 : (k : Int) < (ys.length : Int) := by omega
          have HN := Lib.hid (anyC_next hlt pl ph pd)
          have JH := Lib.hid (fun w => JHP.out ys[k] (List.getElem_mem hlt) w)
          rcases HG.out with h0 | ⟨b, off, rfl, hbl, hc⟩
          · subst h0; simp at hlt
          have g0 := (HBr.out.cell (p := ⟨b, off + k * 4, none⟩) hbl).trans (hc k hlt).1
          clear hc hbl rq
          generalize hasB pl ph pd ys[k].1 = hv at *
          generalize ys[k].1 = xk at *
          have c0 := rp.c0
          have c1 := rp.c1
          have c2 := rp.c2
          have z0 := abv_c y2
          have z1 := abv_c y3
          have z2 := abv_c c0
          have z3 := abv_c c1
          have z4 := abv_c c2
          have z5 := abv_c g0
          cases hu : (v1 || anyC (ys.take k) pl ph pd) with
          | true =>
            have HN2 : Hid ((v1 || anyC (ys.take (k + 1)) pl ph pd) = true) := Lib.hid (by rw [HN.out, ← Bool.or_assoc, hu, Bool.true_or])
            clear hu
            go_wp2_with fail
            refine wp_region_abv (by first | assumption | kernel_rfl) (by kernel_rfl) ?_
            repeat (first | go_big_quiet_step (exact callAbv (JH.out _)) | quiet_step (exact callAbv (JH.out _)))
            refine wpQuiet_nil ?_
            intro w90 hw90
            obtain ⟨p1, rfl⟩ := hw90
            have HZ1 := Lib.hid (eb_of HZ.out p1.h (Nat.le_refl _))
            go_wp2_with fail
            go_roundw
            case rel => exact ⟨k + 1, by omega, by rw [HN2.out], by go_num, HZ1.out⟩
            case measure => simp [intOf]; try omega
          | false =>
            have HN2 : Hid ((v1 || anyC (ys.take (k + 1)) pl ph pd) = hv) := Lib.hid (by rw [HN.out, ← Bool.or_assoc, hu, Bool.false_or])
            clear hu
            go_wp2_with fail
            refine wp_region_abv (by first | assumption | kernel_rfl) (by kernel_rfl) ?_
            repeat (first | go_big_quiet_step (exact callAbv (JH.out _)) | quiet_step (exact callAbv (JH.out _)))
            refine wpQuiet_nil ?_
            intro w90 hw90
            obtain ⟨p1, rfl⟩ := hw90
            have HZ1 := Lib.hid (eb_of HZ.out p1.h (Nat.le_refl _))
            go_wp2_with fail
            go_roundw
            case rel => exact ⟨k + 1, by omega, by rw [HN2.out], by go_num, HZ1.out⟩
            case measure => simp [intOf]; try omega
        obtain rfl : k = ys.length := by omega
        rw [List.take_length, HSOME.out]
        clear hlt hk
        go_wp2_with fail
        refine (JW.out _).mono ?_
        rintro e w99 ⟨rfl, hb⟩
        have HB99 := Lib.hid (eb_of HBr.out hb (Nat.le_refl _))
        clear hb
        go_wp2_with fail
        go_ret
        exact ⟨by first | rfl | (simp; done), HB99.out⟩
end Go.Proofs.Ytjnbdeahmbkbnaa.KK
