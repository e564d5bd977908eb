/-
  Runs: Overlap of the reference.
-/
import Derived.Test.YtjnbdeahmbkbnaaRw
namespace Go.Proofs.Ytjnbdeahmbkbnaa.KK
open Go.ChangeShapes Go.WideShapes Go.ChangeAt Go.RowKit Go.Proofs

set_option maxRecDepth 100000 in
set_option maxHeartbeats 8000000 in
theorem rOver8_any (ia : Int) (A : Option Addr) (c : Nat) (xs : List El.En) (ib : Int) (B : Option Addr) (d : Nat) (ys : List El.En) (w : World) (hf : EsAt w A xs) (hn : xs.length ≤ 4294967295) (hs : Sized xs) (hg : EsAt w B ys) (hm : ys.length ≤ 4294967295) (ht : Sized ys) :
    Calls Try.prog 26 #[.agg #[.int .i64 ia, .slice A xs.length c], .agg #[.int .i64 ib, .slice B ys.length d]] w fun e w' => e = .returned (.tuple #[.bool (ovA ia xs ib ys).1, .int .i64 (ovA ia xs ib ys).2]) ∧ Below w.heap.size w w' := by
  have HX := boxUU ia A xs.length c ib B ys.length d w
  obtain ⟨x0, x1, x2, x3, x4, x5⟩ := HX.out _ (Below.refl _ _)
  have HB := Lib.hid x5
  have J1 := Lib.hid (fun w1 (h : Below w.heap.size w w1) => rCheck8_any ia A c xs w1 (hf.below h (Nat.le_refl _)) hn hs)
  have J2 := Lib.hid (fun w1 (h : Below w.heap.size w w1) => rCheck8_any ib B d ys w1 (hg.below h (Nat.le_refl _)) hm ht)
  clear x4 x5
  by_cases h1 : (runE ia xs).2 = 0
  rotate_left
  · have HL := Lib.hid (ovA_no1 (ib := ib) (ys := ys) h1)
    obtain ⟨b1, b2⟩ := ne_b h1
    generalize ovA ia xs ib ys = res at *
    generalize (runE ia xs).2 = r at *
    generalize (runE ia xs).1 = r0 at *
    clear h1 hf hs hg ht J2
    generalize xs.length = n at *
    generalize ys.length = m at *
    go_enter Try.func26, Try.ntmps26
    go_wp2_with fail
    refine (J1.out _ HB.out).mono ?_
    rintro e w1 ⟨rfl, hb⟩
    have HC1 := Lib.hid hb
    clear hb x0 x1 x2 x3
    obtain ⟨y0, y1, y2, y3, y4, y5⟩ := HX.out _ HC1.out
    have HB1 := Lib.hid y5
    clear y5
    go_wp2_with fail
    go_ret2
    exact ⟨retO HL.out rfl, HB1.out⟩
  rw [h1] at J1
  by_cases h2 : (runE ib ys).2 = 0
  rotate_left
  · have HL := Lib.hid (ovA_no2 h1 h2)
    obtain ⟨b1, b2⟩ := ne_b h2
    generalize ovA ia xs ib ys = res at *
    generalize (runE ib ys).2 = r at *
    generalize (runE ib ys).1 = r1 at *
    generalize (runE ia xs).1 = r0 at *
    clear h1 h2 hf hs hg ht
    generalize xs.length = n at *
    generalize ys.length = m at *
    go_enter Try.func26, Try.ntmps26
    go_wp2_with fail
    refine (J1.out _ HB.out).mono ?_
    rintro e w1 ⟨rfl, hb⟩
    have HC1 := Lib.hid hb
    clear hb x0 x1 x2 x3
    obtain ⟨y0, y1, y2, y3, y4, y5⟩ := HX.out _ HC1.out
    have HB1 := Lib.hid y5
    clear y5
    go_wp2_with fail
    refine (J2.out _ HB1.out).mono ?_
    rintro e w2 ⟨rfl, hb⟩
    have HC2 := Lib.hid (eb_of HC1.out hb (Nat.le_refl _))
    clear hb y0 y1 y2 y3 y4
    obtain ⟨y0, y1, y2, y3, y4, y5⟩ := HX.out _ HC2.out
    have HB2 := Lib.hid y5
    clear y5
    go_wp2_with fail
    go_ret2
    exact ⟨retO HL.out rfl, HB2.out⟩
  rw [h2] at J2
  by_cases hz1 : xs.length = 0
  · have HL := Lib.hid (ovA_nil h1 h2 (.inl hz1))
    generalize ovA ia xs ib ys = res at *
    generalize (runE ib ys).1 = r1 at *
    generalize (runE ia xs).1 = r0 at *
    clear h1 h2 hf hs hg ht
    generalize xs.length = n at *
    generalize ys.length = m at *
    subst hz1
    go_enter Try.func26, Try.ntmps26
    go_wp2_with fail
    refine (J1.out _ HB.out).mono ?_
    rintro e w1 ⟨rfl, hb⟩
    have HC1 := Lib.hid hb
    clear hb x0 x1 x2 x3
    obtain ⟨y0, y1, y2, y3, y4, y5⟩ := HX.out _ HC1.out
    have HB1 := Lib.hid y5
    clear y5
    go_wp2_with fail
    refine (J2.out _ HB1.out).mono ?_
    rintro e w2 ⟨rfl, hb⟩
    have HC2 := Lib.hid (eb_of HC1.out hb (Nat.le_refl _))
    clear hb y0 y1 y2 y3 y4
    obtain ⟨y0, y1, y2, y3, y4, y5⟩ := HX.out _ HC2.out
    have HB2 := Lib.hid y5
    clear y5
    go_wp2_with fail
    go_ret2
    exact ⟨retO HL.out rfl, HB2.out⟩
  by_cases hz2 : ys.length = 0
  · have HL := Lib.hid (ovA_nil h1 h2 (.inr hz2))
    have z1 : ((xs.length : Int) == 0) = false := by rw [beq_eq_false_iff_ne]; omega
    have z2 : ¬ (xs.length : Int) = 0 := by omega
    generalize ovA ia xs ib ys = res at *
    generalize (runE ib ys).1 = r1 at *
    generalize (runE ia xs).1 = r0 at *
    clear h1 h2 hf hs hg ht hz1
    generalize xs.length = n at *
    generalize ys.length = m at *
    subst hz2
    go_enter Try.func26, Try.ntmps26
    go_wp2_with fail
    refine (J1.out _ HB.out).mono ?_
    rintro e w1 ⟨rfl, hb⟩
    have HC1 := Lib.hid hb
    clear hb x0 x1 x2 x3
    obtain ⟨y0, y1, y2, y3, y4, y5⟩ := HX.out _ HC1.out
    have HB1 := Lib.hid y5
    clear y5
    go_wp2_with fail
    refine (J2.out _ HB1.out).mono ?_
    rintro e w2 ⟨rfl, hb⟩
    have HC2 := Lib.hid (eb_of HC1.out hb (Nat.le_refl _))
    clear hb y0 y1 y2 y3 y4
    obtain ⟨y0, y1, y2, y3, y4, y5⟩ := HX.out _ HC2.out
    have HB2 := Lib.hid y5
    clear y5
    go_wp2_with fail
    go_ret2
    exact ⟨retO HL.out rfl, HB2.out⟩
  have HL := Lib.hid (ovA_ok h1 h2 (by omega))
  have HV : Hid (ovV xs ys = !emptyV (metV xs ys).1 (metV xs ys).2.1 (metV xs ys).2.2) := Lib.hid rfl
  have z1 : ((xs.length : Int) == 0) = false := by rw [beq_eq_false_iff_ne]; omega
  have z2 : ¬ (xs.length : Int) = 0 := by omega
  have z3 : ((ys.length : Int) == 0) = false := by rw [beq_eq_false_iff_ne]; omega
  have z4 : ¬ (ys.length : Int) = 0 := by omega
  obtain ⟨hl, hck, _⟩ := run_ok h1
  obtain ⟨hl', hck', _⟩ := run_ok h2
  have hk32 : ∀ x ∈ xs, x.1.size ≤ 32 := fun x hx => (El.chk_of (hck x hx)).1
  have hk32' : ∀ x ∈ ys, x.1.size ≤ 32 := fun x hx => (El.chk_of (hck' x hx)).1
  have cs1 := cov_sizes (by omega) hk32
  have cs2 := cov_sizes (by omega) hk32'
  have ms := met_sizes cs1 cs2
  have K1 := Lib.hid (fun w1 (h : Below w.heap.size w w1) => by
    have K := rCover8_any ia A c xs w1 (hf.below h (Nat.le_refl _)) hn hs
    rw [covA_ok h1 hz1] at K; exact K)
  have K2 := Lib.hid (fun w1 (h : Below w.heap.size w w1) => by
    have K := rCover8_any ib B d ys w1 (hg.below h (Nat.le_refl _)) hm ht
    rw [covA_ok h2 hz2] at K; exact K)
  unfold rngV at K1 K2
  dsimp only at K1 K2
  have K3 := Lib.hid (fun w1 => rMeet_any (covL xs) (covH xs) (covB xs) (covL ys) (covH ys) (covB ys) w1 (by omega) (by omega) (by omega) (by omega))
  have K4 := Lib.hid (fun w1 => rEmpty_any (metV xs ys).1 (metV xs ys).2.1 (metV xs ys).2.2 w1 (by omega) (by omega))
  rw [show meetV (covL xs) (covH xs) (covB xs) (covL ys) (covH ys) (covB ys) = metV xs ys from rfl] at K3
  clear hf hs hg ht hk32 hk32' hck hck' cs1 cs2 ms h1 h2 hl hl' hz1 hz2
  generalize mErr (covL xs) (covH xs) (covB xs) (covL ys) (covH ys) (covB ys) = me at *
  generalize ovA ia xs ib ys = res at *
  generalize ovV xs ys = ov at *
  generalize (metV xs ys).1 = ml at *
  generalize (metV xs ys).2.1 = mh at *
  generalize (metV xs ys).2.2 = mb at *
  generalize chkR ml mh mb = mc at *
  generalize emptyV ml mh mb = me2 at *
  generalize covL xs = l1 at *
  generalize covH xs = g1 at *
  generalize covB xs = d1 at *
  generalize covL ys = l2 at *
  generalize covH ys = g2 at *
  generalize covB ys = d2 at *
  generalize (runE ia xs).1 = r0 at *
  generalize (runE ib ys).1 = r1 at *
  generalize xs.length = n at *
  generalize ys.length = m at *
  go_enter Try.func26, Try.ntmps26
  go_wp2_with fail
  refine (J1.out _ HB.out).mono ?_
  rintro e w1 ⟨rfl, hb⟩
  have HC1 := Lib.hid hb
  clear hb x0 x1 x2 x3
  obtain ⟨y0, y1, y2, y3, y4, y5⟩ := HX.out _ HC1.out
  have HB1 := Lib.hid y5
  clear y5
  go_wp2_with fail
  refine (J2.out _ HB1.out).mono ?_
  rintro e w2 ⟨rfl, hb⟩
  have HC2 := Lib.hid (eb_of HC1.out hb (Nat.le_refl _))
  clear hb y0 y1 y2 y3 y4
  obtain ⟨y0, y1, y2, y3, y4, y5⟩ := HX.out _ HC2.out
  have HB2 := Lib.hid y5
  clear y5
  go_wp2_with fail
  refine (K1.out _ HB2.out).mono ?_
  rintro e w3 ⟨rfl, hb⟩
  have hbx := alloc_below w3 (.cells #[.string l1, .string g1, .bool d1] 37)
  have HC4 := Lib.hid (eb_of (eb_of HC2.out hb (Nat.le_refl _)) hbx (Nat.le_refl _))
  have RX4 := Lib.hid (Row3.new w3 37 (.string l1) (.string g1) (.bool d1))
  clear hb hbx y0 y1 y2 y3 y4
  obtain ⟨y0, y1, y2, y3, y4, y5⟩ := HX.out _ HC4.out
  have HB4 := Lib.hid y5
  clear y5
  go_wp2_with fail
  refine (K2.out _ HB4.out).mono ?_
  rintro e w5 ⟨rfl, hb⟩
  have hby := alloc_below w5 (.cells #[.string l2, .string g2, .bool d2] 37)
  have HB6 := Lib.hid (eb_of (eb_of HB4.out hb (Nat.le_refl _)) hby (Nat.le_refl _))
  have RX6 := Lib.hid ((RX4.out.below hb (Nat.le_refl _)).below hby (Nat.le_refl _))
  have RY6 := Lib.hid (Row3.new w5 37 (.string l2) (.string g2) (.bool d2))
  clear hb hby y0 y1 y2 y3 y4
  have rxc0 := RX6.out.c0
  have rxc1 := RX6.out.c1
  have rxc2 := RX6.out.c2
  have ryc0 := RY6.out.c0
  have ryc1 := RY6.out.c1
  have ryc2 := RY6.out.c2
  go_wp2_with fail
  refine (K3.out _).mono ?_
  rintro e w7 ⟨rfl, hb⟩
  have hbm := alloc_below w7 (.cells #[.string ml, .string mh, .bool mb] 37)
  have HB8 := Lib.hid (eb_of (eb_of HB6.out hb (Nat.le_refl _)) hbm (Nat.le_refl _))
  have RM8 := Lib.hid (Row3.new w7 37 (.string ml) (.string mh) (.bool mb))
  clear hb hbm
  clear rxc0 rxc1 rxc2 ryc0 ryc1 ryc2
  have rmc0 := RM8.out.c0
  have rmc1 := RM8.out.c1
  have rmc2 := RM8.out.c2
  go_wp2_with fail
  refine (K4.out _).mono ?_
  rintro e w9 ⟨rfl, hb⟩
  have HB9 := Lib.hid (eb_of HB8.out hb (Nat.le_refl _))
  clear hb
  go_wp2_with fail
  go_ret2
  exact ⟨retO HL.out HV.out, HB9.out⟩
end Go.Proofs.Ytjnbdeahmbkbnaa.KK
