/-
  Runs: Overlap on both sides.
-/
import Derived.Test.YtjnbdeahmbkbnaaRv
namespace Go.Proofs.Ytjnbdeahmbkbnaa.KK
open Go.ChangeShapes Go.WideShapes Go.ChangeAt Go.RowKit Go.Proofs

/-- two runs in boxes -/
theorem boxUU (ia : Int) (A : Option Addr) (na c : Nat) (ib : Int) (B : Option Addr) (nb d : Nat) (w : World) : Hid (∀ w', Below ((w.alloc (.cells #[.int .i64 ia, .slice A na c] 24)).alloc (.cells #[.int .i64 ib, .slice B nb d] 24)).heap.size ((w.alloc (.cells #[.int .i64 ia, .slice A na c] 24)).alloc (.cells #[.int .i64 ib, .slice B nb d] 24)) w' → w'.cell? ⟨w.heap.size, 0, none⟩ = some (.int .i64 ia) ∧ w'.cell? ⟨w.heap.size, 1, none⟩ = some (.slice A na c) ∧ w'.cell? ⟨w.heap.size + 1, 0, none⟩ = some (.int .i64 ib) ∧ w'.cell? ⟨w.heap.size + 1, 1, none⟩ = some (.slice B nb d) ∧ w.heap.size + 2 ≤ w'.heap.size ∧ Below w.heap.size w w') := Lib.hid (fun w' h => by
  have hb0 := alloc_below (w.alloc (.cells #[.int .i64 ia, .slice A na c] 24)) (.cells #[.int .i64 ib, .slice B nb d] 24)
  obtain ⟨x0, x1, x2, x3⟩ := (boxU ia A na c w).out _ (hb0.trans (h.mono (by simp)))
  have r1 := (Row2.new (w.alloc (.cells #[.int .i64 ia, .slice A na c] 24)) 24 (.int .i64 ib) (.slice B nb d)).below h (Nat.le_refl _)
  rw [show (w.alloc (.cells #[.int .i64 ia, .slice A na c] 24)).heap.size = w.heap.size + 1 by simp] at r1
  exact ⟨x0, x1, r1.c0, r1.c1, by have := h.size; simp at this; omega, x3⟩)
theorem lt_grow {W w1 : World} (h : Below W.heap.size W w1) : ∀ x : Nat, x < W.heap.size → x < w1.heap.size := fun _ hx => Nat.lt_of_lt_of_le hx h.size
def metV (xs ys : List El.En) : ByteArray × ByteArray × Bool := meetV (covL xs) (covH xs) (covB xs) (covL ys) (covH ys) (covB ys)
def ovV (xs ys : List El.En) : Bool := !emptyV (metV xs ys).1 (metV xs ys).2.1 (metV xs ys).2.2
def ovA (ia : Int) (xs : List El.En) (ib : Int) (ys : List El.En) : Bool × Int :=
  if (runE ia xs).2 ≠ 0 then (false, (runE ia xs).2) else if (runE ib ys).2 ≠ 0 then (false, (runE ib ys).2) else if xs.length = 0 ∨ ys.length = 0 then (false, 0) else (ovV xs ys, 0)
theorem ovA_no1 {ia ib : Int} {xs ys : List El.En} (h : (runE ia xs).2 ≠ 0) : ovA ia xs ib ys = (false, (runE ia xs).2) := if_pos h
theorem ovA_no2 {ia ib : Int} {xs ys : List El.En} (h : (runE ia xs).2 = 0) (g : (runE ib ys).2 ≠ 0) : ovA ia xs ib ys = (false, (runE ib ys).2) := by unfold ovA; rw [if_neg (by rw [h]; simp), if_pos g]
theorem ovA_nil {ia ib : Int} {xs ys : List El.En} (h : (runE ia xs).2 = 0) (g : (runE ib ys).2 = 0) (k : xs.length = 0 ∨ ys.length = 0) : ovA ia xs ib ys = (false, 0) := by unfold ovA; rw [if_neg (by rw [h]; simp), if_neg (by rw [g]; simp), if_pos k]
theorem ovA_ok {ia ib : Int} {xs ys : List El.En} (h : (runE ia xs).2 = 0) (g : (runE ib ys).2 = 0) (k : ¬ (xs.length = 0 ∨ ys.length = 0)) : ovA ia xs ib ys = (ovV xs ys, 0) := by unfold ovA; rw [if_neg (by rw [h]; simp), if_neg (by rw [g]; simp), if_neg k]
theorem retO {p : Bool × Int} {a c : Bool} {r : Int} (h : p = (a, r)) (g : a = c) : Ending.returned (.tuple #[.bool c, .int .i64 r]) = .returned (.tuple #[.bool p.1, .int .i64 p.2]) := by rw [h, g]
theorem cov_sizes {xs : List El.En} (h0 : 0 < xs.length) (hk : ∀ x ∈ xs, x.1.size ≤ 32) : (covL xs).size ≤ 32 ∧ (covH xs).size ≤ 32 := by
  refine ⟨?_, ?_⟩
  · unfold covL; rw [keyAt_eq h0]; exact hk _ (List.getElem_mem _)
  · have hz : (covZ xs).size ≤ 32 := by unfold covZ; rw [keyAt_eq (by omega)]; exact hk _ (List.getElem_mem _)
    unfold covH
    split
    · rcases nx_case hz with ⟨_, h⟩ | ⟨_, h, _⟩ <;> exact h
    · decide
theorem met_sizes {xs ys : List El.En} (h1 : (covL xs).size ≤ 32 ∧ (covH xs).size ≤ 32) (h2 : (covL ys).size ≤ 32 ∧ (covH ys).size ≤ 32) : (metV xs ys).1.size ≤ 32 ∧ (metV xs ys).2.1.size ≤ 32 := by
  unfold metV meetV
  split
  · unfold mLo mHi
    refine ⟨?_, ?_⟩ <;> (simp only; split <;> omega)
  · exact ⟨by decide, by decide⟩
set_option maxRecDepth 100000 in
set_option maxHeartbeats 8000000 in
theorem pOver8_any (ia : Int) (A : Option Addr) (c : Nat) (xs : List El.En) (ib : Int) (B : Option Addr) (d : Nat) (ys : List El.En) (w : World) (hf : EsAt w A xs) (hn : xs.length ≤ 4294967295) (hs : Sized xs) (hg : EsAt w B ys) (hm : ys.length ≤ 4294967295) (ht : Sized ys) :
    Calls Try.prog 25 #[.agg #[.int .i64 ia, .slice A xs.length c], .agg #[.int .i64 ib, .slice B ys.length d]] w fun e w' => e = .returned (.tuple #[.bool (ovA ia xs ib ys).1, .int .i64 (ovA ia xs ib ys).2]) ∧ Below w.heap.size w w' := by
  have HX := boxUU ia A xs.length c ib B ys.length d w
  obtain ⟨x0, x1, x2, x3, x4, x5⟩ := HX.out _ (Below.refl _ _)
  have HB := Lib.hid x5
  have J1 := Lib.hid (fun w1 (h : Below w.heap.size w w1) => pCheck8_any ia A c xs w1 (hf.below h (Nat.le_refl _)) hn hs)
  have J2 := Lib.hid (fun w1 (h : Below w.heap.size w w1) => pCheck8_any ib B d ys w1 (hg.below h (Nat.le_refl _)) hm ht)
  clear x4 x5
  by_cases h1 : (runE ia xs).2 = 0
  rotate_left
  · have HL := Lib.hid (ovA_no1 (ib := ib) (ys := ys) h1)
    obtain ⟨b1, b2⟩ := ne_b h1
    generalize ovA ia xs ib ys = res at *
    generalize (runE ia xs).2 = r at *
    generalize (runE ia xs).1 = r0 at *
    clear h1 hf hs hg ht J2
    generalize xs.length = n at *
    generalize ys.length = m at *
    go_enter Try.func25, Try.ntmps25
    go_wp2_with fail
    refine (J1.out _ HB.out).mono ?_
    rintro e w1 ⟨rfl, hb⟩
    have HC1 := Lib.hid hb
    clear hb x0 x1 x2 x3
    obtain ⟨y0, y1, y2, y3, y4, y5⟩ := HX.out _ HC1.out
    have HB1 := Lib.hid y5
    clear y5
    go_wp2_with fail
    go_ret2
    exact ⟨retO HL.out rfl, HB1.out⟩
  rw [h1] at J1
  by_cases h2 : (runE ib ys).2 = 0
  rotate_left
  · have HL := Lib.hid (ovA_no2 h1 h2)
    obtain ⟨b1, b2⟩ := ne_b h2
    generalize ovA ia xs ib ys = res at *
    generalize (runE ib ys).2 = r at *
    generalize (runE ib ys).1 = r1 at *
    generalize (runE ia xs).1 = r0 at *
    clear h1 h2 hf hs hg ht
    generalize xs.length = n at *
    generalize ys.length = m at *
    go_enter Try.func25, Try.ntmps25
    go_wp2_with fail
    refine (J1.out _ HB.out).mono ?_
    rintro e w1 ⟨rfl, hb⟩
    have HC1 := Lib.hid hb
    clear hb x0 x1 x2 x3
    obtain ⟨y0, y1, y2, y3, y4, y5⟩ := HX.out _ HC1.out
    have HB1 := Lib.hid y5
    clear y5
    go_wp2_with fail
    refine (J2.out _ HB1.out).mono ?_
    rintro e w2 ⟨rfl, hb⟩
    have HC2 := Lib.hid (eb_of HC1.out hb (Nat.le_refl _))
    clear hb y0 y1 y2 y3 y4
    obtain ⟨y0, y1, y2, y3, y4, y5⟩ := HX.out _ HC2.out
    have HB2 := Lib.hid y5
    clear y5
    go_wp2_with fail
    go_ret2
    exact ⟨retO HL.out rfl, HB2.out⟩
  rw [h2] at J2
  by_cases hz1 : xs.length = 0
  · have HL := Lib.hid (ovA_nil h1 h2 (.inl hz1))
    generalize ovA ia xs ib ys = res at *
    generalize (runE ib ys).1 = r1 at *
    generalize (runE ia xs).1 = r0 at *
    clear h1 h2 hf hs hg ht
    generalize xs.length = n at *
    generalize ys.length = m at *
    subst hz1
    go_enter Try.func25, Try.ntmps25
    go_wp2_with fail
    refine (J1.out _ HB.out).mono ?_
    rintro e w1 ⟨rfl, hb⟩
    have HC1 := Lib.hid hb
    clear hb x0 x1 x2 x3
    obtain ⟨y0, y1, y2, y3, y4, y5⟩ := HX.out _ HC1.out
    have HB1 := Lib.hid y5
    clear y5
    go_wp2_with fail
    refine (J2.out _ HB1.out).mono ?_
    rintro e w2 ⟨rfl, hb⟩
    have HC2 := Lib.hid (eb_of HC1.out hb (Nat.le_refl _))
    clear hb y0 y1 y2 y3 y4
    obtain ⟨y0, y1, y2, y3, y4, y5⟩ := HX.out _ HC2.out
    have HB2 := Lib.hid y5
    clear y5
    go_wp2_with fail
    go_ret2
    exact ⟨retO HL.out rfl, HB2.out⟩
  by_cases hz2 : ys.length = 0
  · have HL := Lib.hid (ovA_nil h1 h2 (.inr hz2))
    have z1 : ((xs.length : Int) == 0) = false := by rw [beq_eq_false_iff_ne]; omega
    have z2 : ¬ (xs.length : Int) = 0 := by omega
    generalize ovA ia xs ib ys = res at *
    generalize (runE ib ys).1 = r1 at *
    generalize (runE ia xs).1 = r0 at *
    clear h1 h2 hf hs hg ht hz1
    generalize xs.length = n at *
    generalize ys.length = m at *
    subst hz2
    go_enter Try.func25, Try.ntmps25
    go_wp2_with fail
    refine (J1.out _ HB.out).mono ?_
    rintro e w1 ⟨rfl, hb⟩
    have HC1 := Lib.hid hb
    clear hb x0 x1 x2 x3
    obtain ⟨y0, y1, y2, y3, y4, y5⟩ := HX.out _ HC1.out
    have HB1 := Lib.hid y5
    clear y5
    go_wp2_with fail
    refine (J2.out _ HB1.out).mono ?_
    rintro e w2 ⟨rfl, hb⟩
    have HC2 := Lib.hid (eb_of HC1.out hb (Nat.le_refl _))
    clear hb y0 y1 y2 y3 y4
    obtain ⟨y0, y1, y2, y3, y4, y5⟩ := HX.out _ HC2.out
    have HB2 := Lib.hid y5
    clear y5
    go_wp2_with fail
    go_ret2
    exact ⟨retO HL.out rfl, HB2.out⟩
  have HL := Lib.hid (ovA_ok h1 h2 (by omega))
  have HV : Hid (ovV xs ys = !emptyV (metV xs ys).1 (metV xs ys).2.1 (metV xs ys).2.2) := Lib.hid rfl
  have z1 : ((xs.length : Int) == 0) = false := by rw [beq_eq_false_iff_ne]; omega
  have z2 : ¬ (xs.length : Int) = 0 := by omega
  have z3 : ((ys.length : Int) == 0) = false := by rw [beq_eq_false_iff_ne]; omega
  have z4 : ¬ (ys.length : Int) = 0 := by omega
  obtain ⟨hl, hck, _⟩ := run_ok h1
  obtain ⟨hl', hck', _⟩ := run_ok h2
  have hk32 : ∀ x ∈ xs, x.1.size ≤ 32 := fun x hx => (El.chk_of (hck x hx)).1
  have hk32' : ∀ x ∈ ys, x.1.size ≤ 32 := fun x hx => (El.chk_of (hck' x hx)).1
  have cs1 := cov_sizes (by omega) hk32
  have cs2 := cov_sizes (by omega) hk32'
  have ms := met_sizes cs1 cs2
  have K1 := Lib.hid (fun w1 (h : Below w.heap.size w w1) => coverOf_any A c xs w1 (hf.below h (Nat.le_refl _)) (by omega) hl hk32)
  have K2 := Lib.hid (fun w1 (h : Below w.heap.size w w1) => coverOf_any B d ys w1 (hg.below h (Nat.le_refl _)) (by omega) hl' hk32')
  unfold covV at K1 K2
  have K3 := Lib.hid (fun w1 => kMeet_any (covL xs) (covH xs) (covB xs) (covL ys) (covH ys) (covB ys) w1 (by omega) (by omega) (by omega) (by omega))
  have K4 := Lib.hid (fun w1 => kEmpty_any (metV xs ys).1 (metV xs ys).2.1 (metV xs ys).2.2 w1 (by omega) (by omega))
  rw [show meetV (covL xs) (covH xs) (covB xs) (covL ys) (covH ys) (covB ys) = metV xs ys from rfl] at K3
  clear hf hs hg ht hk32 hk32' hck hck' cs1 cs2 ms h1 h2 hl hl' hz1 hz2
  generalize mErr (covL xs) (covH xs) (covB xs) (covL ys) (covH ys) (covB ys) = me at *
  generalize ovA ia xs ib ys = res at *
  generalize ovV xs ys = ov at *
  generalize (metV xs ys).1 = ml at *
  generalize (metV xs ys).2.1 = mh at *
  generalize (metV xs ys).2.2 = mb at *
  generalize chkR ml mh mb = mc at *
  generalize emptyV ml mh mb = me2 at *
  generalize covL xs = l1 at *
  generalize covH xs = g1 at *
  generalize covB xs = d1 at *
  generalize covL ys = l2 at *
  generalize covH ys = g2 at *
  generalize covB ys = d2 at *
  generalize (runE ia xs).1 = r0 at *
  generalize (runE ib ys).1 = r1 at *
  generalize xs.length = n at *
  generalize ys.length = m at *
  go_enter Try.func25, Try.ntmps25
  go_wp2_with fail
  refine (J1.out _ HB.out).mono ?_
  rintro e w1 ⟨rfl, hb⟩
  have HC1 := Lib.hid hb
  clear hb x0 x1 x2 x3
  obtain ⟨y0, y1, y2, y3, y4, y5⟩ := HX.out _ HC1.out
  have HB1 := Lib.hid y5
  clear y5
  go_wp2_with fail
  refine (J2.out _ HB1.out).mono ?_
  rintro e w2 ⟨rfl, hb⟩
  have HC2 := Lib.hid (eb_of HC1.out hb (Nat.le_refl _))
  clear hb y0 y1 y2 y3 y4
  obtain ⟨y0, y1, y2, y3, y4, y5⟩ := HX.out _ HC2.out
  have HB2 := Lib.hid y5
  clear y5
  go_wp2_with fail
  have HF := Lib.hid (Below.refl w2.heap.size w2)
  have HK : Hid (∀ w', Below w2.heap.size w2 w' → Below w2.heap.size w2 w' ∧ w'.cell? ⟨w.heap.size, 0, none⟩ = some (.int .i64 ia) ∧ w'.cell? ⟨w.heap.size, 1, none⟩ = some (.slice A n c) ∧ w'.cell? ⟨w.heap.size + 1, 0, none⟩ = some (.int .i64 ib) ∧ w'.cell? ⟨w.heap.size + 1, 1, none⟩ = some (.slice B m d)) := Lib.hid (fun w' h => ⟨h, (h.cell (p := ⟨w.heap.size, 0, none⟩) (by simp; omega)).trans y0, (h.cell (p := ⟨w.heap.size, 1, none⟩) (by simp; omega)).trans y1, (h.cell (p := ⟨w.heap.size + 1, 0, none⟩) (by simp; omega)).trans y2, (h.cell (p := ⟨w.heap.size + 1, 1, none⟩) (by simp; omega)).trans y3⟩)
  go_region_held3 (fun w' => Below w2.heap.size w2 w' ∧ w'.cell? ⟨w.heap.size, 0, none⟩ = some (.int .i64 ia) ∧ w'.cell? ⟨w.heap.size, 1, none⟩ = some (.slice A n c) ∧ w'.cell? ⟨w.heap.size + 1, 0, none⟩ = some (.int .i64 ib) ∧ w'.cell? ⟨w.heap.size + 1, 1, none⟩ = some (.slice B m d))
    (first
      | (exact HK.out _ (by assumption))
      | (exact HK.out _ HF.out)
      | (exact HK.out _ (eb_of (by assumption) (below_drewN' 1) (Nat.le_refl _)))
      | (exact HK.out _ (eb_of (by assumption) (alloc_below _ _) (Nat.le_refl _)))
      | (exact HK.out _ (eb_of (And.left (by assumption)) (alloc_below _ _) (Nat.le_refl _)))
      | (exact HK.out _ (set3 (And.left (by assumption)) (by first | omega | (simp; omega) | simp) _ _ _))
      | (exact HK.out _ (set3 (by assumption) (by first | omega | (simp; omega) | simp) _ _ _)))
    (first
      | (go_at_call_of 43 (Value.slice A n c); refine (K1.out _ (eb_of HB2.out (by first | assumption | exact HF.out | exact below_drewN' 1 | exact And.left (by assumption)) (Nat.le_refl _))).mono ?_; rintro e w5 ⟨rfl, hb5⟩; have hb6 : Below w2.heap.size w2 w5 := eb_of (by first | assumption | exact HF.out | exact below_drewN' 1 | exact And.left (by assumption)) hb5 (Nat.le_refl _); have hle5 := hb6.size; obtain ⟨hcc, hff⟩ := bcell hb5; (try have : w2.heap.size < w5.heap.size := by have := hb5.size; first | omega | (simp at this; omega)); clear hb5)
      | (go_at_call_of 43 (Value.slice B m d); refine (K2.out _ (eb_of HB2.out (by first | assumption | exact HF.out | exact below_drewN' 1 | exact And.left (by assumption)) (Nat.le_refl _))).mono ?_; rintro e w6 ⟨rfl, hb5⟩; have hb6 : Below w2.heap.size w2 w6 := eb_of (by first | assumption | exact HF.out | exact below_drewN' 1 | exact And.left (by assumption)) hb5 (Nat.le_refl _); have hle5 := hb6.size; obtain ⟨hcc, hff⟩ := bcell hb5; (try have : w2.heap.size < w6.heap.size := by have := hb5.size; first | omega | (simp at this; omega)); (try have : w5.heap.size < w6.heap.size := by have := hb5.size; first | omega | (simp at this; omega)); clear hb5)
      | (go_at_call 44; refine (K3.out _).mono ?_; rintro e w7 ⟨rfl, hb7⟩; have hb8 : Below w2.heap.size w2 w7 := eb_of (by first | assumption | exact HF.out | exact below_drewN' 1 | exact And.left (by assumption)) hb7 (Nat.le_refl _); have hle7 := hb8.size; obtain ⟨hcc, hff⟩ := bcell hb7; (try have : w2.heap.size < w7.heap.size := by have := hb7.size; first | omega | (simp at this; omega)); (try have : w5.heap.size < w7.heap.size := by have := hb7.size; first | omega | (simp at this; omega)); (try have : w6.heap.size < w7.heap.size := by have := hb7.size; first | omega | (simp at this; omega)); clear hb7))
  all_goals
    go_wp2_with fail
    refine (K4.out _).mono ?_
    rintro e w9 ⟨rfl, hb⟩
    have HB9 := Lib.hid (eb_of (eb_of HB2.out (by first | assumption | exact And.left (by assumption)) (Nat.le_refl _)) hb (Nat.le_refl _))
    clear hb
    go_wp2_with fail
    go_ret2
    exact ⟨retO HL.out HV.out, HB9.out⟩
end Go.Proofs.Ytjnbdeahmbkbnaa.KK
