/-
  Contract of the plain map's Check.
-/
import Derived.Test.YtbgpcmpbfenplaaVa
namespace Go.Proofs.Ytbgpcmpbfenplaa.KK
open Go.ChangeShapes Go.WideShapes Go.ChangeAt Go.RowKit Go.Proofs

def kp (x y : Pr) : Bool := Kl.lt (Kl.L x.1) (Kl.L y.1)
/-- keys ascend, none twice -/
def SP (l : List Pr) : Prop := l.Pairwise fun x y => kp x y = true
/-- what is wrong with a pair behind another one -/
def wrongP (p : Option Pr) (x : Pr) : Int :=
  if szE x.1 x.2 = 0 then (match p with | none => 0 | some y => if 0 ≤ Kl.ord (Kl.L y.1) (Kl.L x.1) then 6 else 0) else szE x.1 x.2
def scanP : Nat → Option Pr → List Pr → Int × Int
  | _, _, [] => (0, 0)
  | i, p, x :: t => if wrongP p x = 0 then scanP (i + 1) (some x) t else ((i : Int), wrongP p x)
def mapE (xs : List Pr) : Int × Int := if 4000 < xs.length then (-1, 5) else scanP 0 none xs
def prevP (xs : List Pr) : Nat → Option Pr
  | 0 => none
  | k + 1 => xs[k]?
theorem prevP_succ {xs : List Pr} {k : Nat} (h : k < xs.length) : prevP xs (k + 1) = some xs[k] := List.getElem?_eq_getElem h
theorem scanP_ok {xs : List Pr} {k : Nat} (h : k < xs.length) (g : wrongP (prevP xs k) xs[k] = 0) : scanP k (prevP xs k) (xs.drop k) = scanP (k + 1) (prevP xs (k + 1)) (xs.drop (k + 1)) := by
  rw [List.drop_eq_getElem_cons h, prevP_succ h]; exact if_pos g
theorem scanP_no {xs : List Pr} {k : Nat} (h : k < xs.length) (g : wrongP (prevP xs k) xs[k] ≠ 0) : scanP k (prevP xs k) (xs.drop k) = ((k : Int), wrongP (prevP xs k) xs[k]) := by
  rw [List.drop_eq_getElem_cons h]; exact if_neg g
theorem scanP_end {xs : List Pr} {k : Nat} {p : Option Pr} (h : ¬ k < xs.length) : scanP k p (xs.drop k) = (0, 0) := by
  rw [List.drop_eq_nil_of_le (by omega)]; rfl
theorem wrongP_sz {p : Option Pr} {x : Pr} (h : szE x.1 x.2 ≠ 0) : wrongP p x = szE x.1 x.2 := if_neg h
theorem wrongP_none {x : Pr} (h : szE x.1 x.2 = 0) : wrongP none x = 0 := if_pos h
theorem wrongP_up {y x : Pr} (h : szE x.1 x.2 = 0) (g : ¬ 0 ≤ Kl.ord (Kl.L y.1) (Kl.L x.1)) : wrongP (some y) x = 0 := by unfold wrongP; rw [if_pos h]; exact if_neg g
theorem wrongP_down {y x : Pr} (h : szE x.1 x.2 = 0) (g : 0 ≤ Kl.ord (Kl.L y.1) (Kl.L x.1)) : wrongP (some y) x = 6 := by unfold wrongP; rw [if_pos h]; exact if_pos g
theorem retP {a b c d : Int} {p : Int × Int} (h : p = (a, b)) (g : a = c) (k : b = d) : Ending.returned (.tuple #[.int .i64 c, .int .i64 d]) = .returned (.tuple #[.int .i64 p.1, .int .i64 p.2]) := by rw [h, g, k]
theorem wrongP_zero {p : Option Pr} {x : Pr} (h : wrongP p x = 0) : szE x.1 x.2 = 0 ∧ ∀ y, p = some y → kp y x = true := by
  unfold wrongP at h
  by_cases hc : szE x.1 x.2 = 0
  · rw [if_pos hc] at h
    refine ⟨hc, fun y hy => ?_⟩
    subst hy
    by_cases g : 0 ≤ Kl.ord (Kl.L y.1) (Kl.L x.1)
    · simp only at h; rw [if_pos g] at h; cases h
    · exact Kl.ord_neg.1 (by omega)
  · rw [if_neg hc] at h; exact absurd h hc
theorem kp_trans {x y z : Pr} (h : kp x y = true) (g : kp y z = true) : kp x z = true := Kl.lt_trans h g
theorem scanP_zero : ∀ {xs : List Pr} {i : Nat} {p : Option Pr}, (scanP i p xs).2 = 0 → (∀ x ∈ xs, szE x.1 x.2 = 0) ∧ SP xs ∧ ∀ y, p = some y → ∀ x ∈ xs, kp y x = true
  | [], _, _, _ => ⟨fun x hx => (by cases hx), List.Pairwise.nil, fun y _ x hx => (by cases hx)⟩
  | x :: t, i, p, h => by
    by_cases g : wrongP p x = 0
    · rw [scanP, if_pos g] at h
      obtain ⟨a1, a2, a3⟩ := scanP_zero h
      obtain ⟨b1, b2⟩ := wrongP_zero g
      refine ⟨fun z hz => ?_, List.pairwise_cons.2 ⟨a3 x rfl, a2⟩, fun y hy z hz => ?_⟩
      · rcases List.mem_cons.1 hz with rfl | hz
        · exact b1
        · exact a1 z hz
      · rcases List.mem_cons.1 hz with rfl | hz
        · exact b2 y hy
        · exact kp_trans (b2 y hy) (a3 x rfl z hz)
    · rw [scanP, if_neg g] at h; exact absurd h g
/-- a map that Check finds nothing wrong with -/
theorem map_ok {xs : List Pr} (h : (mapE xs).2 = 0) : xs.length ≤ 4000 ∧ (∀ x ∈ xs, szE x.1 x.2 = 0) ∧ SP xs := by
  unfold mapE at h
  by_cases g : 4000 < xs.length
  · rw [if_pos g] at h; cases h
  · rw [if_neg g] at h
    obtain ⟨a1, a2, _⟩ := scanP_zero h
    exact ⟨by omega, a1, a2⟩
set_option maxHeartbeats 2000000 in
theorem mCheck_any (A : Option Addr) (c : Nat) (xs : List Pr) (w : World) (hf : PsAt w A xs) (hn : xs.length ≤ 4294967295) (hs : SizedP xs) :
    Calls Try.prog 49 #[.slice A xs.length c] w fun e w' => e = .returned (.tuple #[.int .i64 (mapE xs).1, .int .i64 (mapE xs).2]) ∧ Below w.heap.size w w' := by
  by_cases h64 : 4000 < xs.length
  · go_enter Try.func49, Try.ntmps49
    go_wp2_with fail
    go_ret2
    exact ⟨by rw [mapE, if_pos h64]; rfl, Below.refl _ _⟩
  have HAL : Hid (mapE xs = scanP 0 none xs) := Lib.hid (by rw [mapE, if_neg h64])
  have HF := Lib.hid hf
  have HS := Lib.hid hs
  obtain ⟨n, hnn⟩ : ∃ n, xs.length = n := ⟨_, rfl⟩
  rw [hnn] at hn h64 ⊢
  have HN := Lib.hid hnn
  clear hf hs hnn
  go_enter Try.func49, Try.ntmps49
  go_wp2_with fail
  go_loopw [12] (fun i wr => ∃ k : Nat, k ≤ n ∧ i = .int .i64 k ∧ Below w.heap.size w wr ∧ scanP 0 none xs = scanP k (prevP xs k) (xs.drop k) ∧ (∀ y, prevP xs k = some y → szE y.1 y.2 = 0)) (fun i _ => n - (intOf i).toNat)
  case atStart => exact ⟨0, Nat.zero_le _, rfl, Below.refl _ _, rfl, fun y h => by cases h⟩
  case round =>
    obtain ⟨k, hk, rfl, hb, ha, hpv⟩ := hrel
    have HPV := Lib.hid hpv
    have hsz := hb.size
    have HA := Lib.hid ha
    have HB := Lib.hid hb
    clear ha hb hpv
    by_cases hlt : k < n
    rotate_left
    · have hf1 : ¬ (k : Int) < (n : Int) := by omega
      go_wp2_with fail
      go_ret2
      exact ⟨by rw [HAL.out, HA.out, scanP_end (by rw [HN.out]; exact hlt)]; rfl, HB.out⟩
    have hf1 : (k : Int) < (n : Int) := by omega
    have hlx : k < xs.length := by rw [HN.out]; exact hlt
    rcases HF.out.below HB.out (Nat.le_refl _) with h0 | ⟨b, off, rfl, hbl, hc⟩
    · rw [h0] at hlx; simp at hlx
    obtain ⟨g0, g1⟩ := hc k hlx
    have J := Lib.hid (fun w => sizes_any xs[k].1 xs[k].2 w (HS.out.at hlx).1 (HS.out.at hlx).2)
    by_cases hl : szE xs[k].1 xs[k].2 = 0
    rotate_left
    · have HL := Lib.hid (scanP_no hlx (by rw [wrongP_sz hl]; exact hl))
      rw [wrongP_sz hl] at HL
      obtain ⟨b1, b2⟩ := ne_b hl
      clear hl hc
      generalize szE xs[k].1 xs[k].2 = r at *
      generalize xs[k].1 = xk at *
      generalize xs[k].2 = xv at *
      go_wp2_with fail
      refine (J.out _).mono ?_
      rintro e w1 ⟨rfl, rfl⟩
      go_wp2_with fail
      go_ret2
      exact ⟨retP (HAL.out.trans (HA.out.trans HL.out)) rfl rfl, HB.out.alloc hsz _⟩
    have HC0 := Lib.hid hl
    have sk := (szE_of hl).1
    rw [hl] at J
    clear hl
    by_cases hk0 : k = 0
    · have hk0' : decide ((0 : Int) < (k : Int)) = false := by simp; omega
      have hk1' : decide (0 < k) = false := by simp; omega
      have HL := Lib.hid (scanP_ok hlx (by subst hk0; exact wrongP_none HC0.out))
      clear hk0 hc
      have HB1 := Lib.hid (HB.out.alloc hsz (.cells #[.string xs[k].1, .string xs[k].2] 31))
      have HZ : Hid (szE xs[k].1 xs[k].2 = 0) := HC0
      go_wp2_with fail
      refine (J.out _).mono ?_
      rintro e w1 ⟨rfl, rfl⟩
      go_wp2_with fail
      go_quiet (fail)
      go_wp2_with fail
      go_roundw
      case rel => exact ⟨k + 1, by omega, by go_num, HB1.out.trans ((below_drewN' _).mono HB1.out.size), HA.out.trans HL.out, fun y h => by cases (prevP_succ hlx).symm.trans h; exact HC0.out⟩
      case measure => simp [intOf]; omega
    · obtain ⟨j, rfl⟩ : ∃ j, k = j + 1 := ⟨k - 1, by omega⟩
      clear hk0
      have hj : j < xs.length := by omega
      obtain ⟨p0, p1⟩ := hc j hj
      have hcj : szE xs[j].1 xs[j].2 = 0 := HPV.out _ (prevP_succ hj)
      have sj := (szE_of hcj).1
      have hwp : IntKind.i64.wrap (j : Int) = (j : Int) := by rw [IntKind.wrap_i64]; omega
      have hwp2 : IntKind.i64.wrap (((j + 1 : Nat) : Int) - 1) = (j : Int) := by rw [IntKind.wrap_i64]; omega
      have hjb : (j : Int) < (n : Int) := by omega
      have hjb2 : j < n := by omega
      have hkb : (j : Int) + 1 < (n : Int) := by omega
      have hj1 : decide ((0 : Int) < (j : Int) + 1) = true := by rw [decide_eq_true_eq]; omega
      have hj2 : decide ((0 : Int) < ((j + 1 : Nat) : Int)) = true := by rw [decide_eq_true_eq]; omega
      have hj3 : decide (0 < j + 1) = true := by rw [decide_eq_true_eq]; omega
      have JK := Lib.hid (fun w => mOrder_any xs[j].1 xs[j + 1].1 w sj sk)
      have HB1 := Lib.hid (HB.out.alloc hsz (.cells #[.string xs[j + 1].1, .string xs[j + 1].2] 31))
      have x0 : ∀ p : Abv (wr.alloc (.cells #[.string xs[j + 1].1, .string xs[j + 1].2] 31)), p.world.cell? ⟨wr.heap.size, 0, none⟩ = some (.string xs[j + 1].1) := abv_c ((cell_of_row _ wr.heap.size 0 _ _ _ (heap_alloc_new wr _)).trans rfl)
      have z0 : ∀ p : Abv (wr.alloc (.cells #[.string xs[j + 1].1, .string xs[j + 1].2] 31)), p.world.cell? ⟨b, off + j * 2, none⟩ = some (.string xs[j].1) := abv_c ((cell_alloc_old hbl).trans p0)
      clear hc sj sk hcj p0 p1
      by_cases ho : 0 ≤ Kl.ord (Kl.L xs[j].1) (Kl.L xs[j + 1].1)
      · have hw : wrongP (prevP xs (j + 1)) xs[j + 1] = 6 := by rw [prevP_succ hj]; exact wrongP_down HC0.out ho
        have hno := scanP_no (k := j + 1) hlx (by rw [hw]; decide)
        rw [hw] at hno
        have HL := Lib.hid hno
        clear hw hno
        have hd : decide (0 ≤ Kl.ord (Kl.L xs[j].1) (Kl.L xs[j + 1].1)) = true := by simpa using ho
        clear ho
        generalize Kl.ord (Kl.L xs[j].1) (Kl.L xs[j + 1].1) = r at *
        go_wp2_with fail
        refine (J.out _).mono ?_
        rintro e w1 ⟨rfl, rfl⟩
        go_wp2_with fail
        refine wp_region_abv (by first | assumption | kernel_rfl) (by kernel_rfl) ?_
        repeat (first | go_big_quiet_step (exact callAbv (JK.out _)) | quiet_step (exact callAbv (JK.out _)))
        refine wpQuiet_nil ?_
        intro w2 hw2
        obtain ⟨p, rfl⟩ := hw2
        go_wp2_with fail
        go_ret2
        exact ⟨retP (HAL.out.trans (HA.out.trans HL.out)) (by first | rfl | go_num) rfl, eb_of HB1.out p.h (Nat.le_refl _)⟩
      · have HL := Lib.hid (scanP_ok (k := j + 1) hlx (by rw [prevP_succ hj, wrongP_up HC0.out ho]))
        have hd : decide (0 ≤ Kl.ord (Kl.L xs[j].1) (Kl.L xs[j + 1].1)) = false := by simpa using ho
        clear ho
        generalize Kl.ord (Kl.L xs[j].1) (Kl.L xs[j + 1].1) = r at *
        go_wp2_with fail
        refine (J.out _).mono ?_
        rintro e w1 ⟨rfl, rfl⟩
        go_wp2_with fail
        refine wp_region_abv (by first | assumption | kernel_rfl) (by kernel_rfl) ?_
        repeat (first | go_big_quiet_step (exact callAbv (JK.out _)) | quiet_step (exact callAbv (JK.out _)))
        refine wpQuiet_nil ?_
        intro w2 hw2
        obtain ⟨p, rfl⟩ := hw2
        go_wp2_with fail
        go_roundw
        case rel => exact ⟨j + 1 + 1, by omega, by go_num, eb_of HB1.out p.h (Nat.le_refl _), HA.out.trans HL.out, fun y h => by cases (prevP_succ hlx).symm.trans h; exact HC0.out⟩
        case measure => simp [intOf]; omega
end Go.Proofs.Ytbgpcmpbfenplaa.KK
