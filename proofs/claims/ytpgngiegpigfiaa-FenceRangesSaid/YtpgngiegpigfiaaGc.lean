/-
  FenceRanges: the walk.
-/
import Derived.Test.YtpgngiegpigfiaaFx
namespace Go.Proofs.Ytpgngiegpigfiaa.KK
open Go.ChangeShapes Go.WideShapes Go.ChangeAt Go.RowKit Go.Proofs

theorem empty_facts {s : Int} {ms : List ByteArray} {lo hi : ByteArray} {b : Bool} (h : rngE s ms lo hi b = 0) (hc : chkR lo hi b = 0) :
    ((blocksE s ms lo hi b).1 == (blocksE s ms lo hi b).2.1) = emptyV lo hi b ∧ ¬ (blocksE s ms lo hi b).1 < 0 ∧ ¬ (blocksE s ms lo hi b).2.1 < (blocksE s ms lo hi b).1 ∧ ¬ (ms.length : Int) + 1 < (blocksE s ms lo hi b).2.1 := by
  cases he : emptyV lo hi b with
  | true => rw [blocksE_empty h he]; simp; omega
  | false =>
    rw [blocksE_ok h he]
    have h1 := upN_le ms lo
    have h2 := lessN_le ms hi
    have h3 : upN ms lo ≤ lastN ms hi b ∧ lastN ms hi b ≤ ms.length := by
      unfold lastN
      cases b with
      | false => simp; exact h1
      | true =>
        have : ltK lo hi = true := by
          unfold emptyV at he
          rw [decide_eq_true hc] at he
          simpa [ltK] using he
        simp; exact ⟨up_less ms this, h2⟩
    refine ⟨?_, by simp only; omega, by simp only; omega, by simp only; omega⟩
    rw [beq_eq_false_iff_ne]; simp only; omega
theorem has_facts {st : Nat} {ms : List ByteArray} {xs : List El.En} {lo hi : ByteArray} {b : Bool} (P : Pair st ms xs) (hft : fitsF st ms xs = true) (h : rngE st ms lo hi b = 0) (hc : chkR lo hi b = 0) {k : Nat} (hk : k < xs.length) (hh : hasB lo hi b xs[k].1 = true) :
    ¬ ((k / st : Nat) : Int) < (blocksE st ms lo hi b).1 ∧ ¬ (blocksE st ms lo hi b).2.1 ≤ ((k / st : Nat) : Int) := by
  have hsp := span_at P.lo P.asc hft hk
  rw [keyAt_eq hk] at hsp
  unfold hasB at hh
  rw [Bool.and_eq_true, Bool.not_eq_true', Bool.or_eq_true, Bool.not_eq_true'] at hh
  cases he : emptyV lo hi b with
  | true =>
    exfalso
    rw [emptyV_has hc, Bool.not_eq_true'] at he
    unfold hasB at he
    rw [Kl.lt_irrefl, Bool.not_false, Bool.true_and, Bool.or_eq_false_iff] at he
    obtain ⟨e1, e2⟩ := he
    rcases hh.2 with e3 | e3
    · rw [e3] at e1; cases e1
    · rw [Kl.le_lt hh.1 e3] at e2; cases e2
  | false =>
    rw [blocksE_ok h he]
    have h1 := up_mono ms (a := lo) (b := xs[k].1) hh.1
    have h2 : upN ms xs[k].1 ≤ lastN ms hi b := by
      unfold lastN
      cases b with
      | false => simp; exact upN_le _ _
      | true =>
        rcases hh.2 with e3 | e3
        · cases e3
        · simp; exact up_less ms e3
    rw [hsp] at h1 h2
    simp only
    omega
set_option maxRecDepth 100000 in
set_option maxHeartbeats 8000000 in
theorem FenceRanges_any (s : Int) (A : Option Addr) (c : Nat) (ms : List ByteArray) (B : Option Addr) (d : Nat) (xs : List El.En) (lo hi : ByteArray) (b : Bool) (w : World) (hf : SsAt w A ms) (hn : ms.length ≤ 9223372036854775807) (hs : SizedS ms) (hg : EsAt w B xs) (hm : xs.length ≤ 9223372036854775807) (ht : Sized xs) (hcap : xs.length ≤ d) (hnil : B = none → d = 0) (hlo : lo.size ≤ 9223372036854775807) (hhi : hi.size ≤ 9223372036854775807) :
    Calls Try.prog 7 #[.agg #[.int .i64 s, .slice A ms.length c], .slice B xs.length d, .agg #[.string lo, .string hi, .bool b]] w fun e w' => e = .returned (.bool true) ∧ Below w.heap.size w w' := by
  have HY := boxFR s A ms.length c lo hi b w
  obtain ⟨x0, x1, x2, x3, x4, hlx, hbx⟩ := HY.out _ (Below.refl _ _)
  have HB := Lib.hid hbx
  clear hlx hbx
  have HC := Lib.hid (Below.refl ((w.alloc (.cells #[.int .i64 s, .slice A ms.length c] 25)).alloc (.cells #[.string lo, .string hi, .bool b] 37)).heap.size ((w.alloc (.cells #[.int .i64 s, .slice A ms.length c] 25)).alloc (.cells #[.string lo, .string hi, .bool b] 37)))
  have JW := Lib.hid (fun w1 (h : Below w.heap.size w w1) => wide7_any s A c ms w1 (hf.below h (Nat.le_refl _)) hn hs)
  have JF := Lib.hid (fun w1 (h : Below w.heap.size w w1) => far7_any B d xs w1 (hg.below h (Nat.le_refl _)) hm ht)
  cases hfar : farF xs with
  | true =>
    rw [hfar] at JF
    clear hf hs hg ht hfar JW
    generalize xs.length = nx at *
    go_enter Try.func7, Try.ntmps7
    go_wp2_with fail
    refine (JF.out _ HB.out).mono ?_
    rintro e w0 ⟨rfl, rfl⟩
    go_wp2_with fail
    refine (awake7_any _).mono ?_
    rintro e w99 ⟨rfl, hb⟩
    have HBz := Lib.hid (eb_of HB.out hb (by first | exact Nat.le_refl _ | (simp; omega)))
    clear hb
    go_wp2_with fail
    go_ret
    exact ⟨by first | rfl | simp, HBz.out⟩
  | false =>
    rw [hfar] at JF
    have hlx := far_len hfar
    clear hfar
    cases hw : wideF ms with
    | true =>
      rw [hw] at JW
      clear hf hs hg ht hw
      generalize xs.length = nx at *
      go_enter Try.func7, Try.ntmps7
      go_wp2_with fail
      refine (JF.out _ HB.out).mono ?_
      rintro e w0 ⟨rfl, rfl⟩
      go_wp2_with fail
      refine (JW.out _ HB.out).mono ?_
      rintro e w1 ⟨rfl, hb⟩
      have HC := Lib.hid (eb_of HC.out hb (Nat.le_refl _))
      clear hb x0 x1 x2 x3 x4
      obtain ⟨x0, x1, x2, x3, x4, hlx, hbx⟩ := HY.out _ HC.out
      have HB := Lib.hid hbx
      clear hlx hbx
      go_wp2_with fail
      refine (awake7_any _).mono ?_
      rintro e w99 ⟨rfl, hb⟩
      have HBz := Lib.hid (eb_of HB.out hb (by first | exact Nat.le_refl _ | (simp; omega)))
      clear hb
      go_wp2_with fail
      go_ret
      exact ⟨by first | rfl | simp, HBz.out⟩
    | false =>
      rw [hw] at JW
      have hlen := wide_len hw
      clear hw
      have J1 := Lib.hid (fun w1 (h : Below w.heap.size w w1) => pFits7_any s A c ms B d xs w1 (hf.below h (Nat.le_refl _)) (hg.below h (Nat.le_refl _)) (by omega) (by omega) hs ht hcap)
      have J2 := Lib.hid (fun w1 (h : Below w.heap.size w w1) => pBlocks7_any s A c ms lo hi b w1 (hf.below h (Nat.le_refl _)) (by omega) hs hlo hhi)
      by_cases l1 : 100 < lo.size
      · have l1' : (100 : Int) < (lo.size : Int) := by omega
        clear J1 J2 hf hs hg ht hcap hnil
        generalize xs.length = nx at *
        go_enter Try.func7, Try.ntmps7
        go_wp2_with fail
        refine (JF.out _ HB.out).mono ?_
        rintro e w0 ⟨rfl, rfl⟩
        go_wp2_with fail
        refine (JW.out _ HB.out).mono ?_
        rintro e w1 ⟨rfl, hb⟩
        have HC := Lib.hid (eb_of HC.out hb (Nat.le_refl _))
        clear hb x0 x1 x2 x3 x4
        obtain ⟨x0, x1, x2, x3, x4, hlx, hbx⟩ := HY.out _ HC.out
        have HB := Lib.hid hbx
        clear hlx hbx
        go_wp2_with fail
        refine (awake7_any _).mono ?_
        rintro e w99 ⟨rfl, hb⟩
        have HBz := Lib.hid (eb_of HB.out hb (by first | exact Nat.le_refl _ | (simp; omega)))
        clear hb
        go_wp2_with fail
        go_ret
        exact ⟨by first | rfl | simp, HBz.out⟩
      have l1' : ¬ (100 : Int) < (lo.size : Int) := by omega
      by_cases l2 : 100 < hi.size
      · have l2' : (100 : Int) < (hi.size : Int) := by omega
        clear J1 J2 hf hs hg ht hcap hnil
        generalize xs.length = nx at *
        go_enter Try.func7, Try.ntmps7
        go_wp2_with fail
        refine (JF.out _ HB.out).mono ?_
        rintro e w0 ⟨rfl, rfl⟩
        go_wp2_with fail
        refine (JW.out _ HB.out).mono ?_
        rintro e w1 ⟨rfl, hb⟩
        have HC := Lib.hid (eb_of HC.out hb (Nat.le_refl _))
        clear hb x0 x1 x2 x3 x4
        obtain ⟨x0, x1, x2, x3, x4, hlx, hbx⟩ := HY.out _ HC.out
        have HB := Lib.hid hbx
        clear hlx hbx
        go_wp2_with fail
        refine (awake7_any _).mono ?_
        rintro e w99 ⟨rfl, hb⟩
        have HBz := Lib.hid (eb_of HB.out hb (by first | exact Nat.le_refl _ | (simp; omega)))
        clear hb
        go_wp2_with fail
        go_ret
        exact ⟨by first | rfl | simp, HBz.out⟩
      have l2' : ¬ (100 : Int) < (hi.size : Int) := by omega
      by_cases hb0 : bothE s ms xs = 0
      rotate_left
      · rw [fitsR_no hb0] at J1
        obtain ⟨b1, b2⟩ := ne_b hb0
        clear hf hs hg ht hcap hnil hb0
        generalize bothE s ms xs = r at *
        generalize (blocksE s ms lo hi b).1 = g1 at *
        generalize (blocksE s ms lo hi b).2.1 = g2 at *
        generalize (blocksE s ms lo hi b).2.2 = g3 at *
        generalize xs.length = nx at *
        go_enter Try.func7, Try.ntmps7
        go_wp2_with fail
        refine (JF.out _ HB.out).mono ?_
        rintro e w0 ⟨rfl, rfl⟩
        go_wp2_with fail
        refine (JW.out _ HB.out).mono ?_
        rintro e w1 ⟨rfl, hb⟩
        have HC := Lib.hid (eb_of HC.out hb (Nat.le_refl _))
        clear hb x0 x1 x2 x3 x4
        obtain ⟨x0, x1, x2, x3, x4, hlx, hbx⟩ := HY.out _ HC.out
        have HB := Lib.hid hbx
        clear hlx hbx
        go_wp2_with fail
        refine (J1.out _ HB.out).mono ?_
        rintro e w2 ⟨rfl, hb⟩
        have HC := Lib.hid (eb_of HC.out hb (Nat.le_refl _))
        clear hb x0 x1 x2 x3 x4
        obtain ⟨x0, x1, x2, x3, x4, hlx, hbx⟩ := HY.out _ HC.out
        have HB := Lib.hid hbx
        clear hlx hbx
        go_wp2_with fail
        refine (J2.out _ HB.out).mono ?_
        rintro e w3 ⟨rfl, hb⟩
        have HC := Lib.hid (eb_of HC.out hb (Nat.le_refl _))
        clear hb x0 x1 x2 x3 x4
        obtain ⟨x0, x1, x2, x3, x4, hlx, hbx⟩ := HY.out _ HC.out
        have HB := Lib.hid hbx
        clear hlx hbx
        go_wp2_with fail
        refine (awake7_any _).mono ?_
        rintro e w99 ⟨rfl, hb⟩
        have HBz := Lib.hid (eb_of HB.out hb (by first | exact Nat.le_refl _ | (simp; omega)))
        clear hb
        go_wp2_with fail
        go_ret
        exact ⟨by first | rfl | simp, HBz.out⟩
      rw [fitsR_ok hb0] at J1
      obtain ⟨st, rfl, P⟩ := pair_of hb0
      rw [show ((st : Nat) : Int).toNat = st by omega] at J1
      cases hft : fitsF st ms xs with
      | false =>
        rw [hft] at J1
        clear hf hs hg ht hcap hnil hb0 hft P
        generalize (blocksE st ms lo hi b).1 = g1 at *
        generalize (blocksE st ms lo hi b).2.1 = g2 at *
        generalize (blocksE st ms lo hi b).2.2 = g3 at *
        generalize xs.length = nx at *
        go_enter Try.func7, Try.ntmps7
        go_wp2_with fail
        refine (JF.out _ HB.out).mono ?_
        rintro e w0 ⟨rfl, rfl⟩
        go_wp2_with fail
        refine (JW.out _ HB.out).mono ?_
        rintro e w1 ⟨rfl, hb⟩
        have HC := Lib.hid (eb_of HC.out hb (Nat.le_refl _))
        clear hb x0 x1 x2 x3 x4
        obtain ⟨x0, x1, x2, x3, x4, hlx, hbx⟩ := HY.out _ HC.out
        have HB := Lib.hid hbx
        clear hlx hbx
        go_wp2_with fail
        refine (J1.out _ HB.out).mono ?_
        rintro e w2 ⟨rfl, hb⟩
        have HC := Lib.hid (eb_of HC.out hb (Nat.le_refl _))
        clear hb x0 x1 x2 x3 x4
        obtain ⟨x0, x1, x2, x3, x4, hlx, hbx⟩ := HY.out _ HC.out
        have HB := Lib.hid hbx
        clear hlx hbx
        go_wp2_with fail
        refine (J2.out _ HB.out).mono ?_
        rintro e w3 ⟨rfl, hb⟩
        have HC := Lib.hid (eb_of HC.out hb (Nat.le_refl _))
        clear hb x0 x1 x2 x3 x4
        obtain ⟨x0, x1, x2, x3, x4, hlx, hbx⟩ := HY.out _ HC.out
        have HB := Lib.hid hbx
        clear hlx hbx
        go_wp2_with fail
        refine (awake7_any _).mono ?_
        rintro e w99 ⟨rfl, hb⟩
        have HBz := Lib.hid (eb_of HB.out hb (by first | exact Nat.le_refl _ | (simp; omega)))
        clear hb
        go_wp2_with fail
        go_ret
        exact ⟨by first | rfl | simp, HBz.out⟩
      | true =>
        rw [hft] at J1
        by_cases hc0 : chkR lo hi b = 0
        rotate_left
        · have hr : rngE st ms lo hi b = chkR lo hi b := rngE_ok (bothE_zero hb0).1
          rw [blocksE_no (by rw [hr]; exact hc0), hr] at J2
          obtain ⟨b1, b2⟩ := ne_b hc0
          clear hf hs hg ht hcap hnil hb0 hft P hc0 hr
          generalize chkR lo hi b = r at *
          generalize xs.length = nx at *
          go_enter Try.func7, Try.ntmps7
          go_wp2_with fail
          refine (JF.out _ HB.out).mono ?_
          rintro e w0 ⟨rfl, rfl⟩
          go_wp2_with fail
          refine (JW.out _ HB.out).mono ?_
          rintro e w1 ⟨rfl, hb⟩
          have HC := Lib.hid (eb_of HC.out hb (Nat.le_refl _))
          clear hb x0 x1 x2 x3 x4
          obtain ⟨x0, x1, x2, x3, x4, hlx, hbx⟩ := HY.out _ HC.out
          have HB := Lib.hid hbx
          clear hlx hbx
          go_wp2_with fail
          refine (J1.out _ HB.out).mono ?_
          rintro e w2 ⟨rfl, hb⟩
          have HC := Lib.hid (eb_of HC.out hb (Nat.le_refl _))
          clear hb x0 x1 x2 x3 x4
          obtain ⟨x0, x1, x2, x3, x4, hlx, hbx⟩ := HY.out _ HC.out
          have HB := Lib.hid hbx
          clear hlx hbx
          go_wp2_with fail
          refine (J2.out _ HB.out).mono ?_
          rintro e w3 ⟨rfl, hb⟩
          have HC := Lib.hid (eb_of HC.out hb (Nat.le_refl _))
          clear hb x0 x1 x2 x3 x4
          obtain ⟨x0, x1, x2, x3, x4, hlx, hbx⟩ := HY.out _ HC.out
          have HB := Lib.hid hbx
          clear hlx hbx
          go_wp2_with fail
          refine (awake7_any _).mono ?_
          rintro e w99 ⟨rfl, hb⟩
          have HBz := Lib.hid (eb_of HB.out hb (by first | exact Nat.le_refl _ | (simp; omega)))
          clear hb
          go_wp2_with fail
          go_ret
          exact ⟨by first | rfl | simp, HBz.out⟩
        have hr : rngE st ms lo hi b = 0 := by rw [rngE_ok (bothE_zero hb0).1]; exact hc0
        have he0 : (blocksE st ms lo hi b).2.2 = 0 := by
          cases he : emptyV lo hi b with
          | true => rw [blocksE_empty hr he]
          | false => rw [blocksE_ok hr he]
        rw [he0] at J2
        obtain ⟨e1, e2, e3, e4⟩ := empty_facts hr hc0
        have HH := Lib.hid (fun k (hk : k < xs.length) => has_facts P hft hr hc0 hk)
        have J3 := Lib.hid (fun w => by have K := rEmpty_any lo hi b w hlo hhi; rw [hc0] at K; exact K)
        have HG := Lib.hid hg
        have JH := Lib.hid (fun k (hk : k < xs.length) w => Has_any lo hi b xs[k].1 w hlo hhi (ht.at hk).1)
        have h1 := P.lo
        have h64 := P.hi
        have hl5 := P.len
        clear hf hs hg ht hcap hnil hb0 hft P hc0 hr he0
        generalize (blocksE st ms lo hi b).1 = g1 at *
        generalize (blocksE st ms lo hi b).2.1 = g2 at *
        generalize emptyV lo hi b = ev at *
        go_enter Try.func7, Try.ntmps7
        go_wp2_with fail
        refine (JF.out _ HB.out).mono ?_
        rintro e w0 ⟨rfl, rfl⟩
        go_wp2_with fail
        refine (JW.out _ HB.out).mono ?_
        rintro e w1 ⟨rfl, hb⟩
        have HC := Lib.hid (eb_of HC.out hb (Nat.le_refl _))
        clear hb x0 x1 x2 x3 x4
        obtain ⟨x0, x1, x2, x3, x4, hlx, hbx⟩ := HY.out _ HC.out
        have HB := Lib.hid hbx
        clear hlx hbx
        go_wp2_with fail
        refine (J1.out _ HB.out).mono ?_
        rintro e w2 ⟨rfl, hb⟩
        have HC := Lib.hid (eb_of HC.out hb (Nat.le_refl _))
        clear hb x0 x1 x2 x3 x4
        obtain ⟨x0, x1, x2, x3, x4, hlx, hbx⟩ := HY.out _ HC.out
        have HB := Lib.hid hbx
        clear hlx hbx
        go_wp2_with fail
        refine (J2.out _ HB.out).mono ?_
        rintro e w3 ⟨rfl, hb⟩
        have HC := Lib.hid (eb_of HC.out hb (Nat.le_refl _))
        clear hb x0 x1 x2 x3 x4
        obtain ⟨x0, x1, x2, x3, x4, hlx, hbx⟩ := HY.out _ HC.out
        have HB := Lib.hid hbx
        clear hlx hbx
        go_wp2_with fail
        refine (J3.out _).mono ?_
        rintro e w4 ⟨rfl, hb⟩
        have HC := Lib.hid (eb_of HC.out hb (Nat.le_refl _))
        clear hb x0 x1 x2 x3 x4
        obtain ⟨x0, x1, x2, x3, x4, hlx, hbx⟩ := HY.out _ HC.out
        have HB := Lib.hid hbx
        clear hlx hbx
        go_wp2_with fail
        go_loopw [13] (fun i wr => ∃ k : Nat, k ≤ xs.length ∧ i = .int .i64 k ∧ Below ((w.alloc (.cells #[.int .i64 (st : Int), .slice A ms.length c] 25)).alloc (.cells #[.string lo, .string hi, .bool b] 37)).heap.size ((w.alloc (.cells #[.int .i64 (st : Int), .slice A ms.length c] 25)).alloc (.cells #[.string lo, .string hi, .bool b] 37)) wr) (fun i _ => xs.length - (intOf i).toNat)
        case atStart => exact ⟨0, Nat.zero_le _, rfl, HC.out⟩
        case round =>
          obtain ⟨k, hk, rfl, hb⟩ := hrel
          have HD := Lib.hid hb
          obtain ⟨v0, v1, v2, v3, v4, v5, v6⟩ := HY.out _ hb
          have HE := Lib.hid v6
          clear v6 x0 x1 x2 x3 x4 e1 e2 e3 e4
          by_cases hlt : k < xs.length
          · obtain ⟨b', off', rfl, hbl', hcl⟩ := (HG.out.below HE.out (Nat.le_refl _)).key0 hlt
            have c1 := abv_cell hbl' hcl
            have z0 := abv_cell (by omega) v0
            have z1 := abv_cell (by omega) v1
            have z2 := abv_cell v5 v2
            have z3 := abv_cell v5 v3
            have z4 := abv_cell v5 v4
            have K1 := Lib.hid (JH.out k hlt)
            have hhf := HH.out k hlt
            have hq : (k : Int) / (st : Int) = ((k / st : Nat) : Int) := by simp
            have hst0 : (st : Int) ≠ 0 := by omega
            have hst00 : ¬ st = 0 := by omega
            have hqw : IntKind.i64.wrap ((k / st : Nat) : Int) = ((k / st : Nat) : Int) := by have := Nat.div_le_self k st; generalize k / st = z at *; rw [IntKind.wrap_i64]; omega
            have hqk : k / st ≤ k := Nat.div_le_self k st
            clear hcl v0 v1 v2 v3 v4 v5
            generalize xs[k].1 = kk at *
            generalize k / st = q at *
            have HHF := Lib.hid hhf
            clear hhf
            cases hhb : hasB lo hi b kk with
            | true =>
              obtain ⟨t1, t2⟩ := HHF.out hhb
              rw [hhb] at K1
              clear hhb
              go_wp2_with fail
              refine wp_region_abv (by first | assumption | kernel_rfl) (by kernel_rfl) ?_
              repeat (first | go_big_quiet_step (exact callAbv (K1.out _)) | quiet_step (exact callAbv (K1.out _)))
              refine wpQuiet_nil ?_
              intro w5 hw5
              obtain ⟨p, hp⟩ := hw5
              have hb6 : Below wr.heap.size wr w5 := by rw [hp]; exact p.h
              have HD6 := Lib.hid (eb_of HD.out hb6 (Nat.le_refl _))
              clear hb6 hp p z0 z1 z2 z3 z4 c1
              go_wp2_with fail
              go_roundw
              case rel => exact ⟨k + 1, by omega, by go_num, HD6.out⟩
              case measure => simp [intOf]; omega
            | false =>
              rw [hhb] at K1
              clear hhb
              go_wp2_with fail
              refine wp_region_abv (by first | assumption | kernel_rfl) (by kernel_rfl) ?_
              repeat (first | go_big_quiet_step (exact callAbv (K1.out _)) | quiet_step (exact callAbv (K1.out _)))
              refine wpQuiet_nil ?_
              intro w5 hw5
              obtain ⟨p, hp⟩ := hw5
              have hb6 : Below wr.heap.size wr w5 := by rw [hp]; exact p.h
              have HD6 := Lib.hid (eb_of HD.out hb6 (Nat.le_refl _))
              clear hb6 hp p z0 z1 z2 z3 z4 c1
              go_wp2_with fail
              go_roundw
              case rel => exact ⟨k + 1, by omega, by go_num, HD6.out⟩
              case measure => simp [intOf]; omega
          · skip
            go_wp2_with fail
            refine (awake7_any _).mono ?_
            rintro e w99 ⟨rfl, hb⟩
            have HBz := Lib.hid (eb_of HE.out hb (by first | exact Nat.le_refl _ | (simp; omega)))
            clear hb
            go_wp2_with fail
            go_ret
            exact ⟨by first | rfl | simp, HBz.out⟩
end Go.Proofs.Ytpgngiegpigfiaa.KK
