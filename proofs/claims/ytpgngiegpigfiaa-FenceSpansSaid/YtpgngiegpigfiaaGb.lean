/-
  FenceSpans: the walk.
-/
import Derived.Test.YtpgngiegpigfiaaFx
namespace Go.Proofs.Ytpgngiegpigfiaa.KK
open Go.ChangeShapes Go.WideShapes Go.ChangeAt Go.RowKit Go.Proofs

theorem find_same {st : Nat} {ms : List ByteArray} {xs : List El.En} (h : bothE st ms xs = 0) (hft : fitsF st ms xs = true) (key : ByteArray) : findF st ms xs key = findE xs key := by
  by_cases hk : key.size ≤ 32
  · rw [findF_ok h hk hft]
    by_cases ha : atE key 0 xs < 0
    · rw [if_pos ha, findE_none (bothE_zero h).2 hk ha]
    · rw [if_neg ha, findE_some (bothE_zero h).2 hk ha]
  · rw [findF_long h hk, findE_long (bothE_zero h).2 hk]
theorem find_own {st : Nat} {ms : List ByteArray} {xs : List El.En} (h : bothE st ms xs = 0) (P : Pair st ms xs) (hft : fitsF st ms xs = true) {k : Nat} (hk : k < xs.length) : findF st ms xs xs[k].1 = ((k : Int), 0) := by
  rw [findF_ok h (P.key _ (List.getElem_mem hk)) hft, show atE xs[k].1 0 xs = ((k : Nat) : Int) from atE_here P.asc hk rfl k 0 (by omega), if_neg (by omega)]
theorem span_own {st : Nat} {ms : List ByteArray} {xs : List El.En} (h : bothE st ms xs = 0) (P : Pair st ms xs) (hft : fitsF st ms xs = true) {k : Nat} (hk : k < xs.length) :
    spanE st ms (xs.length : Int) xs[k].1 = (((k / st * st : Nat) : Int), ((min (k / st * st + st) xs.length : Nat) : Int), 0) := by
  have e1 : keyE st ms xs[k].1 = 0 := by rw [keyE_ok (bothE_zero h).1, chk1_ok (P.key _ (List.getElem_mem hk))]
  have e2 := span_at P.lo P.asc hft hk
  rw [keyAt_eq hk] at e2
  rw [spanE_ok e1 (by have := P.len; omega) (by rw [show ((xs.length : Nat) : Int).toNat = xs.length by omega, show ((st : Nat) : Int).toNat = st by omega]; exact fits_len hft), show ((xs.length : Nat) : Int).toNat = xs.length by omega, show ((st : Nat) : Int).toNat = st by omega, e2]
theorem div_span {k st n : Nat} (hst : 1 ≤ st) (hk : k < n) : k / st * st ≤ k ∧ k < min (k / st * st + st) n ∧ min (k / st * st + st) n - k / st * st ≤ st := by
  have h3 : k < (k / st + 1) * st := (Nat.div_lt_iff_lt_mul (show 0 < st by omega)).1 (by omega)
  have h4 : k / st * st ≤ k := Nat.div_mul_le_self k st
  rw [Nat.add_mul, Nat.one_mul] at h3
  omega
set_option maxRecDepth 100000 in
set_option maxHeartbeats 8000000 in
theorem FenceSpans_any (s : Int) (A : Option Addr) (c : Nat) (ms : List ByteArray) (B : Option Addr) (d : Nat) (xs : List El.En) (key : ByteArray) (w : World) (hf : SsAt w A ms) (hn : ms.length ≤ 9223372036854775807) (hs : SizedS ms) (hg : EsAt w B xs) (hm : xs.length ≤ 9223372036854775807) (ht : Sized xs) (hcap : xs.length ≤ d) (hnil : B = none → d = 0) (hk : key.size ≤ 9223372036854775807) :
    Calls Try.prog 6 #[.agg #[.int .i64 s, .slice A ms.length c], .slice B xs.length d, .string key] w fun e w' => e = .returned (.bool true) ∧ Below w.heap.size w w' := by
  have HY := boxF s A ms.length c w
  obtain ⟨x0, x1, hlx, hbx⟩ := HY.out _ (Below.refl _ _)
  have HB := Lib.hid hbx
  clear hlx hbx
  have HC := Lib.hid (Below.refl (w.alloc (.cells #[.int .i64 s, .slice A ms.length c] 25)).heap.size (w.alloc (.cells #[.int .i64 s, .slice A ms.length c] 25)))
  have JW := Lib.hid (fun w1 (h : Below w.heap.size w w1) => wide7_any s A c ms w1 (hf.below h (Nat.le_refl _)) hn hs)
  have JF := Lib.hid (fun w1 (h : Below w.heap.size w w1) => far7_any B d xs w1 (hg.below h (Nat.le_refl _)) hm ht)
  cases hfar : farF xs with
  | true =>
    rw [hfar] at JF
    clear hf hs hg ht hfar JW
    generalize xs.length = nx at *
    go_enter Try.func6, Try.ntmps6
    go_wp2_with fail
    refine (JF.out _ HB.out).mono ?_
    rintro e w0 ⟨rfl, rfl⟩
    go_wp2_with fail
    refine (awake7_any _).mono ?_
    rintro e w99 ⟨rfl, hb⟩
    have HBz := Lib.hid (eb_of HB.out hb (by first | exact Nat.le_refl _ | (simp; omega)))
    clear hb
    go_wp2_with fail
    go_ret
    exact ⟨by first | rfl | simp, HBz.out⟩
  | false =>
    rw [hfar] at JF
    have hlx := far_len hfar
    clear hfar
    cases hw : wideF ms with
    | true =>
      rw [hw] at JW
      clear hf hs hg ht hw
      generalize xs.length = nx at *
      go_enter Try.func6, Try.ntmps6
      go_wp2_with fail
      refine (JF.out _ HB.out).mono ?_
      rintro e w0 ⟨rfl, rfl⟩
      go_wp2_with fail
      refine (JW.out _ HB.out).mono ?_
      rintro e w1 ⟨rfl, hb⟩
      have HC := Lib.hid (eb_of HC.out hb (Nat.le_refl _))
      clear hb x0 x1
      obtain ⟨x0, x1, hlx, hbx⟩ := HY.out _ HC.out
      have HB := Lib.hid hbx
      clear hlx hbx
      go_wp2_with fail
      refine (awake7_any _).mono ?_
      rintro e w99 ⟨rfl, hb⟩
      have HBz := Lib.hid (eb_of HB.out hb (by first | exact Nat.le_refl _ | (simp; omega)))
      clear hb
      go_wp2_with fail
      go_ret
      exact ⟨by first | rfl | simp, HBz.out⟩
    | false =>
      rw [hw] at JW
      have hlen := wide_len hw
      clear hw
      have J1 := Lib.hid (fun w1 (h : Below w.heap.size w w1) => pFits7_any s A c ms B d xs w1 (hf.below h (Nat.le_refl _)) (hg.below h (Nat.le_refl _)) (by omega) (by omega) hs ht hcap)
      by_cases l1 : 100 < key.size
      · have l1' : (100 : Int) < (key.size : Int) := by omega
        clear J1 hf hs hg ht hcap hnil
        generalize xs.length = nx at *
        go_enter Try.func6, Try.ntmps6
        go_wp2_with fail
        refine (JF.out _ HB.out).mono ?_
        rintro e w0 ⟨rfl, rfl⟩
        go_wp2_with fail
        refine (JW.out _ HB.out).mono ?_
        rintro e w1 ⟨rfl, hb⟩
        have HC := Lib.hid (eb_of HC.out hb (Nat.le_refl _))
        clear hb x0 x1
        obtain ⟨x0, x1, hlx, hbx⟩ := HY.out _ HC.out
        have HB := Lib.hid hbx
        clear hlx hbx
        go_wp2_with fail
        refine (awake7_any _).mono ?_
        rintro e w99 ⟨rfl, hb⟩
        have HBz := Lib.hid (eb_of HB.out hb (by first | exact Nat.le_refl _ | (simp; omega)))
        clear hb
        go_wp2_with fail
        go_ret
        exact ⟨by first | rfl | simp, HBz.out⟩
      have l1' : ¬ (100 : Int) < (key.size : Int) := by omega
      by_cases hb0 : bothE s ms xs = 0
      rotate_left
      · rw [fitsR_no hb0] at J1
        obtain ⟨b1, b2⟩ := ne_b hb0
        clear hf hs hg ht hcap hnil hb0
        generalize bothE s ms xs = r at *
        generalize xs.length = nx at *
        go_enter Try.func6, Try.ntmps6
        go_wp2_with fail
        refine (JF.out _ HB.out).mono ?_
        rintro e w0 ⟨rfl, rfl⟩
        go_wp2_with fail
        refine (JW.out _ HB.out).mono ?_
        rintro e w1 ⟨rfl, hb⟩
        have HC := Lib.hid (eb_of HC.out hb (Nat.le_refl _))
        clear hb x0 x1
        obtain ⟨x0, x1, hlx, hbx⟩ := HY.out _ HC.out
        have HB := Lib.hid hbx
        clear hlx hbx
        go_wp2_with fail
        refine (J1.out _ HB.out).mono ?_
        rintro e w2 ⟨rfl, hb⟩
        have HC := Lib.hid (eb_of HC.out hb (Nat.le_refl _))
        clear hb x0 x1
        obtain ⟨x0, x1, hlx, hbx⟩ := HY.out _ HC.out
        have HB := Lib.hid hbx
        clear hlx hbx
        go_wp2_with fail
        refine (awake7_any _).mono ?_
        rintro e w99 ⟨rfl, hb⟩
        have HBz := Lib.hid (eb_of HB.out hb (by first | exact Nat.le_refl _ | (simp; omega)))
        clear hb
        go_wp2_with fail
        go_ret
        exact ⟨by first | rfl | simp, HBz.out⟩
      rw [fitsR_ok hb0] at J1
      obtain ⟨st, rfl, P⟩ := pair_of hb0
      rw [show ((st : Nat) : Int).toNat = st by omega] at J1
      cases hft : fitsF st ms xs with
      | false =>
        rw [hft] at J1
        clear hf hs hg ht hcap hnil hb0 hft P
        generalize xs.length = nx at *
        go_enter Try.func6, Try.ntmps6
        go_wp2_with fail
        refine (JF.out _ HB.out).mono ?_
        rintro e w0 ⟨rfl, rfl⟩
        go_wp2_with fail
        refine (JW.out _ HB.out).mono ?_
        rintro e w1 ⟨rfl, hb⟩
        have HC := Lib.hid (eb_of HC.out hb (Nat.le_refl _))
        clear hb x0 x1
        obtain ⟨x0, x1, hlx, hbx⟩ := HY.out _ HC.out
        have HB := Lib.hid hbx
        clear hlx hbx
        go_wp2_with fail
        refine (J1.out _ HB.out).mono ?_
        rintro e w2 ⟨rfl, hb⟩
        have HC := Lib.hid (eb_of HC.out hb (Nat.le_refl _))
        clear hb x0 x1
        obtain ⟨x0, x1, hlx, hbx⟩ := HY.out _ HC.out
        have HB := Lib.hid hbx
        clear hlx hbx
        go_wp2_with fail
        refine (awake7_any _).mono ?_
        rintro e w99 ⟨rfl, hb⟩
        have HBz := Lib.hid (eb_of HB.out hb (by first | exact Nat.le_refl _ | (simp; omega)))
        clear hb
        go_wp2_with fail
        go_ret
        exact ⟨by first | rfl | simp, HBz.out⟩
      | true =>
        rw [hft] at J1
        have JS := Lib.hid (fun k (hk : k < xs.length) w1 (h : Below w.heap.size w w1) => by
          have K := pSpan7_any st A c ms xs.length xs[k].1 w1 (hf.below h (Nat.le_refl _)) (by omega) hs (ht.at hk).1
          rw [span_own hb0 P hft hk] at K
          exact K)
        have JO := Lib.hid (fun k (hk : k < xs.length) w1 (h : Below w.heap.size w w1) => by
          have K := pFind7_any st A c ms B d xs xs[k].1 w1 (hf.below h (Nat.le_refl _)) (hg.below h (Nat.le_refl _)) (by omega) (by omega) hs ht hcap hnil (ht.at hk).1
          rw [find_own hb0 P hft hk] at K
          exact K)
        have J2 := Lib.hid (fun w1 (h : Below w.heap.size w w1) => by
          have K := pFind7_any st A c ms B d xs key w1 (hf.below h (Nat.le_refl _)) (hg.below h (Nat.le_refl _)) (by omega) (by omega) hs ht hcap hnil hk
          rw [find_same hb0 hft key] at K
          exact K)
        have J3 := Lib.hid (fun w1 (h : Below w.heap.size w w1) => fFind_any B d xs key w1 (hg.below h (Nat.le_refl _)) (by omega) ht hk)
        have HG := Lib.hid hg
        have h1 := P.lo
        have h64 := P.hi
        have hl5 := P.len
        clear hf hs hg ht hcap hnil hb0 hft P
        go_enter Try.func6, Try.ntmps6
        go_wp2_with fail
        refine (JF.out _ HB.out).mono ?_
        rintro e w0 ⟨rfl, rfl⟩
        go_wp2_with fail
        refine (JW.out _ HB.out).mono ?_
        rintro e w1 ⟨rfl, hb⟩
        have HC := Lib.hid (eb_of HC.out hb (Nat.le_refl _))
        clear hb x0 x1
        obtain ⟨x0, x1, hlx, hbx⟩ := HY.out _ HC.out
        have HB := Lib.hid hbx
        clear hlx hbx
        go_wp2_with fail
        refine (J1.out _ HB.out).mono ?_
        rintro e w2 ⟨rfl, hb⟩
        have HC := Lib.hid (eb_of HC.out hb (Nat.le_refl _))
        clear hb x0 x1
        obtain ⟨x0, x1, hlx, hbx⟩ := HY.out _ HC.out
        have HB := Lib.hid hbx
        clear hlx hbx
        go_wp2_with fail
        go_loopw [9] (fun i wr => ∃ k : Nat, k ≤ xs.length ∧ i = .int .i64 k ∧ Below (w.alloc (.cells #[.int .i64 (st : Int), .slice A ms.length c] 25)).heap.size (w.alloc (.cells #[.int .i64 (st : Int), .slice A ms.length c] 25)) wr) (fun i _ => xs.length - (intOf i).toNat)
        case atStart => exact ⟨0, Nat.zero_le _, rfl, HC.out⟩
        case round =>
          obtain ⟨k, hk, rfl, hb⟩ := hrel
          have HD := Lib.hid hb
          obtain ⟨v0, v1, v2, v3⟩ := HY.out _ hb
          have HE := Lib.hid v3
          clear v3 x0 x1
          by_cases hlt : k < xs.length
          · obtain ⟨b', off', rfl, hbl', hcl⟩ := (HG.out.below HE.out (Nat.le_refl _)).key0 hlt
            have c1 := abv_cell hbl' hcl
            have z0 := abv_cell v2 v0
            have z1 := abv_cell v2 v1
            have K1 : Hid (∀ p : Abv wr, Calls Try.prog 28 #[.agg #[.int .i64 (st : Int), .slice A ms.length c], .int .i64 (xs.length : Int), .string xs[k].1] p.world fun e w' => e = .returned (.tuple #[.int .i64 ((k / st * st : Nat) : Int), .int .i64 ((min (k / st * st + st) xs.length : Nat) : Int), .int .i64 0]) ∧ Below p.world.heap.size p.world w') := Lib.hid (fun p => JS.out k hlt p.world (eb_of HE.out p.h (Nat.le_refl _)))
            have K2 := Lib.hid (JO.out k hlt)
            obtain ⟨e1, e2, e3⟩ := div_span h1 hlt
            have HG2 : Hid (∀ w', Below w.heap.size w w' → w'.cell? ⟨b', off' + k * 4, none⟩ = some (.string xs[k].1)) := Lib.hid (fun w' h => by
              obtain ⟨b2, o2, h2, _, h3⟩ := (HG.out.below h (Nat.le_refl _)).key0 hlt
              injection h2 with h2; injection h2 with h2 h4; subst h2 h4; exact h3)
            clear hcl
            generalize xs[k].1 = kk at *
            generalize k / st * st = f1 at *
            generalize hf2 : min (f1 + st) xs.length = f2 at *
            have t1 : ¬ (k : Int) < (f1 : Int) := by omega
            have t2 : ¬ (f2 : Int) ≤ (k : Int) := by omega
            have t3 : ¬ (st : Int) < (f2 : Int) - (f1 : Int) := by omega
            have t4 : ¬ (f2 : Int) - (f1 : Int) < 1 := by omega
            clear hf2
            go_wp2_with fail
            refine wp_region_abv (by first | assumption | kernel_rfl) (by kernel_rfl) ?_
            repeat (first | go_big_quiet_step (exact callAbv (K1.out _)) | quiet_step (exact callAbv (K1.out _)))
            refine wpQuiet_nil ?_
            intro w3 hw3
            obtain ⟨p, hp⟩ := hw3
            have hb4 : Below wr.heap.size wr w3 := by rw [hp]; exact p.h
            have HD4 := Lib.hid (eb_of HD.out hb4 (Nat.le_refl _))
            clear hb4 hp p z0 z1 c1 v0 v1 v2
            obtain ⟨v0, v1, v2, v3⟩ := HY.out _ HD4.out
            have HE4 := Lib.hid v3
            have hg4 := HG2.out _ v3
            have hbl4 : b' < w3.heap.size := cell_lt hg4
            have c1 := abv_cell hbl4 hg4
            have z0 := abv_cell v2 v0
            have z1 := abv_cell v2 v1
            have K3 : Hid (∀ p : Abv w3, Calls Try.prog 26 #[.agg #[.int .i64 (st : Int), .slice A ms.length c], .slice (some ⟨b', off', none⟩) xs.length d, .string kk] p.world fun e w' => e = .returned (.tuple #[.int .i64 (k : Int), .int .i64 0]) ∧ Below p.world.heap.size p.world w') := Lib.hid (fun p => K2.out p.world (eb_of HE4.out p.h (Nat.le_refl _)))
            clear v3 hg4
            go_wp2_with fail
            refine wp_region_abv (by first | assumption | kernel_rfl) (by kernel_rfl) ?_
            repeat (first | go_big_quiet_step (exact callAbv (K3.out _)) | quiet_step (exact callAbv (K3.out _)))
            refine wpQuiet_nil ?_
            intro w5 hw5
            obtain ⟨p, hp⟩ := hw5
            have hb6 : Below w3.heap.size w3 w5 := by rw [hp]; exact p.h
            have HD6 := Lib.hid (eb_of HD4.out hb6 (Nat.le_refl _))
            clear hb6 hp p z0 z1 c1 v0 v1 v2
            obtain ⟨v0, v1, v2, v3⟩ := HY.out _ HD6.out
            clear v2 v3
            go_wp2_with fail
            go_roundw
            case rel => exact ⟨k + 1, by omega, by go_num, HD6.out⟩
            case measure => simp [intOf]; omega
          · generalize (findE xs key).1 = q1 at *
            generalize (findE xs key).2 = q2 at *
            go_wp2_with fail
            refine (J2.out _ HE.out).mono ?_
            rintro e w3 ⟨rfl, hb⟩
            have HE3 := Lib.hid (eb_of HE.out hb (Nat.le_refl _))
            clear hb
            go_wp2_with fail
            refine (J3.out _ HE3.out).mono ?_
            rintro e w4 ⟨rfl, hb⟩
            have HE4 := Lib.hid (eb_of HE3.out hb (Nat.le_refl _))
            clear hb
            go_wp2_with fail
            refine (awake7_any _).mono ?_
            rintro e w99 ⟨rfl, hb⟩
            have HBz := Lib.hid (eb_of HE4.out hb (by first | exact Nat.le_refl _ | (simp; omega)))
            clear hb
            go_wp2_with fail
            go_ret
            exact ⟨by first | rfl | simp, HBz.out⟩
end Go.Proofs.Ytpgngiegpigfiaa.KK
