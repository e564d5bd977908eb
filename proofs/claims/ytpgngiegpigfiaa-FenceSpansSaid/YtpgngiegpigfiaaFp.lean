/-
  Fences: Span and Find of the reference.
-/
import Derived.Test.YtpgngiegpigfiaaFo
namespace Go.Proofs.Ytpgngiegpigfiaa.KK
open Go.ChangeShapes Go.WideShapes Go.ChangeAt Go.RowKit Go.Proofs

set_option maxRecDepth 100000 in
set_option maxHeartbeats 4000000 in
theorem rSpan7_any (s : Int) (A : Option Addr) (c : Nat) (ms : List ByteArray) (n : Int) (key : ByteArray) (w : World) (hf : SsAt w A ms) (hn : ms.length ≤ 4294967295) (hs : SizedS ms) (hz : key.size ≤ 9223372036854775807) :
    Calls Try.prog 29 #[.agg #[.int .i64 s, .slice A ms.length c], .int .i64 n, .string key] w fun e w' => e = .returned (.tuple #[.int .i64 (spanE s ms n key).1, .int .i64 (spanE s ms n key).2.1, .int .i64 (spanE s ms n key).2.2]) ∧ Below w.heap.size w w' := by
  have HX := boxF s A ms.length c w
  obtain ⟨x0, x1, x2, x3⟩ := HX.out _ (Below.refl _ _)
  have HB := Lib.hid x3
  have J1 := Lib.hid (fun w1 (h : Below w.heap.size w w1) => rCheck7_any s A c ms w1 (hf.below h (Nat.le_refl _)) hn hs)
  have JK := Lib.hid (fun w => rCheck_any key w hz)
  clear x3
  by_cases h1 : (chkF s ms).2 = 0
  rotate_left
  · have HL := Lib.hid (spanE_no (n := n) (key := key) (by rw [keyE_no h1]; exact h1))
    rw [keyE_no h1] at HL
    obtain ⟨b1, b2⟩ := ne_b h1
    clear hf hs h1
    generalize (chkF s ms).1 = r0 at *
    generalize (chkF s ms).2 = r at *
    go_enter Try.func29, Try.ntmps29
    go_wp2_with fail
    refine (J1.out _ HB.out).mono ?_
    rintro e w1 ⟨rfl, hb⟩
    have HB1 := Lib.hid (eb_of HB.out hb (by simp))
    clear hb
    go_wp2_with fail
    go_quiet (fail)
    go_wp2_with fail
    go_ret3
    exact ⟨ret3 HL.out, HB1.out.trans ((below_drewN' _).mono HB1.out.size)⟩

  obtain ⟨G, _⟩ := chkF_good h1
  rw [h1] at J1
  by_cases hk : key.size ≤ 32
  rotate_left
  · have hke : keyE s ms key = 3 := by rw [keyE_ok h1, chk1_no hk]
    have HL := Lib.hid (spanE_no (s := s) (ms := ms) (n := n) (key := key) (by rw [hke]; decide))
    rw [hke] at HL
    rw [chk1_no hk] at JK
    clear hf hs h1 hk hke G
    generalize (chkF s ms).1 = r0 at *
    go_enter Try.func29, Try.ntmps29
    go_wp2_with fail
    refine (J1.out _ HB.out).mono ?_
    rintro e w1 ⟨rfl, hb⟩
    obtain ⟨y0, y1, y2, y3⟩ := HX.out _ hb
    have HC1 := Lib.hid hb
    have HB1 := Lib.hid y3
    have z0 := abv_cell y2 y0
    have z1 := abv_cell y2 y1
    clear hb y3
    go_wp2_with fail
    refine (JK.out _).mono ?_
    rintro e w2 ⟨rfl, rfl⟩
    go_wp2_with fail
    go_quiet (fail)
    go_wp2_with fail
    go_ret3
    exact ⟨ret3 HL.out, HB1.out.trans ((below_drewN' _).mono HB1.out.size)⟩

  have hke : keyE s ms key = 0 := by rw [keyE_ok h1, chk1_ok hk]
  rw [chk1_ok hk] at JK
  by_cases g1 : n < 0
  · have HL := Lib.hid (spanE_far hke (.inl g1))
    clear hf hs h1 hk hke G
    generalize (chkF s ms).1 = r0 at *
    go_enter Try.func29, Try.ntmps29
    go_wp2_with fail
    refine (J1.out _ HB.out).mono ?_
    rintro e w1 ⟨rfl, hb⟩
    obtain ⟨y0, y1, y2, y3⟩ := HX.out _ hb
    have HC1 := Lib.hid hb
    have HB1 := Lib.hid y3
    have z0 := abv_cell y2 y0
    have z1 := abv_cell y2 y1
    clear hb y3
    go_wp2_with fail
    refine (JK.out _).mono ?_
    rintro e w2 ⟨rfl, rfl⟩
    go_wp2_with fail
    go_quiet (fail)
    go_wp2_with fail
    go_ret3
    exact ⟨ret3 HL.out, HB1.out.trans ((below_drewN' _).mono HB1.out.size)⟩

  by_cases g2 : 5000 < n
  · have HL := Lib.hid (spanE_far hke (.inr g2))
    clear hf hs h1 hk hke G
    generalize (chkF s ms).1 = r0 at *
    go_enter Try.func29, Try.ntmps29
    go_wp2_with fail
    refine (J1.out _ HB.out).mono ?_
    rintro e w1 ⟨rfl, hb⟩
    obtain ⟨y0, y1, y2, y3⟩ := HX.out _ hb
    have HC1 := Lib.hid hb
    have HB1 := Lib.hid y3
    have z0 := abv_cell y2 y0
    have z1 := abv_cell y2 y1
    clear hb y3
    go_wp2_with fail
    refine (JK.out _).mono ?_
    rintro e w2 ⟨rfl, rfl⟩
    go_wp2_with fail
    go_quiet (fail)
    go_wp2_with fail
    go_ret3
    exact ⟨ret3 HL.out, HB1.out.trans ((below_drewN' _).mono HB1.out.size)⟩

  obtain ⟨st, rfl⟩ : ∃ st : Nat, s = (st : Int) := ⟨s.toNat, by have := G.step; omega⟩
  obtain ⟨m, rfl⟩ : ∃ m : Nat, n = (m : Int) := ⟨n.toNat, by omega⟩
  have hst : 1 ≤ st ∧ st ≤ 64 := by have := G.step; omega
  have JM := Lib.hid (fun w => blocks_any m st w (by omega) hst.1 hst.2)
  have hmk := blN_mk m st
  have hbl : blN m st ≤ 10001 := by unfold blN; have := Nat.div_le_self (m - 1) st; split <;> omega
  by_cases hlen : ms.length = mk m st
  rotate_left
  · have HL := Lib.hid (spanE_form (n := (m : Int)) hke (by omega) (by rw [show ((m : Nat) : Int).toNat = m by omega, show ((st : Nat) : Int).toNat = st by omega]; exact hlen))
    obtain ⟨n1, n2⟩ := num_ne hlen
    clear hf hs h1 hk hke G hlen
    generalize (chkF (st : Int) ms).1 = r0 at *
    generalize mk m st = q at *
    generalize blN m st = bq at *
    go_enter Try.func29, Try.ntmps29
    go_wp2_with fail
    refine (J1.out _ HB.out).mono ?_
    rintro e w1 ⟨rfl, hb⟩
    obtain ⟨y0, y1, y2, y3⟩ := HX.out _ hb
    have HC1 := Lib.hid hb
    have HB1 := Lib.hid y3
    have z0 := abv_cell y2 y0
    have z1 := abv_cell y2 y1
    clear hb y3
    go_wp2_with fail
    refine (JK.out _).mono ?_
    rintro e w2 ⟨rfl, rfl⟩
    go_wp2_with fail
    refine wp_region_abv (by first | assumption | kernel_rfl) (by kernel_rfl) ?_
    repeat (first | go_big_quiet_step (exact callAbv0 (JM.out _)) | quiet_step (exact callAbv0 (JM.out _)))
    refine wpQuiet_nil ?_
    intro w2 hw2
    obtain ⟨p, rfl⟩ := hw2
    have HB2 := Lib.hid (eb_of HB1.out p.h (Nat.le_refl _))
    go_wp2_with fail
    go_ret3
    exact ⟨ret3 HL.out, HB2.out⟩
  have HL := Lib.hid (spanE_ok (n := (m : Int)) hke (by omega) (by rw [show ((m : Nat) : Int).toNat = m by omega, show ((st : Nat) : Int).toNat = st by omega]; exact hlen))
  rw [show ((m : Nat) : Int).toNat = m by omega, show ((st : Nat) : Int).toNat = st by omega] at HL
  have J2 : Hid (∀ w1, Below w.heap.size w w1 → Calls Try.prog 50 #[.agg #[.int .i64 (st : Int), .slice A ms.length c], .string key] w1 fun e w' => e = .returned (.tuple #[.int .i64 (lessN ms key), .int .i64 (upN ms key)]) ∧ Below w1.heap.size w1 w') := Lib.hid (fun w1 (h : Below w.heap.size w w1) => below_any st A c ms key w1 (hf.below h (Nat.le_refl _)) hn G.key hk)
  have hup := upN_le ms key
  have hl5 := G.len
  have hmul := mul_small (show upN ms key ≤ 100000 by omega) hst.2
  have hmul1 : (upN ms key + 1) * st = upN ms key * st + st := by rw [Nat.add_mul, Nat.one_mul]
  have hmc : ((upN ms key : Nat) : Int) * (st : Int) = ((upN ms key * st : Nat) : Int) := by simp
  have hmc1 : (((upN ms key : Nat) : Int) + 1) * (st : Int) = ((upN ms key * st : Nat) : Int) + (st : Int) := by rw [Int.add_mul, Int.one_mul, hmc]
  have hw : IntKind.i64.wrap (((upN ms key : Nat) : Int) * (st : Int)) = ((upN ms key * st : Nat) : Int) := by rw [hmc, IntKind.wrap_i64]; omega
  have hw1 : IntKind.i64.wrap ((((upN ms key : Nat) : Int) + 1) * (st : Int)) = ((upN ms key * st : Nat) : Int) + (st : Int) := by rw [hmc1, IntKind.wrap_i64]; omega
  rw [← hlen] at hmk
  clear hf hs h1 hk hke G hlen hmc hmc1 hmul1
  generalize (chkF (st : Int) ms).1 = r0 at *
  generalize blN m st = bq at *
  generalize lessN ms key = le at *
  generalize upN ms key * st = f1 at *
  generalize upN ms key = up at *
  have hmin : min ((f1 : Int) + (st : Int)) (m : Int) = ((min (f1 + st) m : Nat) : Int) := by omega
  generalize min (f1 + st) m = f2 at *
  go_enter Try.func29, Try.ntmps29
  go_wp2_with fail
  refine (J1.out _ HB.out).mono ?_
  rintro e w1 ⟨rfl, hb⟩
  obtain ⟨y0, y1, y2, y3⟩ := HX.out _ hb
  have HC1 := Lib.hid hb
  have HB1 := Lib.hid y3
  have z0 := abv_cell y2 y0
  have z1 := abv_cell y2 y1
  clear hb y3
  go_wp2_with fail
  refine (JK.out _).mono ?_
  rintro e w2 ⟨rfl, rfl⟩
  go_wp2_with fail
  refine wp_region_abv (by first | assumption | kernel_rfl) (by kernel_rfl) ?_
  repeat (first | go_big_quiet_step (exact callAbv0 (JM.out _)) | quiet_step (exact callAbv0 (JM.out _)))
  refine wpQuiet_nil ?_
  intro w2 hw2
  obtain ⟨p, rfl⟩ := hw2
  have HC2 := Lib.hid (eb_of HC1.out p.h (Nat.le_refl _))
  obtain ⟨v0, v1, v2, v3⟩ := HX.out _ HC2.out
  have HB2 := Lib.hid v3
  clear v3 y0 y1 y2 z0 z1
  go_wp2_with fail
  refine (J2.out _ HB2.out).mono ?_
  rintro e w3 ⟨rfl, hb⟩
  have HC3 := Lib.hid (eb_of HC2.out hb (Nat.le_refl _))
  clear hb v0 v1 v2
  obtain ⟨v0, v1, v2, v3⟩ := HX.out _ HC3.out
  have HB3 := Lib.hid v3
  clear v3
  go_wp2_with fail
  go_quiet (fail)
  go_wp2_with fail
  go_ret3
  exact ⟨ret3 HL.out, HB3.out.trans ((below_drewN' _).mono HB3.out.size)⟩
set_option maxRecDepth 100000 in
set_option maxHeartbeats 4000000 in
theorem rFind7_any (s : Int) (A : Option Addr) (c : Nat) (ms : List ByteArray) (B : Option Addr) (d : Nat) (xs : List El.En) (key : ByteArray) (w : World) (hf : SsAt w A ms) (hg : EsAt w B xs) (hn : ms.length ≤ 4294967295) (hm : xs.length ≤ 4294967295) (hs : SizedS ms) (ht : Sized xs) (hcap : xs.length ≤ d) (hz : key.size ≤ 9223372036854775807) :
    Calls Try.prog 27 #[.agg #[.int .i64 s, .slice A ms.length c], .slice B xs.length d, .string key] w fun e w' => e = .returned (.tuple #[.int .i64 (findF s ms xs key).1, .int .i64 (findF s ms xs key).2]) ∧ Below w.heap.size w w' := by
  have HX := boxF s A ms.length c w
  obtain ⟨x0, x1, x2, x3⟩ := HX.out _ (Below.refl _ _)
  have HB := Lib.hid x3
  have J1 := Lib.hid (fun w1 (h : Below w.heap.size w w1) => rFits7_any s A c ms B d xs w1 (hf.below h (Nat.le_refl _)) (hg.below h (Nat.le_refl _)) hn hm hs ht hcap)
  have JK := Lib.hid (fun w => rCheck_any key w hz)
  have J3 := Lib.hid (fun w1 (h : Below w.heap.size w w1) => fFind_any B d xs key w1 (hg.below h (Nat.le_refl _)) hm ht hz)
  clear x3
  by_cases h : bothE s ms xs = 0
  rotate_left
  · have HL := Lib.hid (findF_no (key := key) h)
    rw [fitsR_no h] at J1
    obtain ⟨b1, b2⟩ := ne_b h
    clear hf hg hs ht h J3
    generalize bothE s ms xs = r at *
    go_enter Try.func27, Try.ntmps27
    go_wp2_with fail
    refine (J1.out _ HB.out).mono ?_
    rintro e w1 ⟨rfl, hb⟩
    have HB1 := Lib.hid (eb_of HB.out hb (by simp))
    clear hb
    go_wp2_with fail
    go_ret2
    exact ⟨retZ HL.out, HB1.out⟩
  rw [fitsR_ok h] at J1
  by_cases hk : key.size ≤ 32
  rotate_left
  · have HL := Lib.hid (findF_long h hk)
    rw [chk1_no hk] at JK
    clear hf hg hs ht h hk J3
    generalize fitsF s.toNat ms xs = r at *
    go_enter Try.func27, Try.ntmps27
    go_wp2_with fail
    refine (J1.out _ HB.out).mono ?_
    rintro e w1 ⟨rfl, hb⟩
    have HB1 := Lib.hid (eb_of HB.out hb (by simp))
    clear hb
    go_wp2_with fail
    refine (JK.out _).mono ?_
    rintro e w2 ⟨rfl, rfl⟩
    go_wp2_with fail
    go_ret2
    exact ⟨retZ HL.out, HB1.out⟩
  rw [chk1_ok hk] at JK
  obtain ⟨st, rfl, P⟩ := pair_of h
  rw [show ((st : Nat) : Int).toNat = st by omega] at J1
  cases hft : fitsF st ms xs with
  | false =>
    have HL := Lib.hid (findF_form h hk hft)
    rw [hft] at J1
    clear hf hg hs ht h hk P hft J3
    go_enter Try.func27, Try.ntmps27
    go_wp2_with fail
    refine (J1.out _ HB.out).mono ?_
    rintro e w1 ⟨rfl, hb⟩
    have HB1 := Lib.hid (eb_of HB.out hb (by simp))
    clear hb
    go_wp2_with fail
    refine (JK.out _).mono ?_
    rintro e w2 ⟨rfl, rfl⟩
    go_wp2_with fail
    go_ret2
    exact ⟨retZ HL.out, HB1.out⟩
  | true =>
    have HL : Hid (findF st ms xs key = findE xs key) := Lib.hid (by
      rw [findF_ok h hk hft]
      by_cases ha : atE key 0 xs < 0
      · rw [if_pos ha, findE_none (bothE_zero h).2 hk ha]
      · rw [if_neg ha, findE_some (bothE_zero h).2 hk ha])
    rw [hft] at J1
    rw [HL.out]
    clear hf hg hs ht h hk P hft HL
    generalize (findE xs key).1 = r1 at *
    generalize (findE xs key).2 = r2 at *
    go_enter Try.func27, Try.ntmps27
    go_wp2_with fail
    refine (J1.out _ HB.out).mono ?_
    rintro e w1 ⟨rfl, hb⟩
    have HB1 := Lib.hid (eb_of HB.out hb (by simp))
    clear hb
    go_wp2_with fail
    refine (JK.out _).mono ?_
    rintro e w2 ⟨rfl, rfl⟩
    go_wp2_with fail
    refine (J3.out _ HB1.out).mono ?_
    rintro e w3 ⟨rfl, hb⟩
    have HB2 := Lib.hid (eb_of HB1.out hb (Nat.le_refl _))
    clear hb
    go_wp2_with fail
    go_ret2
    exact ⟨rfl, HB2.out⟩
end Go.Proofs.Ytpgngiegpigfiaa.KK
