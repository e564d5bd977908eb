/-
  Runs: the reference's asked, Get, Floor, Ceiling.
-/
import Derived.Test.YtjnbdeahmbkbnaaRh
namespace Go.Proofs.Ytjnbdeahmbkbnaa.KK
open Go.ChangeShapes Go.WideShapes Go.ChangeAt Go.RowKit Go.Proofs

set_option maxRecDepth 100000 in
set_option maxHeartbeats 2000000 in
theorem rAsk8_any (id : Int) (B : Option Addr) (d : Nat) (xs : List El.En) (key : ByteArray) (w : World) (hf : EsAt w B xs) (hn : xs.length ≤ 4294967295) (hs : Sized xs) (hz : key.size ≤ 9223372036854775807) :
    Calls Try.prog 37 #[.agg #[.int .i64 id, .slice B xs.length d], .string key] w fun e w' => e = .returned (.int .i64 (askR id xs key)) ∧ Below w.heap.size w w' := by
  have HX := boxU id B xs.length d w
  obtain ⟨x0, x1, x2, x3⟩ := HX.out _ (Below.refl _ _)
  have HB := Lib.hid x3
  have J1 := Lib.hid (fun w1 (h : Below w.heap.size w w1) => rCheck8_any id B d xs w1 (hf.below h (Nat.le_refl _)) hn hs)
  have JK := Lib.hid (fun w => rCheck_any key w hz)
  clear hf hs x3
  by_cases h1 : (runE id xs).2 = 0
  · have HL := Lib.hid (askR_ok (key := key) h1)
    rw [h1] at J1
    generalize (runE id xs).1 = r0 at *
    generalize chk1 key.size = r at *
    clear h1
    go_enter Try.func37, Try.ntmps37
    go_wp2_with fail
    refine (J1.out _ HB.out).mono ?_
    rintro e w1 ⟨rfl, hb⟩
    have HB1 := Lib.hid (eb_of HB.out hb (by simp))
    clear hb
    go_wp2_with fail
    refine (JK.out _).mono ?_
    rintro e w2 ⟨rfl, rfl⟩
    go_wp2_with fail
    go_ret
    exact ⟨retI (by rw [HL.out]), HB1.out⟩
  · have HL := Lib.hid (askR_no (key := key) h1)
    obtain ⟨b1, b2⟩ := ne_b h1
    generalize (runE id xs).1 = r0 at *
    generalize (runE id xs).2 = r at *
    clear h1
    go_enter Try.func37, Try.ntmps37
    go_wp2_with fail
    refine (J1.out _ HB.out).mono ?_
    rintro e w1 ⟨rfl, hb⟩
    have HB1 := Lib.hid (eb_of HB.out hb (by simp))
    clear hb
    go_wp2_with fail
    go_ret
    exact ⟨retI (by rw [HL.out]), HB1.out⟩
set_option maxRecDepth 100000 in
set_option maxHeartbeats 4000000 in
theorem rGet8_any (id : Int) (B : Option Addr) (d : Nat) (xs : List El.En) (key : ByteArray) (w : World) (hf : EsAt w B xs) (hn : xs.length ≤ 4294967295) (hs : Sized xs) (hz : key.size ≤ 9223372036854775807) :
    Calls Try.prog 14 #[.agg #[.int .i64 id, .slice B xs.length d], .string key] w fun e w' => e = .returned (entV (getS id xs key)) ∧ Below w.heap.size w w' := by
  have HX := boxUE id B xs.length d w
  obtain ⟨x0, x1, x2, x3, x4⟩ := HX.out _ (Below.refl _ _)
  have HB := Lib.hid x4
  have J1 := Lib.hid (fun w1 (h : Below w.heap.size w w1) => rAsk8_any id B d xs key w1 (hf.below h (Nat.le_refl _)) hn hs hz)
  clear x2 x4
  by_cases ha : askR id xs key = 0
  rotate_left
  · have HL := Lib.hid (show getS id xs key = (El.none, askR id xs key) from (get_no ha).2)
    obtain ⟨b1, b2⟩ := ne_b ha
    generalize getS id xs key = res at *
    generalize askR id xs key = r at *
    clear hf hn hs hz ha
    generalize xs.length = n at *
    go_enter Try.func14, Try.ntmps14
    go_wp2_with fail
    refine (J1.out _ HB.out).mono ?_
    rintro e w1 ⟨rfl, hb⟩
    obtain ⟨y0, y1, y2, y3, y4⟩ := HX.out _ hb
    have HB1 := Lib.hid y4
    have r0 := y2.c0
    have r1 := y2.c1
    have r2 := y2.c2
    have r3 := y2.c3
    have f0 := y2.fz
    clear hb x0 x1
    go_wp2_with fail
    have HR := y2.set (.string ⟨#[]⟩) (.string ⟨#[]⟩) (.bool false) (.int .i64 0)
    have k0 := HR.c0
    have k1 := HR.c1
    have k2 := HR.c2
    have k3 := HR.c3
    exact bodyPost_ret (v := .tuple #[.agg #[.string ⟨#[]⟩, .string ⟨#[]⟩, .bool false, .int .i64 0], .int .i64 r]) (by simp [results, Try.results14, go_sem, k0, k1, k2, k3]) rfl ⟨retN HL.out, set4 HB1.out (by omega) _ _ _ _⟩
  have HA := Lib.hid ha
  rw [ha] at J1
  obtain ⟨hr, hk⟩ := askR_zero ha
  obtain ⟨hl5, hck, hasc⟩ := list_ok (run_list hr)
  have HS := Lib.hid hasc
  have HF := Lib.hid hf
  have HC := Lib.hid (fun x (hx : x ∈ xs) => (El.chk_of (hck x hx)).1)
  clear ha hf hs hr hck hasc
  go_enter Try.func14, Try.ntmps14
  go_wp2_with fail
  refine (J1.out _ HB.out).mono ?_
  rintro e w1 ⟨rfl, hb⟩
  have HBW := Lib.hid hb
  clear hb
  go_wp2_with fail
  go_loopw [7] (fun i wr => ∃ k : Nat, k ≤ xs.length ∧ i = .int .i64 k ∧ Below ((w.alloc (.cells #[.int .i64 id, .slice B xs.length d] 24)).alloc (.cells #[.string ⟨#[]⟩, .string ⟨#[]⟩, .bool false, .int .i64 0] 31)).heap.size ((w.alloc (.cells #[.int .i64 id, .slice B xs.length d] 24)).alloc (.cells #[.string ⟨#[]⟩, .string ⟨#[]⟩, .bool false, .int .i64 0] 31)) wr ∧ Hid (atE key 0 xs = atE key k (xs.drop k))) (fun i _ => xs.length - (intOf i).toNat)
  case atStart => exact ⟨0, Nat.zero_le _, rfl, HBW.out, Lib.hid (by simp)⟩
  case round =>
    obtain ⟨k, hk', rfl, hb, HI⟩ := hrel
    obtain ⟨y0, y1, y2, y3, y4⟩ := HX.out _ hb
    have HB1 := Lib.hid y4
    have HBW1 := Lib.hid hb
    have hf' := HF.out.below y4 (Nat.le_refl _)
    clear hb
    by_cases hlt : k < xs.length
    rotate_left
    · have HL := Lib.hid (show getS id xs key = (El.none, 4) by
        unfold getS
        rw [if_neg (by rw [HA.out]; simp), HI.out, atE_end hlt, if_pos (by decide)])
      clear hf'
      have r0 := y2.c0
      have r1 := y2.c1
      have r2 := y2.c2
      have r3 := y2.c3
      have f0 := y2.fz
      go_wp2_with fail
      have HR := y2.set (.string ⟨#[]⟩) (.string ⟨#[]⟩) (.bool false) (.int .i64 0)
      have k0 := HR.c0
      have k1 := HR.c1
      have k2 := HR.c2
      have k3 := HR.c3
      exact bodyPost_ret (v := .tuple #[.agg #[.string ⟨#[]⟩, .string ⟨#[]⟩, .bool false, .int .i64 0], .int .i64 4]) (by simp [results, Try.results14, go_sem, k0, k1, k2, k3]) rfl ⟨retN HL.out, set4 HB1.out (by omega) _ _ _ _⟩
    rcases hf' with h0 | ⟨b, off, rfl, hbl, hc⟩
    · subst h0; simp at hlt
    obtain ⟨g0, g1, g2, g3⟩ := hc k hlt
    clear hc
    by_cases he : xs[k].1 = key
    · have HL := Lib.hid (show getS id xs key = (xs[k], 0) by
        unfold getS
        rw [if_neg (by rw [HA.out]; simp), HI.out, atE_yes hlt he, if_neg (by omega), show ((k : Nat) : Int).toNat = k by omega, entR_eq hlt])
      have he2 := str_beq_eq he
      clear he
      generalize xs[k] = x at *
      have hk0 : (0 : Int) ≤ (k : Int) := by omega
      have hk1 : (k : Int) < (xs.length : Int) := by omega
      have r0 := y2.c0
      have r1 := y2.c1
      have r2 := y2.c2
      have r3 := y2.c3
      have f0 := y2.fz
      go_wp2_with fail
      have HR := y2.set (.string x.1) (.string x.2.1) (.bool x.2.2.1) (.int .i64 x.2.2.2)
      have k0 := HR.c0
      have k1 := HR.c1
      have k2 := HR.c2
      have k3 := HR.c3
      exact bodyPost_ret (v := .tuple #[.agg #[.string x.1, .string x.2.1, .bool x.2.2.1, .int .i64 x.2.2.2], .int .i64 0]) (by simp [results, Try.results14, go_sem, k0, k1, k2, k3]) rfl ⟨retN HL.out, set4 HB1.out (by omega) _ _ _ _⟩
    · have HL := Lib.hid (atE_no hlt he)
      have he2 := str_beq_ne he
      clear he
      go_wp2_with fail
      go_roundw
      case rel => exact ⟨k + 1, by omega, by go_num, HBW1.out, Lib.hid (HI.out.trans HL.out)⟩
      case measure => simp [intOf]; try omega
set_option maxRecDepth 100000 in
set_option maxHeartbeats 4000000 in
theorem rFloor8_any (id : Int) (B : Option Addr) (d : Nat) (xs : List El.En) (key : ByteArray) (strict : Bool) (w : World) (hf : EsAt w B xs) (hn : xs.length ≤ 4294967295) (hs : Sized xs) (hz : key.size ≤ 9223372036854775807) :
    Calls Try.prog 16 #[.agg #[.int .i64 id, .slice B xs.length d], .string key, .bool strict] w fun e w' => e = .returned (entV (floorR id xs key strict)) ∧ Below w.heap.size w w' := by
  have HX := boxUE id B xs.length d w
  obtain ⟨x0, x1, x2, x3, x4⟩ := HX.out _ (Below.refl _ _)
  have HB := Lib.hid x4
  have J1 := Lib.hid (fun w1 (h : Below w.heap.size w w1) => rAsk8_any id B d xs key w1 (hf.below h (Nat.le_refl _)) hn hs hz)
  clear x2 x4
  by_cases ha : askR id xs key = 0
  rotate_left
  · have HL := Lib.hid (show floorR id xs key strict = (El.none, askR id xs key) from floorR_no ha)
    obtain ⟨b1, b2⟩ := ne_b ha
    generalize floorR id xs key strict = res at *
    generalize askR id xs key = r at *
    clear hf hn hs hz ha
    generalize xs.length = n at *
    go_enter Try.func16, Try.ntmps16
    go_wp2_with fail
    refine (J1.out _ HB.out).mono ?_
    rintro e w1 ⟨rfl, hb⟩
    obtain ⟨y0, y1, y2, y3, y4⟩ := HX.out _ hb
    have HB1 := Lib.hid y4
    have r0 := y2.c0
    have r1 := y2.c1
    have r2 := y2.c2
    have r3 := y2.c3
    have f0 := y2.fz
    clear hb x0 x1
    go_wp2_with fail
    have HR := y2.set (.string ⟨#[]⟩) (.string ⟨#[]⟩) (.bool false) (.int .i64 0)
    have k0 := HR.c0
    have k1 := HR.c1
    have k2 := HR.c2
    have k3 := HR.c3
    exact bodyPost_ret (v := .tuple #[.agg #[.string ⟨#[]⟩, .string ⟨#[]⟩, .bool false, .int .i64 0], .int .i64 r]) (by simp [results, Try.results16, go_sem, k0, k1, k2, k3]) rfl ⟨retN HL.out, set4 HB1.out (by omega) _ _ _ _⟩
  have HA := Lib.hid ha
  rw [ha] at J1
  obtain ⟨hr, hk⟩ := askR_zero ha
  obtain ⟨hl5, hck, hasc⟩ := list_ok (run_list hr)
  have HS := Lib.hid hasc
  have HF := Lib.hid hf
  have HC := Lib.hid (fun x (hx : x ∈ xs) => (El.chk_of (hck x hx)).1)
  clear ha hf hs hr hck hasc
  go_enter Try.func16, Try.ntmps16
  go_wp2_with fail
  refine (J1.out _ HB.out).mono ?_
  rintro e w1 ⟨rfl, hb⟩
  have HBW := Lib.hid hb
  clear hb
  obtain ⟨y0, y1, _, _, _⟩ := HX.out _ HBW.out
  have hlw : IntKind.i64.wrap ((xs.length : Int) - 1) = (xs.length : Int) - 1 := by rw [IntKind.wrap_i64]; omega
  go_wp2_with fail
  clear y0 y1
  go_loopw [9] (fun i wr => ∃ k : Nat, k ≤ xs.length ∧ i = .int .i64 ((k : Int) - 1) ∧ Below ((w.alloc (.cells #[.int .i64 id, .slice B xs.length d] 24)).alloc (.cells #[.string ⟨#[]⟩, .string ⟨#[]⟩, .bool false, .int .i64 0] 31)).heap.size ((w.alloc (.cells #[.int .i64 id, .slice B xs.length d] 24)).alloc (.cells #[.string ⟨#[]⟩, .string ⟨#[]⟩, .bool false, .int .i64 0] 31)) wr ∧ Hid (∀ j (h : j < xs.length), k ≤ j → lowB key (!strict) xs[j] = false)) (fun i _ => (intOf i + 1).toNat)
  case atStart => exact ⟨xs.length, Nat.le_refl _, by go_num, HBW.out, Lib.hid (fun j h g => by omega)⟩
  case round =>
    obtain ⟨k, hk', rfl, hb, HI⟩ := hrel
    obtain ⟨y0, y1, y2, y3, y4⟩ := HX.out _ hb
    have HB1 := Lib.hid y4
    have HBW1 := Lib.hid hb
    have hf' := HF.out.below y4 (Nat.le_refl _)
    clear hb
    by_cases hlt : 0 < k
    rotate_left
    · obtain rfl : k = 0 := by omega
      have HL := Lib.hid (show floorR id xs key strict = (El.none, 4) from floorR_none HA.out (bef_cut (Nat.zero_le _) (fun j h g => by omega) fun j h g => HI.out j h g))
      clear hf'
      have r0 := y2.c0
      have r1 := y2.c1
      have r2 := y2.c2
      have r3 := y2.c3
      have f0 := y2.fz
      go_wp2_with fail
      have HR := y2.set (.string ⟨#[]⟩) (.string ⟨#[]⟩) (.bool false) (.int .i64 0)
      have k0 := HR.c0
      have k1 := HR.c1
      have k2 := HR.c2
      have k3 := HR.c3
      exact bodyPost_ret (v := .tuple #[.agg #[.string ⟨#[]⟩, .string ⟨#[]⟩, .bool false, .int .i64 0], .int .i64 4]) (by simp [results, Try.results16, go_sem, k0, k1, k2, k3]) rfl ⟨retN HL.out, set4 HB1.out (by omega) _ _ _ _⟩
    obtain ⟨m, rfl⟩ : ∃ m, k = m + 1 := ⟨k - 1, by omega⟩
    clear hlt
    have hlt : m < xs.length := by omega
    have hm1 : (((m + 1 : Nat) : Int) - 1) = (m : Int) := by omega
    rcases hf' with h0 | ⟨b, off, rfl, hbl, hc⟩
    · subst h0; simp at hlt
    obtain ⟨g0, g1, g2, g3⟩ := hc m hlt
    have JO := Lib.hid (fun w => Order_any xs[m].1 key w (by have := HC.out _ (List.getElem_mem hlt); omega) hz)
    have HLOW : Hid (lowB key (!strict) xs[m] = true → floorR id xs key strict = (xs[m], 0)) := Lib.hid (fun hlo => by
      have e : befN xs key (!strict) = m + 1 := bef_cut (by omega) (fun j h g => lowB_at HS.out (by omega) hlt hlo) fun j h g => HI.out j h g
      rw [floorR_ok HA.out (by omega), e, show m + 1 - 1 = m by omega, entR_eq hlt])
    have HNX : Hid (lowB key (!strict) xs[m] = false → ∀ j (h : j < xs.length), m ≤ j → lowB key (!strict) xs[j] = false) := Lib.hid (fun hlo => by
      intro j h g
      by_cases q : j = m
      · subst q; exact hlo
      · exact HI.out j h (by omega))
    have HR := Kl.ord_range (Kl.L xs[m].1) (Kl.L key)
    have hr : Kl.ord (Kl.L xs[m].1) (Kl.L key) = -1 ∨ Kl.ord (Kl.L xs[m].1) (Kl.L key) = 0 ∨ Kl.ord (Kl.L xs[m].1) (Kl.L key) = 1 := by omega
    have HG : Hid (∀ w', Below wr.heap.size wr w' → w'.cell? ⟨b, off + m * 4, none⟩ = some (.string xs[m].1) ∧ w'.cell? ⟨b, off + m * 4 + 1, none⟩ = some (.string xs[m].2.1) ∧ w'.cell? ⟨b, off + m * 4 + 2, none⟩ = some (.bool xs[m].2.2.1) ∧ w'.cell? ⟨b, off + m * 4 + 3, none⟩ = some (.int .i64 xs[m].2.2.2)) := Lib.hid (fun w' h => by
      have e : ∀ o, w'.cell? ⟨b, o, none⟩ = wr.cell? ⟨b, o, none⟩ := fun o => h.cell (p := ⟨b, o, none⟩) hbl
      rw [e, e, e, e]; exact ⟨g0, g1, g2, g3⟩)
    clear hc HR g1 g2 g3 y2 y3 hbl
    have hk0 : (0 : Int) ≤ (m : Int) := by omega
    have hk1 : (m : Int) < (xs.length : Int) := by omega
    generalize hxk : xs[m] = x at *
    clear hxk
    rcases hr with hr | hr | hr
    · rw [hr] at JO
      have HL := Lib.hid (HLOW.out (low_lt hr (!strict)))
      clear HNX HLOW hr
      go_wp2_with fail
      refine (JO.out _).mono ?_
      rintro e w2 ⟨rfl, hb⟩
      obtain ⟨v0, v1, v2, v3⟩ := HG.out _ hb
      have hbw := HBW1.out.trans (hb.mono (by have := HBW1.out.size; exact this))
      clear y0 y1 g0
      obtain ⟨y0, y1, y2, y3, y4⟩ := HX.out _ hbw
      have HB1 := Lib.hid y4
      have r0 := y2.c0
      have r1 := y2.c1
      have r2 := y2.c2
      have r3 := y2.c3
      have f0 := y2.fz
      clear hb hbw
      go_wp2_with fail
      have HR := y2.set (.string x.1) (.string x.2.1) (.bool x.2.2.1) (.int .i64 x.2.2.2)
      have k0 := HR.c0
      have k1 := HR.c1
      have k2 := HR.c2
      have k3 := HR.c3
      exact bodyPost_ret (v := .tuple #[.agg #[.string x.1, .string x.2.1, .bool x.2.2.1, .int .i64 x.2.2.2], .int .i64 0]) (by simp [results, Try.results16, go_sem, k0, k1, k2, k3]) rfl ⟨retN HL.out, set4 HB1.out (by omega) _ _ _ _⟩
    · cases strict with
      | true =>
        rw [hr] at JO
        have HL := Lib.hid (HNX.out (low_eq hr _))
        clear HNX HLOW hr
        go_wp2_with fail
        refine (JO.out _).mono ?_
        rintro e w2 ⟨rfl, hb⟩
        have HBW2 := Lib.hid (HBW1.out.trans (hb.mono (by have := HBW1.out.size; exact this)))
        clear hb
        go_wp2_with fail
        go_roundw
        case rel => exact ⟨m, by omega, by go_num, HBW2.out, HL⟩
        case measure => simp [intOf]; try omega
      | false =>
        rw [hr] at JO
        have HL := Lib.hid (HLOW.out (low_eq hr _))
        clear HNX HLOW hr
        go_wp2_with fail
        refine (JO.out _).mono ?_
        rintro e w2 ⟨rfl, hb⟩
        obtain ⟨v0, v1, v2, v3⟩ := HG.out _ hb
        have hbw := HBW1.out.trans (hb.mono (by have := HBW1.out.size; exact this))
        clear y0 y1 g0
        obtain ⟨y0, y1, y2, y3, y4⟩ := HX.out _ hbw
        have HB1 := Lib.hid y4
        have r0 := y2.c0
        have r1 := y2.c1
        have r2 := y2.c2
        have r3 := y2.c3
        have f0 := y2.fz
        clear hb hbw
        go_wp2_with fail
        have HR := y2.set (.string x.1) (.string x.2.1) (.bool x.2.2.1) (.int .i64 x.2.2.2)
        have k0 := HR.c0
        have k1 := HR.c1
        have k2 := HR.c2
        have k3 := HR.c3
        exact bodyPost_ret (v := .tuple #[.agg #[.string x.1, .string x.2.1, .bool x.2.2.1, .int .i64 x.2.2.2], .int .i64 0]) (by simp [results, Try.results16, go_sem, k0, k1, k2, k3]) rfl ⟨retN HL.out, set4 HB1.out (by omega) _ _ _ _⟩
    · rw [hr] at JO
      have HL := Lib.hid (HNX.out (low_gt hr (!strict)))
      clear HNX HLOW hr
      go_wp2_with fail
      refine (JO.out _).mono ?_
      rintro e w2 ⟨rfl, hb⟩
      have HBW2 := Lib.hid (HBW1.out.trans (hb.mono (by have := HBW1.out.size; exact this)))
      clear hb
      go_wp2_with fail
      go_roundw
      case rel => exact ⟨m, by omega, by go_num, HBW2.out, HL⟩
      case measure => simp [intOf]; try omega
set_option maxRecDepth 100000 in
set_option maxHeartbeats 4000000 in
theorem rCeil8_any (id : Int) (B : Option Addr) (d : Nat) (xs : List El.En) (key : ByteArray) (strict : Bool) (w : World) (hf : EsAt w B xs) (hn : xs.length ≤ 4294967295) (hs : Sized xs) (hz : key.size ≤ 9223372036854775807) :
    Calls Try.prog 18 #[.agg #[.int .i64 id, .slice B xs.length d], .string key, .bool strict] w fun e w' => e = .returned (entV (ceilR id xs key strict)) ∧ Below w.heap.size w w' := by
  have HX := boxUE id B xs.length d w
  obtain ⟨x0, x1, x2, x3, x4⟩ := HX.out _ (Below.refl _ _)
  have HB := Lib.hid x4
  have J1 := Lib.hid (fun w1 (h : Below w.heap.size w w1) => rAsk8_any id B d xs key w1 (hf.below h (Nat.le_refl _)) hn hs hz)
  clear x2 x4
  by_cases ha : askR id xs key = 0
  rotate_left
  · have HL := Lib.hid (show ceilR id xs key strict = (El.none, askR id xs key) from ceilR_no ha)
    obtain ⟨b1, b2⟩ := ne_b ha
    generalize ceilR id xs key strict = res at *
    generalize askR id xs key = r at *
    clear hf hn hs hz ha
    generalize xs.length = n at *
    go_enter Try.func18, Try.ntmps18
    go_wp2_with fail
    refine (J1.out _ HB.out).mono ?_
    rintro e w1 ⟨rfl, hb⟩
    obtain ⟨y0, y1, y2, y3, y4⟩ := HX.out _ hb
    have HB1 := Lib.hid y4
    have r0 := y2.c0
    have r1 := y2.c1
    have r2 := y2.c2
    have r3 := y2.c3
    have f0 := y2.fz
    clear hb x0 x1
    go_wp2_with fail
    have HR := y2.set (.string ⟨#[]⟩) (.string ⟨#[]⟩) (.bool false) (.int .i64 0)
    have k0 := HR.c0
    have k1 := HR.c1
    have k2 := HR.c2
    have k3 := HR.c3
    exact bodyPost_ret (v := .tuple #[.agg #[.string ⟨#[]⟩, .string ⟨#[]⟩, .bool false, .int .i64 0], .int .i64 r]) (by simp [results, Try.results18, go_sem, k0, k1, k2, k3]) rfl ⟨retN HL.out, set4 HB1.out (by omega) _ _ _ _⟩
  have HA := Lib.hid ha
  rw [ha] at J1
  obtain ⟨hr, hk⟩ := askR_zero ha
  obtain ⟨hl5, hck, hasc⟩ := list_ok (run_list hr)
  have HS := Lib.hid hasc
  have HF := Lib.hid hf
  have HC := Lib.hid (fun x (hx : x ∈ xs) => (El.chk_of (hck x hx)).1)
  clear ha hf hs hr hck hasc
  go_enter Try.func18, Try.ntmps18
  go_wp2_with fail
  refine (J1.out _ HB.out).mono ?_
  rintro e w1 ⟨rfl, hb⟩
  have HBW := Lib.hid hb
  clear hb
  go_wp2_with fail
  go_loopw [9] (fun i wr => ∃ k : Nat, k ≤ xs.length ∧ i = .int .i64 k ∧ Below ((w.alloc (.cells #[.int .i64 id, .slice B xs.length d] 24)).alloc (.cells #[.string ⟨#[]⟩, .string ⟨#[]⟩, .bool false, .int .i64 0] 31)).heap.size ((w.alloc (.cells #[.int .i64 id, .slice B xs.length d] 24)).alloc (.cells #[.string ⟨#[]⟩, .string ⟨#[]⟩, .bool false, .int .i64 0] 31)) wr ∧ Hid (∀ j (h : j < xs.length), j < k → lowB key strict xs[j] = true)) (fun i _ => xs.length - (intOf i).toNat)
  case atStart => exact ⟨0, Nat.zero_le _, rfl, HBW.out, Lib.hid (fun j h g => by omega)⟩
  case round =>
    obtain ⟨k, hk', rfl, hb, HI⟩ := hrel
    obtain ⟨y0, y1, y2, y3, y4⟩ := HX.out _ hb
    have HB1 := Lib.hid y4
    have HBW1 := Lib.hid hb
    have hf' := HF.out.below y4 (Nat.le_refl _)
    clear hb
    by_cases hlt : k < xs.length
    rotate_left
    · have HL := Lib.hid (show ceilR id xs key strict = (El.none, 4) from ceilR_none HA.out (bef_cut (Nat.le_refl _) (fun j h _ => HI.out j h (by omega)) fun j h g => by omega))
      clear hf'
      have r0 := y2.c0
      have r1 := y2.c1
      have r2 := y2.c2
      have r3 := y2.c3
      have f0 := y2.fz
      go_wp2_with fail
      have HR := y2.set (.string ⟨#[]⟩) (.string ⟨#[]⟩) (.bool false) (.int .i64 0)
      have k0 := HR.c0
      have k1 := HR.c1
      have k2 := HR.c2
      have k3 := HR.c3
      exact bodyPost_ret (v := .tuple #[.agg #[.string ⟨#[]⟩, .string ⟨#[]⟩, .bool false, .int .i64 0], .int .i64 4]) (by simp [results, Try.results18, go_sem, k0, k1, k2, k3]) rfl ⟨retN HL.out, set4 HB1.out (by omega) _ _ _ _⟩
    rcases hf' with h0 | ⟨b, off, rfl, hbl, hc⟩
    · subst h0; simp at hlt
    obtain ⟨g0, g1, g2, g3⟩ := hc k hlt
    have JO := Lib.hid (fun w => Order_any xs[k].1 key w (by have := HC.out _ (List.getElem_mem hlt); omega) hz)
    have HLOW : Hid (lowB key strict xs[k] = false → ceilR id xs key strict = (xs[k], 0)) := Lib.hid (fun hlo => by
      have e : befN xs key strict = k := bef_cut (by omega) (fun j h g => HI.out j h g) fun j h g => by
        cases q : lowB key strict xs[j] with
        | false => rfl
        | true => have := lowB_at HS.out g h q; rw [hlo] at this; cases this
      rw [ceilR_ok HA.out (by omega), e, entR_eq hlt])
    have HNX : Hid (lowB key strict xs[k] = true → ∀ j (h : j < xs.length), j < k + 1 → lowB key strict xs[j] = true) := Lib.hid (fun hlo => by
      intro j h g
      by_cases q : j = k
      · subst q; exact hlo
      · exact HI.out j h (by omega))
    have HR := Kl.ord_range (Kl.L xs[k].1) (Kl.L key)
    have hr : Kl.ord (Kl.L xs[k].1) (Kl.L key) = -1 ∨ Kl.ord (Kl.L xs[k].1) (Kl.L key) = 0 ∨ Kl.ord (Kl.L xs[k].1) (Kl.L key) = 1 := by omega
    have HG : Hid (∀ w', Below wr.heap.size wr w' → w'.cell? ⟨b, off + k * 4, none⟩ = some (.string xs[k].1) ∧ w'.cell? ⟨b, off + k * 4 + 1, none⟩ = some (.string xs[k].2.1) ∧ w'.cell? ⟨b, off + k * 4 + 2, none⟩ = some (.bool xs[k].2.2.1) ∧ w'.cell? ⟨b, off + k * 4 + 3, none⟩ = some (.int .i64 xs[k].2.2.2)) := Lib.hid (fun w' h => by
      have e : ∀ o, w'.cell? ⟨b, o, none⟩ = wr.cell? ⟨b, o, none⟩ := fun o => h.cell (p := ⟨b, o, none⟩) hbl
      rw [e, e, e, e]; exact ⟨g0, g1, g2, g3⟩)
    clear hc HR g1 g2 g3 y2 y3 hbl
    have hk0 : (0 : Int) ≤ (k : Int) := by omega
    have hk1 : (k : Int) < (xs.length : Int) := by omega
    generalize hxk : xs[k] = x at *
    clear hxk
    rcases hr with hr | hr | hr
    · rw [hr] at JO
      have HL := Lib.hid (HNX.out (low_lt hr strict))
      clear HNX HLOW hr
      go_wp2_with fail
      refine (JO.out _).mono ?_
      rintro e w2 ⟨rfl, hb⟩
      have HBW2 := Lib.hid (HBW1.out.trans (hb.mono (by have := HBW1.out.size; exact this)))
      clear hb
      go_wp2_with fail
      go_roundw
      case rel => exact ⟨k + 1, by omega, by go_num, HBW2.out, HL⟩
      case measure => simp [intOf]; try omega
    · cases strict with
      | true =>
        rw [hr] at JO
        have HL := Lib.hid (HNX.out (low_eq hr _))
        clear HNX HLOW hr
        go_wp2_with fail
        refine (JO.out _).mono ?_
        rintro e w2 ⟨rfl, hb⟩
        have HBW2 := Lib.hid (HBW1.out.trans (hb.mono (by have := HBW1.out.size; exact this)))
        clear hb
        go_wp2_with fail
        go_roundw
        case rel => exact ⟨k + 1, by omega, by go_num, HBW2.out, HL⟩
        case measure => simp [intOf]; try omega
      | false =>
        rw [hr] at JO
        have HL := Lib.hid (HLOW.out (low_eq hr _))
        clear HNX HLOW hr
        go_wp2_with fail
        refine (JO.out _).mono ?_
        rintro e w2 ⟨rfl, hb⟩
        obtain ⟨v0, v1, v2, v3⟩ := HG.out _ hb
        have hbw := HBW1.out.trans (hb.mono (by have := HBW1.out.size; exact this))
        clear y0 y1 g0
        obtain ⟨y0, y1, y2, y3, y4⟩ := HX.out _ hbw
        have HB1 := Lib.hid y4
        have r0 := y2.c0
        have r1 := y2.c1
        have r2 := y2.c2
        have r3 := y2.c3
        have f0 := y2.fz
        clear hb hbw
        go_wp2_with fail
        have HR := y2.set (.string x.1) (.string x.2.1) (.bool x.2.2.1) (.int .i64 x.2.2.2)
        have k0 := HR.c0
        have k1 := HR.c1
        have k2 := HR.c2
        have k3 := HR.c3
        exact bodyPost_ret (v := .tuple #[.agg #[.string x.1, .string x.2.1, .bool x.2.2.1, .int .i64 x.2.2.2], .int .i64 0]) (by simp [results, Try.results18, go_sem, k0, k1, k2, k3]) rfl ⟨retN HL.out, set4 HB1.out (by omega) _ _ _ _⟩
    · rw [hr] at JO
      have HL := Lib.hid (HLOW.out (low_gt hr strict))
      clear HNX HLOW hr
      go_wp2_with fail
      refine (JO.out _).mono ?_
      rintro e w2 ⟨rfl, hb⟩
      obtain ⟨v0, v1, v2, v3⟩ := HG.out _ hb
      have hbw := HBW1.out.trans (hb.mono (by have := HBW1.out.size; exact this))
      clear y0 y1 g0
      obtain ⟨y0, y1, y2, y3, y4⟩ := HX.out _ hbw
      have HB1 := Lib.hid y4
      have r0 := y2.c0
      have r1 := y2.c1
      have r2 := y2.c2
      have r3 := y2.c3
      have f0 := y2.fz
      clear hb hbw
      go_wp2_with fail
      have HR := y2.set (.string x.1) (.string x.2.1) (.bool x.2.2.1) (.int .i64 x.2.2.2)
      have k0 := HR.c0
      have k1 := HR.c1
      have k2 := HR.c2
      have k3 := HR.c3
      exact bodyPost_ret (v := .tuple #[.agg #[.string x.1, .string x.2.1, .bool x.2.2.1, .int .i64 x.2.2.2], .int .i64 0]) (by simp [results, Try.results18, go_sem, k0, k1, k2, k3]) rfl ⟨retN HL.out, set4 HB1.out (by omega) _ _ _ _⟩
end Go.Proofs.Ytjnbdeahmbkbnaa.KK
