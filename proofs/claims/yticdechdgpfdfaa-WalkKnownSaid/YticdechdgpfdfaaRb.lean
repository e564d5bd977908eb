/-
  Runs: Check on both sides; how many entries are below a key.
-/
import Derived.Test.YticdechdgpfdfaaRa
namespace Go.Proofs.Yticdechdgpfdfaa.KK
open Go.ChangeShapes Go.WideShapes Go.ChangeAt Go.RowKit Go.Proofs

theorem boxU (id : Int) (A : Option Addr) (n c : Nat) (w : World) : Hid (∀ w', Below (w.alloc (.cells #[.int .i64 id, .slice A n c] 24)).heap.size (w.alloc (.cells #[.int .i64 id, .slice A n c] 24)) w' →
    w'.cell? ⟨w.heap.size, 0, none⟩ = some (.int .i64 id) ∧ w'.cell? ⟨w.heap.size, 1, none⟩ = some (.slice A n c) ∧ w.heap.size < w'.heap.size ∧ Below w.heap.size w w') := Lib.hid fun w' h =>
  ⟨(h.cell (p := ⟨w.heap.size, 0, none⟩) (by simp)).trans (cell_of_row _ w.heap.size 0 _ _ _ (heap_alloc_new w _)), (h.cell (p := ⟨w.heap.size, 1, none⟩) (by simp)).trans (cell_of_row _ w.heap.size 1 _ _ _ (heap_alloc_new w _)), by have := h.size; simp at this; omega, ((Below.refl w.heap.size w).alloc (Nat.le_refl _) _).trans (h.mono (by simp))⟩
set_option maxRecDepth 100000 in
set_option maxHeartbeats 1000000 in
theorem pCheck8_any (id : Int) (A : Option Addr) (c : Nat) (xs : List El.En) (w : World) (hf : EsAt w A xs) (hn : xs.length ≤ 4294967295) (hs : Sized xs) :
    Calls Try.prog 36 #[.agg #[.int .i64 id, .slice A xs.length c]] w fun e w' => e = .returned (.tuple #[.int .i64 (runE id xs).1, .int .i64 (runE id xs).2]) ∧ Below w.heap.size w w' := by
  have HX := boxU id A xs.length c w
  obtain ⟨x0, x1, x2, x3⟩ := HX.out _ (Below.refl _ _)
  have HB := Lib.hid x3
  have J := Lib.hid (fun w1 (h : Below w.heap.size w w1) => eList_any A c xs w1 (hf.below h (Nat.le_refl _)) hn hs)
  clear x3 hf hs
  by_cases h1 : id < 1
  · have HL := Lib.hid (runE_no (xs := xs) (.inl h1))
    go_enter Try.func36, Try.ntmps36
    go_wp2_with fail
    go_ret2
    exact ⟨retZ HL.out, HB.out⟩
  by_cases h2 : 1000000 < id
  · have HL := Lib.hid (runE_no (xs := xs) (.inr h2))
    go_enter Try.func36, Try.ntmps36
    go_wp2_with fail
    go_ret2
    exact ⟨retZ HL.out, HB.out⟩
  have HL := Lib.hid (runE_ok (xs := xs) (show ¬ (id < 1 ∨ 1000000 < id) by omega))
  generalize hq : listE xs = q at *
  obtain ⟨q1, q2⟩ := q
  clear hq
  go_enter Try.func36, Try.ntmps36
  go_wp2_with fail
  refine (J.out _ HB.out).mono ?_
  rintro e w1 ⟨rfl, hb⟩
  have HB1 := Lib.hid (eb_of HB.out hb (by simp))
  clear hb
  go_wp2_with fail
  go_ret2
  exact ⟨retZ HL.out, HB1.out⟩
set_option maxRecDepth 100000 in
set_option maxHeartbeats 1000000 in
theorem rCheck8_any (id : Int) (A : Option Addr) (c : Nat) (xs : List El.En) (w : World) (hf : EsAt w A xs) (hn : xs.length ≤ 4294967295) (hs : Sized xs) :
    Calls Try.prog 32 #[.agg #[.int .i64 id, .slice A xs.length c]] w fun e w' => e = .returned (.tuple #[.int .i64 (runE id xs).1, .int .i64 (runE id xs).2]) ∧ Below w.heap.size w w' := by
  have HX := boxU id A xs.length c w
  obtain ⟨x0, x1, x2, x3⟩ := HX.out _ (Below.refl _ _)
  have HB := Lib.hid x3
  have J := Lib.hid (fun w1 (h : Below w.heap.size w w1) => fList_any A c xs w1 (hf.below h (Nat.le_refl _)) hn hs)
  clear x3 hf hs
  by_cases h1 : id < 1
  · have HL := Lib.hid (runE_no (xs := xs) (.inl h1))
    go_enter Try.func32, Try.ntmps32
    go_wp2_with fail
    go_ret2
    exact ⟨retZ HL.out, HB.out⟩
  by_cases h2 : 1000000 < id
  · have HL := Lib.hid (runE_no (xs := xs) (.inr h2))
    go_enter Try.func32, Try.ntmps32
    go_wp2_with fail
    go_ret2
    exact ⟨retZ HL.out, HB.out⟩
  have HL := Lib.hid (runE_ok (xs := xs) (show ¬ (id < 1 ∨ 1000000 < id) by omega))
  generalize hq : listE xs = q at *
  obtain ⟨q1, q2⟩ := q
  clear hq
  go_enter Try.func32, Try.ntmps32
  go_wp2_with fail
  refine (J.out _ HB.out).mono ?_
  rintro e w1 ⟨rfl, hb⟩
  have HB1 := Lib.hid (eb_of HB.out hb (by simp))
  clear hb
  go_wp2_with fail
  go_ret2
  exact ⟨retZ HL.out, HB1.out⟩
theorem low_lt {key : ByteArray} {x : El.En} (h : Kl.ord (Kl.L x.1) (Kl.L key) = -1) (past : Bool) : lowB key past x = true := lowB_less (Kl.ord_neg.1 (by omega)) past
theorem low_gt {key : ByteArray} {x : El.En} (h : Kl.ord (Kl.L x.1) (Kl.L key) = 1) (past : Bool) : lowB key past x = false := lowB_more (Kl.ord_pos.1 (by omega)) past
theorem low_eq {key : ByteArray} {x : El.En} (h : Kl.ord (Kl.L x.1) (Kl.L key) = 0) (past : Bool) : lowB key past x = past := by
  have e := L_inj (Kl.ord_eq.1 h)
  unfold lowB; rw [e, ltK_irr]; cases past <;> rfl
set_option maxRecDepth 100000 in
set_option maxHeartbeats 2000000 in
theorem bef1_any (A : Option Addr) (c : Nat) (xs : List El.En) (key : ByteArray) (past : Bool) (lb kb pb i : Nat) (w : World) (hf : EsAt w A xs) (hl : w.cell? ⟨lb, 0, none⟩ = some (.slice A xs.length c)) (hlb : lb < w.heap.size)
    (hk : w.cell? ⟨kb, 0, none⟩ = some (.string key)) (hkb : kb < w.heap.size) (hp : w.cell? ⟨pb, 0, none⟩ = some (.bool past)) (hpb : pb < w.heap.size)
    (hi : i < xs.length) (hn : xs.length ≤ 4294967295) (h1 : ∀ x ∈ xs, x.1.size ≤ 32) (h2 : key.size ≤ 32) :
    Calls Try.prog 62 #[.int .i64 i, .pointer (some ⟨lb, 0, none⟩), .pointer (some ⟨kb, 0, none⟩), .pointer (some ⟨pb, 0, none⟩)] w fun e w' => e = .returned (.bool (!lowB key past xs[i])) ∧ Below w.heap.size w w' := by
  rcases hf with h0 | ⟨b, off, rfl, hbl, hc⟩
  · subst h0; simp at hi
  obtain ⟨g0, _, _, _⟩ := hc i hi
  have g0 := abv_cell hbl g0
  have hz := h1 _ (List.getElem_mem hi)
  have z0 := abv_cell hlb hl
  have z1 := abv_cell hkb hk
  have z2 := abv_cell hpb hp
  have J : Hid (∀ p : Abv w, Calls Try.prog 63 #[.string xs[i].1, .string key] p.world fun e w' => e = .returned (.tuple #[.int .i64 (Kl.ord (Kl.L xs[i].1) (Kl.L key)), .int .i64 0]) ∧ Below p.world.heap.size p.world w') := Lib.hid (fun p => by
    have K := kCompare_any xs[i].1 key p.world (by omega) (by omega); rw [cmpV_ok hz h2, chk2_ok hz h2] at K; exact K)
  have HO := Kl.ord_range (Kl.L xs[i].1) (Kl.L key)
  clear hc h1 h2 hz hl hk hp
  generalize xs[i] = m at *
  have hr : Kl.ord (Kl.L m.1) (Kl.L key) = -1 ∨ Kl.ord (Kl.L m.1) (Kl.L key) = 0 ∨ Kl.ord (Kl.L m.1) (Kl.L key) = 1 := by omega
  clear HO
  rcases hr with hr | hr | hr
  case inl =>
    have HL := Lib.hid (low_lt hr past)
    rw [hr] at J
    clear hr
    go_enter Try.func62, Try.ntmps62
    go_wp2_with fail
    refine wp_region_abv (by first | assumption | kernel_rfl) (by kernel_rfl) ?_
    repeat (first | go_big_quiet_step (exact callAbv (J.out _)) | quiet_step (exact callAbv (J.out _)))
    refine wpQuiet_nil ?_
    intro w2 hw2
    obtain ⟨p, rfl⟩ := hw2
    go_wp2_with fail
    go_ret
    exact ⟨retB (by rw [HL.out]; rfl), p.h⟩
  case inr.inl =>
    have HL := Lib.hid (low_eq hr past)
    rw [hr] at J
    clear hr
    go_enter Try.func62, Try.ntmps62
    go_wp2_with fail
    refine wp_region_abv (by first | assumption | kernel_rfl) (by kernel_rfl) ?_
    repeat (first | go_big_quiet_step (exact callAbv (J.out _)) | quiet_step (exact callAbv (J.out _)))
    refine wpQuiet_nil ?_
    intro w2 hw2
    obtain ⟨p, rfl⟩ := hw2
    go_wp2_with fail
    go_ret
    exact ⟨retB (by rw [HL.out]), p.h⟩
  case inr.inr =>
    have HL := Lib.hid (low_gt hr past)
    rw [hr] at J
    clear hr
    go_enter Try.func62, Try.ntmps62
    go_wp2_with fail
    refine wp_region_abv (by first | assumption | kernel_rfl) (by kernel_rfl) ?_
    repeat (first | go_big_quiet_step (exact callAbv (J.out _)) | quiet_step (exact callAbv (J.out _)))
    refine wpQuiet_nil ?_
    intro w2 hw2
    obtain ⟨p, rfl⟩ := hw2
    go_wp2_with fail
    go_ret
    exact ⟨retB (by rw [HL.out]; rfl), p.h⟩
set_option maxRecDepth 100000 in
set_option maxHeartbeats 2000000 in
theorem Search_R (n : Nat) (q : Nat → Bool) (pa pb pc : Option Addr) (w : World) (hn : n ≤ 4294967295)
    (hf : ∀ i, i < n → ∀ w1, Below w.heap.size w w1 → Calls Try.prog 62 #[.int .i64 i, .pointer pa, .pointer pb, .pointer pc] w1 fun e w' => e = .returned (.bool (q i)) ∧ Below w1.heap.size w1 w')
    (hmono : ∀ a b, a ≤ b → b < n → q a = true → q b = true) :
    Calls Try.prog 61 #[.int .i64 n, .func (.func 62) #[] #[.pointer pa, .pointer pb, .pointer pc]] w fun e w' => (∃ r : Nat, e = .returned (.int .i64 r) ∧ r ≤ n ∧ (∀ t, t < r → q t = false) ∧ (∀ t, r ≤ t → t < n → q t = true)) ∧ Below w.heap.size w w' := by
  have HF := Lib.hid hf
  have HM := Lib.hid hmono
  clear hf hmono
  go_enter Try.func61, Try.ntmps61
  go_wp2_with fail
  go_loopw [5, 6] (fun i j wr => ∃ lo hi : Nat, i = .int .i64 lo ∧ j = .int .i64 hi ∧ lo ≤ hi ∧ hi ≤ n ∧ Below w.heap.size w wr ∧ Hid ((∀ t, t < lo → q t = false) ∧ (∀ t, hi ≤ t → t < n → q t = true))) (fun i j _ => (intOf j - intOf i).toNat)
  case atStart => exact ⟨0, n, rfl, rfl, Nat.zero_le _, Nat.le_refl _, Below.refl _ _, Lib.hid ⟨fun t h => by omega, fun t h g => by omega⟩⟩
  case round =>
    obtain ⟨lo, hi, rfl, rfl, hlh, hhn, hb, HI⟩ := hrel
    have HB := Lib.hid hb
    clear hb
    by_cases hlt : lo < hi
    · obtain ⟨m, hm⟩ : ∃ m, (lo + hi) / 2 = m := ⟨_, rfl⟩
      have hm1 : ((lo : Int) + (hi : Int)) / 2 = (m : Int) := by omega
      have hm2 : lo ≤ m ∧ m < hi := by omega
      have J := Lib.hid (HF.out m (by omega) wr HB.out)
      clear hm
      obtain ⟨hm3, hm4⟩ := hm2
      cases hq : q m with
      | false =>
        rw [hq] at J
        have HQ := Lib.hid hq
        clear hq
        go_wp2_with fail
        refine J.out.mono ?_
        rintro e w1 ⟨rfl, hb1⟩
        have HB1 := Lib.hid (eb_of HB.out hb1 (Nat.le_refl _))
        clear hb1
        go_wp2_with fail
        go_roundw
        case rel =>
          refine ⟨m + 1, hi, by go_num, rfl, by omega, hhn, HB1.out, Lib.hid ⟨fun t ht => ?_, HI.out.2⟩⟩
          cases h : q t with
          | false => rfl
          | true => have := HM.out t m (by omega) (by omega) h; rw [HQ.out] at this; cases this
        case measure => simp [intOf]; omega
      | true =>
        rw [hq] at J
        have HQ := Lib.hid hq
        clear hq
        go_wp2_with fail
        refine J.out.mono ?_
        rintro e w1 ⟨rfl, hb1⟩
        have HB1 := Lib.hid (eb_of HB.out hb1 (Nat.le_refl _))
        clear hb1
        go_wp2_with fail
        go_roundw
        case rel => exact ⟨lo, m, rfl, by go_num, by omega, by omega, HB1.out, Lib.hid ⟨HI.out.1, fun t ht htn => HM.out m t ht htn HQ.out⟩⟩
        case measure => simp [intOf]; omega
    · have he : lo = hi := by omega
      subst he
      go_wp2_with fail
      go_ret
      exact ⟨⟨lo, rfl, hhn, HI.out.1, HI.out.2⟩, HB.out⟩
set_option maxRecDepth 100000 in
set_option maxHeartbeats 2000000 in
theorem search_any (A : Option Addr) (c : Nat) (xs : List El.En) (key : ByteArray) (past : Bool) (lb kb pb : Nat) (w : World) (hf : EsAt w A xs) (hl : w.cell? ⟨lb, 0, none⟩ = some (.slice A xs.length c)) (hlb : lb < w.heap.size)
    (hk : w.cell? ⟨kb, 0, none⟩ = some (.string key)) (hkb : kb < w.heap.size) (hp : w.cell? ⟨pb, 0, none⟩ = some (.bool past)) (hpb : pb < w.heap.size)
    (hn : xs.length ≤ 4294967295) (h1 : ∀ x ∈ xs, x.1.size ≤ 32) (h2 : key.size ≤ 32) (hasc : SK xs) :
    Calls Try.prog 61 #[.int .i64 xs.length, .func (.func 62) #[] #[.pointer (some ⟨lb, 0, none⟩), .pointer (some ⟨kb, 0, none⟩), .pointer (some ⟨pb, 0, none⟩)]] w fun e w' => e = .returned (.int .i64 (befN xs key past)) ∧ Below w.heap.size w w' := by
  refine (Search_R xs.length (fun i => if h : i < xs.length then !lowB key past xs[i] else true) (some ⟨lb, 0, none⟩) (some ⟨kb, 0, none⟩) (some ⟨pb, 0, none⟩) w hn
    (fun i hi w1 hb => by
      have hs := hb.size
      have K := bef1_any A c xs key past lb kb pb i w1 (hf.below hb (Nat.le_refl _)) ((hb.cell (p := ⟨lb, 0, none⟩) hlb).trans hl) (by omega) ((hb.cell (p := ⟨kb, 0, none⟩) hkb).trans hk) (by omega) ((hb.cell (p := ⟨pb, 0, none⟩) hpb).trans hp) (by omega) hi hn h1 h2
      rw [dif_pos hi]; exact K)
    (fun a b hab hb h => by
      have ha : a < xs.length := by omega
      rw [dif_pos ha] at h
      rw [dif_pos hb]
      rw [Bool.not_eq_true'] at h ⊢
      cases g : lowB key past xs[b] with
      | false => rfl
      | true => have := lowB_at hasc hab hb g; rw [h] at this; cases this)).mono ?_
  rintro e w' ⟨⟨r, rfl, g1, g2, g3⟩, hb⟩
  refine ⟨?_, hb⟩
  rw [bef_cut (key := key) (past := past) g1 (fun i hi h => ?_) fun i hi h => ?_]
  · have := g2 i h; rw [dif_pos hi] at this; simpa using this
  · have := g3 i h hi; rw [dif_pos hi] at this; simpa using this
end Go.Proofs.Yticdechdgpfdfaa.KK
