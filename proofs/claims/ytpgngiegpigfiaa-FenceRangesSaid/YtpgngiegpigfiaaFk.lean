/-
  Fences: sort.Search, and how many at the beginning are low.
-/
import Derived.Test.YtpgngiegpigfiaaFj
namespace Go.Proofs.Ytpgngiegpigfiaa.KK
open Go.ChangeShapes Go.WideShapes Go.ChangeAt Go.RowKit Go.Proofs

theorem str_box (v : Value) (t : TypeId) (w : World) : (w.alloc (.cells #[v] t)).cell? ⟨w.heap.size, 0, none⟩ = some v := cell_of_row _ w.heap.size 0 _ _ _ (heap_alloc_new w _)
set_option maxRecDepth 100000 in
set_option maxHeartbeats 2000000 in
theorem Search_S (n : Nat) (q : Nat → Bool) (pa pb : Option Addr) (w : World) (hn : n ≤ 4294967295)
    (hf : ∀ i, i < n → ∀ w1, Below w.heap.size w w1 → Calls Try.prog 74 #[.int .i64 i, .pointer pa, .pointer pb] w1 fun e w' => e = .returned (.bool (q i)) ∧ Below w1.heap.size w1 w')
    (hmono : ∀ a b, a ≤ b → b < n → q a = true → q b = true) :
    Calls Try.prog 73 #[.int .i64 n, .func (.func 74) #[] #[.pointer pa, .pointer pb]] w fun e w' => (∃ r : Nat, e = .returned (.int .i64 r) ∧ r ≤ n ∧ (∀ t, t < r → q t = false) ∧ (∀ t, r ≤ t → t < n → q t = true)) ∧ Below w.heap.size w w' := by
  have HF := Lib.hid hf
  have HM := Lib.hid hmono
  clear hf hmono
  go_enter Try.func73, Try.ntmps73
  go_wp2_with fail
  go_loopw [5, 6] (fun i j wr => ∃ lo hi : Nat, i = .int .i64 lo ∧ j = .int .i64 hi ∧ lo ≤ hi ∧ hi ≤ n ∧ Below w.heap.size w wr ∧ Hid ((∀ t, t < lo → q t = false) ∧ (∀ t, hi ≤ t → t < n → q t = true))) (fun i j _ => (intOf j - intOf i).toNat)
  case atStart => exact ⟨0, n, rfl, rfl, Nat.zero_le _, Nat.le_refl _, Below.refl _ _, Lib.hid ⟨fun t h => by omega, fun t h g => by omega⟩⟩
  case round =>
    obtain ⟨lo, hi, rfl, rfl, hlh, hhn, hb, HI⟩ := hrel
    have HB := Lib.hid hb
    clear hb
    by_cases hlt : lo < hi
    · obtain ⟨m, hm⟩ : ∃ m, (lo + hi) / 2 = m := ⟨_, rfl⟩
      have hm1 : ((lo : Int) + (hi : Int)) / 2 = (m : Int) := by omega
      have hm2 : lo ≤ m ∧ m < hi := by omega
      have J := Lib.hid (HF.out m (by omega) wr HB.out)
      clear hm
      obtain ⟨hm3, hm4⟩ := hm2
      cases hq : q m with
      | false =>
        rw [hq] at J
        have HQ := Lib.hid hq
        clear hq
        go_wp2_with fail
        refine J.out.mono ?_
        rintro e w1 ⟨rfl, hb1⟩
        have HB1 := Lib.hid (eb_of HB.out hb1 (Nat.le_refl _))
        clear hb1
        go_wp2_with fail
        go_roundw
        case rel =>
          refine ⟨m + 1, hi, by go_num, rfl, by omega, hhn, HB1.out, Lib.hid ⟨fun t ht => ?_, HI.out.2⟩⟩
          cases h : q t with
          | false => rfl
          | true => have := HM.out t m (by omega) (by omega) h; rw [HQ.out] at this; cases this
        case measure => simp [intOf]; omega
      | true =>
        rw [hq] at J
        have HQ := Lib.hid hq
        clear hq
        go_wp2_with fail
        refine J.out.mono ?_
        rintro e w1 ⟨rfl, hb1⟩
        have HB1 := Lib.hid (eb_of HB.out hb1 (Nat.le_refl _))
        clear hb1
        go_wp2_with fail
        go_roundw
        case rel => exact ⟨lo, m, rfl, by go_num, by omega, by omega, HB1.out, Lib.hid ⟨HI.out.1, fun t ht htn => HM.out m t ht htn HQ.out⟩⟩
        case measure => simp [intOf]; omega
    · have he : lo = hi := by omega
      subst he
      go_wp2_with fail
      go_ret
      exact ⟨⟨lo, rfl, hhn, HI.out.1, HI.out.2⟩, HB.out⟩
set_option maxRecDepth 100000 in
set_option maxHeartbeats 2000000 in
theorem Search_E (n : Nat) (q : Nat → Bool) (pa pb : Option Addr) (w : World) (hn : n ≤ 4294967295)
    (hf : ∀ i, i < n → ∀ w1, Below w.heap.size w w1 → Calls Try.prog 75 #[.int .i64 i, .pointer pa, .pointer pb] w1 fun e w' => e = .returned (.bool (q i)) ∧ Below w1.heap.size w1 w')
    (hmono : ∀ a b, a ≤ b → b < n → q a = true → q b = true) :
    Calls Try.prog 73 #[.int .i64 n, .func (.func 75) #[] #[.pointer pa, .pointer pb]] w fun e w' => (∃ r : Nat, e = .returned (.int .i64 r) ∧ r ≤ n ∧ (∀ t, t < r → q t = false) ∧ (∀ t, r ≤ t → t < n → q t = true)) ∧ Below w.heap.size w w' := by
  have HF := Lib.hid hf
  have HM := Lib.hid hmono
  clear hf hmono
  go_enter Try.func73, Try.ntmps73
  go_wp2_with fail
  go_loopw [5, 6] (fun i j wr => ∃ lo hi : Nat, i = .int .i64 lo ∧ j = .int .i64 hi ∧ lo ≤ hi ∧ hi ≤ n ∧ Below w.heap.size w wr ∧ Hid ((∀ t, t < lo → q t = false) ∧ (∀ t, hi ≤ t → t < n → q t = true))) (fun i j _ => (intOf j - intOf i).toNat)
  case atStart => exact ⟨0, n, rfl, rfl, Nat.zero_le _, Nat.le_refl _, Below.refl _ _, Lib.hid ⟨fun t h => by omega, fun t h g => by omega⟩⟩
  case round =>
    obtain ⟨lo, hi, rfl, rfl, hlh, hhn, hb, HI⟩ := hrel
    have HB := Lib.hid hb
    clear hb
    by_cases hlt : lo < hi
    · obtain ⟨m, hm⟩ : ∃ m, (lo + hi) / 2 = m := ⟨_, rfl⟩
      have hm1 : ((lo : Int) + (hi : Int)) / 2 = (m : Int) := by omega
      have hm2 : lo ≤ m ∧ m < hi := by omega
      have J := Lib.hid (HF.out m (by omega) wr HB.out)
      clear hm
      obtain ⟨hm3, hm4⟩ := hm2
      cases hq : q m with
      | false =>
        rw [hq] at J
        have HQ := Lib.hid hq
        clear hq
        go_wp2_with fail
        refine J.out.mono ?_
        rintro e w1 ⟨rfl, hb1⟩
        have HB1 := Lib.hid (eb_of HB.out hb1 (Nat.le_refl _))
        clear hb1
        go_wp2_with fail
        go_roundw
        case rel =>
          refine ⟨m + 1, hi, by go_num, rfl, by omega, hhn, HB1.out, Lib.hid ⟨fun t ht => ?_, HI.out.2⟩⟩
          cases h : q t with
          | false => rfl
          | true => have := HM.out t m (by omega) (by omega) h; rw [HQ.out] at this; cases this
        case measure => simp [intOf]; omega
      | true =>
        rw [hq] at J
        have HQ := Lib.hid hq
        clear hq
        go_wp2_with fail
        refine J.out.mono ?_
        rintro e w1 ⟨rfl, hb1⟩
        have HB1 := Lib.hid (eb_of HB.out hb1 (Nat.le_refl _))
        clear hb1
        go_wp2_with fail
        go_roundw
        case rel => exact ⟨lo, m, rfl, by go_num, by omega, by omega, HB1.out, Lib.hid ⟨HI.out.1, fun t ht htn => HM.out m t ht htn HQ.out⟩⟩
        case measure => simp [intOf]; omega
    · have he : lo = hi := by omega
      subst he
      go_wp2_with fail
      go_ret
      exact ⟨⟨lo, rfl, hhn, HI.out.1, HI.out.2⟩, HB.out⟩
theorem blockOf1_any (m key : ByteArray) (kb : Nat) (w : World) (hk : w.cell? ⟨kb, 0, none⟩ = some (.string key)) (h1 : m.size ≤ 32) (h2 : key.size ≤ 32) :
    Calls Try.prog 70 #[.string m, .pointer (some ⟨kb, 0, none⟩)] w fun e w' => e = .returned (.bool (!ltK key m)) ∧ Below w.heap.size w w' := by
  have J := Lib.hid (fun w => less_any key m w h2 h1)
  clear h1 h2
  generalize ltK key m = r at *
  go_enter Try.func70, Try.ntmps70
  go_wp2_with fail
  refine (J.out _).mono ?_
  rintro e w1 ⟨rfl, hb⟩
  have HB := Lib.hid hb
  clear hb
  go_wp2_with fail
  go_ret
  exact ⟨retB (by first | rfl | simp), HB.out⟩
theorem Blocks1_any (m high : ByteArray) (rb : Nat) (w : World) (hk : w.cell? ⟨rb, 1, none⟩ = some (.string high)) (h1 : m.size ≤ 32) (h2 : high.size ≤ 32) :
    Calls Try.prog 53 #[.string m, .pointer (some ⟨rb, 0, none⟩)] w fun e w' => e = .returned (.bool (ltK m high)) ∧ Below w.heap.size w w' := by
  have J := Lib.hid (fun w => less_any m high w h1 h2)
  clear h1 h2
  generalize ltK m high = r at *
  go_enter Try.func53, Try.ntmps53
  go_wp2_with fail
  refine (J.out _).mono ?_
  rintro e w1 ⟨rfl, hb⟩
  have HB := Lib.hid hb
  clear hb
  go_wp2_with fail
  go_ret
  exact ⟨retB (by first | rfl | simp), HB.out⟩
theorem Find1_any (k v : ByteArray) (d : Bool) (z : Int) (key : ByteArray) (kb : Nat) (w : World) (hk : w.cell? ⟨kb, 0, none⟩ = some (.string key)) (h1 : k.size ≤ 32) (h2 : key.size ≤ 32) :
    Calls Try.prog 57 #[.agg #[.string k, .string v, .bool d, .int .i64 z], .pointer (some ⟨kb, 0, none⟩)] w fun e w' => e = .returned (.bool (ltK k key)) ∧ Below w.heap.size w w' := by
  have hk' := Lib.cell?_alloc_some (.cells #[.string k, .string v, .bool d, .int .i64 z] 50) hk
  have HB := Lib.hid ((Below.refl w.heap.size w).alloc (Nat.le_refl _) (.cells #[.string k, .string v, .bool d, .int .i64 z] 50))
  have J := Lib.hid (fun w => less_any k key w h1 h2)
  clear h1 h2
  generalize ltK k key = r at *
  go_enter Try.func57, Try.ntmps57
  go_wp2_with fail
  refine (J.out _).mono ?_
  rintro e w1 ⟨rfl, hb⟩
  have HB1 := Lib.hid (eb_of HB.out hb (by simp))
  clear hb
  go_wp2_with fail
  go_ret
  exact ⟨retB (by first | rfl | simp), HB1.out⟩
set_option maxRecDepth 100000 in
set_option maxHeartbeats 2000000 in
theorem lead1_blk (A : Option Addr) (c : Nat) (ms : List ByteArray) (key : ByteArray) (lb fb kb i : Nat) (w : World) (hf : SsAt w A ms) (hl : w.cell? ⟨lb, 0, none⟩ = some (.slice A ms.length c)) (hlb : lb < w.heap.size)
    (hfn : w.cell? ⟨fb, 0, none⟩ = some (.func (.func 70) #[] #[.pointer (some ⟨kb, 0, none⟩)])) (hfb : fb < w.heap.size) (hk : w.cell? ⟨kb, 0, none⟩ = some (.string key)) (hkb : kb < w.heap.size)
    (hi : i < ms.length) (hn : ms.length ≤ 4294967295) (h1 : ∀ m ∈ ms, m.size ≤ 32) (h2 : key.size ≤ 32) :
    Calls Try.prog 74 #[.int .i64 i, .pointer (some ⟨fb, 0, none⟩), .pointer (some ⟨lb, 0, none⟩)] w fun e w' => e = .returned (.bool (!(!ltK key ms[i]))) ∧ Below w.heap.size w w' := by
  rcases hf with h0 | ⟨b, off, rfl, hbl, hc⟩
  · subst h0; simp at hi
  have g0 := abv_cell hbl (hc i hi)
  have hz := h1 _ (List.getElem_mem hi)
  have z0 := abv_cell hlb hl
  have z1 := abv_cell hfb hfn
  have J : Hid (∀ p : Abv w, Calls Try.prog 70 #[.string ms[i], .pointer (some ⟨kb, 0, none⟩)] p.world fun e w' => e = .returned (.bool ((!ltK key ms[i]))) ∧ Below p.world.heap.size p.world w') := Lib.hid (fun p => blockOf1_any ms[i] key kb p.world (abv_cell hkb hk p) hz h2)
  clear hc h1 h2 hz hl hfn hk
  generalize ms[i] = m at *
  generalize (!ltK key m) = r at *
  go_enter Try.func74, Try.ntmps74
  go_wp2_with fail
  refine wp_region_abv (by first | assumption | kernel_rfl) (by kernel_rfl) ?_
  repeat (first | go_big_quiet_step (exact callAbv (J.out _)) | quiet_step (exact callAbv (J.out _)))
  refine wpQuiet_nil ?_
  intro w2 hw2
  obtain ⟨p, rfl⟩ := hw2
  go_wp2_with fail
  go_ret
  exact ⟨retB (by first | rfl | simp), p.h⟩
set_option maxRecDepth 100000 in
set_option maxHeartbeats 2000000 in
theorem lead1_rng (A : Option Addr) (c : Nat) (ms : List ByteArray) (key : ByteArray) (lb fb kb i : Nat) (w : World) (hf : SsAt w A ms) (hl : w.cell? ⟨lb, 0, none⟩ = some (.slice A ms.length c)) (hlb : lb < w.heap.size)
    (hfn : w.cell? ⟨fb, 0, none⟩ = some (.func (.func 53) #[] #[.pointer (some ⟨kb, 0, none⟩)])) (hfb : fb < w.heap.size) (hk : w.cell? ⟨kb, 1, none⟩ = some (.string key)) (hkb : kb < w.heap.size)
    (hi : i < ms.length) (hn : ms.length ≤ 4294967295) (h1 : ∀ m ∈ ms, m.size ≤ 32) (h2 : key.size ≤ 32) :
    Calls Try.prog 74 #[.int .i64 i, .pointer (some ⟨fb, 0, none⟩), .pointer (some ⟨lb, 0, none⟩)] w fun e w' => e = .returned (.bool (!(ltK ms[i] key))) ∧ Below w.heap.size w w' := by
  rcases hf with h0 | ⟨b, off, rfl, hbl, hc⟩
  · subst h0; simp at hi
  have g0 := abv_cell hbl (hc i hi)
  have hz := h1 _ (List.getElem_mem hi)
  have z0 := abv_cell hlb hl
  have z1 := abv_cell hfb hfn
  have J : Hid (∀ p : Abv w, Calls Try.prog 53 #[.string ms[i], .pointer (some ⟨kb, 0, none⟩)] p.world fun e w' => e = .returned (.bool ((ltK ms[i] key))) ∧ Below p.world.heap.size p.world w') := Lib.hid (fun p => Blocks1_any ms[i] key kb p.world (abv_cell hkb hk p) hz h2)
  clear hc h1 h2 hz hl hfn hk
  generalize ms[i] = m at *
  generalize (ltK m key) = r at *
  go_enter Try.func74, Try.ntmps74
  go_wp2_with fail
  refine wp_region_abv (by first | assumption | kernel_rfl) (by kernel_rfl) ?_
  repeat (first | go_big_quiet_step (exact callAbv (J.out _)) | quiet_step (exact callAbv (J.out _)))
  refine wpQuiet_nil ?_
  intro w2 hw2
  obtain ⟨p, rfl⟩ := hw2
  go_wp2_with fail
  go_ret
  exact ⟨retB (by first | rfl | simp), p.h⟩
set_option maxRecDepth 100000 in
set_option maxHeartbeats 2000000 in
theorem lead_blk (A : Option Addr) (c : Nat) (ms : List ByteArray) (key : ByteArray) (kb : Nat) (w : World) (hf : SsAt w A ms) (hk : w.cell? ⟨kb, 0, none⟩ = some (.string key)) (hkb : kb < w.heap.size)
    (hn : ms.length ≤ 4294967295) (h1 : ∀ m ∈ ms, m.size ≤ 32) (h2 : key.size ≤ 32) (hasc : ms.Pairwise (fun a b => ltK a b = true)) :
    Calls Try.prog 52 #[.slice A ms.length c, .func (.func 70) #[] #[.pointer (some ⟨kb, 0, none⟩)]] w fun e w' => e = .returned (.int .i64 (upN ms key)) ∧ Below w.heap.size w w' := by
  have HBX := Lib.hid (((Below.refl w.heap.size w).alloc (Nat.le_refl _) (.cells #[.slice A ms.length c] 23)).alloc (by simp) (.cells #[.func (.func 70) #[] #[.pointer (some ⟨kb, 0, none⟩)]] 77))
  have hl : ((w.alloc (.cells #[.slice A ms.length c] 23)).alloc (.cells #[.func (.func 70) #[] #[.pointer (some ⟨kb, 0, none⟩)]] 77)).cell? ⟨w.heap.size, 0, none⟩ = some (.slice A ms.length c) := Lib.cell?_alloc_some _ (str_box _ _ w)
  have hfn : ((w.alloc (.cells #[.slice A ms.length c] 23)).alloc (.cells #[.func (.func 70) #[] #[.pointer (some ⟨kb, 0, none⟩)]] 77)).cell? ⟨w.heap.size + 1, 0, none⟩ = some (.func (.func 70) #[] #[.pointer (some ⟨kb, 0, none⟩)]) := by
    simp
  have hk' := (HBX.out.cell (p := ⟨kb, 0, none⟩) hkb).trans hk
  have J := Lib.hid (Search_S ms.length (fun i => if h : i < ms.length then !(!ltK key ms[i]) else true) (some ⟨w.heap.size + 1, 0, none⟩) (some ⟨w.heap.size, 0, none⟩) ((w.alloc (.cells #[.slice A ms.length c] 23)).alloc (.cells #[.func (.func 70) #[] #[.pointer (some ⟨kb, 0, none⟩)]] 77)) hn
    (fun i hi w1 hb => by
      have hs := hb.size
      simp at hs
      have K := lead1_blk A c ms key w.heap.size (w.heap.size + 1) kb i w1 ((hf.below HBX.out (Nat.le_refl _)).below hb (Nat.le_refl _)) ((hb.cell (p := ⟨w.heap.size, 0, none⟩) (by simp; omega)).trans hl) (by omega) ((hb.cell (p := ⟨w.heap.size + 1, 0, none⟩) (by simp)).trans hfn) (by omega) ((hb.cell (p := ⟨kb, 0, none⟩) (by simp; omega)).trans hk') (by omega) hi hn h1 h2
      rw [dif_pos hi]; exact K)
    (fun a b hab hb h => by
      have ha : a < ms.length := by omega
      rw [dif_pos ha] at h
      rw [dif_pos hb]
      by_cases e : a = b
      · subst e; exact h
      · have hlt := List.pairwise_iff_getElem.1 hasc a b ha hb (by omega)
        simp only [Bool.not_not] at h ⊢
        exact ltK_trans h hlt))
  have HR : Hid (∀ r : Nat, r ≤ ms.length → (∀ t, t < r → (if h : t < ms.length then !(!ltK key ms[t]) else true) = false) → (∀ t, r ≤ t → t < ms.length → (if h : t < ms.length then !(!ltK key ms[t]) else true) = true) → r = upN ms key) := Lib.hid (fun r hr g1 g2 => by
    symm
    refine count_cut _ ms r hr (fun i hi h => ?_) fun i hi h => ?_
    · have := g1 i h; rw [dif_pos hi] at this; simpa using this
    · have := g2 i h hi; rw [dif_pos hi] at this; simpa using this)
  clear hl hfn hk' hf hk h1 h2 hasc
  go_enter Try.func52, Try.ntmps52
  go_wp2_with fail
  refine J.out.mono ?_
  rintro e w1 ⟨⟨r, rfl, g1, g2, g3⟩, hb⟩
  have HE := Lib.hid (HR.out r g1 g2 g3)
  have HB1 := Lib.hid (HBX.out.trans (hb.mono (by simp; omega)))
  clear g1 g2 g3 hb
  go_wp2_with fail
  go_ret
  exact ⟨retI (by rw [HE.out]), HB1.out⟩
set_option maxRecDepth 100000 in
set_option maxHeartbeats 2000000 in
theorem lead_rng (A : Option Addr) (c : Nat) (ms : List ByteArray) (key : ByteArray) (kb : Nat) (w : World) (hf : SsAt w A ms) (hk : w.cell? ⟨kb, 1, none⟩ = some (.string key)) (hkb : kb < w.heap.size)
    (hn : ms.length ≤ 4294967295) (h1 : ∀ m ∈ ms, m.size ≤ 32) (h2 : key.size ≤ 32) (hasc : ms.Pairwise (fun a b => ltK a b = true)) :
    Calls Try.prog 52 #[.slice A ms.length c, .func (.func 53) #[] #[.pointer (some ⟨kb, 0, none⟩)]] w fun e w' => e = .returned (.int .i64 (lessN ms key)) ∧ Below w.heap.size w w' := by
  have HBX := Lib.hid (((Below.refl w.heap.size w).alloc (Nat.le_refl _) (.cells #[.slice A ms.length c] 23)).alloc (by simp) (.cells #[.func (.func 53) #[] #[.pointer (some ⟨kb, 0, none⟩)]] 77))
  have hl : ((w.alloc (.cells #[.slice A ms.length c] 23)).alloc (.cells #[.func (.func 53) #[] #[.pointer (some ⟨kb, 0, none⟩)]] 77)).cell? ⟨w.heap.size, 0, none⟩ = some (.slice A ms.length c) := Lib.cell?_alloc_some _ (str_box _ _ w)
  have hfn : ((w.alloc (.cells #[.slice A ms.length c] 23)).alloc (.cells #[.func (.func 53) #[] #[.pointer (some ⟨kb, 0, none⟩)]] 77)).cell? ⟨w.heap.size + 1, 0, none⟩ = some (.func (.func 53) #[] #[.pointer (some ⟨kb, 0, none⟩)]) := by
    simp
  have hk' := (HBX.out.cell (p := ⟨kb, 1, none⟩) hkb).trans hk
  have J := Lib.hid (Search_S ms.length (fun i => if h : i < ms.length then !(ltK ms[i] key) else true) (some ⟨w.heap.size + 1, 0, none⟩) (some ⟨w.heap.size, 0, none⟩) ((w.alloc (.cells #[.slice A ms.length c] 23)).alloc (.cells #[.func (.func 53) #[] #[.pointer (some ⟨kb, 0, none⟩)]] 77)) hn
    (fun i hi w1 hb => by
      have hs := hb.size
      simp at hs
      have K := lead1_rng A c ms key w.heap.size (w.heap.size + 1) kb i w1 ((hf.below HBX.out (Nat.le_refl _)).below hb (Nat.le_refl _)) ((hb.cell (p := ⟨w.heap.size, 0, none⟩) (by simp; omega)).trans hl) (by omega) ((hb.cell (p := ⟨w.heap.size + 1, 0, none⟩) (by simp)).trans hfn) (by omega) ((hb.cell (p := ⟨kb, 1, none⟩) (by simp; omega)).trans hk') (by omega) hi hn h1 h2
      rw [dif_pos hi]; exact K)
    (fun a b hab hb h => by
      have ha : a < ms.length := by omega
      rw [dif_pos ha] at h
      rw [dif_pos hb]
      by_cases e : a = b
      · subst e; exact h
      · have hlt := List.pairwise_iff_getElem.1 hasc a b ha hb (by omega)
        rw [Bool.not_eq_true'] at h ⊢
        cases g : ltK ms[b] key with
        | false => rfl
        | true => have := ltK_trans hlt g; rw [h] at this; cases this))
  have HR : Hid (∀ r : Nat, r ≤ ms.length → (∀ t, t < r → (if h : t < ms.length then !(ltK ms[t] key) else true) = false) → (∀ t, r ≤ t → t < ms.length → (if h : t < ms.length then !(ltK ms[t] key) else true) = true) → r = lessN ms key) := Lib.hid (fun r hr g1 g2 => by
    symm
    refine count_cut _ ms r hr (fun i hi h => ?_) fun i hi h => ?_
    · have := g1 i h; rw [dif_pos hi] at this; simpa using this
    · have := g2 i h hi; rw [dif_pos hi] at this; simpa using this)
  clear hl hfn hk' hf hk h1 h2 hasc
  go_enter Try.func52, Try.ntmps52
  go_wp2_with fail
  refine J.out.mono ?_
  rintro e w1 ⟨⟨r, rfl, g1, g2, g3⟩, hb⟩
  have HE := Lib.hid (HR.out r g1 g2 g3)
  have HB1 := Lib.hid (HBX.out.trans (hb.mono (by simp; omega)))
  clear g1 g2 g3 hb
  go_wp2_with fail
  go_ret
  exact ⟨retI (by rw [HE.out]), HB1.out⟩
end Go.Proofs.Ytpgngiegpigfiaa.KK
