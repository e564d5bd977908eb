/-
  Fences: Find of the program.
-/
import Derived.Test.YtpgngiegpigfiaaFm
namespace Go.Proofs.Ytpgngiegpigfiaa.KK
open Go.ChangeShapes Go.WideShapes Go.ChangeAt Go.RowKit Go.Proofs

set_option maxRecDepth 100000 in
set_option maxHeartbeats 2000000 in
theorem lead1_ent (A : Option Addr) (c : Nat) (xs : List El.En) (key : ByteArray) (lb fb kb i : Nat) (w : World) (hf : EsAt w A xs) (hl : w.cell? ⟨lb, 0, none⟩ = some (.slice A xs.length c)) (hlb : lb < w.heap.size)
    (hfn : w.cell? ⟨fb, 0, none⟩ = some (.func (.func 57) #[] #[.pointer (some ⟨kb, 0, none⟩)])) (hfb : fb < w.heap.size) (hk : w.cell? ⟨kb, 0, none⟩ = some (.string key)) (hkb : kb < w.heap.size)
    (hi : i < xs.length) (hn : xs.length ≤ 4294967295) (h1 : ∀ x ∈ xs, x.1.size ≤ 32) (h2 : key.size ≤ 32) :
    Calls Try.prog 75 #[.int .i64 i, .pointer (some ⟨fb, 0, none⟩), .pointer (some ⟨lb, 0, none⟩)] w fun e w' => e = .returned (.bool (!(ltK xs[i].1 key))) ∧ Below w.heap.size w w' := by
  rcases hf with h0 | ⟨b, off, rfl, hbl, hc⟩
  · subst h0; simp at hi
  obtain ⟨g0, g1, g2, g3⟩ := hc i hi
  have g0 := abv_cell hbl g0
  have g1 := abv_cell hbl g1
  have g2 := abv_cell hbl g2
  have g3 := abv_cell hbl g3
  have hz := h1 _ (List.getElem_mem hi)
  have z0 := abv_cell hlb hl
  have z1 := abv_cell hfb hfn
  have J : Hid (∀ p : Abv w, Calls Try.prog 57 #[.agg #[.string xs[i].1, .string xs[i].2.1, .bool xs[i].2.2.1, .int .i64 xs[i].2.2.2], .pointer (some ⟨kb, 0, none⟩)] p.world fun e w' => e = .returned (.bool (ltK xs[i].1 key)) ∧ Below p.world.heap.size p.world w') := Lib.hid (fun p => Find1_any xs[i].1 xs[i].2.1 xs[i].2.2.1 xs[i].2.2.2 key kb p.world (abv_cell hkb hk p) hz h2)
  clear hc h1 h2 hz hl hfn hk
  generalize xs[i] = m at *
  obtain ⟨k, v, d, z⟩ := m
  generalize ltK k key = r at *
  go_enter Try.func75, Try.ntmps75
  go_wp2_with fail
  refine wp_region_abv (by first | assumption | kernel_rfl) (by kernel_rfl) ?_
  repeat (first | go_big_quiet_step (exact callAbv (J.out _)) | quiet_step (exact callAbv (J.out _)))
  refine wpQuiet_nil ?_
  intro w2 hw2
  obtain ⟨p, rfl⟩ := hw2
  go_wp2_with fail
  go_ret
  exact ⟨retB (by first | rfl | simp), p.h⟩
set_option maxRecDepth 100000 in
set_option maxHeartbeats 2000000 in
theorem lead_ent (A : Option Addr) (c : Nat) (xs : List El.En) (key : ByteArray) (kb : Nat) (w : World) (hf : EsAt w A xs) (hk : w.cell? ⟨kb, 0, none⟩ = some (.string key)) (hkb : kb < w.heap.size)
    (hn : xs.length ≤ 4294967295) (h1 : ∀ m ∈ xs, m.1.size ≤ 32) (h2 : key.size ≤ 32) (hasc : SK xs) :
    Calls Try.prog 56 #[.slice A xs.length c, .func (.func 57) #[] #[.pointer (some ⟨kb, 0, none⟩)]] w fun e w' => e = .returned (.int .i64 (inN xs key)) ∧ Below w.heap.size w w' := by
  have HBX := Lib.hid (((Below.refl w.heap.size w).alloc (Nat.le_refl _) (.cells #[.slice A xs.length c] 22)).alloc (by simp) (.cells #[.func (.func 57) #[] #[.pointer (some ⟨kb, 0, none⟩)]] 81))
  have hl : ((w.alloc (.cells #[.slice A xs.length c] 22)).alloc (.cells #[.func (.func 57) #[] #[.pointer (some ⟨kb, 0, none⟩)]] 81)).cell? ⟨w.heap.size, 0, none⟩ = some (.slice A xs.length c) := Lib.cell?_alloc_some _ (str_box _ _ w)
  have hfn : ((w.alloc (.cells #[.slice A xs.length c] 22)).alloc (.cells #[.func (.func 57) #[] #[.pointer (some ⟨kb, 0, none⟩)]] 81)).cell? ⟨w.heap.size + 1, 0, none⟩ = some (.func (.func 57) #[] #[.pointer (some ⟨kb, 0, none⟩)]) := by
    simp
  have hk' := (HBX.out.cell (p := ⟨kb, 0, none⟩) hkb).trans hk
  have J := Lib.hid (Search_E xs.length (fun i => if h : i < xs.length then !(ltK xs[i].1 key) else true) (some ⟨w.heap.size + 1, 0, none⟩) (some ⟨w.heap.size, 0, none⟩) ((w.alloc (.cells #[.slice A xs.length c] 22)).alloc (.cells #[.func (.func 57) #[] #[.pointer (some ⟨kb, 0, none⟩)]] 81)) hn
    (fun i hi w1 hb => by
      have hs := hb.size
      simp at hs
      have K := lead1_ent A c xs key w.heap.size (w.heap.size + 1) kb i w1 ((hf.below HBX.out (Nat.le_refl _)).below hb (Nat.le_refl _)) ((hb.cell (p := ⟨w.heap.size, 0, none⟩) (by simp; omega)).trans hl) (by omega) ((hb.cell (p := ⟨w.heap.size + 1, 0, none⟩) (by simp)).trans hfn) (by omega) ((hb.cell (p := ⟨kb, 0, none⟩) (by simp; omega)).trans hk') (by omega) hi hn h1 h2
      rw [dif_pos hi]; exact K)
    (fun a b hab hb h => by
      have ha : a < xs.length := by omega
      rw [dif_pos ha] at h
      rw [dif_pos hb]
      by_cases e : a = b
      · subst e; exact h
      · have hlt := List.pairwise_iff_getElem.1 hasc a b ha hb (by omega)
        rw [Bool.not_eq_true'] at h ⊢
        cases g : ltK xs[b].1 key with
        | false => rfl
        | true => have := ltK_trans hlt g; rw [h] at this; cases this))
  have HR : Hid (∀ r : Nat, r ≤ xs.length → (∀ t, t < r → (if h : t < xs.length then !(ltK xs[t].1 key) else true) = false) → (∀ t, r ≤ t → t < xs.length → (if h : t < xs.length then !(ltK xs[t].1 key) else true) = true) → r = inN xs key) := Lib.hid (fun r hr g1 g2 => by
    symm
    refine count_cut _ xs r hr (fun i hi h => ?_) fun i hi h => ?_
    · have := g1 i h; rw [dif_pos hi] at this; simpa using this
    · have := g2 i h hi; rw [dif_pos hi] at this; simpa using this)
  clear hl hfn hk' hf hk h1 h2 hasc
  go_enter Try.func56, Try.ntmps56
  go_wp2_with fail
  refine J.out.mono ?_
  rintro e w1 ⟨⟨r, rfl, g1, g2, g3⟩, hb⟩
  have HE := Lib.hid (HR.out r g1 g2 g3)
  have HB1 := Lib.hid (HBX.out.trans (hb.mono (by simp; omega)))
  clear g1 g2 g3 hb
  go_wp2_with fail
  go_ret
  exact ⟨retI (by rw [HE.out]), HB1.out⟩
theorem sub_sk {xs : List El.En} (h : SK xs) (a b : Nat) : SK ((xs.drop a).take b) := (List.Pairwise.drop h).take
theorem sub_key {xs : List El.En} (h : ∀ x ∈ xs, x.1.size ≤ 32) (a b : Nat) : ∀ x ∈ (xs.drop a).take b, x.1.size ≤ 32 := fun x hx => h x (List.mem_of_mem_drop (List.mem_of_mem_take hx))
def findF (s : Int) (ms : List ByteArray) (xs : List El.En) (key : ByteArray) : Int × Int :=
  if bothE s ms xs ≠ 0 then (0, bothE s ms xs) else if 32 < key.size then (0, 3) else if fitsF s.toNat ms xs = false then (0, 6) else if atE key 0 xs < 0 then (0, 4) else (atE key 0 xs, 0)
theorem findF_no {s : Int} {ms : List ByteArray} {xs : List El.En} {key : ByteArray} (h : bothE s ms xs ≠ 0) : findF s ms xs key = (0, bothE s ms xs) := if_pos h
theorem findF_long {s : Int} {ms : List ByteArray} {xs : List El.En} {key : ByteArray} (h : bothE s ms xs = 0) (g : ¬ key.size ≤ 32) : findF s ms xs key = (0, 3) := by
  unfold findF; rw [if_neg (by rw [h]; simp), if_pos (by omega)]
theorem findF_form {st : Nat} {ms : List ByteArray} {xs : List El.En} {key : ByteArray} (h : bothE st ms xs = 0) (g : key.size ≤ 32) (k : fitsF st ms xs = false) : findF st ms xs key = (0, 6) := by
  unfold findF; rw [if_neg (by rw [h]; simp), if_neg (by omega), if_pos (by rw [show ((st : Nat) : Int).toNat = st by omega]; exact k)]
theorem findF_ok {st : Nat} {ms : List ByteArray} {xs : List El.En} {key : ByteArray} (h : bothE st ms xs = 0) (g : key.size ≤ 32) (k : fitsF st ms xs = true) : findF st ms xs key = if atE key 0 xs < 0 then (0, 4) else (atE key 0 xs, 0) := by
  unfold findF; rw [if_neg (by rw [h]; simp), if_neg (by omega), if_neg (by rw [show ((st : Nat) : Int).toNat = st by omega, k]; simp)]
theorem EsAt.key0 {w : World} {A : Option Addr} {xs : List El.En} (h : EsAt w A xs) {i : Nat} (hi : i < xs.length) : ∃ b off, A = some ⟨b, off, none⟩ ∧ b < w.heap.size ∧ w.cell? ⟨b, off + i * 4, none⟩ = some (.string xs[i].1) := by
  rcases h with h | ⟨b, off, hA, hlt, hc⟩
  · subst h; simp at hi
  · exact ⟨b, off, hA, hlt, (hc i hi).1⟩
/-- the block of a key: in memory -/
theorem part_any (A : Option Addr) (c : Nat) (ms : List ByteArray) (xs : List El.En) (st : Nat) (key : ByteArray) (w : World) (hf : EsAt w A xs) (hn : xs.length ≤ 5000) (hc : xs.length ≤ c) (hA : A = none → c = 0) (h64 : st ≤ 64) (h1 : 1 ≤ st) (hlen : ms.length = mk xs.length st) :
    Calls Try.prog 55 #[.slice A xs.length c, .int .i64 st, .int .i64 (upN ms key : Nat)] w fun e w' => (∃ A', e = .returned (.slice A' (partE st ms xs key).length (partE st ms xs key).length) ∧ EsAt w' A' (partE st ms xs key)) ∧ w = w' := by
  obtain ⟨p1, p2⟩ := part_len (key := key) h1 hlen
  have hup : upN ms key ≤ mk xs.length st := by rw [← hlen]; exact upN_le ms key
  have hmk : mk xs.length st ≤ xs.length := mk_le
  by_cases h0 : xs.length = 0
  · obtain rfl : xs = [] := List.eq_nil_of_length_eq_zero h0
    have e1 : mk ([] : List El.En).length st = 0 := by simp [mk]
    have e0 : upN ms key = 0 := by rw [e1] at hup; omega
    have hp : partE st ms [] key = [] := by simp [partE]
    rw [hp, e0]
    exact (block_nil A c st w hA h64).mono fun e w' ⟨⟨A', he⟩, hw⟩ => ⟨⟨A', he, .inl rfl⟩, hw⟩
  · have hlt : upN ms key * st < xs.length := by
      by_cases e : upN ms key = 0
      · rw [e]; omega
      · obtain ⟨q, hq⟩ : ∃ q, upN ms key = q + 1 := ⟨upN ms key - 1, by omega⟩
        rw [hq]; exact mk_idx h1 (by omega)
    rw [p2]
    exact block_any A c xs st (upN ms key) w hf (by omega) hc h64 (by omega) h1 hlt
set_option maxRecDepth 100000 in
set_option maxHeartbeats 4000000 in
theorem pFind7_any (s : Int) (A : Option Addr) (c : Nat) (ms : List ByteArray) (B : Option Addr) (d : Nat) (xs : List El.En) (key : ByteArray) (w : World) (hf : SsAt w A ms) (hg : EsAt w B xs) (hn : ms.length ≤ 4294967295) (hm : xs.length ≤ 4294967295) (hs : SizedS ms) (ht : Sized xs) (hcap : xs.length ≤ d) (hnil : B = none → d = 0) (hz : key.size ≤ 9223372036854775807) :
    Calls Try.prog 26 #[.agg #[.int .i64 s, .slice A ms.length c], .slice B xs.length d, .string key] w fun e w' => e = .returned (.tuple #[.int .i64 (findF s ms xs key).1, .int .i64 (findF s ms xs key).2]) ∧ Below w.heap.size w w' := by
  have HX := boxF s A ms.length c w
  have HY : Hid (∀ w', Below ((w.alloc (.cells #[.int .i64 s, .slice A ms.length c] 25)).alloc (.cells #[.string key] 9)).heap.size ((w.alloc (.cells #[.int .i64 s, .slice A ms.length c] 25)).alloc (.cells #[.string key] 9)) w' →
      w'.cell? ⟨w.heap.size, 0, none⟩ = some (.int .i64 s) ∧ w'.cell? ⟨w.heap.size, 1, none⟩ = some (.slice A ms.length c) ∧ w'.cell? ⟨w.heap.size + 1, 0, none⟩ = some (.string key) ∧ w.heap.size + 1 < w'.heap.size ∧ Below w.heap.size w w') := Lib.hid fun w' h => by
    have h1 : Below (w.alloc (.cells #[.int .i64 s, .slice A ms.length c] 25)).heap.size (w.alloc (.cells #[.int .i64 s, .slice A ms.length c] 25)) w' := ((Below.refl _ _).alloc (Nat.le_refl _) _).trans (h.mono (by simp))
    obtain ⟨x0, x1, x2, x3⟩ := HX.out _ h1
    exact ⟨x0, x1, (h.cell (p := ⟨w.heap.size + 1, 0, none⟩) (by simp)).trans (by simp), by have := h.size; simp at this; omega, x3⟩
  obtain ⟨x0, x1, x2, x3, x4⟩ := HY.out _ (Below.refl _ _)
  have HB := Lib.hid x4
  have J1 := Lib.hid (fun w1 (h : Below w.heap.size w w1) => checkBoth7_any s A c ms B d xs w1 (hf.below h (Nat.le_refl _)) (hg.below h (Nat.le_refl _)) hn hm hs ht)
  have JK := Lib.hid (fun w => kCheck_any key w hz)
  clear x3 x4
  by_cases h : bothE s ms xs = 0
  rotate_left
  · have HL := Lib.hid (findF_no (key := key) h)
    obtain ⟨b1, b2⟩ := ne_b h
    clear hf hg hs ht h
    generalize bothE s ms xs = r at *
    go_enter Try.func26, Try.ntmps26
    go_wp2_with fail
    refine (J1.out _ HB.out).mono ?_
    rintro e w1 ⟨rfl, hb⟩
    have HB1 := Lib.hid (eb_of HB.out hb (by simp; try omega))
    clear hb
    go_wp2_with fail
    go_ret2
    exact ⟨retZ HL.out, HB1.out⟩
  rw [h] at J1
  by_cases hk : key.size ≤ 32
  rotate_left
  · have HL := Lib.hid (findF_long h hk)
    rw [chk1_no hk] at JK
    clear hf hg hs ht h hk
    go_enter Try.func26, Try.ntmps26
    go_wp2_with fail
    refine (J1.out _ HB.out).mono ?_
    rintro e w1 ⟨rfl, hb⟩
    obtain ⟨y0, y1, y2, y3, y4⟩ := HY.out _ hb
    have HB1 := Lib.hid y4
    clear hb y4
    go_wp2_with fail
    refine (JK.out _).mono ?_
    rintro e w2 ⟨rfl, rfl⟩
    go_wp2_with fail
    go_ret2
    exact ⟨retZ HL.out, HB1.out⟩
  rw [chk1_ok hk] at JK
  obtain ⟨st, rfl, P⟩ := pair_of h
  have J2 := Lib.hid (fun w1 (h : Below w.heap.size w w1) => pfits_any A c ms B d xs st w1 (hf.below h (Nat.le_refl _)) (hg.below h (Nat.le_refl _)) (by have := P.good.len; omega) P.good.key P.len P.key hcap P.hi P.lo)
  cases hft : fitsF st ms xs with
  | false =>
    have HL := Lib.hid (findF_form h hk hft)
    rw [hft] at J2
    clear hf hg hs ht h hk P hft
    go_enter Try.func26, Try.ntmps26
    go_wp2_with fail
    refine (J1.out _ HB.out).mono ?_
    rintro e w1 ⟨rfl, hb⟩
    obtain ⟨y0, y1, y2, y3, y4⟩ := HY.out _ hb
    have HB1 := Lib.hid y4
    clear hb y4
    go_wp2_with fail
    refine (JK.out _).mono ?_
    rintro e w2 ⟨rfl, rfl⟩
    go_wp2_with fail
    refine (J2.out _ HB1.out).mono ?_
    rintro e w3 ⟨rfl, hb⟩
    have HB2 := Lib.hid (eb_of HB1.out hb (Nat.le_refl _))
    clear hb
    go_wp2_with fail
    go_ret2
    exact ⟨retZ HL.out, HB2.out⟩
  | true =>
    have HL := Lib.hid (findF_ok h hk hft)
    rw [hft] at J2
    have hsp := find_is P.lo P.asc hft key
    have J3 := Lib.hid (fun w1 (h : Below w.heap.size w w1) => blockOf_any st A c ms key w1 (hf.below h (Nat.le_refl _)) hn P.good.key hk P.good.asc)
    have J4 := Lib.hid (fun w1 (h : Below w.heap.size w w1) => part_any B d ms xs st key w1 (hg.below h (Nat.le_refl _)) P.len hcap hnil P.hi P.lo (fits_len hft))
    have hpl : (partE st ms xs key).length ≤ 5000 := by have := (part_len (key := key) P.lo (fits_len hft)).2; have := P.len; omega
    have J5 := Lib.hid (fun A' w1 (hE : EsAt w1 A' (partE st ms xs key)) (hkc : w1.cell? ⟨w.heap.size + 1, 0, none⟩ = some (.string key)) (hkb : w.heap.size + 1 < w1.heap.size) => lead_ent A' (partE st ms xs key).length (partE st ms xs key) key (w.heap.size + 1) w1 hE hkc hkb (by omega) (sub_key P.key _ _) hk (sub_sk P.asc _ _))
    have hin := inN_le (partE st ms xs key) key
    have hup := upN_le ms key
    have hl5 := P.good.len
    have h64 := P.hi
    have hmul := mul_small (show upN ms key ≤ 100000 by omega) h64
    have hmc : ((upN ms key : Nat) : Int) * (st : Int) = ((upN ms key * st : Nat) : Int) := by simp
    have hw : IntKind.i64.wrap (((upN ms key : Nat) : Int) * (st : Int)) = ((upN ms key * st : Nat) : Int) := by rw [hmc, IntKind.wrap_i64]; omega
    clear hmc
    clear hf hg hs ht h hk P hft
    generalize partE st ms xs key = pt at *
    rcases hsp with ⟨hi, he, ha⟩ | ⟨ha, hne⟩
    · have HA : Hid (atE key 0 xs = ((upN ms key * st + inN pt key : Nat) : Int)) := Lib.hid ha
      have HK : Hid (∀ A' w1, EsAt w1 A' pt → ∃ b off, A' = some ⟨b, off, none⟩ ∧ b < w1.heap.size ∧ w1.cell? ⟨b, off + inN pt key * 4, none⟩ = some (.string key)) := Lib.hid (fun A' w1 hE => by
        have := hE.key0 hi
        rw [he] at this; exact this)
      clear ha he
      generalize pt.length = np at *
      generalize inN pt key = q at *
      generalize upN ms key * st = mu at *
      generalize upN ms key = up at *
      have n1 : ((q : Int) == (np : Int)) = false := by simp; omega
      have n2 : (q : Int) < (np : Int) := by omega
      go_enter Try.func26, Try.ntmps26
      go_wp2_with fail
      refine (J1.out _ HB.out).mono ?_
      rintro e w1 ⟨rfl, hb⟩
      obtain ⟨y0, y1, y2, y3, y4⟩ := HY.out _ hb
      have HC1 := Lib.hid hb
      have HB1 := Lib.hid y4
      clear hb y4
      go_wp2_with fail
      refine (JK.out _).mono ?_
      rintro e w2 ⟨rfl, rfl⟩
      go_wp2_with fail
      refine (J2.out _ HB1.out).mono ?_
      rintro e w3 ⟨rfl, hb⟩
      have HC2 := Lib.hid (eb_of HC1.out hb (Nat.le_refl _))
      clear hb y0 y1 y2 y3
      obtain ⟨y0, y1, y2, y3, y4⟩ := HY.out _ HC2.out
      have HB2 := Lib.hid y4
      clear y4
      go_wp2_with fail
      refine (J3.out _ HB2.out).mono ?_
      rintro e w4 ⟨rfl, hb⟩
      have HC3 := Lib.hid (eb_of HC2.out hb (Nat.le_refl _))
      clear hb y0 y1 y2 y3
      obtain ⟨y0, y1, y2, y3, y4⟩ := HY.out _ HC3.out
      have HB3 := Lib.hid y4
      clear y4
      go_wp2_with fail
      refine (J4.out _ HB3.out).mono ?_
      rintro e w5 ⟨⟨A', rfl, hE⟩, rfl⟩
      have HE := Lib.hid hE
      clear hE
      go_wp2_with fail
      refine (J5.out A' _ HE.out y2 y3).mono ?_
      rintro e w6 ⟨rfl, hb⟩
      have HE2 := Lib.hid (HE.out.below hb (Nat.le_refl _))
      have HC4 := Lib.hid (eb_of HC3.out hb (Nat.le_refl _))
      clear hb y0 y1 y2 y3
      obtain ⟨y0, y1, y2, y3, y4⟩ := HY.out _ HC4.out
      have HB4 := Lib.hid y4
      obtain ⟨b, off, rfl, hbl, hcl⟩ := HK.out A' _ HE2.out
      clear y4
      go_wp2_with fail
      go_quiet (fail)
      go_wp2_with fail
      go_ret2
      exact ⟨retZ (by rw [HL.out, HA.out, if_neg (by omega)]; first | rfl | simp), HB4.out.trans ((below_drewN' _).mono HB4.out.size)⟩
    · have HA : Hid (atE key 0 xs = -1) := Lib.hid ha
      clear ha
      by_cases hi : inN pt key < pt.length
      · have hkn := hne hi
        have HK : Hid (∀ A' w1, EsAt w1 A' pt → ∃ b off k', A' = some ⟨b, off, none⟩ ∧ b < w1.heap.size ∧ k' ≠ key ∧ w1.cell? ⟨b, off + inN pt key * 4, none⟩ = some (.string k')) := Lib.hid (fun A' w1 hE => by
          obtain ⟨b, off, h1, h2, h3⟩ := hE.key0 hi
          exact ⟨b, off, _, h1, h2, hkn, h3⟩)
        clear hkn hne
        generalize pt.length = np at *
        generalize inN pt key = q at *
        generalize upN ms key * st = mu at *
        generalize upN ms key = up at *
        have n1 : ((q : Int) == (np : Int)) = false := by simp; omega
        have n2 : (q : Int) < (np : Int) := by omega
        go_enter Try.func26, Try.ntmps26
        go_wp2_with fail
        refine (J1.out _ HB.out).mono ?_
        rintro e w1 ⟨rfl, hb⟩
        obtain ⟨y0, y1, y2, y3, y4⟩ := HY.out _ hb
        have HC1 := Lib.hid hb
        have HB1 := Lib.hid y4
        clear hb y4
        go_wp2_with fail
        refine (JK.out _).mono ?_
        rintro e w2 ⟨rfl, rfl⟩
        go_wp2_with fail
        refine (J2.out _ HB1.out).mono ?_
        rintro e w3 ⟨rfl, hb⟩
        have HC2 := Lib.hid (eb_of HC1.out hb (Nat.le_refl _))
        clear hb y0 y1 y2 y3
        obtain ⟨y0, y1, y2, y3, y4⟩ := HY.out _ HC2.out
        have HB2 := Lib.hid y4
        clear y4
        go_wp2_with fail
        refine (J3.out _ HB2.out).mono ?_
        rintro e w4 ⟨rfl, hb⟩
        have HC3 := Lib.hid (eb_of HC2.out hb (Nat.le_refl _))
        clear hb y0 y1 y2 y3
        obtain ⟨y0, y1, y2, y3, y4⟩ := HY.out _ HC3.out
        have HB3 := Lib.hid y4
        clear y4
        go_wp2_with fail
        refine (J4.out _ HB3.out).mono ?_
        rintro e w5 ⟨⟨A', rfl, hE⟩, rfl⟩
        have HE := Lib.hid hE
        clear hE
        go_wp2_with fail
        refine (J5.out A' _ HE.out y2 y3).mono ?_
        rintro e w6 ⟨rfl, hb⟩
        have HE2 := Lib.hid (HE.out.below hb (Nat.le_refl _))
        have HC4 := Lib.hid (eb_of HC3.out hb (Nat.le_refl _))
        clear hb y0 y1 y2 y3
        obtain ⟨y0, y1, y2, y3, y4⟩ := HY.out _ HC4.out
        have HB4 := Lib.hid y4
        obtain ⟨b, off, k', rfl, hbl, hkn, hcl⟩ := HK.out A' _ HE2.out
        have he3 := str_beq_ne hkn
        have he4 := str_ne hkn
        clear y4 hkn
        go_wp2_with fail
        go_quiet (fail)
        go_wp2_with fail
        go_ret2
        exact ⟨retZ (by rw [HL.out, HA.out]; rfl), HB4.out.trans ((below_drewN' _).mono HB4.out.size)⟩
      · have hq : inN pt key = pt.length := by omega
        clear hne hi
        rw [hq] at J5
        clear hq hin hw hmul
        generalize pt.length = np at *
        generalize upN ms key * st = mu at *
        generalize upN ms key = up at *
        go_enter Try.func26, Try.ntmps26
        go_wp2_with fail
        refine (J1.out _ HB.out).mono ?_
        rintro e w1 ⟨rfl, hb⟩
        obtain ⟨y0, y1, y2, y3, y4⟩ := HY.out _ hb
        have HC1 := Lib.hid hb
        have HB1 := Lib.hid y4
        clear hb y4
        go_wp2_with fail
        refine (JK.out _).mono ?_
        rintro e w2 ⟨rfl, rfl⟩
        go_wp2_with fail
        refine (J2.out _ HB1.out).mono ?_
        rintro e w3 ⟨rfl, hb⟩
        have HC2 := Lib.hid (eb_of HC1.out hb (Nat.le_refl _))
        clear hb y0 y1 y2 y3
        obtain ⟨y0, y1, y2, y3, y4⟩ := HY.out _ HC2.out
        have HB2 := Lib.hid y4
        clear y4
        go_wp2_with fail
        refine (J3.out _ HB2.out).mono ?_
        rintro e w4 ⟨rfl, hb⟩
        have HC3 := Lib.hid (eb_of HC2.out hb (Nat.le_refl _))
        clear hb y0 y1 y2 y3
        obtain ⟨y0, y1, y2, y3, y4⟩ := HY.out _ HC3.out
        have HB3 := Lib.hid y4
        clear y4
        go_wp2_with fail
        refine (J4.out _ HB3.out).mono ?_
        rintro e w5 ⟨⟨A', rfl, hE⟩, rfl⟩
        have HE := Lib.hid hE
        clear hE
        go_wp2_with fail
        refine (J5.out A' _ HE.out y2 y3).mono ?_
        rintro e w6 ⟨rfl, hb⟩
        have HC4 := Lib.hid (eb_of HC3.out hb (Nat.le_refl _))
        clear hb y0 y1 y2 y3
        obtain ⟨y0, y1, y2, y3, y4⟩ := HY.out _ HC4.out
        have HB4 := Lib.hid y4
        clear y4
        go_wp2_with fail
        go_quiet (fail)
        go_wp2_with fail
        go_ret2
        exact ⟨retZ (by rw [HL.out, HA.out]; rfl), HB4.out.trans ((below_drewN' _).mono HB4.out.size)⟩
end Go.Proofs.Ytpgngiegpigfiaa.KK
