/-
  Fences: how many marks are less, Block, Blocks, Span and Find of the reference.
-/
import Derived.Test.YtpgngiegpigfiaaFn
namespace Go.Proofs.Ytpgngiegpigfiaa.KK
open Go.ChangeShapes Go.WideShapes Go.ChangeAt Go.RowKit Go.Proofs

theorem lessN_next {ms : List ByteArray} {k : Nat} (h : k < ms.length) (key : ByteArray) : lessN (ms.take (k + 1)) key = lessN (ms.take k) key + if ltK ms[k] key = true then 1 else 0 := by
  unfold lessN; rw [List.take_succ_eq_append_getElem h, List.countP_append]; simp [List.countP_cons]
theorem upN_next {ms : List ByteArray} {k : Nat} (h : k < ms.length) (key : ByteArray) : upN (ms.take (k + 1)) key = upN (ms.take k) key + if ltK key ms[k] = true then 0 else 1 := by
  unfold upN; rw [List.take_succ_eq_append_getElem h, List.countP_append]; simp only [List.countP_cons, List.countP_nil]; cases h : ltK key ms[k] <;> simp
set_option maxRecDepth 100000 in
set_option maxHeartbeats 4000000 in
theorem below_any (s : Int) (A : Option Addr) (c : Nat) (ms : List ByteArray) (key : ByteArray) (w : World) (hf : SsAt w A ms) (hn : ms.length ≤ 4294967295) (h1 : ∀ m ∈ ms, m.size ≤ 32) (h2 : key.size ≤ 32) :
    Calls Try.prog 50 #[.agg #[.int .i64 s, .slice A ms.length c], .string key] w fun e w' => e = .returned (.tuple #[.int .i64 (lessN ms key), .int .i64 (upN ms key)]) ∧ Below w.heap.size w w' := by
  have HX := boxF s A ms.length c w
  obtain ⟨x0, x1, x2, x3⟩ := HX.out _ (Below.refl _ _)
  have HF := Lib.hid hf
  clear x2 x3 hf
  go_enter Try.func50, Try.ntmps50
  go_wp2_with fail
  go_loopw [6, 7, 8, 9] (fun a b i _ wr => ∃ k : Nat, k ≤ ms.length ∧ i = .int .i64 k ∧ a = .int .i64 (lessN (ms.take k) key) ∧ b = .int .i64 (upN (ms.take k) key) ∧ Below (w.alloc (.cells #[.int .i64 s, .slice A ms.length c] 25)).heap.size (w.alloc (.cells #[.int .i64 s, .slice A ms.length c] 25)) wr) (fun _ _ i _ _ => ms.length - (intOf i).toNat)
  case atStart => exact ⟨0, Nat.zero_le _, rfl, rfl, rfl, Below.refl _ _⟩
  case round =>
    obtain ⟨k, hk, rfl, rfl, rfl, hb⟩ := hrel
    obtain ⟨v0, v1, v2, v3⟩ := HX.out _ hb
    have HC := Lib.hid hb
    have HW := Lib.hid v3
    clear hb v2 v3 x0 x1
    have q1 : lessN (ms.take k) key ≤ k := Nat.le_trans (lessN_le _ _) (by rw [List.length_take]; omega)
    have q2 : upN (ms.take k) key ≤ k := Nat.le_trans (upN_le _ _) (by rw [List.length_take]; omega)
    by_cases hlt : k < ms.length
    rotate_left
    · have HE : Hid (ms.take k = ms) := Lib.hid (List.take_of_length_le (by omega))
      rw [HE.out] at q1 q2 ⊢
      go_wp2_with fail
      go_ret2
      exact ⟨rfl, HW.out⟩
    rcases HF.out.below HW.out (Nat.le_refl _) with h0 | ⟨b, off, rfl, hbl, hc⟩
    · subst h0; simp at hlt
    have g0 := hc k hlt
    have hz := h1 _ (List.getElem_mem hlt)
    have n1 := lessN_next hlt key
    have n2 := upN_next hlt key
    have J := Lib.hid (fun w => Order_any ms[k] key w (by omega) (by omega))
    have d1 : decide (Kl.ord (Kl.L ms[k]) (Kl.L key) < 0) = ltK ms[k] key := by
      unfold ltK
      cases h : Kl.lt (Kl.L ms[k]) (Kl.L key)
      · rw [decide_eq_false_iff_not, Kl.ord_neg, h]; simp
      · rw [decide_eq_true_eq, Kl.ord_neg]; exact h
    have d2 : decide (Kl.ord (Kl.L ms[k]) (Kl.L key) ≤ 0) = !ltK key ms[k] := by
      unfold ltK
      cases h : Kl.lt (Kl.L key) (Kl.L ms[k])
      · rw [Bool.not_false, decide_eq_true_eq, Kl.ord_nonpos]; exact h
      · rw [Bool.not_true, decide_eq_false_iff_not, Kl.ord_nonpos, h]; simp
    have hno : ¬ (ltK ms[k] key = true ∧ ltK key ms[k] = true) := fun ⟨a, b⟩ => by rw [ltK_asymm a] at b; cases b
    clear hc hz
    generalize ltK ms[k] key = o1 at *
    generalize ltK key ms[k] = o2 at *
    generalize Kl.ord (Kl.L ms[k]) (Kl.L key) = r at *
    have N1 := Lib.hid n1
    have N2 := Lib.hid n2
    clear n1 n2
    generalize lessN (ms.take k) key = a1 at *
    generalize upN (ms.take k) key = a2 at *
    cases o1 with
    | true =>
      cases o2 with
      | true => exact absurd ⟨rfl, rfl⟩ hno
      | false =>
        rw [Bool.not_false] at d2
        clear hno
        go_wp2_with fail
        refine (J.out _).mono ?_
        rintro e w1 ⟨rfl, hb⟩
        have HC1 := Lib.hid (eb_of HC.out hb (Nat.le_refl _))
        clear hb
        go_wp2_with fail
        go_roundw
        case rel => exact ⟨k + 1, by omega, by go_num, by rw [N1.out]; go_num, by rw [N2.out]; go_num, HC1.out⟩
        case measure => simp [intOf]; omega
    | false =>
      cases o2 with
      | false =>
        rw [Bool.not_false] at d2
        clear hno
        go_wp2_with fail
        refine (J.out _).mono ?_
        rintro e w1 ⟨rfl, hb⟩
        have HC1 := Lib.hid (eb_of HC.out hb (Nat.le_refl _))
        clear hb
        go_wp2_with fail
        go_roundw
        case rel => exact ⟨k + 1, by omega, by go_num, by rw [N1.out]; go_num, by rw [N2.out]; go_num, HC1.out⟩
        case measure => simp [intOf]; omega
      | true =>
        rw [Bool.not_true] at d2
        clear hno
        go_wp2_with fail
        refine (J.out _).mono ?_
        rintro e w1 ⟨rfl, hb⟩
        have HC1 := Lib.hid (eb_of HC.out hb (Nat.le_refl _))
        clear hb
        go_wp2_with fail
        go_roundw
        case rel => exact ⟨k + 1, by omega, by go_num, by rw [N1.out]; first | go_num | simp, by rw [N2.out]; first | go_num | simp, HC1.out⟩
        case measure => simp [intOf]; omega
set_option maxRecDepth 100000 in
set_option maxHeartbeats 1000000 in
theorem rBlock7_any (s : Int) (A : Option Addr) (c : Nat) (ms : List ByteArray) (key : ByteArray) (w : World) (hf : SsAt w A ms) (hn : ms.length ≤ 4294967295) (hs : SizedS ms) (hz : key.size ≤ 9223372036854775807) :
    Calls Try.prog 21 #[.agg #[.int .i64 s, .slice A ms.length c], .string key] w fun e w' => e = .returned (.tuple #[.int .i64 (blockE s ms key).1, .int .i64 (blockE s ms key).2]) ∧ Below w.heap.size w w' := by
  have HX := boxF s A ms.length c w
  obtain ⟨x0, x1, x2, x3⟩ := HX.out _ (Below.refl _ _)
  have HB := Lib.hid x3
  have J1 := Lib.hid (fun w1 (h : Below w.heap.size w w1) => rCheck7_any s A c ms w1 (hf.below h (Nat.le_refl _)) hn hs)
  have JK := Lib.hid (fun w => rCheck_any key w hz)
  clear x3
  by_cases h1 : (chkF s ms).2 = 0
  rotate_left
  · have HL := Lib.hid (blockE_no (key := key) (by rw [keyE_no h1]; exact h1))
    rw [keyE_no h1] at HL
    obtain ⟨b1, b2⟩ := ne_b h1
    clear hf hs h1
    generalize (chkF s ms).1 = r0 at *
    generalize (chkF s ms).2 = r at *
    go_enter Try.func21, Try.ntmps21
    go_wp2_with fail
    refine (J1.out _ HB.out).mono ?_
    rintro e w1 ⟨rfl, hb⟩
    have HB1 := Lib.hid (eb_of HB.out hb (by simp))
    clear hb
    go_wp2_with fail
    go_ret2
    exact ⟨retZ HL.out, HB1.out⟩
  obtain ⟨G, _⟩ := chkF_good h1
  rw [h1] at J1
  by_cases hk : key.size ≤ 32
  rotate_left
  · have hke : keyE s ms key = 3 := by rw [keyE_ok h1, chk1_no hk]
    have HL := Lib.hid (blockE_no (s := s) (ms := ms) (key := key) (by rw [hke]; decide))
    rw [hke] at HL
    rw [chk1_no hk] at JK
    clear hf hs h1 hk hke G
    generalize (chkF s ms).1 = r0 at *
    go_enter Try.func21, Try.ntmps21
    go_wp2_with fail
    refine (J1.out _ HB.out).mono ?_
    rintro e w1 ⟨rfl, hb⟩
    have HB1 := Lib.hid (eb_of HB.out hb (by simp))
    clear hb
    go_wp2_with fail
    refine (JK.out _).mono ?_
    rintro e w2 ⟨rfl, rfl⟩
    go_wp2_with fail
    go_ret2
    exact ⟨retZ HL.out, HB1.out⟩
  have HL := Lib.hid (blockE_ok (s := s) (ms := ms) (key := key) (by rw [keyE_ok h1, chk1_ok hk]))
  rw [chk1_ok hk] at JK
  have J2 := Lib.hid (fun w1 (h : Below w.heap.size w w1) => below_any s A c ms key w1 (hf.below h (Nat.le_refl _)) hn G.key hk)
  clear hf hs h1 hk G
  generalize (chkF s ms).1 = r0 at *
  generalize upN ms key = up at *
  generalize lessN ms key = le at *
  go_enter Try.func21, Try.ntmps21
  go_wp2_with fail
  refine (J1.out _ HB.out).mono ?_
  rintro e w1 ⟨rfl, hb⟩
  obtain ⟨y0, y1, y2, y3⟩ := HX.out _ hb
  have HB1 := Lib.hid y3
  clear hb
  go_wp2_with fail
  refine (JK.out _).mono ?_
  rintro e w2 ⟨rfl, rfl⟩
  go_wp2_with fail
  refine (J2.out _ HB1.out).mono ?_
  rintro e w3 ⟨rfl, hb⟩
  have HB2 := Lib.hid (eb_of HB1.out hb (Nat.le_refl _))
  clear hb
  go_wp2_with fail
  go_ret2
  exact ⟨retZ HL.out, HB2.out⟩
theorem rng_word {s : Int} {ms : List ByteArray} {lo hi : ByteArray} {b : Bool} (h : (chkF s ms).2 = 0) : rngE s ms lo hi b = chkR lo hi b := rngE_ok h
set_option maxRecDepth 100000 in
set_option maxHeartbeats 2000000 in
theorem rBlocks7_any (s : Int) (A : Option Addr) (c : Nat) (ms : List ByteArray) (lo hi : ByteArray) (b : Bool) (w : World) (hf : SsAt w A ms) (hn : ms.length ≤ 4294967295) (hs : SizedS ms) (hz : lo.size ≤ 9223372036854775807) (hz2 : hi.size ≤ 9223372036854775807) :
    Calls Try.prog 23 #[.agg #[.int .i64 s, .slice A ms.length c], .agg #[.string lo, .string hi, .bool b]] w fun e w' => e = .returned (.tuple #[.int .i64 (blocksE s ms lo hi b).1, .int .i64 (blocksE s ms lo hi b).2.1, .int .i64 (blocksE s ms lo hi b).2.2]) ∧ Below w.heap.size w w' := by
  have HX := boxF s A ms.length c w
  have HY := boxR lo hi b (w.alloc (.cells #[.int .i64 s, .slice A ms.length c] 25)) (w.heap.size + 1) (by simp)
  obtain ⟨y0, y1, y2, y3, y4⟩ := HY.out _ (Below.refl _ _)
  obtain ⟨x0, x1, x2, x3⟩ := HX.out _ y4
  have HB := Lib.hid x3
  have J1 := Lib.hid (fun w1 (h : Below w.heap.size w w1) => rCheck7_any s A c ms w1 (hf.below h (Nat.le_refl _)) hn hs)
  have JR := Lib.hid (fun w => rCheckRange_any lo hi b w hz hz2)
  have J2 := Lib.hid (fun w => rEmpty_any lo hi b w hz hz2)
  clear x3 y3 y4
  by_cases h1 : (chkF s ms).2 = 0
  rotate_left
  · have HL := Lib.hid (blocksE_no (lo := lo) (hi := hi) (b := b) (by rw [rngE_no h1]; exact h1))
    rw [rngE_no h1] at HL
    obtain ⟨b1, b2⟩ := ne_b h1
    clear hf hs h1
    generalize (chkF s ms).1 = r0 at *
    generalize (chkF s ms).2 = r at *
    go_enter Try.func23, Try.ntmps23
    go_wp2_with fail
    refine (J1.out _ HB.out).mono ?_
    rintro e w1 ⟨rfl, hb⟩
    have HB1 := Lib.hid (eb_of HB.out hb (by simp; try omega))
    clear hb
    go_wp2_with fail
    go_ret3
    exact ⟨ret3 HL.out, HB1.out⟩
  obtain ⟨G, _⟩ := chkF_good h1
  rw [h1] at J1
  by_cases h2 : chkR lo hi b = 0
  rotate_left
  · have HL := Lib.hid (blocksE_no (s := s) (ms := ms) (by rw [rngE_ok h1]; exact h2))
    rw [rngE_ok h1] at HL
    obtain ⟨b1, b2⟩ := ne_b h2
    clear hf hs h1 h2 G J2
    generalize (chkF s ms).1 = r0 at *
    generalize chkR lo hi b = r at *
    go_enter Try.func23, Try.ntmps23
    go_wp2_with fail
    refine (J1.out _ HB.out).mono ?_
    rintro e w1 ⟨rfl, hb⟩
    obtain ⟨v0, v1, v2, v3, v4⟩ := HY.out _ hb
    obtain ⟨u0, u1, u2, u3⟩ := HX.out _ v4
    have HB1 := Lib.hid u3
    clear hb v3 v4 u3
    go_wp2_with fail
    refine (JR.out _).mono ?_
    rintro e w2 ⟨rfl, hb⟩
    have HB2 := Lib.hid (eb_of HB1.out hb (Nat.le_refl _))
    clear hb
    go_wp2_with fail
    go_ret3
    exact ⟨ret3 HL.out, HB2.out⟩
  have hr : rngE s ms lo hi b = 0 := by rw [rngE_ok h1]; exact h2
  obtain ⟨hlo, hhi⟩ := chkR_sizes h2
  rw [h2] at J2 JR
  have J3 := Lib.hid (fun w1 (h : Below w.heap.size w w1) => below_any s A c ms lo w1 (hf.below h (Nat.le_refl _)) hn G.key hlo)
  have J4 := Lib.hid (fun w1 (h : Below w.heap.size w w1) => below_any s A c ms hi w1 (hf.below h (Nat.le_refl _)) hn G.key hhi)
  have hup := upN_le ms lo
  have hle := lessN_le ms hi
  cases h3 : emptyV lo hi b with
  | true =>
    have HL := Lib.hid (blocksE_empty hr h3)
    rw [h3] at J2
    clear hf hs h1 h2 hr h3 G J3 J4
    generalize (chkF s ms).1 = r0 at *
    go_enter Try.func23, Try.ntmps23
    go_wp2_with fail
    refine (J1.out _ HB.out).mono ?_
    rintro e w1 ⟨rfl, hb⟩
    have HC := Lib.hid hb
    clear hb
    obtain ⟨v0, v1, v2, v3, v4⟩ := HY.out _ HC.out
    clear v3 v4
    go_wp2_with fail
    refine (JR.out _).mono ?_
    rintro e w2 ⟨rfl, hb⟩
    have HC2 := Lib.hid (eb_of HC.out hb (Nat.le_refl _))
    clear hb v0 v1 v2
    obtain ⟨v0, v1, v2, v3, v4⟩ := HY.out _ HC2.out
    obtain ⟨u0, u1, u2, u3⟩ := HX.out _ v4
    have HB2 := Lib.hid u3
    clear v3 v4 u3
    go_wp2_with fail
    refine (J2.out _).mono ?_
    rintro e w3 ⟨rfl, hb⟩
    have HB3 := Lib.hid (eb_of HB2.out hb (Nat.le_refl _))
    clear hb
    go_wp2_with fail
    go_ret3
    exact ⟨ret3 HL.out, HB3.out⟩
  | false =>
    have HL := Lib.hid (blocksE_ok hr h3)
    rw [h3] at J2
    clear hf hs h1 h2 hr h3 G
    generalize (chkF s ms).1 = r0 at *
    generalize upN ms lo = up at *
    generalize lessN ms lo = le0 at *
    cases b with
    | true =>
      rw [show lastN ms hi true = lessN ms hi from rfl] at HL
      generalize lessN ms hi = le at *
      generalize upN ms hi = up0 at *
      go_enter Try.func23, Try.ntmps23
      go_wp2_with fail
      refine (J1.out _ HB.out).mono ?_
      rintro e w1 ⟨rfl, hb⟩
      have HC := Lib.hid hb
      clear hb
      obtain ⟨v0, v1, v2, v3, v4⟩ := HY.out _ HC.out
      clear v3 v4
      go_wp2_with fail
      refine (JR.out _).mono ?_
      rintro e w2 ⟨rfl, hb⟩
      have HC2 := Lib.hid (eb_of HC.out hb (Nat.le_refl _))
      clear hb v0 v1 v2
      obtain ⟨v0, v1, v2, v3, v4⟩ := HY.out _ HC2.out
      clear v3 v4
      go_wp2_with fail
      refine (J2.out _).mono ?_
      rintro e w3 ⟨rfl, hb⟩
      have HC3 := Lib.hid (eb_of HC2.out hb (Nat.le_refl _))
      clear hb v0 v1 v2
      obtain ⟨v0, v1, v2, v3, v4⟩ := HY.out _ HC3.out
      obtain ⟨u0, u1, u2, u3⟩ := HX.out _ v4
      have HB3 := Lib.hid u3
      clear v3 v4 u3
      go_wp2_with fail
      refine (J3.out _ HB3.out).mono ?_
      rintro e w4 ⟨rfl, hb⟩
      have HC4 := Lib.hid (eb_of HC3.out hb (Nat.le_refl _))
      clear hb v0 v1 v2 u0 u1 u2
      obtain ⟨v0, v1, v2, v3, v4⟩ := HY.out _ HC4.out
      obtain ⟨u0, u1, u2, u3⟩ := HX.out _ v4
      have HB4 := Lib.hid u3
      clear v3 v4 u3
      go_wp2_with fail
      refine (J4.out _ HB4.out).mono ?_
      rintro e w5 ⟨rfl, hb⟩
      have HB5 := Lib.hid (eb_of HB4.out hb (Nat.le_refl _))
      clear hb
      go_wp2_with fail
      go_ret3
      exact ⟨ret3 HL.out, HB5.out⟩
    | false =>
      rw [show lastN ms hi false = ms.length from rfl] at HL
      clear J4
      go_enter Try.func23, Try.ntmps23
      go_wp2_with fail
      refine (J1.out _ HB.out).mono ?_
      rintro e w1 ⟨rfl, hb⟩
      have HC := Lib.hid hb
      clear hb
      obtain ⟨v0, v1, v2, v3, v4⟩ := HY.out _ HC.out
      clear v3 v4
      go_wp2_with fail
      refine (JR.out _).mono ?_
      rintro e w2 ⟨rfl, hb⟩
      have HC2 := Lib.hid (eb_of HC.out hb (Nat.le_refl _))
      clear hb v0 v1 v2
      obtain ⟨v0, v1, v2, v3, v4⟩ := HY.out _ HC2.out
      clear v3 v4
      go_wp2_with fail
      refine (J2.out _).mono ?_
      rintro e w3 ⟨rfl, hb⟩
      have HC3 := Lib.hid (eb_of HC2.out hb (Nat.le_refl _))
      clear hb v0 v1 v2
      obtain ⟨v0, v1, v2, v3, v4⟩ := HY.out _ HC3.out
      obtain ⟨u0, u1, u2, u3⟩ := HX.out _ v4
      have HB3 := Lib.hid u3
      clear v3 v4 u3
      go_wp2_with fail
      refine (J3.out _ HB3.out).mono ?_
      rintro e w4 ⟨rfl, hb⟩
      have HC4 := Lib.hid (eb_of HC3.out hb (Nat.le_refl _))
      clear hb v0 v1 v2 u0 u1 u2
      obtain ⟨v0, v1, v2, v3, v4⟩ := HY.out _ HC4.out
      obtain ⟨u0, u1, u2, u3⟩ := HX.out _ v4
      have HB4 := Lib.hid u3
      clear v3 v4 u3
      go_wp2_with fail
      go_ret3
      exact ⟨ret3 HL.out, HB4.out⟩
end Go.Proofs.Ytpgngiegpigfiaa.KK
