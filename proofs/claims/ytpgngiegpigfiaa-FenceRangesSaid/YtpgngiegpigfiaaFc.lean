/-
  Fences: marks in memory, the order of keys, Check on both sides.
-/
import Derived.Test.YtpgngiegpigfiaaFb
import Derived.Test.YtpgngiegpigfiaaKn
namespace Go.Proofs.Ytpgngiegpigfiaa.KK
open Go.ChangeShapes Go.WideShapes Go.ChangeAt Go.RowKit Go.Proofs

/-- strings lie there -/
def SsAt (w : World) (A : Option Addr) (ms : List ByteArray) : Prop :=
  ms = [] ∨ ∃ b off, A = some ⟨b, off, none⟩ ∧ b < w.heap.size ∧ ∀ (i : Nat) (h : i < ms.length), w.cell? ⟨b, off + i, none⟩ = some (.string ms[i])
theorem SsAt.below {B : Nat} {w w' : World} {A : Option Addr} {ms : List ByteArray} (h : SsAt w A ms) (hb : Below B w w') (hB : w.heap.size ≤ B) : SsAt w' A ms := by
  rcases h with h | ⟨b, off, hA, hlt, hc⟩
  · exact .inl h
  · refine .inr ⟨b, off, hA, Nat.lt_of_lt_of_le hlt hb.size, fun i hi => ?_⟩
    rw [hb.cell (p := ⟨b, off + i, none⟩) (by simp; omega)]; exact hc i hi
def SizedS (ms : List ByteArray) : Prop := ∀ m ∈ ms, m.size ≤ 9223372036854775807
theorem SizedS.at {ms : List ByteArray} (h : SizedS ms) {k : Nat} (hk : k < ms.length) : ms[k].size ≤ 9223372036854775807 := h _ (List.getElem_mem hk)
def ltK (a b : ByteArray) : Bool := Kl.lt (Kl.L a) (Kl.L b)
theorem less_any (a b : ByteArray) (w : World) (ha : a.size ≤ 32) (hb : b.size ≤ 32) :
    Calls Try.prog 46 #[.string a, .string b] w fun e w' => e = .returned (.bool (ltK a b)) ∧ Below w.heap.size w w' := by
  have J := Lib.hid (fun w => by have K := kCompare_any a b w (by omega) (by omega); rw [cmpV_ok ha hb, chk2_ok ha hb] at K; exact K)
  have H : Hid (decide (Kl.ord (Kl.L a) (Kl.L b) < 0) = ltK a b) := Lib.hid (by
    unfold ltK; cases h : Kl.lt (Kl.L a) (Kl.L b)
    · rw [decide_eq_false_iff_not, Kl.ord_neg, h]; simp
    · rw [decide_eq_true_eq, Kl.ord_neg, h])
  clear ha hb
  generalize Kl.ord (Kl.L a) (Kl.L b) = r at *
  go_enter Try.func46, Try.ntmps46
  go_wp2_with fail
  refine (J.out _).mono ?_
  rintro e w1 ⟨rfl, hb1⟩
  have HB := Lib.hid hb1
  clear hb1
  go_wp2_with fail
  go_ret
  exact ⟨retB H.out, HB.out⟩
theorem boxF (s : Int) (A : Option Addr) (n c : Nat) (w : World) : Hid (∀ w', Below (w.alloc (.cells #[.int .i64 s, .slice A n c] 25)).heap.size (w.alloc (.cells #[.int .i64 s, .slice A n c] 25)) w' →
    w'.cell? ⟨w.heap.size, 0, none⟩ = some (.int .i64 s) ∧ w'.cell? ⟨w.heap.size, 1, none⟩ = some (.slice A n c) ∧ w.heap.size < w'.heap.size ∧ Below w.heap.size w w') := Lib.hid fun w' h =>
  ⟨(h.cell (p := ⟨w.heap.size, 0, none⟩) (by simp)).trans (cell_of_row _ w.heap.size 0 _ _ _ (heap_alloc_new w _)), (h.cell (p := ⟨w.heap.size, 1, none⟩) (by simp)).trans (cell_of_row _ w.heap.size 1 _ _ _ (heap_alloc_new w _)), by have := h.size; simp at this; omega, ((Below.refl w.heap.size w).alloc (Nat.le_refl _) _).trans (h.mono (by simp))⟩
def stepB (s : Int) : Bool := decide (1 ≤ s) && decide (s ≤ 64)
theorem isStep_any (s : Int) (w : World) : Calls Try.prog 36 #[.int .i64 s] w fun e w' => e = .returned (.bool (stepB s)) ∧ w = w' := by
  by_cases h1 : 1 ≤ s
  · have H : Hid (stepB s = decide (s ≤ 64)) := Lib.hid (by unfold stepB; rw [decide_eq_true h1, Bool.true_and])
    go_enter Try.func36, Try.ntmps36
    go_wp2_with fail
    go_ret
    exact ⟨retB (by rw [H.out]), rfl⟩
  · have H : Hid (stepB s = false) := Lib.hid (by unfold stepB; rw [decide_eq_false h1, Bool.false_and])
    go_enter Try.func36, Try.ntmps36
    go_wp2_with fail
    go_ret
    exact ⟨retB (by rw [H.out]), rfl⟩
/-- what is wrong with a mark behind another one -/
def wrongM (p : Option ByteArray) (m : ByteArray) : Int :=
  if m.size ≤ 32 then (match p with | none => 0 | some y => if ltK y m = true then 0 else 6) else 3
def scanM : Nat → Option ByteArray → List ByteArray → Int × Int
  | _, _, [] => (0, 0)
  | i, p, x :: t => if wrongM p x = 0 then scanM (i + 1) (some x) t else ((i : Int), wrongM p x)
def chkF (s : Int) (ms : List ByteArray) : Int × Int := if stepB s = true then (if 4999 < ms.length then (-1, 3) else scanM 0 none ms) else (-1, 7)
def prevM (xs : List ByteArray) : Nat → Option ByteArray
  | 0 => none
  | k + 1 => xs[k]?
theorem prevM_succ {xs : List ByteArray} {k : Nat} (h : k < xs.length) : prevM xs (k + 1) = some xs[k] := List.getElem?_eq_getElem h
theorem scanM_ok {xs : List ByteArray} {k : Nat} (h : k < xs.length) (g : wrongM (prevM xs k) xs[k] = 0) : scanM k (prevM xs k) (xs.drop k) = scanM (k + 1) (prevM xs (k + 1)) (xs.drop (k + 1)) := by
  rw [List.drop_eq_getElem_cons h, prevM_succ h]; exact if_pos g
theorem scanM_no {xs : List ByteArray} {k : Nat} (h : k < xs.length) (g : wrongM (prevM xs k) xs[k] ≠ 0) : scanM k (prevM xs k) (xs.drop k) = ((k : Int), wrongM (prevM xs k) xs[k]) := by
  rw [List.drop_eq_getElem_cons h]; exact if_neg g
theorem scanM_end {xs : List ByteArray} {k : Nat} {p : Option ByteArray} (h : ¬ k < xs.length) : scanM k p (xs.drop k) = (0, 0) := by
  rw [List.drop_eq_nil_of_le (by omega)]; rfl
theorem wrongM_chk {p : Option ByteArray} {x : ByteArray} (h : ¬ x.size ≤ 32) : wrongM p x = 3 := if_neg h
theorem wrongM_none {x : ByteArray} (h : x.size ≤ 32) : wrongM none x = 0 := if_pos h
theorem wrongM_up {y x : ByteArray} (h : x.size ≤ 32) (g : ltK y x = true) : wrongM (some y) x = 0 := by unfold wrongM; rw [if_pos h]; exact if_pos g
theorem wrongM_down {y x : ByteArray} (h : x.size ≤ 32) (g : ltK y x = false) : wrongM (some y) x = 6 := by unfold wrongM; rw [if_pos h]; exact if_neg (by rw [g]; simp)
theorem chkF_step {s : Int} {ms : List ByteArray} (h : stepB s = false) : chkF s ms = (-1, 7) := if_neg (by rw [h]; simp)
theorem chkF_long {s : Int} {ms : List ByteArray} (h : stepB s = true) (g : 4999 < ms.length) : chkF s ms = (-1, 3) := by unfold chkF; rw [if_pos h, if_pos g]
theorem chkF_scan {s : Int} {ms : List ByteArray} (h : stepB s = true) (g : ¬ 4999 < ms.length) : chkF s ms = scanM 0 none ms := by unfold chkF; rw [if_pos h, if_neg g]
theorem scanM_good : ∀ {ms : List ByteArray} {i : Nat} {p : Option ByteArray}, (scanM i p ms).2 = 0 → (∀ m ∈ ms, m.size ≤ 32) ∧ (∀ y, p = some y → ∀ m ∈ ms, ltK y m = true) ∧ ms.Pairwise (fun a b => ltK a b = true) ∧ (scanM i p ms).1 = 0
  | [], _, _, _ => ⟨fun _ h => by simp at h, fun _ _ _ h => by simp at h, List.Pairwise.nil, rfl⟩
  | x :: t, i, p, h => by
    by_cases g : wrongM p x = 0
    · rw [scanM, if_pos g] at h ⊢
      obtain ⟨h1, h2, h3, h4⟩ := scanM_good h
      have hx : x.size ≤ 32 := by
        by_cases hx : x.size ≤ 32
        · exact hx
        · rw [wrongM_chk hx] at g; exact absurd g (by decide)
      have hy : ∀ y, p = some y → ltK y x = true := fun y e => by
        subst e
        cases hl : ltK y x
        · rw [wrongM_down hx hl] at g; exact absurd g (by decide)
        · rfl
      refine ⟨fun m hm => ?_, fun y e m hm => ?_, List.pairwise_cons.2 ⟨fun m hm => h2 x rfl m hm, h3⟩, h4⟩
      · rcases List.mem_cons.1 hm with rfl | hm
        · exact hx
        · exact h1 m hm
      · rcases List.mem_cons.1 hm with rfl | hm
        · exact hy y e
        · exact Kl.lt_trans (hy y e) (h2 x rfl m hm)
    · rw [scanM, if_neg g] at h
      exact absurd h g
/-- a fence: a step, and marks that ascend -/
structure Good (s : Int) (ms : List ByteArray) : Prop where
  step : 1 ≤ s ∧ s ≤ 64
  len : ms.length ≤ 4999
  key : ∀ m ∈ ms, m.size ≤ 32
  asc : ms.Pairwise (fun a b => ltK a b = true)
theorem chkF_good {s : Int} {ms : List ByteArray} (h : (chkF s ms).2 = 0) : Good s ms ∧ (chkF s ms).1 = 0 := by
  cases hs : stepB s
  · rw [chkF_step hs] at h; exact absurd h (by decide)
  · by_cases hl : 4999 < ms.length
    · rw [chkF_long hs hl] at h; exact absurd h (by decide)
    · rw [chkF_scan hs hl] at h ⊢
      obtain ⟨h1, _, h3, h4⟩ := scanM_good h
      refine ⟨⟨by simpa [stepB] using hs, by omega, h1, h3⟩, h4⟩
set_option maxRecDepth 100000 in
set_option maxHeartbeats 2000000 in
theorem pCheck7_any (s : Int) (A : Option Addr) (c : Nat) (ms : List ByteArray) (w : World) (hf : SsAt w A ms) (hn : ms.length ≤ 4294967295) (hs : SizedS ms) :
    Calls Try.prog 18 #[.agg #[.int .i64 s, .slice A ms.length c]] w fun e w' => e = .returned (.tuple #[.int .i64 (chkF s ms).1, .int .i64 (chkF s ms).2]) ∧ Below w.heap.size w w' := by
  have HBX := Lib.hid ((Below.refl w.heap.size w).alloc (Nat.le_refl _) (.cells #[.int .i64 s, .slice A ms.length c] 25))
  have hx0 : (w.alloc (.cells #[.int .i64 s, .slice A ms.length c] 25)).cell? ⟨w.heap.size, 0, none⟩ = some (.int .i64 s) := cell_of_row _ w.heap.size 0 _ _ _ (heap_alloc_new w _)
  have hx1 : (w.alloc (.cells #[.int .i64 s, .slice A ms.length c] 25)).cell? ⟨w.heap.size, 1, none⟩ = some (.slice A ms.length c) := cell_of_row _ w.heap.size 1 _ _ _ (heap_alloc_new w _)
  have HX : Hid (∀ w', Below (w.alloc (.cells #[.int .i64 s, .slice A ms.length c] 25)).heap.size (w.alloc (.cells #[.int .i64 s, .slice A ms.length c] 25)) w' → w'.cell? ⟨w.heap.size, 0, none⟩ = some (.int .i64 s) ∧ w'.cell? ⟨w.heap.size, 1, none⟩ = some (.slice A ms.length c)) := Lib.hid fun w' h =>
    ⟨(h.cell (p := ⟨w.heap.size, 0, none⟩) (by simp)).trans hx0, (h.cell (p := ⟨w.heap.size, 1, none⟩) (by simp)).trans hx1⟩
  clear hx0 hx1
  have JS := Lib.hid (fun w => isStep_any s w)
  cases hst : stepB s with
  | false =>
    have HL := Lib.hid (chkF_step (ms := ms) hst)
    rw [hst] at JS
    clear hst
    go_enter Try.func18, Try.ntmps18
    go_wp2_with fail
    refine (JS.out _).mono ?_
    rintro e w1 ⟨rfl, rfl⟩
    go_wp2_with fail
    go_ret2
    exact ⟨retP HL.out rfl rfl, HBX.out⟩
  | true =>
    rw [hst] at JS
    by_cases h64 : 4999 < ms.length
    · have HL := Lib.hid (chkF_long hst h64)
      skip
      skip
      clear hst hf
      go_enter Try.func18, Try.ntmps18
      go_wp2_with fail
      refine (JS.out _).mono ?_
      rintro e w1 ⟨rfl, rfl⟩
      go_wp2_with fail
      go_ret2
      exact ⟨retP HL.out rfl rfl, HBX.out⟩
    have HAL := Lib.hid (chkF_scan hst h64)
    skip
    skip
    clear hst
    go_enter Try.func18, Try.ntmps18
    go_wp2_with fail
    refine (JS.out _).mono ?_
    rintro e w1 ⟨rfl, rfl⟩
    go_wp2_with fail
    go_loopw [18] (fun i wr => ∃ k : Nat, k ≤ ms.length ∧ i = .int .i64 k ∧ Below (w.alloc (.cells #[.int .i64 s, .slice A ms.length c] 25)).heap.size (w.alloc (.cells #[.int .i64 s, .slice A ms.length c] 25)) wr ∧ scanM 0 none ms = scanM k (prevM ms k) (ms.drop k) ∧ (∀ y, prevM ms k = some y → y.size ≤ 32)) (fun i _ => ms.length - (intOf i).toNat)
    case atStart => exact ⟨0, Nat.zero_le _, rfl, Below.refl _ _, rfl, fun y h => by cases h⟩
    case round =>
      obtain ⟨k, hk, rfl, hb, ha, hpv⟩ := hrel
      have HPV := Lib.hid hpv
      clear hpv
      obtain ⟨x0, x1⟩ := HX.out _ hb
      have HB : Hid (Below w.heap.size w wr) := Lib.hid (HBX.out.trans (hb.mono (by simp)))
      have HC := Lib.hid hb
      have hsz := HB.out.size
      have hws : w.heap.size < wr.heap.size := by have := hb.size; simp at this; omega
      have HA := Lib.hid ha
      have hf' := hf.below HB.out (Nat.le_refl _)
      clear ha hb hf
      by_cases hlt : k < ms.length
      rotate_left
      · have HE := Lib.hid (scanM_end (p := prevM ms k) hlt)
        go_wp2_with fail
        go_ret2
        exact ⟨retP (HAL.out.trans (HA.out.trans HE.out)) rfl rfl, HB.out⟩
      rcases hf' with h0 | ⟨b, off, rfl, hbl, hc⟩
      · subst h0; simp at hlt
      have g0 := hc k hlt
      have J := Lib.hid (fun w => kCheck_any ms[k] w (hs.at hlt))
      by_cases hl : ms[k].size ≤ 32
      rotate_left
      · have HL := Lib.hid (scanM_no hlt (by rw [wrongM_chk hl]; decide))
        rw [wrongM_chk hl] at HL
        rw [chk1_no hl] at J
        clear hl hc hs
        go_wp2_with fail
        refine (J.out _).mono ?_
        rintro e w1 ⟨rfl, rfl⟩
        go_wp2_with fail
        go_ret2
        exact ⟨retP (HAL.out.trans (HA.out.trans HL.out)) rfl rfl, HB.out⟩
      rw [chk1_ok hl] at J
      by_cases hk0 : k = 0
      · have hk0' : decide ((0 : Int) < (k : Int)) = false := by simp; omega
        have hk1' : decide (0 < k) = false := by simp; omega
        have HL := Lib.hid (scanM_ok hlt (by subst hk0; exact wrongM_none hl))
        have HKL := Lib.hid hl
        clear hk0 hl hc hs
        go_wp2_with fail
        refine (J.out _).mono ?_
        rintro e w1 ⟨rfl, rfl⟩
        go_wp2_with fail
        go_roundw
        case rel => exact ⟨k + 1, by omega, by go_num, HC.out, HA.out.trans HL.out, fun y h => by cases (prevM_succ hlt).symm.trans h; exact HKL.out⟩
        case measure => simp [intOf]; omega
      · obtain ⟨j, rfl⟩ : ∃ j, k = j + 1 := ⟨k - 1, by omega⟩
        clear hk0
        have hj : j < ms.length := by omega
        have p0 := hc j hj
        have sj := HPV.out _ (prevM_succ hj)
        have hwp : IntKind.i64.wrap (j : Int) = (j : Int) := by rw [IntKind.wrap_i64]; omega
        have hjb : (j : Int) < (ms.length : Int) := by omega
        have hkb : (j : Int) + 1 < (ms.length : Int) := by omega
        have hj1 : decide ((0 : Int) < (j : Int) + 1) = true := by rw [decide_eq_true_eq]; omega
        have JK := Lib.hid (fun w => less_any ms[j] ms[j + 1] w sj hl)
        have HKL := Lib.hid hl
        clear hc hs
        cases ho : ltK ms[j] ms[j + 1] with
        | false =>
          have hw : wrongM (prevM ms (j + 1)) ms[j + 1] = 6 := by rw [prevM_succ hj]; exact wrongM_down hl ho
          have HL := Lib.hid (by have h := scanM_no (k := j + 1) hlt (by rw [hw]; decide); rw [hw] at h; exact h)
          rw [ho] at JK; clear ho
          clear hw sj hl
          go_wp2_with fail
          refine (J.out _).mono ?_
          rintro e w1 ⟨rfl, rfl⟩
          go_wp2_with fail
          refine (JK.out _).mono ?_
          rintro e w2 ⟨rfl, hb2⟩
          have HB2 := Lib.hid (eb_of HB.out hb2 (Nat.le_refl _))
          have HC2 := Lib.hid (eb_of HC.out hb2 (Nat.le_refl _))
          clear hb2
          go_wp2_with fail
          go_ret2
          exact ⟨retP (HAL.out.trans (HA.out.trans HL.out)) (by go_num) rfl, HB2.out⟩
        | true =>
          have HL := Lib.hid (scanM_ok (k := j + 1) hlt (by rw [prevM_succ hj, wrongM_up hl ho]))
          rw [ho] at JK; clear ho
          clear sj hl
          go_wp2_with fail
          refine (J.out _).mono ?_
          rintro e w1 ⟨rfl, rfl⟩
          go_wp2_with fail
          refine (JK.out _).mono ?_
          rintro e w2 ⟨rfl, hb2⟩
          have HB2 := Lib.hid (eb_of HB.out hb2 (Nat.le_refl _))
          have HC2 := Lib.hid (eb_of HC.out hb2 (Nat.le_refl _))
          clear hb2
          go_wp2_with fail
          go_roundw
          case rel => exact ⟨j + 1 + 1, by omega, by go_num, HC2.out, HA.out.trans HL.out, fun y h => by cases (prevM_succ hlt).symm.trans h; exact HKL.out⟩
          case measure => simp [intOf]; omega
end Go.Proofs.Ytpgngiegpigfiaa.KK
