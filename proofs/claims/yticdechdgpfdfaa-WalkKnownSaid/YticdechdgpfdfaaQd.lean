/-
  Plain functions, joined into one text.
-/
import Derived.Test.YticdechdgpfdfaaQb
import Derived.Laws.AppendOwnNone
import Derived.Deep.AppendLies
/-
  Fences: marks in memory, the order of keys, Check on both sides.
-/
namespace Go.Proofs.Yticdechdgpfdfaa.KK
open Go.ChangeShapes Go.WideShapes Go.ChangeAt Go.RowKit Go.Proofs

/-- strings lie there -/
def SsAt (w : World) (A : Option Addr) (ms : List ByteArray) : Prop :=
  ms = [] ∨ ∃ b off, A = some ⟨b, off, none⟩ ∧ b < w.heap.size ∧ ∀ (i : Nat) (h : i < ms.length), w.cell? ⟨b, off + i, none⟩ = some (.string ms[i])
theorem SsAt.below {B : Nat} {w w' : World} {A : Option Addr} {ms : List ByteArray} (h : SsAt w A ms) (hb : Below B w w') (hB : w.heap.size ≤ B) : SsAt w' A ms := by
  rcases h with h | ⟨b, off, hA, hlt, hc⟩
  · exact .inl h
  · refine .inr ⟨b, off, hA, Nat.lt_of_lt_of_le hlt hb.size, fun i hi => ?_⟩
    rw [hb.cell (p := ⟨b, off + i, none⟩) (by simp; omega)]; exact hc i hi
def SizedS (ms : List ByteArray) : Prop := ∀ m ∈ ms, m.size ≤ 9223372036854775807
theorem SizedS.at {ms : List ByteArray} (h : SizedS ms) {k : Nat} (hk : k < ms.length) : ms[k].size ≤ 9223372036854775807 := h _ (List.getElem_mem hk)
def ltK (a b : ByteArray) : Bool := Kl.lt (Kl.L a) (Kl.L b)
theorem less_any (a b : ByteArray) (w : World) (ha : a.size ≤ 32) (hb : b.size ≤ 32) :
    Calls Try.prog 81 #[.string a, .string b] w fun e w' => e = .returned (.bool (ltK a b)) ∧ Below w.heap.size w w' := by
  have J := Lib.hid (fun w => by have K := kCompare_any a b w (by omega) (by omega); rw [cmpV_ok ha hb, chk2_ok ha hb] at K; exact K)
  have H : Hid (decide (Kl.ord (Kl.L a) (Kl.L b) < 0) = ltK a b) := Lib.hid (by
    unfold ltK; cases h : Kl.lt (Kl.L a) (Kl.L b)
    · rw [decide_eq_false_iff_not, Kl.ord_neg, h]; simp
    · rw [decide_eq_true_eq, Kl.ord_neg, h])
  clear ha hb
  generalize Kl.ord (Kl.L a) (Kl.L b) = r at *
  go_enter Try.func81, Try.ntmps81
  go_wp2_with fail
  refine (J.out _).mono ?_
  rintro e w1 ⟨rfl, hb1⟩
  have HB := Lib.hid hb1
  clear hb1
  go_wp2_with fail
  go_ret
  exact ⟨retB H.out, HB.out⟩
theorem boxF (s : Int) (A : Option Addr) (n c : Nat) (w : World) : Hid (∀ w', Below (w.alloc (.cells #[.int .i64 s, .slice A n c] 73)).heap.size (w.alloc (.cells #[.int .i64 s, .slice A n c] 73)) w' →
    w'.cell? ⟨w.heap.size, 0, none⟩ = some (.int .i64 s) ∧ w'.cell? ⟨w.heap.size, 1, none⟩ = some (.slice A n c) ∧ w.heap.size < w'.heap.size ∧ Below w.heap.size w w') := Lib.hid fun w' h =>
  ⟨(h.cell (p := ⟨w.heap.size, 0, none⟩) (by simp)).trans (cell_of_row _ w.heap.size 0 _ _ _ (heap_alloc_new w _)), (h.cell (p := ⟨w.heap.size, 1, none⟩) (by simp)).trans (cell_of_row _ w.heap.size 1 _ _ _ (heap_alloc_new w _)), by have := h.size; simp at this; omega, ((Below.refl w.heap.size w).alloc (Nat.le_refl _) _).trans (h.mono (by simp))⟩
def stepB (s : Int) : Bool := decide (1 ≤ s) && decide (s ≤ 64)
theorem isStep_any (s : Int) (w : World) : Calls Try.prog 68 #[.int .i64 s] w fun e w' => e = .returned (.bool (stepB s)) ∧ w = w' := by
  by_cases h1 : 1 ≤ s
  · have H : Hid (stepB s = decide (s ≤ 64)) := Lib.hid (by unfold stepB; rw [decide_eq_true h1, Bool.true_and])
    go_enter Try.func68, Try.ntmps68
    go_wp2_with fail
    go_ret
    exact ⟨retB (by rw [H.out]), rfl⟩
  · have H : Hid (stepB s = false) := Lib.hid (by unfold stepB; rw [decide_eq_false h1, Bool.false_and])
    go_enter Try.func68, Try.ntmps68
    go_wp2_with fail
    go_ret
    exact ⟨retB (by rw [H.out]), rfl⟩
/-- what is wrong with a mark behind another one -/
def wrongM (p : Option ByteArray) (m : ByteArray) : Int :=
  if m.size ≤ 32 then (match p with | none => 0 | some y => if ltK y m = true then 0 else 6) else 3
def scanM : Nat → Option ByteArray → List ByteArray → Int × Int
  | _, _, [] => (0, 0)
  | i, p, x :: t => if wrongM p x = 0 then scanM (i + 1) (some x) t else ((i : Int), wrongM p x)
def chkF (s : Int) (ms : List ByteArray) : Int × Int := if stepB s = true then (if 4999 < ms.length then (-1, 3) else scanM 0 none ms) else (-1, 7)
def prevM (xs : List ByteArray) : Nat → Option ByteArray
  | 0 => none
  | k + 1 => xs[k]?
theorem prevM_succ {xs : List ByteArray} {k : Nat} (h : k < xs.length) : prevM xs (k + 1) = some xs[k] := List.getElem?_eq_getElem h
theorem scanM_ok {xs : List ByteArray} {k : Nat} (h : k < xs.length) (g : wrongM (prevM xs k) xs[k] = 0) : scanM k (prevM xs k) (xs.drop k) = scanM (k + 1) (prevM xs (k + 1)) (xs.drop (k + 1)) := by
  rw [List.drop_eq_getElem_cons h, prevM_succ h]; exact if_pos g
theorem scanM_no {xs : List ByteArray} {k : Nat} (h : k < xs.length) (g : wrongM (prevM xs k) xs[k] ≠ 0) : scanM k (prevM xs k) (xs.drop k) = ((k : Int), wrongM (prevM xs k) xs[k]) := by
  rw [List.drop_eq_getElem_cons h]; exact if_neg g
theorem scanM_end {xs : List ByteArray} {k : Nat} {p : Option ByteArray} (h : ¬ k < xs.length) : scanM k p (xs.drop k) = (0, 0) := by
  rw [List.drop_eq_nil_of_le (by omega)]; rfl
theorem wrongM_chk {p : Option ByteArray} {x : ByteArray} (h : ¬ x.size ≤ 32) : wrongM p x = 3 := if_neg h
theorem wrongM_none {x : ByteArray} (h : x.size ≤ 32) : wrongM none x = 0 := if_pos h
theorem wrongM_up {y x : ByteArray} (h : x.size ≤ 32) (g : ltK y x = true) : wrongM (some y) x = 0 := by unfold wrongM; rw [if_pos h]; exact if_pos g
theorem wrongM_down {y x : ByteArray} (h : x.size ≤ 32) (g : ltK y x = false) : wrongM (some y) x = 6 := by unfold wrongM; rw [if_pos h]; exact if_neg (by rw [g]; simp)
theorem chkF_step {s : Int} {ms : List ByteArray} (h : stepB s = false) : chkF s ms = (-1, 7) := if_neg (by rw [h]; simp)
theorem chkF_long {s : Int} {ms : List ByteArray} (h : stepB s = true) (g : 4999 < ms.length) : chkF s ms = (-1, 3) := by unfold chkF; rw [if_pos h, if_pos g]
theorem chkF_scan {s : Int} {ms : List ByteArray} (h : stepB s = true) (g : ¬ 4999 < ms.length) : chkF s ms = scanM 0 none ms := by unfold chkF; rw [if_pos h, if_neg g]
theorem scanM_good : ∀ {ms : List ByteArray} {i : Nat} {p : Option ByteArray}, (scanM i p ms).2 = 0 → (∀ m ∈ ms, m.size ≤ 32) ∧ (∀ y, p = some y → ∀ m ∈ ms, ltK y m = true) ∧ ms.Pairwise (fun a b => ltK a b = true) ∧ (scanM i p ms).1 = 0
  | [], _, _, _ => ⟨fun _ h => by simp at h, fun _ _ _ h => by simp at h, List.Pairwise.nil, rfl⟩
  | x :: t, i, p, h => by
    by_cases g : wrongM p x = 0
    · rw [scanM, if_pos g] at h ⊢
      obtain ⟨h1, h2, h3, h4⟩ := scanM_good h
      have hx : x.size ≤ 32 := by
        by_cases hx : x.size ≤ 32
        · exact hx
        · rw [wrongM_chk hx] at g; exact absurd g (by decide)
      have hy : ∀ y, p = some y → ltK y x = true := fun y e => by
        subst e
        cases hl : ltK y x
        · rw [wrongM_down hx hl] at g; exact absurd g (by decide)
        · rfl
      refine ⟨fun m hm => ?_, fun y e m hm => ?_, List.pairwise_cons.2 ⟨fun m hm => h2 x rfl m hm, h3⟩, h4⟩
      · rcases List.mem_cons.1 hm with rfl | hm
        · exact hx
        · exact h1 m hm
      · rcases List.mem_cons.1 hm with rfl | hm
        · exact hy y e
        · exact Kl.lt_trans (hy y e) (h2 x rfl m hm)
    · rw [scanM, if_neg g] at h
      exact absurd h g
/-- a fence: a step, and marks that ascend -/
structure Good (s : Int) (ms : List ByteArray) : Prop where
  step : 1 ≤ s ∧ s ≤ 64
  len : ms.length ≤ 4999
  key : ∀ m ∈ ms, m.size ≤ 32
  asc : ms.Pairwise (fun a b => ltK a b = true)
theorem chkF_good {s : Int} {ms : List ByteArray} (h : (chkF s ms).2 = 0) : Good s ms ∧ (chkF s ms).1 = 0 := by
  cases hs : stepB s
  · rw [chkF_step hs] at h; exact absurd h (by decide)
  · by_cases hl : 4999 < ms.length
    · rw [chkF_long hs hl] at h; exact absurd h (by decide)
    · rw [chkF_scan hs hl] at h ⊢
      obtain ⟨h1, _, h3, h4⟩ := scanM_good h
      refine ⟨⟨by simpa [stepB] using hs, by omega, h1, h3⟩, h4⟩
set_option maxRecDepth 100000 in
set_option maxHeartbeats 2000000 in
theorem pCheck7_any (s : Int) (A : Option Addr) (c : Nat) (ms : List ByteArray) (w : World) (hf : SsAt w A ms) (hn : ms.length ≤ 4294967295) (hs : SizedS ms) :
    Calls Try.prog 78 #[.agg #[.int .i64 s, .slice A ms.length c]] w fun e w' => e = .returned (.tuple #[.int .i64 (chkF s ms).1, .int .i64 (chkF s ms).2]) ∧ Below w.heap.size w w' := by
  have HBX := Lib.hid ((Below.refl w.heap.size w).alloc (Nat.le_refl _) (.cells #[.int .i64 s, .slice A ms.length c] 73))
  have hx0 : (w.alloc (.cells #[.int .i64 s, .slice A ms.length c] 73)).cell? ⟨w.heap.size, 0, none⟩ = some (.int .i64 s) := cell_of_row _ w.heap.size 0 _ _ _ (heap_alloc_new w _)
  have hx1 : (w.alloc (.cells #[.int .i64 s, .slice A ms.length c] 73)).cell? ⟨w.heap.size, 1, none⟩ = some (.slice A ms.length c) := cell_of_row _ w.heap.size 1 _ _ _ (heap_alloc_new w _)
  have HX : Hid (∀ w', Below (w.alloc (.cells #[.int .i64 s, .slice A ms.length c] 73)).heap.size (w.alloc (.cells #[.int .i64 s, .slice A ms.length c] 73)) w' → w'.cell? ⟨w.heap.size, 0, none⟩ = some (.int .i64 s) ∧ w'.cell? ⟨w.heap.size, 1, none⟩ = some (.slice A ms.length c)) := Lib.hid fun w' h =>
    ⟨(h.cell (p := ⟨w.heap.size, 0, none⟩) (by simp)).trans hx0, (h.cell (p := ⟨w.heap.size, 1, none⟩) (by simp)).trans hx1⟩
  clear hx0 hx1
  have JS := Lib.hid (fun w => isStep_any s w)
  cases hst : stepB s with
  | false =>
    have HL := Lib.hid (chkF_step (ms := ms) hst)
    rw [hst] at JS
    clear hst
    go_enter Try.func78, Try.ntmps78
    go_wp2_with fail
    refine (JS.out _).mono ?_
    rintro e w1 ⟨rfl, rfl⟩
    go_wp2_with fail
    go_ret2
    exact ⟨retP HL.out rfl rfl, HBX.out⟩
  | true =>
    rw [hst] at JS
    by_cases h64 : 4999 < ms.length
    · have HL := Lib.hid (chkF_long hst h64)
      skip
      skip
      clear hst hf
      go_enter Try.func78, Try.ntmps78
      go_wp2_with fail
      refine (JS.out _).mono ?_
      rintro e w1 ⟨rfl, rfl⟩
      go_wp2_with fail
      go_ret2
      exact ⟨retP HL.out rfl rfl, HBX.out⟩
    have HAL := Lib.hid (chkF_scan hst h64)
    skip
    skip
    clear hst
    go_enter Try.func78, Try.ntmps78
    go_wp2_with fail
    refine (JS.out _).mono ?_
    rintro e w1 ⟨rfl, rfl⟩
    go_wp2_with fail
    go_loopw [18] (fun i wr => ∃ k : Nat, k ≤ ms.length ∧ i = .int .i64 k ∧ Below (w.alloc (.cells #[.int .i64 s, .slice A ms.length c] 73)).heap.size (w.alloc (.cells #[.int .i64 s, .slice A ms.length c] 73)) wr ∧ scanM 0 none ms = scanM k (prevM ms k) (ms.drop k) ∧ (∀ y, prevM ms k = some y → y.size ≤ 32)) (fun i _ => ms.length - (intOf i).toNat)
    case atStart => exact ⟨0, Nat.zero_le _, rfl, Below.refl _ _, rfl, fun y h => by cases h⟩
    case round =>
      obtain ⟨k, hk, rfl, hb, ha, hpv⟩ := hrel
      have HPV := Lib.hid hpv
      clear hpv
      obtain ⟨x0, x1⟩ := HX.out _ hb
      have HB : Hid (Below w.heap.size w wr) := Lib.hid (HBX.out.trans (hb.mono (by simp)))
      have HC := Lib.hid hb
      have hsz := HB.out.size
      have hws : w.heap.size < wr.heap.size := by have := hb.size; simp at this; omega
      have HA := Lib.hid ha
      have hf' := hf.below HB.out (Nat.le_refl _)
      clear ha hb hf
      by_cases hlt : k < ms.length
      rotate_left
      · have HE := Lib.hid (scanM_end (p := prevM ms k) hlt)
        go_wp2_with fail
        go_ret2
        exact ⟨retP (HAL.out.trans (HA.out.trans HE.out)) rfl rfl, HB.out⟩
      rcases hf' with h0 | ⟨b, off, rfl, hbl, hc⟩
      · subst h0; simp at hlt
      have g0 := hc k hlt
      have J := Lib.hid (fun w => kCheck_any ms[k] w (hs.at hlt))
      by_cases hl : ms[k].size ≤ 32
      rotate_left
      · have HL := Lib.hid (scanM_no hlt (by rw [wrongM_chk hl]; decide))
        rw [wrongM_chk hl] at HL
        rw [chk1_no hl] at J
        clear hl hc hs
        go_wp2_with fail
        refine (J.out _).mono ?_
        rintro e w1 ⟨rfl, rfl⟩
        go_wp2_with fail
        go_ret2
        exact ⟨retP (HAL.out.trans (HA.out.trans HL.out)) rfl rfl, HB.out⟩
      rw [chk1_ok hl] at J
      by_cases hk0 : k = 0
      · have hk0' : decide ((0 : Int) < (k : Int)) = false := by simp; omega
        have hk1' : decide (0 < k) = false := by simp; omega
        have HL := Lib.hid (scanM_ok hlt (by subst hk0; exact wrongM_none hl))
        have HKL := Lib.hid hl
        clear hk0 hl hc hs
        go_wp2_with fail
        refine (J.out _).mono ?_
        rintro e w1 ⟨rfl, rfl⟩
        go_wp2_with fail
        go_roundw
        case rel => exact ⟨k + 1, by omega, by go_num, HC.out, HA.out.trans HL.out, fun y h => by cases (prevM_succ hlt).symm.trans h; exact HKL.out⟩
        case measure => simp [intOf]; omega
      · obtain ⟨j, rfl⟩ : ∃ j, k = j + 1 := ⟨k - 1, by omega⟩
        clear hk0
        have hj : j < ms.length := by omega
        have p0 := hc j hj
        have sj := HPV.out _ (prevM_succ hj)
        have hwp : IntKind.i64.wrap (j : Int) = (j : Int) := by rw [IntKind.wrap_i64]; omega
        have hjb : (j : Int) < (ms.length : Int) := by omega
        have hkb : (j : Int) + 1 < (ms.length : Int) := by omega
        have hj1 : decide ((0 : Int) < (j : Int) + 1) = true := by rw [decide_eq_true_eq]; omega
        have JK := Lib.hid (fun w => less_any ms[j] ms[j + 1] w sj hl)
        have HKL := Lib.hid hl
        clear hc hs
        cases ho : ltK ms[j] ms[j + 1] with
        | false =>
          have hw : wrongM (prevM ms (j + 1)) ms[j + 1] = 6 := by rw [prevM_succ hj]; exact wrongM_down hl ho
          have HL := Lib.hid (by have h := scanM_no (k := j + 1) hlt (by rw [hw]; decide); rw [hw] at h; exact h)
          rw [ho] at JK; clear ho
          clear hw sj hl
          go_wp2_with fail
          refine (J.out _).mono ?_
          rintro e w1 ⟨rfl, rfl⟩
          go_wp2_with fail
          refine (JK.out _).mono ?_
          rintro e w2 ⟨rfl, hb2⟩
          have HB2 := Lib.hid (eb_of HB.out hb2 (Nat.le_refl _))
          have HC2 := Lib.hid (eb_of HC.out hb2 (Nat.le_refl _))
          clear hb2
          go_wp2_with fail
          go_ret2
          exact ⟨retP (HAL.out.trans (HA.out.trans HL.out)) (by go_num) rfl, HB2.out⟩
        | true =>
          have HL := Lib.hid (scanM_ok (k := j + 1) hlt (by rw [prevM_succ hj, wrongM_up hl ho]))
          rw [ho] at JK; clear ho
          clear sj hl
          go_wp2_with fail
          refine (J.out _).mono ?_
          rintro e w1 ⟨rfl, rfl⟩
          go_wp2_with fail
          refine (JK.out _).mono ?_
          rintro e w2 ⟨rfl, hb2⟩
          have HB2 := Lib.hid (eb_of HB.out hb2 (Nat.le_refl _))
          have HC2 := Lib.hid (eb_of HC.out hb2 (Nat.le_refl _))
          clear hb2
          go_wp2_with fail
          go_roundw
          case rel => exact ⟨j + 1 + 1, by omega, by go_num, HC2.out, HA.out.trans HL.out, fun y h => by cases (prevM_succ hlt).symm.trans h; exact HKL.out⟩
          case measure => simp [intOf]; omega
end Go.Proofs.Yticdechdgpfdfaa.KK

/-
  Check of fences, of the reference.
-/
namespace Go.Proofs.Yticdechdgpfdfaa.KK
open Go.ChangeShapes Go.WideShapes Go.ChangeAt Go.RowKit Go.Proofs
end Go.Proofs.Yticdechdgpfdfaa.KK

/-
  Fences, plainly: what fits a list, how many marks are less, where a key is, the shortest marks.
-/
namespace Go.Proofs.Yticdechdgpfdfaa.KK
open Go.ChangeShapes Go.WideShapes Go.ChangeAt Go.RowKit Go.Proofs

def kl (x y : El.En) : Bool := Kl.lt (Kl.L x.1) (Kl.L y.1)
/-- keys ascend, none twice -/
def SK (l : List El.En) : Prop := l.Pairwise fun x y => kl x y = true
theorem kl_trans {x y z : El.En} (h : kl x y = true) (g : kl y z = true) : kl x z = true := Kl.lt_trans h g
theorem wrong_zero {p : Option El.En} {x : El.En} (h : wrong p x = 0) : El.chk x = 0 ∧ ∀ y, p = some y → kl y x = true := by
  unfold wrong at h
  by_cases hc : El.chk x = 0
  · rw [if_pos hc] at h
    refine ⟨hc, fun y hy => ?_⟩
    subst hy
    by_cases g : 0 ≤ Kl.ord (Kl.L y.1) (Kl.L x.1)
    · simp only at h; rw [if_pos g] at h; cases h
    · exact Kl.ord_neg.1 (by omega)
  · rw [if_neg hc] at h; exact absurd h hc
theorem scan_zero : ∀ {xs : List El.En} {i : Nat} {p : Option El.En}, (scan i p xs).2 = 0 → (∀ x ∈ xs, El.chk x = 0) ∧ SK xs ∧ ∀ y, p = some y → ∀ x ∈ xs, kl y x = true
  | [], _, _, _ => ⟨fun x hx => (by cases hx), List.Pairwise.nil, fun y _ x hx => (by cases hx)⟩
  | x :: t, i, p, h => by
    by_cases g : wrong p x = 0
    · rw [scan, if_pos g] at h
      obtain ⟨a1, a2, a3⟩ := scan_zero h
      obtain ⟨b1, b2⟩ := wrong_zero g
      refine ⟨fun z hz => ?_, List.pairwise_cons.2 ⟨a3 x rfl, a2⟩, fun y hy z hz => ?_⟩
      · rcases List.mem_cons.1 hz with rfl | hz
        · exact b1
        · exact a1 z hz
      · rcases List.mem_cons.1 hz with rfl | hz
        · exact b2 y hy
        · exact kl_trans (b2 y hy) (a3 x rfl z hz)
    · rw [scan, if_neg g] at h; exact absurd h g
/-- a list that CheckList finds nothing wrong with -/
theorem list_ok {xs : List El.En} (h : (listE xs).2 = 0) : xs.length ≤ 5000 ∧ (∀ x ∈ xs, El.chk x = 0) ∧ SK xs := by
  unfold listE at h
  by_cases g : 5000 < xs.length
  · rw [if_pos g] at h; cases h
  · rw [if_neg g] at h
    obtain ⟨a1, a2, _⟩ := scan_zero h
    exact ⟨by omega, a1, a2⟩

theorem L_inj {a b : ByteArray} (h : Kl.L a = Kl.L b) : a = b := by rw [mk_L a, mk_L b, h]
theorem ltK_irr (a : ByteArray) : ltK a a = false := Kl.lt_irrefl _
theorem ltK_trans {a b c : ByteArray} (h : ltK a b = true) (g : ltK b c = true) : ltK a c = true := Kl.lt_trans h g
theorem ltK_asymm {a b : ByteArray} (h : ltK a b = true) : ltK b a = false := Kl.lt_asymm h
theorem ltK_total {a b : ByteArray} (h : ltK a b = false) (g : ltK b a = false) : a = b := L_inj (Kl.lt_total h g)
theorem leK_lt {a b c : ByteArray} (h : ltK b a = false) (g : ltK b c = true) : ltK a c = true := Kl.le_lt h g
theorem ltK_le {a b c : ByteArray} (h : ltK a b = true) (g : ltK c b = false) : ltK a c = true := Kl.lt_le h g
theorem leK_le {a b c : ByteArray} (h : ltK b a = false) (g : ltK c b = false) : ltK c a = false := Kl.le_le h g
/-- how many marks a fence has that fits a list of n entries -/
def mk (n st : Nat) : Nat := if n = 0 then 0 else (n - 1) / st
def keyAt (xs : List El.En) (i : Nat) : ByteArray := (xs.getD i El.none).1
theorem keyAt_eq {xs : List El.En} {i : Nat} (h : i < xs.length) : keyAt xs i = xs[i].1 := by
  unfold keyAt; rw [List.getD_eq_getElem?_getD, List.getElem?_eq_getElem h]; rfl
theorem keyAt_lt {xs : List El.En} (hs : SK xs) {i j : Nat} (h : i < j) (hj : j < xs.length) : ltK (keyAt xs i) (keyAt xs j) = true := by
  rw [keyAt_eq (by omega), keyAt_eq hj]
  exact List.pairwise_iff_getElem.1 hs i j (by omega) hj h
theorem keyAt_le {xs : List El.En} (hs : SK xs) {i j : Nat} (h : i ≤ j) (hj : j < xs.length) : ltK (keyAt xs j) (keyAt xs i) = false := by
  by_cases e : i = j
  · subst e; exact ltK_irr _
  · exact ltK_asymm (keyAt_lt hs (by omega) hj)
def okM (st : Nat) (xs : List El.En) (i : Nat) (m : ByteArray) : Bool := ltK (keyAt xs ((i + 1) * st - 1)) m && !ltK (keyAt xs ((i + 1) * st)) m
def fitsAt (st : Nat) (xs : List El.En) : Nat → List ByteArray → Bool
  | _, [] => true
  | i, m :: t => okM st xs i m && fitsAt st xs (i + 1) t
def fitsF (st : Nat) (ms : List ByteArray) (xs : List El.En) : Bool := decide (ms.length = mk xs.length st) && fitsAt st xs 0 ms
theorem fitsAt_yes {st : Nat} {xs : List El.En} {ms : List ByteArray} {k : Nat} (h : k < ms.length) (g : okM st xs k ms[k] = true) : fitsAt st xs k (ms.drop k) = fitsAt st xs (k + 1) (ms.drop (k + 1)) := by
  rw [List.drop_eq_getElem_cons h, fitsAt, g, Bool.true_and]
theorem fitsAt_no {st : Nat} {xs : List El.En} {ms : List ByteArray} {k : Nat} (h : k < ms.length) (g : okM st xs k ms[k] = false) : fitsAt st xs k (ms.drop k) = false := by
  rw [List.drop_eq_getElem_cons h, fitsAt, g, Bool.false_and]
theorem fitsAt_end {st : Nat} {xs : List El.En} {ms : List ByteArray} {k : Nat} (h : ¬ k < ms.length) : fitsAt st xs k (ms.drop k) = true := by
  rw [List.drop_eq_nil_of_le (by omega)]; rfl
theorem fitsAt_all {st : Nat} {xs : List El.En} : ∀ {ms : List ByteArray} {i : Nat}, fitsAt st xs i ms = true → ∀ k (h : k < ms.length), okM st xs (i + k) ms[k] = true
  | m :: t, i, h, 0, _ => by rw [fitsAt, Bool.and_eq_true] at h; exact h.1
  | m :: t, i, h, k + 1, hk => by
    rw [fitsAt, Bool.and_eq_true] at h
    have := fitsAt_all h.2 k (by simpa using hk)
    rw [show i + 1 + k = i + (k + 1) by omega] at this
    exact this
theorem fitsAt_of {st : Nat} {xs : List El.En} : ∀ {ms : List ByteArray} {i : Nat}, (∀ k (h : k < ms.length), okM st xs (i + k) ms[k] = true) → fitsAt st xs i ms = true
  | [], _, _ => rfl
  | m :: t, i, h => by
    rw [fitsAt, Bool.and_eq_true]
    refine ⟨h 0 (by simp), fitsAt_of fun k hk => ?_⟩
    have := h (k + 1) (by simpa using hk)
    rw [show i + (k + 1) = i + 1 + k by omega] at this
    exact this
theorem fits_len {st : Nat} {ms : List ByteArray} {xs : List El.En} (h : fitsF st ms xs = true) : ms.length = mk xs.length st := by
  unfold fitsF at h; rw [Bool.and_eq_true, decide_eq_true_eq] at h; exact h.1
theorem fits_ok {st : Nat} {ms : List ByteArray} {xs : List El.En} (h : fitsF st ms xs = true) {k : Nat} (hk : k < ms.length) : ltK (keyAt xs ((k + 1) * st - 1)) ms[k] = true ∧ ltK (keyAt xs ((k + 1) * st)) ms[k] = false := by
  unfold fitsF at h; rw [Bool.and_eq_true] at h
  have := fitsAt_all h.2 k hk
  unfold okM at this
  rw [Nat.zero_add, Bool.and_eq_true, Bool.not_eq_true'] at this
  exact this
theorem fits_of {st : Nat} {ms : List ByteArray} {xs : List El.En} (h : ms.length = mk xs.length st) (g : ∀ k (hk : k < ms.length), ltK (keyAt xs ((k + 1) * st - 1)) ms[k] = true ∧ ltK (keyAt xs ((k + 1) * st)) ms[k] = false) : fitsF st ms xs = true := by
  unfold fitsF
  rw [Bool.and_eq_true, decide_eq_true_eq]
  refine ⟨h, fitsAt_of fun k hk => ?_⟩
  unfold okM
  rw [Nat.zero_add, Bool.and_eq_true, Bool.not_eq_true']
  exact g k hk
theorem mk_idx {n st i : Nat} (hst : 1 ≤ st) (h : i < mk n st) : (i + 1) * st < n := by
  unfold mk at h
  by_cases e : n = 0
  · rw [if_pos e] at h; omega
  · rw [if_neg e] at h
    have := (Nat.le_div_iff_mul_le (show 0 < st by omega)).1 (show i + 1 ≤ (n - 1) / st by omega)
    omega
theorem mk_le {n st : Nat} : mk n st ≤ n := by
  unfold mk
  by_cases e : n = 0
  · rw [if_pos e]; omega
  · rw [if_neg e]; have := Nat.div_le_self (n - 1) st; omega
theorem div_le_mk {n st j : Nat} (h : j < n) : j / st ≤ mk n st := by
  unfold mk; rw [if_neg (by omega)]; exact Nat.div_le_div_right (by omega)
theorem mk_mul {n st b : Nat} (hst : 1 ≤ st) (h : b ≤ mk n st) : b * st ≤ n := by
  unfold mk at h
  by_cases e : n = 0
  · rw [if_pos e] at h; have : b = 0 := by omega
    subst this; omega
  · rw [if_neg e] at h
    have := (Nat.le_div_iff_mul_le (show 0 < st by omega)).1 h
    omega
theorem count_cut {α : Type} (p : α → Bool) (l : List α) (r : Nat) (hr : r ≤ l.length) (h1 : ∀ i (h : i < l.length), i < r → p l[i] = true) (h2 : ∀ i (h : i < l.length), r ≤ i → p l[i] = false) : l.countP p = r := by
  conv => lhs; rw [← List.take_append_drop r l]
  rw [List.countP_append]
  have e1 : (l.take r).countP p = (l.take r).length := List.countP_eq_length.2 fun a ha => by
    obtain ⟨i, hi, rfl⟩ := List.getElem_of_mem ha
    rw [List.getElem_take]
    rw [List.length_take] at hi
    exact h1 i (by omega) (by omega)
  have e2 : (l.drop r).countP p = 0 := List.countP_eq_zero.2 fun a ha => by
    obtain ⟨i, hi, rfl⟩ := List.getElem_of_mem ha
    rw [List.getElem_drop]
    rw [List.length_drop] at hi
    rw [h2 (r + i) (by omega) (by omega)]; simp
  rw [e1, e2, List.length_take]; omega
def lessN (ms : List ByteArray) (key : ByteArray) : Nat := ms.countP fun m => ltK m key
def upN (ms : List ByteArray) (key : ByteArray) : Nat := ms.countP fun m => !ltK key m
def inN (l : List El.En) (key : ByteArray) : Nat := l.countP fun x => ltK x.1 key
theorem upN_le (ms : List ByteArray) (key : ByteArray) : upN ms key ≤ ms.length := List.countP_le_length
theorem lessN_le (ms : List ByteArray) (key : ByteArray) : lessN ms key ≤ ms.length := List.countP_le_length
theorem inN_le (l : List El.En) (key : ByteArray) : inN l key ≤ l.length := List.countP_le_length
theorem countP_mono' {α : Type} {p q : α → Bool} (h : ∀ x, p x = true → q x = true) : ∀ l : List α, l.countP p ≤ l.countP q
  | [] => Nat.le_refl _
  | x :: t => by
    have ih := countP_mono' h t
    simp only [List.countP_cons]
    cases hp : p x with
    | false => simp; omega
    | true => rw [h x hp]; simpa using ih
theorem up_mono (ms : List ByteArray) {a b : ByteArray} (h : ltK b a = false) : upN ms a ≤ upN ms b :=
  countP_mono' (fun m hm => by
    rw [Bool.not_eq_true'] at hm ⊢
    exact leK_le hm h) ms
theorem up_less (ms : List ByteArray) {a b : ByteArray} (h : ltK a b = true) : upN ms a ≤ lessN ms b :=
  countP_mono' (fun m hm => by
    rw [Bool.not_eq_true'] at hm
    exact leK_lt hm h) ms
theorem span_at {st : Nat} {ms : List ByteArray} {xs : List El.En} (hst : 1 ≤ st) (hs : SK xs) (hf : fitsF st ms xs = true) {j : Nat} (hj : j < xs.length) : upN ms (keyAt xs j) = j / st := by
  have hlen := fits_len hf
  refine count_cut _ ms (j / st) (by rw [hlen]; exact div_le_mk hj) (fun i hi hr => ?_) fun i hi hr => ?_
  · have h2 := (fits_ok hf hi).2
    have h3 : (i + 1) * st ≤ j := (Nat.le_div_iff_mul_le (show 0 < st by omega)).1 hr
    rw [Bool.not_eq_true']
    exact leK_le h2 (keyAt_le hs h3 hj)
  · have h1 := (fits_ok hf hi).1
    have h4 := mk_idx hst (by rw [← hlen]; exact hi)
    have h3 : j < (i + 1) * st := (Nat.div_lt_iff_lt_mul (show 0 < st by omega)).1 (by omega)
    rw [Bool.not_eq_false']
    exact leK_lt (keyAt_le hs (show j ≤ (i + 1) * st - 1 by omega) (by omega)) h1
theorem atE_here {key : ByteArray} {xs : List El.En} (hs : SK xs) {j : Nat} (hj : j < xs.length) (hk : xs[j].1 = key) : ∀ d k, k + d = j → atE key k (xs.drop k) = (j : Int)
  | 0, k, h => by
    obtain rfl : k = j := by omega
    exact atE_yes hj hk
  | d + 1, k, h => by
    rw [atE_no (show k < xs.length by omega) ?_]
    · exact atE_here hs hj hk d (k + 1) (by omega)
    · intro e
      have := List.pairwise_iff_getElem.1 hs k j (by omega) hj (by omega)
      unfold kl at this
      rw [e, hk, Kl.lt_irrefl] at this; cases this
theorem atE_none {key : ByteArray} : ∀ {xs : List El.En} {i : Nat}, (∀ x ∈ xs, x.1 ≠ key) → atE key i xs = -1
  | [], _, _ => rfl
  | x :: t, i, h => by
    rw [atE, if_neg (h x (by simp))]
    exact atE_none fun y hy => h y (by simp [hy])
/-- the block of a key, as a list -/
def partE (st : Nat) (ms : List ByteArray) (xs : List El.En) (key : ByteArray) : List El.En := (xs.drop (upN ms key * st)).take (min (upN ms key * st + st) xs.length - upN ms key * st)
theorem part_len {st : Nat} {ms : List ByteArray} {xs : List El.En} {key : ByteArray} (hst : 1 ≤ st) (hlen : ms.length = mk xs.length st) : upN ms key * st ≤ xs.length ∧ (partE st ms xs key).length = min (upN ms key * st + st) xs.length - upN ms key * st := by
  have h1 := mk_mul (n := xs.length) hst (show upN ms key ≤ mk xs.length st by rw [← hlen]; exact upN_le _ _)
  refine ⟨h1, ?_⟩
  unfold partE
  rw [List.length_take, List.length_drop]; omega
theorem part_at {st : Nat} {ms : List ByteArray} {xs : List El.En} {key : ByteArray} {i : Nat} (hi : i < (partE st ms xs key).length) : ∃ h : upN ms key * st + i < xs.length, (partE st ms xs key)[i] = xs[upN ms key * st + i] := by
  have hi' := hi
  unfold partE at hi'
  rw [List.length_take, List.length_drop] at hi'
  refine ⟨by omega, ?_⟩
  simp only [partE, List.getElem_take, List.getElem_drop]
theorem find_is {st : Nat} {ms : List ByteArray} {xs : List El.En} (hst : 1 ≤ st) (hs : SK xs) (hf : fitsF st ms xs = true) (key : ByteArray) :
    (∃ h : inN (partE st ms xs key) key < (partE st ms xs key).length, (partE st ms xs key)[inN (partE st ms xs key) key].1 = key ∧ atE key 0 xs = ((upN ms key * st + inN (partE st ms xs key) key : Nat) : Int)) ∨
    (atE key 0 xs = -1 ∧ ∀ h : inN (partE st ms xs key) key < (partE st ms xs key).length, (partE st ms xs key)[inN (partE st ms xs key) key].1 ≠ key) := by
  by_cases he : ∃ j, ∃ h : j < xs.length, xs[j].1 = key
  · obtain ⟨j, hj, hk⟩ := he
    have hb := span_at hst hs hf hj
    rw [keyAt_eq hj, hk] at hb
    obtain ⟨p1, p2⟩ := part_len (key := key) hst (fits_len hf)
    have h3 : j < (j / st + 1) * st := (Nat.div_lt_iff_lt_mul (show 0 < st by omega)).1 (by omega)
    have h4 : j / st * st ≤ j := Nat.div_mul_le_self j st
    rw [Nat.add_mul, Nat.one_mul] at h3
    have hin : inN (partE st ms xs key) key = j - upN ms key * st := by
      refine count_cut _ _ _ (by rw [p2, hb]; omega) (fun i hi hr => ?_) fun i hi hr => ?_
      · obtain ⟨q1, q2⟩ := part_at hi
        rw [q2]
        have := List.pairwise_iff_getElem.1 hs (upN ms key * st + i) j q1 hj (by omega)
        unfold kl at this; rw [hk] at this; exact this
      · obtain ⟨q1, q2⟩ := part_at hi
        rw [q2]
        have := keyAt_le hs (show j ≤ upN ms key * st + i by rw [hb] at hr ⊢; omega) q1
        rw [keyAt_eq q1, keyAt_eq hj, hk] at this
        exact this
    refine .inl ⟨by rw [hin, p2, hb]; omega, ?_, ?_⟩
    · obtain ⟨q1, q2⟩ := part_at (i := inN (partE st ms xs key) key) (st := st) (ms := ms) (xs := xs) (key := key) (by rw [hin, p2, hb]; omega)
      rw [q2]
      have e : upN ms key * st + inN (partE st ms xs key) key = j := by rw [hin, hb]; omega
      simp only [e]; exact hk
    · rw [hin, show upN ms key * st + (j - upN ms key * st) = j by rw [hb]; omega]
      exact atE_here hs hj hk j 0 (by omega)
  · refine .inr ⟨atE_none fun x hx e => ?_, fun h e => ?_⟩
    · obtain ⟨j, hj, rfl⟩ := List.getElem_of_mem hx
      exact he ⟨j, hj, e⟩
    · obtain ⟨q1, q2⟩ := part_at h
      rw [q2] at e
      exact he ⟨_, q1, e⟩
/-- the fence of a list -/
def btwK (a b : ByteArray) : ByteArray := ⟨(Kl.btw (Kl.L a) (Kl.L b)).toArray⟩
def makeM (st : Nat) (xs : List El.En) : List ByteArray := (List.range (mk xs.length st)).map fun i => btwK (keyAt xs ((i + 1) * st - 1)) (keyAt xs ((i + 1) * st))
theorem makeM_len (st : Nat) (xs : List El.En) : (makeM st xs).length = mk xs.length st := by simp [makeM]
theorem makeM_at {st : Nat} {xs : List El.En} {i : Nat} (h : i < (makeM st xs).length) : (makeM st xs)[i] = btwK (keyAt xs ((i + 1) * st - 1)) (keyAt xs ((i + 1) * st)) := by simp [makeM]
theorem L_btwK (a b : ByteArray) : Kl.L (btwK a b) = Kl.btw (Kl.L a) (Kl.L b) := by simp [btwK, Kl.L]
theorem btw_size {a b : List UInt8} (h : Kl.lt a b = true) : (Kl.btw a b).length ≤ b.length := by
  have := (Kl.btw_law h).2.2.1
  rw [this]
  rcases Kl.below_shape h with ⟨y, b', hc, rfl⟩ | ⟨q, x, a', y, b', hc, rfl, rfl, hxy⟩
  · rw [hc]; simp
  · rw [hc]; simp
theorem btwK_size {a b : ByteArray} (h : ltK a b = true) : (btwK a b).size ≤ b.size := by
  have := btw_size h
  rw [← L_btwK, Kl.L_length, Kl.L_length] at this; exact this
theorem mid_long {a t b : List UInt8} (h1 : Kl.lt a t = true) (h2 : Kl.lt b t = false) (h3 : Kl.lt a b = true) : (Kl.btw a b).length ≤ t.length := by
  rw [(Kl.btw_law h3).2.2.1]
  have h := Kl.cm_three a t b (Kl.lt_asymm h1) h2
  have h4 := Kl.cm_le a t
  have h5 : Kl.cm a b ≤ Kl.cm a t := by rw [h]; exact Nat.min_le_left _ _
  by_cases e : t.length = Kl.cm a b
  · have h6 : Kl.cm a t = t.length := by omega
    have h7 := Kl.cm_take a t
    rw [h6, List.take_length] at h7
    have : t <+: a := by rw [← h7]; exact List.take_prefix _ _
    rw [Kl.lt_pre t a this] at h1; cases h1
  · omega
theorem makeM_ok {st : Nat} {xs : List El.En} (hst : 1 ≤ st) (hs : SK xs) {i : Nat} (h : i < mk xs.length st) : ltK (keyAt xs ((i + 1) * st - 1)) (keyAt xs ((i + 1) * st)) = true := by
  have h4 := mk_idx hst h
  have : 1 ≤ (i + 1) * st := Nat.le_trans hst (by rw [Nat.add_mul, Nat.one_mul]; omega)
  exact keyAt_lt hs (by omega) h4
theorem make_fits {st : Nat} {xs : List El.En} (hst : 1 ≤ st) (hs : SK xs) : fitsF st (makeM st xs) xs = true := by
  refine fits_of (makeM_len st xs) fun k hk => ?_
  rw [makeM_at hk]
  have h := makeM_ok hst hs (by rw [← makeM_len st xs]; exact hk)
  have := Kl.btw_law h
  unfold ltK
  rw [L_btwK]
  exact ⟨this.1, this.2.1⟩
theorem make_short {st : Nat} {ms : List ByteArray} {xs : List El.En} (hst : 1 ≤ st) (hs : SK xs) (hf : fitsF st ms xs = true) {i : Nat} (hi : i < (makeM st xs).length) (hj : i < ms.length) :
    (makeM st xs)[i].size ≤ ms[i].size ∧ ((makeM st xs)[i].size = ms[i].size → ltK ms[i] (makeM st xs)[i] = false) := by
  rw [makeM_at hi]
  have h := makeM_ok hst hs (by rw [← makeM_len st xs]; exact hi)
  have hk := fits_ok hf hj
  refine ⟨?_, fun e => ?_⟩
  · have := mid_long hk.1 hk.2 h
    rw [← L_btwK, Kl.L_length, Kl.L_length] at this; exact this
  · unfold ltK; rw [L_btwK]
    refine (Kl.btw_law h).2.2.2.2 _ hk.1 hk.2 ?_
    rw [← L_btwK, Kl.L_length, Kl.L_length]; omega
theorem make_good {st : Nat} {xs : List El.En} (hst : 1 ≤ st ∧ st ≤ 64) (hn : xs.length ≤ 5000) (hc : ∀ x ∈ xs, El.chk x = 0) (hs : SK xs) : Good (st : Int) (makeM st xs) where
  step := by omega
  len := by
    rw [makeM_len]; unfold mk
    by_cases e : xs.length = 0
    · rw [if_pos e]; omega
    · rw [if_neg e]; have := Nat.div_le_self (xs.length - 1) st; omega
  key := fun m hm => by
    obtain ⟨i, hi, rfl⟩ := List.getElem_of_mem hm
    rw [makeM_at hi]
    have h' : i < mk xs.length st := by rw [← makeM_len st xs]; exact hi
    have h := makeM_ok hst.1 hs h'
    have h4 := mk_idx hst.1 h'
    have h5 := (El.chk_of (hc _ (List.getElem_mem h4))).1
    have := btwK_size h
    rw [← keyAt_eq h4] at h5
    omega
  asc := by
    rw [List.pairwise_iff_getElem]
    intro i j hi hj hij
    have f := make_fits hst.1 hs
    have f1 := (fits_ok f hi).2
    have f2 := (fits_ok f hj).1
    have h4 := mk_idx hst.1 (show j < mk xs.length st by rw [← makeM_len st xs]; exact hj)
    have h5 : (i + 1) * st ≤ (j + 1) * st - 1 := by
      have : (i + 1) * st + st ≤ (j + 1) * st := by
        rw [show (i + 1) * st + st = (i + 1 + 1) * st by rw [Nat.add_mul (i + 1) 1, Nat.one_mul]]
        exact Nat.mul_le_mul_right _ (by omega)
      omega
    exact leK_lt (leK_le f1 (keyAt_le hs h5 (by omega))) f2
theorem good_scan {ms : List ByteArray} : ∀ {i : Nat} {p : Option ByteArray}, (∀ m ∈ ms, m.size ≤ 32) → ms.Pairwise (fun a b => ltK a b = true) → (∀ y, p = some y → ∀ m ∈ ms, ltK y m = true) → scanM i p ms = (0, 0) := by
  induction ms with
  | nil => intros; rfl
  | cons x t ih =>
    intro i p h1 h2 h3
    rw [List.pairwise_cons] at h2
    have hx := h1 x (by simp)
    have hw : wrongM p x = 0 := by
      cases p with
      | none => exact wrongM_none hx
      | some y => exact wrongM_up hx (h3 y rfl x (by simp))
    rw [scanM, if_pos hw]
    exact ih (fun m hm => h1 m (by simp [hm])) h2.2 fun y e m hm => by cases e; exact h2.1 m hm
theorem good_chk {s : Int} {ms : List ByteArray} (h : Good s ms) : chkF s ms = (0, 0) := by
  rw [chkF_scan (by simp [stepB, h.step]) (by have := h.len; omega)]
  exact good_scan h.key h.asc fun y e => by cases e
def sizeM (ms : List ByteArray) : Nat := (ms.map (·.size)).sum
theorem sizeM_next {ms : List ByteArray} {k : Nat} (h : k < ms.length) : sizeM (ms.take (k + 1)) = sizeM (ms.take k) + ms[k].size := by
  unfold sizeM; rw [List.take_succ_eq_append_getElem h]; simp only [List.map_append, List.sum_append, List.map_cons, List.map_nil, List.sum_cons, List.sum_nil, Nat.add_zero]
theorem sizeM_le : ∀ {a b : List ByteArray}, a.length = b.length → (∀ i (h : i < a.length) (g : i < b.length), a[i].size ≤ b[i].size) → sizeM a ≤ sizeM b
  | [], [], _, _ => Nat.le_refl _
  | x :: a, y :: b, h, g => by
    have h0 := g 0 (by simp) (by simp)
    have ih := sizeM_le (a := a) (b := b) (by simpa using h) fun i hi hj => g (i + 1) (by simpa using hi) (by simpa using hj)
    unfold sizeM at ih ⊢
    simp at h0 ⊢
    omega
theorem sizeM_bound : ∀ {ms : List ByteArray}, (∀ m ∈ ms, m.size ≤ 32) → sizeM ms ≤ 32 * ms.length
  | [], _ => Nat.le_refl _
  | x :: a, h => by
    have h0 := h x (by simp)
    have ih := sizeM_bound (ms := a) fun m hm => h m (by simp [hm])
    unfold sizeM at ih ⊢
    simp at h0 ⊢
    omega
end Go.Proofs.Yticdechdgpfdfaa.KK

/-
  Fences: how many marks a list needs; its blocks, and their borders.
-/
namespace Go.Proofs.Yticdechdgpfdfaa.KK
open Go.ChangeShapes Go.WideShapes Go.ChangeAt Go.RowKit Go.Proofs

theorem quo_mk {n st : Nat} (h : n ≠ 0) : ((n : Int) - 1) / (st : Int) = (mk n st : Int) := by
  unfold mk; rw [if_neg h, show (n : Int) - 1 = ((n - 1 : Nat) : Int) by omega]; rfl
theorem mk_small {n st : Nat} (h : n ≤ 4294967295) : mk n st ≤ 4294967295 := Nat.le_trans mk_le h
set_option maxHeartbeats 1000000 in
theorem marksFor_any (n st : Nat) (w : World) (hn : n ≤ 4294967295) (h1 : 1 ≤ st) (h64 : st ≤ 64) :
    Calls Try.prog 69 #[.int .i64 n, .int .i64 st] w fun e w' => e = .returned (.int .i64 (mk n st)) ∧ w = w' := by
  by_cases h0 : n = 0
  · subst h0
    go_enter Try.func69, Try.ntmps69
    go_wp2_with fail
    go_ret
    exact ⟨retI (by simp [mk]), rfl⟩
  · have H := Lib.hid (quo_mk (st := st) h0)
    have hs := mk_small (st := st) hn
    have h0' : (n : Int) ≠ 0 := by omega
    have hst0 : (st : Int) ≠ 0 := by omega
    have hst1 : (st : Int) ≠ -1 := by omega
    go_enter Try.func69, Try.ntmps69
    go_wp2_with fail
    go_ret
    exact ⟨retI H.out, rfl⟩
theorem mul_small {i st : Nat} (hi : i ≤ 100000) (h64 : st ≤ 64) : i * st ≤ 6400000 := by
  have := Nat.mul_le_mul hi h64; omega
set_option maxHeartbeats 1000000 in
theorem bounds_any (n st i : Nat) (w : World) (hn : n ≤ 4294967295) (h64 : st ≤ 64) (hi : i ≤ 100000) :
    Calls Try.prog 73 #[.int .i64 n, .int .i64 st, .int .i64 i] w fun e w' => e = .returned (.tuple #[.int .i64 (i * st : Nat), .int .i64 (min (i * st + st) n : Nat)]) ∧ w = w' := by
  have hm := mul_small hi h64
  have hc : (i : Int) * (st : Int) = ((i * st : Nat) : Int) := by simp
  have HC := Lib.hid hc
  generalize i * st = m at *
  have hw : IntKind.i64.wrap ((i : Int) * (st : Int)) = (m : Int) := by rw [hc, IntKind.wrap_i64]; omega
  clear hc
  have H : Hid (min ((m : Int) + (st : Int)) (n : Int) = ((min (m + st) n : Nat) : Int)) := Lib.hid (by omega)
  go_enter Try.func73, Try.ntmps73
  go_wp2_with fail
  go_ret2
  exact ⟨retT rfl H.out, rfl⟩
def blN (n st : Nat) : Nat := if n = 0 then 0 else (n - 1) / st + 1
theorem blN_mk (n st : Nat) : max ((blN n st : Int) - 1) 0 = (mk n st : Int) := by
  unfold blN mk
  by_cases h : n = 0
  · rw [if_pos h, if_pos h]; rfl
  · rw [if_neg h, if_neg h]
    have : (0 : Int) ≤ (((n - 1) / st : Nat) : Int) := Int.natCast_nonneg _
    omega
theorem bl_more {n st k : Nat} (hst : 1 ≤ st) (h : k * st < n) : k + 1 ≤ blN n st := by
  unfold blN; rw [if_neg (by omega)]
  have := (Nat.le_div_iff_mul_le (show 0 < st by omega)).2 (show k * st ≤ n - 1 by omega)
  omega
theorem bl_end {n st k : Nat} (hst : 1 ≤ st) (h : ¬ k * st < n) : blN n st ≤ k := by
  unfold blN
  by_cases e : n = 0
  · rw [if_pos e]; omega
  · rw [if_neg e]
    have := (Nat.div_lt_iff_lt_mul (show 0 < st by omega)).2 (show n - 1 < k * st by omega)
    omega
end Go.Proofs.Yticdechdgpfdfaa.KK

/-
  Fences: a block of a list, and its borders.
-/
namespace Go.Proofs.Yticdechdgpfdfaa.KK
open Go.ChangeShapes Go.WideShapes Go.ChangeAt Go.RowKit Go.Proofs

theorem EsAt.sub {w : World} {A : Option Addr} {xs : List El.En} {from_ n : Nat} (h : EsAt w A xs) (hn : 0 < n) (hle : from_ + n ≤ xs.length) : ∃ b off, A = some ⟨b, off, none⟩ ∧ EsAt w (some ⟨b, off + from_ * 4, none⟩) ((xs.drop from_).take n) := by
  rcases h with h | ⟨b, off, hA, hlt, hc⟩
  · subst h; simp at hle; omega
  · refine ⟨b, off, hA, .inr ⟨b, _, rfl, hlt, fun i hi => ?_⟩⟩
    rw [List.length_take, List.length_drop] at hi
    have := hc (from_ + i) (by omega)
    simp only [List.getElem_take, List.getElem_drop]
    rw [show off + from_ * 4 + i * 4 = off + (from_ + i) * 4 by omega]
    exact this
set_option maxHeartbeats 1000000 in
theorem block_any (A : Option Addr) (c : Nat) (xs : List El.En) (st i : Nat) (w : World) (hf : EsAt w A xs) (hn : xs.length ≤ 4294967295) (hc : xs.length ≤ c) (h64 : st ≤ 64) (hi : i ≤ 100000) (h1 : 1 ≤ st) (hlt : i * st < xs.length) :
    Calls Try.prog 76 #[.slice A xs.length c, .int .i64 st, .int .i64 i] w fun e w' => (∃ A', e = .returned (.slice A' (min (i * st + st) xs.length - i * st) (min (i * st + st) xs.length - i * st)) ∧ EsAt w' A' ((xs.drop (i * st)).take (min (i * st + st) xs.length - i * st))) ∧ w = w' := by
  have J := Lib.hid (fun w => bounds_any xs.length st i w hn h64 hi)
  obtain ⟨b, off, rfl, hsub⟩ := hf.sub (from_ := i * st) (n := min (i * st + st) xs.length - i * st) (by omega) (by omega)
  have HS := Lib.hid hsub
  clear hsub hf
  generalize xs.length = n at *
  generalize i * st = m at *
  have h2 : m ≤ min (m + st) n := by omega
  have h3 : min (m + st) n ≤ c := by omega
  have h4 : m < min (m + st) n := by omega
  have h5 : ((min (m + st) n : Nat) : Int) ≤ (c : Int) := by omega
  have h6 : (m : Int) ≤ ((min (m + st) n : Nat) : Int) := by omega
  generalize min (m + st) n = t at *
  go_enter Try.func76, Try.ntmps76
  go_wp2_with fail
  refine (J.out _).mono ?_
  rintro e w1 ⟨rfl, rfl⟩
  go_wp2_with fail
  go_ret
  exact ⟨⟨_, rfl, HS.out⟩, rfl⟩
set_option maxHeartbeats 1000000 in
theorem block_nil (A : Option Addr) (c : Nat) (st : Nat) (w : World) (hA : A = none → c = 0) (h64 : st ≤ 64) :
    Calls Try.prog 76 #[.slice A (0 : Nat) c, .int .i64 st, .int .i64 (0 : Nat)] w fun e w' => (∃ A', e = .returned (.slice A' 0 0)) ∧ w = w' := by
  have J := Lib.hid (fun w => by have K := bounds_any 0 st 0 w (by omega) h64 (by omega); rw [show 0 * st = 0 by omega, show min (0 + st) 0 = 0 by omega] at K; exact K)
  cases A with
  | none =>
    obtain rfl := hA rfl
    go_enter Try.func76, Try.ntmps76
    go_wp2_with fail
    refine (J.out _).mono ?_
    rintro e w1 ⟨rfl, rfl⟩
    go_wp2_with fail
    go_ret
    exact ⟨⟨_, rfl⟩, rfl⟩
  | some a =>
    by_cases h0 : c = 0
    · subst h0
      go_enter Try.func76, Try.ntmps76
      go_wp2_with fail
      refine (J.out _).mono ?_
      rintro e w1 ⟨rfl, rfl⟩
      go_wp2_with fail
      go_ret
      exact ⟨⟨_, rfl⟩, rfl⟩
    · go_enter Try.func76, Try.ntmps76
      go_wp2_with fail
      refine (J.out _).mono ?_
      rintro e w1 ⟨rfl, rfl⟩
      go_wp2_with fail
      go_ret
      exact ⟨⟨_, rfl⟩, rfl⟩
theorem block_key {w : World} {A : Option Addr} {xs : List El.En} {from_ n j : Nat} (h : EsAt w A ((xs.drop from_).take n)) (hj : j < n) (hle : from_ + n ≤ xs.length) : ∃ b off, A = some ⟨b, off, none⟩ ∧ w.cell? ⟨b, off + j * 4, none⟩ = some (.string (keyAt xs (from_ + j))) := by
  have e2 : ((xs.drop from_).take n).length = n := by rw [List.length_take, List.length_drop]; omega
  rcases h with h | ⟨b, off, rfl, _, hcc⟩
  · rw [h] at e2; simp at e2; omega
  · have := (hcc j (by omega)).1
    simp only [List.getElem_take, List.getElem_drop] at this
    exact ⟨b, off, rfl, by rw [this, keyAt_eq (by omega)]⟩
theorem block_last (A : Option Addr) (c : Nat) (xs : List El.En) (st i : Nat) (w : World) (hf : EsAt w A xs) (hn : xs.length ≤ 5000) (hc : xs.length ≤ c) (h64 : st ≤ 64) (h1 : 1 ≤ st) (hlt : (i + 1) * st < xs.length) :
    Calls Try.prog 76 #[.slice A xs.length c, .int .i64 st, .int .i64 i] w fun e w' => (∃ b off, e = .returned (.slice (some ⟨b, off, none⟩) st st) ∧ w'.cell? ⟨b, off + (st - 1) * 4, none⟩ = some (.string (keyAt xs ((i + 1) * st - 1)))) ∧ w = w' := by
  have hi : i + 1 ≤ (i + 1) * st := Nat.le_mul_of_pos_right _ h1
  have hm : (i + 1) * st = i * st + st := by rw [Nat.add_mul, Nat.one_mul]
  refine (block_any A c xs st i w hf (by omega) hc h64 (by omega) h1 (by omega)).mono ?_
  rintro e w' ⟨⟨A', rfl, f⟩, rfl⟩
  have e1 : min (i * st + st) xs.length - i * st = st := by omega
  rw [e1] at f ⊢
  obtain ⟨b, off, rfl, g⟩ := block_key (j := st - 1) f (by omega) (by omega)
  refine ⟨⟨b, off, rfl, ?_⟩, rfl⟩
  rw [g, show i * st + (st - 1) = (i + 1) * st - 1 by omega]
theorem block_first (A : Option Addr) (c : Nat) (xs : List El.En) (st i : Nat) (w : World) (hf : EsAt w A xs) (hn : xs.length ≤ 5000) (hc : xs.length ≤ c) (h64 : st ≤ 64) (h1 : 1 ≤ st) (hlt : i * st < xs.length) :
    Calls Try.prog 76 #[.slice A xs.length c, .int .i64 st, .int .i64 i] w fun e w' => (∃ b off d, e = .returned (.slice (some ⟨b, off, none⟩) (d + 1) (d + 1)) ∧ d ≤ 5000 ∧ w'.cell? ⟨b, off, none⟩ = some (.string (keyAt xs (i * st)))) ∧ w = w' := by
  have hi : i ≤ i * st := Nat.le_mul_of_pos_right _ h1
  refine (block_any A c xs st i w hf (by omega) hc h64 (by omega) h1 (by omega)).mono ?_
  rintro e w' ⟨⟨A', rfl, f⟩, rfl⟩
  obtain ⟨b, off, rfl, g⟩ := block_key (j := 0) f (by omega) (by omega)
  refine ⟨⟨b, off, min (i * st + st) xs.length - i * st - 1, ?_, by omega, by simpa using g⟩, rfl⟩
  rw [show min (i * st + st) xs.length - i * st - 1 + 1 = min (i * st + st) xs.length - i * st by omega]
set_option maxHeartbeats 2000000 in
theorem border_any (A : Option Addr) (c : Nat) (xs : List El.En) (st i : Nat) (w : World) (hf : EsAt w A xs) (hn : xs.length ≤ 5000) (hc : xs.length ≤ c) (h64 : st ≤ 64) (h1 : 1 ≤ st) (hlt : (i + 1) * st < xs.length) :
    Calls Try.prog 70 #[.slice A xs.length c, .int .i64 st, .int .i64 i] w fun e w' => e = .returned (.tuple #[.string (keyAt xs ((i + 1) * st - 1)), .string (keyAt xs ((i + 1) * st))]) ∧ Below w.heap.size w w' := by
  have hi : i + 1 ≤ (i + 1) * st := Nat.le_mul_of_pos_right _ h1
  have J1 := Lib.hid (block_last A c xs st i w hf hn hc h64 h1 hlt)
  have J2 := Lib.hid (block_first A c xs st (i + 1) w hf hn hc h64 h1 hlt)
  have hi5 : i ≤ 5000 := by omega
  generalize keyAt xs ((i + 1) * st - 1) = x1 at *
  generalize keyAt xs ((i + 1) * st) = x2 at *
  generalize xs.length = n at *
  clear hlt hi hf
  obtain ⟨s, rfl⟩ : ∃ s, st = s + 1 := ⟨st - 1, by omega⟩
  go_enter Try.func70, Try.ntmps70
  go_wp2_with fail
  refine J1.out.mono ?_
  rintro e w1 ⟨⟨b1, o1, rfl, g1⟩, rfl⟩
  rw [show s + 1 - 1 = s by omega] at g1
  go_wp2_with fail
  refine J2.out.mono ?_
  rintro e w2 ⟨⟨b2, o2, d, rfl, hd, g2⟩, rfl⟩
  go_wp2_with fail
  go_quiet (fail)
  go_wp2_with fail
  go_ret2
  exact ⟨rfl, below_drewN' _⟩
end Go.Proofs.Yticdechdgpfdfaa.KK

/-
  Fences: what fits, on both sides.
-/
namespace Go.Proofs.Yticdechdgpfdfaa.KK
open Go.ChangeShapes Go.WideShapes Go.ChangeAt Go.RowKit Go.Proofs

theorem keyAt_size {xs : List El.En} (h : ∀ x ∈ xs, x.1.size ≤ 32) {i : Nat} (hi : i < xs.length) : (keyAt xs i).size ≤ 32 := by
  rw [keyAt_eq hi]; exact h _ (List.getElem_mem hi)
theorem fitsF_no {st : Nat} {ms : List ByteArray} {xs : List El.En} (h : ms.length ≠ mk xs.length st) : fitsF st ms xs = false := by
  unfold fitsF; rw [decide_eq_false h, Bool.false_and]
theorem fitsF_yes {st : Nat} {ms : List ByteArray} {xs : List El.En} (h : ms.length = mk xs.length st) : fitsF st ms xs = fitsAt st xs 0 ms := by
  unfold fitsF; rw [decide_eq_true h, Bool.true_and]
theorem okM_f1 {st i : Nat} {xs : List El.En} {m : ByteArray} (h : ltK (keyAt xs ((i + 1) * st - 1)) m = false) : okM st xs i m = false := by unfold okM; rw [h, Bool.false_and]
theorem okM_f2 {st i : Nat} {xs : List El.En} {m : ByteArray} (h : ltK (keyAt xs ((i + 1) * st)) m = true) : okM st xs i m = false := by unfold okM; rw [h, Bool.not_true, Bool.and_false]
theorem okM_t {st i : Nat} {xs : List El.En} {m : ByteArray} (h : ltK (keyAt xs ((i + 1) * st - 1)) m = true) (g : ltK (keyAt xs ((i + 1) * st)) m = false) : okM st xs i m = true := by unfold okM; rw [h, g]; rfl
theorem num_ne {a b : Nat} (h : a ≠ b) : ((a : Int) == (b : Int)) = false ∧ ((a : Int) != (b : Int)) = true := by
  have : (a : Int) ≠ (b : Int) := by omega
  exact ⟨by rw [beq_eq_false_iff_ne]; exact this, by rw [bne_iff_ne]; exact this⟩
end Go.Proofs.Yticdechdgpfdfaa.KK

/-
  Fences: what fits, in the reference.
-/
namespace Go.Proofs.Yticdechdgpfdfaa.KK
open Go.ChangeShapes Go.WideShapes Go.ChangeAt Go.RowKit Go.Proofs

theorem EsAt.key {w : World} {A : Option Addr} {xs : List El.En} (h : EsAt w A xs) (hne : 0 < xs.length) : ∃ b off, A = some ⟨b, off, none⟩ ∧ b < w.heap.size ∧ ∀ i, i < xs.length → w.cell? ⟨b, off + i * 4, none⟩ = some (.string (keyAt xs i)) := by
  rcases h with h | ⟨b, off, hA, hlt, hc⟩
  · subst h; simp at hne
  · exact ⟨b, off, hA, hlt, fun i hi => by rw [keyAt_eq hi]; exact (hc i hi).1⟩
end Go.Proofs.Yticdechdgpfdfaa.KK

/-
  Fences: Fits and Size, on both sides.
-/
namespace Go.Proofs.Yticdechdgpfdfaa.KK
open Go.ChangeShapes Go.WideShapes Go.ChangeAt Go.RowKit Go.Proofs

def bothE (s : Int) (ms : List ByteArray) (xs : List El.En) : Int := if (chkF s ms).2 ≠ 0 then (chkF s ms).2 else (listE xs).2
theorem bothE_no {s : Int} {ms : List ByteArray} {xs : List El.En} (h : (chkF s ms).2 ≠ 0) : bothE s ms xs = (chkF s ms).2 := if_pos h
theorem bothE_ok {s : Int} {ms : List ByteArray} {xs : List El.En} (h : (chkF s ms).2 = 0) : bothE s ms xs = (listE xs).2 := if_neg (by rw [h]; simp)
theorem bothE_zero {s : Int} {ms : List ByteArray} {xs : List El.En} (h : bothE s ms xs = 0) : (chkF s ms).2 = 0 ∧ (listE xs).2 = 0 := by
  by_cases g : (chkF s ms).2 = 0
  · rw [bothE_ok g] at h; exact ⟨g, h⟩
  · rw [bothE_no g] at h; exact absurd h g
def fitsR (s : Int) (ms : List ByteArray) (xs : List El.En) : Bool × Int := if bothE s ms xs ≠ 0 then (false, bothE s ms xs) else (fitsF s.toNat ms xs, 0)
theorem fitsR_no {s : Int} {ms : List ByteArray} {xs : List El.En} (h : bothE s ms xs ≠ 0) : fitsR s ms xs = (false, bothE s ms xs) := if_pos h
theorem fitsR_ok {s : Int} {ms : List ByteArray} {xs : List El.En} (h : bothE s ms xs = 0) : fitsR s ms xs = (fitsF s.toNat ms xs, 0) := if_neg (by rw [h]; simp)
theorem retF {a c : Bool} {b d : Int} {p : Bool × Int} (h : p = (a, b)) (g : a = c) (k : b = d) : Ending.returned (.tuple #[.bool c, .int .i64 d]) = .returned (.tuple #[.bool p.1, .int .i64 p.2]) := by rw [h, g, k]
theorem retZ {a b : Int} {p : Int × Int} (h : p = (a, b)) : Ending.returned (.tuple #[.int .i64 a, .int .i64 b]) = .returned (.tuple #[.int .i64 p.1, .int .i64 p.2]) := by rw [h]
/-- what both checks leave -/
structure Pair (st : Nat) (ms : List ByteArray) (xs : List El.En) : Prop where
  lo : 1 ≤ st
  hi : st ≤ 64
  good : Good (st : Int) ms
  len : xs.length ≤ 5000
  chk : ∀ x ∈ xs, El.chk x = 0
  asc : SK xs
theorem pair_of {s : Int} {ms : List ByteArray} {xs : List El.En} (h : bothE s ms xs = 0) : ∃ st : Nat, s = (st : Int) ∧ Pair st ms xs := by
  obtain ⟨h1, h2⟩ := bothE_zero h
  obtain ⟨g, _⟩ := chkF_good h1
  obtain ⟨a1, a2, a3⟩ := list_ok h2
  have := g.step
  exact ⟨s.toNat, by omega, by omega, by omega, by rw [show ((s.toNat : Nat) : Int) = s by omega]; exact g, a1, a2, a3⟩
theorem Pair.key {st : Nat} {ms : List ByteArray} {xs : List El.En} (h : Pair st ms xs) : ∀ x ∈ xs, x.1.size ≤ 32 := fun x hx => (El.chk_of (h.chk x hx)).1
def sizeE (s : Int) (ms : List ByteArray) : Int × Int := if (chkF s ms).2 ≠ 0 then (0, (chkF s ms).2) else (((sizeM ms : Nat) : Int), 0)
theorem sizeE_no {s : Int} {ms : List ByteArray} (h : (chkF s ms).2 ≠ 0) : sizeE s ms = (0, (chkF s ms).2) := if_pos h
theorem sizeE_ok {s : Int} {ms : List ByteArray} (h : (chkF s ms).2 = 0) : sizeE s ms = (((sizeM ms : Nat) : Int), 0) := if_neg (by rw [h]; simp)
end Go.Proofs.Yticdechdgpfdfaa.KK

/-
  Fences: sort.Search, and how many at the beginning are low.
-/
namespace Go.Proofs.Yticdechdgpfdfaa.KK
open Go.ChangeShapes Go.WideShapes Go.ChangeAt Go.RowKit Go.Proofs

theorem str_box (v : Value) (t : TypeId) (w : World) : (w.alloc (.cells #[v] t)).cell? ⟨w.heap.size, 0, none⟩ = some v := cell_of_row _ w.heap.size 0 _ _ _ (heap_alloc_new w _)
set_option maxRecDepth 100000 in
set_option maxHeartbeats 2000000 in
theorem Search_S (n : Nat) (q : Nat → Bool) (pa pb : Option Addr) (w : World) (hn : n ≤ 4294967295)
    (hf : ∀ i, i < n → ∀ w1, Below w.heap.size w w1 → Calls Try.prog 83 #[.int .i64 i, .pointer pa, .pointer pb] w1 fun e w' => e = .returned (.bool (q i)) ∧ Below w1.heap.size w1 w')
    (hmono : ∀ a b, a ≤ b → b < n → q a = true → q b = true) :
    Calls Try.prog 61 #[.int .i64 n, .func (.func 83) #[] #[.pointer pa, .pointer pb]] w fun e w' => (∃ r : Nat, e = .returned (.int .i64 r) ∧ r ≤ n ∧ (∀ t, t < r → q t = false) ∧ (∀ t, r ≤ t → t < n → q t = true)) ∧ Below w.heap.size w w' := by
  have HF := Lib.hid hf
  have HM := Lib.hid hmono
  clear hf hmono
  go_enter Try.func61, Try.ntmps61
  go_wp2_with fail
  go_loopw [5, 6] (fun i j wr => ∃ lo hi : Nat, i = .int .i64 lo ∧ j = .int .i64 hi ∧ lo ≤ hi ∧ hi ≤ n ∧ Below w.heap.size w wr ∧ Hid ((∀ t, t < lo → q t = false) ∧ (∀ t, hi ≤ t → t < n → q t = true))) (fun i j _ => (intOf j - intOf i).toNat)
  case atStart => exact ⟨0, n, rfl, rfl, Nat.zero_le _, Nat.le_refl _, Below.refl _ _, Lib.hid ⟨fun t h => by omega, fun t h g => by omega⟩⟩
  case round =>
    obtain ⟨lo, hi, rfl, rfl, hlh, hhn, hb, HI⟩ := hrel
    have HB := Lib.hid hb
    clear hb
    by_cases hlt : lo < hi
    · obtain ⟨m, hm⟩ : ∃ m, (lo + hi) / 2 = m := ⟨_, rfl⟩
      have hm1 : ((lo : Int) + (hi : Int)) / 2 = (m : Int) := by omega
      have hm2 : lo ≤ m ∧ m < hi := by omega
      have J := Lib.hid (HF.out m (by omega) wr HB.out)
      clear hm
      obtain ⟨hm3, hm4⟩ := hm2
      cases hq : q m with
      | false =>
        rw [hq] at J
        have HQ := Lib.hid hq
        clear hq
        go_wp2_with fail
        refine J.out.mono ?_
        rintro e w1 ⟨rfl, hb1⟩
        have HB1 := Lib.hid (eb_of HB.out hb1 (Nat.le_refl _))
        clear hb1
        go_wp2_with fail
        go_roundw
        case rel =>
          refine ⟨m + 1, hi, by go_num, rfl, by omega, hhn, HB1.out, Lib.hid ⟨fun t ht => ?_, HI.out.2⟩⟩
          cases h : q t with
          | false => rfl
          | true => have := HM.out t m (by omega) (by omega) h; rw [HQ.out] at this; cases this
        case measure => simp [intOf]; omega
      | true =>
        rw [hq] at J
        have HQ := Lib.hid hq
        clear hq
        go_wp2_with fail
        refine J.out.mono ?_
        rintro e w1 ⟨rfl, hb1⟩
        have HB1 := Lib.hid (eb_of HB.out hb1 (Nat.le_refl _))
        clear hb1
        go_wp2_with fail
        go_roundw
        case rel => exact ⟨lo, m, rfl, by go_num, by omega, by omega, HB1.out, Lib.hid ⟨HI.out.1, fun t ht htn => HM.out m t ht htn HQ.out⟩⟩
        case measure => simp [intOf]; omega
    · have he : lo = hi := by omega
      subst he
      go_wp2_with fail
      go_ret
      exact ⟨⟨lo, rfl, hhn, HI.out.1, HI.out.2⟩, HB.out⟩
theorem blockOf1_any (m key : ByteArray) (kb : Nat) (w : World) (hk : w.cell? ⟨kb, 0, none⟩ = some (.string key)) (h1 : m.size ≤ 32) (h2 : key.size ≤ 32) :
    Calls Try.prog 80 #[.string m, .pointer (some ⟨kb, 0, none⟩)] w fun e w' => e = .returned (.bool (!ltK key m)) ∧ Below w.heap.size w w' := by
  have J := Lib.hid (fun w => less_any key m w h2 h1)
  clear h1 h2
  generalize ltK key m = r at *
  go_enter Try.func80, Try.ntmps80
  go_wp2_with fail
  refine (J.out _).mono ?_
  rintro e w1 ⟨rfl, hb⟩
  have HB := Lib.hid hb
  clear hb
  go_wp2_with fail
  go_ret
  exact ⟨retB (by first | rfl | simp), HB.out⟩
set_option maxRecDepth 100000 in
set_option maxHeartbeats 2000000 in
theorem lead1_blk (A : Option Addr) (c : Nat) (ms : List ByteArray) (key : ByteArray) (lb fb kb i : Nat) (w : World) (hf : SsAt w A ms) (hl : w.cell? ⟨lb, 0, none⟩ = some (.slice A ms.length c)) (hlb : lb < w.heap.size)
    (hfn : w.cell? ⟨fb, 0, none⟩ = some (.func (.func 80) #[] #[.pointer (some ⟨kb, 0, none⟩)])) (hfb : fb < w.heap.size) (hk : w.cell? ⟨kb, 0, none⟩ = some (.string key)) (hkb : kb < w.heap.size)
    (hi : i < ms.length) (hn : ms.length ≤ 4294967295) (h1 : ∀ m ∈ ms, m.size ≤ 32) (h2 : key.size ≤ 32) :
    Calls Try.prog 83 #[.int .i64 i, .pointer (some ⟨fb, 0, none⟩), .pointer (some ⟨lb, 0, none⟩)] w fun e w' => e = .returned (.bool (!(!ltK key ms[i]))) ∧ Below w.heap.size w w' := by
  rcases hf with h0 | ⟨b, off, rfl, hbl, hc⟩
  · subst h0; simp at hi
  have g0 := abv_cell hbl (hc i hi)
  have hz := h1 _ (List.getElem_mem hi)
  have z0 := abv_cell hlb hl
  have z1 := abv_cell hfb hfn
  have J : Hid (∀ p : Abv w, Calls Try.prog 80 #[.string ms[i], .pointer (some ⟨kb, 0, none⟩)] p.world fun e w' => e = .returned (.bool ((!ltK key ms[i]))) ∧ Below p.world.heap.size p.world w') := Lib.hid (fun p => blockOf1_any ms[i] key kb p.world (abv_cell hkb hk p) hz h2)
  clear hc h1 h2 hz hl hfn hk
  generalize ms[i] = m at *
  generalize (!ltK key m) = r at *
  go_enter Try.func83, Try.ntmps83
  go_wp2_with fail
  refine wp_region_abv (by first | assumption | kernel_rfl) (by kernel_rfl) ?_
  repeat (first | go_big_quiet_step (exact callAbv (J.out _)) | quiet_step (exact callAbv (J.out _)))
  refine wpQuiet_nil ?_
  intro w2 hw2
  obtain ⟨p, rfl⟩ := hw2
  go_wp2_with fail
  go_ret
  exact ⟨retB (by first | rfl | simp), p.h⟩
set_option maxRecDepth 100000 in
set_option maxHeartbeats 2000000 in
theorem lead_blk (A : Option Addr) (c : Nat) (ms : List ByteArray) (key : ByteArray) (kb : Nat) (w : World) (hf : SsAt w A ms) (hk : w.cell? ⟨kb, 0, none⟩ = some (.string key)) (hkb : kb < w.heap.size)
    (hn : ms.length ≤ 4294967295) (h1 : ∀ m ∈ ms, m.size ≤ 32) (h2 : key.size ≤ 32) (hasc : ms.Pairwise (fun a b => ltK a b = true)) :
    Calls Try.prog 79 #[.slice A ms.length c, .func (.func 80) #[] #[.pointer (some ⟨kb, 0, none⟩)]] w fun e w' => e = .returned (.int .i64 (upN ms key)) ∧ Below w.heap.size w w' := by
  have HBX := Lib.hid (((Below.refl w.heap.size w).alloc (Nat.le_refl _) (.cells #[.slice A ms.length c] 71)).alloc (by simp) (.cells #[.func (.func 80) #[] #[.pointer (some ⟨kb, 0, none⟩)]] 109))
  have hl : ((w.alloc (.cells #[.slice A ms.length c] 71)).alloc (.cells #[.func (.func 80) #[] #[.pointer (some ⟨kb, 0, none⟩)]] 109)).cell? ⟨w.heap.size, 0, none⟩ = some (.slice A ms.length c) := Lib.cell?_alloc_some _ (str_box _ _ w)
  have hfn : ((w.alloc (.cells #[.slice A ms.length c] 71)).alloc (.cells #[.func (.func 80) #[] #[.pointer (some ⟨kb, 0, none⟩)]] 109)).cell? ⟨w.heap.size + 1, 0, none⟩ = some (.func (.func 80) #[] #[.pointer (some ⟨kb, 0, none⟩)]) := by
    simp
  have hk' := (HBX.out.cell (p := ⟨kb, 0, none⟩) hkb).trans hk
  have J := Lib.hid (Search_S ms.length (fun i => if h : i < ms.length then !(!ltK key ms[i]) else true) (some ⟨w.heap.size + 1, 0, none⟩) (some ⟨w.heap.size, 0, none⟩) ((w.alloc (.cells #[.slice A ms.length c] 71)).alloc (.cells #[.func (.func 80) #[] #[.pointer (some ⟨kb, 0, none⟩)]] 109)) hn
    (fun i hi w1 hb => by
      have hs := hb.size
      simp at hs
      have K := lead1_blk A c ms key w.heap.size (w.heap.size + 1) kb i w1 ((hf.below HBX.out (Nat.le_refl _)).below hb (Nat.le_refl _)) ((hb.cell (p := ⟨w.heap.size, 0, none⟩) (by simp; omega)).trans hl) (by omega) ((hb.cell (p := ⟨w.heap.size + 1, 0, none⟩) (by simp)).trans hfn) (by omega) ((hb.cell (p := ⟨kb, 0, none⟩) (by simp; omega)).trans hk') (by omega) hi hn h1 h2
      rw [dif_pos hi]; exact K)
    (fun a b hab hb h => by
      have ha : a < ms.length := by omega
      rw [dif_pos ha] at h
      rw [dif_pos hb]
      by_cases e : a = b
      · subst e; exact h
      · have hlt := List.pairwise_iff_getElem.1 hasc a b ha hb (by omega)
        simp only [Bool.not_not] at h ⊢
        exact ltK_trans h hlt))
  have HR : Hid (∀ r : Nat, r ≤ ms.length → (∀ t, t < r → (if h : t < ms.length then !(!ltK key ms[t]) else true) = false) → (∀ t, r ≤ t → t < ms.length → (if h : t < ms.length then !(!ltK key ms[t]) else true) = true) → r = upN ms key) := Lib.hid (fun r hr g1 g2 => by
    symm
    refine count_cut _ ms r hr (fun i hi h => ?_) fun i hi h => ?_
    · have := g1 i h; rw [dif_pos hi] at this; simpa using this
    · have := g2 i h hi; rw [dif_pos hi] at this; simpa using this)
  clear hl hfn hk' hf hk h1 h2 hasc
  go_enter Try.func79, Try.ntmps79
  go_wp2_with fail
  refine J.out.mono ?_
  rintro e w1 ⟨⟨r, rfl, g1, g2, g3⟩, hb⟩
  have HE := Lib.hid (HR.out r g1 g2 g3)
  have HB1 := Lib.hid (HBX.out.trans (hb.mono (by simp; omega)))
  clear g1 g2 g3 hb
  go_wp2_with fail
  go_ret
  exact ⟨retI (by rw [HE.out]), HB1.out⟩
end Go.Proofs.Yticdechdgpfdfaa.KK

/-
  Fences: Block, Blocks and Span of the program.
-/
namespace Go.Proofs.Yticdechdgpfdfaa.KK
open Go.ChangeShapes Go.WideShapes Go.ChangeAt Go.RowKit Go.Proofs

theorem boxR (lo hi : ByteArray) (b : Bool) (w : World) (k : Nat) (hk : w.heap.size = k) : Hid (∀ w', Below (w.alloc (.cells #[.string lo, .string hi, .bool b] 39)).heap.size (w.alloc (.cells #[.string lo, .string hi, .bool b] 39)) w' →
    w'.cell? ⟨k, 0, none⟩ = some (.string lo) ∧ w'.cell? ⟨k, 1, none⟩ = some (.string hi) ∧ w'.cell? ⟨k, 2, none⟩ = some (.bool b) ∧ k < w'.heap.size ∧ Below w.heap.size w w') := Lib.hid fun w' h => by
  subst hk
  exact ⟨(h.cell (p := ⟨w.heap.size, 0, none⟩) (by simp)).trans (cell_of_row _ w.heap.size 0 _ _ _ (heap_alloc_new w _)), (h.cell (p := ⟨w.heap.size, 1, none⟩) (by simp)).trans (cell_of_row _ w.heap.size 1 _ _ _ (heap_alloc_new w _)), (h.cell (p := ⟨w.heap.size, 2, none⟩) (by simp)).trans (cell_of_row _ w.heap.size 2 _ _ _ (heap_alloc_new w _)), by have := h.size; simp at this; omega, ((Below.refl w.heap.size w).alloc (Nat.le_refl _) _).trans (h.mono (by simp))⟩
theorem ret3 {a b c : Int} {p : Int × Int × Int} (h : p = (a, b, c)) : Ending.returned (.tuple #[.int .i64 a, .int .i64 b, .int .i64 c]) = .returned (.tuple #[.int .i64 p.1, .int .i64 p.2.1, .int .i64 p.2.2]) := by rw [h]
set_option maxRecDepth 100000 in
set_option maxHeartbeats 1000000 in
theorem blockOf_any (s : Int) (A : Option Addr) (c : Nat) (ms : List ByteArray) (key : ByteArray) (w : World) (hf : SsAt w A ms) (hn : ms.length ≤ 4294967295) (h1 : ∀ m ∈ ms, m.size ≤ 32) (h2 : key.size ≤ 32) (hasc : ms.Pairwise (fun a b => ltK a b = true)) :
    Calls Try.prog 74 #[.agg #[.int .i64 s, .slice A ms.length c], .string key] w fun e w' => e = .returned (.int .i64 (upN ms key)) ∧ Below w.heap.size w w' := by
  have HX := boxF s A ms.length c w
  have hb1 : Below (w.alloc (.cells #[.int .i64 s, .slice A ms.length c] 73)).heap.size (w.alloc (.cells #[.int .i64 s, .slice A ms.length c] 73)) ((w.alloc (.cells #[.int .i64 s, .slice A ms.length c] 73)).alloc (.cells #[.string key] 9)) := (Below.refl _ _).alloc (Nat.le_refl _) _
  obtain ⟨x0, x1, x2, x3⟩ := HX.out _ hb1
  have HB := Lib.hid x3
  have hk : ((w.alloc (.cells #[.int .i64 s, .slice A ms.length c] 73)).alloc (.cells #[.string key] 9)).cell? ⟨w.heap.size + 1, 0, none⟩ = some (.string key) := by simp
  have J := Lib.hid (lead_blk A c ms key (w.heap.size + 1) _ (hf.below x3 (Nat.le_refl _)) hk (by simp) hn h1 h2 hasc)
  clear hb1 hk hf h1 h2 hasc x3
  generalize upN ms key = r at *
  go_enter Try.func74, Try.ntmps74
  go_wp2_with fail
  refine J.out.mono ?_
  rintro e w1 ⟨rfl, hb⟩
  have HB1 := Lib.hid (eb_of HB.out hb (by simp; try omega))
  clear hb
  go_wp2_with fail
  go_ret
  exact ⟨rfl, HB1.out⟩
def keyE (s : Int) (ms : List ByteArray) (key : ByteArray) : Int := if (chkF s ms).2 ≠ 0 then (chkF s ms).2 else chk1 key.size
theorem keyE_no {s : Int} {ms : List ByteArray} {key : ByteArray} (h : (chkF s ms).2 ≠ 0) : keyE s ms key = (chkF s ms).2 := if_pos h
theorem keyE_ok {s : Int} {ms : List ByteArray} {key : ByteArray} (h : (chkF s ms).2 = 0) : keyE s ms key = chk1 key.size := if_neg (by rw [h]; simp)
theorem keyE_zero {s : Int} {ms : List ByteArray} {key : ByteArray} (h : keyE s ms key = 0) : Good s ms ∧ key.size ≤ 32 := by
  by_cases g : (chkF s ms).2 = 0
  · rw [keyE_ok g] at h
    refine ⟨(chkF_good g).1, ?_⟩
    by_cases k : key.size ≤ 32
    · exact k
    · rw [chk1_no k] at h; exact absurd h (by decide)
  · rw [keyE_no g] at h; exact absurd h g
set_option maxRecDepth 100000 in
set_option maxHeartbeats 1000000 in
theorem checkKey_any (s : Int) (A : Option Addr) (c : Nat) (ms : List ByteArray) (key : ByteArray) (w : World) (hf : SsAt w A ms) (hn : ms.length ≤ 4294967295) (hs : SizedS ms) (hz : key.size ≤ 9223372036854775807) :
    Calls Try.prog 72 #[.agg #[.int .i64 s, .slice A ms.length c], .string key] w fun e w' => e = .returned (.int .i64 (keyE s ms key)) ∧ Below w.heap.size w w' := by
  have HX := boxF s A ms.length c w
  obtain ⟨x0, x1, x2, x3⟩ := HX.out _ (Below.refl _ _)
  have HB := Lib.hid x3
  have J1 := Lib.hid (fun w1 (h : Below w.heap.size w w1) => pCheck7_any s A c ms w1 (hf.below h (Nat.le_refl _)) hn hs)
  have J2 := Lib.hid (fun w => kCheck_any key w hz)
  clear hf hs x3
  by_cases h : (chkF s ms).2 = 0
  · have HL := Lib.hid (keyE_ok (key := key) h)
    rw [h] at J1
    generalize (chkF s ms).1 = r0 at *
    generalize chk1 key.size = r2 at *
    clear h
    go_enter Try.func72, Try.ntmps72
    go_wp2_with fail
    refine (J1.out _ HB.out).mono ?_
    rintro e w1 ⟨rfl, hb⟩
    have HB1 := Lib.hid (eb_of HB.out hb (by simp))
    clear hb
    go_wp2_with fail
    refine (J2.out _).mono ?_
    rintro e w2 ⟨rfl, rfl⟩
    go_wp2_with fail
    go_ret
    exact ⟨retI (by rw [HL.out]), HB1.out⟩
  · have HL := Lib.hid (keyE_no (key := key) h)
    obtain ⟨b1, b2⟩ := ne_b h
    generalize (chkF s ms).1 = r0 at *
    generalize (chkF s ms).2 = r at *
    clear h
    go_enter Try.func72, Try.ntmps72
    go_wp2_with fail
    refine (J1.out _ HB.out).mono ?_
    rintro e w1 ⟨rfl, hb⟩
    have HB1 := Lib.hid (eb_of HB.out hb (by simp))
    clear hb
    go_wp2_with fail
    go_ret
    exact ⟨retI (by rw [HL.out]), HB1.out⟩
def blockE (s : Int) (ms : List ByteArray) (key : ByteArray) : Int × Int := if keyE s ms key ≠ 0 then (0, keyE s ms key) else (((upN ms key : Nat) : Int), 0)
theorem blockE_no {s : Int} {ms : List ByteArray} {key : ByteArray} (h : keyE s ms key ≠ 0) : blockE s ms key = (0, keyE s ms key) := if_pos h
theorem blockE_ok {s : Int} {ms : List ByteArray} {key : ByteArray} (h : keyE s ms key = 0) : blockE s ms key = (((upN ms key : Nat) : Int), 0) := if_neg (by rw [h]; simp)
def rngE (s : Int) (ms : List ByteArray) (lo hi : ByteArray) (b : Bool) : Int := if (chkF s ms).2 ≠ 0 then (chkF s ms).2 else chkR lo hi b
theorem rngE_no {s : Int} {ms : List ByteArray} {lo hi : ByteArray} {b : Bool} (h : (chkF s ms).2 ≠ 0) : rngE s ms lo hi b = (chkF s ms).2 := if_pos h
theorem rngE_ok {s : Int} {ms : List ByteArray} {lo hi : ByteArray} {b : Bool} (h : (chkF s ms).2 = 0) : rngE s ms lo hi b = chkR lo hi b := if_neg (by rw [h]; simp)
def lastN (ms : List ByteArray) (hi : ByteArray) (b : Bool) : Nat := if b = true then lessN ms hi else ms.length
def blocksE (s : Int) (ms : List ByteArray) (lo hi : ByteArray) (b : Bool) : Int × Int × Int :=
  if rngE s ms lo hi b ≠ 0 then (0, 0, rngE s ms lo hi b) else if emptyV lo hi b = true then (0, 0, 0) else (((upN ms lo : Nat) : Int), ((lastN ms hi b : Nat) : Int) + 1, 0)
theorem blocksE_no {s : Int} {ms : List ByteArray} {lo hi : ByteArray} {b : Bool} (h : rngE s ms lo hi b ≠ 0) : blocksE s ms lo hi b = (0, 0, rngE s ms lo hi b) := if_pos h
theorem blocksE_empty {s : Int} {ms : List ByteArray} {lo hi : ByteArray} {b : Bool} (h : rngE s ms lo hi b = 0) (g : emptyV lo hi b = true) : blocksE s ms lo hi b = (0, 0, 0) := by
  unfold blocksE; rw [if_neg (by rw [h]; simp), if_pos g]
theorem blocksE_ok {s : Int} {ms : List ByteArray} {lo hi : ByteArray} {b : Bool} (h : rngE s ms lo hi b = 0) (g : emptyV lo hi b = false) : blocksE s ms lo hi b = (((upN ms lo : Nat) : Int), ((lastN ms hi b : Nat) : Int) + 1, 0) := by
  unfold blocksE; rw [if_neg (by rw [h]; simp), if_neg (by rw [g]; simp)]
theorem chkR_sizes {lo hi : ByteArray} {b : Bool} (h : chkR lo hi b = 0) : lo.size ≤ 32 ∧ hi.size ≤ 32 := by
  unfold chkR at h
  by_cases g : lo.size ≤ 32 ∧ hi.size ≤ 32
  · exact g
  · rw [if_pos g] at h; exact absurd h (by decide)
end Go.Proofs.Yticdechdgpfdfaa.KK

/-
  Fences: Span of the program.
-/
namespace Go.Proofs.Yticdechdgpfdfaa.KK
open Go.ChangeShapes Go.WideShapes Go.ChangeAt Go.RowKit Go.Proofs

def spanE (s : Int) (ms : List ByteArray) (n : Int) (key : ByteArray) : Int × Int × Int :=
  if keyE s ms key ≠ 0 then (0, 0, keyE s ms key) else if n < 0 ∨ 5000 < n then (0, 0, 7) else if ms.length ≠ mk n.toNat s.toNat then (0, 0, 6)
  else (((upN ms key * s.toNat : Nat) : Int), ((min (upN ms key * s.toNat + s.toNat) n.toNat : Nat) : Int), 0)
theorem spanE_no {s : Int} {ms : List ByteArray} {n : Int} {key : ByteArray} (h : keyE s ms key ≠ 0) : spanE s ms n key = (0, 0, keyE s ms key) := if_pos h
theorem spanE_far {s : Int} {ms : List ByteArray} {n : Int} {key : ByteArray} (h : keyE s ms key = 0) (g : n < 0 ∨ 5000 < n) : spanE s ms n key = (0, 0, 7) := by
  unfold spanE; rw [if_neg (by rw [h]; simp), if_pos g]
theorem spanE_form {s : Int} {ms : List ByteArray} {n : Int} {key : ByteArray} (h : keyE s ms key = 0) (g : ¬ (n < 0 ∨ 5000 < n)) (k : ms.length ≠ mk n.toNat s.toNat) : spanE s ms n key = (0, 0, 6) := by
  unfold spanE; rw [if_neg (by rw [h]; simp), if_neg g, if_pos k]
theorem spanE_ok {s : Int} {ms : List ByteArray} {n : Int} {key : ByteArray} (h : keyE s ms key = 0) (g : ¬ (n < 0 ∨ 5000 < n)) (k : ms.length = mk n.toNat s.toNat) :
    spanE s ms n key = (((upN ms key * s.toNat : Nat) : Int), ((min (upN ms key * s.toNat + s.toNat) n.toNat : Nat) : Int), 0) := by
  unfold spanE; rw [if_neg (by rw [h]; simp), if_neg g, if_neg (by omega)]
set_option maxRecDepth 100000 in
set_option maxHeartbeats 2000000 in
theorem pSpan7_any (s : Int) (A : Option Addr) (c : Nat) (ms : List ByteArray) (n : Int) (key : ByteArray) (w : World) (hf : SsAt w A ms) (hn : ms.length ≤ 4294967295) (hs : SizedS ms) (hz : key.size ≤ 9223372036854775807) :
    Calls Try.prog 60 #[.agg #[.int .i64 s, .slice A ms.length c], .int .i64 n, .string key] w fun e w' => e = .returned (.tuple #[.int .i64 (spanE s ms n key).1, .int .i64 (spanE s ms n key).2.1, .int .i64 (spanE s ms n key).2.2]) ∧ Below w.heap.size w w' := by
  have HX := boxF s A ms.length c w
  obtain ⟨x0, x1, x2, x3⟩ := HX.out _ (Below.refl _ _)
  have HB := Lib.hid x3
  have J1 := Lib.hid (fun w1 (h : Below w.heap.size w w1) => checkKey_any s A c ms key w1 (hf.below h (Nat.le_refl _)) hn hs hz)
  clear x3
  by_cases h : keyE s ms key = 0
  rotate_left
  · have HL := Lib.hid (spanE_no (n := n) h)
    obtain ⟨b1, b2⟩ := ne_b h
    clear hf hs h
    generalize keyE s ms key = r at *
    go_enter Try.func60, Try.ntmps60
    go_wp2_with fail
    refine (J1.out _ HB.out).mono ?_
    rintro e w1 ⟨rfl, hb⟩
    have HB1 := Lib.hid (eb_of HB.out hb (by simp))
    clear hb
    go_wp2_with fail
    go_ret3
    exact ⟨ret3 HL.out, HB1.out⟩
  rw [h] at J1
  obtain ⟨G, hk⟩ := keyE_zero h
  by_cases g1 : n < 0
  · have HL := Lib.hid (spanE_far h (.inl g1))
    clear hf hs h G
    go_enter Try.func60, Try.ntmps60
    go_wp2_with fail
    refine (J1.out _ HB.out).mono ?_
    rintro e w1 ⟨rfl, hb⟩
    have HB1 := Lib.hid (eb_of HB.out hb (by simp))
    clear hb
    go_wp2_with fail
    go_ret3
    exact ⟨ret3 HL.out, HB1.out⟩
  by_cases g2 : 5000 < n
  · have HL := Lib.hid (spanE_far h (.inr g2))
    clear hf hs h G
    go_enter Try.func60, Try.ntmps60
    go_wp2_with fail
    refine (J1.out _ HB.out).mono ?_
    rintro e w1 ⟨rfl, hb⟩
    have HB1 := Lib.hid (eb_of HB.out hb (by simp))
    clear hb
    go_wp2_with fail
    go_ret3
    exact ⟨ret3 HL.out, HB1.out⟩
  obtain ⟨st, rfl⟩ : ∃ st : Nat, s = (st : Int) := ⟨s.toNat, by have := G.step; omega⟩
  obtain ⟨m, rfl⟩ : ∃ m : Nat, n = (m : Int) := ⟨n.toNat, by omega⟩
  have hst : 1 ≤ st ∧ st ≤ 64 := by have := G.step; omega
  have JM := Lib.hid (fun w => marksFor_any m st w (by omega) hst.1 hst.2)
  by_cases hlen : ms.length = mk m st
  rotate_left
  · have HL := Lib.hid (spanE_form (n := (m : Int)) h (by omega) (by rw [show ((m : Nat) : Int).toNat = m by omega, show ((st : Nat) : Int).toNat = st by omega]; exact hlen))
    obtain ⟨n1, n2⟩ := num_ne hlen
    clear hf hs h G hlen
    generalize mk m st = q at *
    go_enter Try.func60, Try.ntmps60
    go_wp2_with fail
    refine (J1.out _ HB.out).mono ?_
    rintro e w1 ⟨rfl, hb⟩
    obtain ⟨u0, u1, u2, u3⟩ := HX.out _ hb
    have HB1 := Lib.hid u3
    have z0 := abv_cell u2 u0
    have z1 := abv_cell u2 u1
    clear hb u3
    go_wp2_with fail
    refine wp_region_abv (by first | assumption | kernel_rfl) (by kernel_rfl) ?_
    repeat (first | go_big_quiet_step (exact callAbv0 (JM.out _)) | quiet_step (exact callAbv0 (JM.out _)))
    refine wpQuiet_nil ?_
    intro w2 hw2
    obtain ⟨p, rfl⟩ := hw2
    have HB2 := Lib.hid (eb_of HB1.out p.h (Nat.le_refl _))
    go_wp2_with fail
    go_ret3
    exact ⟨ret3 HL.out, HB2.out⟩
  have HL := Lib.hid (spanE_ok (n := (m : Int)) h (by omega) (by rw [show ((m : Nat) : Int).toNat = m by omega, show ((st : Nat) : Int).toNat = st by omega]; exact hlen))
  rw [show ((m : Nat) : Int).toNat = m by omega, show ((st : Nat) : Int).toNat = st by omega] at HL
  have J2 : Hid (∀ w1, Below w.heap.size w w1 → Calls Try.prog 74 #[.agg #[.int .i64 (st : Int), .slice A ms.length c], .string key] w1 fun e w' => e = .returned (.int .i64 (upN ms key)) ∧ Below w1.heap.size w1 w') := Lib.hid (fun w1 (h : Below w.heap.size w w1) => blockOf_any st A c ms key w1 (hf.below h (Nat.le_refl _)) hn G.key hk G.asc)
  have hup := upN_le ms key
  have hl5 := G.len
  have J3 := Lib.hid (fun w => bounds_any m st (upN ms key) w (by omega) hst.2 (by omega))
  rw [← hlen] at JM
  clear hf hs h G hlen
  generalize upN ms key = up at *
  generalize up * st = f1 at *
  generalize min (f1 + st) m = f2 at *
  go_enter Try.func60, Try.ntmps60
  go_wp2_with fail
  refine (J1.out _ HB.out).mono ?_
  rintro e w1 ⟨rfl, hb⟩
  obtain ⟨u0, u1, u2, u3⟩ := HX.out _ hb
  have HB1 := Lib.hid u3
  have HC := Lib.hid hb
  have z0 := abv_cell u2 u0
  have z1 := abv_cell u2 u1
  clear hb u3
  go_wp2_with fail
  refine wp_region_abv (by first | assumption | kernel_rfl) (by kernel_rfl) ?_
  repeat (first | go_big_quiet_step (exact callAbv0 (JM.out _)) | quiet_step (exact callAbv0 (JM.out _)))
  refine wpQuiet_nil ?_
  intro w2 hw2
  obtain ⟨p, rfl⟩ := hw2
  have HC2 := Lib.hid (eb_of HC.out p.h (Nat.le_refl _))
  obtain ⟨v0, v1, v2, v3⟩ := HX.out _ HC2.out
  have HB2 := Lib.hid v3
  clear z0 z1 u0 u1 u2 v3
  have z0 := abv_cell v2 v0
  have z1 := abv_cell v2 v1
  have J4 : Hid (∀ p2 : Abv p.world, Calls Try.prog 74 #[.agg #[.int .i64 (st : Int), .slice A ms.length c], .string key] p2.world fun e w' => e = .returned (.int .i64 up) ∧ Below p2.world.heap.size p2.world w') := Lib.hid (fun p2 => J2.out _ (eb_of HB2.out p2.h (Nat.le_refl _)))
  go_wp2_with fail
  refine wp_region_abv (by first | assumption | kernel_rfl) (by kernel_rfl) ?_
  repeat (first | go_big_quiet_step (first | (go_at_call 74; exact callAbv (J4.out _)) | exact callAbv (J4.out _) | exact callAbv0 (J3.out _)) | quiet_step (first | exact callAbv (J4.out _) | exact callAbv0 (J3.out _)))
  refine wpQuiet_nil ?_
  intro w3 hw3
  obtain ⟨p2, rfl⟩ := hw3
  have HB3 := Lib.hid (eb_of HB2.out p2.h (Nat.le_refl _))
  go_wp2_with fail
  go_ret3
  exact ⟨ret3 HL.out, HB3.out⟩
end Go.Proofs.Yticdechdgpfdfaa.KK

/-
  Fences: Find of the program.
-/
namespace Go.Proofs.Yticdechdgpfdfaa.KK
open Go.ChangeShapes Go.WideShapes Go.ChangeAt Go.RowKit Go.Proofs

theorem sub_sk {xs : List El.En} (h : SK xs) (a b : Nat) : SK ((xs.drop a).take b) := (List.Pairwise.drop h).take
theorem sub_key {xs : List El.En} (h : ∀ x ∈ xs, x.1.size ≤ 32) (a b : Nat) : ∀ x ∈ (xs.drop a).take b, x.1.size ≤ 32 := fun x hx => h x (List.mem_of_mem_drop (List.mem_of_mem_take hx))
def findF (s : Int) (ms : List ByteArray) (xs : List El.En) (key : ByteArray) : Int × Int :=
  if bothE s ms xs ≠ 0 then (0, bothE s ms xs) else if 32 < key.size then (0, 3) else if fitsF s.toNat ms xs = false then (0, 6) else if atE key 0 xs < 0 then (0, 4) else (atE key 0 xs, 0)
theorem findF_no {s : Int} {ms : List ByteArray} {xs : List El.En} {key : ByteArray} (h : bothE s ms xs ≠ 0) : findF s ms xs key = (0, bothE s ms xs) := if_pos h
theorem findF_long {s : Int} {ms : List ByteArray} {xs : List El.En} {key : ByteArray} (h : bothE s ms xs = 0) (g : ¬ key.size ≤ 32) : findF s ms xs key = (0, 3) := by
  unfold findF; rw [if_neg (by rw [h]; simp), if_pos (by omega)]
theorem findF_form {st : Nat} {ms : List ByteArray} {xs : List El.En} {key : ByteArray} (h : bothE st ms xs = 0) (g : key.size ≤ 32) (k : fitsF st ms xs = false) : findF st ms xs key = (0, 6) := by
  unfold findF; rw [if_neg (by rw [h]; simp), if_neg (by omega), if_pos (by rw [show ((st : Nat) : Int).toNat = st by omega]; exact k)]
theorem findF_ok {st : Nat} {ms : List ByteArray} {xs : List El.En} {key : ByteArray} (h : bothE st ms xs = 0) (g : key.size ≤ 32) (k : fitsF st ms xs = true) : findF st ms xs key = if atE key 0 xs < 0 then (0, 4) else (atE key 0 xs, 0) := by
  unfold findF; rw [if_neg (by rw [h]; simp), if_neg (by omega), if_neg (by rw [show ((st : Nat) : Int).toNat = st by omega, k]; simp)]
theorem EsAt.key0 {w : World} {A : Option Addr} {xs : List El.En} (h : EsAt w A xs) {i : Nat} (hi : i < xs.length) : ∃ b off, A = some ⟨b, off, none⟩ ∧ b < w.heap.size ∧ w.cell? ⟨b, off + i * 4, none⟩ = some (.string xs[i].1) := by
  rcases h with h | ⟨b, off, hA, hlt, hc⟩
  · subst h; simp at hi
  · exact ⟨b, off, hA, hlt, (hc i hi).1⟩
/-- the block of a key: in memory -/
theorem part_any (A : Option Addr) (c : Nat) (ms : List ByteArray) (xs : List El.En) (st : Nat) (key : ByteArray) (w : World) (hf : EsAt w A xs) (hn : xs.length ≤ 5000) (hc : xs.length ≤ c) (hA : A = none → c = 0) (h64 : st ≤ 64) (h1 : 1 ≤ st) (hlen : ms.length = mk xs.length st) :
    Calls Try.prog 76 #[.slice A xs.length c, .int .i64 st, .int .i64 (upN ms key : Nat)] w fun e w' => (∃ A', e = .returned (.slice A' (partE st ms xs key).length (partE st ms xs key).length) ∧ EsAt w' A' (partE st ms xs key)) ∧ w = w' := by
  obtain ⟨p1, p2⟩ := part_len (key := key) h1 hlen
  have hup : upN ms key ≤ mk xs.length st := by rw [← hlen]; exact upN_le ms key
  have hmk : mk xs.length st ≤ xs.length := mk_le
  by_cases h0 : xs.length = 0
  · obtain rfl : xs = [] := List.eq_nil_of_length_eq_zero h0
    have e1 : mk ([] : List El.En).length st = 0 := by simp [mk]
    have e0 : upN ms key = 0 := by rw [e1] at hup; omega
    have hp : partE st ms [] key = [] := by simp [partE]
    rw [hp, e0]
    exact (block_nil A c st w hA h64).mono fun e w' ⟨⟨A', he⟩, hw⟩ => ⟨⟨A', he, .inl rfl⟩, hw⟩
  · have hlt : upN ms key * st < xs.length := by
      by_cases e : upN ms key = 0
      · rw [e]; omega
      · obtain ⟨q, hq⟩ : ∃ q, upN ms key = q + 1 := ⟨upN ms key - 1, by omega⟩
        rw [hq]; exact mk_idx h1 (by omega)
    rw [p2]
    exact block_any A c xs st (upN ms key) w hf (by omega) hc h64 (by omega) h1 hlt
end Go.Proofs.Yticdechdgpfdfaa.KK

/-
  Fences: how many marks are less, Block, Blocks, Span and Find of the reference.
-/
namespace Go.Proofs.Yticdechdgpfdfaa.KK
open Go.ChangeShapes Go.WideShapes Go.ChangeAt Go.RowKit Go.Proofs

theorem lessN_next {ms : List ByteArray} {k : Nat} (h : k < ms.length) (key : ByteArray) : lessN (ms.take (k + 1)) key = lessN (ms.take k) key + if ltK ms[k] key = true then 1 else 0 := by
  unfold lessN; rw [List.take_succ_eq_append_getElem h, List.countP_append]; simp [List.countP_cons]
theorem upN_next {ms : List ByteArray} {k : Nat} (h : k < ms.length) (key : ByteArray) : upN (ms.take (k + 1)) key = upN (ms.take k) key + if ltK key ms[k] = true then 0 else 1 := by
  unfold upN; rw [List.take_succ_eq_append_getElem h, List.countP_append]; simp only [List.countP_cons, List.countP_nil]; cases h : ltK key ms[k] <;> simp
theorem rng_word {s : Int} {ms : List ByteArray} {lo hi : ByteArray} {b : Bool} (h : (chkF s ms).2 = 0) : rngE s ms lo hi b = chkR lo hi b := rngE_ok h
end Go.Proofs.Yticdechdgpfdfaa.KK

/-
  Fences: Span and Find of the reference.
-/
namespace Go.Proofs.Yticdechdgpfdfaa.KK
open Go.ChangeShapes Go.WideShapes Go.ChangeAt Go.RowKit Go.Proofs

end Go.Proofs.Yticdechdgpfdfaa.KK

/-
  Fences: Make, on both sides.
-/
namespace Go.Proofs.Yticdechdgpfdfaa.KK
open Go.ChangeShapes Go.WideShapes Go.ChangeAt Go.RowKit Go.Proofs

theorem alloc_below (w : World) (o : Obj) : Below w.heap.size w (w.alloc o) := (Below.refl _ _).alloc (Nat.le_refl _) _
theorem cell_lt {w : World} {b o : Nat} {v : Value} (h : w.cell? ⟨b, o, none⟩ = some v) : b < w.heap.size := World.block_lt_of_cell? w _ h
theorem abv_c {w1 : World} {b o : Nat} {v : Value} (h : w1.cell? ⟨b, o, none⟩ = some v) : ∀ p : Abv w1, p.world.cell? ⟨b, o, none⟩ = some v := abv_cell (cell_lt h) h
/-- what lies outside S is as it was -/
structure Chg (S : Nat → Prop) (w w' : World) : Prop where
  os : w'.os = w.os
  tape : w'.tape = w.tape
  output : w'.output = w.output
  size : w.heap.size ≤ w'.heap.size
  block : ∀ k, k < w.heap.size → ¬ S k → w'.heap[k]? = w.heap[k]?
theorem Chg.of_below {S : Nat → Prop} {w w' : World} (h : Below w.heap.size w w') : Chg S w w' := ⟨h.os, h.tape, h.output, h.size, fun k hk _ => h.block k hk⟩
theorem Chg.refl {S : Nat → Prop} (w : World) : Chg S w w := .of_below (Below.refl _ _)
theorem Chg.of_grown {w w' : World} {r : Option Nat} (h : w.grownBy w' r) : Chg (fun k => some k = r) w w' := ⟨h.os, h.tape, h.output, h.size, fun k hk hn => h.block k hk hn⟩
theorem Chg.trans {S : Nat → Prop} {a b c : World} (h : Chg S a b) (k : Chg S b c) : Chg S a c :=
  ⟨k.os.trans h.os, k.tape.trans h.tape, k.output.trans h.output, Nat.le_trans h.size k.size, fun i hi hn => (k.block i (Nat.lt_of_lt_of_le hi h.size) hn).trans (h.block i hi hn)⟩
theorem Chg.mono {S T : Nat → Prop} {a b : World} (h : Chg S a b) (hs : ∀ k, S k → T k) : Chg T a b := ⟨h.os, h.tape, h.output, h.size, fun k hk hn => h.block k hk (fun g => hn (hs k g))⟩
/-- what was made on the way may be written: it is new -/
theorem Chg.trans_new {S T : Nat → Prop} {a b c : World} (h : Chg S a b) (k : Chg T b c) (hn : ∀ i, T i → S i ∨ a.heap.size ≤ i) : Chg S a c :=
  ⟨k.os.trans h.os, k.tape.trans h.tape, k.output.trans h.output, Nat.le_trans h.size k.size, fun i hi hs => (k.block i (Nat.lt_of_lt_of_le hi h.size) (fun g => by rcases hn i g with g | g; exact hs g; omega)).trans (h.block i hi hs)⟩
theorem Chg.below {S : Nat → Prop} {B : Nat} {w w' : World} (h : Chg S w w') (hS : ∀ k, S k → B ≤ k) (hB : B ≤ w.heap.size) : Below B w w' :=
  ⟨h.os, h.tape, h.output, h.size, fun k hk => h.block k (by omega) (fun g => by have := hS k g; omega)⟩
theorem Chg.cell {S : Nat → Prop} {w w' : World} (h : Chg S w w') {b o : Nat} {v : Value} (hc : w.cell? ⟨b, o, none⟩ = some v) (hn : ¬ S b) : w'.cell? ⟨b, o, none⟩ = some v :=
  (World.cell?_of_block (a := ⟨b, o, none⟩) (h.block b (cell_lt hc) hn)).trans hc
theorem Chg.es {S : Nat → Prop} {w w' : World} {A : Option Addr} {xs : List El.En} (h : Chg S w w') (hf : EsAt w A xs) (hn : ∀ a, A = some a → ¬ S a.block) : EsAt w' A xs := by
  rcases hf with hf | ⟨b, off, rfl, hb, hc⟩
  · exact .inl hf
  · refine .inr ⟨b, off, rfl, Nat.lt_of_lt_of_le hb h.size, fun i hi => ?_⟩
    have hs : ¬ S b := hn _ rfl
    obtain ⟨a0, a1, a2, a3⟩ := hc i hi
    exact ⟨h.cell a0 hs, h.cell a1 hs, h.cell a2 hs, h.cell a3 hs⟩
theorem Chg.own {S : Nat → Prop} {w w' : World} {base sz n : Nat} {e : TypeId} {v : Value} {xs : List Value} (h : Chg S w w') (hf : w.ownsRow base e sz v n xs) (hn : ∀ g, v.ownBlock = some g → ¬ S g) : w'.ownsRow base e sz v n xs := by
  refine ⟨hf.1, ?_⟩
  rcases hf.2 with h1 | ⟨g, cap, cur, rfl, hb, hg, rest⟩
  · exact .inl h1
  · exact .inr ⟨g, cap, cur, rfl, hb, (h.block g (Array.getElem?_eq_some_iff.1 hg).1 (hn g rfl)).trans hg, rest⟩
theorem chg_set {w : World} (b o : Nat) (u : Value) : Chg (fun k => k = b) w (w.setCell ⟨b, o, none⟩ u) :=
  ⟨rfl, rfl, rfl, by simp [World.setCell], fun k _ hn => by simp [World.setCell, Array.getElem?_modify]; intro h; exact absurd h.symm hn⟩

/-- a row of two cells -/
def Row2 (W : World) (B : Nat) (t : TypeId) (v0 v1 : Value) : Prop := W.heap[B]? = some (.cells #[v0, v1] t (0, 0))
theorem Row2.lt {W : World} {B : Nat} {t : TypeId} {v0 v1 : Value} (h : Row2 W B t v0 v1) : B < W.heap.size := (Array.getElem?_eq_some_iff.1 h).1
theorem Row2.c0 {W : World} {B : Nat} {t : TypeId} {v0 v1 : Value} (h : Row2 W B t v0 v1) : W.cell? ⟨B, 0, none⟩ = some v0 := by unfold Row2 at h; simp [World.cell?, h]
theorem Row2.c1 {W : World} {B : Nat} {t : TypeId} {v0 v1 : Value} (h : Row2 W B t v0 v1) : W.cell? ⟨B, 1, none⟩ = some v1 := by unfold Row2 at h; simp [World.cell?, h]
theorem Row2.fz {W : World} {B : Nat} {t : TypeId} {v0 v1 : Value} (h : Row2 W B t v0 v1) (i : Nat) : W.frozen? ⟨B, i, none⟩ = false := by unfold Row2 at h; simp [World.frozen?, h]
theorem Row2.set {W : World} {B : Nat} {t : TypeId} {v0 v1 : Value} (h : Row2 W B t v0 v1) (u0 u1 : Value) : Row2 ((W.setCell ⟨B, 0, none⟩ u0).setCell ⟨B, 1, none⟩ u1) B t u0 u1 := by
  unfold Row2 at h ⊢; simp [World.setCell, Array.getElem?_modify, h]
theorem Row2.new (w : World) (t : TypeId) (v0 v1 : Value) : Row2 (w.alloc (.cells #[v0, v1] t)) w.heap.size t v0 v1 := heap_alloc_new w _
theorem Row2.below {W W' : World} {B n : Nat} {t : TypeId} {v0 v1 : Value} (h : Row2 W B t v0 v1) (hb : Below n W W') (hn : W.heap.size ≤ n) : Row2 W' B t v0 v1 := (hb.block B (Nat.lt_of_lt_of_le h.lt hn)).trans h
theorem set2_below {B : Nat} {w w1 : World} {g : Nat} (h : Below B w w1) (hg : B ≤ g) (a b : Value) : Below B w ((w1.setCell ⟨g, 0, none⟩ a).setCell ⟨g, 1, none⟩ b) :=
  (h.setCell (p := ⟨g, 0, none⟩) hg _).setCell (p := ⟨g, 1, none⟩) hg _
theorem Row2.chg {S : Nat → Prop} {W W' : World} {B : Nat} {t : TypeId} {v0 v1 : Value} (h : Row2 W B t v0 v1) (hc : Chg S W W') (hn : ¬ S B) : Row2 W' B t v0 v1 := (hc.block B h.lt hn).trans h
theorem Row2.set1 {W : World} {B : Nat} {t : TypeId} {v0 v1 : Value} (h : Row2 W B t v0 v1) (u1 : Value) : Row2 (W.setCell ⟨B, 1, none⟩ u1) B t v0 u1 := by
  unfold Row2 at h ⊢; simp [World.setCell, Array.getElem?_modify, h]
theorem infoSt : (Try.prog.info? 9).map (fun i => (i.zero, i.size, i.bytes)) = some (some (.string ⟨#[]⟩), 1, 16) := by kernel_rfl
theorem cell_one_str (w : World) (v : Value) : ∀ (j : Nat) (u : Value), [v][j]? = some u → (w.alloc (.cells #[v] 9)).cell? ((⟨w.heap.size, 0, none⟩ : Addr).add j) = some u :=
  World.news_of_block (cs := #[v]) (t := 9) (fr := (0, 0)) (heap_alloc_new w _)
theorem own_bel {w w' : World} {base n sz : Nat} {v : Value} {e : TypeId} {xs : List Value} (h : w.ownsRow base e sz v n xs) (hb : Below w.heap.size w w') : w'.ownsRow base e sz v n xs := (Chg.of_below (S := fun _ => False) hb).own h (fun _ _ h => h)
def strs (ms : List ByteArray) : List Value := ms.map Value.string
theorem strs_snoc (ms : List ByteArray) (m : ByteArray) : strs (ms ++ [m]) = strs ms ++ [.string m] := by simp [strs]
theorem own_slice {w : World} {base n : Nat} {v : Value} {e : TypeId} {sz : Nat} {xs : List Value} (h : w.ownsRow base e sz v n xs) : ∃ A c, v = .slice A n c := by
  rcases h.2 with ⟨rfl, h0⟩ | ⟨g, cap, cur, rfl, _⟩
  · subst h0; exact ⟨_, _, rfl⟩
  · exact ⟨_, _, rfl⟩
theorem SsAt.of_own {w : World} {base n : Nat} {A : Option Addr} {c : Nat} {ts : List ByteArray} (hn : n = ts.length) (h : w.ownsRow base 9 1 (.slice A n c) n (strs ts)) : SsAt w A ts ∧ ∀ a, A = some a → base ≤ a.block := by
  subst hn
  refine ⟨?_, fun a ha => ?_⟩
  · by_cases h0 : ts = []
    · exact .inl h0
    · have hpos : 0 < ts.length := List.length_pos_iff.2 h0
      have hform : ∃ g cap, Value.slice A ts.length c = .slice (some ⟨g, 0, none⟩) ts.length cap ∧ g < w.heap.size := by
        rcases h.2 with ⟨_, h1⟩ | ⟨g, cap, cur, hv, _, hh, _⟩
        · omega
        · exact ⟨g, cap, hv, (Array.getElem?_eq_some_iff.1 hh).1⟩
      obtain ⟨g, cap, hv, hlt⟩ := hform
      have hA : A = some ⟨g, 0, none⟩ := by injection hv
      refine .inr ⟨g, 0, hA, hlt, fun i hi => ?_⟩
      have hcell := h.cells (g := g) (by rw [hv]; rfl)
      have hadd : ∀ j, (⟨g, 0, none⟩ : Addr).add j = ⟨g, 0 + j, none⟩ := fun j => by unfold Addr.add; split <;> simp_all
      have b0 := hcell i (.string ts[i]) (by unfold strs; rw [List.getElem?_map, List.getElem?_eq_getElem hi]; rfl)
      rwa [hadd] at b0
  · rcases h.2 with ⟨h1, _⟩ | ⟨g, cap, cur, hv, hg, _⟩
    · injection h1 with h1; rw [h1] at ha; cases ha
    · injection hv with h1 _ _; rw [h1] at ha; injection ha with ha; subst ha; exact hg
theorem SsAt.chg {S : Nat → Prop} {w w' : World} {A : Option Addr} {ms : List ByteArray} (hf : SsAt w A ms) (h : Chg S w w') (hn : ∀ a, A = some a → ¬ S a.block) : SsAt w' A ms := by
  rcases hf with hf | ⟨b, off, rfl, hb, hc⟩
  · exact .inl hf
  · exact .inr ⟨b, off, rfl, Nat.lt_of_lt_of_le hb h.size, fun i hi => h.cell (hc i hi) (hn _ rfl)⟩
theorem btw_call (a b : ByteArray) (w : World) (h : ltK a b = true) (ha : a.size ≤ 32) (hb : b.size ≤ 32) :
    Calls Try.prog 71 #[.string a, .string b] w fun e w' => e = .returned (.tuple #[.string (btwK a b), .int .i64 0]) ∧ Below w.heap.size w w' := by
  have K := kBetween_any a b w (by omega) (by omega)
  have e : btwE (Kl.L a) (Kl.L b) = (0, Kl.btw (Kl.L a) (Kl.L b)) := by
    unfold btwE; rw [Kl.L_length, Kl.L_length, if_neg (by simp; omega), if_pos (show Kl.lt (Kl.L a) (Kl.L b) = true from h)]
  rw [e] at K; exact K
theorem make_take {st : Nat} {xs : List El.En} {k : Nat} (h : k < mk xs.length st) : (makeM st xs).take (k + 1) = (makeM st xs).take k ++ [btwK (keyAt xs ((k + 1) * st - 1)) (keyAt xs ((k + 1) * st))] := by
  have h' : k < (makeM st xs).length := by rw [makeM_len]; exact h
  rw [List.take_succ_eq_append_getElem h', makeM_at h']
def mkEr (s : Int) (xs : List El.En) : Int := if (listE xs).2 ≠ 0 then (listE xs).2 else if stepB s = true then 0 else 7
def mkSt (s : Int) (xs : List El.En) : Int := if mkEr s xs = 0 then s else 0
def mkMs (s : Int) (xs : List El.En) : List ByteArray := if mkEr s xs = 0 then makeM s.toNat xs else []
theorem mkEr_list {s : Int} {xs : List El.En} (h : (listE xs).2 ≠ 0) : mkEr s xs = (listE xs).2 := if_pos h
theorem mkEr_step {s : Int} {xs : List El.En} (h : (listE xs).2 = 0) (g : stepB s = false) : mkEr s xs = 7 := by unfold mkEr; rw [if_neg (by rw [h]; simp), if_neg (by rw [g]; simp)]
theorem mkEr_ok {s : Int} {xs : List El.En} (h : (listE xs).2 = 0) (g : stepB s = true) : mkEr s xs = 0 := by unfold mkEr; rw [if_neg (by rw [h]; simp), if_pos g]
/-- behind a call that makes a fence -/
def MakeOut (s : Int) (xs : List El.En) (w : World) (e : Ending) (w' : World) : Prop :=
  ∃ A c, e = .returned (.tuple #[.agg #[.int .i64 (mkSt s xs), .slice A (mkMs s xs).length c], .int .i64 (mkEr s xs)]) ∧ SsAt w' A (mkMs s xs) ∧ Below w.heap.size w w'
theorem MakeOut.err {s : Int} {xs : List El.En} {w w' : World} {e : Ending} {r : Int} (hr : mkEr s xs = r) (h0 : r ≠ 0) (he : e = .returned (.tuple #[.agg #[.int .i64 0, .slice none 0 0], .int .i64 r])) (hb : Below w.heap.size w w') : MakeOut s xs w e w' := by
  unfold MakeOut mkSt mkMs
  rw [hr, if_neg h0, if_neg h0]
  exact ⟨none, 0, he, .inl rfl, hb⟩
theorem MakeOut.ok {st : Nat} {xs : List El.En} {w w' : World} {e : Ending} {A : Option Addr} {c : Nat} (hr : mkEr st xs = 0) (he : e = .returned (.tuple #[.agg #[.int .i64 (st : Int), .slice A (mk xs.length st) c], .int .i64 0])) (hf : SsAt w' A (makeM st xs)) (hb : Below w.heap.size w w') : MakeOut st xs w e w' := by
  unfold MakeOut mkSt mkMs
  rw [hr, if_pos rfl, if_pos rfl, show ((st : Nat) : Int).toNat = st by omega]
  exact ⟨A, c, by rw [makeM_len]; exact he, hf, hb⟩
set_option maxRecDepth 100000 in
set_option maxHeartbeats 4000000 in
theorem pMake7_any (A : Option Addr) (c : Nat) (xs : List El.En) (s : Int) (w : World) (hf : EsAt w A xs) (hn : xs.length ≤ 4294967295) (hs : Sized xs) (hcap : xs.length ≤ c) :
    Calls Try.prog 59 #[.slice A xs.length c, .int .i64 s] w (MakeOut s xs w) := by
  have hb0 := alloc_below w (.cells #[.int .i64 0, .slice none 0 0] 73)
  have HR := Row2.new w 73 (.int .i64 0) (.slice none 0 0)
  have J := Lib.hid (fun (w' : World) (hb : Below w.heap.size w w') => eList_any A c xs w' (hf.below hb (Nat.le_refl _)) hn hs)
  have JS := Lib.hid (fun w => isStep_any s w)
  by_cases hl : (listE xs).2 = 0
  rotate_left
  · have HL := Lib.hid (mkEr_list (s := s) hl)
    obtain ⟨b1, b2⟩ := ne_b hl
    clear hf hs
    generalize (listE xs).1 = r0' at *
    generalize (listE xs).2 = r at *
    go_enter Try.func59, Try.ntmps59
    go_wp2_with fail
    refine (J.out _ hb0).mono ?_
    rintro e w1 ⟨rfl, hb⟩
    have HB1 := Lib.hid (eb_of hb0 hb (Nat.le_refl _))
    have HR2 := HR.below hb (Nat.le_refl _)
    clear hb hb0 HR
    have r0 := HR2.c0
    have r1 := HR2.c1
    have z0 := HR2.fz 0
    have z1 := HR2.fz 1
    go_wp2_with fail
    have HX := HR2.set (.int .i64 0) (.slice none 0 0)
    have k0 := HX.c0
    have k1 := HX.c1
    refine bodyPost_ret (v := .tuple #[.agg #[.int .i64 0, .slice none 0 0], .int .i64 r]) (by simp [results, Try.f59, go_sem, k0, k1]) rfl ?_
    exact MakeOut.err HL.out (by first | assumption | decide) rfl (set2_below HB1.out (Nat.le_refl _) _ _)
  cases hst : stepB s with
  | false =>
    have HL := Lib.hid (mkEr_step hl hst)
    rw [hl] at J
    rw [hst] at JS
    clear hf hs hl hst
    generalize (listE xs).1 = r0' at *
    go_enter Try.func59, Try.ntmps59
    go_wp2_with fail
    refine (J.out _ hb0).mono ?_
    rintro e w1 ⟨rfl, hb⟩
    have HB1 := Lib.hid (eb_of hb0 hb (Nat.le_refl _))
    have HR2 := HR.below hb (Nat.le_refl _)
    clear hb hb0 HR
    go_wp2_with fail
    refine (JS.out _).mono ?_
    rintro e w2 ⟨rfl, rfl⟩
    have r0 := HR2.c0
    have r1 := HR2.c1
    have z0 := HR2.fz 0
    have z1 := HR2.fz 1
    go_wp2_with fail
    have HX := HR2.set (.int .i64 0) (.slice none 0 0)
    have k0 := HX.c0
    have k1 := HX.c1
    refine bodyPost_ret (v := .tuple #[.agg #[.int .i64 0, .slice none 0 0], .int .i64 7]) (by simp [results, Try.f59, go_sem, k0, k1]) rfl ?_
    exact MakeOut.err HL.out (by first | assumption | decide) rfl (set2_below HB1.out (Nat.le_refl _) _ _)
  | true =>
    have HL := Lib.hid (mkEr_ok hl hst)
    obtain ⟨st, rfl⟩ : ∃ st : Nat, s = (st : Int) := ⟨s.toNat, by simp [stepB] at hst; omega⟩
    have hst2 : 1 ≤ st ∧ st ≤ 64 := by simp [stepB] at hst; omega
    obtain ⟨hl5, hchk, hasc⟩ := list_ok hl
    have JM := Lib.hid (fun w => marksFor_any xs.length st w hn hst2.1 hst2.2)
    rw [hl] at J
    rw [hst] at JS
    clear hl hst
    generalize (listE xs).1 = r0' at *
    go_enter Try.func59, Try.ntmps59
    go_wp2_with fail
    refine (J.out _ hb0).mono ?_
    rintro e w1 ⟨rfl, hb⟩
    have HB1 := Lib.hid (eb_of hb0 hb (Nat.le_refl _))
    have HR2 := HR.below hb (Nat.le_refl _)
    clear hb hb0 HR
    go_wp2_with fail
    refine (JS.out _).mono ?_
    rintro e w2 ⟨rfl, rfl⟩
    go_wp2_with fail
    refine (JM.out _).mono ?_
    rintro e w3 ⟨rfl, rfl⟩
    go_wp2_with fail
    have hF : w.heap.size < w1.heap.size := HR2.lt
    have hF1 : w.heap.size ≤ w1.heap.size + 1 := by omega
    have HRF := Row2.new w1 73 (.int .i64 (st : Int)) (.slice none 0 0)
    have HR3 := HR2.below (alloc_below w1 (.cells #[.int .i64 (st : Int), .slice none 0 0] 73)) (Nat.le_refl _)
    have HB3 := Lib.hid (HB1.out.alloc HB1.out.size (.cells #[.int .i64 (st : Int), .slice none 0 0] 73))
    obtain ⟨i0, hi, hz0, hz1, hz2⟩ := info_parts infoSt
    have HG := Lib.hid hf
    have hmk5 : mk xs.length st ≤ xs.length := mk_le
    clear HR2 hf
    go_loopw [33] (fun i wr => ∃ (k : Nat) (v : Value), k ≤ mk xs.length st ∧ i = .int .i64 k ∧ Row2 wr w.heap.size 73 (.int .i64 0) (.slice none 0 0) ∧ Row2 wr w1.heap.size 73 (.int .i64 (st : Int)) v ∧ wr.ownsRow (w1.heap.size + 1) 9 1 v k (strs ((makeM st xs).take k)) ∧ Below w.heap.size w wr) (fun i _ => mk xs.length st - (intOf i).toNat)
    case atStart => exact ⟨0, .slice none 0 0, Nat.zero_le _, rfl, HR3, HRF, World.ownsRow_nil _ _ _ _, HB3.out⟩
    case round =>
      obtain ⟨k, v, hk, rfl, HR4, HRF, hown, hb⟩ := hrel
      have HB := Lib.hid hb
      clear hb HR3
      by_cases hlt : k < mk xs.length st
      · have hix := mk_idx hst2.1 hlt
        have hord := makeM_ok hst2.1 hasc hlt
        have J1 := Lib.hid (border_any A c xs st k wr (HG.out.below HB.out (Nat.le_refl _)) hl5 hcap hst2.2 hst2.1 hix)
        have J2 := Lib.hid (fun w => btw_call (keyAt xs ((k + 1) * st - 1)) (keyAt xs ((k + 1) * st)) w hord (keyAt_size (fun x hx => (El.chk_of (hchk x hx)).1) (by omega)) (keyAt_size (fun x hx => (El.chk_of (hchk x hx)).1) hix))
        have HT := Lib.hid (make_take hlt)
        clear hord
        generalize btwK (keyAt xs ((k + 1) * st - 1)) (keyAt xs ((k + 1) * st)) = m at *
        generalize keyAt xs ((k + 1) * st - 1) = a1 at *
        generalize keyAt xs ((k + 1) * st) = a2 at *
        clear hix
        go_wp2_with fail
        refine J1.out.mono ?_
        rintro e w3 ⟨rfl, hb⟩
        have HB3 := Lib.hid (eb_of HB.out hb (Nat.le_refl _))
        have hown := own_bel hown hb
        have HRF := HRF.below hb (Nat.le_refl _)
        have HR4 := HR4.below hb (Nat.le_refl _)
        clear hb
        go_wp2_with fail
        refine (J2.out _).mono ?_
        rintro e w4 ⟨rfl, hb⟩
        have HB4 := Lib.hid (eb_of HB3.out hb (Nat.le_refl _))
        have hown := own_bel hown hb
        have HRF := HRF.below hb (Nat.le_refl _)
        have HR4 := HR4.below hb (Nat.le_refl _)
        have f0 := HRF.c0
        have f1 := HRF.c1
        have N2 := Lib.hid (cell_one_str w4 (.string m))
        have hsz4 := HB4.out.size
        have hF4 := HRF.lt
        clear hb
        go_wp2_with (at_builtin; go_loud (refine wpList_append_own _ rfl (.tmp 50) (.tmp 52) 71 rfl (w1.heap.size + 1) 9 i0 (.string ⟨#[]⟩) 1 16 Try.underlying71 hi hz0 hz1 hz2 rfl (by decide) _ k _ rfl (hown.alloc _) ⟨w4.heap.size, 0, none⟩ 1 1 [.string m] rfl rfl N2.out (by simp [Value.oneCell']) (by unfold maxLen; omega) (by omega) (by simp; omega) ?_; intro v5 w5 hown5 hg5 _; obtain ⟨A5, c5, hv5⟩ := own_slice hown5; subst hv5; have hne : ∀ g, v.ownBlock = some g → w1.heap.size + 1 ≤ g := (fun g hg => (hown.lt g hg).1); have hb5 := (HB4.out.alloc HB4.out.size (.cells #[.string m] 9)).grown hg5 (by simp; omega) (fun g hg => Nat.le_trans hF1 (hne g hg)); have HB5 := Lib.hid hb5; have HRF5 := (HRF.below (alloc_below w4 (.cells #[.string m] 9)) (Nat.le_refl _)).chg (Chg.of_grown hg5) (fun e => absurd (hne _ e.symm) (by omega)); have HR5 := (HR4.below (alloc_below w4 (.cells #[.string m] 9)) (Nat.le_refl _)).chg (Chg.of_grown hg5) (fun e => absurd (hne _ e.symm) (by omega)); have p0 := HRF5.c0; have p1 := HRF5.c1; have z1 := HRF5.fz 1; have HO5 := Lib.hid hown5; clear hg5 hb5 hown5))
        go_roundw
        case rel => exact ⟨k + 1, .slice A5 (k + 1) c5, by omega, by go_num, HR5.chg (chg_set w1.heap.size 1 _) (by omega), HRF5.set1 _, by rw [HT.out, strs_snoc]; exact (chg_set w1.heap.size 1 _).own HO5.out (fun g hg e => by have := (HO5.out.lt g hg).1; omega), HB5.out.setCell (p := ⟨w1.heap.size, 1, none⟩) (by simp; omega) _⟩
        case measure => simp [intOf]; omega
      · have hke : k = mk xs.length st := by omega
        obtain ⟨A2, c2, rfl⟩ := own_slice hown
        rw [show (makeM st xs).take k = makeM st xs from List.take_of_length_le (by rw [makeM_len]; omega)] at hown
        subst hke
        obtain ⟨hss, hge⟩ := SsAt.of_own (makeM_len st xs).symm hown
        have HSS := Lib.hid hss
        have HGE := Lib.hid hge
        have f0 := HRF.c0
        have f1 := HRF.c1
        have r0 := HR4.c0
        have r1 := HR4.c1
        have z0 := HR4.fz 0
        have z1 := HR4.fz 1
        clear hown hss hge
        go_wp2_with fail
        have HX := HR4.set (.int .i64 (st : Int)) (.slice A2 (mk xs.length st) c2)
        have k0 := HX.c0
        have k1 := HX.c1
        refine bodyPost_ret (v := .tuple #[.agg #[.int .i64 (st : Int), .slice A2 (mk xs.length st) c2], .int .i64 0]) (by simp [results, Try.f59, go_sem, k0, k1]) rfl ?_
        exact MakeOut.ok HL.out rfl ((HSS.out.chg (chg_set w.heap.size 0 _) (fun a h e => by have := HGE.out a h; omega)).chg (chg_set w.heap.size 1 _) (fun a h e => by have := HGE.out a h; omega)) (set2_below HB.out (Nat.le_refl _) _ _)
end Go.Proofs.Yticdechdgpfdfaa.KK

/-
  The law's own far, wide, example.
-/
namespace Go.Proofs.Yticdechdgpfdfaa.KK
open Go.ChangeShapes Go.WideShapes Go.ChangeAt Go.RowKit Go.Proofs

def farF (xs : List El.En) : Bool := if 80 < xs.length then (decide (xs.length ≤ 5000) || decide (5010 < xs.length)) else xs.any largeE
def longM (m : ByteArray) : Bool := decide (100 < m.size)
def wideF (ms : List ByteArray) : Bool := if 80 < ms.length then (decide (ms.length < 5000) || decide (5010 < ms.length)) else ms.any longM
theorem anyM_at {xs : List ByteArray} {k : Nat} (h : k < xs.length) {p : ByteArray → Bool} (hp : p xs[k] = true) : xs.any p = true := List.any_eq_true.2 ⟨xs[k], List.getElem_mem h, hp⟩
theorem anyM_next {xs : List ByteArray} {k : Nat} (h : k < xs.length) {p : ByteArray → Bool} (h1 : (xs.take k).any p = false) (h2 : p xs[k] = false) : (xs.take (k + 1)).any p = false := by
  rw [List.take_succ_eq_append_getElem h, List.any_append, h1]; simp [h2]
theorem far_len {xs : List El.En} (h : farF xs = false) : xs.length ≤ 5010 := by
  unfold farF at h
  by_cases g : 80 < xs.length
  · rw [if_pos g] at h; simp at h; omega
  · omega
theorem wide_len {ms : List ByteArray} (h : wideF ms = false) : ms.length ≤ 5010 := by
  unfold wideF at h
  by_cases g : 80 < ms.length
  · rw [if_pos g] at h; simp at h; omega
  · omega
end Go.Proofs.Yticdechdgpfdfaa.KK
