/-
  Where a key is in a plain map, or would be.
-/
import Derived.Test.YtbgpcmpbfenplaaVb
namespace Go.Proofs.Ytbgpcmpbfenplaa.KK
open Go.ChangeShapes Go.WideShapes Go.ChangeAt Go.RowKit Go.Proofs

/-- the key of a pair is less than a key -/
def lk (key : ByteArray) (x : Pr) : Bool := Kl.lt (Kl.L x.1) (Kl.L key)
/-- how many keys are less -/
def posP (key : ByteArray) : List Pr → Nat
  | [] => 0
  | x :: t => if lk key x = true then posP key t + 1 else 0
def hasP (key : ByteArray) (xs : List Pr) : Bool := match xs[posP key xs]? with | some x => decide (x.1 = key) | none => false
theorem posP_le (key : ByteArray) (xs : List Pr) : posP key xs ≤ xs.length := by
  induction xs with
  | nil => exact Nat.le_refl _
  | cons x t ih => rw [posP]; split <;> simp; omega
theorem posP_of {key : ByteArray} : ∀ {xs : List Pr} {i : Nat}, i ≤ xs.length → (∀ y ∈ xs.take i, lk key y = true) → (∀ y ∈ xs.drop i, lk key y = false) → posP key xs = i
  | [], i, h, _, _ => by simp at h; subst h; rfl
  | x :: t, 0, _, _, h2 => by rw [posP, if_neg (by rw [h2 x (by simp)]; simp)]
  | x :: t, i + 1, h, h1, h2 => by
    rw [posP, if_pos (h1 x (by simp)), posP_of (by simpa using h) (fun y hy => h1 y (by simp [hy])) (fun y hy => h2 y (by simpa using hy))]
theorem box1P (k v : ByteArray) (w : World) : Hid (∀ w', Below (w.alloc (.cells #[.string k, .string v] 31)).heap.size (w.alloc (.cells #[.string k, .string v] 31)) w' →
    w'.cell? ⟨w.heap.size, 0, none⟩ = some (.string k) ∧ w'.cell? ⟨w.heap.size, 1, none⟩ = some (.string v) ∧ w.heap.size < w'.heap.size) := Lib.hid fun w' h => by
  have r1 := fun i => cell_of_row (w.alloc (.cells #[.string k, .string v] 31)) w.heap.size i _ _ _ (heap_alloc_new w (.cells #[.string k, .string v] 31))
  have g1 : ∀ i, w'.cell? ⟨w.heap.size, i, none⟩ = (w.alloc (.cells #[.string k, .string v] 31)).cell? ⟨w.heap.size, i, none⟩ := fun i => h.cell (p := ⟨w.heap.size, i, none⟩) (by simp)
  exact ⟨(g1 0).trans (r1 0), (g1 1).trans (r1 1), by have := h.size; simp at this; omega⟩
theorem pl1_any (k v key : ByteArray) (w : World) (hk : k.size ≤ 32) (hkey : key.size ≤ 32) :
    Calls Try.prog 81 #[.agg #[.string k, .string v], .string key] w fun e w' => e = .returned (.int .i64 (Kl.ord (Kl.L k) (Kl.L key))) ∧ Below w.heap.size w w' := by
  have J := Lib.hid (fun w => mOrder_any k key w hk hkey)
  clear hk hkey
  generalize Kl.ord (Kl.L k) (Kl.L key) = r at *
  go_enter Try.func81, Try.ntmps81
  go_wp2_with fail
  refine (J.out _).mono ?_
  rintro e w1 ⟨rfl, hb⟩
  have HB := Lib.hid (eb_of (alloc_below w (.cells #[.string k, .string v] 31)) hb (Nat.le_refl _))
  clear hb
  go_wp2_with fail
  go_ret
  exact ⟨rfl, HB.out⟩
theorem lk_ord {key : ByteArray} {x : Pr} : lk key x = true ↔ Kl.ord (Kl.L x.1) (Kl.L key) < 0 := by rw [Kl.ord_neg]; exact Iff.rfl
theorem lk_of_kp {key : ByteArray} {x y : Pr} (h : kp x y = true) (g : lk key y = true) : lk key x = true := Kl.lt_trans h g
theorem take_lk {key : ByteArray} {xs : List Pr} (hs : SP xs) {h : Nat} (hh : h < xs.length) (g : lk key xs[h] = true) : ∀ y ∈ xs.take (h + 1), lk key y = true := fun y hy => by
  obtain ⟨j, hj, rfl⟩ := List.getElem_of_mem hy
  rw [List.length_take] at hj
  rw [List.getElem_take]
  by_cases e : j = h
  · subst e; exact g
  · exact lk_of_kp (List.pairwise_iff_getElem.1 hs j h (by omega) hh (by omega)) g
theorem drop_lk {key : ByteArray} {xs : List Pr} (hs : SP xs) {h : Nat} (hh : h < xs.length) (g : lk key xs[h] = false) : ∀ y ∈ xs.drop h, lk key y = false := fun y hy => by
  obtain ⟨j, hj, rfl⟩ := List.getElem_of_mem hy
  rw [List.length_drop] at hj
  rw [List.getElem_drop]
  cases q : lk key xs[h + j] with
  | false => rfl
  | true =>
    by_cases e : j = 0
    · subst e; rw [← g]; exact q.symm ▸ by simp
    · have := lk_of_kp (List.pairwise_iff_getElem.1 hs h (h + j) hh (by omega) (by omega)) q
      rw [this] at g; cases g
set_option maxRecDepth 100000 in
set_option maxHeartbeats 2000000 in
theorem search_any (A : Option Addr) (c : Nat) (xs : List Pr) (key : ByteArray) (w : World) (hf : PsAt w A xs) (hn : xs.length ≤ 5000) (hz : ∀ x ∈ xs, szE x.1 x.2 = 0) (hs : SP xs) (hk : key.size ≤ 32) :
    Calls Try.prog 80 #[.slice A xs.length c, .string key, .func (.func 81) #[] #[]] w fun e w' => e = .returned (.tuple #[.int .i64 (posP key xs : Nat), .bool (hasP key xs)]) ∧ Below w.heap.size w w' := by
  have HF := Lib.hid hf
  have HZ := Lib.hid hz
  have HS := Lib.hid hs
  obtain ⟨n, hnn⟩ : ∃ n, xs.length = n := ⟨_, rfl⟩
  rw [hnn] at hn ⊢
  have HN := Lib.hid hnn
  clear hf hz hs hnn
  go_enter Try.func80, Try.ntmps80
  go_wp2_with fail
  go_loopw [9, 10] (fun vi vj wr => ∃ i j : Nat, vi = .int .i64 i ∧ vj = .int .i64 j ∧ i ≤ j ∧ j ≤ n ∧ (∀ y ∈ xs.take i, lk key y = true) ∧ (∀ y ∈ xs.drop j, lk key y = false) ∧ Below w.heap.size w wr) (fun vi vj _ => (intOf vj).toNat - (intOf vi).toNat)
  case atStart => exact ⟨0, n, by first | rfl | go_num, rfl, Nat.zero_le _, Nat.le_refl _, fun y hy => by simp at hy, fun y hy => by (rw [List.drop_eq_nil_of_le (by rw [HN.out]; exact Nat.le_refl _)] at hy; cases hy), Below.refl _ _⟩
  case round =>
    obtain ⟨i, j, rfl, rfl, hij, hjn, h1, h2, hb⟩ := hrel
    have H1 := Lib.hid h1
    have H2 := Lib.hid h2
    have HB := Lib.hid hb
    have hsz := hb.size
    clear h1 h2 hb
    by_cases hlt : i < j
    · have hf1 : (i : Int) < (j : Int) := by omega
      obtain ⟨h, hh⟩ : ∃ h, (i + j) / 2 = h := ⟨_, rfl⟩
      have hhI : ((i : Int) + (j : Int)) / 2 = (h : Int) := by omega
      have hih : i ≤ h := by omega
      have hhj : h < j := by omega
      have hhn : (h : Int) < (n : Int) := by omega
      have hhn2 : h < n := by omega
      have hhx : h < xs.length := by rw [HN.out]; exact hhn2
      clear hh
      rcases HF.out.below HB.out (Nat.le_refl _) with h0 | ⟨b, off, rfl, hbl, hc⟩
      · rw [h0] at hhx; simp at hhx
      obtain ⟨g0, g1⟩ := hc h hhx
      have J := Lib.hid (fun w => pl1_any xs[h].1 xs[h].2 key w (szE_of (HZ.out _ (List.getElem_mem hhx))).1 hk)
      clear hc
      cases hl : lk key xs[h] with
      | true =>
        have ho := lk_ord.1 hl
        have HT := Lib.hid (take_lk HS.out hhx hl)
        clear hl
        have hd : decide (Kl.ord (Kl.L xs[h].1) (Kl.L key) < 0) = true := by rw [decide_eq_true_eq]; exact ho
        generalize Kl.ord (Kl.L xs[h].1) (Kl.L key) = r at *
        generalize xs[h].1 = xk at *
        generalize xs[h].2 = xv at *
        go_wp2_with fail
        refine (J.out _).mono ?_
        rintro e w1 ⟨rfl, hb⟩
        have HB1 := Lib.hid (eb_of HB.out hb (Nat.le_refl _))
        clear hb J
        go_wp2_with fail
        go_roundw
        case rel => exact ⟨h + 1, j, by go_num, rfl, by omega, hjn, HT.out, H2.out, HB1.out⟩
        case measure => simp [intOf]; omega
      | false =>
        have ho : ¬ Kl.ord (Kl.L xs[h].1) (Kl.L key) < 0 := fun q => by rw [lk_ord.2 q] at hl; cases hl
        have HT := Lib.hid (drop_lk HS.out hhx hl)
        clear hl
        have hd : decide (Kl.ord (Kl.L xs[h].1) (Kl.L key) < 0) = false := by rw [decide_eq_false_iff_not]; exact ho
        generalize Kl.ord (Kl.L xs[h].1) (Kl.L key) = r at *
        generalize xs[h].1 = xk at *
        generalize xs[h].2 = xv at *
        go_wp2_with fail
        refine (J.out _).mono ?_
        rintro e w1 ⟨rfl, hb⟩
        have HB1 := Lib.hid (eb_of HB.out hb (Nat.le_refl _))
        clear hb J
        go_wp2_with fail
        go_roundw
        case rel => exact ⟨i, h, rfl, rfl, hih, by omega, H1.out, HT.out, HB1.out⟩
        case measure => simp [intOf]; omega
    · have hf1 : ¬ (i : Int) < (j : Int) := by omega
      obtain rfl : i = j := by omega
      have HP : Hid (posP key xs = i) := Lib.hid (posP_of (by rw [HN.out]; exact hjn) H1.out H2.out)
      by_cases hin : i < n
      rotate_left
      · have d1 : decide ((i : Int) < (n : Int)) = false := by rw [decide_eq_false_iff_not]; omega
        have d2 : decide (i < n) = false := by rw [decide_eq_false_iff_not]; exact hin
        have HH : Hid (hasP key xs = false) := Lib.hid (by unfold hasP; rw [HP.out, List.getElem?_eq_none (by rw [HN.out]; omega)])
        go_wp2_with fail
        go_ret2
        exact ⟨by rw [HP.out, HH.out]; first | rfl | simp, HB.out⟩
      have d1 : decide ((i : Int) < (n : Int)) = true := by rw [decide_eq_true_eq]; omega
      have d2 : decide (i < n) = true := by rw [decide_eq_true_eq]; exact hin
      have d3 : (i : Int) < (n : Int) := by omega
      have hix : i < xs.length := by rw [HN.out]; exact hin
      rcases HF.out.below HB.out (Nat.le_refl _) with h0 | ⟨b, off, rfl, hbl, hc⟩
      · rw [h0] at hix; simp at hix
      obtain ⟨g0, g1⟩ := hc i hix
      have J := Lib.hid (fun w => pl1_any xs[i].1 xs[i].2 key w (szE_of (HZ.out _ (List.getElem_mem hix))).1 hk)
      have HH : Hid (hasP key xs = (Kl.ord (Kl.L xs[i].1) (Kl.L key) == 0)) := Lib.hid (by
        unfold hasP
        rw [HP.out, List.getElem?_eq_getElem hix]
        show decide (xs[i].1 = key) = _
        rw [Bool.eq_iff_iff, decide_eq_true_eq, beq_iff_eq, Kl.ord_eq]
        exact ⟨fun h => by rw [h], fun h => ByteArray.ext (Array.toList_inj.1 h)⟩)
      clear hc
      generalize Kl.ord (Kl.L xs[i].1) (Kl.L key) = r at *
      generalize xs[i].1 = xk at *
      generalize xs[i].2 = xv at *
      go_wp2_with fail
      refine (J.out _).mono ?_
      rintro e w1 ⟨rfl, hb⟩
      have HB1 := Lib.hid (eb_of HB.out hb (Nat.le_refl _))
      clear hb J
      go_wp2_with fail
      go_ret2
      exact ⟨by rw [HP.out, HH.out]; first | rfl | simp, HB1.out⟩
theorem place_any (A : Option Addr) (c : Nat) (xs : List Pr) (key : ByteArray) (w : World) (hf : PsAt w A xs) (hn : xs.length ≤ 5000) (hz : ∀ x ∈ xs, szE x.1 x.2 = 0) (hs : SP xs) (hk : key.size ≤ 32) :
    Calls Try.prog 46 #[.slice A xs.length c, .string key] w fun e w' => e = .returned (.tuple #[.int .i64 (posP key xs : Nat), .bool (hasP key xs)]) ∧ Below w.heap.size w w' := by
  have J := Lib.hid (search_any A c xs key w hf hn hz hs hk)
  clear hf hz hs
  generalize xs.length = n at *
  generalize posP key xs = p at *
  generalize hasP key xs = q at *
  go_enter Try.func46, Try.ntmps46
  go_wp2_with fail
  refine J.out.mono ?_
  rintro e w1 ⟨rfl, hb⟩
  have HB := Lib.hid hb
  clear hb J
  go_wp2_with fail
  go_ret2
  exact ⟨rfl, HB.out⟩
end Go.Proofs.Ytbgpcmpbfenplaa.KK
