/-
  Plain functions, joined into one text.
-/
import Derived.Test.YtmobjpmkenpckaaDoorQc
import Derived.Deep.QuietTactic
import Derived.Shelf.SlSortCmp.InsertionK
import Derived.Tactics2
import Derived.Lib.SliceRun
/-
  A region that draws its order, reads, and calls functions that lay blocks of their own: walked once. Slices of entries: where they lie. checkAll, far, Same.
-/
namespace Go.Proofs.YtmobjpmkenpckaaDoor.KK
open Go.ChangeShapes Go.WideShapes Go.ChangeAt Go.RowKit Go.Proofs

/-- a world that has whatever w has -/
structure Abv (w : World) where
  world : World
  h : Below w.heap.size w world
instance (w : World) : Inhabited (Abv w) := ⟨⟨w, Below.refl _ _⟩⟩
theorem wp_region_abv {P : Program} {id : Nat} {Q : Exit → Act → World → Prop} {a : Act} {w : World} {l : List Oper} (hm : P.follows .mixedOrders = true) (hB : Region.lexB .any l.toArray = true)
    (h : wpQuiet P l.toArray (fun w' => ∃ p : Abv w, w' = p.world) (fun a' => ∀ w', (∃ p : Abv w, w' = p.world) → Q .normal a' w') l a) : (Code.region id l.toArray true).wp P Q a w :=
  wp_region_quiet (C := fun w' => ∃ p : Abv w, w' = p.world) hm hB ⟨⟨_, below_drewN' 1⟩, rfl⟩ (by simpa using h)
theorem callAbv {P : Program} {f : FuncId} {args : Array Value} {w : World} {p : Abv w} {v : Value} (h : Calls P f args p.world fun e w' => e = .returned v ∧ Below p.world.heap.size p.world w') :
    Calls P f args p.world fun e w'' => e = .returned v ∧ ∃ p' : Abv w, w'' = p'.world :=
  h.mono fun _ _ ⟨he, hb⟩ => ⟨he, ⟨_, p.h.trans (hb.mono p.h.size)⟩, rfl⟩
theorem callAbv0 {P : Program} {f : FuncId} {args : Array Value} {w : World} {p : Abv w} {v : Value} (h : Calls P f args p.world fun e w' => e = .returned v ∧ p.world = w') :
    Calls P f args p.world fun e w'' => e = .returned v ∧ ∃ p' : Abv w, w'' = p'.world :=
  h.mono fun _ _ ⟨he, hb⟩ => ⟨he, p, hb.symm⟩

/-- a slice of entries lies there: its cells -/
def EsAt (w : World) (A : Option Addr) (xs : List El.En) : Prop :=
  xs = [] ∨ ∃ b off, A = some ⟨b, off, none⟩ ∧ b < w.heap.size ∧ ∀ (i : Nat) (h : i < xs.length),
    w.cell? ⟨b, off + i * 4, none⟩ = some (.string xs[i].1) ∧ w.cell? ⟨b, off + i * 4 + 1, none⟩ = some (.string xs[i].2.1) ∧ w.cell? ⟨b, off + i * 4 + 2, none⟩ = some (.bool xs[i].2.2.1) ∧ w.cell? ⟨b, off + i * 4 + 3, none⟩ = some (.int .i64 xs[i].2.2.2)
theorem EsAt.below {B : Nat} {w w' : World} {A : Option Addr} {xs : List El.En} (h : EsAt w A xs) (hb : Below B w w') (hB : w.heap.size ≤ B) : EsAt w' A xs := by
  rcases h with h | ⟨b, off, hA, hlt, hc⟩
  · exact .inl h
  · refine .inr ⟨b, off, hA, Nat.lt_of_lt_of_le hlt hb.size, fun i hi => ?_⟩
    have e : ∀ o, w'.cell? ⟨b, o, none⟩ = w.cell? ⟨b, o, none⟩ := fun o => hb.cell (p := ⟨b, o, none⟩) (by simp; omega)
    rw [e, e, e, e]; exact hc i hi
/-- sizes of strings that a machine has -/
def Sized (xs : List El.En) : Prop := ∀ x ∈ xs, x.1.size ≤ 9223372036854775807 ∧ x.2.1.size ≤ 9223372036854775807
theorem Sized.at {xs : List El.En} (h : Sized xs) {k : Nat} (hk : k < xs.length) : xs[k].1.size ≤ 9223372036854775807 ∧ xs[k].2.1.size ≤ 9223372036854775807 := h _ (List.getElem_mem hk)

/-- the error of a list in any order -/
def firstE : List El.En → Int
  | [] => 0
  | x :: t => if El.chk x = 0 then firstE t else El.chk x
def allE (xs : List El.En) : Int := if 5000 < xs.length then 3 else firstE xs
theorem firstE_ok {xs : List El.En} {k : Nat} (h : k < xs.length) (g : El.chk xs[k] = 0) : firstE (xs.drop k) = firstE (xs.drop (k + 1)) := by
  rw [List.drop_eq_getElem_cons h]; exact if_pos g
theorem firstE_no {xs : List El.En} {k : Nat} (h : k < xs.length) (g : El.chk xs[k] ≠ 0) : firstE (xs.drop k) = El.chk xs[k] := by
  rw [List.drop_eq_getElem_cons h]; exact if_neg g
theorem firstE_end {xs : List El.En} {k : Nat} (h : ¬ k < xs.length) : firstE (xs.drop k) = 0 := by
  rw [List.drop_eq_nil_of_le (by omega)]; rfl
theorem firstE_all : ∀ {xs : List El.En}, firstE xs = 0 → ∀ x ∈ xs, El.chk x = 0
  | [], _, _, h => by cases h
  | y :: t, h, x, hx => by
    by_cases g : El.chk y = 0
    · rcases List.mem_cons.1 hx with rfl | hx
      · exact g
      · exact firstE_all (by rw [firstE, if_pos g] at h; exact h) x hx
    · rw [firstE, if_neg g] at h; exact absurd h g
theorem retT1 {v : Value} {a b : Int} (h : a = b) : Ending.returned (.tuple #[v, .int .i64 a]) = .returned (.tuple #[v, .int .i64 b]) := by rw [h]

set_option maxHeartbeats 1000000 in
theorem checkAll_any (A : Option Addr) (c : Nat) (xs : List El.En) (w : World) (hf : EsAt w A xs) (hn : xs.length ≤ 4294967295) (hs : Sized xs) :
    Calls Tryd.prog 24 #[.slice A xs.length c] w fun e w' => e = .returned (.int .i64 (allE xs)) ∧ Below w.heap.size w w' := by
  by_cases h64 : 5000 < xs.length
  · go_enter Tryd.func24, Tryd.ntmps24
    go_wp2_with fail
    go_ret
    exact ⟨retI (by rw [allE, if_pos h64]), Below.refl _ _⟩
  have HAL : Hid (allE xs = firstE xs) := Lib.hid (by rw [allE, if_neg h64])
  go_enter Tryd.func24, Tryd.ntmps24
  go_wp2_with fail
  go_loopw [11] (fun i wr => ∃ k : Nat, k ≤ xs.length ∧ i = .int .i64 k ∧ Below w.heap.size w wr ∧ firstE xs = firstE (xs.drop k)) (fun i _ => xs.length - (intOf i).toNat)
  case atStart => exact ⟨0, Nat.zero_le _, rfl, Below.refl _ _, by simp⟩
  case round =>
    obtain ⟨k, hk, rfl, hb, ha⟩ := hrel
    have hsz := hb.size
    have HA := Lib.hid ha
    have HB := Lib.hid hb
    have hf' := hf.below hb (Nat.le_refl _)
    clear ha hb hf
    by_cases hlt : k < xs.length
    · rcases hf' with h0 | ⟨b, off, rfl, hbl, hc⟩
      · subst h0; simp at hlt
      obtain ⟨g0, g1, g2, g3⟩ := hc k hlt
      have J := Lib.hid (fun w => eCheck_any xs[k].1 xs[k].2.1 xs[k].2.2.1 xs[k].2.2.2 w (hs.at hlt).1 (hs.at hlt).2)
      have HS := Lib.hid hs
      clear hc hs
      by_cases hl : El.chk xs[k] = 0
      · have J := Lib.hid (fun w => by have K := J.out w; rw [show El.chk (xs[k].1, xs[k].2.1, xs[k].2.2.1, xs[k].2.2.2) = 0 from hl] at K; exact K)
        have HL := Lib.hid hl
        clear hl
        go_wp2_with fail
        refine (J.out _).mono ?_
        rintro e w1 ⟨rfl, hb1⟩
        have HB1 := Lib.hid ((HB.out.alloc hsz _).trans (hb1.mono (by simp; omega)))
        clear hb1
        go_wp2_with fail
        go_roundw
        case rel => exact ⟨k + 1, by omega, by go_num, HB1.out, by rw [HA.out, firstE_ok hlt HL.out]⟩
        case measure => simp [intOf]; omega
      · have HL := Lib.hid hl
        obtain ⟨b1, b2⟩ := ne_b hl
        have J := Lib.hid (fun w => by have K := J.out w; rw [show El.chk (xs[k].1, xs[k].2.1, xs[k].2.2.1, xs[k].2.2.2) = El.chk xs[k] from rfl] at K; exact K)
        clear hl
        generalize hr : El.chk xs[k] = r at *
        have HR := Lib.hid hr
        clear hr
        go_wp2_with fail
        refine (J.out _).mono ?_
        rintro e w1 ⟨rfl, hb1⟩
        have HB1 := Lib.hid ((HB.out.alloc hsz _).trans (hb1.mono (by simp; omega)))
        clear hb1
        go_wp2_with fail
        go_ret
        exact ⟨retI (by rw [HAL.out, HA.out, firstE_no hlt (by rw [HR.out]; exact HL.out), HR.out]), HB1.out⟩
    · go_wp2_with fail
      go_ret
      exact ⟨retI (by rw [HAL.out, HA.out, firstE_end hlt]), HB.out⟩
end Go.Proofs.YtmobjpmkenpckaaDoor.KK

/-
  Contracts of CheckList, on both sides.
-/
namespace Go.Proofs.YtmobjpmkenpckaaDoor.KK
open Go.ChangeShapes Go.WideShapes Go.ChangeAt Go.RowKit Go.Proofs

/-- what is wrong with an entry behind another one -/
def wrong (p : Option El.En) (x : El.En) : Int :=
  if El.chk x = 0 then (match p with | none => 0 | some y => if 0 ≤ Kl.ord (Kl.L y.1) (Kl.L x.1) then 6 else 0) else El.chk x
def scan : Nat → Option El.En → List El.En → Int × Int
  | _, _, [] => (0, 0)
  | i, p, x :: t => if wrong p x = 0 then scan (i + 1) (some x) t else ((i : Int), wrong p x)
def listE (xs : List El.En) : Int × Int := if 5000 < xs.length then (-1, 3) else scan 0 none xs
def prev (xs : List El.En) : Nat → Option El.En
  | 0 => none
  | k + 1 => xs[k]?
theorem prev_succ {xs : List El.En} {k : Nat} (h : k < xs.length) : prev xs (k + 1) = some xs[k] := List.getElem?_eq_getElem h
theorem scan_ok {xs : List El.En} {k : Nat} (h : k < xs.length) (g : wrong (prev xs k) xs[k] = 0) : scan k (prev xs k) (xs.drop k) = scan (k + 1) (prev xs (k + 1)) (xs.drop (k + 1)) := by
  rw [List.drop_eq_getElem_cons h, prev_succ h]; exact if_pos g
theorem scan_no {xs : List El.En} {k : Nat} (h : k < xs.length) (g : wrong (prev xs k) xs[k] ≠ 0) : scan k (prev xs k) (xs.drop k) = ((k : Int), wrong (prev xs k) xs[k]) := by
  rw [List.drop_eq_getElem_cons h]; exact if_neg g
theorem scan_end {xs : List El.En} {k : Nat} {p : Option El.En} (h : ¬ k < xs.length) : scan k p (xs.drop k) = (0, 0) := by
  rw [List.drop_eq_nil_of_le (by omega)]; rfl
theorem wrong_chk {p : Option El.En} {x : El.En} (h : El.chk x ≠ 0) : wrong p x = El.chk x := if_neg h
theorem wrong_none {x : El.En} (h : El.chk x = 0) : wrong none x = 0 := if_pos h
theorem wrong_up {y x : El.En} (h : El.chk x = 0) (g : ¬ 0 ≤ Kl.ord (Kl.L y.1) (Kl.L x.1)) : wrong (some y) x = 0 := by unfold wrong; rw [if_pos h]; exact if_neg g
theorem wrong_down {y x : El.En} (h : El.chk x = 0) (g : 0 ≤ Kl.ord (Kl.L y.1) (Kl.L x.1)) : wrong (some y) x = 6 := by unfold wrong; rw [if_pos h]; exact if_pos g
theorem retP {a b c d : Int} {p : Int × Int} (h : p = (a, b)) (g : a = c) (k : b = d) : Ending.returned (.tuple #[.int .i64 c, .int .i64 d]) = .returned (.tuple #[.int .i64 p.1, .int .i64 p.2]) := by rw [h, g, k]
theorem cell_alloc_old {w : World} {o : Obj} {b i : Nat} (h : b < w.heap.size) : (w.alloc o).cell? ⟨b, i, none⟩ = w.cell? ⟨b, i, none⟩ := by
  unfold World.cell?; rw [heap_alloc_old w o h]
theorem abv_cell {w1 : World} {b o : Nat} {v : Value} (hb : b < w1.heap.size) (h : w1.cell? ⟨b, o, none⟩ = some v) : ∀ p : Abv w1, p.world.cell? ⟨b, o, none⟩ = some v :=
  fun p => (p.h.cell (p := ⟨b, o, none⟩) hb).trans h
theorem box1 (k v : ByteArray) (d : Bool) (q : Int) (w : World) : Hid (∀ w', Below (w.alloc (.cells #[.string k, .string v, .bool d, .int .i64 q] 33)).heap.size (w.alloc (.cells #[.string k, .string v, .bool d, .int .i64 q] 33)) w' →
    w'.cell? ⟨w.heap.size, 0, none⟩ = some (.string k) ∧ w'.cell? ⟨w.heap.size, 1, none⟩ = some (.string v) ∧ w'.cell? ⟨w.heap.size, 2, none⟩ = some (.bool d) ∧ w'.cell? ⟨w.heap.size, 3, none⟩ = some (.int .i64 q) ∧ w.heap.size < w'.heap.size) := Lib.hid fun w' h => by
  have r1 := fun i => cell_of_row (w.alloc (.cells #[.string k, .string v, .bool d, .int .i64 q] 33)) w.heap.size i _ _ _ (heap_alloc_new w (.cells #[.string k, .string v, .bool d, .int .i64 q] 33))
  have g1 : ∀ i, w'.cell? ⟨w.heap.size, i, none⟩ = (w.alloc (.cells #[.string k, .string v, .bool d, .int .i64 q] 33)).cell? ⟨w.heap.size, i, none⟩ := fun i => h.cell (p := ⟨w.heap.size, i, none⟩) (by simp)
  exact ⟨(g1 0).trans (r1 0), (g1 1).trans (r1 1), (g1 2).trans (r1 2), (g1 3).trans (r1 3), by have := h.size; simp at this; omega⟩
theorem fst_of {p : Int × Int} {a b : Int} (h : p = (a, b)) : p.1 = a ∧ p.2 = b := by rw [h]; exact ⟨rfl, rfl⟩

set_option maxHeartbeats 2000000 in
theorem eList_any (A : Option Addr) (c : Nat) (xs : List El.En) (w : World) (hf : EsAt w A xs) (hn : xs.length ≤ 4294967295) (hs : Sized xs) :
    Calls Tryd.prog 32 #[.slice A xs.length c] w fun e w' => e = .returned (.tuple #[.int .i64 (listE xs).1, .int .i64 (listE xs).2]) ∧ Below w.heap.size w w' := by
  by_cases h64 : 5000 < xs.length
  · go_enter Tryd.func32, Tryd.ntmps32
    go_wp2_with fail
    go_ret2
    exact ⟨by rw [listE, if_pos h64]; rfl, Below.refl _ _⟩
  have HAL : Hid (listE xs = scan 0 none xs) := Lib.hid (by rw [listE, if_neg h64])
  go_enter Tryd.func32, Tryd.ntmps32
  go_wp2_with fail
  go_loopw [12] (fun i wr => ∃ k : Nat, k ≤ xs.length ∧ i = .int .i64 k ∧ Below w.heap.size w wr ∧ scan 0 none xs = scan k (prev xs k) (xs.drop k) ∧ (∀ y, prev xs k = some y → El.chk y = 0)) (fun i _ => xs.length - (intOf i).toNat)
  case atStart => exact ⟨0, Nat.zero_le _, rfl, Below.refl _ _, rfl, fun y h => by cases h⟩
  case round =>
    obtain ⟨k, hk, rfl, hb, ha, hpv⟩ := hrel
    have HPV := Lib.hid hpv
    clear hpv
    have hsz := hb.size
    have HA := Lib.hid ha
    have HB := Lib.hid hb
    have hf' := hf.below hb (Nat.le_refl _)
    clear ha hb hf
    by_cases hlt : k < xs.length
    rotate_left
    · go_wp2_with fail
      go_ret2
      exact ⟨by rw [HAL.out, HA.out, scan_end hlt]; rfl, HB.out⟩
    have HF := Lib.hid hf'
    rcases hf' with h0 | ⟨b, off, rfl, hbl, hc⟩
    · subst h0; simp at hlt
    obtain ⟨g0, g1, g2, g3⟩ := hc k hlt
    have J := Lib.hid (fun w => eCheck_any xs[k].1 xs[k].2.1 xs[k].2.2.1 xs[k].2.2.2 w (hs.at hlt).1 (hs.at hlt).2)
    by_cases hl : El.chk xs[k] = 0
    rotate_left
    · have HL := Lib.hid (scan_no hlt (by rw [wrong_chk hl]; exact hl))
      rw [wrong_chk hl] at HL
      obtain ⟨b1, b2⟩ := ne_b hl
      have J := Lib.hid (fun w => by have K := J.out w; rw [show El.chk (xs[k].1, xs[k].2.1, xs[k].2.2.1, xs[k].2.2.2) = El.chk xs[k] from rfl] at K; exact K)
      clear hl hc hs
      generalize El.chk xs[k] = r at *
      go_wp2_with fail
      refine (J.out _).mono ?_
      rintro e w1 ⟨rfl, hb1⟩
      have HB1 := Lib.hid ((HB.out.alloc hsz _).trans (hb1.mono (by simp; omega)))
      clear hb1
      go_wp2_with fail
      
      
      go_ret2
      exact ⟨retP (HAL.out.trans (HA.out.trans HL.out)) rfl rfl, HB1.out⟩
    have HC0 := Lib.hid hl
    have sk := (El.chk_of hl).1
    have J := Lib.hid (fun w => by have K := J.out w; rw [show El.chk (xs[k].1, xs[k].2.1, xs[k].2.2.1, xs[k].2.2.2) = 0 from hl] at K; exact K)
    clear hl
    by_cases hk0 : k = 0
    · have hk0' : decide ((0 : Int) < (k : Int)) = false := by simp; omega
      have hk1' : decide (0 < k) = false := by simp; omega
      have HL := Lib.hid (scan_ok hlt (by subst hk0; exact wrong_none HC0.out))
      clear hk0
      clear hc hs
      go_wp2_with fail
      refine (J.out _).mono ?_
      rintro e w1 ⟨rfl, hb1⟩
      have HB1 := Lib.hid ((HB.out.alloc hsz _).trans (hb1.mono (by simp; omega)))
      clear hb1
      go_wp2_with fail
      go_quiet (fail)
      go_wp2_with fail
      go_roundw
      case rel => exact ⟨k + 1, by omega, by go_num, HB1.out.trans ((below_drewN' _).mono HB1.out.size), HA.out.trans HL.out, fun y h => by cases (prev_succ hlt).symm.trans h; exact HC0.out⟩
      case measure => simp [intOf]; omega
    · obtain ⟨j, rfl⟩ : ∃ j, k = j + 1 := ⟨k - 1, by omega⟩
      clear hk0
      have hj : j < xs.length := by omega
      obtain ⟨p0, p1, p2, p3⟩ := hc j hj
      have hcj : El.chk xs[j] = 0 := HPV.out _ (prev_succ hj)
      have sj := (El.chk_of hcj).1
      have hwp : IntKind.i64.wrap (j : Int) = (j : Int) := by rw [IntKind.wrap_i64]; omega
      have hjb : (j : Int) < (xs.length : Int) := by omega
      have hkb : (j : Int) + 1 < (xs.length : Int) := by omega
      have hj1 : decide ((0 : Int) < (j : Int) + 1) = true := by rw [decide_eq_true_eq]; omega
      have JK := Lib.hid (fun w => eKey_any xs[j].1 xs[j].2.1 xs[j].2.2.1 xs[j].2.2.2 xs[j + 1].1 xs[j + 1].2.1 xs[j + 1].2.2.1 xs[j + 1].2.2.2 w sj sk)
      clear hc hs sj sk hcj
      by_cases ho : 0 ≤ Kl.ord (Kl.L xs[j].1) (Kl.L xs[j + 1].1)
      · have hw : wrong (prev xs (j + 1)) xs[j + 1] = 6 := by rw [prev_succ hj]; exact wrong_down HC0.out ho
        have HL := Lib.hid (by have h := scan_no (k := j + 1) hlt (by rw [hw]; decide); rw [hw] at h; exact h)
        clear hw
        have hd : decide (0 ≤ Kl.ord (Kl.L xs[j].1) (Kl.L xs[j + 1].1)) = true := by simpa using ho
        clear ho
        generalize Kl.ord (Kl.L xs[j].1) (Kl.L xs[j + 1].1) = r at *
        go_wp2_with fail
        refine (J.out _).mono ?_
        rintro e w1 ⟨rfl, hb1⟩
        have HB1 := Lib.hid ((HB.out.alloc hsz _).trans (hb1.mono (by simp; omega)))
        obtain ⟨x0, x1, x2, x3, hnx⟩ := (box1 _ _ _ _ _).out _ hb1
        have y0 := abv_cell hnx x0
        have y1 := abv_cell hnx x1
        have y2 := abv_cell hnx x2
        have y3 := abv_cell hnx x3
        have hbw : b < w1.heap.size := by omega
        have z0 := abv_cell hbw ((hb1.cell (p := ⟨b, _, none⟩) (by simp; omega)).trans ((cell_alloc_old hbl).trans p0))
        have z1 := abv_cell hbw ((hb1.cell (p := ⟨b, _, none⟩) (by simp; omega)).trans ((cell_alloc_old hbl).trans p1))
        have z2 := abv_cell hbw ((hb1.cell (p := ⟨b, _, none⟩) (by simp; omega)).trans ((cell_alloc_old hbl).trans p2))
        have z3 := abv_cell hbw ((hb1.cell (p := ⟨b, _, none⟩) (by simp; omega)).trans ((cell_alloc_old hbl).trans p3))
        clear x0 x1 x2 x3 p0 p1 p2 p3 g0 g1 g2 g3
        clear hb1
        go_wp2_with fail
        refine wp_region_abv (by first | assumption | kernel_rfl) (by kernel_rfl) ?_
        repeat (first | go_big_quiet_step (exact callAbv (JK.out _)) | quiet_step (exact callAbv (JK.out _)))
        refine wpQuiet_nil ?_
        intro w2 hw2
        obtain ⟨p, rfl⟩ := hw2
        go_wp2_with fail
        go_ret2
        exact ⟨retP (HAL.out.trans (HA.out.trans HL.out)) (by go_num) rfl, eb_of HB1.out p.h (Nat.le_refl _)⟩
      · have HL := Lib.hid (scan_ok (k := j + 1) hlt (by rw [prev_succ hj, wrong_up HC0.out ho]))
        have hd : decide (0 ≤ Kl.ord (Kl.L xs[j].1) (Kl.L xs[j + 1].1)) = false := by simpa using ho
        clear ho
        generalize Kl.ord (Kl.L xs[j].1) (Kl.L xs[j + 1].1) = r at *
        go_wp2_with fail
        refine (J.out _).mono ?_
        rintro e w1 ⟨rfl, hb1⟩
        have HB1 := Lib.hid ((HB.out.alloc hsz _).trans (hb1.mono (by simp; omega)))
        obtain ⟨x0, x1, x2, x3, hnx⟩ := (box1 _ _ _ _ _).out _ hb1
        have y0 := abv_cell hnx x0
        have y1 := abv_cell hnx x1
        have y2 := abv_cell hnx x2
        have y3 := abv_cell hnx x3
        have hbw : b < w1.heap.size := by omega
        have z0 := abv_cell hbw ((hb1.cell (p := ⟨b, _, none⟩) (by simp; omega)).trans ((cell_alloc_old hbl).trans p0))
        have z1 := abv_cell hbw ((hb1.cell (p := ⟨b, _, none⟩) (by simp; omega)).trans ((cell_alloc_old hbl).trans p1))
        have z2 := abv_cell hbw ((hb1.cell (p := ⟨b, _, none⟩) (by simp; omega)).trans ((cell_alloc_old hbl).trans p2))
        have z3 := abv_cell hbw ((hb1.cell (p := ⟨b, _, none⟩) (by simp; omega)).trans ((cell_alloc_old hbl).trans p3))
        clear x0 x1 x2 x3 p0 p1 p2 p3 g0 g1 g2 g3
        clear hb1
        go_wp2_with fail
        refine wp_region_abv (by first | assumption | kernel_rfl) (by kernel_rfl) ?_
        repeat (first | go_big_quiet_step (exact callAbv (JK.out _)) | quiet_step (exact callAbv (JK.out _)))
        refine wpQuiet_nil ?_
        intro w2 hw2
        obtain ⟨p, rfl⟩ := hw2
        go_wp2_with fail
        go_roundw
        case rel => exact ⟨j + 1 + 1, by omega, by go_num, eb_of HB1.out p.h (Nat.le_refl _), HA.out.trans HL.out, fun y h => by cases (prev_succ hlt).symm.trans h; exact HC0.out⟩
        case measure => simp [intOf]; omega

set_option maxHeartbeats 2000000 in
theorem fList_any (A : Option Addr) (c : Nat) (xs : List El.En) (w : World) (hf : EsAt w A xs) (hn : xs.length ≤ 4294967295) (hs : Sized xs) :
    Calls Tryd.prog 34 #[.slice A xs.length c] w fun e w' => e = .returned (.tuple #[.int .i64 (listE xs).1, .int .i64 (listE xs).2]) ∧ Below w.heap.size w w' := by
  by_cases h64 : 5000 < xs.length
  · go_enter Tryd.func34, Tryd.ntmps34
    go_wp2_with fail
    go_ret2
    exact ⟨by rw [listE, if_pos h64]; rfl, Below.refl _ _⟩
  have HAL : Hid (listE xs = scan 0 none xs) := Lib.hid (by rw [listE, if_neg h64])
  go_enter Tryd.func34, Tryd.ntmps34
  go_wp2_with fail
  go_loopw [4] (fun i wr => ∃ k : Nat, k ≤ xs.length ∧ i = .int .i64 k ∧ Below w.heap.size w wr ∧ scan 0 none xs = scan k (prev xs k) (xs.drop k) ∧ (∀ y, prev xs k = some y → El.chk y = 0)) (fun i _ => xs.length - (intOf i).toNat)
  case atStart => exact ⟨0, Nat.zero_le _, rfl, Below.refl _ _, rfl, fun y h => by cases h⟩
  case round =>
    obtain ⟨k, hk, rfl, hb, ha, hpv⟩ := hrel
    have HPV := Lib.hid hpv
    clear hpv
    have hsz := hb.size
    have HA := Lib.hid ha
    have HB := Lib.hid hb
    have hf' := hf.below hb (Nat.le_refl _)
    clear ha hb hf
    by_cases hlt : k < xs.length
    rotate_left
    · go_wp2_with fail
      go_ret2
      exact ⟨by rw [HAL.out, HA.out, scan_end hlt]; rfl, HB.out⟩
    have HF := Lib.hid hf'
    rcases hf' with h0 | ⟨b, off, rfl, hbl, hc⟩
    · subst h0; simp at hlt
    obtain ⟨g0, g1, g2, g3⟩ := hc k hlt
    have J := Lib.hid (fun w => fCheck_any xs[k].1 xs[k].2.1 xs[k].2.2.1 xs[k].2.2.2 w (hs.at hlt).1 (hs.at hlt).2)
    by_cases hl : El.chk xs[k] = 0
    rotate_left
    · have HL := Lib.hid (scan_no hlt (by rw [wrong_chk hl]; exact hl))
      rw [wrong_chk hl] at HL
      obtain ⟨b1, b2⟩ := ne_b hl
      have J := Lib.hid (fun w => by have K := J.out w; rw [show El.chk (xs[k].1, xs[k].2.1, xs[k].2.2.1, xs[k].2.2.2) = El.chk xs[k] from rfl] at K; exact K)
      clear hl hc hs
      generalize El.chk xs[k] = r at *
      go_wp2_with fail
      refine (J.out _).mono ?_
      rintro e w1 ⟨rfl, hb1⟩
      have HB1 := Lib.hid ((HB.out).trans (hb1.mono hsz))
      clear hb1
      go_wp2_with fail
      go_quiet (fail)
      go_wp2_with fail
      go_ret2
      exact ⟨retP (HAL.out.trans (HA.out.trans HL.out)) rfl rfl, HB1.out.trans ((below_drewN' _).mono HB1.out.size)⟩
    have HC0 := Lib.hid hl
    have sk := (El.chk_of hl).1
    have J := Lib.hid (fun w => by have K := J.out w; rw [show El.chk (xs[k].1, xs[k].2.1, xs[k].2.2.1, xs[k].2.2.2) = 0 from hl] at K; exact K)
    clear hl
    by_cases hk0 : k = 0
    · have hk0' : decide ((0 : Int) < (k : Int)) = false := by simp; omega
      have hk1' : decide (0 < k) = false := by simp; omega
      have HL := Lib.hid (scan_ok hlt (by subst hk0; exact wrong_none HC0.out))
      clear hk0
      clear hc hs
      go_wp2_with fail
      refine (J.out _).mono ?_
      rintro e w1 ⟨rfl, hb1⟩
      have HB1 := Lib.hid ((HB.out).trans (hb1.mono hsz))
      clear hb1
      go_wp2_with fail
      go_quiet (fail)
      go_wp2_with fail
      go_roundw
      case rel => exact ⟨k + 1, by omega, by go_num, HB1.out.trans ((below_drewN' _).mono HB1.out.size), HA.out.trans HL.out, fun y h => by cases (prev_succ hlt).symm.trans h; exact HC0.out⟩
      case measure => simp [intOf]; omega
    · obtain ⟨j, rfl⟩ : ∃ j, k = j + 1 := ⟨k - 1, by omega⟩
      clear hk0
      have hj : j < xs.length := by omega
      obtain ⟨p0, p1, p2, p3⟩ := hc j hj
      have hcj : El.chk xs[j] = 0 := HPV.out _ (prev_succ hj)
      have sj := (El.chk_of hcj).1
      have hwp : IntKind.i64.wrap (j : Int) = (j : Int) := by rw [IntKind.wrap_i64]; omega
      have hjb : (j : Int) < (xs.length : Int) := by omega
      have hkb : (j : Int) + 1 < (xs.length : Int) := by omega
      have hj1 : decide ((0 : Int) < (j : Int) + 1) = true := by rw [decide_eq_true_eq]; omega
      have JK := Lib.hid (fun w => Order_any xs[j].1 xs[j + 1].1 w (by omega) (by omega))
      clear hc hs sj sk hcj
      by_cases ho : 0 ≤ Kl.ord (Kl.L xs[j].1) (Kl.L xs[j + 1].1)
      · have hw : wrong (prev xs (j + 1)) xs[j + 1] = 6 := by rw [prev_succ hj]; exact wrong_down HC0.out ho
        have HL := Lib.hid (by have h := scan_no (k := j + 1) hlt (by rw [hw]; decide); rw [hw] at h; exact h)
        clear hw
        have hd : decide (0 ≤ Kl.ord (Kl.L xs[j].1) (Kl.L xs[j + 1].1)) = true := by simpa using ho
        clear ho
        generalize Kl.ord (Kl.L xs[j].1) (Kl.L xs[j + 1].1) = r at *
        go_wp2_with fail
        refine (J.out _).mono ?_
        rintro e w1 ⟨rfl, hb1⟩
        have HB1 := Lib.hid ((HB.out).trans (hb1.mono hsz))
        have hbw : b < w1.heap.size := Nat.lt_of_lt_of_le hbl hb1.size
        have z0 := abv_cell hbw ((hb1.cell (p := ⟨b, _, none⟩) hbl).trans p0)
        have y0 := abv_cell hbw ((hb1.cell (p := ⟨b, _, none⟩) hbl).trans g0)
        clear p0 p1 p2 p3 g0 g1 g2 g3
        clear hb1
        go_wp2_with fail
        refine wp_region_abv (by first | assumption | kernel_rfl) (by kernel_rfl) ?_
        repeat (first | go_big_quiet_step (exact callAbv (JK.out _)) | quiet_step (exact callAbv (JK.out _)))
        refine wpQuiet_nil ?_
        intro w2 hw2
        obtain ⟨p, rfl⟩ := hw2
        go_wp2_with fail
        go_ret2
        exact ⟨retP (HAL.out.trans (HA.out.trans HL.out)) (by go_num) rfl, eb_of HB1.out p.h (Nat.le_refl _)⟩
      · have HL := Lib.hid (scan_ok (k := j + 1) hlt (by rw [prev_succ hj, wrong_up HC0.out ho]))
        have hd : decide (0 ≤ Kl.ord (Kl.L xs[j].1) (Kl.L xs[j + 1].1)) = false := by simpa using ho
        clear ho
        generalize Kl.ord (Kl.L xs[j].1) (Kl.L xs[j + 1].1) = r at *
        go_wp2_with fail
        refine (J.out _).mono ?_
        rintro e w1 ⟨rfl, hb1⟩
        have HB1 := Lib.hid ((HB.out).trans (hb1.mono hsz))
        have hbw : b < w1.heap.size := Nat.lt_of_lt_of_le hbl hb1.size
        have z0 := abv_cell hbw ((hb1.cell (p := ⟨b, _, none⟩) hbl).trans p0)
        have y0 := abv_cell hbw ((hb1.cell (p := ⟨b, _, none⟩) hbl).trans g0)
        clear p0 p1 p2 p3 g0 g1 g2 g3
        clear hb1
        go_wp2_with fail
        refine wp_region_abv (by first | assumption | kernel_rfl) (by kernel_rfl) ?_
        repeat (first | go_big_quiet_step (exact callAbv (JK.out _)) | quiet_step (exact callAbv (JK.out _)))
        refine wpQuiet_nil ?_
        intro w2 hw2
        obtain ⟨p, rfl⟩ := hw2
        go_wp2_with fail
        go_roundw
        case rel => exact ⟨j + 1 + 1, by omega, by go_num, eb_of HB1.out p.h (Nat.le_refl _), HA.out.trans HL.out, fun y h => by cases (prev_succ hlt).symm.trans h; exact HC0.out⟩
        case measure => simp [intOf]; omega
end Go.Proofs.YtmobjpmkenpckaaDoor.KK

/-
  Contracts of the laws' own large, far; of the reference's Same.
-/
namespace Go.Proofs.YtmobjpmkenpckaaDoor.KK
open Go.ChangeShapes Go.WideShapes Go.ChangeAt Go.RowKit Go.Proofs

def largeE (x : El.En) : Bool := decide (100 < x.1.size) || decide (100 < x.2.1.size)
def farE (xs : List El.En) : Bool := if 60 < xs.length then (decide (xs.length ≤ 5000) || decide (5010 < xs.length)) else xs.any largeE
theorem large_any (k v : ByteArray) (d : Bool) (q : Int) (w : World) (hk : k.size ≤ 9223372036854775807) (hv : v.size ≤ 9223372036854775807) :
    Calls Tryd.prog 22 #[.agg #[.string k, .string v, .bool d, .int .i64 q]] w fun e w' => e = .returned (.bool (largeE (k, v, d, q))) ∧ Below w.heap.size w w' := by
  by_cases h1 : 100 < k.size
  · have H : Hid (largeE (k, v, d, q) = true) := Lib.hid (by simp [largeE, h1])
    go_enter Tryd.func22, Tryd.ntmps22
    go_wp2_with fail
    go_ret
    exact ⟨by rw [H.out]; rfl, (Below.refl _ _).alloc (Nat.le_refl _) _⟩
  · by_cases h2 : 100 < v.size
    · have H : Hid (largeE (k, v, d, q) = true) := Lib.hid (by simp [largeE, h2])
      go_enter Tryd.func22, Tryd.ntmps22
      go_wp2_with fail
      go_ret
      exact ⟨by rw [H.out]; first | rfl | (simp; omega), (Below.refl _ _).alloc (Nat.le_refl _) _⟩
    · have H : Hid (largeE (k, v, d, q) = false) := Lib.hid (by simp [largeE]; omega)
      go_enter Tryd.func22, Tryd.ntmps22
      go_wp2_with fail
      go_ret
      exact ⟨by rw [H.out]; first | rfl | (simp; omega), (Below.refl _ _).alloc (Nat.le_refl _) _⟩
theorem any_at {xs : List El.En} {k : Nat} (h : k < xs.length) {p : El.En → Bool} (hp : p xs[k] = true) : xs.any p = true := List.any_eq_true.2 ⟨xs[k], List.getElem_mem h, hp⟩
theorem any_next {xs : List El.En} {k : Nat} (h : k < xs.length) {p : El.En → Bool} (h1 : (xs.take k).any p = false) (h2 : p xs[k] = false) : (xs.take (k + 1)).any p = false := by
  rw [List.take_succ_eq_append_getElem h, List.any_append, h1]; simp [h2]
set_option maxHeartbeats 1000000 in
theorem far_any (A : Option Addr) (c : Nat) (xs : List El.En) (w : World) (hf : EsAt w A xs) (hn : xs.length ≤ 9223372036854775807) (hs : Sized xs) :
    Calls Tryd.prog 6 #[.slice A xs.length c] w fun e w' => e = .returned (.bool (farE xs)) ∧ Below w.heap.size w w' := by
  by_cases h60 : 60 < xs.length
  · by_cases h5 : xs.length ≤ 5000
    · have H : Hid (farE xs = true) := Lib.hid (by simp [farE, h60, h5])
      go_enter Tryd.func6, Tryd.ntmps6
      go_wp2_with fail
      go_ret
      exact ⟨by rw [H.out]; rfl, Below.refl _ _⟩
    · by_cases h6 : 5010 < xs.length
      · have H : Hid (farE xs = true) := Lib.hid (by simp [farE, h60, h6])
        go_enter Tryd.func6, Tryd.ntmps6
        go_wp2_with fail
        go_ret
        exact ⟨by rw [H.out]; first | rfl | (simp; omega), Below.refl _ _⟩
      · have H : Hid (farE xs = false) := Lib.hid (by simp [farE, h60]; omega)
        go_enter Tryd.func6, Tryd.ntmps6
        go_wp2_with fail
        go_ret
        exact ⟨by rw [H.out]; first | rfl | (simp; omega), Below.refl _ _⟩
  have HF : Hid (farE xs = xs.any largeE) := Lib.hid (if_neg h60)
  go_enter Tryd.func6, Tryd.ntmps6
  go_wp2_with fail
  go_loopw [3] (fun i wr => ∃ k : Nat, k ≤ xs.length ∧ i = .int .i64 k ∧ Below w.heap.size w wr ∧ (xs.take k).any largeE = false) (fun i _ => xs.length - (intOf i).toNat)
  case atStart => exact ⟨0, Nat.zero_le _, rfl, Below.refl _ _, rfl⟩
  case round =>
    obtain ⟨k, hk, rfl, hb, ha⟩ := hrel
    have hsz := hb.size
    have HA := Lib.hid ha
    have HB := Lib.hid hb
    have hf' := hf.below hb (Nat.le_refl _)
    clear ha hb hf
    by_cases hlt : k < xs.length
    · rcases hf' with h0 | ⟨b, off, rfl, hbl, hc⟩
      · subst h0; simp at hlt
      obtain ⟨g0, g1, g2, g3⟩ := hc k hlt
      have J := Lib.hid (fun w => large_any xs[k].1 xs[k].2.1 xs[k].2.2.1 xs[k].2.2.2 w (hs.at hlt).1 (hs.at hlt).2)
      clear hc hs
      by_cases hl : largeE xs[k] = true
      · have J := Lib.hid (fun w => by have K := J.out w; rw [show largeE (xs[k].1, xs[k].2.1, xs[k].2.2.1, xs[k].2.2.2) = true from hl] at K; exact K)
        have HL := Lib.hid (any_at hlt hl)
        clear hl
        go_wp2_with fail
        refine (J.out _).mono ?_
        rintro e w1 ⟨rfl, hb1⟩
        have HB1 := Lib.hid (HB.out.trans (hb1.mono hsz))
        clear hb1
        go_wp2_with fail
        go_ret
        exact ⟨retB (by rw [HF.out, HL.out]), HB1.out⟩
      · have hl : largeE xs[k] = false := by simpa using hl
        have J := Lib.hid (fun w => by have K := J.out w; rw [show largeE (xs[k].1, xs[k].2.1, xs[k].2.2.1, xs[k].2.2.2) = false from hl] at K; exact K)
        have HL := Lib.hid (any_next hlt HA.out hl)
        clear hl
        go_wp2_with fail
        refine (J.out _).mono ?_
        rintro e w1 ⟨rfl, hb1⟩
        have HB1 := Lib.hid (HB.out.trans (hb1.mono hsz))
        clear hb1
        go_wp2_with fail
        go_roundw
        case rel => exact ⟨k + 1, by omega, by go_num, HB1.out, HL.out⟩
        case measure => simp [intOf]; omega
    · go_wp2_with fail
      go_ret
      have := HA.out
      rw [List.take_of_length_le (by omega)] at this
      exact ⟨retB (by rw [HF.out, this]), HB.out⟩
theorem str_beq_ne {a b : ByteArray} (h : a ≠ b) : (a.toList == b.toList) = false := by rw [beq_eq_false_iff_ne]; exact str_ne h
set_option maxHeartbeats 2000000 in
theorem Same_any (A A' : Option Addr) (c c' : Nat) (xs ys : List El.En) (w : World) (hf : EsAt w A xs) (hg : EsAt w A' ys) (hn : xs.length ≤ 9223372036854775807) (hn' : ys.length ≤ 9223372036854775807) :
    Calls Tryd.prog 10 #[.slice A xs.length c, .slice A' ys.length c'] w fun e w' => e = .returned (.bool (decide (xs = ys))) ∧ Below w.heap.size w w' := by
  by_cases hlen : xs.length = ys.length
  rotate_left
  · have h1 : ((xs.length : Int) == (ys.length : Int)) = false := by simp; omega
    have h2 : ((xs.length : Int) != (ys.length : Int)) = true := by simp; omega
    have H : Hid (xs ≠ ys) := Lib.hid (fun e => hlen (by rw [e]))
    clear hlen
    go_enter Tryd.func10, Tryd.ntmps10
    go_wp2_with fail
    go_ret
    exact ⟨retB (by simp [H.out]), Below.refl _ _⟩
  have h1 : ((xs.length : Int) == (ys.length : Int)) = true := by simp; omega
  have h2 : ((xs.length : Int) != (ys.length : Int)) = false := by simp; omega
  have HL := Lib.hid hlen
  clear hlen
  go_enter Tryd.func10, Tryd.ntmps10
  go_wp2_with fail
  go_loopw [5] (fun i wr => ∃ k : Nat, k ≤ xs.length ∧ i = .int .i64 k ∧ Below w.heap.size w wr ∧ xs.take k = ys.take k) (fun i _ => xs.length - (intOf i).toNat)
  case atStart => exact ⟨0, Nat.zero_le _, rfl, Below.refl _ _, by simp⟩
  case round =>
    obtain ⟨k, hk, rfl, hb, ha⟩ := hrel
    have hsz := hb.size
    have HA := Lib.hid ha
    have HB := Lib.hid hb
    have hf' := hf.below hb (Nat.le_refl _)
    have hg' := hg.below hb (Nat.le_refl _)
    clear ha hb hf hg
    by_cases hlt : k < xs.length
    · rcases hf' with h0 | ⟨b, off, rfl, hbl, hc⟩
      · subst h0; simp at hlt
      have hlt' : k < ys.length := by have := HL.out; omega
      rcases hg' with h0 | ⟨b', off', rfl, hbl', hc'⟩
      · subst h0; simp at hlt'
      obtain ⟨g0, g1, g2, g3⟩ := hc k hlt
      obtain ⟨k0, k1, k2, k3⟩ := hc' k hlt'
      have l1 : (k : Int) < (xs.length : Int) := by omega
      have l2 : (k : Int) < (ys.length : Int) := by omega
      clear hc hc'
      by_cases heq : xs[k] = ys[k]
      · have HE := Lib.hid heq
        rw [← heq] at k0 k1 k2 k3
        clear heq
        go_wp2_with fail
        go_quiet (fail)
        go_wp2_with fail
        go_roundw
        case rel =>
          refine ⟨k + 1, by omega, by go_num, HB.out.trans ((below_drewN' _).mono hsz), ?_⟩
          rw [List.take_succ_eq_append_getElem hlt, List.take_succ_eq_append_getElem hlt', HA.out, HE.out]
        case measure => simp [intOf]; omega
      · have HN : Hid (xs ≠ ys) := Lib.hid (fun e => heq (by simp only [e]))
        by_cases e0 : xs[k].1 = ys[k].1
        · rw [← e0] at k0
          by_cases e1 : xs[k].2.1 = ys[k].2.1
          · rw [← e1] at k1
            by_cases e2 : xs[k].2.2.1 = ys[k].2.2.1
            · rw [← e2] at k2
              have e3 : (xs[k].2.2.2 == ys[k].2.2.2) = false := by
                rw [beq_eq_false_iff_ne]; intro e3; exact heq (Prod.ext e0 (Prod.ext e1 (Prod.ext e2 e3)))
              clear heq e0 e1 e2
              go_wp2_with fail
              go_quiet (fail)
              go_wp2_with fail
              go_ret
              exact ⟨retB (by simp [HN.out]), HB.out.trans ((below_drewN' _).mono hsz)⟩
            · have e3 : (xs[k].2.2.1 == ys[k].2.2.1) = false := by rw [beq_eq_false_iff_ne]; exact e2
              clear heq e0 e1 e2
              go_wp2_with fail
              go_quiet (fail)
              go_wp2_with fail
              go_ret
              exact ⟨retB (by simp [HN.out]), HB.out.trans ((below_drewN' _).mono hsz)⟩
          · have e3 := str_beq_ne e1
            clear heq e0 e1
            go_wp2_with fail
            go_quiet (fail)
            go_wp2_with fail
            go_ret
            exact ⟨retB (by simp [HN.out]), HB.out.trans ((below_drewN' _).mono hsz)⟩
        · have e3 := str_beq_ne e0
          clear heq e0
          go_wp2_with fail
          go_quiet (fail)
          go_wp2_with fail
          go_ret
          exact ⟨retB (by simp [HN.out]), HB.out.trans ((below_drewN' _).mono hsz)⟩
    · have HE : Hid (xs = ys) := Lib.hid (by
        have := HA.out
        have h3 := HL.out
        rwa [List.take_of_length_le (by omega), List.take_of_length_le (by omega)] at this)
      go_wp2_with fail
      go_ret
      exact ⟨retB (by simp [HE.out]), HB.out⟩
end Go.Proofs.YtmobjpmkenpckaaDoor.KK

/-
  A row of entries that the callee turns: what lies there, what an exchange of two makes of it.
-/
namespace Go.Proofs.YtmobjpmkenpckaaDoor.KK
open Go.ChangeShapes Go.WideShapes Go.ChangeAt Go.RowKit Go.Proofs Go.Sort

/-- what is an entry -/
abbrev V := {x : El.En // El.chk x = 0}
instance : Inhabited V := ⟨⟨(⟨#[]⟩, ⟨#[]⟩, false, 1), rfl⟩⟩
def leV (x y : V) : Bool := El.le x.1 y.1
theorem preV : Stb.Pre leV := ⟨fun x y => El.pre.total x.1 y.1, fun x y z => El.pre.trans x.1 y.1 z.1⟩
theorem leV_false {x y : V} (h : El.ord y.1 x.1 < 0) : leV x y = false := El.le_false.2 h
theorem leV_true {x y : V} (h : ¬ El.ord y.1 x.1 < 0) : leV x y = true := El.le_iff.2 h
def encV (x : V) : List Value := [.string x.1.1, .string x.1.2.1, .bool x.1.2.2.1, .int .i64 x.1.2.2.2]
theorem encV_len (x : V) : (encV x).length = 4 := rfl
def ERow (w : World) (b o : Nat) (l : List V) : Prop := HoldsK encV 4 w b o l.toArray

theorem get_mid (P : List V) (u : V) (R : List V) : (P ++ u :: R).toArray[P.length]! = u := by
  rw [getElem!_pos _ _ (by simp)]; simp
/-- two elements of a row exchanged -/
theorem swp_two (P M R : List V) (u v : V) (i j : Nat) (hi : i = P.length) (hj : j = P.length + 1 + M.length) :
    swp (P ++ u :: (M ++ v :: R)).toArray i j = (P ++ v :: (M ++ u :: R)).toArray := by
  subst hi hj
  have e1 : (P ++ u :: (M ++ v :: R)).toArray[P.length]! = u := get_mid _ _ _
  have e2 : (P ++ u :: (M ++ v :: R)).toArray[P.length + 1 + M.length]! = v := by
    simp [Nat.add_assoc, Nat.add_comm 1]
  unfold swp
  rw [e1, e2]
  apply Array.toList_inj.1
  simp only [Array.toList_setIfInBounds]
  rw [List.set_append_right _ _ (Nat.le_refl _), Nat.sub_self, List.set_cons_zero, List.set_append_right _ _ (by omega)]
  rw [show P.length + 1 + M.length - P.length = M.length + 1 by omega, List.set_cons_succ, List.set_append_right _ _ (Nat.le_refl _), Nat.sub_self, List.set_cons_zero]
theorem swp_comm (d : Array V) (i j : Nat) (hi : i < d.size) (hj : j < d.size) : swp d i j = swp d j i := by
  refine Array.ext (by simp [size_swp]) fun t h1 h2 => ?_
  have a := swp_get d hi hj t
  have b := swp_get d hj hi t
  rw [getElem!_pos _ t h1] at a
  rw [getElem!_pos _ t h2] at b
  rw [a, b]
  by_cases p : t = i <;> by_cases q : t = j
  · subst p; subst q; simp
  · simp [p]; intro h; rw [h]
  · simp [q]; intro h; rw [h]
  · simp [p, q]
/-- an element of a row: its cells, and that they may be turned -/
theorem ERow.at {w : World} {b o i : Nat} {P R : List V} {u : V} (h : ERow w b o (P ++ u :: R)) (hi : i = P.length) :
    (w.cell? ⟨b, o + i * 4, none⟩ = some (.string u.1.1) ∧ w.cell? ⟨b, o + i * 4 + 1, none⟩ = some (.string u.1.2.1) ∧ w.cell? ⟨b, o + i * 4 + 2, none⟩ = some (.bool u.1.2.2.1) ∧ w.cell? ⟨b, o + i * 4 + 3, none⟩ = some (.int .i64 u.1.2.2.2)) ∧
    (w.frozen? ⟨b, o + i * 4, none⟩ = false ∧ w.frozen? ⟨b, o + i * 4 + 1, none⟩ = false ∧ w.frozen? ⟨b, o + i * 4 + 2, none⟩ = false ∧ w.frozen? ⟨b, o + i * 4 + 3, none⟩ = false) := by
  subst hi
  have hl : P.length < (P ++ u :: R).toArray.size := by simp
  have c := fun c (hc : c < 4) => HoldsK.cell h hl hc
  rw [get_mid] at c
  exact ⟨⟨(c 0 (by omega)).1, (c 1 (by omega)).1, (c 2 (by omega)).1, (c 3 (by omega)).1⟩, (c 0 (by omega)).2, (c 1 (by omega)).2, (c 2 (by omega)).2, (c 3 (by omega)).2⟩
theorem ERow.below {B : Nat} {w w' : World} {b o : Nat} {l : List V} (h : ERow w b o l) (hb : Below B w w') (hB : b < B) : ERow w' b o l := fun j hj =>
  ⟨(hb.cell (p := ⟨b, o + j, none⟩) hB).trans (h j hj).1, (hb.frozen (p := ⟨b, o + j, none⟩) hB).trans (h j hj).2⟩
theorem ERow.drew {w : World} {b o : Nat} {l : List V} (h : ERow w b o l) : ERow w.drew b o l := h
theorem Below.drew' {B : Nat} {w0 w : World} (h : Below B w0 w) : Below B w0 w.drew := ⟨h.os, h.tape, h.output, h.size, h.block⟩
theorem setC4 (w : World) (b o : Nat) (x : V) : w.setCells b o (encV x) = (((w.setCell ⟨b, o, none⟩ (.string x.1.1)).setCell ⟨b, o + 1, none⟩ (.string x.1.2.1)).setCell ⟨b, o + 2, none⟩ (.bool x.1.2.2.1)).setCell ⟨b, o + 3, none⟩ (.int .i64 x.1.2.2.2) := rfl
/-- eight stores: element i, then element j -/
def put2 (w : World) (b o i j : Nat) (x y : V) : World :=
  (((((((w.setCell ⟨b, o + i * 4, none⟩ (.string x.1.1)).setCell ⟨b, o + i * 4 + 1, none⟩ (.string x.1.2.1)).setCell ⟨b, o + i * 4 + 2, none⟩ (.bool x.1.2.2.1)).setCell ⟨b, o + i * 4 + 3, none⟩ (.int .i64 x.1.2.2.2)).setCell ⟨b, o + j * 4, none⟩ (.string y.1.1)).setCell ⟨b, o + j * 4 + 1, none⟩ (.string y.1.2.1)).setCell ⟨b, o + j * 4 + 2, none⟩ (.bool y.1.2.2.1)).setCell ⟨b, o + j * 4 + 3, none⟩ (.int .i64 y.1.2.2.2)
theorem put2_below {B : Nat} {w0 w : World} {b o i j : Nat} {x y : V} (h : Below B w0 w) (hB : B ≤ b) : Below B w0 (put2 w b o i j x y) :=
  (((((((h.setCell hB _).setCell hB _).setCell hB _).setCell hB _).setCell hB _).setCell hB _).setCell hB _).setCell hB _
theorem put2_eq (w : World) (b o i j : Nat) (x y : V) : put2 w b o i j x y = (w.setCells b (o + i * 4) (encV x)).setCells b (o + j * 4) (encV y) := by
  rw [setC4, setC4]; rfl
theorem row_put2 {w : World} {b o i j : Nat} {d : Array V} (h : HoldsK encV 4 w b o d) (hi : i < d.size) (hj : j < d.size) : HoldsK encV 4 (put2 w b o i j d[j]! d[i]!) b o (swp d i j) := by
  have e : put2 w b o i j d[j]! d[i]! = putRowK encV 4 w b o (swp d i j) := by
    have := swap_worldK encV 4 encV_len w 0 0 b o d i j hi hj
    rw [put2_eq]
    have e0 : ((putRowK encV 4 (Sort.ahead w 0) b o d).drewN 0) = w := by
      rw [show Sort.ahead w 0 = w from rfl, putRowK_self encV 4 w b o d h]; rfl
    rw [e0] at this
    exact this
  rw [e]
  exact holdsK_putRowK encV 4 w b o d _ h (by rw [size_swp])
/-- element i and a later one exchanged, the earlier laid first -/
theorem row_swap {w : World} {b o i j : Nat} {P M R : List V} {u v : V} (h : ERow w b o (P ++ u :: (M ++ v :: R))) (hi : i = P.length) (hj : j = P.length + 1 + M.length) :
    ERow (put2 w b o i j v u) b o (P ++ v :: (M ++ u :: R)) := by
  have e1 : (P ++ u :: (M ++ v :: R)).toArray[i]! = u := by rw [hi]; exact get_mid _ _ _
  have e2 : (P ++ u :: (M ++ v :: R)).toArray[j]! = v := by
    rw [hj]; simp [Nat.add_assoc, Nat.add_comm 1]
  have := row_put2 h (i := i) (j := j) (by rw [hi]; simp) (by rw [hj]; simp; omega)
  rw [e1, e2, swp_two P M R u v i j hi hj] at this
  exact this
/-- the later laid first -/
theorem row_swap' {w : World} {b o i j : Nat} {P M R : List V} {u v : V} (h : ERow w b o (P ++ u :: (M ++ v :: R))) (hi : i = P.length) (hj : j = P.length + 1 + M.length) :
    ERow (put2 w b o j i u v) b o (P ++ v :: (M ++ u :: R)) := by
  have e1 : (P ++ u :: (M ++ v :: R)).toArray[i]! = u := by rw [hi]; exact get_mid _ _ _
  have e2 : (P ++ u :: (M ++ v :: R)).toArray[j]! = v := by
    rw [hj]; simp [Nat.add_assoc, Nat.add_comm 1]
  have si : i < (P ++ u :: (M ++ v :: R)).toArray.size := by rw [hi]; simp
  have sj : j < (P ++ u :: (M ++ v :: R)).toArray.size := by rw [hj]; simp; omega
  have := row_put2 h (i := j) (j := i) sj si
  rw [e1, e2, swp_comm _ _ _ sj si, swp_two P M R u v i j hi hj] at this
  exact this
theorem ERow.esAt {w : World} {b o : Nat} {l R : List V} (h : ERow w b o (l ++ R)) (hb : b < w.heap.size) : EsAt w (some ⟨b, o, none⟩) (l.map (·.1)) := by
  refine .inr ⟨b, o, rfl, hb, fun i hi => ?_⟩
  have hi' : i < l.length := by simpa using hi
  have e : l ++ R = l.take i ++ l[i] :: (l.drop (i + 1) ++ R) := by
    rw [← List.cons_append, ← List.drop_eq_getElem_cons hi', ← List.append_assoc, List.take_append_drop]
  rw [e] at h
  have := (h.at (i := i) (by rw [List.length_take]; omega)).1
  simpa using this
end Go.Proofs.YtmobjpmkenpckaaDoor.KK

/-
  slices.insertionSortCmpFunc over entries: what lies between a and b is sorted, equal ones as they were.
-/
namespace Go.Proofs.YtmobjpmkenpckaaDoor.KK
open Go.ChangeShapes Go.WideShapes Go.ChangeAt Go.RowKit Go.Proofs Go.Sort

theorem cmpV_any (x y : V) (w : World) : Calls Tryd.prog 27 #[.agg #[], .agg #[.string x.1.1, .string x.1.2.1, .bool x.1.2.2.1, .int .i64 x.1.2.2.2], .agg #[.string y.1.1, .string y.1.2.1, .bool y.1.2.2.1, .int .i64 y.1.2.2.2]] w fun e w' => e = .returned (.int .i64 (El.ord x.1 y.1)) ∧ Below w.heap.size w w' :=
  ecmp_any x.1.1 x.1.2.1 x.1.2.2.1 x.1.2.2.2 y.1.1 y.1.2.1 y.1.2.2.1 y.1.2.2.2 w (El.chk_of x.2).1 (El.chk_of y.2).1
/-- an element of a row, in whatever world comes of it -/
theorem row_abv {w : World} {b o i : Nat} {P R : List V} {u : V} (h : ERow w b o (P ++ u :: R)) (hb : b < w.heap.size) (hi : i = P.length) :
    (∀ p : Abv w, p.world.cell? ⟨b, o + i * 4, none⟩ = some (.string u.1.1)) ∧ (∀ p : Abv w, p.world.cell? ⟨b, o + i * 4 + 1, none⟩ = some (.string u.1.2.1)) ∧ (∀ p : Abv w, p.world.cell? ⟨b, o + i * 4 + 2, none⟩ = some (.bool u.1.2.2.1)) ∧ (∀ p : Abv w, p.world.cell? ⟨b, o + i * 4 + 3, none⟩ = some (.int .i64 u.1.2.2.2)) :=
  have e := (h.at hi).1
  ⟨abv_cell hb e.1, abv_cell hb e.2.1, abv_cell hb e.2.2.1, abv_cell hb e.2.2.2⟩
theorem below_abv {B : Nat} {w0 w : World} (h : Below B w0 w) (hB : B ≤ w0.heap.size) (p : Abv w) : Below B w0 p.world := h.trans (p.h.mono (Nat.le_trans hB h.size))

set_option maxRecDepth 100000 in
set_option maxHeartbeats 4000000 in
theorem ins_any (base b o cap : Nat) (P X R : List V) (w : World) (hrow : ERow w b o (P ++ (X ++ R))) (hb : b < w.heap.size) (hbase : base ≤ b) (hn : (P ++ (X ++ R)).length ≤ 4000000000) :
    Calls Tryd.prog 52 #[.slice (some ⟨b, o, none⟩) (P ++ (X ++ R)).length cap, .int .i64 P.length, .int .i64 (P.length + X.length : Nat), .func (.func 27) #[.agg #[]] #[]] w
      fun e w' => e = .returned (.tuple #[]) ∧ ∃ X', Stb.Stab leV X X' ∧ ERow w' b o (P ++ (X' ++ R)) ∧ Below base w w' := by
  have HN : Hid (X.length = X.length) := Lib.hid rfl
  obtain ⟨n, hnn⟩ : ∃ n, (P ++ (X ++ R)).length = n := ⟨_, rfl⟩
  obtain ⟨a, haa⟩ : ∃ a, P.length = a := ⟨_, rfl⟩
  obtain ⟨c, hcc⟩ : ∃ c, X.length = c := ⟨_, rfl⟩
  have hsum : a + c ≤ n := by rw [← hnn, ← haa, ← hcc]; simp
  rw [hnn, haa, hcc]
  rw [hnn] at hn
  have HA := Lib.hid haa
  have HX := Lib.hid hcc
  have HR := Lib.hid hrow
  have JC := Lib.hid cmpV_any
  clear hnn haa hcc hrow
  by_cases hc0 : c = 0
  · subst hc0
    have hX0 : X = [] := List.eq_nil_of_length_eq_zero HX.out
    have HF : Hid (∃ X', Stb.Stab leV X X' ∧ ERow w b o (P ++ (X' ++ R)) ∧ Below base w w) := Lib.hid ⟨X, Stb.Stab.refl (by rw [hX0]; exact List.Pairwise.nil), HR.out, Below.refl _ _⟩
    clear hX0
    go_enter Tryd.func52, Tryd.ntmps52
    go_wp2_with fail
    go_loopw [8] (fun i wr => i = .int .i64 ((a : Int) + 1) ∧ wr = w) (fun _ _ => 0)
    case atStart => exact ⟨by go_num, rfl⟩
    case round =>
      obtain ⟨rfl, rfl⟩ := hrel
      have hf : ¬ (a : Int) + 1 < (a : Int) := by omega
      go_wp2_with fail
      go_end0
      exact ⟨rfl, HF.out⟩
  -- the first element
  obtain ⟨x0, X1, hX1⟩ : ∃ x0 X1, X = x0 :: X1 := by
    cases X with
    | nil => exact absurd HX.out.symm hc0
    | cons x t => exact ⟨x, t, rfl⟩
  have HX1 := Lib.hid hX1
  clear hX1
  go_enter Tryd.func52, Tryd.ntmps52
  go_wp2_with fail
  go_loopw [8] (fun vi wr => ∃ (i : Nat) (Y0 Y Z : List V), vi = .int .i64 i ∧ i = a + Y0.length ∧ i ≤ a + c ∧ a < i ∧ X = Y0 ++ Z ∧ Stb.Stab leV Y0 Y ∧ ERow wr b o (P ++ (Y ++ (Z ++ R))) ∧ Below base w wr) (fun vi _ => a + c + 1 - (intOf vi).toNat)
  case atStart => exact ⟨a + 1, [x0], [x0], X1, by go_num, rfl, by omega, by omega, HX1.out, Stb.Stab.refl (Stb.asc_one x0), by have h := HR.out; rw [HX1.out] at h; exact h, Below.refl _ _⟩
  case round =>
    obtain ⟨i, Y0, Y, Z, rfl, hi, hic, hai, hXY, hst, hr, hbl⟩ := hrel
    have hYl : Y.length = Y0.length := Stb.stab_length preV hst
    have HI := Lib.hid hi
    have HXY := Lib.hid hXY
    have HST := Lib.hid hst
    have HRR := Lib.hid hr
    have HB := Lib.hid hbl
    have HYL := Lib.hid hYl
    clear hi hXY hst hr hbl hYl
    by_cases hlt : i < a + c
    rotate_left
    · have hf : ¬ (i : Int) < ((a + c : Nat) : Int) := by omega
      have hf' : ¬ (i : Int) < (a : Int) + (c : Int) := by omega
      go_wp2_with fail
      go_end0
      have hZ : Z = [] := by
        have h1 := HX.out; rw [HXY.out, List.length_append] at h1
        have := HI.out
        exact List.eq_nil_of_length_eq_zero (by omega)
      refine ⟨rfl, Y, ?_, by have h := HRR.out; rw [hZ] at h; exact h, HB.out⟩
      have h := HXY.out; rw [hZ, List.append_nil] at h; rw [h]; exact HST.out
    have hf : (i : Int) < ((a + c : Nat) : Int) := by omega
    have hf' : (i : Int) < (a : Int) + (c : Int) := by omega
    obtain ⟨z, Z', hZ⟩ : ∃ z Z', Z = z :: Z' := by
      cases Z with
      | nil =>
        have h1 := HX.out; rw [HXY.out, List.append_nil] at h1
        have := HI.out; omega
      | cons z t => exact ⟨z, t, rfl⟩
    subst hZ
    have HBR : Hid (b < wr.heap.size) := Lib.hid (Nat.lt_of_lt_of_le hb HB.out.size)
    generalize hwo : wr = wo at *
    clear hwo
    go_wp2_with fail
    go_loopw [9] (fun vj wr => ∃ (j : Nat) (A B : List V), vj = .int .i64 j ∧ j = a + A.length ∧ j ≤ i ∧ Y = A ++ B ∧ (∀ q ∈ B, leV q z = false) ∧ ERow wr b o (P ++ (A ++ z :: (B ++ (Z' ++ R)))) ∧ Below base w wr) (fun vj _ => (intOf vj).toNat)
    case atStart => exact ⟨i, Y, [], rfl, by have := HI.out; have := HYL.out; omega, Nat.le_refl _, by simp, by simp, by simpa using HRR.out, HB.out⟩
    case round =>
      obtain ⟨j, A, B, rfl, hj, hji, hYA, hBz, hr, hbl⟩ := hrel
      have hbw : b < wr.heap.size := Nat.lt_of_lt_of_le hb hbl.size
      have HJ := Lib.hid hj
      have HYA := Lib.hid hYA
      have HBZ := Lib.hid hBz
      have HR2 := Lib.hid hr
      have HB2 := Lib.hid hbl
      -- what is left when the inner loop ends
      have OUT : Hid ((∀ S y, A = S ++ [y] → leV y z = true) → ∀ wq, Below base w wq → ERow wq b o (P ++ (A ++ z :: (B ++ (Z' ++ R)))) → ∃ (i' : Nat) (Y0 Y Z : List V), (Value.int .i64 ((i : Int) + 1)) = .int .i64 i' ∧ i' = a + Y0.length ∧ i' ≤ a + c ∧ a < i' ∧ X = Y0 ++ Z ∧ Stb.Stab leV Y0 Y ∧ ERow wq b o (P ++ (Y ++ (Z ++ R))) ∧ Below base w wq) := Lib.hid fun hA wq hwq hrq => by
        refine ⟨i + 1, Y0 ++ [z], A ++ z :: B, Z', by go_num, by rw [List.length_append]; have := HI.out; simp; omega, by omega, by omega, by rw [HXY.out]; simp, ?_, by simpa using hrq, hwq⟩
        refine Stb.stab_append_left [z] HST.out ?_
        rw [HYA.out]
        refine Stb.stab_insert preV (by rw [← HYA.out]; exact HST.out.1) (fun q hq => ?_) (fun q hq => HBZ.out q hq)
        rcases List.eq_nil_or_concat A with h0 | ⟨S, y, h0⟩
        · rw [h0] at hq; cases hq
        · rw [List.concat_eq_append] at h0
          have hY := HST.out.1
          rw [HYA.out] at hY
          have hA1 := (Stb.asc_app hY).1
          rw [h0] at hA1 hq
          exact preV.trans _ _ _ (Stb.asc_last preV hA1 q hq) (hA S y h0)
      clear hj hYA hBz hr hbl
      by_cases hja : a < j
      rotate_left
      · have hg : decide ((a : Int) < (j : Int)) = false := by rw [decide_eq_false_iff_not]; omega
        have hg' : decide (a < j) = false := by rw [decide_eq_false_iff_not]; omega
        have hA0 : A = [] := List.eq_nil_of_length_eq_zero (by have := HJ.out; omega)
        have HO := Lib.hid (OUT.out (fun S y e => by rw [hA0] at e; simp at e))
        clear hja hA0
        go_wp2_with fail
        go_quiet (fail)
        go_wp2_with fail
        go_roundw
        case rel => exact HO.out _ (HB2.out.trans ((below_drewN' _).mono (by have := HB2.out.size; omega))) (HR2.out.below (below_drewN' _) hbw)
        case measure => simp [intOf]; omega
      obtain ⟨jp, rfl⟩ : ∃ jp, j = jp + 1 := ⟨j - 1, by omega⟩
      obtain ⟨A', y, hA'⟩ : ∃ A' y, A = A' ++ [y] := by
        rcases List.eq_nil_or_concat A with h0 | ⟨S, y, h0⟩
        · have := HJ.out; rw [h0] at this; simp at this; omega
        · exact ⟨S, y, by rw [h0, List.concat_eq_append]⟩
      have hl1 : jp = (P ++ A').length := by have h := HJ.out; rw [hA'] at h; simp at h; simp [HA.out]; omega
      have hr1 : ERow wr b o ((P ++ A') ++ y :: (z :: (B ++ (Z' ++ R)))) := by have h := HR2.out; rw [hA'] at h; simpa using h
      have hr2 : ERow wr b o ((P ++ A' ++ [y]) ++ z :: (B ++ (Z' ++ R))) := by simpa using hr1
      have hr3 : ERow wr b o ((P ++ A') ++ y :: ([] ++ z :: (B ++ (Z' ++ R)))) := by simpa using hr1
      obtain ⟨y0, y1, y2, y3⟩ := row_abv hr1 hbw hl1
      obtain ⟨z0, z1, z2, z3⟩ := row_abv hr2 (i := jp + 1) hbw (by rw [List.length_append, ← hl1]; rfl)
      have hwp : IntKind.i64.wrap (jp : Int) = (jp : Int) := by rw [IntKind.wrap_i64]; omega
      have hjb : (jp : Int) < (n : Int) := by omega
      have hkb : (jp : Int) + 1 < (n : Int) := by omega
      have hj1 : decide ((a : Int) < (jp : Int) + 1) = true := by rw [decide_eq_true_eq]; omega
      have hj2 : decide (a < jp + 1) = true := by rw [decide_eq_true_eq]; omega
      have J := Lib.hid (fun w => JC.out z y w)
      have HL1 := Lib.hid hl1
      have HA' := Lib.hid hA'
      have HR3 := Lib.hid hr3
      clear hr1 hr2 hr3 hl1 hA' hja
      by_cases ho : El.ord z.1 y.1 < 0
      rotate_left
      · have hd : decide (El.ord z.1 y.1 < 0) = false := by simpa using ho
        have HO := Lib.hid (OUT.out (fun S y' e => by rw [HA'.out] at e; obtain ⟨-, e⟩ := List.append_inj' e rfl; cases e; exact leV_true ho))
        clear ho
        generalize El.ord z.1 y.1 = r at *
        go_wp2_with fail
        refine wp_region_abv (by first | assumption | kernel_rfl) (by kernel_rfl) ?_
        repeat (first | go_big_quiet_step (exact callAbv (J.out _)) | quiet_step (exact callAbv (J.out _)))
        refine wpQuiet_nil ?_
        intro w2 hw2
        obtain ⟨p, rfl⟩ := hw2
        go_wp2_with fail
        go_roundw
        case rel => exact HO.out _ (below_abv HB2.out (by omega) p) (HR2.out.below p.h hbw)
        case measure => simp [intOf]; omega
      · have hd : decide (El.ord z.1 y.1 < 0) = true := by simpa using ho
        have HLT := Lib.hid (leV_false (x := y) (y := z) ho)
        clear ho
        generalize El.ord z.1 y.1 = r at *
        go_wp2_with fail
        refine wp_region_abv (by first | assumption | kernel_rfl) (by kernel_rfl) ?_
        repeat (first | go_big_quiet_step (exact callAbv (J.out _)) | quiet_step (exact callAbv (J.out _)))
        refine wpQuiet_nil ?_
        intro w2 hw2
        obtain ⟨p, rfl⟩ := hw2
        clear y0 y1 y2 y3 z0 z1 z2 z3
        have hw3 := below_abv HB2.out (by omega) p
        have hr3 := HR3.out.below p.h hbw
        have hbp : b < p.world.heap.size := Nat.lt_of_lt_of_le hbw p.h.size
        generalize p.world = wp at *
        clear p
        have hr4 : ERow wp b o ((P ++ A' ++ [y]) ++ z :: (B ++ (Z' ++ R))) := by simpa using hr3
        obtain ⟨⟨y0, y1, y2, y3⟩, f0, f1, f2, f3⟩ := hr3.at HL1.out
        obtain ⟨⟨z0, z1, z2, z3⟩, f4, f5, f6, f7⟩ := hr4.at (i := jp + 1) (by rw [List.length_append, ← HL1.out]; rfl)
        have HR4 := Lib.hid hr3
        have HB4 := Lib.hid hw3
        clear hr3 hr4 hw3
        go_wp2_with fail
        have mixed : Tryd.prog.follows .mixedOrders = true := by kernel_rfl
        go_big_region_o
        all_goals go_wp2_with fail
        go_roundw
        case rel =>
          refine ⟨jp, A', y :: B, by first | rfl | go_num, by have := HL1.out; rw [List.length_append, HA.out] at this; exact this, by omega, by rw [HYA.out, HA'.out]; simp, fun q hq => ?_, ?_, ?_⟩
          · rcases List.mem_cons.1 hq with rfl | hq
            · exact HLT.out
            · exact HBZ.out q hq
          · have h := row_swap' (j := jp + 1) (w := wp) HR4.out HL1.out (by rw [← HL1.out]; rfl)
            rw [show A' ++ z :: (y :: B ++ (Z' ++ R)) = A' ++ (z :: ([] ++ y :: (B ++ (Z' ++ R)))) by simp, ← List.append_assoc]
            exact ERow.drew h
          · exact Below.drew' (put2_below (w := wp) (i := jp + 1) (j := jp) (x := y) (y := z) HB4.out hbase)
        case measure => simp [intOf]
end Go.Proofs.YtmobjpmkenpckaaDoor.KK

/-
  slices.Clone over entries, and the stable sort of fewer than 20.
-/
namespace Go.Proofs.YtmobjpmkenpckaaDoor.KK
open Go.ChangeShapes Go.WideShapes Go.ChangeAt Go.RowKit Go.Proofs Go.Sort

theorem add_at' (b off j : Nat) : (⟨b, off, none⟩ : Addr).add j = ⟨b, off + j, none⟩ := by unfold Addr.add; split <;> simp_all
theorem infoE : (Tryd.prog.info? 33).map (fun i => (i.zero, i.size, i.bytes)) = some (some (.agg #[.string ⟨#[]⟩, .string ⟨#[]⟩, .bool false, .int .i64 0]), 4, 48) := by kernel_rfl
def cellsE (xs : List El.En) : List Value := xs.flatMap fun x => [.string x.1, .string x.2.1, .bool x.2.2.1, .int .i64 x.2.2.2]
theorem cellsE_snoc (xs : List El.En) (x : El.En) : cellsE (xs ++ [x]) = cellsE xs ++ [.string x.1, .string x.2.1, .bool x.2.2.1, .int .i64 x.2.2.2] := by simp [cellsE]
theorem cellsE_app (xs ys : List El.En) : cellsE (xs ++ ys) = cellsE xs ++ cellsE ys := by simp [cellsE]
theorem cellsE_len (xs : List El.En) : (cellsE xs).length = xs.length * 4 := by
  induction xs with
  | nil => rfl
  | cons f fs ih => simp only [cellsE, List.flatMap_cons, List.length_append, List.length_cons, List.length_nil] at ih ⊢; omega
theorem cellsE_one (xs : List El.En) : ∀ u ∈ cellsE xs, u.oneCell' = true := by
  intro u hu
  simp only [cellsE, List.mem_flatMap] at hu
  obtain ⟨x, _, hx⟩ := hu
  simp only [List.mem_cons, List.not_mem_nil, or_false] at hx
  rcases hx with rfl | rfl | rfl | rfl <;> rfl
theorem cellsE_get : ∀ (xs : List El.En) (i c : Nat) (h : i < xs.length) (_ : c < 4), (cellsE xs)[i * 4 + c]? = [Value.string xs[i].1, .string xs[i].2.1, .bool xs[i].2.2.1, .int .i64 xs[i].2.2.2][c]?
  | x :: xs, 0, c, _, hc => by
    rw [cellsE, List.flatMap_cons, List.getElem?_append_left (by simp; omega)]; simp
  | x :: xs, i + 1, c, h, hc => by
    have := cellsE_get xs i c (by simpa using h) hc
    have e : ∀ j, (cellsE (x :: xs))[j + 4]? = (cellsE xs)[j]? := fun j => by simp [cellsE]
    rw [show (i + 1) * 4 + c = (i * 4 + c) + 4 by omega, e, this]
    rfl
theorem EsAt.cells {w : World} {A : Option Addr} {xs : List El.En} (h : EsAt w A xs) (hne : xs ≠ []) : ∃ b off, A = some ⟨b, off, none⟩ ∧ b < w.heap.size ∧ ∀ j u, (cellsE xs)[j]? = some u → w.cell? ⟨b, off + j, none⟩ = some u := by
  rcases h with h | ⟨b, off, hA, hb, hc⟩
  · exact absurd h hne
  · refine ⟨b, off, hA, hb, fun j u hj => ?_⟩
    have hl : j < xs.length * 4 := by rw [← cellsE_len]; exact (List.getElem?_eq_some_iff.1 hj).1
    have e : j = j / 4 * 4 + j % 4 := by omega
    have hi : j / 4 < xs.length := by omega
    have hm : j % 4 < 4 := by omega
    rw [e, cellsE_get xs _ _ hi hm] at hj
    obtain ⟨c0, c1, c2, c3⟩ := hc _ hi
    rw [e, ← Nat.add_assoc]
    generalize j % 4 = m at *
    match m, hm with
    | 0, _ => simp at hj; rw [← hj]; exact c0
    | 1, _ => simp at hj; rw [← hj]; exact c1
    | 2, _ => simp at hj; rw [← hj]; exact c2
    | 3, _ => simp at hj; rw [← hj]; exact c3
theorem flat_eq (l : List V) : flatK encV 4 l.toArray = (cellsE (l.map (·.1))).toArray := by
  refine ext_get! (by simp [cellsE_len]) fun t ht => ?_
  have ht' : t < l.toArray.size * 4 := by simpa using ht
  have hi : t / 4 < l.length := by simp at ht'; omega
  have hm : t % 4 < 4 := by omega
  rw [get_flatK _ _ _ _ ht']
  have e : t = t / 4 * 4 + t % 4 := by omega
  have g := cellsE_get (l.map (·.1)) (t / 4) (t % 4) (by simpa using hi) hm
  rw [← e] at g
  have hx : l.toArray[t / 4]! = l[t / 4] := by rw [getElem!_pos _ _ (by simpa using hi)]; simp
  rw [hx]
  have g2 : (cellsE (l.map (·.1))).toArray[t]? = (encV l[t / 4])[t % 4]? := by
    rw [List.getElem?_toArray, g, List.getElem_map]; rfl
  rw [Array.getElem!_eq_getD, Array.getD_eq_getD_getElem?, g2]
  rw [List.getElem!_eq_getElem?_getD]
/-- a row of the call's own holds the entries, and may be turned -/
theorem ERow.of_own {w : World} {base g cap n : Nat} {l : List V} (h : w.ownsRow base 33 4 (.slice (some ⟨g, 0, none⟩) n cap) n (cellsE (l.map (·.1)))) : ERow w g 0 (l ++ []) := by
  rw [List.append_nil]
  unfold ERow HoldsK
  rw [flat_eq]
  intro j hj
  have hcell := h.cells (g := g) rfl
  have hj' : j < (cellsE (l.map (·.1))).length := by simpa using hj
  have b0 := hcell j _ (List.getElem?_eq_getElem hj')
  rw [add_at'] at b0
  refine ⟨b0.trans (congrArg some (by show _ = (cellsE (l.map (·.1))).toArray[j]!; rw [getElem!_pos (cellsE (l.map (·.1))).toArray j hj]; simp)), ?_⟩
  rcases h.2 with ⟨h1, _⟩ | ⟨g', cap', cur, hv, hb, hh, _⟩
  · cases h1
  · have hg : g = g' := by injection hv with h1; injection h1 with h1; injection h1
    subst hg
    simp [World.frozen?, hh]
set_option maxRecDepth 100000 in
theorem Cln (A : Option Addr) (c : Nat) (l : List V) (w : World) (hf : EsAt w A (l.map (·.1))) (hne : l ≠ []) (hn : l.length ≤ 5000) :
    Calls Tryd.prog 25 #[.slice A l.length c] w fun e w' => ∃ g cap, e = .returned (.slice (some ⟨g, 0, none⟩) l.length cap) ∧ l.length ≤ cap ∧ w.heap.size ≤ g ∧ g < w'.heap.size ∧ ERow w' g 0 (l ++ []) ∧ Below w.heap.size w w' := by
  obtain ⟨b, off, rfl, hb, hc⟩ := hf.cells (by simpa using hne)
  obtain ⟨i0, hi, hz0, hz1, hz2⟩ := info_parts infoE
  have HC := Lib.hid hc
  have hpos : 0 < l.length := List.length_pos_iff.2 hne
  have hmade : (w.alloc (.cells #[] 33)).ownsRow w.heap.size 33 4 (.slice (some ⟨w.heap.size, 0, none⟩) 0 0) 0 [] := World.ownsRow_made w #[] 0 (Nat.le_refl _) (Nat.zero_le _) rfl
  have q33 : ∀ (w : World) (a : Option Addr) (n c n' c' : Nat), (binOp .eql 22 (.slice a n c) (.slice none n' c')).run Tryd.prog w = .ok (.bool a.isNone) w := fun w a n c n' c' => Lib.run_eql_slice_nil w _ _ a n c n' c' Tryd.underlying22
  clear hc hf hne
  go_enter Tryd.func25, Tryd.ntmps25
  go_wp2_with (at_builtin; refine wpList_append_own _ rfl (.tmp 5) (.tmp 6) 22 rfl w.heap.size 33 i0 (.agg #[.string ⟨#[]⟩, .string ⟨#[]⟩, .bool false, .int .i64 0]) 4 48 Tryd.underlying22 hi hz0 hz1 hz2 rfl (by decide) _ 0 [] rfl hmade ⟨b, off, none⟩ l.length c (cellsE (l.map (·.1))) rfl (by rw [cellsE_len, List.length_map]) (fun j u hj => by rw [add_at']; exact Lib.cell?_alloc_some _ (HC.out j u hj)) (cellsE_one _) (by unfold maxLen; omega) (by omega) (by simp) ?_; intro v' w1 hown hg _; have hb1 : Below w.heap.size w w1 := ((Below.refl w.heap.size w).alloc (Nat.le_refl _) _).grown hg (by simp) (fun k hk => (hmade.lt k hk).1); have HB1 := Lib.hid hb1; rw [Nat.zero_add, List.nil_append] at hown; obtain ⟨g, cap, rfl, hcp⟩ : ∃ g cap, v' = .slice (some ⟨g, 0, none⟩) l.length cap ∧ l.length ≤ cap := (by rcases hown.2 with ⟨_, h1⟩ | ⟨g, cap, cur, hv, _, _, h5, _⟩; exact absurd h1 (by omega); exact ⟨g, cap, hv, h5⟩); have HCP := Lib.hid hcp; clear hcp; have HO := Lib.hid hown; clear hb1 hg hown hmade)
  go_ret
  have hlt := HO.out.lt g rfl
  exact ⟨g, cap, rfl, HCP.out, hlt.1, hlt.2, ERow.of_own HO.out, HB1.out⟩
end Go.Proofs.YtmobjpmkenpckaaDoor.KK

/-
  The stable sort of fewer than 20 entries; entries.Sort, whatever the stable sort's contract reaches.
-/
namespace Go.Proofs.YtmobjpmkenpckaaDoor.KK
open Go.ChangeShapes Go.WideShapes Go.ChangeAt Go.RowKit Go.Proofs Go.Sort

/-- what is asked of the stable sort at n entries -/
def StableOk (n : Nat) : Prop := ∀ (base b o cap : Nat) (X : List V) (w : World), X.length = n → ERow w b o (X ++ []) → b < w.heap.size → base ≤ b →
    Calls Tryd.prog 43 #[.slice (some ⟨b, o, none⟩) n cap, .int .i64 n, .func (.func 27) #[.agg #[]] #[]] w
      fun e w' => e = .returned (.tuple #[]) ∧ ∃ X', Stb.Stab leV X X' ∧ ERow w' b o (X' ++ []) ∧ Below base w w'
set_option maxRecDepth 100000 in
theorem stable_small (n : Nat) (hn : n < 20) : StableOk n := by
  intro base b o cap X w hX hrow hb hbase
  have J := Lib.hid (by
    have K := ins_any base b o cap [] X [] w (by simpa using hrow) hb hbase (by simp; omega)
    simp only [List.nil_append, List.append_nil, List.length_nil, Nat.zero_add, hX] at K
    exact K)
  clear hrow hX
  have h1 : decide ((20 : Int) ≤ (n : Int)) = false := by rw [decide_eq_false_iff_not]; omega
  have h2 : decide ((20 : Int) < (n : Int)) = false := by rw [decide_eq_false_iff_not]; omega
  go_enter Tryd.func43, Tryd.ntmps43
  go_wp2_with fail
  refine wp_loop_rounds 1 ?_
  rw [rounds_succ]
  go_wp2_with fail
  refine J.out.mono ?_
  rintro e w1 ⟨rfl, X', hst, hr, hbl⟩
  have HF := Lib.hid (show ∃ X', Stb.Stab leV X X' ∧ ERow w1 b o (X' ++ []) ∧ Below base w w1 from ⟨X', hst, by simpa using hr, hbl⟩)
  clear hst hr hbl J
  go_wp2_with fail
  refine wp_loop_rounds 1 ?_
  rw [rounds_succ]
  go_wp2_with fail
  go_end0
  exact ⟨rfl, HF.out⟩
theorem ssf_any (n : Nat) (hst : StableOk n) (base b o cap : Nat) (X : List V) (w : World) (hX : X.length = n) (hrow : ERow w b o (X ++ [])) (hb : b < w.heap.size) (hbase : base ≤ b) :
    Calls Tryd.prog 26 #[.slice (some ⟨b, o, none⟩) n cap, .func (.func 27) #[.agg #[]] #[]] w
      fun e w' => e = .returned (.tuple #[]) ∧ ∃ X', Stb.Stab leV X X' ∧ ERow w' b o (X' ++ []) ∧ Below base w w' := by
  have J := Lib.hid (hst base b o cap X w hX hrow hb hbase)
  clear hrow hX hst
  go_enter Tryd.func26, Tryd.ntmps26
  go_wp2_with fail
  refine J.out.mono ?_
  rintro e w1 ⟨rfl, hf⟩
  have HF := Lib.hid hf
  clear hf J
  go_wp2_with fail
  go_end0
  exact ⟨rfl, HF.out⟩
/-- what Sort, Newest hand back: a slice of the call's own -/
def Own (w : World) (base : Nat) (A : Option Addr) (l : List V) : Prop := l = [] ∨ ∃ g R, A = some ⟨g, 0, none⟩ ∧ base ≤ g ∧ g < w.heap.size ∧ ERow w g 0 (l ++ R)
theorem Own.esAt {w : World} {base : Nat} {A : Option Addr} {l : List V} (h : Own w base A l) : EsAt w A (l.map (·.1)) := by
  rcases h with h | ⟨g, R, rfl, _, hg, hr⟩
  · exact .inl (by rw [h]; rfl)
  · exact hr.esAt hg
theorem Own.below {w w' : World} {base B : Nat} {A : Option Addr} {l : List V} (h : Own w base A l) (hb : Below B w w') (hB : w.heap.size ≤ B) : Own w' base A l := by
  rcases h with h | ⟨g, R, rfl, h1, hg, hr⟩
  · exact .inl h
  · exact .inr ⟨g, R, rfl, h1, Nat.lt_of_lt_of_le hg hb.size, hr.below hb (Nat.lt_of_lt_of_le hg hB)⟩
set_option maxRecDepth 100000 in
theorem Sort_any (A : Option Addr) (c : Nat) (l : List V) (w : World) (hf : EsAt w A (l.map (·.1))) (hne : l ≠ []) (hn : l.length ≤ 5000) (hst : StableOk l.length) :
    Calls Tryd.prog 8 #[.slice A l.length c] w fun e w' => ∃ A' c' l', e = .returned (.tuple #[.slice A' l.length c', .int .i64 0]) ∧ Stb.Stab leV l l' ∧ Own w' w.heap.size A' l' ∧ Below w.heap.size w w' ∧ l.length ≤ c' := by
  have hz : Sized (l.map (·.1)) := fun x hx => by
    obtain ⟨y, _, rfl⟩ := List.mem_map.1 hx
    have := El.chk_of y.2
    omega
  have ha : allE (l.map (·.1)) = 0 := by
    rw [allE, if_neg (by simp; omega)]
    clear hf hne hn hst hz
    induction l with
    | nil => rfl
    | cons x t ih => rw [List.map_cons, firstE, if_pos x.2]; exact ih
  have J1 := Lib.hid (by
    have K := checkAll_any A c (l.map (·.1)) w hf (by simp; omega) hz
    rw [ha, List.length_map] at K
    exact K)
  have HC := Lib.hid (fun (w1 : World) (h : Below w.heap.size w w1) => Cln A c l w1 (hf.below h (Nat.le_refl _)) hne hn)
  have HS := Lib.hid (fun (base b o cap : Nat) (w1 : World) => ssf_any l.length hst base b o cap l w1 rfl)
  clear hf hst hz ha
  obtain ⟨n, hnn⟩ : ∃ n, l.length = n := ⟨_, rfl⟩
  rw [hnn] at J1 HC HS ⊢
  go_enter Tryd.func8, Tryd.ntmps8
  go_wp2_with fail
  refine J1.out.mono ?_
  rintro e w1 ⟨rfl, hb1⟩
  have HB1 := Lib.hid hb1
  clear hb1 J1
  go_wp2_with fail
  refine (HC.out _ HB1.out).mono ?_
  rintro e w2 ⟨g, cap, rfl, hcp, hg1, hg2, hr2, hb2⟩
  have HB2 := Lib.hid (eb_of HB1.out hb2 (Nat.le_refl _))
  have HR2 := Lib.hid hr2
  have HCP := Lib.hid hcp
  have HG := Lib.hid hg1
  have HG2 := Lib.hid hg2
  have HB := Lib.hid hb2
  clear hb2 hr2 HC hg1 hg2 hcp
  go_wp2_with fail
  refine (HS.out w1.heap.size g 0 cap w2 HR2.out HG2.out HG.out).mono ?_
  rintro e w3 ⟨rfl, X', hst, hr3, hb3⟩
  have HB3 := Lib.hid (HB2.out.trans (hb3.mono HB1.out.size))
  have HR3 := Lib.hid hr3
  have HST := Lib.hid hst
  have HG3 := Lib.hid (Nat.lt_of_lt_of_le HG2.out hb3.size)
  clear hb3 hr3 hst HS
  go_wp2_with fail
  go_ret2
  exact ⟨_, _, X', rfl, HST.out, .inr ⟨g, [], rfl, Nat.le_trans HB1.out.size HG.out, HG3.out, HR3.out⟩, HB3.out, HCP.out⟩
end Go.Proofs.YtmobjpmkenpckaaDoor.KK

/-
  slices.CompactFunc over entries: of each run of entries with one key the first.
-/
namespace Go.Proofs.YtmobjpmkenpckaaDoor.KK
open Go.ChangeShapes Go.WideShapes Go.ChangeAt Go.RowKit Go.Proofs Go.Sort

def cgo : V → List V → List V
  | _, [] => []
  | p, x :: t => if x.1.1 = p.1.1 then cgo x t else x :: cgo x t
/-- of each run of entries with one key the first -/
def cpt : List V → List V
  | [] => []
  | x :: t => x :: cgo x t
theorem sameV_any (x y : V) (w : World) : Calls Tryd.prog 31 #[.agg #[.string x.1.1, .string x.1.2.1, .bool x.1.2.2.1, .int .i64 x.1.2.2.2], .agg #[.string y.1.1, .string y.1.2.1, .bool y.1.2.2.1, .int .i64 y.1.2.2.2]] w fun e w' => e = .returned (.bool (decide (x.1.1 = y.1.1))) ∧ Below w.heap.size w w' := by
  by_cases h : x.1.1 = y.1.1
  · have K := eSame_yes x.1.1 x.1.2.1 x.1.2.2.1 x.1.2.2.2 y.1.2.1 y.1.2.2.1 y.1.2.2.2 w
    rw [decide_eq_true h, ← h]
    exact K
  · rw [decide_eq_false h]
    exact eSame_no x.1.1 x.1.2.1 x.1.2.2.1 x.1.2.2.2 y.1.1 y.1.2.1 y.1.2.2.1 y.1.2.2.2 w h
set_option maxRecDepth 100000 in
theorem run_clearE (w : World) (ty : TypeId) (b o n c : Nat) (hn : 0 < n) (vs : List Value) (hvs : vs = (Builtin.zeroCells #[.string ⟨#[]⟩, .string ⟨#[]⟩, .bool false, .int .i64 0] n).toList)
    (hc : ∀ j, j < vs.length → (w.cell? ⟨b, o + j, none⟩).isSome = true) (hf : ∀ j, j < vs.length → w.frozen? ⟨b, o + j, none⟩ = false) (h1 : ∀ v ∈ vs, v.oneCell' = true) :
    (Builtin.clear_ #[22] ty #[.slice (some ⟨b, o, none⟩) n c]).run Tryd.prog w = .ok (.tuple #[]) (w.setCells b o vs) := by
  have hst := run_storeCells_cells (P := Tryd.prog) b o vs 0 w (by simpa using hc) (by simpa using hf) h1
  simp only [Nat.add_zero] at hst
  have hv : ∀ w, (zeroValue 33).run Tryd.prog w = .ok (.agg #[.string ⟨#[]⟩, .string ⟨#[]⟩, .bool false, .int .i64 0]) w := fun w => rfl
  obtain ⟨m, rfl⟩ : ∃ m, n = m + 1 := ⟨n - 1, by omega⟩
  have hcs : (Value.agg #[.string ⟨#[]⟩, .string ⟨#[]⟩, .bool false, .int .i64 0]).cells = #[.string ⟨#[]⟩, .string ⟨#[]⟩, .bool false, .int .i64 0] := by rfl
  simp [Builtin.clear_, run_underlying Tryd.underlying22, hv, hcs, ← hvs, hst]
theorem zero_one {n : Nat} : ∀ v ∈ (Builtin.zeroCells #[.string ⟨#[]⟩, .string ⟨#[]⟩, .bool false, .int .i64 0] n).toList, v.oneCell' = true := by
  intro v hv
  rw [Array.mem_toList_iff] at hv
  unfold Builtin.zeroCells at hv
  obtain ⟨i, _, rfl⟩ := Array.mem_map.1 hv
  show ((#[.string ⟨#[]⟩, .string ⟨#[]⟩, .bool false, .int .i64 0] : Array Value)[i % 4]!).oneCell' = true
  have hm : i % 4 < 4 := Nat.mod_lt _ (by omega)
  generalize i % 4 = r at *
  match r, hm with
  | 0, _ => rfl
  | 1, _ => rfl
  | 2, _ => rfl
  | 3, _ => rfl
theorem below_setCells' {B b : Nat} {w0 : World} (hb : B ≤ b) : ∀ (vs : List Value) (o : Nat) (w : World), Below B w0 w → Below B w0 (w.setCells b o vs)
  | [], _, _, h => h
  | v :: r, o, w, h => below_setCells' hb r (o + 1) _ (h.setCell hb v)
/-- one element laid -/
def put1 (w : World) (b o i : Nat) (x : V) : World :=
  (((w.setCell ⟨b, o + i * 4, none⟩ (.string x.1.1)).setCell ⟨b, o + i * 4 + 1, none⟩ (.string x.1.2.1)).setCell ⟨b, o + i * 4 + 2, none⟩ (.bool x.1.2.2.1)).setCell ⟨b, o + i * 4 + 3, none⟩ (.int .i64 x.1.2.2.2)
theorem put1_below {B : Nat} {w0 w : World} {b o i : Nat} {x : V} (h : Below B w0 w) (hB : B ≤ b) : Below B w0 (put1 w b o i x) :=
  (((h.setCell hB _).setCell hB _).setCell hB _).setCell hB _
theorem flat_set (d : Array V) (i : Nat) (x : V) (hi : i < d.size) : setMany (flatK encV 4 d) (i * 4) (encV x) = flatK encV 4 (d.setIfInBounds i x) := by
  refine ext_get! (by simp) fun t ht => ?_
  have ht' : t < d.size * 4 := by simpa using ht
  rw [get_setMany _ _ _ t (by simpa using ht'), get_flatK _ _ _ t ht', get_flatK _ _ _ t (by simpa using ht'), encV_len]
  have e : (d.setIfInBounds i x)[t / 4]! = if t / 4 = i then x else d[t / 4]! := by
    simp only [getElem!_def, Array.getElem?_setIfInBounds]
    by_cases h : i = t / 4
    · subst h; simp [hi]
    · rw [if_neg h, if_neg (fun e => h e.symm)]
  rw [e]
  by_cases h : t / 4 = i
  · rw [if_pos ((blk_iff 4 i t (by omega)).2 h), if_pos h]
    congr 1
    omega
  · rw [if_neg (fun q => h ((blk_iff 4 i t (by omega)).1 q)), if_neg h]
theorem row_put1 {w : World} {b o i : Nat} {P R : List V} {u x : V} (h : ERow w b o (P ++ u :: R)) (hi : i = P.length) : ERow (put1 w b o i x) b o (P ++ x :: R) := by
  have hl : i < (P ++ u :: R).toArray.size := by rw [hi]; simp
  have := holds_setCells_c h (i * 4) (encV x) (by rw [size_flatK, encV_len]; omega)
  rw [flat_set _ _ _ hl] at this
  have e : (P ++ u :: R).toArray.setIfInBounds i x = (P ++ x :: R).toArray := by
    apply Array.toList_inj.1
    simp only [Array.toList_setIfInBounds]
    rw [hi, List.set_append_right _ _ (Nat.le_refl _), Nat.sub_self, List.set_cons_zero]
  rw [e] at this
  exact this
/-- the cells behind a row's first elements laid anew: these stand -/
theorem row_head {w : World} {b o k : Nat} {K J : List V} {vs : List Value} (h : ERow w b o (K ++ J)) (hk : k = K.length) (hv : vs.length = J.length * 4) : ERow (w.setCells b (o + k * 4) vs) b o (K ++ []) := by
  have := holds_setCells_c h (k * 4) vs (by rw [size_flatK, hv, hk]; simp; omega)
  intro j hj
  have hj' : j < K.length * 4 := by simpa using hj
  have := this j (by rw [size_setMany, size_flatK]; simp; omega)
  rw [get_setMany _ _ _ _ (by rw [size_flatK]; simp; omega), if_neg (by omega), get_flatK _ _ _ _ (by simp; omega)] at this
  rw [get_flatK _ _ _ _ (by simpa using hj')]
  have e1 : (K ++ J).toArray[j / 4]! = (K ++ []).toArray[j / 4]! := by
    have hb : j / 4 < K.length := by omega
    rw [getElem!_pos _ _ (by simp; omega), getElem!_pos _ _ (by simpa using hb)]
    simp [List.getElem_append_left, hb]
  rw [e1] at this
  exact this
theorem row_tail {w : World} {b o k : Nat} {K J : List V} (h : ERow w b o (K ++ J)) (hk : k = K.length) : ∀ j, j < J.length * 4 → (w.cell? ⟨b, o + k * 4 + j, none⟩).isSome = true ∧ w.frozen? ⟨b, o + k * 4 + j, none⟩ = false := by
  intro j hj
  have := h (k * 4 + j) (by rw [size_flatK]; simp; omega)
  rw [← Nat.add_assoc] at this
  exact ⟨by rw [this.1]; rfl, this.2⟩

set_option maxRecDepth 100000 in
set_option maxHeartbeats 4000000 in
theorem cpt_any (base b o cap : Nat) (X : List V) (w : World) (hrow : ERow w b o (X ++ [])) (hb : b < w.heap.size) (hbase : base ≤ b) (hn : X.length ≤ 4000000000) (hcap : X.length ≤ cap) :
    Calls Tryd.prog 30 #[.slice (some ⟨b, o, none⟩) X.length cap, .func (.func 31) #[] #[]] w
      fun e w' => ∃ c', e = .returned (.slice (some ⟨b, o, none⟩) (cpt X).length c') ∧ (∃ R, ERow w' b o (cpt X ++ R)) ∧ Below base w w' ∧ (cpt X).length ≤ c' := by
  obtain ⟨n, hnn⟩ : ∃ n, X.length = n := ⟨_, rfl⟩
  rw [hnn] at hn hcap ⊢
  have HX := Lib.hid hnn
  have HR := Lib.hid hrow
  have JS := Lib.hid sameV_any
  clear hnn hrow
  by_cases hn2 : n < 2
  · have hc : cpt X = X := by
      have := HX.out
      match X, this with
      | [], _ => rfl
      | [x], _ => rfl
      | _ :: _ :: _, h => simp at h; omega
    rw [hc]
    have h1 : (n : Int) < 2 := by omega
    have HF := Lib.hid (show ∃ R, ERow w b o (X ++ R) from ⟨[], HR.out⟩)
    clear hc
    go_enter Tryd.func30, Tryd.ntmps30
    go_wp2_with fail
    go_ret
    exact ⟨cap, by rw [HX.out]; rfl, HF.out, Below.refl _ _, by rw [HX.out]; exact hcap⟩
  have h1 : ¬ (n : Int) < 2 := by omega
  obtain ⟨x0, X1, hX1⟩ : ∃ x0 X1, X = x0 :: X1 := by
    cases X with
    | nil => have := HX.out; simp at this; omega
    | cons x t => exact ⟨x, t, rfl⟩
  have HX1 := Lib.hid hX1
  clear hX1
  go_enter Tryd.func30, Tryd.ntmps30
  go_wp2_with fail
  go_loopw [5] (fun vi wr => ∃ (k : Nat) (A Z : List V) (y : V), vi = .int .i64 k ∧ k = A.length + 1 ∧ k ≤ n ∧ X = A ++ y :: Z ∧ cpt X = A ++ y :: cgo y Z ∧ ERow wr b o (X ++ []) ∧ Below base w wr) (fun vi _ => n - (intOf vi).toNat)
  case atStart => exact ⟨1, [], X1, x0, by go_num, rfl, by omega, HX1.out, by rw [HX1.out]; rfl, HR.out, Below.refl _ _⟩
  case round =>
    obtain ⟨k, A, Z, y, rfl, hk, hkn, hXA, hcX, hr, hbl⟩ := hrel
    have hbw : b < wr.heap.size := Nat.lt_of_lt_of_le hb hbl.size
    have HK := Lib.hid hk
    have HXA := Lib.hid hXA
    have HCX := Lib.hid hcX
    have HRR := Lib.hid hr
    have HB := Lib.hid hbl
    clear hk hXA hcX hr hbl
    by_cases hlt : k < n
    rotate_left
    · have hf : ¬ (k : Int) < (n : Int) := by omega
      have hZ : Z = [] := by
        have h1 := HX.out; rw [HXA.out] at h1; simp at h1
        have := HK.out
        exact List.eq_nil_of_length_eq_zero (by omega)
      have hcc : cpt X = X := by rw [HCX.out, hZ]; conv => rhs; rw [HXA.out, hZ]
                                 rfl
      have HCC := Lib.hid hcc
      clear hcc hZ
      go_wp2_with fail
      go_ret
      exact ⟨cap, by rw [HCC.out, HX.out]; rfl, by rw [HCC.out]; exact ⟨[], HRR.out⟩, HB.out, by rw [HCC.out, HX.out]; exact hcap⟩
    have hf : (k : Int) < (n : Int) := by omega
    obtain ⟨z, Z', hZ⟩ : ∃ z Z', Z = z :: Z' := by
      cases Z with
      | nil => have h1 := HX.out; rw [HXA.out] at h1; simp at h1; have := HK.out; omega
      | cons z t => exact ⟨z, t, rfl⟩
    subst hZ
    obtain ⟨kp, rfl⟩ : ∃ kp, k = kp + 1 := ⟨k - 1, by have := HK.out; omega⟩
    have hkl : kp = A.length := by have := HK.out; omega
    have hr1 : ERow wr b o (A ++ y :: (z :: Z')) := by have h := HRR.out; rw [HXA.out, List.append_nil] at h; exact h
    have hr2 : ERow wr b o ((A ++ [y]) ++ z :: Z') := by simpa using hr1
    obtain ⟨y0, y1, y2, y3⟩ := row_abv hr1 hbw hkl
    obtain ⟨z0, z1, z2, z3⟩ := row_abv hr2 (i := kp + 1) hbw (by rw [List.length_append, ← hkl]; rfl)
    have hwp : IntKind.i64.wrap (kp : Int) = (kp : Int) := by rw [IntKind.wrap_i64]; omega
    have hkb : (kp : Int) < (n : Int) := by omega
    have hkb1 : (kp : Int) + 1 < (n : Int) := by omega
    have J := Lib.hid (fun w => JS.out z y w)
    have HKL := Lib.hid hkl
    clear hr1 hr2 hkl
    by_cases ho : z.1.1 = y.1.1
    rotate_left
    · have J := Lib.hid (fun w => by have K := J.out w; rw [decide_eq_false ho] at K; exact K)
      have HN := Lib.hid (show cpt X = (A ++ [y]) ++ z :: cgo z Z' by rw [HCX.out, cgo, if_neg ho]; simp)
      clear ho
      go_wp2_with fail
      refine wp_region_abv (by first | assumption | kernel_rfl) (by kernel_rfl) ?_
      repeat (first | go_big_quiet_step (exact callAbv (J.out _)) | quiet_step (exact callAbv (J.out _)))
      refine wpQuiet_nil ?_
      intro w2 hw2
      obtain ⟨p, rfl⟩ := hw2
      go_wp2_with fail
      go_roundw
      case rel => exact ⟨kp + 1 + 1, A ++ [y], Z', z, by go_num, by rw [List.length_append]; have := HKL.out; simp; omega, by omega, by rw [HXA.out]; simp, HN.out, HRR.out.below p.h hbw, below_abv HB.out (by omega) p⟩
      case measure => simp [intOf]; omega
    have J := Lib.hid (fun w => by have K := J.out w; rw [decide_eq_true ho] at K; exact K)
    have HN := Lib.hid (show cpt X = (A ++ [y]) ++ cgo z Z' by rw [HCX.out, cgo, if_pos ho]; simp)
    clear ho
    go_wp2_with fail
    refine wp_region_abv (by first | assumption | kernel_rfl) (by kernel_rfl) ?_
    repeat (first | go_big_quiet_step (exact callAbv (J.out _)) | quiet_step (exact callAbv (J.out _)))
    refine wpQuiet_nil ?_
    intro w2 hw2
    obtain ⟨p, rfl⟩ := hw2
    have hr3 := HRR.out.below p.h hbw
    have hb3 := below_abv HB.out (by omega) p
    have hbp : b < p.world.heap.size := Nat.lt_of_lt_of_le hbw p.h.size
    have HR3 := Lib.hid hr3
    have HB3 := Lib.hid hb3
    clear hr3 hb3 y0 y1 y2 y3 z0 z1 z2 z3
    generalize p.world = wp at *
    clear p
    obtain ⟨m, hm⟩ : ∃ m, n - (kp + 1) = m := ⟨_, rfl⟩
    have hXl : A.length + 1 + 1 + Z'.length = n := by have h := HX.out; rw [HXA.out] at h; simp at h; omega

    have HR4 := Lib.hid (show ERow wp b o ((A ++ [y]) ++ ([] ++ z :: Z')) by have h := HR3.out; rw [HXA.out] at h; simpa using h)
    have HXL := Lib.hid hXl
    clear hXl
    go_wp2_with fail
    try rw [hm]
    go_loopw [5, 7] (fun vk vj wr => ∃ (k k2 : Nat) (K J Z : List V) (p : V), vk = .int .i64 k ∧ vj = .int .i64 k2 ∧ k = K.length ∧ 1 ≤ k2 ∧ k2 ≤ m ∧ k + J.length = kp + k2 ∧ kp + 1 + k2 + Z.length = n ∧ cpt X = K ++ cgo p Z ∧ ERow wr b o (K ++ (J ++ p :: Z)) ∧ Below base w wr) (fun _ vj _ => m - (intOf vj).toNat)
    case atStart => exact ⟨kp + 1, 1, A ++ [y], [], Z', z, by first | rfl | go_num, by first | rfl | go_num, by rw [List.length_append]; have := HKL.out; simp; omega, Nat.le_refl _, by have := HXL.out; have := HKL.out; omega, by simp, by have := HXL.out; have := HKL.out; omega, HN.out, HR4.out, HB3.out⟩
    case round =>
      obtain ⟨k, k2, K, J, Z, p, rfl, rfl, hk, hk1, hk2, hkj, hkz, hcX, hr, hbl⟩ := hrel
      have hbw : b < wr.heap.size := Nat.lt_of_lt_of_le hb hbl.size
      have HK := Lib.hid hk
      have HKJ := Lib.hid hkj
      have HKZ := Lib.hid hkz
      have HCX2 := Lib.hid hcX
      have HRR2 := Lib.hid hr
      have HB2 := Lib.hid hbl
      clear hk hkj hkz hcX hr hbl
      by_cases hlt : k2 < m
      rotate_left
      · have hf : ¬ (k2 : Int) < (m : Int) := by omega
        have hZ : Z = [] := List.eq_nil_of_length_eq_zero (by have := HKZ.out; omega)
        have hkn : k < n := by have := HKJ.out; omega
        have HCC := Lib.hid (show cpt X = K by rw [HCX2.out, hZ]; simp [cgo])
        have hr5 : ERow wr b o (K ++ (J ++ [p])) := by have h := HRR2.out; rw [hZ] at h; exact h
        have hJl : (J ++ [p]).length = n - k := by have := HKJ.out; simp; omega
        obtain ⟨vs, hvs⟩ : ∃ vs, vs = (Builtin.zeroCells #[.string ⟨#[]⟩, .string ⟨#[]⟩, .bool false, .int .i64 0] (n - k)).toList := ⟨_, rfl⟩
        have hvl : vs.length = (J ++ [p]).length * 4 := by rw [hvs, Array.length_toList, size_zeroCells, hJl]; rfl
        have hv1 : ∀ v ∈ vs, v.oneCell' = true := by
          intro v hv
          rw [hvs] at hv
          exact zero_one v hv
        have hcl : ∀ ty, (Builtin.clear_ #[22] ty #[.slice (some ⟨b, o + k * 4, none⟩) (n - k) (cap - k)]).run Tryd.prog wr = .ok (.tuple #[]) (wr.setCells b (o + k * 4) vs) :=
          fun ty => run_clearE wr ty b (o + k * 4) (n - k) (cap - k) (by omega) vs hvs (fun j hj => (row_tail hr5 HK.out j (by omega)).1) (fun j hj => (row_tail hr5 HK.out j (by omega)).2) hv1
        have HR5 := Lib.hid (row_head hr5 HK.out hvl)
        have HB5 := Lib.hid (below_setCells' hbase vs (o + k * 4) _ HB2.out)
        have hkc : k ≤ cap := by omega
        have hkc' : (k : Int) ≤ (cap : Int) := by omega
        have hkn' : (k : Int) ≤ (n : Int) := by omega
        clear hr5 hvl hv1 hvs hJl hZ
        go_wp2_with fail
        go_ret
        exact ⟨cap, by rw [HCC.out, ← HK.out]; rfl, by rw [HCC.out]; exact ⟨[], HR5.out⟩, HB5.out, by rw [HCC.out, ← HK.out]; exact hkc⟩
      have hf : (k2 : Int) < (m : Int) := by omega
      obtain ⟨j, rfl⟩ : ∃ j, k2 = j + 1 := ⟨k2 - 1, by omega⟩
      obtain ⟨q, Z2, hZ⟩ : ∃ q Z2, Z = q :: Z2 := by
        cases Z with
        | nil => have := HKZ.out; simp at this; omega
        | cons z t => exact ⟨z, t, rfl⟩
      subst hZ
      have hr1 : ERow wr b o ((K ++ J) ++ p :: (q :: Z2)) := by simpa using HRR2.out
      have hr2 : ERow wr b o ((K ++ J ++ [p]) ++ q :: Z2) := by simpa using HRR2.out
      have i1 : kp + 1 + j = (K ++ J).length := by rw [List.length_append, ← HK.out]; have := HKJ.out; omega
      have i2 : kp + 1 + (j + 1) = (K ++ J ++ [p]).length := by rw [List.length_append, ← i1]; rfl
      have a1 : ∀ c, o + (kp + 1 + j) * 4 + c = o + (kp + 1) * 4 + j * 4 + c := fun c => by omega
      have a2 : ∀ c, o + (kp + 1 + (j + 1)) * 4 + c = o + (kp + 1) * 4 + (j + 1) * 4 + c := fun c => by omega
      obtain ⟨p0, p1, p2, p3⟩ := row_abv hr1 hbw i1
      obtain ⟨q0, q1, q2, q3⟩ := row_abv hr2 hbw i2
      rw [show o + (kp + 1 + j) * 4 = o + (kp + 1) * 4 + j * 4 from a1 0] at p0
      simp only [a1] at p1 p2 p3
      rw [show o + (kp + 1 + (j + 1)) * 4 = o + (kp + 1) * 4 + (j + 1) * 4 from a2 0] at q0
      simp only [a2] at q1 q2 q3
      have hwpj : IntKind.i64.wrap (j : Int) = (j : Int) := by rw [IntKind.wrap_i64]; omega
      have hjb : (j : Int) < (m : Int) := by omega
      have hjb1 : (j : Int) + 1 < (m : Int) := by omega
      have J2 := Lib.hid (fun w => JS.out q p w)
      have HI2 := Lib.hid i2
      have HR6 := Lib.hid hr2
      clear hr1 hr2 i1 i2 a1 a2
      by_cases ho : q.1.1 = p.1.1
      · have J2 := Lib.hid (fun w => by have K := J2.out w; rw [decide_eq_true ho] at K; exact K)
        have HN2 := Lib.hid (show cpt X = K ++ cgo q Z2 by rw [HCX2.out, cgo, if_pos ho])
        clear ho
        go_wp2_with fail
        refine wp_region_abv (by first | assumption | kernel_rfl) (by kernel_rfl) ?_
        repeat (first | go_big_quiet_step (exact callAbv (J2.out _)) | quiet_step (exact callAbv (J2.out _)))
        refine wpQuiet_nil ?_
        intro w2 hw2
        obtain ⟨pw, rfl⟩ := hw2
        go_wp2_with fail
        go_roundw
        case rel => exact ⟨k, j + 1 + 1, K, J ++ [p], Z2, q, rfl, by go_num, HK.out, by omega, by omega, by have := HKJ.out; simp; omega, by have := HKZ.out; simp at this; omega, HN2.out, by have h := HR6.out.below pw.h hbw; simpa using h, below_abv HB2.out (by omega) pw⟩
        case measure => simp [intOf]; omega
      · have J2 := Lib.hid (fun w => by have K := J2.out w; rw [decide_eq_false ho] at K; exact K)
        have HN2 := Lib.hid (show cpt X = (K ++ [q]) ++ cgo q Z2 by rw [HCX2.out, cgo, if_neg ho]; simp)
        clear ho
        go_wp2_with fail
        refine wp_region_abv (by first | assumption | kernel_rfl) (by kernel_rfl) ?_
        repeat (first | go_big_quiet_step (exact callAbv (J2.out _)) | quiet_step (exact callAbv (J2.out _)))
        refine wpQuiet_nil ?_
        intro w2 hw2
        obtain ⟨pw, rfl⟩ := hw2
        obtain ⟨u, J', hJ⟩ : ∃ u J', J ++ [p] = u :: J' := by
          cases J with
          | nil => exact ⟨p, [], rfl⟩
          | cons a t => exact ⟨a, t ++ [p], rfl⟩
        have hr7 : ERow pw.world b o (K ++ u :: (J' ++ q :: Z2)) := by
          have h := HR6.out.below pw.h hbw
          rw [List.append_assoc K J [p], hJ] at h
          simpa using h
        have hb7 := below_abv HB2.out (by omega) pw
        have q0 := q0 pw
        have q1 := q1 pw
        have q2 := q2 pw
        have q3 := q3 pw
        obtain ⟨⟨u0, u1, u2, u3⟩, f0, f1, f2, f3⟩ := hr7.at HK.out
        have HJl := Lib.hid (show J'.length = J.length by have := congrArg List.length hJ; simp at this; omega)
        have HR7 := Lib.hid hr7
        have HB7 := Lib.hid hb7
        have hkn : (k : Int) < (n : Int) := by have := HKJ.out; omega
        clear p0 p1 p2 p3 hr7 hb7 hJ
        generalize pw.world = wq at *
        clear pw
        go_wp2_with fail
        go_roundw
        case rel => exact ⟨k + 1, j + 1 + 1, K ++ [q], J', Z2, q, by go_num, by go_num, by rw [List.length_append, ← HK.out]; rfl, by omega, by omega, by have := HKJ.out; have := HJl.out; omega, by have := HKZ.out; simp at this; omega, HN2.out, by have h := row_put1 (x := q) HR7.out HK.out; rw [List.append_assoc]; exact h, put1_below (i := k) (x := q) HB7.out hbase⟩
        case measure => simp [intOf]; omega
end Go.Proofs.YtmobjpmkenpckaaDoor.KK
