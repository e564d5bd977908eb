/-
  Trees of losers: keys and losers in memory, what changes; checkKey, checkKeys, cmp.Or.
-/
import Derived.Test.YtebjhjmlpodkgaaQb
import Derived.Test.YtebjhjmlpodkgaaLp
import Derived.Sort.Grow
namespace Go.Proofs.Ytebjhjmlpodkgaa.KK
open Go.ChangeShapes Go.WideShapes Go.ChangeAt Go.RowKit Go.Proofs

theorem alloc_below (w : World) (o : Obj) : Below w.heap.size w (w.alloc o) := (Below.refl _ _).alloc (Nat.le_refl _) _
theorem cell_lt {w : World} {b o : Nat} {v : Value} (h : w.cell? ⟨b, o, none⟩ = some v) : b < w.heap.size := by
  unfold World.cell? at h
  rcases hb : w.heap[b]? with _ | x
  · simp [hb] at h
  · exact (Array.getElem?_eq_some_iff.1 hb).1
theorem abv_c {w1 : World} {b o : Nat} {v : Value} (h : w1.cell? ⟨b, o, none⟩ = some v) : ∀ p : Abv w1, p.world.cell? ⟨b, o, none⟩ = some v := abv_cell (cell_lt h) h
theorem retZ {a b : Int} {p : Int × Int} (h : p = (a, b)) : Ending.returned (.tuple #[.int .i64 a, .int .i64 b]) = .returned (.tuple #[.int .i64 p.1, .int .i64 p.2]) := by rw [h]

/-- w' is w, but for the blocks of S and what is new -/
structure Chg (S : Nat → Prop) (w w' : World) : Prop where
  os : w'.os = w.os
  tape : w'.tape = w.tape
  output : w'.output = w.output
  size : w.heap.size ≤ w'.heap.size
  block : ∀ k, k < w.heap.size → ¬ S k → w'.heap[k]? = w.heap[k]?
theorem Chg.of_below {S : Nat → Prop} {w w' : World} (h : Below w.heap.size w w') : Chg S w w' := ⟨h.os, h.tape, h.output, h.size, fun k hk _ => h.block k hk⟩
theorem Chg.refl {S : Nat → Prop} (w : World) : Chg S w w := .of_below (Below.refl _ _)
theorem Chg.trans {S : Nat → Prop} {a b c : World} (h : Chg S a b) (k : Chg S b c) : Chg S a c :=
  ⟨k.os.trans h.os, k.tape.trans h.tape, k.output.trans h.output, Nat.le_trans h.size k.size, fun i hi hn => (k.block i (Nat.lt_of_lt_of_le hi h.size) hn).trans (h.block i hi hn)⟩
theorem Chg.mono {S T : Nat → Prop} {a b : World} (h : Chg S a b) (hs : ∀ k, S k → T k) : Chg T a b := ⟨h.os, h.tape, h.output, h.size, fun k hk hn => h.block k hk (fun g => hn (hs k g))⟩
theorem Chg.below {S : Nat → Prop} {B : Nat} {w w' : World} (h : Chg S w w') (hS : ∀ k, S k → B ≤ k) (hB : B ≤ w.heap.size) : Below B w w' :=
  ⟨h.os, h.tape, h.output, h.size, fun k hk => h.block k (by omega) (fun g => by have := hS k g; omega)⟩
theorem Chg.cell {S : Nat → Prop} {w w' : World} (h : Chg S w w') {b o : Nat} {v : Value} (hc : w.cell? ⟨b, o, none⟩ = some v) (hn : ¬ S b) : w'.cell? ⟨b, o, none⟩ = some v :=
  (World.cell?_of_block (a := ⟨b, o, none⟩) (h.block b (cell_lt hc) hn)).trans hc
theorem chg_set {w : World} (b o : Nat) (u : Value) : Chg (fun k => k = b) w (w.setCell ⟨b, o, none⟩ u) :=
  ⟨rfl, rfl, rfl, by simp [World.setCell], fun k _ hn => by simp [World.setCell, Array.getElem?_modify]; intro h; exact absurd h.symm hn⟩

/-- a key: its string, whether it is done -/
abbrev LK := ByteArray × Bool
/-- a slice of keys lies there -/
def KsAt (w : World) (A : Option Addr) (ks : List LK) : Prop :=
  ks = [] ∨ ∃ b off, A = some ⟨b, off, none⟩ ∧ b < w.heap.size ∧ ∀ (i : Nat) (h : i < ks.length),
    w.cell? ⟨b, off + i * 2, none⟩ = some (.string ks[i].1) ∧ w.cell? ⟨b, off + i * 2 + 1, none⟩ = some (.bool ks[i].2)
theorem KsAt.chg {S : Nat → Prop} {w w' : World} {A : Option Addr} {ks : List LK} (h : KsAt w A ks) (hc : Chg S w w') (hS : ∀ a, A = some a → ¬ S a.block) : KsAt w' A ks := by
  rcases h with h | ⟨b, off, rfl, hb, hh⟩
  · exact .inl h
  · exact .inr ⟨b, off, rfl, Nat.lt_of_lt_of_le hb hc.size, fun i hi => ⟨hc.cell (hh i hi).1 (hS _ rfl), hc.cell (hh i hi).2 (hS _ rfl)⟩⟩
theorem KsAt.below {B : Nat} {w w' : World} {A : Option Addr} {ks : List LK} (h : KsAt w A ks) (hb : Below B w w') (hB : w.heap.size ≤ B) : KsAt w' A ks :=
  h.chg (S := fun _ => False) (.of_below (hb.mono hB)) (fun _ _ g => g)
/-- a slice of numbers lies there -/
def IsAt (w : World) (A : Option Addr) (L : List Int) : Prop :=
  L = [] ∨ ∃ b off, A = some ⟨b, off, none⟩ ∧ b < w.heap.size ∧ ∀ (i : Nat) (h : i < L.length), w.cell? ⟨b, off + i, none⟩ = some (.int .i64 L[i])
theorem IsAt.chg {S : Nat → Prop} {w w' : World} {A : Option Addr} {ks : List Int} (h : IsAt w A ks) (hc : Chg S w w') (hS : ∀ a, A = some a → ¬ S a.block) : IsAt w' A ks := by
  rcases h with h | ⟨b, off, rfl, hb, hh⟩
  · exact .inl h
  · exact .inr ⟨b, off, rfl, Nat.lt_of_lt_of_le hb hc.size, fun i hi => hc.cell (hh i hi) (hS _ rfl)⟩
theorem IsAt.below {B : Nat} {w w' : World} {A : Option Addr} {ks : List Int} (h : IsAt w A ks) (hb : Below B w w') (hB : w.heap.size ≤ B) : IsAt w' A ks :=
  h.chg (S := fun _ => False) (.of_below (hb.mono hB)) (fun _ _ g => g)
/-- a row of one's own: its first cells -/
structure CR (w : World) (b : Nat) (vs : List Value) : Prop where
  lt : b < w.heap.size
  cell : ∀ i (h : i < vs.length), w.cell? ⟨b, i, none⟩ = some vs[i]
  frz : ∀ i, i < vs.length → w.frozen? ⟨b, i, none⟩ = false
theorem frozen_of_block {w w' : World} {a : Addr} (h : w'.heap[a.block]? = w.heap[a.block]?) : w'.frozen? a = w.frozen? a := by simp only [World.frozen?, h]
theorem CR.chg {S : Nat → Prop} {w w' : World} {b : Nat} {vs : List Value} (h : CR w b vs) (hc : Chg S w w') (hS : ¬ S b) : CR w' b vs :=
  ⟨Nat.lt_of_lt_of_le h.lt hc.size, fun i hi => hc.cell (h.cell i hi) hS, fun i hi => (frozen_of_block (hc.block b h.lt hS)).trans (h.frz i hi)⟩
theorem CR.below {B : Nat} {w w' : World} {b : Nat} {vs : List Value} (h : CR w b vs) (hb : Below B w w') (hB : b < B) : CR w' b vs :=
  ⟨Nat.lt_of_lt_of_le h.lt hb.size, fun i hi => (World.cell?_of_block (a := ⟨b, i, none⟩) (hb.block b hB)).trans (h.cell i hi), fun i hi => (frozen_of_block (hb.block b hB)).trans (h.frz i hi)⟩
theorem CR.set {w : World} {b i : Nat} {vs : List Value} (h : CR w b vs) (hi : i < vs.length) (v : Value) : CR (w.setCell ⟨b, i, none⟩ v) b (vs.set i v) := by
  refine ⟨by simpa [World.setCell] using h.lt, fun j hj => ?_, fun j hj => ?_⟩
  · have hj' : j < vs.length := by simpa using hj
    by_cases e : i = j
    · subst e
      rw [List.getElem_set_self]
      exact World.cell?_setCell_same _ _ _ (h.cell i hi)
    · rw [List.getElem_set_ne e]
      rw [World.cell?_setCell_other _ _ _ _ (by intro g; simp only [Addr.mk.injEq] at g; omega)]
      exact h.cell j hj'
  · rw [World.frozen?_setCell]
    exact h.frz j (by simpa using hj)
def intsV (L : List Int) : List Value := L.map (.int .i64)
def keysV (ks : List LK) : List Value := ks.flatMap fun k => [.string k.1, .bool k.2]
theorem intsV_len (L : List Int) : (intsV L).length = L.length := by simp [intsV]
theorem keysV_len (ks : List LK) : (keysV ks).length = ks.length * 2 := by
  induction ks with
  | nil => rfl
  | cons f fs ih => simp only [keysV, List.flatMap_cons, List.length_append, List.length_cons, List.length_nil] at ih ⊢; omega
theorem keysV_get0 : ∀ (ks : List LK) (i : Nat) (h : i < ks.length), (keysV ks)[i * 2]? = some (.string ks[i].1) ∧ (keysV ks)[i * 2 + 1]? = some (.bool ks[i].2)
  | x :: ks, 0, _ => ⟨rfl, rfl⟩
  | x :: ks, i + 1, h => by
    have := keysV_get0 ks i (by simpa using h)
    have e : ∀ j, (keysV (x :: ks))[j + 2]? = (keysV ks)[j]? := fun j => by simp [keysV]
    rw [show (i + 1) * 2 = i * 2 + 2 by omega, show i * 2 + 2 + 1 = (i * 2 + 1) + 2 by omega, e, e]
    exact this
theorem CR.ks {w : World} {b : Nat} {ks : List LK} (h : CR w b (keysV ks)) : KsAt w (some ⟨b, 0, none⟩) ks := by
  refine .inr ⟨b, 0, rfl, h.lt, fun i hi => ?_⟩
  obtain ⟨a, c⟩ := keysV_get0 ks i hi
  obtain ⟨l1, e1⟩ := List.getElem?_eq_some_iff.1 a
  obtain ⟨l2, e2⟩ := List.getElem?_eq_some_iff.1 c
  rw [Nat.zero_add]
  exact ⟨(h.cell _ l1).trans (congrArg some e1), (h.cell _ l2).trans (congrArg some e2)⟩
theorem CR.is {w : World} {b : Nat} {L : List Int} (h : CR w b (intsV L)) : IsAt w (some ⟨b, 0, none⟩) L := by
  refine .inr ⟨b, 0, rfl, h.lt, fun i hi => ?_⟩
  rw [Nat.zero_add, h.cell i (by rw [intsV_len]; exact hi)]
  simp [intsV]
theorem intsV_set (L : List Int) (i : Nat) (v : Int) : (intsV L).set i (.int .i64 v) = intsV (L.set i v) := by simp [intsV, List.map_set]
def SizedL (ks : List LK) : Prop := ∀ k ∈ ks, k.1.size ≤ 9223372036854775807
theorem SizedL.at {ks : List LK} (h : SizedL ks) {i : Nat} (hi : i < ks.length) : ks[i].1.size ≤ 9223372036854775807 := h _ (List.getElem_mem hi)

/-- the error of a key, of keys -/
def keyE (k : LK) : Int := if k.2 = true ∧ k.1.size ≠ 0 then 2 else 0
def firstK : List LK → Int
  | [] => 0
  | k :: t => if keyE k = 0 then firstK t else keyE k
def keysE (ks : List LK) : Int := if ks.length = 0 then 6 else if 32 < ks.length then 3 else firstK ks
theorem firstK_ok {xs : List LK} {k : Nat} (h : k < xs.length) (g : keyE xs[k] = 0) : firstK (xs.drop k) = firstK (xs.drop (k + 1)) := by
  rw [List.drop_eq_getElem_cons h]; exact if_pos g
theorem firstK_no {xs : List LK} {k : Nat} (h : k < xs.length) (g : keyE xs[k] ≠ 0) : firstK (xs.drop k) = keyE xs[k] := by
  rw [List.drop_eq_getElem_cons h]; exact if_neg g
theorem firstK_end {xs : List LK} {k : Nat} (h : ¬ k < xs.length) : firstK (xs.drop k) = 0 := by
  rw [List.drop_eq_nil_of_le (by omega)]; rfl
theorem firstK_all : ∀ {xs : List LK}, firstK xs = 0 → ∀ x ∈ xs, keyE x = 0
  | [], _, _, h => by cases h
  | y :: t, h, x, hx => by
    by_cases g : keyE y = 0
    · rcases List.mem_cons.1 hx with rfl | hx
      · exact g
      · exact firstK_all (by rw [firstK, if_pos g] at h; exact h) x hx
    · rw [firstK, if_neg g] at h; exact absurd h g
theorem keysE_ok {ks : List LK} (h : keysE ks = 0) : 1 ≤ ks.length ∧ ks.length ≤ 32 ∧ ∀ k ∈ ks, keyE k = 0 := by
  unfold keysE at h
  split at h
  · cases h
  · split at h
    · cases h
    · exact ⟨by omega, by omega, firstK_all h⟩
theorem boxK (k : ByteArray) (d : Bool) (w : World) : Hid (∀ w', Below (w.alloc (.cells #[.string k, .bool d] 41)).heap.size (w.alloc (.cells #[.string k, .bool d] 41)) w' →
    w'.cell? ⟨w.heap.size, 0, none⟩ = some (.string k) ∧ w'.cell? ⟨w.heap.size, 1, none⟩ = some (.bool d) ∧ w.heap.size < w'.heap.size ∧ Below w.heap.size w w') := Lib.hid fun w' h =>
  ⟨(h.cell (p := ⟨w.heap.size, 0, none⟩) (by simp)).trans (cell_of_row _ w.heap.size 0 _ _ _ (heap_alloc_new w _)), (h.cell (p := ⟨w.heap.size, 1, none⟩) (by simp)).trans (cell_of_row _ w.heap.size 1 _ _ _ (heap_alloc_new w _)), by have := h.size; simp at this; omega, ((Below.refl w.heap.size w).alloc (Nat.le_refl _) _).trans (h.mono (by simp))⟩
set_option maxHeartbeats 1000000 in
theorem pKey_any (k : ByteArray) (d : Bool) (w : World) : Calls Try.prog 105 #[.agg #[.string k, .bool d]] w fun e w' => e = .returned (.int .i64 (keyE (k, d))) ∧ Below w.heap.size w w' := by
  cases d with
  | false =>
    have H : Hid (keyE (k, false) = 0) := Lib.hid (if_neg (by simp))
    go_enter Try.func105, Try.ntmps105
    go_wp2_with fail
    go_ret
    exact ⟨by rw [H.out]; rfl, alloc_below _ _⟩
  | true =>
    by_cases hz : k.size = 0
    · have H : Hid (keyE (k, true) = 0) := Lib.hid (if_neg (by simp [hz]))
      have z1 := str_empty k hz
      clear hz
      go_enter Try.func105, Try.ntmps105
      go_wp2_with fail
      go_ret
      exact ⟨by rw [H.out]; rfl, alloc_below _ _⟩
    · have H : Hid (keyE (k, true) = 2) := Lib.hid (if_pos ⟨rfl, hz⟩)
      obtain ⟨z1, z2⟩ := str_full k hz
      clear hz
      go_enter Try.func105, Try.ntmps105
      go_wp2_with fail
      go_ret
      exact ⟨by rw [H.out]; rfl, alloc_below _ _⟩
set_option maxHeartbeats 1000000 in
theorem pKeys_any (A : Option Addr) (c : Nat) (ks : List LK) (w : World) (hf : KsAt w A ks) (hn : ks.length ≤ 4294967295) :
    Calls Try.prog 96 #[.slice A ks.length c] w fun e w' => e = .returned (.int .i64 (keysE ks)) ∧ Below w.heap.size w w' := by
  by_cases h0 : ks.length = 0
  · have H : Hid (keysE ks = 6) := Lib.hid (if_pos h0)
    rw [h0]
    clear h0 hf
    go_enter Try.func96, Try.ntmps96
    go_wp2_with fail
    go_ret
    exact ⟨retI (by rw [H.out]), Below.refl _ _⟩
  by_cases h32 : 32 < ks.length
  · have H : Hid (keysE ks = 3) := Lib.hid (by unfold keysE; rw [if_neg h0, if_pos h32])
    clear hf
    have hz : ((ks.length : Int) == 0) = false := by rw [beq_eq_false_iff_ne]; omega
    go_enter Try.func96, Try.ntmps96
    go_wp2_with fail
    go_ret
    exact ⟨retI (by rw [H.out]), Below.refl _ _⟩
  have HAL : Hid (keysE ks = firstK ks) := Lib.hid (by unfold keysE; rw [if_neg h0, if_neg h32])
  have HF := Lib.hid hf
  obtain ⟨n, hnn⟩ : ∃ n, ks.length = n := ⟨_, rfl⟩
  rw [hnn] at hn h0 h32 ⊢
  have HN := Lib.hid hnn
  have hz : ((n : Int) == 0) = false := by rw [beq_eq_false_iff_ne]; omega
  clear hf hnn
  go_enter Try.func96, Try.ntmps96
  go_wp2_with fail
  go_loopw [14] (fun i wr => ∃ k : Nat, k ≤ n ∧ i = .int .i64 k ∧ Below w.heap.size w wr ∧ firstK ks = firstK (ks.drop k)) (fun i _ => n - (intOf i).toNat)
  case atStart => exact ⟨0, Nat.zero_le _, rfl, Below.refl _ _, rfl⟩
  case round =>
    obtain ⟨k, hk, rfl, hb, ha⟩ := hrel
    have hsz := hb.size
    have HA := Lib.hid ha
    have HB := Lib.hid hb
    have hf' := HF.out.below hb (Nat.le_refl _)
    clear ha hb
    by_cases hlt : k < n
    · have hl' : k < ks.length := by rw [HN.out]; exact hlt
      rcases hf' with h0 | ⟨b, off, rfl, hbl, hc⟩
      · subst h0; simp at hl'
      obtain ⟨g0, g1⟩ := hc k hl'
      have J := Lib.hid (fun w => pKey_any ks[k].1 ks[k].2 w)
      by_cases hkk : keyE ks[k] = 0
      · have HL := Lib.hid (firstK_ok hl' hkk)
        have J : Hid (∀ w, Calls Try.prog 105 #[.agg #[.string ks[k].1, .bool ks[k].2]] w fun e w' => e = .returned (.int .i64 0) ∧ Below w.heap.size w w') := Lib.hid (fun w => by have K := J.out w; rw [show keyE (ks[k].1, ks[k].2) = 0 from hkk] at K; exact K)
        clear hc hkk
        generalize ks[k] = m at *
        go_wp2_with fail
        refine (J.out _).mono ?_
        rintro e w1 ⟨rfl, hb1⟩
        have HB1 := Lib.hid ((HB.out.alloc hsz _).trans (hb1.mono (by simp; omega)))
        clear hb1
        go_wp2_with fail
        go_roundw
        case rel => exact ⟨k + 1, by omega, by go_num, HB1.out, HA.out.trans HL.out⟩
        case measure => simp [intOf]; omega
      · have HL := Lib.hid (firstK_no hl' hkk)
        obtain ⟨b1, b2⟩ := ne_b hkk
        have J : Hid (∀ w, Calls Try.prog 105 #[.agg #[.string ks[k].1, .bool ks[k].2]] w fun e w' => e = .returned (.int .i64 (keyE ks[k])) ∧ Below w.heap.size w w') := J
        clear hc hkk
        generalize ks[k] = m at *
        generalize keyE m = r at *
        go_wp2_with fail
        refine (J.out _).mono ?_
        rintro e w1 ⟨rfl, hb1⟩
        have HB1 := Lib.hid ((HB.out.alloc hsz _).trans (hb1.mono (by simp; omega)))
        clear hb1
        go_wp2_with fail
        go_ret
        exact ⟨retI (by rw [HAL.out, HA.out, HL.out]), HB1.out⟩
    · have HL := Lib.hid (firstK_end (xs := ks) (k := k) (by rw [HN.out]; omega))
      go_wp2_with fail
      go_ret
      exact ⟨retI (by rw [HAL.out, HA.out, HL.out]), HB.out⟩
set_option maxHeartbeats 1000000 in
theorem or_any (b c : Nat) (x y : Int) (w : World) (h0 : w.cell? ⟨b, 0, none⟩ = some (.int .i64 x)) (h1 : w.cell? ⟨b, 1, none⟩ = some (.int .i64 y)) :
    Calls Try.prog 121 #[.slice (some ⟨b, 0, none⟩) 2 c] w fun e w' => e = .returned (.int .i64 (if x = 0 then y else x)) ∧ w = w' := by
  go_enter Try.func121, Try.ntmps121
  go_wp2_with fail
  go_loopw [5, 8] (fun _ i wr => ∃ k : Nat, k ≤ 2 ∧ i = .int .i64 k ∧ w = wr ∧ (1 ≤ k → x = 0) ∧ (2 ≤ k → y = 0)) (fun _ i _ => 2 - (intOf i).toNat)
  case atStart => exact ⟨0, by omega, rfl, rfl, fun h => by omega, fun h => by omega⟩
  case round =>
    obtain ⟨k, hk, rfl, rfl, hx, hy⟩ := hrel
    have HX := Lib.hid hx
    have HY := Lib.hid hy
    clear hx hy
    have hk3 : k = 0 ∨ k = 1 ∨ k = 2 := by omega
    rcases hk3 with rfl | rfl | rfl
    · by_cases e : x = 0
      · have HE := Lib.hid e
        subst e
        go_wp2_with fail
        go_roundw
        case rel => exact ⟨1, by omega, by go_num, by first | rfl | trivial, fun _ => by first | rfl | trivial, fun h => by omega⟩
        case measure => simp [intOf]
      · obtain ⟨e1, e2⟩ := ne_b e
        have HE := Lib.hid e
        clear e
        go_wp2_with fail
        go_ret
        exact ⟨retI (by first | rfl | rw [if_neg HE.out]), rfl⟩
    · by_cases e : y = 0
      · have HE := Lib.hid e
        subst e
        go_wp2_with fail
        go_roundw
        case rel => exact ⟨2, by omega, by go_num, by first | rfl | trivial, fun _ => HX.out (by omega), fun _ => by first | rfl | trivial⟩
        case measure => simp [intOf]
      · obtain ⟨e1, e2⟩ := ne_b e
        have HE := Lib.hid (HX.out (by omega))
        clear e
        go_wp2_with fail
        go_ret
        exact ⟨retI (by first | rfl | rw [if_pos HE.out]), rfl⟩
    · have HE := Lib.hid (HX.out (by omega))
      have HE2 := Lib.hid (HY.out (by omega))
      go_wp2_with fail
      go_ret
      exact ⟨retI (by first | rfl | exact HE2.out.symm | rw [if_pos HE.out, HE2.out]), rfl⟩
end Go.Proofs.Ytebjhjmlpodkgaa.KK
