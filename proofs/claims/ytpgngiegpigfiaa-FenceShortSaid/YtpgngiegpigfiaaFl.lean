/-
  Fences: Block, Blocks and Span of the program.
-/
import Derived.Test.YtpgngiegpigfiaaFk
namespace Go.Proofs.Ytpgngiegpigfiaa.KK
open Go.ChangeShapes Go.WideShapes Go.ChangeAt Go.RowKit Go.Proofs

theorem boxR (lo hi : ByteArray) (b : Bool) (w : World) (k : Nat) (hk : w.heap.size = k) : Hid (∀ w', Below (w.alloc (.cells #[.string lo, .string hi, .bool b] 37)).heap.size (w.alloc (.cells #[.string lo, .string hi, .bool b] 37)) w' →
    w'.cell? ⟨k, 0, none⟩ = some (.string lo) ∧ w'.cell? ⟨k, 1, none⟩ = some (.string hi) ∧ w'.cell? ⟨k, 2, none⟩ = some (.bool b) ∧ k < w'.heap.size ∧ Below w.heap.size w w') := Lib.hid fun w' h => by
  subst hk
  exact ⟨(h.cell (p := ⟨w.heap.size, 0, none⟩) (by simp)).trans (cell_of_row _ w.heap.size 0 _ _ _ (heap_alloc_new w _)), (h.cell (p := ⟨w.heap.size, 1, none⟩) (by simp)).trans (cell_of_row _ w.heap.size 1 _ _ _ (heap_alloc_new w _)), (h.cell (p := ⟨w.heap.size, 2, none⟩) (by simp)).trans (cell_of_row _ w.heap.size 2 _ _ _ (heap_alloc_new w _)), by have := h.size; simp at this; omega, ((Below.refl w.heap.size w).alloc (Nat.le_refl _) _).trans (h.mono (by simp))⟩
theorem ret3 {a b c : Int} {p : Int × Int × Int} (h : p = (a, b, c)) : Ending.returned (.tuple #[.int .i64 a, .int .i64 b, .int .i64 c]) = .returned (.tuple #[.int .i64 p.1, .int .i64 p.2.1, .int .i64 p.2.2]) := by rw [h]
set_option maxRecDepth 100000 in
set_option maxHeartbeats 1000000 in
theorem blockOf_any (s : Int) (A : Option Addr) (c : Nat) (ms : List ByteArray) (key : ByteArray) (w : World) (hf : SsAt w A ms) (hn : ms.length ≤ 4294967295) (h1 : ∀ m ∈ ms, m.size ≤ 32) (h2 : key.size ≤ 32) (hasc : ms.Pairwise (fun a b => ltK a b = true)) :
    Calls Try.prog 49 #[.agg #[.int .i64 s, .slice A ms.length c], .string key] w fun e w' => e = .returned (.int .i64 (upN ms key)) ∧ Below w.heap.size w w' := by
  have HX := boxF s A ms.length c w
  have hb1 : Below (w.alloc (.cells #[.int .i64 s, .slice A ms.length c] 25)).heap.size (w.alloc (.cells #[.int .i64 s, .slice A ms.length c] 25)) ((w.alloc (.cells #[.int .i64 s, .slice A ms.length c] 25)).alloc (.cells #[.string key] 9)) := (Below.refl _ _).alloc (Nat.le_refl _) _
  obtain ⟨x0, x1, x2, x3⟩ := HX.out _ hb1
  have HB := Lib.hid x3
  have hk : ((w.alloc (.cells #[.int .i64 s, .slice A ms.length c] 25)).alloc (.cells #[.string key] 9)).cell? ⟨w.heap.size + 1, 0, none⟩ = some (.string key) := by simp
  have J := Lib.hid (lead_blk A c ms key (w.heap.size + 1) _ (hf.below x3 (Nat.le_refl _)) hk (by simp) hn h1 h2 hasc)
  clear hb1 hk hf h1 h2 hasc x3
  generalize upN ms key = r at *
  go_enter Try.func49, Try.ntmps49
  go_wp2_with fail
  refine J.out.mono ?_
  rintro e w1 ⟨rfl, hb⟩
  have HB1 := Lib.hid (eb_of HB.out hb (by simp; try omega))
  clear hb
  go_wp2_with fail
  go_ret
  exact ⟨rfl, HB1.out⟩
def keyE (s : Int) (ms : List ByteArray) (key : ByteArray) : Int := if (chkF s ms).2 ≠ 0 then (chkF s ms).2 else chk1 key.size
theorem keyE_no {s : Int} {ms : List ByteArray} {key : ByteArray} (h : (chkF s ms).2 ≠ 0) : keyE s ms key = (chkF s ms).2 := if_pos h
theorem keyE_ok {s : Int} {ms : List ByteArray} {key : ByteArray} (h : (chkF s ms).2 = 0) : keyE s ms key = chk1 key.size := if_neg (by rw [h]; simp)
theorem keyE_zero {s : Int} {ms : List ByteArray} {key : ByteArray} (h : keyE s ms key = 0) : Good s ms ∧ key.size ≤ 32 := by
  by_cases g : (chkF s ms).2 = 0
  · rw [keyE_ok g] at h
    refine ⟨(chkF_good g).1, ?_⟩
    by_cases k : key.size ≤ 32
    · exact k
    · rw [chk1_no k] at h; exact absurd h (by decide)
  · rw [keyE_no g] at h; exact absurd h g
set_option maxRecDepth 100000 in
set_option maxHeartbeats 1000000 in
theorem checkKey_any (s : Int) (A : Option Addr) (c : Nat) (ms : List ByteArray) (key : ByteArray) (w : World) (hf : SsAt w A ms) (hn : ms.length ≤ 4294967295) (hs : SizedS ms) (hz : key.size ≤ 9223372036854775807) :
    Calls Try.prog 48 #[.agg #[.int .i64 s, .slice A ms.length c], .string key] w fun e w' => e = .returned (.int .i64 (keyE s ms key)) ∧ Below w.heap.size w w' := by
  have HX := boxF s A ms.length c w
  obtain ⟨x0, x1, x2, x3⟩ := HX.out _ (Below.refl _ _)
  have HB := Lib.hid x3
  have J1 := Lib.hid (fun w1 (h : Below w.heap.size w w1) => pCheck7_any s A c ms w1 (hf.below h (Nat.le_refl _)) hn hs)
  have J2 := Lib.hid (fun w => kCheck_any key w hz)
  clear hf hs x3
  by_cases h : (chkF s ms).2 = 0
  · have HL := Lib.hid (keyE_ok (key := key) h)
    rw [h] at J1
    generalize (chkF s ms).1 = r0 at *
    generalize chk1 key.size = r2 at *
    clear h
    go_enter Try.func48, Try.ntmps48
    go_wp2_with fail
    refine (J1.out _ HB.out).mono ?_
    rintro e w1 ⟨rfl, hb⟩
    have HB1 := Lib.hid (eb_of HB.out hb (by simp))
    clear hb
    go_wp2_with fail
    refine (J2.out _).mono ?_
    rintro e w2 ⟨rfl, rfl⟩
    go_wp2_with fail
    go_ret
    exact ⟨retI (by rw [HL.out]), HB1.out⟩
  · have HL := Lib.hid (keyE_no (key := key) h)
    obtain ⟨b1, b2⟩ := ne_b h
    generalize (chkF s ms).1 = r0 at *
    generalize (chkF s ms).2 = r at *
    clear h
    go_enter Try.func48, Try.ntmps48
    go_wp2_with fail
    refine (J1.out _ HB.out).mono ?_
    rintro e w1 ⟨rfl, hb⟩
    have HB1 := Lib.hid (eb_of HB.out hb (by simp))
    clear hb
    go_wp2_with fail
    go_ret
    exact ⟨retI (by rw [HL.out]), HB1.out⟩
def blockE (s : Int) (ms : List ByteArray) (key : ByteArray) : Int × Int := if keyE s ms key ≠ 0 then (0, keyE s ms key) else (((upN ms key : Nat) : Int), 0)
theorem blockE_no {s : Int} {ms : List ByteArray} {key : ByteArray} (h : keyE s ms key ≠ 0) : blockE s ms key = (0, keyE s ms key) := if_pos h
theorem blockE_ok {s : Int} {ms : List ByteArray} {key : ByteArray} (h : keyE s ms key = 0) : blockE s ms key = (((upN ms key : Nat) : Int), 0) := if_neg (by rw [h]; simp)
set_option maxRecDepth 100000 in
set_option maxHeartbeats 1000000 in
theorem pBlock7_any (s : Int) (A : Option Addr) (c : Nat) (ms : List ByteArray) (key : ByteArray) (w : World) (hf : SsAt w A ms) (hn : ms.length ≤ 4294967295) (hs : SizedS ms) (hz : key.size ≤ 9223372036854775807) :
    Calls Try.prog 20 #[.agg #[.int .i64 s, .slice A ms.length c], .string key] w fun e w' => e = .returned (.tuple #[.int .i64 (blockE s ms key).1, .int .i64 (blockE s ms key).2]) ∧ Below w.heap.size w w' := by
  have HX := boxF s A ms.length c w
  obtain ⟨x0, x1, x2, x3⟩ := HX.out _ (Below.refl _ _)
  have HB := Lib.hid x3
  have J1 := Lib.hid (fun w1 (h : Below w.heap.size w w1) => checkKey_any s A c ms key w1 (hf.below h (Nat.le_refl _)) hn hs hz)
  clear x3
  by_cases h : keyE s ms key = 0
  · have HL := Lib.hid (blockE_ok h)
    rw [h] at J1
    obtain ⟨G, hk⟩ := keyE_zero h
    have J2 := Lib.hid (fun w1 (h : Below w.heap.size w w1) => blockOf_any s A c ms key w1 (hf.below h (Nat.le_refl _)) hn G.key hk G.asc)
    clear hf hs h G
    generalize upN ms key = r at *
    go_enter Try.func20, Try.ntmps20
    go_wp2_with fail
    refine (J1.out _ HB.out).mono ?_
    rintro e w1 ⟨rfl, hb⟩
    obtain ⟨y0, y1, y2, y3⟩ := HX.out _ hb
    have HB1 := Lib.hid y3
    clear hb
    go_wp2_with fail
    refine (J2.out _ HB1.out).mono ?_
    rintro e w2 ⟨rfl, hb⟩
    have HB2 := Lib.hid (eb_of HB1.out hb (Nat.le_refl _))
    clear hb
    go_wp2_with fail
    go_ret2
    exact ⟨retZ HL.out, HB2.out⟩
  · have HL := Lib.hid (blockE_no h)
    obtain ⟨b1, b2⟩ := ne_b h
    clear hf hs h
    generalize keyE s ms key = r at *
    go_enter Try.func20, Try.ntmps20
    go_wp2_with fail
    refine (J1.out _ HB.out).mono ?_
    rintro e w1 ⟨rfl, hb⟩
    have HB1 := Lib.hid (eb_of HB.out hb (by simp))
    clear hb
    go_wp2_with fail
    go_ret2
    exact ⟨retZ HL.out, HB1.out⟩
def rngE (s : Int) (ms : List ByteArray) (lo hi : ByteArray) (b : Bool) : Int := if (chkF s ms).2 ≠ 0 then (chkF s ms).2 else chkR lo hi b
theorem rngE_no {s : Int} {ms : List ByteArray} {lo hi : ByteArray} {b : Bool} (h : (chkF s ms).2 ≠ 0) : rngE s ms lo hi b = (chkF s ms).2 := if_pos h
theorem rngE_ok {s : Int} {ms : List ByteArray} {lo hi : ByteArray} {b : Bool} (h : (chkF s ms).2 = 0) : rngE s ms lo hi b = chkR lo hi b := if_neg (by rw [h]; simp)
def lastN (ms : List ByteArray) (hi : ByteArray) (b : Bool) : Nat := if b = true then lessN ms hi else ms.length
def blocksE (s : Int) (ms : List ByteArray) (lo hi : ByteArray) (b : Bool) : Int × Int × Int :=
  if rngE s ms lo hi b ≠ 0 then (0, 0, rngE s ms lo hi b) else if emptyV lo hi b = true then (0, 0, 0) else (((upN ms lo : Nat) : Int), ((lastN ms hi b : Nat) : Int) + 1, 0)
theorem blocksE_no {s : Int} {ms : List ByteArray} {lo hi : ByteArray} {b : Bool} (h : rngE s ms lo hi b ≠ 0) : blocksE s ms lo hi b = (0, 0, rngE s ms lo hi b) := if_pos h
theorem blocksE_empty {s : Int} {ms : List ByteArray} {lo hi : ByteArray} {b : Bool} (h : rngE s ms lo hi b = 0) (g : emptyV lo hi b = true) : blocksE s ms lo hi b = (0, 0, 0) := by
  unfold blocksE; rw [if_neg (by rw [h]; simp), if_pos g]
theorem blocksE_ok {s : Int} {ms : List ByteArray} {lo hi : ByteArray} {b : Bool} (h : rngE s ms lo hi b = 0) (g : emptyV lo hi b = false) : blocksE s ms lo hi b = (((upN ms lo : Nat) : Int), ((lastN ms hi b : Nat) : Int) + 1, 0) := by
  unfold blocksE; rw [if_neg (by rw [h]; simp), if_neg (by rw [g]; simp)]
theorem chkR_sizes {lo hi : ByteArray} {b : Bool} (h : chkR lo hi b = 0) : lo.size ≤ 32 ∧ hi.size ≤ 32 := by
  unfold chkR at h
  by_cases g : lo.size ≤ 32 ∧ hi.size ≤ 32
  · exact g
  · rw [if_pos g] at h; exact absurd h (by decide)
set_option maxRecDepth 100000 in
set_option maxHeartbeats 2000000 in
theorem pBlocks7_any (s : Int) (A : Option Addr) (c : Nat) (ms : List ByteArray) (lo hi : ByteArray) (b : Bool) (w : World) (hf : SsAt w A ms) (hn : ms.length ≤ 4294967295) (hs : SizedS ms) (hz : lo.size ≤ 9223372036854775807) (hz2 : hi.size ≤ 9223372036854775807) :
    Calls Try.prog 22 #[.agg #[.int .i64 s, .slice A ms.length c], .agg #[.string lo, .string hi, .bool b]] w fun e w' => e = .returned (.tuple #[.int .i64 (blocksE s ms lo hi b).1, .int .i64 (blocksE s ms lo hi b).2.1, .int .i64 (blocksE s ms lo hi b).2.2]) ∧ Below w.heap.size w w' := by
  have HX := boxF s A ms.length c w
  have HY := boxR lo hi b (w.alloc (.cells #[.int .i64 s, .slice A ms.length c] 25)) (w.heap.size + 1) (by simp)
  obtain ⟨y0, y1, y2, y3, y4⟩ := HY.out _ (Below.refl _ _)
  obtain ⟨x0, x1, x2, x3⟩ := HX.out _ y4
  have HB := Lib.hid x3
  have J1 := Lib.hid (fun w1 (h : Below w.heap.size w w1) => pCheck7_any s A c ms w1 (hf.below h (Nat.le_refl _)) hn hs)
  have J2 := Lib.hid (fun w => kEmpty_any lo hi b w hz hz2)
  clear x3 y3 y4
  by_cases h1 : (chkF s ms).2 = 0
  rotate_left
  · have HL := Lib.hid (blocksE_no (lo := lo) (hi := hi) (b := b) (by rw [rngE_no h1]; exact h1))
    rw [rngE_no h1] at HL
    obtain ⟨b1, b2⟩ := ne_b h1
    clear hf hs h1
    generalize (chkF s ms).1 = r0 at *
    generalize (chkF s ms).2 = r at *
    go_enter Try.func22, Try.ntmps22
    go_wp2_with fail
    refine (J1.out _ HB.out).mono ?_
    rintro e w1 ⟨rfl, hb⟩
    have HB1 := Lib.hid (eb_of HB.out hb (by simp; try omega))
    clear hb
    go_wp2_with fail
    go_ret3
    exact ⟨ret3 HL.out, HB1.out⟩
  obtain ⟨G, _⟩ := chkF_good h1
  rw [h1] at J1
  by_cases h2 : chkR lo hi b = 0
  rotate_left
  · have HL := Lib.hid (blocksE_no (s := s) (ms := ms) (by rw [rngE_ok h1]; exact h2))
    rw [rngE_ok h1] at HL
    obtain ⟨b1, b2⟩ := ne_b h2
    clear hf hs h1 h2 G
    generalize (chkF s ms).1 = r0 at *
    generalize emptyV lo hi b = ev at *
    generalize chkR lo hi b = r at *
    go_enter Try.func22, Try.ntmps22
    go_wp2_with fail
    refine (J1.out _ HB.out).mono ?_
    rintro e w1 ⟨rfl, hb⟩
    obtain ⟨v0, v1, v2, v3, v4⟩ := HY.out _ hb
    obtain ⟨u0, u1, u2, u3⟩ := HX.out _ v4
    have HB1 := Lib.hid u3
    clear hb v3 v4 u3
    go_wp2_with fail
    refine (J2.out _).mono ?_
    rintro e w2 ⟨rfl, hb⟩
    have HB2 := Lib.hid (eb_of HB1.out hb (Nat.le_refl _))
    clear hb
    go_wp2_with fail
    go_ret3
    exact ⟨ret3 HL.out, HB2.out⟩
  have hr : rngE s ms lo hi b = 0 := by rw [rngE_ok h1]; exact h2
  obtain ⟨hlo, hhi⟩ := chkR_sizes h2
  rw [h2] at J2
  cases h3 : emptyV lo hi b with
  | true =>
    have HL := Lib.hid (blocksE_empty hr h3)
    rw [h3] at J2
    clear hf hs h1 h2 hr h3 G
    generalize (chkF s ms).1 = r0 at *
    go_enter Try.func22, Try.ntmps22
    go_wp2_with fail
    refine (J1.out _ HB.out).mono ?_
    rintro e w1 ⟨rfl, hb⟩
    obtain ⟨v0, v1, v2, v3, v4⟩ := HY.out _ hb
    obtain ⟨u0, u1, u2, u3⟩ := HX.out _ v4
    have HB1 := Lib.hid u3
    clear hb v3 v4 u3
    go_wp2_with fail
    refine (J2.out _).mono ?_
    rintro e w2 ⟨rfl, hb⟩
    have HB2 := Lib.hid (eb_of HB1.out hb (Nat.le_refl _))
    clear hb
    go_wp2_with fail
    go_ret3
    exact ⟨ret3 HL.out, HB2.out⟩
  | false =>
    have HL := Lib.hid (blocksE_ok hr h3)
    rw [h3] at J2
    have J3 := Lib.hid (fun w1 (h : Below w.heap.size w w1) => blockOf_any s A c ms lo w1 (hf.below h (Nat.le_refl _)) hn G.key hlo G.asc)
    have J4 := Lib.hid (fun w1 (h : Below w.heap.size w w1) (hk : w1.cell? ⟨w.heap.size + 1, 1, none⟩ = some (.string hi)) (hkb : w.heap.size + 1 < w1.heap.size) => lead_rng A c ms hi (w.heap.size + 1) w1 (hf.below h (Nat.le_refl _)) hk hkb hn G.key hhi G.asc)
    have hup := upN_le ms lo
    have hle := lessN_le ms hi
    clear hf hs h1 h2 hr h3 G
    generalize (chkF s ms).1 = r0 at *
    generalize upN ms lo = up at *
    cases b with
    | true =>
      rw [show lastN ms hi true = lessN ms hi from rfl] at HL
      generalize lessN ms hi = le at *
      go_enter Try.func22, Try.ntmps22
      go_wp2_with fail
      refine (J1.out _ HB.out).mono ?_
      rintro e w1 ⟨rfl, hb⟩
      obtain ⟨v0, v1, v2, v3, v4⟩ := HY.out _ hb
      obtain ⟨u0, u1, u2, u3⟩ := HX.out _ v4
      have HB1 := Lib.hid u3
      have HC := Lib.hid hb
      clear hb v3 v4 u3
      go_wp2_with fail
      refine (J2.out _).mono ?_
      rintro e w2 ⟨rfl, hb⟩
      have HC2 := Lib.hid (eb_of HC.out hb (Nat.le_refl _))
      clear hb u0 u1 u2 v0 v1 v2
      obtain ⟨v0, v1, v2, v3, v4⟩ := HY.out _ HC2.out
      obtain ⟨u0, u1, u2, u3⟩ := HX.out _ v4
      have HB2 := Lib.hid u3
      clear v4 u3
      go_wp2_with fail
      refine (J4.out _ HB2.out v1 v3).mono ?_
      rintro e w3 ⟨rfl, hb⟩
      have HC3 := Lib.hid (eb_of HC2.out hb (Nat.le_refl _))
      clear hb u0 u1 u2 v0 v1 v2 v3
      obtain ⟨v0, v1, v2, v3, v4⟩ := HY.out _ HC3.out
      obtain ⟨u0, u1, u2, u3⟩ := HX.out _ v4
      have HB3 := Lib.hid u3
      clear v4 u3
      go_wp2_with fail
      refine (J3.out _ HB3.out).mono ?_
      rintro e w4 ⟨rfl, hb⟩
      have HB4 := Lib.hid (eb_of HB3.out hb (Nat.le_refl _))
      clear hb
      go_wp2_with fail
      go_ret3
      exact ⟨ret3 HL.out, HB4.out⟩
    | false =>
      rw [show lastN ms hi false = ms.length from rfl] at HL
      go_enter Try.func22, Try.ntmps22
      go_wp2_with fail
      refine (J1.out _ HB.out).mono ?_
      rintro e w1 ⟨rfl, hb⟩
      obtain ⟨v0, v1, v2, v3, v4⟩ := HY.out _ hb
      obtain ⟨u0, u1, u2, u3⟩ := HX.out _ v4
      have HB1 := Lib.hid u3
      have HC := Lib.hid hb
      clear hb v3 v4 u3
      go_wp2_with fail
      refine (J2.out _).mono ?_
      rintro e w2 ⟨rfl, hb⟩
      have HC2 := Lib.hid (eb_of HC.out hb (Nat.le_refl _))
      clear hb u0 u1 u2 v0 v1 v2
      obtain ⟨v0, v1, v2, v3, v4⟩ := HY.out _ HC2.out
      obtain ⟨u0, u1, u2, u3⟩ := HX.out _ v4
      have HB2 := Lib.hid u3
      clear v4 u3
      go_wp2_with fail
      refine (J3.out _ HB2.out).mono ?_
      rintro e w4 ⟨rfl, hb⟩
      have HB4 := Lib.hid (eb_of HB2.out hb (Nat.le_refl _))
      clear hb
      go_wp2_with fail
      go_ret3
      exact ⟨ret3 HL.out, HB4.out⟩
end Go.Proofs.Ytpgngiegpigfiaa.KK
