/-
  Plain functions, joined into one text.
-/
import Derived.Test.YtebjhjmlpodkgaaQa
import Derived.Deep.QuietTactic
import Derived.Deep.AppendLies
import Derived.Lib.MinMaxS
/-
  Plain functions on entries: what is wrong with one, and their order. They import nothing of the program.
-/
namespace Go.Proofs.Ytebjhjmlpodkgaa.El

/-- an entry: key, value, whether it is a tombstone, number -/
abbrev En := ByteArray × ByteArray × Bool × Int
/-- what is wrong with an entry -/
def chk (x : En) : Int :=
  if 32 < x.1.size then 3 else if 64 < x.2.1.size then 3 else if x.2.2.1 = true ∧ x.2.1.size ≠ 0 then 6 else if x.2.2.2 < 1 ∨ 1000000000 < x.2.2.2 then 7 else 0
theorem chk_key {k v : ByteArray} {d : Bool} {q : Int} (h : 32 < k.size) : chk (k, v, d, q) = 3 := if_pos h
theorem chk_val {k v : ByteArray} {d : Bool} {q : Int} (h : ¬ 32 < k.size) (g : 64 < v.size) : chk (k, v, d, q) = 3 := by
  unfold chk; rw [if_neg h, if_pos g]
theorem chk_dead {k v : ByteArray} {d : Bool} {q : Int} (h : ¬ 32 < k.size) (g : ¬ 64 < v.size) (hd : d = true) (hv : v.size ≠ 0) : chk (k, v, d, q) = 6 := by
  unfold chk; rw [if_neg h, if_neg g, if_pos ⟨hd, hv⟩]
theorem chk_seq {k v : ByteArray} {d : Bool} {q : Int} (h : ¬ 32 < k.size) (g : ¬ 64 < v.size) (hd : ¬ (d = true ∧ v.size ≠ 0)) (hq : q < 1 ∨ 1000000000 < q) : chk (k, v, d, q) = 7 := by
  unfold chk; rw [if_neg h, if_neg g, if_neg hd, if_pos hq]
theorem chk_ok {k v : ByteArray} {d : Bool} {q : Int} (h : ¬ 32 < k.size) (g : ¬ 64 < v.size) (hd : ¬ (d = true ∧ v.size ≠ 0)) (hq : ¬ (q < 1 ∨ 1000000000 < q)) : chk (k, v, d, q) = 0 := by
  unfold chk; rw [if_neg h, if_neg g, if_neg hd, if_neg hq]
theorem chk_of {x : En} (h : chk x = 0) : x.1.size ≤ 32 ∧ x.2.1.size ≤ 64 ∧ (x.2.2.1 = true → x.2.1.size = 0) ∧ 1 ≤ x.2.2.2 ∧ x.2.2.2 ≤ 1000000000 := by
  unfold chk at h
  split at h
  · cases h
  split at h
  · cases h
  split at h
  · cases h
  split at h
  · cases h
  rename_i h1 h2 h3 h4
  refine ⟨by omega, by omega, fun hd => ?_, by omega, by omega⟩
  rcases Nat.eq_zero_or_pos x.2.1.size with h | h
  · exact h
  · exact absurd ⟨hd, by omega⟩ h3
/-- what is wrong with two entries -/
def two (a b : En) : Int := if chk a = 0 then chk b else chk a
theorem two_ok {a b : En} (h : chk a = 0) : two a b = chk b := if_pos h
theorem two_no {a b : En} (h : ¬ chk a = 0) : two a b = chk a := if_neg h
theorem two_of {a b : En} (h : two a b = 0) : chk a = 0 ∧ chk b = 0 := by
  by_cases ha : chk a = 0
  · rw [two_ok ha] at h; exact ⟨ha, h⟩
  · rw [two_no ha] at h; exact absurd h ha
/-- the order of entries -/
def ord (a b : En) : Int :=
  if Kl.ord (Kl.L a.1) (Kl.L b.1) = 0 then (if b.2.2.2 < a.2.2.2 then -1 else if a.2.2.2 < b.2.2.2 then 1 else 0) else Kl.ord (Kl.L a.1) (Kl.L b.1)
/-- what Compare and Wins answer -/
def cmp (a b : En) : Int := if two a b = 0 then ord a b else 0
def none : En := (⟨#[]⟩, ⟨#[]⟩, false, 0)
def wins (a b : En) : Int × En :=
  if two a b = 0 then (if a.1 = b.1 then (if a.2.2.2 < b.2.2.2 then (0, b) else (0, a)) else (6, none)) else (two a b, none)
end Go.Proofs.Ytebjhjmlpodkgaa.El

/-
  Contracts of entries: Check, on both sides.
-/
namespace Go.Proofs.Ytebjhjmlpodkgaa.KK
open Go.ChangeShapes Go.WideShapes Go.ChangeAt Go.RowKit Go.Proofs

theorem str_empty (s : ByteArray) (h : s.size = 0) : s.toList = [] := by
  rw [Lib.toList_data]; exact List.eq_nil_of_length_eq_zero (by rw [← Lib.size_eq]; exact h)
theorem str_full (s : ByteArray) (h : s.size ≠ 0) : s.toList ≠ [] ∧ s.toList.isEmpty = false := by
  have : s.toList ≠ [] := by
    rw [Lib.toList_data]; intro e
    have := Lib.size_eq s; rw [e, List.length_nil] at this; omega
  exact ⟨this, by simpa using this⟩

set_option maxHeartbeats 1000000 in
theorem eCheck_any (k v : ByteArray) (d : Bool) (q : Int) (w : World) (hk : k.size ≤ 9223372036854775807) (hv : v.size ≤ 9223372036854775807) :
    Calls Try.prog 94 #[.agg #[.string k, .string v, .bool d, .int .i64 q]] w fun e w' => e = .returned (.int .i64 (El.chk (k, v, d, q))) ∧ Below w.heap.size w w' := by
  by_cases h1 : 32 < k.size
  · have H := Lib.hid (El.chk_key (v := v) (d := d) (q := q) h1)
    have J := Lib.hid (fun w => by have K := kCheck_any k w hk; rw [chk1_no (by omega)] at K; exact K)
    clear h1
    go_enter Try.func94, Try.ntmps94
    go_wp2_with (go_at_call 103; refine (J.out _).mono ?_; rintro e w' ⟨rfl, rfl⟩)
    go_ret
    exact ⟨by rw [H.out]; rfl, (Below.refl _ _).alloc (Nat.le_refl _) _⟩
  · by_cases h2 : 64 < v.size
    · have H := Lib.hid (El.chk_val (d := d) (q := q) h1 h2)
      have J := Lib.hid (fun w => by have K := kCheck_any k w hk; rw [chk1_ok (by omega)] at K; exact K)
      clear h1
      go_enter Try.func94, Try.ntmps94
      go_wp2_with (go_at_call 103; refine (J.out _).mono ?_; rintro e w' ⟨rfl, rfl⟩)
      go_ret
      exact ⟨by rw [H.out]; rfl, (Below.refl _ _).alloc (Nat.le_refl _) _⟩
    · by_cases h3 : d = true ∧ v.size ≠ 0
      · have H := Lib.hid (El.chk_dead (q := q) h1 h2 h3.1 h3.2)
        have J := Lib.hid (fun w => by have K := kCheck_any k w hk; rw [chk1_ok (by omega)] at K; exact K)
        obtain ⟨z1, z2⟩ := str_full v h3.2
        obtain ⟨rfl, _⟩ := h3
        clear h1
        go_enter Try.func94, Try.ntmps94
        go_wp2_with (go_at_call 103; refine (J.out _).mono ?_; rintro e w' ⟨rfl, rfl⟩)
        go_ret
        exact ⟨by rw [H.out]; rfl, (Below.refl _ _).alloc (Nat.le_refl _) _⟩
      · by_cases h4 : q < 1 ∨ 1000000000 < q
        · have H := Lib.hid (El.chk_seq h1 h2 h3 h4)
          have J := Lib.hid (fun w => by have K := kCheck_any k w hk; rw [chk1_ok (by omega)] at K; exact K)
          rcases h4 with h4 | h4
          all_goals
            cases d
            all_goals
              (try (have z1 := str_empty v (by by_cases z : v.size = 0; exact z; exact absurd ⟨rfl, z⟩ h3)))
              clear h3 h1
              go_enter Try.func94, Try.ntmps94
              go_wp2_with (go_at_call 103; refine (J.out _).mono ?_; rintro e w' ⟨rfl, rfl⟩)
              go_ret
              exact ⟨by rw [H.out]; rfl, (Below.refl _ _).alloc (Nat.le_refl _) _⟩
        · have H := Lib.hid (El.chk_ok h1 h2 h3 h4)
          have J := Lib.hid (fun w => by have K := kCheck_any k w hk; rw [chk1_ok (by omega)] at K; exact K)
          obtain ⟨h5, h6⟩ : ¬ q < 1 ∧ ¬ 1000000000 < q := by omega
          clear h4
          all_goals
            cases d
            all_goals
              (try (have z1 := str_empty v (by by_cases z : v.size = 0; exact z; exact absurd ⟨rfl, z⟩ h3)))
              clear h3 h1
              go_enter Try.func94, Try.ntmps94
              go_wp2_with (go_at_call 103; refine (J.out _).mono ?_; rintro e w' ⟨rfl, rfl⟩)
              go_ret
              exact ⟨by rw [H.out]; rfl, (Below.refl _ _).alloc (Nat.le_refl _) _⟩
set_option maxHeartbeats 1000000 in
theorem fCheck_any (k v : ByteArray) (d : Bool) (q : Int) (w : World) (hk : k.size ≤ 9223372036854775807) (hv : v.size ≤ 9223372036854775807) :
    Calls Try.prog 66 #[.agg #[.string k, .string v, .bool d, .int .i64 q]] w fun e w' => e = .returned (.int .i64 (El.chk (k, v, d, q))) ∧ Below w.heap.size w w' := by
  by_cases h1 : 32 < k.size
  · have H := Lib.hid (El.chk_key (v := v) (d := d) (q := q) h1)
    go_enter Try.func66, Try.ntmps66
    go_wp2_with fail
    go_ret
    exact ⟨by rw [H.out]; rfl, (Below.refl _ _).alloc (Nat.le_refl _) _⟩
  · by_cases h2 : 64 < v.size
    · have H := Lib.hid (El.chk_val (d := d) (q := q) h1 h2)
      go_enter Try.func66, Try.ntmps66
      go_wp2_with fail
      go_ret
      exact ⟨by rw [H.out]; rfl, (Below.refl _ _).alloc (Nat.le_refl _) _⟩
    · by_cases h3 : d = true ∧ v.size ≠ 0
      · have H := Lib.hid (El.chk_dead (q := q) h1 h2 h3.1 h3.2)
        obtain ⟨z1, z2⟩ := str_full v h3.2
        obtain ⟨rfl, _⟩ := h3
        go_enter Try.func66, Try.ntmps66
        go_wp2_with fail
        go_ret
        exact ⟨by rw [H.out]; rfl, (Below.refl _ _).alloc (Nat.le_refl _) _⟩
      · by_cases h4 : q < 1 ∨ 1000000000 < q
        · have H := Lib.hid (El.chk_seq h1 h2 h3 h4)
          
          rcases h4 with h4 | h4
          all_goals
            cases d
            all_goals
              (try (have z1 := str_empty v (by by_cases z : v.size = 0; exact z; exact absurd ⟨rfl, z⟩ h3)))
              clear h3
              go_enter Try.func66, Try.ntmps66
              go_wp2_with fail
              go_ret
              exact ⟨by rw [H.out]; rfl, (Below.refl _ _).alloc (Nat.le_refl _) _⟩
        · have H := Lib.hid (El.chk_ok h1 h2 h3 h4)
          
          obtain ⟨h5, h6⟩ : ¬ q < 1 ∧ ¬ 1000000000 < q := by omega
          clear h4
          all_goals
            cases d
            all_goals
              (try (have z1 := str_empty v (by by_cases z : v.size = 0; exact z; exact absurd ⟨rfl, z⟩ h3)))
              clear h3
              go_enter Try.func66, Try.ntmps66
              go_wp2_with fail
              go_ret
              exact ⟨by rw [H.out]; rfl, (Below.refl _ _).alloc (Nat.le_refl _) _⟩
end Go.Proofs.Ytebjhjmlpodkgaa.KK

/-
  Contracts of entries: checkBoth.
-/
namespace Go.Proofs.Ytebjhjmlpodkgaa.KK
open Go.ChangeShapes Go.WideShapes Go.ChangeAt Go.RowKit Go.Proofs

theorem eb_of {B : Nat} {w w1 w2 : World} (hb : Below B w w1) (h : Below w1.heap.size w1 w2) (hB : B ≤ w.heap.size) : Below B w w2 := hb.trans (h.mono (Nat.le_trans hB hb.size))
theorem ne_b {a : Int} (h : a ≠ 0) : (a == 0) = false ∧ (a != 0) = true := ⟨by rw [beq_eq_false_iff_ne]; exact h, by rw [bne_iff_ne]; exact h⟩
end Go.Proofs.Ytebjhjmlpodkgaa.KK

/-
  Contracts of entries: sameKey.
-/
namespace Go.Proofs.Ytebjhjmlpodkgaa.KK
open Go.ChangeShapes Go.WideShapes Go.ChangeAt Go.RowKit Go.Proofs

theorem str_ne {a b : ByteArray} (h : a ≠ b) : ¬ a.toList = b.toList := fun e => by
  rw [Lib.toList_data, Lib.toList_data] at e
  exact h (ByteArray.ext (Array.toList_inj.1 e))
end Go.Proofs.Ytebjhjmlpodkgaa.KK

/-
  Contracts of entries: keyOrder, compare, Compare, Wins; the reference's order, Compare, Wins.
-/
namespace Go.Proofs.Ytebjhjmlpodkgaa.KK
open Go.ChangeShapes Go.WideShapes Go.ChangeAt Go.RowKit Go.Proofs

/-- two structs boxed, one after the other: what their cells hold in whatever world comes of it -/
theorem box2 (k v : ByteArray) (d : Bool) (q : Int) (k2 v2 : ByteArray) (d2 : Bool) (q2 : Int) (w : World) : Hid (∀ w', Below ((w.alloc (.cells #[.string k, .string v, .bool d, .int .i64 q] 45)).alloc (.cells #[.string k2, .string v2, .bool d2, .int .i64 q2] 45)).heap.size ((w.alloc (.cells #[.string k, .string v, .bool d, .int .i64 q] 45)).alloc (.cells #[.string k2, .string v2, .bool d2, .int .i64 q2] 45)) w' →
    (w'.cell? ⟨w.heap.size, 0, none⟩ = some (.string k) ∧ w'.cell? ⟨w.heap.size, 1, none⟩ = some (.string v) ∧ w'.cell? ⟨w.heap.size, 2, none⟩ = some (.bool d) ∧ w'.cell? ⟨w.heap.size, 3, none⟩ = some (.int .i64 q)) ∧
    (w'.cell? ⟨w.heap.size + 1, 0, none⟩ = some (.string k2) ∧ w'.cell? ⟨w.heap.size + 1, 1, none⟩ = some (.string v2) ∧ w'.cell? ⟨w.heap.size + 1, 2, none⟩ = some (.bool d2) ∧ w'.cell? ⟨w.heap.size + 1, 3, none⟩ = some (.int .i64 q2))) := Lib.hid fun w' h => by
  have r1 := fun i => cell_of_row ((w.alloc (.cells #[.string k, .string v, .bool d, .int .i64 q] 45)).alloc (.cells #[.string k2, .string v2, .bool d2, .int .i64 q2] 45)) w.heap.size i _ _ _ (by have h := heap_alloc_new w (.cells #[.string k, .string v, .bool d, .int .i64 q] 45); have h2 := heap_alloc_old (w.alloc (.cells #[.string k, .string v, .bool d, .int .i64 q] 45)) (.cells #[.string k2, .string v2, .bool d2, .int .i64 q2] 45) (r := w.heap.size) (by simp); rw [h2]; exact h)
  have r2 := fun i => cell_of_row ((w.alloc (.cells #[.string k, .string v, .bool d, .int .i64 q] 45)).alloc (.cells #[.string k2, .string v2, .bool d2, .int .i64 q2] 45)) (w.heap.size + 1) i _ _ _ (by have h := heap_alloc_new (w.alloc (.cells #[.string k, .string v, .bool d, .int .i64 q] 45)) (.cells #[.string k2, .string v2, .bool d2, .int .i64 q2] 45); simpa using h)
  have e : ((w.alloc (.cells #[.string k, .string v, .bool d, .int .i64 q] 45)).alloc (.cells #[.string k2, .string v2, .bool d2, .int .i64 q2] 45)).heap.size = w.heap.size + 2 := by simp
  rw [e] at h
  have g1 : ∀ i, w'.cell? ⟨w.heap.size, i, none⟩ = ((w.alloc (.cells #[.string k, .string v, .bool d, .int .i64 q] 45)).alloc (.cells #[.string k2, .string v2, .bool d2, .int .i64 q2] 45)).cell? ⟨w.heap.size, i, none⟩ := fun i => h.cell (p := ⟨w.heap.size, i, none⟩) (by simp)
  have g2 : ∀ i, w'.cell? ⟨w.heap.size + 1, i, none⟩ = ((w.alloc (.cells #[.string k, .string v, .bool d, .int .i64 q] 45)).alloc (.cells #[.string k2, .string v2, .bool d2, .int .i64 q2] 45)).cell? ⟨w.heap.size + 1, i, none⟩ := fun i => h.cell (p := ⟨w.heap.size + 1, i, none⟩) (by simp)
  exact ⟨⟨(g1 0).trans (r1 0), (g1 1).trans (r1 1), (g1 2).trans (r1 2), (g1 3).trans (r1 3)⟩, ⟨(g2 0).trans (r2 0), (g2 1).trans (r2 1), (g2 2).trans (r2 2), (g2 3).trans (r2 3)⟩⟩
theorem box2_below (k v : ByteArray) (d : Bool) (q : Int) (k2 v2 : ByteArray) (d2 : Bool) (q2 : Int) (w : World) : Hid (Below w.heap.size w ((w.alloc (.cells #[.string k, .string v, .bool d, .int .i64 q] 45)).alloc (.cells #[.string k2, .string v2, .bool d2, .int .i64 q2] 45))) := Lib.hid (((Below.refl _ _).alloc (Nat.le_refl _) _).alloc (by simp) _)

set_option maxHeartbeats 1000000 in
theorem eKey_any (k v : ByteArray) (d : Bool) (q : Int) (k2 v2 : ByteArray) (d2 : Bool) (q2 : Int) (w : World) (hk : k.size ≤ 32) (hk2 : k2.size ≤ 32) :
    Calls Try.prog 95 #[.agg #[.string k, .string v, .bool d, .int .i64 q], .agg #[.string k2, .string v2, .bool d2, .int .i64 q2]] w fun e w' => e = .returned (.int .i64 (Kl.ord (Kl.L k) (Kl.L k2))) ∧ Below w.heap.size w w' := by
  have J := Lib.hid (fun w => by have K := kCompare_any k k2 w (by omega) (by omega); rw [cmpV_ok hk hk2, chk2_ok hk hk2] at K; exact K)
  have HA := box2_below k v d q k2 v2 d2 q2 w
  clear hk hk2
  generalize Kl.ord (Kl.L k) (Kl.L k2) = r at *
  go_enter Try.func95, Try.ntmps95
  go_wp2_with fail
  refine (J.out _).mono ?_
  rintro e w1 ⟨rfl, hb1⟩
  have HB := Lib.hid (eb_of HA.out hb1 (Nat.le_refl _))
  clear hb1
  go_wp2_with fail
  go_ret
  exact ⟨rfl, HB.out⟩

theorem ord_key {a b : El.En} (h : Kl.ord (Kl.L a.1) (Kl.L b.1) ≠ 0) : El.ord a b = Kl.ord (Kl.L a.1) (Kl.L b.1) := if_neg h
theorem ord_seq {a b : El.En} (h : Kl.ord (Kl.L a.1) (Kl.L b.1) = 0) : El.ord a b = cmp3 b.2.2.2 a.2.2.2 := if_pos h

end Go.Proofs.Ytebjhjmlpodkgaa.KK

/-
  Contracts of the reference of entries: two, order, Compare, Wins.
-/
namespace Go.Proofs.Ytebjhjmlpodkgaa.KK
open Go.ChangeShapes Go.WideShapes Go.ChangeAt Go.RowKit Go.Proofs

theorem cmp3_lt {x y : Int} (h : x < y) : cmp3 x y = -1 := if_pos h
theorem cmp3_gt {x y : Int} (h : ¬ x < y) (g : y < x) : cmp3 x y = 1 := by unfold cmp3; rw [if_neg h, if_pos g]
theorem cmp3_eq {x y : Int} (h : ¬ x < y) (g : ¬ y < x) : cmp3 x y = 0 := by unfold cmp3; rw [if_neg h, if_neg g]
end Go.Proofs.Ytebjhjmlpodkgaa.KK

/-
  A region that draws its order, reads, and calls functions that lay blocks of their own: walked once. Slices of entries: where they lie. checkAll, far, Same.
-/
namespace Go.Proofs.Ytebjhjmlpodkgaa.KK
open Go.ChangeShapes Go.WideShapes Go.ChangeAt Go.RowKit Go.Proofs

/-- a world that has whatever w has -/
structure Abv (w : World) where
  world : World
  h : Below w.heap.size w world
instance (w : World) : Inhabited (Abv w) := ⟨⟨w, Below.refl _ _⟩⟩
theorem wp_region_abv {P : Program} {id : Nat} {Q : Exit → Act → World → Prop} {a : Act} {w : World} {l : List Oper} (hm : P.follows .mixedOrders = true) (hB : Region.lexB .any l.toArray = true)
    (h : wpQuiet P l.toArray (fun w' => ∃ p : Abv w, w' = p.world) (fun a' => ∀ w', (∃ p : Abv w, w' = p.world) → Q .normal a' w') l a) : (Code.region id l.toArray true).wp P Q a w :=
  wp_region_quiet (C := fun w' => ∃ p : Abv w, w' = p.world) hm hB ⟨⟨_, below_drewN' 1⟩, rfl⟩ (by simpa using h)
theorem callAbv {P : Program} {f : FuncId} {args : Array Value} {w : World} {p : Abv w} {v : Value} (h : Calls P f args p.world fun e w' => e = .returned v ∧ Below p.world.heap.size p.world w') :
    Calls P f args p.world fun e w'' => e = .returned v ∧ ∃ p' : Abv w, w'' = p'.world :=
  h.mono fun _ _ ⟨he, hb⟩ => ⟨he, ⟨_, p.h.trans (hb.mono p.h.size)⟩, rfl⟩
theorem callAbv0 {P : Program} {f : FuncId} {args : Array Value} {w : World} {p : Abv w} {v : Value} (h : Calls P f args p.world fun e w' => e = .returned v ∧ p.world = w') :
    Calls P f args p.world fun e w'' => e = .returned v ∧ ∃ p' : Abv w, w'' = p'.world :=
  h.mono fun _ _ ⟨he, hb⟩ => ⟨he, p, hb.symm⟩

/-- a slice of entries lies there: its cells -/
def EsAt (w : World) (A : Option Addr) (xs : List El.En) : Prop :=
  xs = [] ∨ ∃ b off, A = some ⟨b, off, none⟩ ∧ b < w.heap.size ∧ ∀ (i : Nat) (h : i < xs.length),
    w.cell? ⟨b, off + i * 4, none⟩ = some (.string xs[i].1) ∧ w.cell? ⟨b, off + i * 4 + 1, none⟩ = some (.string xs[i].2.1) ∧ w.cell? ⟨b, off + i * 4 + 2, none⟩ = some (.bool xs[i].2.2.1) ∧ w.cell? ⟨b, off + i * 4 + 3, none⟩ = some (.int .i64 xs[i].2.2.2)
theorem EsAt.below {B : Nat} {w w' : World} {A : Option Addr} {xs : List El.En} (h : EsAt w A xs) (hb : Below B w w') (hB : w.heap.size ≤ B) : EsAt w' A xs := by
  rcases h with h | ⟨b, off, hA, hlt, hc⟩
  · exact .inl h
  · refine .inr ⟨b, off, hA, Nat.lt_of_lt_of_le hlt hb.size, fun i hi => ?_⟩
    have e : ∀ o, w'.cell? ⟨b, o, none⟩ = w.cell? ⟨b, o, none⟩ := fun o => hb.cell (p := ⟨b, o, none⟩) (by simp; omega)
    rw [e, e, e, e]; exact hc i hi
/-- sizes of strings that a machine has -/
def Sized (xs : List El.En) : Prop := ∀ x ∈ xs, x.1.size ≤ 9223372036854775807 ∧ x.2.1.size ≤ 9223372036854775807
theorem Sized.at {xs : List El.En} (h : Sized xs) {k : Nat} (hk : k < xs.length) : xs[k].1.size ≤ 9223372036854775807 ∧ xs[k].2.1.size ≤ 9223372036854775807 := h _ (List.getElem_mem hk)

/-- the error of a list in any order -/
def firstE : List El.En → Int
  | [] => 0
  | x :: t => if El.chk x = 0 then firstE t else El.chk x
def allE (xs : List El.En) : Int := if 5000 < xs.length then 3 else firstE xs
theorem firstE_ok {xs : List El.En} {k : Nat} (h : k < xs.length) (g : El.chk xs[k] = 0) : firstE (xs.drop k) = firstE (xs.drop (k + 1)) := by
  rw [List.drop_eq_getElem_cons h]; exact if_pos g
theorem firstE_no {xs : List El.En} {k : Nat} (h : k < xs.length) (g : El.chk xs[k] ≠ 0) : firstE (xs.drop k) = El.chk xs[k] := by
  rw [List.drop_eq_getElem_cons h]; exact if_neg g
theorem firstE_end {xs : List El.En} {k : Nat} (h : ¬ k < xs.length) : firstE (xs.drop k) = 0 := by
  rw [List.drop_eq_nil_of_le (by omega)]; rfl
theorem firstE_all : ∀ {xs : List El.En}, firstE xs = 0 → ∀ x ∈ xs, El.chk x = 0
  | [], _, _, h => by cases h
  | y :: t, h, x, hx => by
    by_cases g : El.chk y = 0
    · rcases List.mem_cons.1 hx with rfl | hx
      · exact g
      · exact firstE_all (by rw [firstE, if_pos g] at h; exact h) x hx
    · rw [firstE, if_neg g] at h; exact absurd h g
theorem retT1 {v : Value} {a b : Int} (h : a = b) : Ending.returned (.tuple #[v, .int .i64 a]) = .returned (.tuple #[v, .int .i64 b]) := by rw [h]

end Go.Proofs.Ytebjhjmlpodkgaa.KK

/-
  Contracts of CheckList, on both sides.
-/
namespace Go.Proofs.Ytebjhjmlpodkgaa.KK
open Go.ChangeShapes Go.WideShapes Go.ChangeAt Go.RowKit Go.Proofs

/-- what is wrong with an entry behind another one -/
def wrong (p : Option El.En) (x : El.En) : Int :=
  if El.chk x = 0 then (match p with | none => 0 | some y => if 0 ≤ Kl.ord (Kl.L y.1) (Kl.L x.1) then 6 else 0) else El.chk x
def scan : Nat → Option El.En → List El.En → Int × Int
  | _, _, [] => (0, 0)
  | i, p, x :: t => if wrong p x = 0 then scan (i + 1) (some x) t else ((i : Int), wrong p x)
def listE (xs : List El.En) : Int × Int := if 5000 < xs.length then (-1, 3) else scan 0 none xs
def prev (xs : List El.En) : Nat → Option El.En
  | 0 => none
  | k + 1 => xs[k]?
theorem prev_succ {xs : List El.En} {k : Nat} (h : k < xs.length) : prev xs (k + 1) = some xs[k] := List.getElem?_eq_getElem h
theorem scan_ok {xs : List El.En} {k : Nat} (h : k < xs.length) (g : wrong (prev xs k) xs[k] = 0) : scan k (prev xs k) (xs.drop k) = scan (k + 1) (prev xs (k + 1)) (xs.drop (k + 1)) := by
  rw [List.drop_eq_getElem_cons h, prev_succ h]; exact if_pos g
theorem scan_no {xs : List El.En} {k : Nat} (h : k < xs.length) (g : wrong (prev xs k) xs[k] ≠ 0) : scan k (prev xs k) (xs.drop k) = ((k : Int), wrong (prev xs k) xs[k]) := by
  rw [List.drop_eq_getElem_cons h]; exact if_neg g
theorem scan_end {xs : List El.En} {k : Nat} {p : Option El.En} (h : ¬ k < xs.length) : scan k p (xs.drop k) = (0, 0) := by
  rw [List.drop_eq_nil_of_le (by omega)]; rfl
theorem wrong_chk {p : Option El.En} {x : El.En} (h : El.chk x ≠ 0) : wrong p x = El.chk x := if_neg h
theorem wrong_none {x : El.En} (h : El.chk x = 0) : wrong none x = 0 := if_pos h
theorem wrong_up {y x : El.En} (h : El.chk x = 0) (g : ¬ 0 ≤ Kl.ord (Kl.L y.1) (Kl.L x.1)) : wrong (some y) x = 0 := by unfold wrong; rw [if_pos h]; exact if_neg g
theorem wrong_down {y x : El.En} (h : El.chk x = 0) (g : 0 ≤ Kl.ord (Kl.L y.1) (Kl.L x.1)) : wrong (some y) x = 6 := by unfold wrong; rw [if_pos h]; exact if_pos g
theorem retP {a b c d : Int} {p : Int × Int} (h : p = (a, b)) (g : a = c) (k : b = d) : Ending.returned (.tuple #[.int .i64 c, .int .i64 d]) = .returned (.tuple #[.int .i64 p.1, .int .i64 p.2]) := by rw [h, g, k]
theorem cell_alloc_old {w : World} {o : Obj} {b i : Nat} (h : b < w.heap.size) : (w.alloc o).cell? ⟨b, i, none⟩ = w.cell? ⟨b, i, none⟩ := by
  unfold World.cell?; rw [heap_alloc_old w o h]
theorem abv_cell {w1 : World} {b o : Nat} {v : Value} (hb : b < w1.heap.size) (h : w1.cell? ⟨b, o, none⟩ = some v) : ∀ p : Abv w1, p.world.cell? ⟨b, o, none⟩ = some v :=
  fun p => (p.h.cell (p := ⟨b, o, none⟩) hb).trans h
theorem box1 (k v : ByteArray) (d : Bool) (q : Int) (w : World) : Hid (∀ w', Below (w.alloc (.cells #[.string k, .string v, .bool d, .int .i64 q] 45)).heap.size (w.alloc (.cells #[.string k, .string v, .bool d, .int .i64 q] 45)) w' →
    w'.cell? ⟨w.heap.size, 0, none⟩ = some (.string k) ∧ w'.cell? ⟨w.heap.size, 1, none⟩ = some (.string v) ∧ w'.cell? ⟨w.heap.size, 2, none⟩ = some (.bool d) ∧ w'.cell? ⟨w.heap.size, 3, none⟩ = some (.int .i64 q) ∧ w.heap.size < w'.heap.size) := Lib.hid fun w' h => by
  have r1 := fun i => cell_of_row (w.alloc (.cells #[.string k, .string v, .bool d, .int .i64 q] 45)) w.heap.size i _ _ _ (heap_alloc_new w (.cells #[.string k, .string v, .bool d, .int .i64 q] 45))
  have g1 : ∀ i, w'.cell? ⟨w.heap.size, i, none⟩ = (w.alloc (.cells #[.string k, .string v, .bool d, .int .i64 q] 45)).cell? ⟨w.heap.size, i, none⟩ := fun i => h.cell (p := ⟨w.heap.size, i, none⟩) (by simp)
  exact ⟨(g1 0).trans (r1 0), (g1 1).trans (r1 1), (g1 2).trans (r1 2), (g1 3).trans (r1 3), by have := h.size; simp at this; omega⟩
theorem fst_of {p : Int × Int} {a b : Int} (h : p = (a, b)) : p.1 = a ∧ p.2 = b := by rw [h]; exact ⟨rfl, rfl⟩

set_option maxHeartbeats 2000000 in
theorem eList_any (A : Option Addr) (c : Nat) (xs : List El.En) (w : World) (hf : EsAt w A xs) (hn : xs.length ≤ 4294967295) (hs : Sized xs) :
    Calls Try.prog 70 #[.slice A xs.length c] w fun e w' => e = .returned (.tuple #[.int .i64 (listE xs).1, .int .i64 (listE xs).2]) ∧ Below w.heap.size w w' := by
  by_cases h64 : 5000 < xs.length
  · go_enter Try.func70, Try.ntmps70
    go_wp2_with fail
    go_ret2
    exact ⟨by rw [listE, if_pos h64]; rfl, Below.refl _ _⟩
  have HAL : Hid (listE xs = scan 0 none xs) := Lib.hid (by rw [listE, if_neg h64])
  go_enter Try.func70, Try.ntmps70
  go_wp2_with fail
  go_loopw [12] (fun i wr => ∃ k : Nat, k ≤ xs.length ∧ i = .int .i64 k ∧ Below w.heap.size w wr ∧ scan 0 none xs = scan k (prev xs k) (xs.drop k) ∧ (∀ y, prev xs k = some y → El.chk y = 0)) (fun i _ => xs.length - (intOf i).toNat)
  case atStart => exact ⟨0, Nat.zero_le _, rfl, Below.refl _ _, rfl, fun y h => by cases h⟩
  case round =>
    obtain ⟨k, hk, rfl, hb, ha, hpv⟩ := hrel
    have HPV := Lib.hid hpv
    clear hpv
    have hsz := hb.size
    have HA := Lib.hid ha
    have HB := Lib.hid hb
    have hf' := hf.below hb (Nat.le_refl _)
    clear ha hb hf
    by_cases hlt : k < xs.length
    rotate_left
    · go_wp2_with fail
      go_ret2
      exact ⟨by rw [HAL.out, HA.out, scan_end hlt]; rfl, HB.out⟩
    have HF := Lib.hid hf'
    rcases hf' with h0 | ⟨b, off, rfl, hbl, hc⟩
    · subst h0; simp at hlt
    obtain ⟨g0, g1, g2, g3⟩ := hc k hlt
    have J := Lib.hid (fun w => eCheck_any xs[k].1 xs[k].2.1 xs[k].2.2.1 xs[k].2.2.2 w (hs.at hlt).1 (hs.at hlt).2)
    by_cases hl : El.chk xs[k] = 0
    rotate_left
    · have HL := Lib.hid (scan_no hlt (by rw [wrong_chk hl]; exact hl))
      rw [wrong_chk hl] at HL
      obtain ⟨b1, b2⟩ := ne_b hl
      have J := Lib.hid (fun w => by have K := J.out w; rw [show El.chk (xs[k].1, xs[k].2.1, xs[k].2.2.1, xs[k].2.2.2) = El.chk xs[k] from rfl] at K; exact K)
      clear hl hc hs
      generalize El.chk xs[k] = r at *
      go_wp2_with fail
      refine (J.out _).mono ?_
      rintro e w1 ⟨rfl, hb1⟩
      have HB1 := Lib.hid ((HB.out.alloc hsz _).trans (hb1.mono (by simp; omega)))
      clear hb1
      go_wp2_with fail
      
      
      go_ret2
      exact ⟨retP (HAL.out.trans (HA.out.trans HL.out)) rfl rfl, HB1.out⟩
    have HC0 := Lib.hid hl
    have sk := (El.chk_of hl).1
    have J := Lib.hid (fun w => by have K := J.out w; rw [show El.chk (xs[k].1, xs[k].2.1, xs[k].2.2.1, xs[k].2.2.2) = 0 from hl] at K; exact K)
    clear hl
    by_cases hk0 : k = 0
    · have hk0' : decide ((0 : Int) < (k : Int)) = false := by simp; omega
      have hk1' : decide (0 < k) = false := by simp; omega
      have HL := Lib.hid (scan_ok hlt (by subst hk0; exact wrong_none HC0.out))
      clear hk0
      clear hc hs
      go_wp2_with fail
      refine (J.out _).mono ?_
      rintro e w1 ⟨rfl, hb1⟩
      have HB1 := Lib.hid ((HB.out.alloc hsz _).trans (hb1.mono (by simp; omega)))
      clear hb1
      go_wp2_with fail
      go_quiet (fail)
      go_wp2_with fail
      go_roundw
      case rel => exact ⟨k + 1, by omega, by go_num, HB1.out.trans ((below_drewN' _).mono HB1.out.size), HA.out.trans HL.out, fun y h => by cases (prev_succ hlt).symm.trans h; exact HC0.out⟩
      case measure => simp [intOf]; omega
    · obtain ⟨j, rfl⟩ : ∃ j, k = j + 1 := ⟨k - 1, by omega⟩
      clear hk0
      have hj : j < xs.length := by omega
      obtain ⟨p0, p1, p2, p3⟩ := hc j hj
      have hcj : El.chk xs[j] = 0 := HPV.out _ (prev_succ hj)
      have sj := (El.chk_of hcj).1
      have hwp : IntKind.i64.wrap (j : Int) = (j : Int) := by rw [IntKind.wrap_i64]; omega
      have hjb : (j : Int) < (xs.length : Int) := by omega
      have hkb : (j : Int) + 1 < (xs.length : Int) := by omega
      have hj1 : decide ((0 : Int) < (j : Int) + 1) = true := by rw [decide_eq_true_eq]; omega
      have JK := Lib.hid (fun w => eKey_any xs[j].1 xs[j].2.1 xs[j].2.2.1 xs[j].2.2.2 xs[j + 1].1 xs[j + 1].2.1 xs[j + 1].2.2.1 xs[j + 1].2.2.2 w sj sk)
      clear hc hs sj sk hcj
      by_cases ho : 0 ≤ Kl.ord (Kl.L xs[j].1) (Kl.L xs[j + 1].1)
      · have hw : wrong (prev xs (j + 1)) xs[j + 1] = 6 := by rw [prev_succ hj]; exact wrong_down HC0.out ho
        have HL := Lib.hid (by have h := scan_no (k := j + 1) hlt (by rw [hw]; decide); rw [hw] at h; exact h)
        clear hw
        have hd : decide (0 ≤ Kl.ord (Kl.L xs[j].1) (Kl.L xs[j + 1].1)) = true := by simpa using ho
        clear ho
        generalize Kl.ord (Kl.L xs[j].1) (Kl.L xs[j + 1].1) = r at *
        go_wp2_with fail
        refine (J.out _).mono ?_
        rintro e w1 ⟨rfl, hb1⟩
        have HB1 := Lib.hid ((HB.out.alloc hsz _).trans (hb1.mono (by simp; omega)))
        obtain ⟨x0, x1, x2, x3, hnx⟩ := (box1 _ _ _ _ _).out _ hb1
        have y0 := abv_cell hnx x0
        have y1 := abv_cell hnx x1
        have y2 := abv_cell hnx x2
        have y3 := abv_cell hnx x3
        have hbw : b < w1.heap.size := by omega
        have z0 := abv_cell hbw ((hb1.cell (p := ⟨b, _, none⟩) (by simp; omega)).trans ((cell_alloc_old hbl).trans p0))
        have z1 := abv_cell hbw ((hb1.cell (p := ⟨b, _, none⟩) (by simp; omega)).trans ((cell_alloc_old hbl).trans p1))
        have z2 := abv_cell hbw ((hb1.cell (p := ⟨b, _, none⟩) (by simp; omega)).trans ((cell_alloc_old hbl).trans p2))
        have z3 := abv_cell hbw ((hb1.cell (p := ⟨b, _, none⟩) (by simp; omega)).trans ((cell_alloc_old hbl).trans p3))
        clear x0 x1 x2 x3 p0 p1 p2 p3 g0 g1 g2 g3
        clear hb1
        go_wp2_with fail
        refine wp_region_abv (by first | assumption | kernel_rfl) (by kernel_rfl) ?_
        repeat (first | go_big_quiet_step (exact callAbv (JK.out _)) | quiet_step (exact callAbv (JK.out _)))
        refine wpQuiet_nil ?_
        intro w2 hw2
        obtain ⟨p, rfl⟩ := hw2
        go_wp2_with fail
        go_ret2
        exact ⟨retP (HAL.out.trans (HA.out.trans HL.out)) (by go_num) rfl, eb_of HB1.out p.h (Nat.le_refl _)⟩
      · have HL := Lib.hid (scan_ok (k := j + 1) hlt (by rw [prev_succ hj, wrong_up HC0.out ho]))
        have hd : decide (0 ≤ Kl.ord (Kl.L xs[j].1) (Kl.L xs[j + 1].1)) = false := by simpa using ho
        clear ho
        generalize Kl.ord (Kl.L xs[j].1) (Kl.L xs[j + 1].1) = r at *
        go_wp2_with fail
        refine (J.out _).mono ?_
        rintro e w1 ⟨rfl, hb1⟩
        have HB1 := Lib.hid ((HB.out.alloc hsz _).trans (hb1.mono (by simp; omega)))
        obtain ⟨x0, x1, x2, x3, hnx⟩ := (box1 _ _ _ _ _).out _ hb1
        have y0 := abv_cell hnx x0
        have y1 := abv_cell hnx x1
        have y2 := abv_cell hnx x2
        have y3 := abv_cell hnx x3
        have hbw : b < w1.heap.size := by omega
        have z0 := abv_cell hbw ((hb1.cell (p := ⟨b, _, none⟩) (by simp; omega)).trans ((cell_alloc_old hbl).trans p0))
        have z1 := abv_cell hbw ((hb1.cell (p := ⟨b, _, none⟩) (by simp; omega)).trans ((cell_alloc_old hbl).trans p1))
        have z2 := abv_cell hbw ((hb1.cell (p := ⟨b, _, none⟩) (by simp; omega)).trans ((cell_alloc_old hbl).trans p2))
        have z3 := abv_cell hbw ((hb1.cell (p := ⟨b, _, none⟩) (by simp; omega)).trans ((cell_alloc_old hbl).trans p3))
        clear x0 x1 x2 x3 p0 p1 p2 p3 g0 g1 g2 g3
        clear hb1
        go_wp2_with fail
        refine wp_region_abv (by first | assumption | kernel_rfl) (by kernel_rfl) ?_
        repeat (first | go_big_quiet_step (exact callAbv (JK.out _)) | quiet_step (exact callAbv (JK.out _)))
        refine wpQuiet_nil ?_
        intro w2 hw2
        obtain ⟨p, rfl⟩ := hw2
        go_wp2_with fail
        go_roundw
        case rel => exact ⟨j + 1 + 1, by omega, by go_num, eb_of HB1.out p.h (Nat.le_refl _), HA.out.trans HL.out, fun y h => by cases (prev_succ hlt).symm.trans h; exact HC0.out⟩
        case measure => simp [intOf]; omega

set_option maxHeartbeats 2000000 in
theorem fList_any (A : Option Addr) (c : Nat) (xs : List El.En) (w : World) (hf : EsAt w A xs) (hn : xs.length ≤ 4294967295) (hs : Sized xs) :
    Calls Try.prog 41 #[.slice A xs.length c] w fun e w' => e = .returned (.tuple #[.int .i64 (listE xs).1, .int .i64 (listE xs).2]) ∧ Below w.heap.size w w' := by
  by_cases h64 : 5000 < xs.length
  · go_enter Try.func41, Try.ntmps41
    go_wp2_with fail
    go_ret2
    exact ⟨by rw [listE, if_pos h64]; rfl, Below.refl _ _⟩
  have HAL : Hid (listE xs = scan 0 none xs) := Lib.hid (by rw [listE, if_neg h64])
  go_enter Try.func41, Try.ntmps41
  go_wp2_with fail
  go_loopw [4] (fun i wr => ∃ k : Nat, k ≤ xs.length ∧ i = .int .i64 k ∧ Below w.heap.size w wr ∧ scan 0 none xs = scan k (prev xs k) (xs.drop k) ∧ (∀ y, prev xs k = some y → El.chk y = 0)) (fun i _ => xs.length - (intOf i).toNat)
  case atStart => exact ⟨0, Nat.zero_le _, rfl, Below.refl _ _, rfl, fun y h => by cases h⟩
  case round =>
    obtain ⟨k, hk, rfl, hb, ha, hpv⟩ := hrel
    have HPV := Lib.hid hpv
    clear hpv
    have hsz := hb.size
    have HA := Lib.hid ha
    have HB := Lib.hid hb
    have hf' := hf.below hb (Nat.le_refl _)
    clear ha hb hf
    by_cases hlt : k < xs.length
    rotate_left
    · go_wp2_with fail
      go_ret2
      exact ⟨by rw [HAL.out, HA.out, scan_end hlt]; rfl, HB.out⟩
    have HF := Lib.hid hf'
    rcases hf' with h0 | ⟨b, off, rfl, hbl, hc⟩
    · subst h0; simp at hlt
    obtain ⟨g0, g1, g2, g3⟩ := hc k hlt
    have J := Lib.hid (fun w => fCheck_any xs[k].1 xs[k].2.1 xs[k].2.2.1 xs[k].2.2.2 w (hs.at hlt).1 (hs.at hlt).2)
    by_cases hl : El.chk xs[k] = 0
    rotate_left
    · have HL := Lib.hid (scan_no hlt (by rw [wrong_chk hl]; exact hl))
      rw [wrong_chk hl] at HL
      obtain ⟨b1, b2⟩ := ne_b hl
      have J := Lib.hid (fun w => by have K := J.out w; rw [show El.chk (xs[k].1, xs[k].2.1, xs[k].2.2.1, xs[k].2.2.2) = El.chk xs[k] from rfl] at K; exact K)
      clear hl hc hs
      generalize El.chk xs[k] = r at *
      go_wp2_with fail
      refine (J.out _).mono ?_
      rintro e w1 ⟨rfl, hb1⟩
      have HB1 := Lib.hid ((HB.out).trans (hb1.mono hsz))
      clear hb1
      go_wp2_with fail
      go_quiet (fail)
      go_wp2_with fail
      go_ret2
      exact ⟨retP (HAL.out.trans (HA.out.trans HL.out)) rfl rfl, HB1.out.trans ((below_drewN' _).mono HB1.out.size)⟩
    have HC0 := Lib.hid hl
    have sk := (El.chk_of hl).1
    have J := Lib.hid (fun w => by have K := J.out w; rw [show El.chk (xs[k].1, xs[k].2.1, xs[k].2.2.1, xs[k].2.2.2) = 0 from hl] at K; exact K)
    clear hl
    by_cases hk0 : k = 0
    · have hk0' : decide ((0 : Int) < (k : Int)) = false := by simp; omega
      have hk1' : decide (0 < k) = false := by simp; omega
      have HL := Lib.hid (scan_ok hlt (by subst hk0; exact wrong_none HC0.out))
      clear hk0
      clear hc hs
      go_wp2_with fail
      refine (J.out _).mono ?_
      rintro e w1 ⟨rfl, hb1⟩
      have HB1 := Lib.hid ((HB.out).trans (hb1.mono hsz))
      clear hb1
      go_wp2_with fail
      go_quiet (fail)
      go_wp2_with fail
      go_roundw
      case rel => exact ⟨k + 1, by omega, by go_num, HB1.out.trans ((below_drewN' _).mono HB1.out.size), HA.out.trans HL.out, fun y h => by cases (prev_succ hlt).symm.trans h; exact HC0.out⟩
      case measure => simp [intOf]; omega
    · obtain ⟨j, rfl⟩ : ∃ j, k = j + 1 := ⟨k - 1, by omega⟩
      clear hk0
      have hj : j < xs.length := by omega
      obtain ⟨p0, p1, p2, p3⟩ := hc j hj
      have hcj : El.chk xs[j] = 0 := HPV.out _ (prev_succ hj)
      have sj := (El.chk_of hcj).1
      have hwp : IntKind.i64.wrap (j : Int) = (j : Int) := by rw [IntKind.wrap_i64]; omega
      have hjb : (j : Int) < (xs.length : Int) := by omega
      have hkb : (j : Int) + 1 < (xs.length : Int) := by omega
      have hj1 : decide ((0 : Int) < (j : Int) + 1) = true := by rw [decide_eq_true_eq]; omega
      have JK := Lib.hid (fun w => Order_any xs[j].1 xs[j + 1].1 w (by omega) (by omega))
      clear hc hs sj sk hcj
      by_cases ho : 0 ≤ Kl.ord (Kl.L xs[j].1) (Kl.L xs[j + 1].1)
      · have hw : wrong (prev xs (j + 1)) xs[j + 1] = 6 := by rw [prev_succ hj]; exact wrong_down HC0.out ho
        have HL := Lib.hid (by have h := scan_no (k := j + 1) hlt (by rw [hw]; decide); rw [hw] at h; exact h)
        clear hw
        have hd : decide (0 ≤ Kl.ord (Kl.L xs[j].1) (Kl.L xs[j + 1].1)) = true := by simpa using ho
        clear ho
        generalize Kl.ord (Kl.L xs[j].1) (Kl.L xs[j + 1].1) = r at *
        go_wp2_with fail
        refine (J.out _).mono ?_
        rintro e w1 ⟨rfl, hb1⟩
        have HB1 := Lib.hid ((HB.out).trans (hb1.mono hsz))
        have hbw : b < w1.heap.size := Nat.lt_of_lt_of_le hbl hb1.size
        have z0 := abv_cell hbw ((hb1.cell (p := ⟨b, _, none⟩) hbl).trans p0)
        have y0 := abv_cell hbw ((hb1.cell (p := ⟨b, _, none⟩) hbl).trans g0)
        clear p0 p1 p2 p3 g0 g1 g2 g3
        clear hb1
        go_wp2_with fail
        refine wp_region_abv (by first | assumption | kernel_rfl) (by kernel_rfl) ?_
        repeat (first | go_big_quiet_step (exact callAbv (JK.out _)) | quiet_step (exact callAbv (JK.out _)))
        refine wpQuiet_nil ?_
        intro w2 hw2
        obtain ⟨p, rfl⟩ := hw2
        go_wp2_with fail
        go_ret2
        exact ⟨retP (HAL.out.trans (HA.out.trans HL.out)) (by go_num) rfl, eb_of HB1.out p.h (Nat.le_refl _)⟩
      · have HL := Lib.hid (scan_ok (k := j + 1) hlt (by rw [prev_succ hj, wrong_up HC0.out ho]))
        have hd : decide (0 ≤ Kl.ord (Kl.L xs[j].1) (Kl.L xs[j + 1].1)) = false := by simpa using ho
        clear ho
        generalize Kl.ord (Kl.L xs[j].1) (Kl.L xs[j + 1].1) = r at *
        go_wp2_with fail
        refine (J.out _).mono ?_
        rintro e w1 ⟨rfl, hb1⟩
        have HB1 := Lib.hid ((HB.out).trans (hb1.mono hsz))
        have hbw : b < w1.heap.size := Nat.lt_of_lt_of_le hbl hb1.size
        have z0 := abv_cell hbw ((hb1.cell (p := ⟨b, _, none⟩) hbl).trans p0)
        have y0 := abv_cell hbw ((hb1.cell (p := ⟨b, _, none⟩) hbl).trans g0)
        clear p0 p1 p2 p3 g0 g1 g2 g3
        clear hb1
        go_wp2_with fail
        refine wp_region_abv (by first | assumption | kernel_rfl) (by kernel_rfl) ?_
        repeat (first | go_big_quiet_step (exact callAbv (JK.out _)) | quiet_step (exact callAbv (JK.out _)))
        refine wpQuiet_nil ?_
        intro w2 hw2
        obtain ⟨p, rfl⟩ := hw2
        go_wp2_with fail
        go_roundw
        case rel => exact ⟨j + 1 + 1, by omega, by go_num, eb_of HB1.out p.h (Nat.le_refl _), HA.out.trans HL.out, fun y h => by cases (prev_succ hlt).symm.trans h; exact HC0.out⟩
        case measure => simp [intOf]; omega
end Go.Proofs.Ytebjhjmlpodkgaa.KK

/-
  Contracts of the laws' own large, far; of the reference's Same.
-/
namespace Go.Proofs.Ytebjhjmlpodkgaa.KK
open Go.ChangeShapes Go.WideShapes Go.ChangeAt Go.RowKit Go.Proofs

def largeE (x : El.En) : Bool := decide (100 < x.1.size) || decide (100 < x.2.1.size)
def farE (xs : List El.En) : Bool := if 60 < xs.length then (decide (xs.length ≤ 5000) || decide (5010 < xs.length)) else xs.any largeE
theorem any_at {xs : List El.En} {k : Nat} (h : k < xs.length) {p : El.En → Bool} (hp : p xs[k] = true) : xs.any p = true := List.any_eq_true.2 ⟨xs[k], List.getElem_mem h, hp⟩
theorem any_next {xs : List El.En} {k : Nat} (h : k < xs.length) {p : El.En → Bool} (h1 : (xs.take k).any p = false) (h2 : p xs[k] = false) : (xs.take (k + 1)).any p = false := by
  rw [List.take_succ_eq_append_getElem h, List.any_append, h1]; simp [h2]
theorem str_beq_ne {a b : ByteArray} (h : a ≠ b) : (a.toList == b.toList) = false := by rw [beq_eq_false_iff_ne]; exact str_ne h
end Go.Proofs.Ytebjhjmlpodkgaa.KK

/-
  slices.Clone over entries, and the stable sort of fewer than 20.
-/
namespace Go.Proofs.Ytebjhjmlpodkgaa.KK
open Go.ChangeShapes Go.WideShapes Go.ChangeAt Go.RowKit Go.Proofs

theorem add_at' (b off j : Nat) : (⟨b, off, none⟩ : Addr).add j = ⟨b, off + j, none⟩ := by unfold Addr.add; split <;> simp_all
theorem infoE : (Try.prog.info? 45).map (fun i => (i.zero, i.size, i.bytes)) = some (some (.agg #[.string ⟨#[]⟩, .string ⟨#[]⟩, .bool false, .int .i64 0]), 4, 48) := by kernel_rfl
def cellsE (xs : List El.En) : List Value := xs.flatMap fun x => [.string x.1, .string x.2.1, .bool x.2.2.1, .int .i64 x.2.2.2]
theorem cellsE_snoc (xs : List El.En) (x : El.En) : cellsE (xs ++ [x]) = cellsE xs ++ [.string x.1, .string x.2.1, .bool x.2.2.1, .int .i64 x.2.2.2] := by simp [cellsE]
theorem cellsE_app (xs ys : List El.En) : cellsE (xs ++ ys) = cellsE xs ++ cellsE ys := by simp [cellsE]
theorem cellsE_len (xs : List El.En) : (cellsE xs).length = xs.length * 4 := by
  induction xs with
  | nil => rfl
  | cons f fs ih => simp only [cellsE, List.flatMap_cons, List.length_append, List.length_cons, List.length_nil] at ih ⊢; omega
theorem cellsE_one (xs : List El.En) : ∀ u ∈ cellsE xs, u.oneCell' = true := by
  intro u hu
  simp only [cellsE, List.mem_flatMap] at hu
  obtain ⟨x, _, hx⟩ := hu
  simp only [List.mem_cons, List.not_mem_nil, or_false] at hx
  rcases hx with rfl | rfl | rfl | rfl <;> rfl
theorem cellsE_get : ∀ (xs : List El.En) (i c : Nat) (h : i < xs.length) (_ : c < 4), (cellsE xs)[i * 4 + c]? = [Value.string xs[i].1, .string xs[i].2.1, .bool xs[i].2.2.1, .int .i64 xs[i].2.2.2][c]?
  | x :: xs, 0, c, _, hc => by
    rw [cellsE, List.flatMap_cons, List.getElem?_append_left (by simp; omega)]; simp
  | x :: xs, i + 1, c, h, hc => by
    have := cellsE_get xs i c (by simpa using h) hc
    have e : ∀ j, (cellsE (x :: xs))[j + 4]? = (cellsE xs)[j]? := fun j => by simp [cellsE]
    rw [show (i + 1) * 4 + c = (i * 4 + c) + 4 by omega, e, this]
    rfl
theorem EsAt.cells {w : World} {A : Option Addr} {xs : List El.En} (h : EsAt w A xs) (hne : xs ≠ []) : ∃ b off, A = some ⟨b, off, none⟩ ∧ b < w.heap.size ∧ ∀ j u, (cellsE xs)[j]? = some u → w.cell? ⟨b, off + j, none⟩ = some u := by
  rcases h with h | ⟨b, off, hA, hb, hc⟩
  · exact absurd h hne
  · refine ⟨b, off, hA, hb, fun j u hj => ?_⟩
    have hl : j < xs.length * 4 := by rw [← cellsE_len]; exact (List.getElem?_eq_some_iff.1 hj).1
    have e : j = j / 4 * 4 + j % 4 := by omega
    have hi : j / 4 < xs.length := by omega
    have hm : j % 4 < 4 := by omega
    rw [e, cellsE_get xs _ _ hi hm] at hj
    obtain ⟨c0, c1, c2, c3⟩ := hc _ hi
    rw [e, ← Nat.add_assoc]
    generalize j % 4 = m at *
    match m, hm with
    | 0, _ => simp at hj; rw [← hj]; exact c0
    | 1, _ => simp at hj; rw [← hj]; exact c1
    | 2, _ => simp at hj; rw [← hj]; exact c2
    | 3, _ => simp at hj; rw [← hj]; exact c3
end Go.Proofs.Ytebjhjmlpodkgaa.KK

/-
  Live, on both sides: the entries of a list that are no tombstones.
-/
namespace Go.Proofs.Ytebjhjmlpodkgaa.KK
open Go.ChangeShapes Go.WideShapes Go.ChangeAt Go.RowKit Go.Proofs

theorem new4 (w : World) (x : El.En) : ∀ (j : Nat) (u : Value), ([.string x.1, .string x.2.1, .bool x.2.2.1, .int .i64 x.2.2.2] : List Value)[j]? = some u → (w.alloc (.cells #[.string x.1, .string x.2.1, .bool x.2.2.1, .int .i64 x.2.2.2] 45)).cell? ((⟨w.heap.size, 0, none⟩ : Addr).add j) = some u :=
  World.news_of_block (cs := #[.string x.1, .string x.2.1, .bool x.2.2.1, .int .i64 x.2.2.2]) (t := 45) (fr := (0, 0)) (heap_alloc_new w _)
theorem own_snoc {w : World} {base n : Nat} {v : Value} {ys : List El.En} {x : El.En} (h : w.ownsRow base 45 4 v (n + 1) (cellsE ys ++ [.string x.1, .string x.2.1, .bool x.2.2.1, .int .i64 x.2.2.2])) : w.ownsRow base 45 4 v (n + 1) (cellsE (ys ++ [x])) := by
  rw [cellsE_snoc]; exact h
theorem EsAt.of_own {w : World} {base n : Nat} {A : Option Addr} {c : Nat} {ys : List El.En} (h : w.ownsRow base 45 4 (.slice A n c) n (cellsE ys)) : EsAt w A ys := by
  have hn : n = ys.length := by have := h.1; rw [cellsE_len] at this; omega
  by_cases h0 : ys = []
  · exact .inl h0
  · have hpos : 0 < ys.length := List.length_pos_iff.2 h0
    have hform : ∃ g cap, Value.slice A n c = .slice (some ⟨g, 0, none⟩) n cap ∧ g < w.heap.size := by
      rcases h.2 with ⟨_, h1⟩ | ⟨g, cap, cur, hv, _, hh, _⟩
      · omega
      · exact ⟨g, cap, hv, (Array.getElem?_eq_some_iff.1 hh).1⟩
    obtain ⟨g, cap, hv, hlt⟩ := hform
    have hA : A = some ⟨g, 0, none⟩ := by injection hv
    refine .inr ⟨g, 0, hA, hlt, fun i hi => ?_⟩
    have hcell := h.cells (g := g) (by rw [hv]; rfl)
    have hc := fun c (hc : c < 4) => cellsE_get ys i c hi hc
    have b0 := hcell _ _ ((hc 0 (by omega)).trans rfl)
    have b1 := hcell _ _ ((hc 1 (by omega)).trans rfl)
    have b2 := hcell _ _ ((hc 2 (by omega)).trans rfl)
    have b3 := hcell _ _ ((hc 3 (by omega)).trans rfl)
    rw [add_at'] at b0 b1 b2 b3
    exact ⟨b0, by rw [Nat.add_assoc]; exact b1, by rw [Nat.add_assoc]; exact b2, by rw [Nat.add_assoc]; exact b3⟩
/-- what is no tombstone -/
def aliveE (xs : List El.En) : List El.En := xs.filter fun x => !x.2.2.1
def liveE (xs : List El.En) : List El.En := if (listE xs).2 = 0 then aliveE xs else []
theorem alive_next {xs : List El.En} {k : Nat} (h : k < xs.length) : aliveE (xs.take (k + 1)) = if xs[k].2.2.1 = true then aliveE (xs.take k) else aliveE (xs.take k) ++ [xs[k]] := by
  unfold aliveE
  rw [List.take_succ_eq_append_getElem h, List.filter_append]
  cases hd : xs[k].2.2.1 <;> simp [hd]
theorem alive_le (xs : List El.En) (k : Nat) : (aliveE (xs.take k)).length ≤ k := by
  unfold aliveE
  exact Nat.le_trans (List.length_filter_le _ _) (by rw [List.length_take]; omega)

end Go.Proofs.Ytebjhjmlpodkgaa.KK

/-
  Find, on both sides.
-/
namespace Go.Proofs.Ytebjhjmlpodkgaa.KK
open Go.ChangeShapes Go.WideShapes Go.ChangeAt Go.RowKit Go.Proofs

/-- the index of a key; -1: there is none -/
def atE (key : ByteArray) : Nat → List El.En → Int
  | _, [] => -1
  | i, x :: t => if x.1 = key then (i : Int) else atE key (i + 1) t
theorem atE_yes {key : ByteArray} {xs : List El.En} {k : Nat} (h : k < xs.length) (g : xs[k].1 = key) : atE key k (xs.drop k) = k := by
  rw [List.drop_eq_getElem_cons h]; exact if_pos g
theorem atE_no {key : ByteArray} {xs : List El.En} {k : Nat} (h : k < xs.length) (g : xs[k].1 ≠ key) : atE key k (xs.drop k) = atE key (k + 1) (xs.drop (k + 1)) := by
  rw [List.drop_eq_getElem_cons h]; exact if_neg g
theorem atE_end {key : ByteArray} {xs : List El.En} {k : Nat} (h : ¬ k < xs.length) : atE key k (xs.drop k) = -1 := by
  rw [List.drop_eq_nil_of_le (by omega)]; rfl
theorem str_beq_eq {a b : ByteArray} (h : a = b) : (a.toList == b.toList) = true := by rw [h]; simp
/-- what Find answers -/
def findE (xs : List El.En) (key : ByteArray) : Int × Int :=
  if (listE xs).2 ≠ 0 then (0, (listE xs).2) else if 32 < key.size then (0, 3) else if atE key 0 xs < 0 then (0, 4) else (atE key 0 xs, 0)
theorem findE_list {xs : List El.En} {key : ByteArray} (h : (listE xs).2 ≠ 0) : findE xs key = (0, (listE xs).2) := if_pos h
theorem findE_long {xs : List El.En} {key : ByteArray} (h : (listE xs).2 = 0) (g : ¬ key.size ≤ 32) : findE xs key = (0, 3) := by
  unfold findE; rw [if_neg (by rw [h]; simp), if_pos (by omega)]
theorem findE_none {xs : List El.En} {key : ByteArray} (h : (listE xs).2 = 0) (g : key.size ≤ 32) (l : atE key 0 xs < 0) : findE xs key = (0, 4) := by
  unfold findE; rw [if_neg (by rw [h]; simp), if_neg (by omega), if_pos l]
theorem findE_some {xs : List El.En} {key : ByteArray} (h : (listE xs).2 = 0) (g : key.size ≤ 32) (l : ¬ atE key 0 xs < 0) : findE xs key = (atE key 0 xs, 0) := by
  unfold findE; rw [if_neg (by rw [h]; simp), if_neg (by omega), if_neg l]
end Go.Proofs.Ytebjhjmlpodkgaa.KK

/-
  Contracts of ranges: CheckRange, has, In, Empty, on both sides.
-/
namespace Go.Proofs.Ytebjhjmlpodkgaa.KK
open Go.ChangeShapes Go.WideShapes Go.ChangeAt Go.RowKit Go.Proofs

theorem bytesLess_lt : ∀ a b : List UInt8, Op.bytesLess a b = Kl.lt a b
  | _, [] => by simp [Op.bytesLess, Kl.lt]
  | [], _ :: _ => by simp [Op.bytesLess, Kl.lt]
  | x :: a, y :: b => by
    unfold Op.bytesLess Kl.lt
    rw [bytesLess_lt a b]
    by_cases h : x = y
    · subst h; simp
    · have h1 : (x == y) = false := by simpa using h
      rw [h1, if_neg h, Bool.false_and, Bool.or_false]
      exact decide_eq_decide.2 UInt8.lt_iff_toNat_lt
theorem toList_L (s : ByteArray) : s.toList = Kl.L s := by rw [Lib.toList_data]; rfl

/-- the error of a range -/
def chkR (lo hi : ByteArray) (b : Bool) : Int := if ¬ (lo.size ≤ 32 ∧ hi.size ≤ 32) then 3 else if b = false ∧ hi.size ≠ 0 then 6 else 0
def hasB (lo hi : ByteArray) (b : Bool) (k : ByteArray) : Bool := !Kl.lt (Kl.L k) (Kl.L lo) && (!b || Kl.lt (Kl.L k) (Kl.L hi))
end Go.Proofs.Ytebjhjmlpodkgaa.KK

/-
  Contracts of In and Empty, on both sides.
-/
namespace Go.Proofs.Ytebjhjmlpodkgaa.KK
open Go.ChangeShapes Go.WideShapes Go.ChangeAt Go.RowKit Go.Proofs

def inE (lo hi : ByteArray) (b : Bool) (k : ByteArray) : Int := if chkR lo hi b ≠ 0 then chkR lo hi b else chk1 k.size
def inV (lo hi : ByteArray) (b : Bool) (k : ByteArray) : Bool := decide (inE lo hi b k = 0) && hasB lo hi b k
def emptyV (lo hi : ByteArray) (b : Bool) : Bool := decide (chkR lo hi b = 0) && (b && !Kl.lt (Kl.L lo) (Kl.L hi))
theorem emptyV_has {lo hi : ByteArray} {b : Bool} (h : chkR lo hi b = 0) : emptyV lo hi b = !hasB lo hi b lo := by
  unfold emptyV hasB
  rw [decide_eq_true h, Kl.lt_irrefl]
  cases b <;> simp
theorem chkR_ne {lo hi : ByteArray} {b : Bool} (h : ¬ chkR lo hi b = 0) : chkR lo hi b = 3 ∨ chkR lo hi b = 6 := by
  unfold chkR at h ⊢
  split
  · exact .inl rfl
  · split
    · exact .inr rfl
    · rename_i h1 h2; rw [if_neg h1, if_neg h2] at h; exact absurd rfl h
theorem cells3 {w w1 : World} {o : Obj} (hb : Below (w.alloc o).heap.size (w.alloc o) w1) : (∀ i, w1.cell? ⟨w.heap.size, i, none⟩ = (w.alloc o).cell? ⟨w.heap.size, i, none⟩) :=
  fun i => hb.cell (p := ⟨w.heap.size, i, none⟩) (by simp)

end Go.Proofs.Ytebjhjmlpodkgaa.KK
