/-
  Trees of losers: the chooser, and a climb.
-/
import Derived.Test.YtebjhjmlpodkgaaLb
import Derived.Laws.EntriesVeiled
namespace Go.Proofs.Ytebjhjmlpodkgaa.KK
open Go.ChangeShapes Go.WideShapes Go.ChangeAt Go.RowKit Go.Proofs

/-- a row of three cells -/
def Row3 (W : World) (B : Nat) (t : TypeId) (v0 v1 v2 : Value) : Prop := W.heap[B]? = some (.cells #[v0, v1, v2] t (0, 0))
section
variable {W W' : World} {B : Nat} {t : TypeId} {v0 v1 v2 : Value}
theorem Row3.lt (h : Row3 W B t v0 v1 v2) : B < W.heap.size := (Array.getElem?_eq_some_iff.1 h).1
theorem Row3.c0 (h : Row3 W B t v0 v1 v2) : W.cell? ⟨B, 0, none⟩ = some v0 := by unfold Row3 at h; simp [World.cell?, h]
theorem Row3.c1 (h : Row3 W B t v0 v1 v2) : W.cell? ⟨B, 1, none⟩ = some v1 := by unfold Row3 at h; simp [World.cell?, h]
theorem Row3.c2 (h : Row3 W B t v0 v1 v2) : W.cell? ⟨B, 2, none⟩ = some v2 := by unfold Row3 at h; simp [World.cell?, h]
theorem Row3.fz (h : Row3 W B t v0 v1 v2) (i : Nat) : W.frozen? ⟨B, i, none⟩ = false := by unfold Row3 at h; simp [World.frozen?, h]
theorem Row3.set2 (h : Row3 W B t v0 v1 v2) (u : Value) : Row3 (W.setCell ⟨B, 2, none⟩ u) B t v0 v1 u := by
  unfold Row3 at h ⊢; simp [World.setCell, Array.getElem?_modify, h]
theorem Row3.set (h : Row3 W B t v0 v1 v2) (u0 u1 u2 : Value) : Row3 (((W.setCell ⟨B, 0, none⟩ u0).setCell ⟨B, 1, none⟩ u1).setCell ⟨B, 2, none⟩ u2) B t u0 u1 u2 := by
  unfold Row3 at h ⊢; simp [World.setCell, Array.getElem?_modify, h]
theorem Row3.below {n : Nat} (h : Row3 W B t v0 v1 v2) (hb : Below n W W') (hn : W.heap.size ≤ n) : Row3 W' B t v0 v1 v2 := (hb.block B (Nat.lt_of_lt_of_le h.lt hn)).trans h
theorem Row3.chg {S : Nat → Prop} (h : Row3 W B t v0 v1 v2) (hg : Chg S W W') (hn : ¬ S B) : Row3 W' B t v0 v1 v2 := (hg.block B h.lt hn).trans h
end

/-- does a player win against another one? -/
def wn (ks : List LK) (p q : Nat) : Bool := decide (cf ks p q < 0)
theorem order_any (A : Option Addr) (n c : Nat) (w : World) : Calls Try.prog 117 #[.slice A n c] w fun e w' =>
    e = .returned (.func (.func 120) #[] #[.pointer (some ⟨w.heap.size, 0, none⟩)]) ∧ w' = w.alloc (.cells #[.slice A n c] 26) := by
  go_enter Try.func117, Try.ntmps117
  go_wp2_with fail
  go_ret
  exact ⟨rfl, rfl⟩
theorem chooser_any (A : Option Addr) (n c : Nat) (w : World) : Calls Try.prog 113 #[.slice A n c] w fun e w' =>
    e = .returned (.func (.func 118) #[] #[.pointer (some ⟨w.heap.size + 1, 0, none⟩)]) ∧
      w' = (w.alloc (.cells #[.slice A n c] 26)).alloc (.cells #[.func (.func 120) #[] #[.pointer (some ⟨w.heap.size, 0, none⟩)]] 165) := by
  have J := Lib.hid (fun w => order_any A n c w)
  go_enter Try.func113, Try.ntmps113
  go_wp2_with fail
  refine (J.out _).mono ?_
  rintro e w1 ⟨rfl, rfl⟩
  go_wp2_with fail
  go_ret
  first | exact ⟨rfl, rfl⟩ | (simp; done) | skip
theorem choose_any (cb kb : Nat) (A : Option Addr) (c : Nat) (ks : List LK) (p q : Nat) (hp : p < ks.length) (hq : q < ks.length) (w : World)
    (hcb : w.cell? ⟨cb, 0, none⟩ = some (.func (.func 120) #[] #[.pointer (some ⟨kb, 0, none⟩)]))
    (hk : w.cell? ⟨kb, 0, none⟩ = some (.slice A ks.length c)) (hf : KsAt w A ks) (hn : ks.length ≤ 4294967295) :
    Calls Try.prog 118 #[.int .i64 p, .int .i64 q, .pointer (some ⟨cb, 0, none⟩)] w fun e w' =>
      e = .returned (.tuple #[.int .i64 ((if wn ks p q then p else q : Nat) : Int), .int .i64 ((if wn ks p q then q else p : Nat) : Int)]) ∧ Below w.heap.size w w' := by
  have J := Lib.hid (order1_any kb A c ks p q hp hq w hk hf hn)
  by_cases h : cf ks p q < 0
  · have HW : Hid (wn ks p q = true) := Lib.hid (by unfold wn; simp [h])
    rw [HW.out]
    generalize cf ks p q = r at *
    clear hk hf
    go_enter Try.func118, Try.ntmps118
    go_wp2_with fail
    refine J.out.mono ?_
    rintro e w1 ⟨rfl, n, os, hw⟩
    have HB := Lib.hid (show Below w.heap.size w w1 from hw ▸ grow_below w n os)
    clear hw
    go_wp2_with fail
    go_ret2
    exact ⟨rfl, HB.out⟩
  · have HW : Hid (wn ks p q = false) := Lib.hid (by unfold wn; simp; omega)
    rw [HW.out]
    generalize cf ks p q = r at *
    clear hk hf
    go_enter Try.func118, Try.ntmps118
    go_wp2_with fail
    refine J.out.mono ?_
    rintro e w1 ⟨rfl, n, os, hw⟩
    have HB := Lib.hid (show Below w.heap.size w w1 from hw ▸ grow_below w n os)
    clear hw
    go_wp2_with fail
    go_ret2
    exact ⟨rfl, HB.out⟩
end Go.Proofs.Ytebjhjmlpodkgaa.KK
