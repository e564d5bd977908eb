/-
  Shadow: next and Step of the program, both sides of their answers.
-/
import Derived.Test.YtlobkbhghpknmaaSb
import Derived.Deep.RegionHeld3
import Derived.Deep.RegionLaw
namespace Go.Proofs.Ytlobkbhghpknmaa.KK
open Go.ChangeShapes Go.WideShapes Go.ChangeAt Go.RowKit Go.Proofs

/-- what a region that draws keeps: all below the result's block, and that block's row -/
def KpS (B : Nat) (T : TypeId) (w w' : World) : Prop := Below B w w' ∧ ∃ v0 v1 v2, Row3 w' B T v0 v1 v2
theorem KpS.call {B : Nat} {T : TypeId} {w W w' : World} (h : KpS B T w W) (hb : Below W.heap.size W w') (hB : B ≤ w.heap.size) : KpS B T w w' := by
  obtain ⟨h1, v0, v1, v2, h2⟩ := h
  exact ⟨eb_of h1 hb hB, v0, v1, v2, h2.below hb (Nat.le_refl _)⟩
theorem KpS.set {B : Nat} {T : TypeId} {w w' : World} (h : KpS B T w w') (x y z : Value) : KpS B T w (((w'.setCell ⟨B, 0, none⟩ x).setCell ⟨B, 1, none⟩ y).setCell ⟨B, 2, none⟩ z) := by
  obtain ⟨h1, v0, v1, v2, h2⟩ := h
  exact ⟨set3s h1 (Nat.le_refl _) x y z, x, y, z, h2.set x y z⟩
set_option maxRecDepth 100000 in
set_option maxHeartbeats 2000000 in
theorem next_no (s : Bool) (l : ByteArray) (b : Bool) (k v : ByteArray) (d : Bool) (q : Int) (w : World) (hl : l.size ≤ 9223372036854775807) (hk : k.size ≤ 9223372036854775807) (hv : v.size ≤ 9223372036854775807) (h : stepE (s, l, b) (k, v, d, q) ≠ 0) :
    Calls Try.prog 26 #[.agg #[.bool s, .string l, .bool b], .agg #[.string k, .string v, .bool d, .int .i64 q]] w fun e w' => e = .returned (.tuple #[.nilIface, .agg #[.bool false, .string ⟨#[]⟩, .bool false], .int .i64 (stepE (s, l, b) (k, v, d, q))]) ∧ Below w.heap.size w w' := by
  have HA := rows_se s l b k v d q w _ rfl
  have J1 := Lib.hid (fun w => checkNext_any s l b k v d q w hl hk hv)
  obtain ⟨b1, b2⟩ := ne_b h
  clear h
  generalize stepE (s, l, b) (k, v, d, q) = r at *
  go_enter Try.func26, Try.ntmps26
  go_wp2_with fail
  refine (J1.out _).mono ?_
  rintro e w1 ⟨rfl, hb⟩
  obtain ⟨r0, r1, r2, hB⟩ := HA.out _ hb
  have HB := Lib.hid hB
  have hz := hb.size
  have a0 := r0.c0; have a1 := r0.c1; have a2 := r0.c2
  have b0 := r1.c0; have b1' := r1.c1; have b2' := r1.c2; have b3 := r1.c3
  have c0 := r2.c0; have c1 := r2.c1; have c2 := r2.c2
  have f0 := r2.fz 0; have f1 := r2.fz 1; have f2 := r2.fz 2
  simp only [World.size_alloc] at hz
  clear hB hb
  go_wp2_with fail
  exact bodyPost_ret (v := .tuple #[.nilIface, .agg #[.bool false, .string ⟨#[]⟩, .bool false], .int .i64 r]) (by simp [results, Try.results26, go_sem, c0, c1, c2]) rfl ⟨rfl, by first | exact HB.out | exact set3s HB.out (by omega) _ _ _⟩
set_option maxRecDepth 100000 in
set_option maxHeartbeats 2000000 in
theorem next_ok (s : Bool) (l : ByteArray) (b : Bool) (k v : ByteArray) (d : Bool) (q : Int) (w : World) (hl : l.size ≤ 9223372036854775807) (hk : k.size ≤ 9223372036854775807) (hv : v.size ≤ 9223372036854775807) (h : stepE (s, l, b) (k, v, d, q) = 0) :
    Calls Try.prog 26 #[.agg #[.bool s, .string l, .bool b], .agg #[.string k, .string v, .bool d, .int .i64 q]] w fun e w' => e = .returned (.tuple #[.iface (fateS (s, l, b) (k, v, d, q)).ty (.agg #[.string k, .string v, .bool d, .int .i64 q]), .agg #[.bool true, .string k, .bool b], .int .i64 0]) ∧ Below w.heap.size w w' := by
  have HA := rows_se s l b k v d q w _ rfl
  have J1 := Lib.hid (fun w => checkNext_any s l b k v d q w hl hk hv)
  have J2 := Lib.hid (fun w => fateOf_any s l b k v d q w)
  rw [h] at J1
  clear h
  generalize (fateS (s, l, b) (k, v, d, q)).ty = ft at *
  go_enter Try.func26, Try.ntmps26
  go_wp2_with fail
  refine (J1.out _).mono ?_
  rintro e w1 ⟨rfl, hb⟩
  obtain ⟨r0, r1, r2, hB⟩ := HA.out _ hb
  have HB := Lib.hid hB
  have hz := hb.size
  have a0 := r0.c0; have a1 := r0.c1; have a2 := r0.c2
  have b0 := r1.c0; have b1' := r1.c1; have b2' := r1.c2; have b3 := r1.c3
  have c0 := r2.c0; have c1 := r2.c1; have c2 := r2.c2
  have f0 := r2.fz 0; have f1 := r2.fz 1; have f2 := r2.fz 2
  simp only [World.size_alloc] at hz
  clear hB hb
  go_wp2_with fail
  have HD : Hid (KpS (w.heap.size + 1 + 1) 23 w1 w1.drew) := Lib.hid ⟨(Below.refl _ _).drew, _, _, _, r2⟩
  have HK : Hid (∀ w', KpS (w.heap.size + 1 + 1) 23 w1 w' → (w'.cell? ⟨w.heap.size, 0, none⟩ = some (.bool s) ∧ w'.cell? ⟨w.heap.size, 1, none⟩ = some (.string l) ∧ w'.cell? ⟨w.heap.size, 2, none⟩ = some (.bool b) ∧ w'.cell? ⟨w.heap.size + 1, 0, none⟩ = some (.string k) ∧ w'.cell? ⟨w.heap.size + 1, 1, none⟩ = some (.string v) ∧ w'.cell? ⟨w.heap.size + 1, 2, none⟩ = some (.bool d) ∧ w'.cell? ⟨w.heap.size + 1, 3, none⟩ = some (.int .i64 q)) ∧ KpS (w.heap.size + 1 + 1) 23 w1 w') := Lib.hid fun w' h => by
    have q0 : Row3 w' w.heap.size 23 (.bool s) (.string l) (.bool b) := (h.1.block _ (by omega)).trans r0
    have q1 : Row4 w' (w.heap.size + 1) 25 (.string k) (.string v) (.bool d) (.int .i64 q) := (h.1.block _ (by omega)).trans r1
    exact ⟨⟨q0.c0, q0.c1, q0.c2, q1.c0, q1.c1, q1.c2, q1.c3⟩, h⟩
  have hz2 : w.heap.size + 1 + 1 ≤ w1.heap.size := by omega
  clear r0 r1 r2 a0 a1 a2 b0 b1' b2' b3 c0 c1 c2 f0 f1 f2
  go_region_held3 (fun w' => (w'.cell? ⟨w.heap.size, 0, none⟩ = some (.bool s) ∧ w'.cell? ⟨w.heap.size, 1, none⟩ = some (.string l) ∧ w'.cell? ⟨w.heap.size, 2, none⟩ = some (.bool b) ∧ w'.cell? ⟨w.heap.size + 1, 0, none⟩ = some (.string k) ∧ w'.cell? ⟨w.heap.size + 1, 1, none⟩ = some (.string v) ∧ w'.cell? ⟨w.heap.size + 1, 2, none⟩ = some (.bool d) ∧ w'.cell? ⟨w.heap.size + 1, 3, none⟩ = some (.int .i64 q)) ∧ KpS (w.heap.size + 1 + 1) 23 w1 w')
    ((refine HK.out _ ?_; first | with_reducible assumption | with_reducible exact HD.out | with_reducible exact KpS.set (by assumption) _ _ _))
    ((go_at_call 33; refine (J2.out _).mono ?_; rintro e w5 ⟨rfl, hb5⟩; have hb6 : KpS (w.heap.size + 1 + 1) 23 w1 w5 := KpS.call (by first | with_reducible exact HD.out | with_reducible assumption | exact And.right (by assumption)) hb5 hz2; obtain ⟨_, u0, u1, u2, hr⟩ := id hb6; have c20 := hr.c0; have c21 := hr.c1; have c22 := hr.c2; have f20 := hr.fz 0; have f21 := hr.fz 1; have f22 := hr.fz 2; clear hb5 hr))
  all_goals
    go_wp2_with fail
    exact bodyPost_ret (v := .tuple #[.iface ft (.agg #[.string k, .string v, .bool d, .int .i64 q]), .agg #[.bool true, .string k, .bool b], .int .i64 0]) (by simp [results, Try.results26, go_sem, c20, c21, c22]) rfl ⟨rfl, set3s (HB.out.trans (hb6.1.mono (by omega))) (by omega) _ _ _⟩

section
variable (k v : ByteArray) (d : Bool) (q : Int) (w : World)
theorem asK_k : Sem.run Try.prog (Instr.typeAssert (.iface 53 (.agg #[.string k, .string v, .bool d, .int .i64 q])) 47 53 true) w = .ok (.tuple #[.agg #[.string k, .string v, .bool d, .int .i64 q], .bool true]) w := by kernel_rfl
theorem asK_s : Sem.run Try.prog (Instr.typeAssert (.iface 67 (.agg #[.string k, .string v, .bool d, .int .i64 q])) 47 53 true) w = .ok (.tuple #[.agg #[.string ⟨#[]⟩, .string ⟨#[]⟩, .bool false, .int .i64 0], .bool false]) w := by kernel_rfl
theorem asK_d : Sem.run Try.prog (Instr.typeAssert (.iface 68 (.agg #[.string k, .string v, .bool d, .int .i64 q])) 47 53 true) w = .ok (.tuple #[.agg #[.string ⟨#[]⟩, .string ⟨#[]⟩, .bool false, .int .i64 0], .bool false]) w := by kernel_rfl
theorem asS_s : Sem.run Try.prog (Instr.typeAssert (.iface 67 (.agg #[.string k, .string v, .bool d, .int .i64 q])) 47 67 true) w = .ok (.tuple #[.agg #[.string k, .string v, .bool d, .int .i64 q], .bool true]) w := by kernel_rfl
theorem asS_d : Sem.run Try.prog (Instr.typeAssert (.iface 68 (.agg #[.string k, .string v, .bool d, .int .i64 q])) 47 67 true) w = .ok (.tuple #[.agg #[.string ⟨#[]⟩, .string ⟨#[]⟩, .bool false, .int .i64 0], .bool false]) w := by kernel_rfl
theorem asD_d : Sem.run Try.prog (Instr.typeAssert (.iface 68 (.agg #[.string k, .string v, .bool d, .int .i64 q])) 47 68 true) w = .ok (.tuple #[.agg #[.string k, .string v, .bool d, .int .i64 q], .bool true]) w := by kernel_rfl
end
def keptB (s : St) (x : El.En) : Bool := match fateS s x with | .kept => true | _ => false
set_option maxRecDepth 100000 in
set_option maxHeartbeats 2000000 in
theorem step_no (s : Bool) (l : ByteArray) (b : Bool) (k v : ByteArray) (d : Bool) (q : Int) (w : World) (hl : l.size ≤ 9223372036854775807) (hk : k.size ≤ 9223372036854775807) (hv : v.size ≤ 9223372036854775807) (h : stepE (s, l, b) (k, v, d, q) ≠ 0) :
    Calls Try.prog 11 #[.agg #[.bool s, .string l, .bool b], .agg #[.string k, .string v, .bool d, .int .i64 q]] w fun e w' => e = .returned (.tuple #[.bool false, .agg #[.bool false, .string ⟨#[]⟩, .bool false], .int .i64 (stepE (s, l, b) (k, v, d, q))]) ∧ Below w.heap.size w w' := by
  have HA := rows_se s l b k v d q w _ rfl
  have J1 := Lib.hid (fun w => next_no s l b k v d q w hl hk hv h)
  obtain ⟨b1, b2⟩ := ne_b h
  clear h
  generalize stepE (s, l, b) (k, v, d, q) = r at *
  go_enter Try.func11, Try.ntmps11
  go_wp2_with fail
  refine (J1.out _).mono ?_
  rintro e w1 ⟨rfl, hb⟩
  obtain ⟨r0, r1, r2, hB⟩ := HA.out _ hb
  have HB := Lib.hid hB
  have hz := hb.size
  have a0 := r0.c0; have a1 := r0.c1; have a2 := r0.c2
  have b0 := r1.c0; have b1' := r1.c1; have b2' := r1.c2; have b3 := r1.c3
  have c0 := r2.c0; have c1 := r2.c1; have c2 := r2.c2
  have f0 := r2.fz 0; have f1 := r2.fz 1; have f2 := r2.fz 2
  simp only [World.size_alloc] at hz
  clear hB hb
  go_wp2_with fail
  have hr := (r2.set (.bool false) (.string ⟨#[]⟩) (.bool false)).set (.bool false) (.string ⟨#[]⟩) (.bool false)
  have hBf := set3s (set3s HB.out (show w.heap.size ≤ w.heap.size + 1 + 1 by omega) (.bool false) (.string ⟨#[]⟩) (.bool false)) (show w.heap.size ≤ w.heap.size + 1 + 1 by omega) (.bool false) (.string ⟨#[]⟩) (.bool false)
  clear r2 c0 c1 c2
  revert hr hBf
  generalize World.setCell _ _ _ = W
  intro hr hBf
  have c0 := hr.c0; have c1 := hr.c1; have c2 := hr.c2
  exact bodyPost_ret (v := .tuple #[.bool false, .agg #[.bool false, .string ⟨#[]⟩, .bool false], .int .i64 r]) (by simp [results, Try.results11, go_sem, c0, c1, c2]) rfl ⟨rfl, hBf⟩
set_option maxRecDepth 100000 in
set_option maxHeartbeats 2000000 in
theorem step_ok (s : Bool) (l : ByteArray) (b : Bool) (k v : ByteArray) (d : Bool) (q : Int) (w : World) (hl : l.size ≤ 9223372036854775807) (hk : k.size ≤ 9223372036854775807) (hv : v.size ≤ 9223372036854775807) (h : stepE (s, l, b) (k, v, d, q) = 0) :
    Calls Try.prog 11 #[.agg #[.bool s, .string l, .bool b], .agg #[.string k, .string v, .bool d, .int .i64 q]] w fun e w' => e = .returned (.tuple #[.bool (keptB (s, l, b) (k, v, d, q)), .agg #[.bool true, .string k, .bool b], .int .i64 0]) ∧ Below w.heap.size w w' := by
  have HA := rows_se s l b k v d q w _ rfl
  have J1 := Lib.hid (fun w => next_ok s l b k v d q w hl hk hv h)
  clear h
  unfold keptB
  cases hf : fateS (s, l, b) (k, v, d, q)
  all_goals
    rw [hf] at J1
    simp only [Fate.ty] at J1 ⊢
    clear hf
    go_enter Try.func11, Try.ntmps11
    go_wp2_with fail
    refine (J1.out _).mono ?_
    rintro e w1 ⟨rfl, hb⟩
    obtain ⟨r0, r1, r2, hB⟩ := HA.out _ hb
    have HB := Lib.hid hB
    have hz := hb.size
    have a0 := r0.c0; have a1 := r0.c1; have a2 := r0.c2
    have b0 := r1.c0; have b1' := r1.c1; have b2' := r1.c2; have b3 := r1.c3
    have c0 := r2.c0; have c1 := r2.c1; have c2 := r2.c2
    have f0 := r2.fz 0; have f1 := r2.fz 1; have f2 := r2.fz 2
    simp only [World.size_alloc] at hz
    clear hB hb
    have hA := asK_k k v d q
    have hA2 := asK_s k v d q
    have hA3 := asK_d k v d q
    go_wp2_with fail
    have HR2 := Lib.hid r2
    clear r2
    go_region
    all_goals
      go_wp2_with fail
      have hr := ((HR2.out.set (.bool true) (.string k) (.bool b)).set (.bool true) (.string k) (.bool b)).below (Below.refl _ _).drew (Nat.le_refl _)
      have hBf := (set3s (set3s HB.out (show w.heap.size ≤ w.heap.size + 1 + 1 by omega) (.bool true) (.string k) (.bool b)) (show w.heap.size ≤ w.heap.size + 1 + 1 by omega) (.bool true) (.string k) (.bool b)).drew
      clear c0 c1 c2
      revert hr hBf
      generalize World.drew _ = W
      intro hr hBf
      have c0 := hr.c0; have c1 := hr.c1; have c2 := hr.c2
      refine bodyPost_ret (v := .tuple #[_, .agg #[.bool true, .string k, .bool b], .int .i64 0]) (by simp [results, Try.results11, go_sem, c0, c1, c2]) rfl ⟨rfl, hBf⟩
end Go.Proofs.Ytlobkbhghpknmaa.KK
