/-
  Contract of a walk's next.
-/
import Derived.Test.YtbgpcmpbfenplaaVl
namespace Go.Proofs.Ytbgpcmpbfenplaa.KK
open Go.ChangeShapes Go.WideShapes Go.ChangeAt Go.RowKit Go.Proofs
theorem cell_ne {W : World} {b B o p : Nat} {u : Value} (h : b ≠ B) : (W.setCell ⟨B, o, none⟩ u).cell? ⟨b, p, none⟩ = W.cell? ⟨b, p, none⟩ :=
  World.cell?_of_block (Below.heap_setCell _ _ _ b (fun e => h (by rw [e])))
theorem grown_set {W : World} {b o : Nat} (v : Value) : W.grownBy (W.setCell ⟨b, o, none⟩ v) (some b) :=
  ⟨rfl, rfl, rfl, by simp [World.setCell], fun k _ hk => Below.heap_setCell _ _ _ k (fun e => hk (by rw [e]))⟩
theorem grown_trans {w w1 w2 : World} {r : Option Nat} (h : w.grownBy w1 r) (g : w1.grownBy w2 r) : w.grownBy w2 r :=
  ⟨g.os.trans h.os, g.tape.trans h.tape, g.output.trans h.output, Nat.le_trans h.size g.size, fun k hk hr => (g.block k (Nat.lt_of_lt_of_le hk h.size) hr).trans (h.block k hk hr)⟩
theorem grown_of {w w1 : World} {r : Option Nat} (h : Below w.heap.size w w1) : w.grownBy w1 r := ⟨h.os, h.tape, h.output, h.size, fun k hk _ => h.block k hk⟩
theorem grown_below {w w1 w2 : World} {N : Nat} {r : Option Nat} (h : w.grownBy w1 r) (g : Below N w1 w2) (hN : w.heap.size ≤ N) : w.grownBy w2 r :=
  ⟨g.os.trans h.os, g.tape.trans h.tape, g.output.trans h.output, Nat.le_trans h.size g.size, fun k hk hr => (g.block k (Nat.lt_of_lt_of_le hk hN)).trans (h.block k hk hr)⟩
theorem Row2.set1 {W : World} {B : Nat} {t : TypeId} {v0 v1 u1 : Value} (h : Row2 W B t v0 v1) : Row2 (W.setCell ⟨B, 1, none⟩ u1) B t v0 u1 := by
  unfold Row2 at h ⊢; simp [World.setCell, Array.getElem?_modify, h]
theorem Row2.other {W : World} {B C : Nat} {t : TypeId} {v0 v1 : Value} (h : Row2 W B t v0 v1) (hne : C ≠ B) (o : Nat) (u : Value) : Row2 (W.setCell ⟨C, o, none⟩ u) B t v0 v1 := by
  unfold Row2 at h ⊢; simp [World.setCell, Array.getElem?_modify, h, hne]
set_option maxRecDepth 100000 in
set_option maxHeartbeats 4000000 in
theorem next_any (A : Option Addr) (c : Nat) (xs : List Pr) (B i : Nat) (w : World) (hw : Row2 w B 89 (.slice A xs.length c) (.int .i64 (i : Nat))) (hf : PsAt w A xs) (hA : ∀ a, A = some a → a.block ≠ B) (hn : xs.length ≤ 4294967295) (hi : i < xs.length) :
    Calls Try.prog 54 #[.pointer (some ⟨B, 0, none⟩)] w fun e w' => e = .returned (.tuple #[.agg #[.string xs[i].1, .string xs[i].2], .bool true]) ∧ Row2 w' B 89 (.slice A xs.length c) (.int .i64 (i + 1 : Nat)) ∧ w.grownBy w' (some B) := by
  have HW2 := Lib.hid (hw.below (alloc_below w (.cells #[.string ⟨#[]⟩, .string ⟨#[]⟩] 31)) (Nat.le_refl _))
  have HF2 := Lib.hid (hf.below (alloc_below w (.cells #[.string ⟨#[]⟩, .string ⟨#[]⟩] 31)) (Nat.le_refl _))
  have r0 := HW2.out.c0
  have r1 := HW2.out.c1
  have z1 := HW2.out.fz 1
  have q0 := (Row2.new w 31 (.string ⟨#[]⟩) (.string ⟨#[]⟩)).c0
  have q1 := (Row2.new w 31 (.string ⟨#[]⟩) (.string ⟨#[]⟩)).c1
  obtain ⟨n, hnn⟩ : ∃ n, xs.length = n := ⟨_, rfl⟩
  have hin : ¬ (i : Int) = (n : Int) := by omega
  have hin2 : ((i : Int) == (n : Int)) = false := by rw [beq_eq_false_iff_ne]; omega
  rw [hnn] at HW2 r0 ⊢
  have HW := Lib.hid hw
  clear hw
  go_enter Try.func54, Try.ntmps54
  go_wp2_with fail
  go_quiet (fail)
  go_wp2_with fail
  rcases HF2.out with h0 | ⟨b, off, rfl, hbl, hc⟩
  · rw [h0] at hi; simp at hi
  have hbB : b ≠ B := hA _ rfl
  obtain ⟨g0, g1⟩ := hc i hi
  have hBw : B < w.heap.size := HW.out.lt
  have hB2 : B ≠ w.heap.size := by omega
  have HWd := HW2.out.below (below_drewN' nq) (Nat.le_refl _)
  have HNd := (Row2.new w 31 (.string ⟨#[]⟩) (.string ⟨#[]⟩)).below (below_drewN' nq) (Nat.le_refl _)
  have d0 := ((below_drewN' (w := w.alloc (.cells #[.string ⟨#[]⟩, .string ⟨#[]⟩] 31)) nq).cell (p := ⟨b, off + i * 2, none⟩) hbl).trans g0
  have d1 := ((below_drewN' (w := w.alloc (.cells #[.string ⟨#[]⟩, .string ⟨#[]⟩] 31)) nq).cell (p := ⟨b, off + i * 2 + 1, none⟩) hbl).trans g1
  obtain ⟨W3, hW3⟩ : ∃ W3, ((w.alloc (.cells #[.string ⟨#[]⟩, .string ⟨#[]⟩] 31)).drewN nq).setCell ⟨B, 1, none⟩ (.int .i64 ((i : Int) + 1)) = W3 := ⟨_, rfl⟩
  have HW3 : Row2 W3 B 89 (.slice (some ⟨b, off, none⟩) n c) (.int .i64 ((i : Int) + 1)) := by rw [← hW3]; exact HWd.set1
  have HN3 : Row2 W3 w.heap.size 31 (.string ⟨#[]⟩) (.string ⟨#[]⟩) := by rw [← hW3]; exact HNd.other hB2 _ _
  have s0 : W3.cell? ⟨b, off + i * 2, none⟩ = some (.string xs[i].1) := by rw [← hW3, cell_ne hbB]; exact d0
  have s1 : W3.cell? ⟨b, off + i * 2 + 1, none⟩ = some (.string xs[i].2) := by rw [← hW3, cell_ne hbB]; exact d1
  have HG3 : Hid (w.grownBy W3 (some B)) := Lib.hid (by rw [← hW3]; exact grown_trans (grown_of ((alloc_below w _).trans ((below_drewN' nq).mono (by simp)))) (grown_set _))
  rw [hW3]
  have t0 := HW3.c0
  have t1 := HW3.c1
  have u0 := HN3.c0
  have u1 := HN3.c1
  have z2 := HN3.fz 0
  have z3 := HN3.fz 1
  have hwp : IntKind.i64.wrap ((i : Int) + 1 - 1) = (i : Int) := by rw [IntKind.wrap_i64]; omega
  have hI : (i : Int) < (n : Int) := by omega
  have HI3 := Lib.hid HW3
  clear r0 r1 z1 q0 q1 hW3 HWd HNd d0 d1 g0 g1 hc HW2 HF2 hf HW HW3 hA hbl
  go_region
  go_wp2_with fail
  have HX := HN3.set (u0 := .string xs[i].1) (u1 := .string xs[i].2)
  have k0 := HX.c0
  have k1 := HX.c1
  refine bodyPost_ret (v := .tuple #[.agg #[.string xs[i].1, .string xs[i].2], .bool true]) (by simp [results, Try.f54, go_sem, k0, k1]) rfl ?_
  refine ⟨rfl, ?_, ?_⟩
  · exact ((HI3.out.other (by omega) _ _).other (by omega) _ _).below (below_drew1 (Below.refl _ _)) (Nat.le_refl _)
  · exact grown_below HG3.out (below_drew1 (set2_below (Below.refl _ _) (Nat.le_refl _) _ _)) (Nat.le_refl _)
set_option maxRecDepth 100000 in
set_option maxHeartbeats 4000000 in
theorem next_end (A : Option Addr) (c n B : Nat) (w : World) (hw : Row2 w B 89 (.slice A n c) (.int .i64 (n : Nat))) :
    Calls Try.prog 54 #[.pointer (some ⟨B, 0, none⟩)] w fun e w' => e = .returned (.tuple #[.agg #[.string ⟨#[]⟩, .string ⟨#[]⟩], .bool false]) ∧ Row2 w' B 89 (.slice A n c) (.int .i64 (n : Nat)) ∧ w.grownBy w' (some B) := by
  have HW2 := Lib.hid (hw.below (alloc_below w (.cells #[.string ⟨#[]⟩, .string ⟨#[]⟩] 31)) (Nat.le_refl _))
  have r0 := HW2.out.c0
  have r1 := HW2.out.c1
  have HN := Row2.new w 31 (.string ⟨#[]⟩) (.string ⟨#[]⟩)
  have q0 := HN.c0
  have q1 := HN.c1
  have z0 := HN.fz 0
  have z1 := HN.fz 1
  have hlt := hw.lt
  have hin2 : ((n : Int) == (n : Int)) = true := by simp
  clear hw
  go_enter Try.func54, Try.ntmps54
  go_wp2_with fail
  go_quiet (fail)
  go_wp2_with fail
  have HX := (HN.below (below_drewN' nq) (Nat.le_refl _)).set (u0 := .string ⟨#[]⟩) (u1 := .string ⟨#[]⟩)
  have k0 := HX.c0
  have k1 := HX.c1
  refine bodyPost_ret (v := .tuple #[.agg #[.string ⟨#[]⟩, .string ⟨#[]⟩], .bool false]) (by simp [results, Try.f54, go_sem, k0, k1]) rfl ?_
  refine ⟨rfl, ?_, ?_⟩
  · exact ((HW2.out.below (below_drewN' nq) (Nat.le_refl _)).other (by omega) _ _).other (by omega) _ _
  · exact grown_of (set2_below ((alloc_below w _).trans ((below_drewN' nq).mono (by simp))) (Nat.le_refl _) _ _)
/-- what next returns: the pair, whether there is one, and the place behind it -/
def nxP (xs : List Pr) (i : Nat) : Pr := xs.getD i (⟨#[]⟩, ⟨#[]⟩)
def nxI (xs : List Pr) (i : Nat) : Nat := if i < xs.length then i + 1 else i
theorem nxt_any (A : Option Addr) (c : Nat) (xs : List Pr) (B i : Nat) (w : World) (hw : Row2 w B 89 (.slice A xs.length c) (.int .i64 (i : Nat))) (hf : PsAt w A xs) (hA : xs ≠ [] → ∀ a, A = some a → a.block ≠ B) (hn : xs.length ≤ 4294967295) (hi : i ≤ xs.length) :
    Calls Try.prog 54 #[.pointer (some ⟨B, 0, none⟩)] w fun e w' => e = .returned (.tuple #[.agg #[.string (nxP xs i).1, .string (nxP xs i).2], .bool (decide (i < xs.length))]) ∧ Row2 w' B 89 (.slice A xs.length c) (.int .i64 (nxI xs i : Nat)) ∧ w.grownBy w' (some B) := by
  by_cases h : i < xs.length
  · have e1 : nxP xs i = xs[i] := by unfold nxP; rw [List.getD_eq_getElem?_getD, List.getElem?_eq_getElem h]; rfl
    rw [e1, show nxI xs i = i + 1 from if_pos h, decide_eq_true h]
    exact next_any A c xs B i w hw hf (hA (fun e => by rw [e] at h; simp at h)) hn h
  · have e1 : nxP xs i = (⟨#[]⟩, ⟨#[]⟩) := by unfold nxP; rw [List.getD_eq_getElem?_getD, List.getElem?_eq_none (by omega)]; rfl
    have hin : i = xs.length := by omega
    rw [e1, show nxI xs i = i from if_neg h, decide_eq_false h, hin]
    rw [hin] at hw
    exact next_end A c xs.length B w hw
end Go.Proofs.Ytbgpcmpbfenplaa.KK
