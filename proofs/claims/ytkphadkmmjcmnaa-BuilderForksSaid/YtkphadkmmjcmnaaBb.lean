/-
  Contracts of a builder's now, checkOpen, Len, Room, Last; of its list's room, last.
-/
import Derived.Test.YtkphadkmmjcmnaaBa
namespace Go.Proofs.Ytkphadkmmjcmnaa.KK
open Go.ChangeShapes Go.WideShapes Go.ChangeAt Go.RowKit Go.Proofs

theorem run_neq_ptr_same {P : Program} (w : World) {tp te : TypeId} {j : TypeInfo} (a : Addr) (hp : P.underlying tp = some (.pointer te)) (hte : P.info? te = some j) :
    (binOp .neq tp (.pointer (some a)) (.pointer (some a))).run P w = .ok (.bool false) w := by
  have h : ∀ d : Nat, (Op.equalIn (d + 1) tp (.pointer (some a)) (.pointer (some a))).run P w = .ok true w := fun d => by
    simp [Op.equalIn, run_underlying hp, sizeOf, typeInfo, hte, run_sameAddr_same]
  simp only [binOp]
  simp [Op.equal, Op.maxDepth, h 9999]
theorem run_neq_none_some {P : Program} (w : World) {tp te : TypeId} (a : Addr) (hp : P.underlying tp = some (.pointer te)) :
    (binOp .neq tp (.pointer none) (.pointer (some a))).run P w = .ok (.bool true) w := by
  have h : ∀ d : Nat, (Op.equalIn (d + 1) tp (.pointer none) (.pointer (some a))).run P w = .ok false w := fun d => by
    simp [Op.equalIn, run_underlying hp]
  simp only [binOp]
  simp [Op.equal, Op.maxDepth, h 9999]
theorem info_bd : (Try.prog.info? 55).isSome = true := by kernel_rfl
/-- neither New nor Fork has returned it -/
def NM (x : Value) (w : World) : Prop := ∀ w', Below w.heap.size w w' → Calls Try.prog 34 #[x] w' fun e w'' => e = .returned (.int .i64 0) ∧ Below w'.heap.size w' w''
theorem NM.below {x : Value} {w w' : World} (h : NM x w) (hb : Below w.heap.size w w') : NM x w' := fun w2 hb2 => h w2 (hb.trans (hb2.mono hb.size))
set_option maxRecDepth 100000 in
theorem nm_nil (w : World) : NM (.pointer none) w := by
  intro w' _
  go_enter Try.func34, Try.ntmps34
  go_wp2_with fail
  go_ret
  exact ⟨rfl, Below.refl _ _⟩
set_option maxRecDepth 100000 in
theorem nm_new (M : Nat) (w : World) (h : w.cell? ⟨M, 0, none⟩ = some (.pointer none)) : NM (.pointer (some ⟨M, 0, none⟩)) w := by
  intro w' hb
  have hc := (hb.cell (p := ⟨M, 0, none⟩) (cell_lt h)).trans h
  clear h hb
  have q : ∀ w, (binOp .neq 25 (.pointer none) (.pointer (some ⟨M, 0, none⟩))).run Try.prog w = .ok (.bool true) w := fun w => run_neq_none_some w _ Try.underlying25
  go_enter Try.func34, Try.ntmps34
  go_wp2_with (simp only [q, Result.andThen])
  go_ret
  exact ⟨rfl, Below.refl _ _⟩
set_option maxRecDepth 100000 in
theorem now_any {M most : Nat} {st : Int} {v : Value} {w : World} (h : Bd w M st most v) : Calls Try.prog 34 #[.pointer (some ⟨M, 0, none⟩)] w fun e w' => e = .returned (.int .i64 st) ∧ Below w.heap.size w w' := by
  obtain ⟨j, hj⟩ := Option.isSome_iff_exists.1 info_bd
  have q : ∀ w, (binOp .neq 25 (.pointer (some ⟨M, 0, none⟩)) (.pointer (some ⟨M, 0, none⟩))).run Try.prog w = .ok (.bool false) w := fun w => run_neq_ptr_same w _ Try.underlying25 hj
  have c0 := h.c0
  have c1 := h.c1
  clear hj h
  go_enter Try.func34, Try.ntmps34
  go_wp2_with (simp only [q, Result.andThen])
  go_ret
  exact ⟨rfl, Below.refl _ _⟩
set_option maxRecDepth 100000 in
theorem open_yes {M most : Nat} {v : Value} {w : World} (h : Bd w M 1 most v) : Calls Try.prog 37 #[.pointer (some ⟨M, 0, none⟩)] w fun e w' => e = .returned (.int .i64 0) ∧ Below w.heap.size w w' := by
  have J := Lib.hid (now_any h)
  clear h
  go_enter Try.func37, Try.ntmps37
  go_wp2_with fail
  refine J.out.mono ?_
  rintro e w1 ⟨rfl, hb⟩
  go_wp2_with fail
  go_ret
  exact ⟨rfl, hb⟩
set_option maxRecDepth 100000 in
theorem open_sealed {M most : Nat} {v : Value} {w : World} (h : Bd w M 2 most v) : Calls Try.prog 37 #[.pointer (some ⟨M, 0, none⟩)] w fun e w' => e = .returned (.int .i64 9) ∧ Below w.heap.size w w' := by
  have J := Lib.hid (now_any h)
  clear h
  go_enter Try.func37, Try.ntmps37
  go_wp2_with fail
  refine J.out.mono ?_
  rintro e w1 ⟨rfl, hb⟩
  go_wp2_with fail
  go_ret
  exact ⟨rfl, hb⟩
set_option maxRecDepth 100000 in
theorem open_no {x : Value} {w : World} (h : NM x w) : Calls Try.prog 37 #[x] w fun e w' => e = .returned (.int .i64 1) ∧ Below w.heap.size w w' := by
  have J := Lib.hid (h w (Below.refl _ _))
  clear h
  go_enter Try.func37, Try.ntmps37
  go_wp2_with fail
  refine J.out.mono ?_
  rintro e w1 ⟨rfl, hb⟩
  go_wp2_with fail
  go_ret
  exact ⟨rfl, hb⟩
set_option maxRecDepth 100000 in
theorem room_any {M most n c : Nat} {st : Int} {A : Option Addr} {w : World} (h : Bd w M st most (.slice A n c)) (hm : most ≤ 5000) (hn : n ≤ most) : Calls Try.prog 46 #[.pointer (some ⟨M, 2, none⟩)] w fun e w' => e = .returned (.int .i64 ((most - n : Nat) : Int)) ∧ Below w.heap.size w w' := by
  have c2 := h.c2
  have c3 := h.c3
  clear h
  go_enter Try.func46, Try.ntmps46
  go_wp2_with fail
  go_quiet (fail)
  go_wp2_with fail
  go_ret
  exact ⟨retI (by omega), below_drewN' _⟩
/-- a row of four cells -/
def Row4 (W : World) (B : Nat) (t : TypeId) (v0 v1 v2 v3 : Value) : Prop := W.heap[B]? = some (.cells #[v0, v1, v2, v3] t (0, 0))
section
variable {W : World} {B : Nat} {t : TypeId} {v0 v1 v2 v3 : Value}
theorem Row4.lt (h : Row4 W B t v0 v1 v2 v3) : B < W.heap.size := (Array.getElem?_eq_some_iff.1 h).1
theorem Row4.c0 (h : Row4 W B t v0 v1 v2 v3) : W.cell? ⟨B, 0, none⟩ = some v0 := by unfold Row4 at h; simp [World.cell?, h]
theorem Row4.c1 (h : Row4 W B t v0 v1 v2 v3) : W.cell? ⟨B, 1, none⟩ = some v1 := by unfold Row4 at h; simp [World.cell?, h]
theorem Row4.c2 (h : Row4 W B t v0 v1 v2 v3) : W.cell? ⟨B, 2, none⟩ = some v2 := by unfold Row4 at h; simp [World.cell?, h]
theorem Row4.c3 (h : Row4 W B t v0 v1 v2 v3) : W.cell? ⟨B, 3, none⟩ = some v3 := by unfold Row4 at h; simp [World.cell?, h]
theorem Row4.fz (h : Row4 W B t v0 v1 v2 v3) (i : Nat) : W.frozen? ⟨B, i, none⟩ = false := by unfold Row4 at h; simp [World.frozen?, h]
theorem Row4.set (h : Row4 W B t v0 v1 v2 v3) (u0 u1 u2 u3 : Value) : Row4 ((((W.setCell ⟨B, 0, none⟩ u0).setCell ⟨B, 1, none⟩ u1).setCell ⟨B, 2, none⟩ u2).setCell ⟨B, 3, none⟩ u3) B t u0 u1 u2 u3 := by
  unfold Row4 at h ⊢; simp [World.setCell, Array.getElem?_modify, h]
theorem Row4.below {W' : World} {n : Nat} (h : Row4 W B t v0 v1 v2 v3) (hb : Below n W W') (hn : W.heap.size ≤ n) : Row4 W' B t v0 v1 v2 v3 := (hb.block B (Nat.lt_of_lt_of_le h.lt hn)).trans h
end
theorem Row4.new (w : World) (t : TypeId) (v0 v1 v2 v3 : Value) : Row4 (w.alloc (.cells #[v0, v1, v2, v3] t)) w.heap.size t v0 v1 v2 v3 := heap_alloc_new w _
theorem set4_below {B : Nat} {w w1 : World} {g : Nat} (h : Below B w w1) (hg : B ≤ g) (a b c d : Value) : Below B w ((((w1.setCell ⟨g, 0, none⟩ a).setCell ⟨g, 1, none⟩ b).setCell ⟨g, 2, none⟩ c).setCell ⟨g, 3, none⟩ d) :=
  (((h.setCell (p := ⟨g, 0, none⟩) hg _).setCell (p := ⟨g, 1, none⟩) hg _).setCell (p := ⟨g, 2, none⟩) hg _).setCell (p := ⟨g, 3, none⟩) hg _
/-- the last entry, or the zero one -/
def lastE (xs : List El.En) : El.En := xs.getLastD El.none
def valE (x : El.En) : Value := .agg #[.string x.1, .string x.2.1, .bool x.2.2.1, .int .i64 x.2.2.2]
theorem lastE_succ {xs : List El.En} {k : Nat} (h : xs.length = k + 1) : lastE xs = xs[k] := by
  unfold lastE
  have e : xs.length - 1 = k := by omega
  rw [List.getLastD_eq_getLast?, List.getLast?_eq_getElem?, e, List.getElem?_eq_getElem (by omega)]
  rfl
set_option maxRecDepth 100000 in
set_option maxHeartbeats 1000000 in
theorem llast_any {M most c : Nat} {st : Int} {A : Option Addr} {xs : List El.En} {w : World} (h : Bd w M st most (.slice A xs.length c)) (he : EsAt w A xs) (hn : xs.length ≤ 5000) : Calls Try.prog 44 #[.pointer (some ⟨M, 2, none⟩)] w fun e w' => e = .returned (.tuple #[valE (lastE xs), .bool (decide (xs ≠ []))]) ∧ Below w.heap.size w w' := by
  have hb := alloc_below w (.cells #[.string ⟨#[]⟩, .string ⟨#[]⟩, .bool false, .int .i64 0] 36)
  have c3 := (h.below hb).c3
  have HR := Row4.new w 36 (.string ⟨#[]⟩) (.string ⟨#[]⟩) (.bool false) (.int .i64 0)
  have z := HR.fz
  have z0 := z 0
  have z1 := z 1
  have z2 := z 2
  have z3 := z 3
  have r0 := HR.c0
  have r1 := HR.c1
  have r2 := HR.c2
  have r3 := HR.c3
  rcases Nat.eq_zero_or_pos xs.length with h0 | h0
  · have hx : xs = [] := List.eq_nil_of_length_eq_zero h0
    subst hx
    clear he h
    go_enter Try.func44, Try.ntmps44
    go_wp2_with fail
    refine bodyPost_ret (v := .tuple #[.agg #[.string ⟨#[]⟩, .string ⟨#[]⟩, .bool false, .int .i64 0], .bool false]) (by simp [results, Try.f44, go_sem]) rfl ?_
    exact ⟨rfl, alloc_below _ _⟩
  · obtain ⟨k, hk⟩ : ∃ k, xs.length = k + 1 := ⟨xs.length - 1, by omega⟩
    have HL := Lib.hid (lastE_succ hk)
    have HN : Hid (decide (xs ≠ []) = true) := Lib.hid (by rw [decide_eq_true_eq]; intro e; rw [e] at h0; simp at h0)
    rcases he.below hb (Nat.le_refl _) with e | ⟨b, off, rfl, hbl, hc⟩
    · rw [e] at h0; simp at h0
    obtain ⟨g0, g1, g2, g3⟩ := hc k (by omega)
    obtain ⟨⟨xk, xv, xd, xq⟩, hx⟩ : ∃ x, xs[k] = x := ⟨_, rfl⟩
    rw [hx] at g0 g1 g2 g3 HL
    simp only at g0 g1 g2 g3
    rw [hk] at c3 hn
    have hwp : IntKind.i64.wrap (((k + 1 : Nat) : Int) - 1) = (k : Int) := by rw [IntKind.wrap_i64]; omega
    have q1 : (((k + 1 : Nat) : Int) == 0) = false := by rw [beq_eq_false_iff_ne]; omega
    have q2 : ((k : Int) + 1 == 0) = false := by rw [beq_eq_false_iff_ne]; omega
    clear he h hk hc hx h0
    go_enter Try.func44, Try.ntmps44
    go_wp2_with fail
    refine bodyPost_ret (v := .tuple #[.agg #[.string xk, .string xv, .bool xd, .int .i64 xq], .bool true]) (by simp [results, Try.f44, go_sem]) rfl ?_
    exact ⟨by rw [HL.out, HN.out]; rfl, alloc_below _ _⟩
end Go.Proofs.Ytkphadkmmjcmnaa.KK
