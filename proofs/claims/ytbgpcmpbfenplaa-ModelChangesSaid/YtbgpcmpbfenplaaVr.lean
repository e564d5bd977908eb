/-
  Models that are nil or were not made.
-/
import Derived.Test.YtbgpcmpbfenplaaVp
import Derived.LaidEqlPtr
namespace Go.Proofs.Ytbgpcmpbfenplaa.KK
open Go.ChangeShapes Go.WideShapes Go.ChangeAt Go.RowKit Go.Proofs
theorem run_eql_none_some {P : Program} (w : World) {tp te : TypeId} (a : Addr) (hp : P.underlying tp = some (.pointer te)) :
    (binOp .eql tp (.pointer none) (.pointer (some a))).run P w = .ok (.bool false) w := by
  have h : ∀ d : Nat, (Op.equalIn (d + 1) tp (.pointer none) (.pointer (some a))).run P w = .ok false w := fun d => by
    simp [Op.equalIn, run_underlying hp]
  simp only [binOp]
  simp [Op.equal, Op.maxDepth, h 9999]
theorem info_model : (Try.prog.info? 99).isSome = true := by kernel_rfl
set_option maxRecDepth 100000 in
theorem made_nil (w : World) : Calls Try.prog 63 #[.pointer none] w fun e w' => e = .returned (.bool false) ∧ Below w.heap.size w w' := by
  go_enter Try.func63, Try.ntmps63
  go_wp2_with fail
  go_ret
  exact ⟨rfl, Below.refl _ _⟩
set_option maxRecDepth 100000 in
theorem made_no (M : Nat) (w : World) (h : w.cell? ⟨M, 0, none⟩ = some (.pointer none)) : Calls Try.prog 63 #[.pointer (some ⟨M, 0, none⟩)] w fun e w' => e = .returned (.bool false) ∧ Below w.heap.size w w' := by
  have q : ∀ w, (binOp .eql 46 (.pointer none) (.pointer (some ⟨M, 0, none⟩))).run Try.prog w = .ok (.bool false) w := fun w => run_eql_none_some w _ Try.underlying46
  go_enter Try.func63, Try.ntmps63
  go_wp2_with (simp only [q, Result.andThen])
  go_ret
  exact ⟨rfl, Below.refl _ _⟩
set_option maxRecDepth 100000 in
theorem made_yes (M : Nat) (w : World) (h : w.cell? ⟨M, 0, none⟩ = some (.pointer (some ⟨M, 0, none⟩))) : Calls Try.prog 63 #[.pointer (some ⟨M, 0, none⟩)] w fun e w' => e = .returned (.bool true) ∧ Below w.heap.size w w' := by
  obtain ⟨j, hj⟩ := Option.isSome_iff_exists.1 info_model
  have q : ∀ w, (binOp .eql 46 (.pointer (some ⟨M, 0, none⟩)) (.pointer (some ⟨M, 0, none⟩))).run Try.prog w = .ok (.bool true) w := fun w => run_eql_ptr_same w _ Try.underlying46 hj
  clear hj
  go_enter Try.func63, Try.ntmps63
  go_wp2_with (simp only [q, Result.andThen])
  go_ret
  exact ⟨rfl, Below.refl _ _⟩
def NotMade (x : Value) (w : World) : Prop := ∀ w', Below w.heap.size w w' → Calls Try.prog 63 #[x] w' fun e w'' => e = .returned (.bool false) ∧ Below w'.heap.size w' w''
theorem not_nil (w : World) : NotMade (.pointer none) w := fun w' _ => made_nil w'
theorem not_new (M : Nat) (w : World) (h : w.cell? ⟨M, 0, none⟩ = some (.pointer none)) : NotMade (.pointer (some ⟨M, 0, none⟩)) w := fun w' hb => made_no M w' ((hb.cell (p := ⟨M, 0, none⟩) (cell_lt h)).trans h)
theorem NotMade.below {x : Value} {w w' : World} (h : NotMade x w) (hb : Below w.heap.size w w') : NotMade x w' := fun w2 hb2 => h w2 (hb.trans (hb2.mono hb.size))
set_option maxRecDepth 100000 in
theorem no_write (x : Value) (w : World) (h : NotMade x w) (A : Option Addr) (n c : Nat) : Calls Try.prog 37 #[x, .slice A n c] w fun e w' => e = .returned (.int .i64 1) ∧ Below w.heap.size w w' := by
  have J := Lib.hid h
  clear h
  go_enter Try.func37, Try.ntmps37
  go_wp2_with fail
  refine (J.out _ (Below.refl _ _)).mono ?_
  rintro e w1 ⟨rfl, hb⟩
  go_wp2_with fail
  go_ret
  exact ⟨rfl, hb⟩
set_option maxRecDepth 100000 in
theorem no_map (x : Value) (w : World) (h : NotMade x w) (i g : Int) : Calls Try.prog 33 #[x, .agg #[.int .i64 i, .int .i64 g]] w fun e w' => e = .returned (.tuple #[.slice none 0 0, .int .i64 1]) ∧ Below w.heap.size w w' := by
  have J := Lib.hid h
  clear h
  go_enter Try.func33, Try.ntmps33
  go_wp2_with fail
  refine (J.out _ (alloc_below _ _)).mono ?_
  rintro e w1 ⟨rfl, hb⟩
  go_wp2_with fail
  go_ret2
  exact ⟨rfl, (alloc_below w _).trans (hb.mono (by simp))⟩
set_option maxRecDepth 100000 in
theorem no_unpin (x : Value) (w : World) (h : NotMade x w) (i g : Int) : Calls Try.prog 44 #[x, .agg #[.int .i64 i, .int .i64 g]] w fun e w' => e = .returned (.int .i64 1) ∧ Below w.heap.size w w' := by
  have J := Lib.hid h
  clear h
  go_enter Try.func44, Try.ntmps44
  go_wp2_with fail
  refine (J.out _ (alloc_below _ _)).mono ?_
  rintro e w1 ⟨rfl, hb⟩
  go_wp2_with fail
  go_ret
  exact ⟨rfl, (alloc_below w _).trans (hb.mono (by simp))⟩
set_option maxRecDepth 100000 in
theorem no_shut (x : Value) (w : World) (h : NotMade x w) (i g : Int) : Calls Try.prog 40 #[x, .agg #[.int .i64 i, .int .i64 g]] w fun e w' => e = .returned (.int .i64 1) ∧ Below w.heap.size w w' := by
  have J := Lib.hid h
  clear h
  go_enter Try.func40, Try.ntmps40
  go_wp2_with fail
  refine (J.out _ (alloc_below _ _)).mono ?_
  rintro e w1 ⟨rfl, hb⟩
  go_wp2_with fail
  go_ret
  exact ⟨rfl, (alloc_below w _).trans (hb.mono (by simp))⟩
set_option maxRecDepth 100000 in
theorem no_live (x : Value) (w : World) (h : NotMade x w)  : Calls Try.prog 29 #[x] w fun e w' => e = .returned (.tuple #[.slice none 0 0, .slice none 0 0]) ∧ Below w.heap.size w w' := by
  have J := Lib.hid h
  clear h
  go_enter Try.func29, Try.ntmps29
  go_wp2_with fail
  refine (J.out _ (Below.refl _ _)).mono ?_
  rintro e w1 ⟨rfl, hb⟩
  go_wp2_with fail
  go_ret2
  exact ⟨rfl, hb⟩
set_option maxRecDepth 100000 in
theorem no_pin (x : Value) (w : World) (h : NotMade x w)  : Calls Try.prog 43 #[x] w fun e w' => e = .returned (.tuple #[.agg #[.int .i64 0, .int .i64 0], .int .i64 1]) ∧ Below w.heap.size w w' := by
  have J := Lib.hid h
  clear h
  go_enter Try.func43, Try.ntmps43
  go_wp2_with fail
  have hb0 := Below.refl (w.alloc (.cells #[.int .i64 0, .int .i64 0] 52)).heap.size (w.alloc (.cells #[.int .i64 0, .int .i64 0] 52))
  refine (J.out _ (alloc_below _ _)).mono ?_
  rintro e w1 ⟨rfl, hb⟩
  have HN := ((Row2.new w 52 (.int .i64 0) (.int .i64 0)).below hb0 (Nat.le_refl _)).below hb (Nat.le_refl _)
  have z0 := HN.fz 0
  have z1 := HN.fz 1
  have y0 := HN.c0
  have y1 := HN.c1
  go_wp2_with fail
  have HX := HN.set (u0 := .int .i64 0) (u1 := .int .i64 0)
  have k0 := HX.c0
  have k1 := HX.c1
  refine bodyPost_ret (v := .tuple #[.agg #[.int .i64 0, .int .i64 0], .int .i64 1]) (by simp [results, Try.f43, go_sem, k0, k1]) rfl ?_
  exact ⟨rfl, set2_below (((alloc_below w _).trans (hb0.mono (by simp))).trans (hb.mono (Nat.le_trans (alloc_below w _).size hb0.size))) (Nat.le_refl _) _ _⟩
set_option maxRecDepth 100000 in
theorem no_walkOf (x : Value) (w : World) (h : NotMade x w) (i g : Int) : Calls Try.prog 71 #[x, .agg #[.int .i64 i, .int .i64 g]] w fun e w' => e = .returned (.tuple #[.pointer none, .int .i64 1]) ∧ Below w.heap.size w w' := by
  have J := Lib.hid h
  clear h
  go_enter Try.func71, Try.ntmps71
  go_wp2_with fail
  refine (J.out _ (alloc_below _ _)).mono ?_
  rintro e w1 ⟨rfl, hb⟩
  go_wp2_with fail
  go_ret2
  exact ⟨rfl, (alloc_below w _).trans (hb.mono (by simp))⟩
set_option maxRecDepth 100000 in
theorem no_next (x : Value) (w : World) (h : NotMade x w) (i g : Int) : Calls Try.prog 38 #[x, .agg #[.int .i64 i, .int .i64 g]] w fun e w' => e = .returned (.tuple #[.agg #[.string ⟨#[]⟩, .string ⟨#[]⟩], .int .i64 1]) ∧ Below w.heap.size w w' := by
  have HP := Lib.hid (show Below w.heap.size w (w.alloc (.cells #[.int .i64 i, .int .i64 g] 52)) from alloc_below w _)
  have e1 : (w.alloc (.cells #[.int .i64 i, .int .i64 g] 52)).heap.size = w.heap.size + 1 := by simp
  have hb0 := alloc_below (w.alloc (.cells #[.int .i64 i, .int .i64 g] 52)) (.cells #[.string ⟨#[]⟩, .string ⟨#[]⟩] 31)
  have HR := Row2.new (w.alloc (.cells #[.int .i64 i, .int .i64 g] 52)) 31 (.string ⟨#[]⟩) (.string ⟨#[]⟩)
  rw [e1] at HR hb0
  have HQ := Lib.hid (HP.out.trans (hb0.mono (by omega)))
  have J2 := Lib.hid (no_walkOf x _ (h.below HQ.out) i g)
  clear hb0
  go_enter Try.func38, Try.ntmps38
  go_wp2_with fail
  refine J2.out.mono ?_
  rintro e w1 ⟨rfl, hb⟩
  have HN := HR.below hb (Nat.le_refl _)
  have z0 := HN.fz 0
  have z1 := HN.fz 1
  have y0 := HN.c0
  have y1 := HN.c1
  go_wp2_with fail
  have HX := HN.set (u0 := .string ⟨#[]⟩) (u1 := .string ⟨#[]⟩)
  have k0 := HX.c0
  have k1 := HX.c1
  refine bodyPost_ret (v := .tuple #[.agg #[.string ⟨#[]⟩, .string ⟨#[]⟩], .int .i64 1]) (by simp [results, Try.f38, go_sem, k0, k1]) rfl ?_
  exact ⟨rfl, set2_below (HQ.out.trans (hb.mono HQ.out.size)) (by omega) _ _⟩
set_option maxRecDepth 100000 in
theorem no_prev (x : Value) (w : World) (h : NotMade x w) (i g : Int) : Calls Try.prog 39 #[x, .agg #[.int .i64 i, .int .i64 g]] w fun e w' => e = .returned (.tuple #[.agg #[.string ⟨#[]⟩, .string ⟨#[]⟩], .int .i64 1]) ∧ Below w.heap.size w w' := by
  have HP := Lib.hid (show Below w.heap.size w (w.alloc (.cells #[.int .i64 i, .int .i64 g] 52)) from alloc_below w _)
  have e1 : (w.alloc (.cells #[.int .i64 i, .int .i64 g] 52)).heap.size = w.heap.size + 1 := by simp
  have hb0 := alloc_below (w.alloc (.cells #[.int .i64 i, .int .i64 g] 52)) (.cells #[.string ⟨#[]⟩, .string ⟨#[]⟩] 31)
  have HR := Row2.new (w.alloc (.cells #[.int .i64 i, .int .i64 g] 52)) 31 (.string ⟨#[]⟩) (.string ⟨#[]⟩)
  rw [e1] at HR hb0
  have HQ := Lib.hid (HP.out.trans (hb0.mono (by omega)))
  have J2 := Lib.hid (no_walkOf x _ (h.below HQ.out) i g)
  clear hb0
  go_enter Try.func39, Try.ntmps39
  go_wp2_with fail
  refine J2.out.mono ?_
  rintro e w1 ⟨rfl, hb⟩
  have HN := HR.below hb (Nat.le_refl _)
  have z0 := HN.fz 0
  have z1 := HN.fz 1
  have y0 := HN.c0
  have y1 := HN.c1
  go_wp2_with fail
  have HX := HN.set (u0 := .string ⟨#[]⟩) (u1 := .string ⟨#[]⟩)
  have k0 := HX.c0
  have k1 := HX.c1
  refine bodyPost_ret (v := .tuple #[.agg #[.string ⟨#[]⟩, .string ⟨#[]⟩], .int .i64 1]) (by simp [results, Try.f39, go_sem, k0, k1]) rfl ?_
  exact ⟨rfl, set2_below (HQ.out.trans (hb.mono HQ.out.size)) (by omega) _ _⟩
set_option maxRecDepth 100000 in
theorem no_open (x : Value) (w : World) (h : NotMade x w) (i g : Int) (lo hi : ByteArray) (b : Bool) : Calls Try.prog 35 #[x, .agg #[.int .i64 i, .int .i64 g], .agg #[.string lo, .string hi, .bool b]] w fun e w' => e = .returned (.tuple #[.agg #[.int .i64 0, .int .i64 0], .int .i64 1]) ∧ Below w.heap.size w w' := by
  have HP := Lib.hid (show Below w.heap.size w ((w.alloc (.cells #[.int .i64 i, .int .i64 g] 52)).alloc (.cells #[.string lo, .string hi, .bool b] 24)) from (alloc_below w _).trans ((alloc_below _ _).mono (by simp)))
  have e1 : ((w.alloc (.cells #[.int .i64 i, .int .i64 g] 52)).alloc (.cells #[.string lo, .string hi, .bool b] 24)).heap.size = w.heap.size + 2 := by simp
  have hb0 := alloc_below ((w.alloc (.cells #[.int .i64 i, .int .i64 g] 52)).alloc (.cells #[.string lo, .string hi, .bool b] 24)) (.cells #[.int .i64 0, .int .i64 0] 52)
  have HR := Row2.new ((w.alloc (.cells #[.int .i64 i, .int .i64 g] 52)).alloc (.cells #[.string lo, .string hi, .bool b] 24)) 52 (.int .i64 0) (.int .i64 0)
  rw [e1] at HR hb0
  have HQ := Lib.hid (HP.out.trans (hb0.mono (by omega)))
  have J2 := Lib.hid (h _ HQ.out)
  clear hb0
  go_enter Try.func35, Try.ntmps35
  go_wp2_with fail
  refine J2.out.mono ?_
  rintro e w1 ⟨rfl, hb⟩
  have HN := HR.below hb (Nat.le_refl _)
  have z0 := HN.fz 0
  have z1 := HN.fz 1
  have y0 := HN.c0
  have y1 := HN.c1
  go_wp2_with fail
  have HX := HN.set (u0 := .int .i64 0) (u1 := .int .i64 0)
  have k0 := HX.c0
  have k1 := HX.c1
  refine bodyPost_ret (v := .tuple #[.agg #[.int .i64 0, .int .i64 0], .int .i64 1]) (by simp [results, Try.f35, go_sem, k0, k1]) rfl ?_
  exact ⟨rfl, set2_below (HQ.out.trans (hb.mono HQ.out.size)) (by omega) _ _⟩
end Go.Proofs.Ytbgpcmpbfenplaa.KK
