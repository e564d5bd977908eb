/-
  Proved: for any state, entry and bottom, ShadowSteps returns true: Begin, Check and Step of the program answer as the reference's do. Conditions: none beside those of the given statement.
-/
import Derived.Test.YtlobkbhghpknmaaRows
import Derived.Test.YtlobkbhghpknmaaSv
import Derived.Test.YtlobkbhghpknmaaOt
import Derived.WalkKit
import Derived.ProofKit
import Derived.OpenShut
import Derived.MakeChecks
import Derived.Deep.DeepHandedRow
import Derived.Lay
import Derived.JoinedCond
import Derived.Lib.SmallJoins
namespace Go.Proofs.Ytlobkbhghpknmaa.ShadowStepsClaim
open Go.ChangeShapes Go.ChangeMaps Go.WideShapes Go.ChangeAt Go.RowKit Go.Proofs Go.Lib Go.Joins

theorem own : ownKnob Try.prog.godebug = none := by kernel_rfl

set_option maxRecDepth 100000 in
theorem lifted (os : Os) (started : os.Started) (H : Type) (enc : TypeId × Value → H) (F : Stop.Interp) :
    ReturnsInHanded {} Try.checked os 3 .any ((OpenSpec.ofChange Rows.shadowStepsSpec).preRow enc Try.prog Try.f3 Rows.shadowStepsRow.domain false Rows.shadowStepsRow.laid) (((OpenSpec.ofChange Rows.shadowStepsSpec).at F).post enc Try.prog Try.f3 false true false false) := by
  refine returnsInHanded_of_row (C := Try.checked) (s := OpenSpec.ofChange Rows.shadowStepsSpec) own started (by kernel_rfl) Try.func3
    (ChangeSpec.witness_shaped (enc := enc) (C := Try.checked) (os := os) (s := Rows.shadowStepsSpec) (X := fun w _ => laidMetH Try.prog Rows.shadowStepsRow.laid w) false (World.laidAll Try.prog os Rows.shadowStepsRow.laid) #[.agg #[.bool false, .string ⟨#[]⟩, .bool false], .agg #[.string ⟨#[]⟩, .string ⟨#[]⟩, .bool false, .int .i64 0], .bool false] 8 (World.laidAll_os _ _ _)
      (World.shaped_of_ZipB (by kernel_rfl) (by kernel_rfl)) (by kernel_rfl) (by kernel_rfl) (by kernel_rfl)
      (by rw [MakeChecks.laidMetH_plain _ _ _ (by kernel_rfl)]; exact laidMet_laidAll _ (by kernel_rfl) (by kernel_rfl))) ?_
  intro W base args ds gs before hval0 hW _ _ _ hL hsh _
  have hval : ∀ (j : Nat) t v, Try.f3.params[j]? = some t → args[j]? = some v → Value.okWide Try.prog W .any base t v := hval0
  have hW' := hW
  obtain ⟨p, q, hA0, hV, rfl, hfz, hnd⟩ := hW
  have hA : DataW.TrodAll enc Try.prog W 0 (fun _ => true) true Try.f3.params.toList args.toList ds p := hA0
  rw [Try.params3] at hA hval
  obtain ⟨v0, vs0, d0, ds0, p0, q0, hargs, rfl, rfl, h0, r0⟩ := trodAll_cons hA
  obtain ⟨v1, vs1, d1, ds1, p1, q1, rfl, rfl, rfl, h1, r1⟩ := trodAll_cons r0
  obtain ⟨v2, vs2, d2, ds2, p2, q2, rfl, rfl, rfl, h2, r2⟩ := trodAll_cons r1
  obtain ⟨rfl, rfl, rfl⟩ := trodAll_nil r2
  obtain rfl : args = #[v0, v1, v2] := by cases args; simp_all
  obtain ⟨rfl, rfl⟩ := trodVars_none hV
  obtain ⟨s0, l0, b0, rfl, hl0, rfl, hback0⟩ := KK.state_open (hval 0 23 v0 rfl rfl) h0
  obtain ⟨k1, x1, dd1, q1, rfl, rfl, hk1, hx1, hback1⟩ := KK.entry_open (hval 1 25 v1 rfl rfl) h1
  obtain ⟨b2, rfl, rfl, rfl⟩ := open_bool Try.underlying4 (hval 2 4 v2 rfl rfl) h2
  clear hA0
  simp only [List.append_nil, List.nil_append] at hW'
  refine (KK.Steps_any s0 l0 b0 k1 x1 dd1 q1 b2 W (by unfold maxLen at hl0; omega) (by unfold maxLen at hk1; omega) (by unfold maxLen at hx1; omega)).mono fun e W' ⟨h, hb⟩ => ?_
  subst h
  refine ⟨_, rfl, _, _, _, [], [], [], hW', trodAll_mk1 (shut_bool Try.underlying4 _), ?_, rfl, hb.frame _, fun h => by cases h⟩
  have ht := (trodAll_cons_mk (hback0 W' 0 (fun b => decide (b < W.heap.size)) true) (trodAll_cons_mk (hback1 W' 0 (fun b => decide (b < W.heap.size)) true) (trodAll_cons_mk (shut_bool (enc := enc) (P := Try.prog) (w := W') (base := 0) (spare := fun b => decide (b < W.heap.size)) (held := true) Try.underlying4 b2) trodAll_mk0)))
  simp only [List.append_nil, List.nil_append] at ht
  exact ht

/-- the statement -/
theorem said : Rows.ShadowStepsSaid :=
  OpenClaim.holds_of_cond 3 Try.f3 rfl rfl rfl rfl rfl rfl rfl ⟨rfl, rfl, rfl, rfl, rfl⟩ rfl rfl rfl rfl rfl (by kernel_rfl) Try.func3 (by kernel_rfl)
    (of_decide_eq_true (by kernel_rfl)) (by unfold Func.isWrapper; first | (rw [if_pos (by decide +kernel)]; kernel_rfl) | (rw [if_neg (by decide +kernel)]; exact ⟨rfl, rfl⟩))
    (fun os started H enc _ F => by rw [OpenClaim.pre_eq_preRow]; exact lifted os started H enc F)
end Go.Proofs.Ytlobkbhghpknmaa.ShadowStepsClaim
