/-
  Proved: the call of ModelChanges returns true, and does not panic, for every argument; the arguments read as before. No condition.
-/
import Derived.Test.YtbgpcmpbfenplaaRows
import Derived.Test.YtbgpcmpbfenplaaWh
import Derived.Test.YtbgpcmpbfenplaaOr
import Derived.WalkKit
import Derived.ProofKit
import Derived.OpenShut
import Derived.MakeChecks
import Derived.Deep.DeepHandedRow
import Derived.Lay
import Derived.JoinedCond
import Derived.Lib.SmallJoins
namespace Go.Proofs.Ytbgpcmpbfenplaa.ModelChangesClaim
open Go.ChangeShapes Go.ChangeMaps Go.WideShapes Go.ChangeAt Go.RowKit Go.Proofs Go.Lib Go.Joins

theorem own : ownKnob Try.prog.godebug = none := by kernel_rfl

set_option maxRecDepth 100000 in
theorem lifted (os : Os) (started : os.Started) (H : Type) (enc : TypeId × Value → H) (F : Stop.Interp) :
    ReturnsInHanded {} Try.checked os 8 .any ((OpenSpec.ofChange Rows.modelChangesSpec).preRow enc Try.prog Try.f8 Rows.modelChangesRow.domain false Rows.modelChangesRow.laid) (((OpenSpec.ofChange Rows.modelChangesSpec).at F).post enc Try.prog Try.f8 false true false false) := by
  refine returnsInHanded_of_row (C := Try.checked) (s := OpenSpec.ofChange Rows.modelChangesSpec) own started (by kernel_rfl) Try.func8
    (ChangeSpec.witness_shaped (enc := enc) (C := Try.checked) (os := os) (s := Rows.modelChangesSpec) (X := fun w _ => laidMetH Try.prog Rows.modelChangesRow.laid w) false (World.laidAll Try.prog os Rows.modelChangesRow.laid) #[.slice none 0 0, .slice none 0 0, .slice none 0 0] 8 (World.laidAll_os _ _ _)
      (World.shaped_of_ZipB (by kernel_rfl) (by kernel_rfl)) (by kernel_rfl) (by kernel_rfl) (by kernel_rfl)
      (by rw [MakeChecks.laidMetH_plain _ _ _ (by kernel_rfl)]; exact laidMet_laidAll _ (by kernel_rfl) (by kernel_rfl))) ?_
  intro W base args ds gs before hval0 hW _ _ _ hL hsh _
  have hval : ∀ (j : Nat) t v, Try.f8.params[j]? = some t → args[j]? = some v → Value.okWide Try.prog W .any base t v := hval0
  have hW' := hW
  obtain ⟨p, q, hA0, hV, rfl, hfz, hnd⟩ := hW
  have hA : DataW.TrodAll enc Try.prog W 0 (fun _ => true) true Try.f8.params.toList args.toList ds p := hA0
  rw [Try.params8] at hA hval
  obtain ⟨v0, vs0, d0, ds0, p0, q0, hargs, rfl, rfl, h0, r0⟩ := trodAll_cons hA
  obtain ⟨v1, vs1, d1, ds1, p1, q1, rfl, rfl, rfl, h1, r1⟩ := trodAll_cons r0
  obtain ⟨v2, vs2, d2, ds2, p2, q2, rfl, rfl, rfl, h2, r2⟩ := trodAll_cons r1
  obtain ⟨rfl, rfl, rfl⟩ := trodAll_nil r2
  obtain rfl : args = #[v0, v1, v2] := by cases args; simp_all
  obtain ⟨rfl, rfl⟩ := trodVars_none hV
  obtain ⟨A0, c0, xs0, rfl, hF0, hlen0, hz0, hcap0, hnil0, hback0⟩ := KK.ps_open h0 (okWide_slice Try.underlying22 (hval 0 22 v0 rfl rfl))
  obtain ⟨A1, c1, xs1, rfl, hF1, hlen1, hz1, hcap1, hnil1, hback1⟩ := KK.ps_open h1 (okWide_slice Try.underlying22 (hval 1 22 v1 rfl rfl))
  obtain ⟨A2, c2, xs2, rfl, hF2, hlen2, hz2, hcap2, hnil2, hback2⟩ := KK.ws_open h2 (okWide_slice Try.underlying53 (hval 2 53 v2 rfl rfl))
  clear hA0
  simp only [List.append_nil, List.nil_append] at hW'
  refine (KK.Changes_any A0 c0 xs0 A1 c1 xs1 A2 c2 xs2 W hF0 (by unfold maxLen at hlen0; omega) hz0 hnil0 hF1 (by unfold maxLen at hlen1; omega) hz1 hF2 (by unfold maxLen at hlen2; omega) hz2 hcap2).mono fun e W' ⟨h, hb⟩ => ?_
  subst h
  have hold : ∀ x ∈ p0 ++ (p1 ++ p2), (fun b => decide (b < W.heap.size)) x.block = true := fun x hx => by simpa using hW'.lt x (by simpa using hx)
  refine ⟨_, rfl, _, _, _, [], p0 ++ (p1 ++ p2), [], hW', trodAll_mk1 (shut_bool Try.underlying4 _), ?_, rfl, hb.frame _, fun h => by cases h⟩
  have ht := (trodAll_cons_mk (hback0 W' (fun b => decide (b < W.heap.size)) hb (fun x hx => hold x (by simp [hx]))) (trodAll_cons_mk (hback1 W' (fun b => decide (b < W.heap.size)) hb (fun x hx => hold x (by simp [hx]))) (trodAll_cons_mk (hback2 W' (fun b => decide (b < W.heap.size)) hb (fun x hx => hold x (by simp [hx]))) trodAll_mk0)))
  simp only [List.append_nil, List.nil_append] at ht
  exact ht

/-- the statement -/
theorem said : Rows.ModelChangesSaid :=
  OpenClaim.holds_of_cond 8 Try.f8 rfl rfl rfl rfl rfl rfl rfl ⟨rfl, rfl, rfl, rfl, rfl⟩ rfl rfl rfl rfl rfl (by kernel_rfl) Try.func8 (by kernel_rfl)
    (of_decide_eq_true (by kernel_rfl)) (by unfold Func.isWrapper; first | (rw [if_pos (by decide +kernel)]; kernel_rfl) | (rw [if_neg (by decide +kernel)]; exact ⟨rfl, rfl⟩))
    (fun os started H enc _ F => by rw [OpenClaim.pre_eq_preRow]; exact lifted os started H enc F)
end Go.Proofs.Ytbgpcmpbfenplaa.ModelChangesClaim
