/-
  Proved: for every two ranges and every string the call of KeysMeets returns true, does not panic, and leaves its arguments as they were. No condition.
-/
import Derived.Test.YtgljgjkoaaibnaaRows
import Derived.Test.YtgljgjkoaaibnaaNe
import Derived.WalkKit
import Derived.ProofKit
import Derived.OpenShut
import Derived.MakeChecks
import Derived.Deep.DeepHandedRow
import Derived.Lay
import Derived.JoinedCond
import Derived.Lib.SmallJoins
namespace Go.Proofs.Ytgljgjkoaaibnaa.KeysMeetsClaim
open Go.ChangeShapes Go.ChangeMaps Go.WideShapes Go.ChangeAt Go.RowKit Go.Proofs Go.Lib Go.Joins

theorem own : ownKnob Try.prog.godebug = none := by kernel_rfl

set_option maxRecDepth 100000 in
theorem lifted (os : Os) (started : os.Started) (H : Type) (enc : TypeId × Value → H) (F : Stop.Interp) :
    ReturnsInHanded {} Try.checked os 9 .any ((OpenSpec.ofChange Rows.keysMeetsSpec).preRow enc Try.prog Try.f9 Rows.keysMeetsRow.domain false Rows.keysMeetsRow.laid) (((OpenSpec.ofChange Rows.keysMeetsSpec).at F).post enc Try.prog Try.f9 false true false false) := by
  refine returnsInHanded_of_row (C := Try.checked) (s := OpenSpec.ofChange Rows.keysMeetsSpec) own started (by kernel_rfl) Try.func9
    (ChangeSpec.witness_shaped (enc := enc) (C := Try.checked) (os := os) (s := Rows.keysMeetsSpec) (X := fun w _ => laidMetH Try.prog Rows.keysMeetsRow.laid w) false (World.laidAll Try.prog os Rows.keysMeetsRow.laid) #[.agg #[.string ⟨#[]⟩, .string ⟨#[]⟩, .bool false], .agg #[.string ⟨#[]⟩, .string ⟨#[]⟩, .bool false], .string ⟨#[]⟩] 8 (World.laidAll_os _ _ _)
      (World.shaped_of_ZipB (by kernel_rfl) (by kernel_rfl)) (by kernel_rfl) (by kernel_rfl) (by kernel_rfl)
      (by rw [MakeChecks.laidMetH_plain _ _ _ (by kernel_rfl)]; exact laidMet_laidAll _ (by kernel_rfl) (by kernel_rfl))) ?_
  intro W base args ds gs before hval0 hW _ _ _ hL hsh _
  have hval : ∀ (j : Nat) t v, Try.f9.params[j]? = some t → args[j]? = some v → Value.okWide Try.prog W .any base t v := hval0
  have hW' := hW
  obtain ⟨p, q, hA0, hV, rfl, hfz, hnd⟩ := hW
  have hA : DataW.TrodAll enc Try.prog W 0 (fun _ => true) true Try.f9.params.toList args.toList ds p := hA0
  rw [Try.params9] at hA hval
  obtain ⟨v0, vs0, d0, ds0, p0, q0, hargs, rfl, rfl, h0, r0⟩ := trodAll_cons hA
  obtain ⟨v1, vs1, d1, ds1, p1, q1, rfl, rfl, rfl, h1, r1⟩ := trodAll_cons r0
  obtain ⟨v2, vs2, d2, ds2, p2, q2, rfl, rfl, rfl, h2, r2⟩ := trodAll_cons r1
  obtain ⟨rfl, rfl, rfl⟩ := trodAll_nil r2
  obtain rfl : args = #[v0, v1, v2] := by cases args; simp_all
  obtain ⟨rfl, rfl⟩ := trodVars_none hV
  obtain ⟨c00, c01, c02, y00, y01, y02, m0, rfl, rfl, rfl, hy00, hy01, hy02⟩ := open_agg3 Try.underlying33 (by kernel_rfl) (by kernel_rfl) (hval 0 33 v0 rfl rfl) h0
  obtain ⟨lo, e00, rfl, hlo⟩ := DataW.trod_string Try.underlying9 hy00
  obtain ⟨hi, e01, rfl, hhi⟩ := DataW.trod_string Try.underlying9 hy01
  obtain ⟨b, e02, rfl⟩ := DataW.trod_bool Try.underlying4 hy02
  simp at e00 e01 e02
  subst e00 e01 e02
  obtain ⟨c10, c11, c12, y10, y11, y12, m1, rfl, rfl, rfl, hy10, hy11, hy12⟩ := open_agg3 Try.underlying33 (by kernel_rfl) (by kernel_rfl) (hval 1 33 v1 rfl rfl) h1
  obtain ⟨lo2, e10, rfl, hlo2⟩ := DataW.trod_string Try.underlying9 hy10
  obtain ⟨hi2, e11, rfl, hhi2⟩ := DataW.trod_string Try.underlying9 hy11
  obtain ⟨b2, e12, rfl⟩ := DataW.trod_bool Try.underlying4 hy12
  simp at e10 e11 e12
  subst e10 e11 e12
  obtain ⟨k, rfl, rfl, rfl, hk⟩ := open_string Try.underlying9 (hval 2 9 v2 rfl rfl) h2
  clear hA0
  simp only [List.append_nil] at hW'
  refine (KK.KeysMeets_any lo hi b lo2 hi2 b2 k W (by unfold maxLen at hlo; omega) (by unfold maxLen at hhi; omega) (by unfold maxLen at hlo2; omega) (by unfold maxLen at hhi2; omega) (by unfold maxLen at hk; omega)).mono fun e W' ⟨hR, hBel⟩ => ?_
  subst hR
  exact ⟨_, rfl, _, _, _, [], [], [], hW', trodAll_mk1 (shut_bool Try.underlying4 _), (trodAll_cons_mk (shut_agg3 (y0 := (.lit (.string lo.data.toList), [])) (y1 := (.lit (.string hi.data.toList), [])) (y2 := (.lit (.bool b), [])) Try.underlying33 (by kernel_rfl) (by kernel_rfl) (shut_string Try.underlying9 hlo) (shut_string Try.underlying9 hhi) (shut_bool Try.underlying4 b)) (trodAll_cons_mk (shut_agg3 (y0 := (.lit (.string lo2.data.toList), [])) (y1 := (.lit (.string hi2.data.toList), [])) (y2 := (.lit (.bool b2), [])) Try.underlying33 (by kernel_rfl) (by kernel_rfl) (shut_string Try.underlying9 hlo2) (shut_string Try.underlying9 hhi2) (shut_bool Try.underlying4 b2)) (trodAll_cons_mk (shut_string Try.underlying9 hk) trodAll_mk0))), rfl, hBel.frame _, fun h => by cases h⟩

/-- the statement -/
theorem said : Rows.KeysMeetsSaid :=
  OpenClaim.holds_of_cond 9 Try.f9 rfl rfl rfl rfl rfl rfl rfl ⟨rfl, rfl, rfl, rfl, rfl⟩ rfl rfl rfl rfl rfl (by kernel_rfl) Try.func9 (by kernel_rfl)
    (of_decide_eq_true (by kernel_rfl)) (by unfold Func.isWrapper; first | (rw [if_pos (by decide +kernel)]; kernel_rfl) | (rw [if_neg (by decide +kernel)]; exact ⟨rfl, rfl⟩))
    (fun os started H enc _ F => by rw [OpenClaim.pre_eq_preRow]; exact lifted os started H enc F)
end Go.Proofs.Ytgljgjkoaaibnaa.KeysMeetsClaim
