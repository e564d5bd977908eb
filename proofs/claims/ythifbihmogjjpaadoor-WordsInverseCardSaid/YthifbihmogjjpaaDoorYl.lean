/-
  Proved: for every string, every list of fields and every row of integers with a number the call of WordsInverse returns true, does not panic, and leaves its arguments as they were. Condition: the eight package variables that the row lists hold what the program's own text lays there when it starts; nothing else is asked.
-/
import Derived.Test.YthifbihmogjjpaaDoorCards
import Derived.Test.YthifbihmogjjpaaDoorTie
import Derived.Test.YthifbihmogjjpaaDoorYa
import Derived.Test.YthifbihmogjjpaaDoorQk
import Derived.Test.YthifbihmogjjpaaDoorYe
import Derived.WalkKit
import Derived.ProofKit
import Derived.OpenShut
import Derived.Lib.SmallJoins
namespace Go.Proofs.YthifbihmogjjpaaDoor.InverseClaim
open Go.ChangeShapes Go.ChangeMaps Go.WideShapes Go.ChangeAt Go.RowKit Go.Proofs Go.Lib Go.Joins

theorem own : ownKnob Tryd.prog.godebug = none := by kernel_rfl
theorem plainLaid : Rows.wordsInverseRow.laid.filter (fun x => x.2.handleName?.isSome) = [] := by kernel_rfl

set_option maxRecDepth 100000 in
theorem lifted (os : Os) (started : os.Started) (H : Type) (enc : TypeId × Value → H) (F : Stop.Interp) :
    ReturnsInHanded {} Tryd.checked os 5 .any ((OpenSpec.ofChange Rows.wordsInverseSpec).preRow enc Tryd.prog Tryd.f5 Rows.wordsInverseRow.domain false Rows.wordsInverseRow.laid) (((OpenSpec.ofChange Rows.wordsInverseSpec).at F).post enc Tryd.prog Tryd.f5 false true false false) := by
  refine returnsInHanded_of_row (C := Tryd.checked) (s := OpenSpec.ofChange Rows.wordsInverseSpec) own started (by kernel_rfl) Tryd.func5
    (ChangeSpec.witness_shaped (enc := enc) (C := Tryd.checked) (os := os) (s := Rows.wordsInverseSpec) (X := fun w _ => laidMetH Tryd.prog Rows.wordsInverseRow.laid w) false (World.laidAll Tryd.prog os Rows.wordsInverseRow.laid) #[.string ⟨#[]⟩, .slice none 0 0, .agg #[.slice none 0 0, .int .i64 0]] 8 (World.laidAll_os _ _ _)
      (World.shaped_of_ZipB (by kernel_rfl) (by kernel_rfl)) (by kernel_rfl) (by kernel_rfl) (by kernel_rfl)
      (by rw [MakeChecks.laidMetH_plain _ _ _ (by kernel_rfl)]; exact laidMet_laidAll _ (by kernel_rfl) (by kernel_rfl))) ?_
  intro W base args ds gs before hval0 hW _ _ _ hL hsh _
  have hval : ∀ (j : Nat) t v, Tryd.f5.params[j]? = some t → args[j]? = some v → Value.okWide Tryd.prog W .any base t v := hval0
  have hW' := hW
  obtain ⟨p, q, hA0, hV, rfl, hfz, hnd⟩ := hW
  have hA : DataW.TrodAll enc Tryd.prog W 0 (fun _ => true) true Tryd.f5.params.toList args.toList ds p := hA0
  rw [Tryd.params5] at hA hval
  obtain ⟨v0, vs0, d0, ds0, p0, q0, hargs, rfl, rfl, h0, r0⟩ := trodAll_cons hA
  obtain ⟨v1, vs1, d1, ds1, p1, q1, rfl, rfl, rfl, h1, r1⟩ := trodAll_cons r0
  obtain ⟨v2, vs2, d2, ds2, p2, q2, rfl, rfl, rfl, h2, r2⟩ := trodAll_cons r1
  obtain ⟨rfl, rfl, rfl⟩ := trodAll_nil r2
  obtain rfl : args = #[v0, v1, v2] := by cases args; simp_all
  obtain ⟨rfl, rfl⟩ := trodVars_none hV
  obtain ⟨s, rfl, rfl, rfl, hs⟩ := open_string Tryd.underlying9 (hval 0 9 v0 rfl rfl) h0
  have sl1 := okWide_slice Tryd.underlying23 (hval 1 23 v1 rfl rfl)
  obtain ⟨A, c, fs, rfl, hF, hlen, hback⟩ := fields_open h1 sl1
  obtain ⟨c20, c21, ⟨d20, p20⟩, ⟨d21, p21⟩, m2, rfl, rfl, rfl, hy0, hy1⟩ := open_agg2 Tryd.underlying33 (by kernel_rfl) (by kernel_rfl) (hval 2 33 v2 rfl rfl) h2
  obtain ⟨B, d, ns, rfl, hG, hfit, hlen2, hback2⟩ := ints_open2 hy0
  obtain ⟨n, e1, hx1, hwf⟩ := DataW.trod_int Tryd.underlying2 hy1
  simp only [List.cons.injEq, and_true] at e1
  subst e1
  simp only [Prod.mk.injEq] at hx1
  obtain ⟨rfl, rfl⟩ := hx1
  have hn : -9223372036854775808 ≤ n ∧ n ≤ 9223372036854775807 := by
    simpa [Lit.wf, IntKind.min, IntKind.max, IntKind.signed, IntKind.bits] using hwf
  clear hA0
  simp only [List.append_nil, List.nil_append] at hW'
  rw [MakeChecks.laidMetH_plain _ _ _ (by kernel_rfl)] at hL
  have he : Env W := env_of_reads hsh (laidMet.reads hL (by simp [Rows.wordsInverseRow])) (laidMet.reads hL (by simp [Rows.wordsInverseRow])) (laidMet.reads hL (by simp [Rows.wordsInverseRow]))
  have h4 : C4 W := Tryd.laysM146.s1_3 W hsh
  refine (inv_any s A c fs B d ns n W he h4 hF hG hfit (by unfold maxLen at hs; omega) (by unfold maxLen at hlen; omega) (by unfold maxLen at hlen2; omega) hn.1 hn.2).mono fun e W' ⟨h, hb⟩ => ?_
  subst h
  have hold : ∀ x ∈ p1 ++ p20, (fun b => decide (b < W.heap.size)) x.block = true := fun x hx => by simpa using hW'.lt x (by simpa using hx)
  refine ⟨_, rfl, _, _, _, [], p1 ++ p20, [], hW', trodAll_mk1 (shut_bool Tryd.underlying4 _), ?_, rfl, hb.frame _, fun h => by cases h⟩
  have ht := trodAll_cons_mk (shut_string (enc := enc) (P := Tryd.prog) (w := W') (base := 0) (sp := fun b => decide (b < W.heap.size)) (held := true) Tryd.underlying9 hs)
    (trodAll_cons_mk (hback W' (fun b => decide (b < W.heap.size)) hb (fun x hx => hold x (List.mem_append_left _ hx)))
      (trodAll_mk1 (shut_agg2 (y0 := (d20, p20)) (y1 := (.lit (.int .i64 n), [])) Tryd.underlying33 (by kernel_rfl) (by kernel_rfl) (hback2 W' (fun b => decide (b < W.heap.size)) hb (fun x hx => hold x (List.mem_append_right _ hx))) ⟨1, trod_int_mk 0 Tryd.underlying2 hwf⟩)))
  simp only [List.append_nil, List.nil_append] at ht
  exact ht

theorem said : Rows.WordsInverseSaid :=
  OpenClaim.holds_of_cond 5 Tryd.f5 rfl rfl rfl rfl rfl rfl rfl ⟨rfl, rfl, rfl, rfl, rfl⟩ rfl rfl rfl rfl rfl (by kernel_rfl) Tryd.func5 (by kernel_rfl)
    (of_decide_eq_true (by kernel_rfl)) (by unfold Func.isWrapper; first | (rw [if_pos (by decide +kernel)]; kernel_rfl) | (rw [if_neg (by decide +kernel)]; exact ⟨rfl, rfl⟩))
    (fun os started H enc _ F => by rw [OpenClaim.pre_eq_preRow]; exact lifted os started H enc F)

/-- what the card asks beside -/
theorem plain (f : FuncId) (fn : Func) (hf : Tryd.pinned.checked.prog.funcNamed "bookend/bookendlaw01.WordsInverse" = some f) (hfn : Tryd.pinned.checked.prog.funcs[f]? = some fn) :
    true = Tryd.pinned.checked.prog.looks [] ∧ ∀ (j : Nat) t, fn.params[j]? = some t → Tryd.pinned.checked.prog.wantsStandIn t = false := by
  obtain rfl : f = 5 := Option.some.inj ((show Tryd.prog.funcNamed "bookend/bookendlaw01.WordsInverse" = some 5 by kernel_rfl).symm.trans hf) |>.symm
  obtain rfl : fn = Tryd.f5 := (Option.some.inj (Tryd.func5.symm.trans hfn)).symm
  refine ⟨by kernel_rfl, fun j t ht => ?_⟩
  rw [Tryd.params5] at ht
  have hm : t = 9 ∨ t = 23 ∨ t = 33 := by
    have := Array.mem_of_getElem? ht
    simpa using this
  rcases hm with rfl | rfl | rfl
  · exact (show Tryd.prog.wantsStandIn 9 = false by kernel_rfl)
  · exact (show Tryd.prog.wantsStandIn 23 = false by kernel_rfl)
  · exact (show Tryd.prog.wantsStandIn 33 = false by kernel_rfl)

/-- the statement -/
theorem card : Rows.WordsInverseCardSaid :=
  Claim7.holds_tied_plain_at .later [] _ _ _ _ said (fun _ h => by cases h) (by kernel_rfl) (fun _ h => by cases h) wordsInverse_row_tie rfl ⟨rfl, rfl⟩ (by kernel_rfl) rfl plain (by kernel_rfl)
end Go.Proofs.YthifbihmogjjpaaDoor.InverseClaim
