/-
  Contract of parse, inside a fence, put together.
-/
import Derived.Test.YthifbihmogjjpaaDoorWi
namespace Go.Proofs.YthifbihmogjjpaaDoor
open Go.ChangeShapes Go.WideShapes Go.ChangeAt Go.RowKit Go.Proofs
attribute [local go_sem] Oper.semAt_some

set_option maxRecDepth 100000 in
set_option maxHeartbeats 2000000 in
theorem parse_0 (n : Nat) (s : ByteArray) (l n0 bf : Nat) (w : World) (he : EscAt w) (hs : s.size ≤ 4294967295) (J Jx : List (Option (List UInt8 × Bool)) → World → Prop) (Q : Exit → Act → World → Prop) (B : Nat)
    (hJ : ∀ pre A A' row, J pre A → A.grownBy A' row → (∀ r, row = some r → r = bf) → J pre A') (hn : n0 ≤ bf) (hg : 0 < n0)
    (hY : YieldsF n l n0 bf (Pl.its (Pl.L s)) J Jx) (hQ : ∀ a W, a.defers = [] → Out s J Jx W → Q .ret a W)
    (rest : Code) (hrest : findLabel parseC 0 = some (.seq .skip rest))
    (a : Act) (W : World) (k : Nat) (pre : List (Option (List UInt8 × Bool))) (ok c0 c1 : Value) (hk : k ≤ s.size) (hfr : Fr s l bf ok (.int .i64 (k : Int)) a) (hw : Wo n0 bf w J pre c0 c1 W)
    (hits : Pl.its (Pl.L s) = pre ++ Pl.its ((Pl.L s).drop k)) (hlt : k < s.size) (hq : s[k] = 34) (hB : 3 * (s.size - k) + 1 ≤ B) :
    rest.wpIn Fence.wide n Tryd.prog (LQ s l n0 bf w J Jx B Q) a W := by
  have e : findLabel parseC 0 = some (.seq .skip _) := rfl
  rw [e] at hrest
  injection hrest with hrest
  injection hrest with _ hrest
  subst hrest
  clear e
  obtain ⟨u2, u3, u7, u8, u9, u10, u11, u12, u13, u14, u15, u16, u17, u18, u19, u20, u21, u22, u23, u24, u25, u26, u27, u28, u29, u30, u31, u32, u33, u34, u35, u36, u37, u38, u39, u40, u41, u42, u43, u44, u45, u46, u47, u48, u49, u50, u51, u52, u53, u54, u55, u56, u57, u58, rfl⟩ := hfr
  have he' : EscAt W := he.below hw.2.2 hg
  have HF := Lib.hid (Pl.fld_q s k hlt hq)
  have HI := Lib.hid hits
  have HW := Lib.hid hw
  have HJ := Lib.hid hJ
  have HY := Lib.hid hY
  have HQ := Lib.hid hQ
  have HE := Lib.hid he'
  clear hits hw hJ hY hQ hq he he'
  cases hr : Pl.rq ((Pl.L s).drop k) with
  | none =>
    have HR := Lib.hid hr
    have HIT : Hid (Pl.its ((Pl.L s).drop k) = [none]) := Lib.hid (Pl.its_none (by rw [HF.out, hr]; rfl))
    clear hr
    gi_wp2_with (refine ⟨trivial, (fun h => by cases h), ?_⟩; refine (callsIn_wide.2 (readQuoted_no s k _ HE.out hs hk HR.out)).mono ?_; rintro e w1 ⟨rfl, hb⟩; have HB := Lib.hid hb; clear hb; have hw1 := HW.out.below HJ.out hn HB.out; have f0 := hw1.2.1.c0; have f1 := hw1.2.1.c1; have z0 := hw1.2.1.fz 0; have z1 := hw1.2.1.fz 1; have HW1 := Lib.hid hw1; clear hw1)
    refine wpIn_label ?_
    simp only [Exit.then]
    gi_step
    exact parse_2no n s l n0 bf w J Jx Q B HY.out HQ.out _ rfl _ _ pre _ _ _ ⟨_, _, _, _, _, _, _, _, _, _, _, _, _, _, _, _, _, _, _, _, _, _, _, _, _, _, _, _, _, _, _, _, _, _, _, _, _, _, _, _, _, _, _, _, _, _, _, _, _, _, _, _, _, _, rfl⟩ (HW1.out.store HJ.out hn) (by rw [HI.out, HIT.out])
  | some x =>
    obtain ⟨T, M⟩ := x
    have HR := Lib.hid hr
    have hM := Pl.rq_len hr
    rw [List.length_drop, Pl.L_length] at hM
    have HIT : Hid (Pl.its ((Pl.L s).drop k) = some (T, true) :: Pl.tail ((Pl.L s).drop (k + M))) := Lib.hid (by
      rw [Pl.its_some (by rw [HF.out, hr]; rfl), List.drop_drop])
    clear hr
    gi_wp2_with (refine ⟨trivial, (fun h => by cases h), ?_⟩; refine (callsIn_wide.2 (readQuoted_yes s k T M _ HE.out hs hk HR.out)).mono ?_; rintro e w1 ⟨rfl, hb⟩; have HB := Lib.hid hb; clear hb; have hw1 := HW.out.below HJ.out hn HB.out; have f0 := hw1.2.1.c0; have f1 := hw1.2.1.c1; have z0 := hw1.2.1.fz 0; have z1 := hw1.2.1.fz 1; have HW1 := Lib.hid hw1; clear hw1)
    refine wpIn_label ?_
    simp only [Exit.then]
    gi_step
    exact parse_2yes n s l n0 bf w hs J Jx Q B HY.out HQ.out _ rfl _ _ (k + M) pre T true (by omega) ⟨_, _, _, _, _, _, _, _, _, _, _, _, _, _, _, _, _, _, _, _, _, _, _, _, _, _, _, _, _, _, _, _, _, _, _, _, _, _, _, _, _, _, _, _, _, _, _, _, _, _, _, _, _, _, rfl⟩ (HW1.out.store HJ.out hn) (by rw [HI.out, HIT.out]) (by omega)

set_option maxRecDepth 100000 in
set_option maxHeartbeats 2000000 in
theorem parse_in (n : Nat) (s : ByteArray) (l n0 : Nat) (w : World) (he : EscAt w) (hs : s.size ≤ 4294967295) (hg : 0 < n0) (hn : n0 ≤ w.heap.size)
    (J Jx : List (Option (List UInt8 × Bool)) → World → Prop)
    (hJ : ∀ pre A A' row, J pre A → A.grownBy A' row → (∀ r, row = some r → r = w.heap.size) → J pre A')
    (hY : YieldsF n l n0 w.heap.size (Pl.its (Pl.L s)) J Jx) (h0 : J [] w) :
    CallsIn Fence.wide n Tryd.prog 45 #[.string s, .func (.yield l) #[] #[]] w fun e W' => (∃ v, e = .returned v) ∧ Out s J Jx W' := by
  refine callsIn_of_wp Tryd.func45 rfl trivial ?_ rfl
  simp only [Tryd.ntmps45, List.size_toArray, List.length_cons, List.length_nil, Nat.reduceAdd, Nat.reduceSub, Array.replicate_succ, Array.replicate_zero, List.push_toArray, List.append_toArray, List.nil_append, List.cons_append]
  have hQ : ∀ (a : Act) (W : World), a.defers = [] → Out s J Jx W → bodyPost Tryd.prog Tryd.f45 (fun e W' => (∃ v, e = .returned v) ∧ Out s J Jx W') .ret a W :=
    fun a W hd ho => bodyPost_ret (results_none rfl _ _ _) hd ⟨⟨_, rfl⟩, ho⟩
  refine wpIn_scope_labels (PJ s l n0 w.heap.size w J) (PM s) ?_ ?_
  · have HJ := Lib.hid hJ
    have HQ := Lib.hid hQ
    have H0 := Lib.hid h0
    clear hJ hQ h0 hY he
    have hw0 : Wo n0 w.heap.size w J [] (.string ⟨#[]⟩) (.bool false) (w.alloc (.cells #[.string ⟨#[]⟩, .bool false] 48)) :=
      ⟨HJ.out _ _ _ none H0.out (World.grownBy_alloc w _ none) (fun r e => by cases e), by unfold Box2; exact World.alloc_heap_new w _, (Below.refl _ _).alloc hn _⟩
    have HW := Lib.hid hw0
    clear hw0
    gi_wp2
    refine wpIn_label ?_
    simp only [Exit.then]
    gi_step
    refine wpIn_mono (parse_1 n s l n0 w.heap.size w hs J Jx (bodyPost Tryd.prog Tryd.f45 (fun e W' => (∃ v, e = .returned v) ∧ Out s J Jx W')) (3 * s.size + 2) HJ.out hn _ rfl _ _ 0 [] _ _ _ (Nat.zero_le _) ⟨_, _, _, _, _, _, _, _, _, _, _, _, _, _, _, _, _, _, _, _, _, _, _, _, _, _, _, _, _, _, _, _, _, _, _, _, _, _, _, _, _, _, _, _, _, _, _, _, _, _, _, _, _, _, rfl⟩ HW.out (by simp) (by omega)) ?_
    rintro e a W h
    cases e with
    | goto l2 => exact h.1
    | _ => exact h
  · rintro lab a W hp
    rcases lab with _ | _ | _ | lab
    · obtain ⟨k, pre, ok, c0, c1, hk, hfr, hw, hits, hlt, hq⟩ := hp
      refine ⟨_, rfl, ?_⟩
      refine wpIn_seq (wpIn_skip ?_)
      exact parse_0 n s l n0 w.heap.size w he hs J Jx _ _ hJ hn hg hY hQ _ rfl a W k pre ok c0 c1 hk hfr hw hits hlt hq (by obtain ⟨u2, u3, u7, u8, u9, u10, u11, u12, u13, u14, u15, u16, u17, u18, u19, u20, u21, u22, u23, u24, u25, u26, u27, u28, u29, u30, u31, u32, u33, u34, u35, u36, u37, u38, u39, u40, u41, u42, u43, u44, u45, u46, u47, u48, u49, u50, u51, u52, u53, u54, u55, u56, u57, u58, rfl⟩ := hfr; simp [PM, intOf])
    · obtain ⟨k, pre, ok, c0, c1, hk, hfr, hw, hits⟩ := hp
      refine ⟨_, rfl, ?_⟩
      refine wpIn_seq (wpIn_skip ?_)
      exact parse_1 n s l n0 w.heap.size w hs J Jx _ _ hJ hn _ rfl a W k pre ok c0 c1 hk hfr hw hits (by obtain ⟨u2, u3, u7, u8, u9, u10, u11, u12, u13, u14, u15, u16, u17, u18, u19, u20, u21, u22, u23, u24, u25, u26, u27, u28, u29, u30, u31, u32, u33, u34, u35, u36, u37, u38, u39, u40, u41, u42, u43, u44, u45, u46, u47, u48, u49, u50, u51, u52, u53, u54, u55, u56, u57, u58, rfl⟩ := hfr; simp [PM, intOf])
    · refine ⟨_, rfl, ?_⟩
      refine wpIn_seq (wpIn_skip ?_)
      rcases hp with ⟨k, pre, t, q, hk, hfr, hw, hits⟩ | ⟨pre, at_, c0, c1, hfr, hw, hits⟩
      · exact parse_2yes n s l n0 w.heap.size w hs J Jx _ _ hY hQ _ rfl a W k pre t q hk hfr hw hits (by obtain ⟨u2, u3, u7, u8, u9, u10, u11, u12, u13, u14, u15, u16, u17, u18, u19, u20, u21, u22, u23, u24, u25, u26, u27, u28, u29, u30, u31, u32, u33, u34, u35, u36, u37, u38, u39, u40, u41, u42, u43, u44, u45, u46, u47, u48, u49, u50, u51, u52, u53, u54, u55, u56, u57, u58, rfl⟩ := hfr; simp [PM, intOf, isTrue])
      · exact parse_2no n s l n0 w.heap.size w J Jx _ _ hY hQ _ rfl a W pre at_ c0 c1 hfr hw hits
    · exact hp.elim
end Go.Proofs.YthifbihmogjjpaaDoor
