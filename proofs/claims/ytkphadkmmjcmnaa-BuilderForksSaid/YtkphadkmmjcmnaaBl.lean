/-
  Contracts of the reference's run, Of.
-/
import Derived.Test.YtkphadkmmjcmnaaBi
namespace Go.Proofs.Ytkphadkmmjcmnaa.KK
open Go.ChangeShapes Go.WideShapes Go.ChangeAt Go.RowKit Go.Proofs

set_option maxRecDepth 100000 in
/-- append of a whole list to one's own, wherever the list lies -/
theorem wpList_append_es {ops : Array Oper} {rest : List Oper} {o : Oper} {a : Act} {w : World} {Q : Exit → Act → World → Prop} (hgd : o.guard = none) (s x : Operand)
    (ho : o.op = .call { callee := .builtin .append, args := #[s, x], argTypes := #[41, 41] })
    (base : Nat) (v : Value) (n : Nat) (ys : List El.En) (hs : a.eval s = v) (hown : w.ownsRow base 36 4 v n (cellsE ys))
    (A : Option Addr) (m c : Nat) (xs : List El.En) (hx : a.eval x = .slice A m c) (hm : m = xs.length) (hes : EsAt w A xs) (hnil : A = none → c = 0) (hlen : n + m ≤ 4294967295) (hbase : base ≤ w.heap.size)
    (h : ∀ v' w', w'.ownsRow base 36 4 v' (n + m) (cellsE (ys ++ xs)) → w.grownBy w' v.ownBlock → wpList Try.prog ops Q rest (a.put o.dst v') w') :
    wpList Try.prog ops Q (o :: rest) a w := by
  obtain ⟨i0, hi, hz0, hz1, hz2⟩ := info_parts infoE
  cases A with
  | none =>
    have hx0 : xs = [] := by
      rcases hes with h0 | ⟨b, off, e, _⟩
      · exact h0
      · cases e
    subst hx0
    have hc := hnil rfl
    subst hc hm
    refine wpList_append_own_none hgd s x 41 ho base 36 i0 4 Try.underlying41 hi v n (cellsE ys) hs hown hx ?_
    exact h v w (by simpa using hown) ⟨rfl, rfl, rfl, Nat.le_refl _, fun _ _ _ => rfl⟩
  | some ad =>
    have hnews : ∀ j u, (cellsE xs)[j]? = some u → w.cell? (ad.add j) = some u := fun j u hj => by
      have hne : xs ≠ [] := fun e => by rw [e] at hj; simp [cellsE] at hj
      obtain ⟨b, off, e, _, hc⟩ := hes.cells hne
      injection e with e
      subst e
      rw [add_at']; exact hc j u hj
    refine wpList_append_own w hgd s x 41 ho base 36 i0 (.agg #[.string ⟨#[]⟩, .string ⟨#[]⟩, .bool false, .int .i64 0]) 4 48 Try.underlying41 hi hz0 hz1 hz2 rfl (by decide) v n (cellsE ys) hs hown ad m c (cellsE xs) hx (by rw [hm, cellsE_len]) hnews (cellsE_one _) (by unfold maxLen; omega) (by omega) hbase ?_
    intro v' w' hown' hg _
    exact h v' w' (by rw [cellsE_app]; exact hown') hg
theorem own_slice {w : World} {base e size n : Nat} {v : Value} {xs : List Value} (h : w.ownsRow base e size v n xs) : ∃ A c, v = .slice A n c ∧ (A = none → c = 0) ∧ ∀ a, A = some a → base ≤ a.block := by
  rcases h.2 with ⟨rfl, h1⟩ | ⟨g, cap, cur, hv, hb, _⟩
  · exact ⟨none, 0, by rw [h1], fun _ => rfl, fun a h => by cases h⟩
  · exact ⟨_, _, hv, (fun h => by cases h), fun a h => by injection h with h; subst h; exact hb⟩
set_option maxRecDepth 100000 in
set_option maxHeartbeats 1000000 in
/-- a run that copies the entries -/
theorem run_any (id : Int) (A : Option Addr) (c : Nat) (xs : List El.En) (w : World) (hf : EsAt w A xs) (hnil : A = none → c = 0) (hn : xs.length ≤ 5000) :
    Calls Try.prog 38 #[.int .i64 id, .slice A xs.length c] w fun e w' => ∃ A' c', e = .returned (runV id A' xs.length c') ∧ EsAt w' A' xs ∧ (∀ a, A' = some a → w.heap.size ≤ a.block) ∧ (A' = none → c' = 0) ∧ Below w.heap.size w w' := by
  have hb0 := alloc_below w (.cells #[.int .i64 0, .slice none 0 0] 43)
  have HR := Row2.new w 43 (.int .i64 0) (.slice none 0 0)
  have HF := Lib.hid hf
  have e1 : (w.alloc (.cells #[.int .i64 0, .slice none 0 0] 43)).heap.size = w.heap.size + 1 := by simp
  have hmade := (World.ownsRow_made (base := w.heap.size + 1) (e := 36) (size := 4) (w.alloc (.cells #[.int .i64 0, .slice none 0 0] 43)) #[] 0 (by rw [e1]; exact Nat.le_refl _) (Nat.zero_le _) rfl)
  rw [e1] at hmade
  have HM := Lib.hid hmade
  have hb1 := hb0.trans ((alloc_below (w.alloc (.cells #[.int .i64 0, .slice none 0 0] 43)) (.cells #[] 36)).mono (by simp))
  have HB1 := Lib.hid hb1
  have hR1 := HR.below (alloc_below _ (.cells #[] 36)) (Nat.le_refl _)
  clear hmade hb0 hb1 HR hf
  go_enter Try.func38, Try.ntmps38
  go_wp2_with (at_builtin; go_loud (refine wpList_append_es rfl (.tmp 6) (.tmp 7) rfl (w.heap.size + 1) _ 0 [] rfl HM.out A xs.length c xs rfl rfl (HF.out.below HB1.out (Nat.le_refl _)) hnil (by omega) (by simp) ?_; intro v' w1 hown hg; rw [Nat.zero_add, List.nil_append] at hown; have HO := Lib.hid hown; have HG := Lib.hid hg; obtain ⟨A', c', hv', hn', hb'⟩ := own_slice hown; subst hv'; have hR2 := hR1.chg (Chg.of_grown hg) (fun e => by injection e with e; simp only at e; omega); have r0 := hR2.c0; have r1 := hR2.c1; have z0 := hR2.fz 0; have z1 := hR2.fz 1; clear hown hg; try rw [Nat.zero_add]))
  have HX := hR2.set (.int .i64 id) (.slice A' xs.length c')
  have k0 := HX.c0
  have k1 := HX.c1
  refine bodyPost_ret (v := .agg #[.int .i64 id, .slice A' xs.length c']) (by simp [results, Try.f38, go_sem, k0, k1]) rfl ?_
  have hE := EsAt.of_own HO.out
  have hb2 : Below w.heap.size w w1 := HB1.out.trans ((Chg.of_grown HG.out).below (fun k hk => by injection hk with hk; simp only at hk; omega) HB1.out.size)
  have hne : ∀ a, A' = some a → ¬ a.block = w.heap.size := fun a h => by have := hb' a h; omega
  exact ⟨A', c', rfl, (chg_set w.heap.size 1 _).es ((chg_set w.heap.size 0 _).es hE hne) hne, fun a h => by have := hb' a h; omega, hn', set2_below hb2 (Nat.le_refl _) _ _⟩
set_option maxRecDepth 100000 in
set_option maxHeartbeats 1000000 in
theorem ROf_any (id : Int) (A : Option Addr) (c : Nat) (xs : List El.En) (w : World) (hf : EsAt w A xs) (hnil : A = none → c = 0) (hn : xs.length ≤ 4294967295) (hs : Sized xs) (hid : -9223372036854775808 ≤ id ∧ id ≤ 9223372036854775807) :
    Calls Try.prog 22 #[.int .i64 id, .slice A xs.length c] w fun e w' => RunOut w w' e (ofId id xs) (ofL id xs) (ofE id xs) := by
  have hb0 := alloc_below w (.cells #[.int .i64 0, .slice none 0 0] 43)
  have HR := Row2.new w 43 (.int .i64 0) (.slice none 0 0)
  have J := Lib.hid (fun (w' : World) (hb : Below w.heap.size w w') => fList_any A c xs w' (hf.below hb (Nat.le_refl _)) hn hs)
  by_cases hi : id < 1 ∨ 1000000 < id
  · have HE := Lib.hid (ofE_id (xs := xs) hi)
    have HOut : Hid (∀ w' e, e = .returned (.tuple #[.agg #[.int .i64 0, .slice none 0 0], .int .i64 7]) → Below w.heap.size w w' → RunOut w w' e (ofId id xs) (ofL id xs) (ofE id xs)) := Lib.hid (fun w' e he hb => by
      unfold ofId ofL; rw [HE.out]; exact ⟨none, 0, he, .inl rfl, (fun a h => by cases h), fun _ => rfl, hb⟩)
    clear hf J
    by_cases h1 : id < 1
    · generalize xs.length = n at *
      go_enter Try.func22, Try.ntmps22
      go_wp2_with fail
      refine bodyPost_ret (v := .tuple #[.agg #[.int .i64 0, .slice none 0 0], .int .i64 7]) (by simp [results, Try.f22, go_sem]) rfl ?_
      exact HOut.out _ _ rfl hb0
    · have h2 : 1000000 < id := by omega
      generalize xs.length = n at *
      go_enter Try.func22, Try.ntmps22
      go_wp2_with fail
      refine bodyPost_ret (v := .tuple #[.agg #[.int .i64 0, .slice none 0 0], .int .i64 7]) (by simp [results, Try.f22, go_sem]) rfl ?_
      exact HOut.out _ _ rfl hb0
  have h1 : ¬ id < 1 := by omega
  have h2 : ¬ 1000000 < id := by omega
  by_cases he : (listE xs).2 = 0
  rotate_left
  · have HE := Lib.hid (ofE_list hi he)
    obtain ⟨b1, b2⟩ := ne_b he
    have HOut : Hid (∀ w' e, e = .returned (.tuple #[.agg #[.int .i64 0, .slice none 0 0], .int .i64 (listE xs).2]) → Below w.heap.size w w' → RunOut w w' e (ofId id xs) (ofL id xs) (ofE id xs)) := Lib.hid (fun w' e hx hb => by
      unfold ofId ofL; rw [HE.out, if_neg he, if_neg he]; exact ⟨none, 0, hx, .inl rfl, (fun a h => by cases h), fun _ => rfl, hb⟩)
    clear hf he hi HE
    generalize (listE xs).1 = r1 at *
    generalize (listE xs).2 = r at *
    generalize xs.length = n at *
    go_enter Try.func22, Try.ntmps22
    go_wp2_with fail
    refine (J.out _ hb0).mono ?_
    rintro e w1 ⟨rfl, hb⟩
    have HB := Lib.hid (eb_of hb0 hb (Nat.le_refl _))
    have HR2 := HR.below hb (Nat.le_refl _)
    clear hb hb0 HR
    have r0 := HR2.c0
    have r1 := HR2.c1
    have z0 := HR2.fz 0
    have z1 := HR2.fz 1
    go_wp2_with fail
    have HX := HR2.set (.int .i64 0) (.slice none 0 0)
    have k0 := HX.c0
    have k1 := HX.c1
    refine bodyPost_ret (v := .tuple #[.agg #[.int .i64 0, .slice none 0 0], .int .i64 r]) (by simp [results, Try.f22, go_sem, k0, k1]) rfl ?_
    exact HOut.out _ _ rfl (set2_below HB.out (Nat.le_refl _) _ _)
  rw [he] at J
  by_cases hx : xs = []
  · have HE := Lib.hid (ofE_nil hi hx)
    have HOut : Hid (∀ w' e, e = .returned (.tuple #[.agg #[.int .i64 0, .slice none 0 0], .int .i64 4]) → Below w.heap.size w w' → RunOut w w' e (ofId id xs) (ofL id xs) (ofE id xs)) := Lib.hid (fun w' e hy hb => by
      unfold ofId ofL; rw [HE.out]; exact ⟨none, 0, hy, .inl rfl, (fun a h => by cases h), fun _ => rfl, hb⟩)
    have hl : xs.length = 0 := by rw [hx]; rfl
    rw [hl] at J ⊢
    clear hf he hi HE hx hl
    generalize (listE xs).1 = r1 at *
    go_enter Try.func22, Try.ntmps22
    go_wp2_with fail
    refine (J.out _ hb0).mono ?_
    rintro e w1 ⟨rfl, hb⟩
    have HB := Lib.hid (eb_of hb0 hb (Nat.le_refl _))
    have HR2 := HR.below hb (Nat.le_refl _)
    clear hb hb0 HR
    have r0 := HR2.c0
    have r1 := HR2.c1
    have z0 := HR2.fz 0
    have z1 := HR2.fz 1
    go_wp2_with fail
    have HX := HR2.set (.int .i64 0) (.slice none 0 0)
    have k0 := HX.c0
    have k1 := HX.c1
    refine bodyPost_ret (v := .tuple #[.agg #[.int .i64 0, .slice none 0 0], .int .i64 4]) (by simp [results, Try.f22, go_sem, k0, k1]) rfl ?_
    exact HOut.out _ _ rfl (set2_below HB.out (Nat.le_refl _) _ _)
  have hl5 : xs.length ≤ 5000 := by
    unfold listE at he
    by_cases g : 5000 < xs.length
    · rw [if_pos g] at he; cases he
    · omega
  have J2 := Lib.hid (fun (w' : World) (hb : Below w.heap.size w w') => run_any id A c xs w' (hf.below hb (Nat.le_refl _)) hnil hl5)
  have hpos : 0 < xs.length := List.length_pos_iff.2 hx
  have HE := Lib.hid (ofE_ok hi he hx)
  have HOut : Hid (∀ w' e A' cap, e = .returned (.tuple #[.agg #[.int .i64 id, .slice A' xs.length cap], .int .i64 0]) → EsAt w' A' xs → (∀ a, A' = some a → w.heap.size ≤ a.block) → (A' = none → cap = 0) → Below w.heap.size w w' → RunOut w w' e (ofId id xs) (ofL id xs) (ofE id xs)) := Lib.hid (fun w' e A' cap hy hes hg hn hb => by
    unfold ofId ofL; rw [HE.out, if_pos rfl, if_pos rfl]; exact ⟨_, _, hy, hes, hg, hn, hb⟩)
  clear hf he hi HE hx
  generalize (listE xs).1 = r1 at *
  obtain ⟨n, hnn⟩ : ∃ n, xs.length = n := ⟨_, rfl⟩
  rw [hnn] at J J2 HOut hpos hl5 hn ⊢
  have q1 : ((n : Int) == 0) = false := by rw [beq_eq_false_iff_ne]; omega
  clear hnn
  go_enter Try.func22, Try.ntmps22
  go_wp2_with fail
  refine (J.out _ hb0).mono ?_
  rintro e w1 ⟨rfl, hb⟩
  have HB := Lib.hid (eb_of hb0 hb (Nat.le_refl _))
  have HR2 := HR.below hb (Nat.le_refl _)
  clear hb hb0 HR
  go_wp2_with fail
  refine (J2.out _ HB.out).mono ?_
  rintro e w2 ⟨A', cap, rfl, hes, hg, hnl, hb⟩
  unfold runV
  have HB2 := Lib.hid (eb_of HB.out hb (Nat.le_refl _))
  have HR3 := HR2.below hb (Nat.le_refl _)
  have hg2 : ∀ a, A' = some a → w.heap.size ≤ a.block ∧ ¬ a.block = w.heap.size := fun a h => by have := HR2.lt; have := hg a h; omega
  have HES := Lib.hid hes
  clear hb HR2 hes
  have r0 := HR3.c0
  have r1 := HR3.c1
  have z0 := HR3.fz 0
  have z1 := HR3.fz 1
  go_wp2_with fail
  have HX := HR3.set (.int .i64 id) (.slice A' n cap)
  have k0 := HX.c0
  have k1 := HX.c1
  refine bodyPost_ret (v := .tuple #[.agg #[.int .i64 id, .slice A' n cap], .int .i64 0]) (by simp [results, Try.f22, go_sem, k0, k1]) rfl ?_
  exact HOut.out _ _ A' cap rfl ((chg_set w.heap.size 1 _).es ((chg_set w.heap.size 0 _).es HES.out (fun a h => (hg2 a h).2)) (fun a h => (hg2 a h).2)) (fun a h => (hg2 a h).1) hnl (set2_below HB2.out (Nat.le_refl _) _ _)
end Go.Proofs.Ytkphadkmmjcmnaa.KK
