/-
  One put into a list where it belongs, as the reference does it; its sorted, Sort.
-/
import Derived.Test.YtmobjpmkenpckaaDoorIe
import Derived.Test.YtmobjpmkenpckaaDoorHc
import Derived.Test.YtmobjpmkenpckaaDoorGk
namespace Go.Proofs.YtmobjpmkenpckaaDoor.KK
open Go.ChangeShapes Go.WideShapes Go.ChangeAt Go.RowKit Go.Proofs Go.Sort

theorem EsAt.take {w : World} {A : Option Addr} {xs : List El.En} (h : EsAt w A xs) (k : Nat) : EsAt w A (xs.take k) := by
  rcases h with h | ⟨b, off, hA, hb, hc⟩
  · subst h; exact .inl (by simp)
  · refine .inr ⟨b, off, hA, hb, fun i hi => ?_⟩
    have := hc i (by rw [List.length_take] at hi; omega)
    rw [List.getElem_take]; exact this
theorem EsAt.drop {w : World} {A : Option Addr} {xs : List El.En} (h : EsAt w A xs) (k : Nat) : EsAt w (Option.map (fun x => x.add (k * 4)) A) (xs.drop k) := by
  rcases h with h | ⟨b, off, rfl, hb, hc⟩
  · subst h; exact .inl (by simp)
  · refine .inr ⟨b, off + k * 4, by simp [add_at'], hb, fun i hi => ?_⟩
    have := hc (k + i) (by rw [List.length_drop] at hi; omega)
    rw [List.getElem_drop]
    rw [show off + k * 4 + i * 4 = off + (k + i) * 4 by omega]; exact this
theorem own_cap2 {w : World} {base e size n : Nat} {v : Value} {xs : List Value} (h : w.ownsRow base e size v n xs) : ∃ A c, v = .slice A n c ∧ n ≤ c ∧ (A = none → c = 0) := by
  rcases h.2 with ⟨rfl, h1⟩ | ⟨g, cap, cur, hv, _, _, h5, _⟩
  · exact ⟨none, 0, by rw [h1], by omega, fun _ => rfl⟩
  · exact ⟨_, _, hv, h5, fun e => by cases e⟩
theorem leV_gt {x y : V} (h : 0 < El.ord x.1 y.1) : leV x y = false := leV_false (by have := El.ord_swap x.1 y.1; omega)
theorem leV_le {x y : V} (h : ¬ 0 < El.ord x.1 y.1) : leV x y = true := leV_true (by have := El.ord_swap x.1 y.1; omega)
theorem orderV_any (x y : V) (w : World) : Calls Tryd.prog 47 #[.agg #[.string x.1.1, .string x.1.2.1, .bool x.1.2.2.1, .int .i64 x.1.2.2.2], .agg #[.string y.1.1, .string y.1.2.1, .bool y.1.2.2.1, .int .i64 y.1.2.2.2]] w fun e w' => e = .returned (.int .i64 (El.ord x.1 y.1)) ∧ Below w.heap.size w w' :=
  forder_any _ _ _ _ _ _ _ _ w (by have := (El.chk_of x.2).1; omega) (by have := (El.chk_of y.2).1; omega)
theorem made0 (W : World) : (W.alloc (.cells #[] 33)).ownsRow W.heap.size 33 4 (.slice (some ⟨W.heap.size, 0, none⟩) 0 0) 0 [] := World.ownsRow_made W #[] 0 (Nat.le_refl _) (Nat.zero_le _) rfl
theorem esAt_one (w : World) (x : El.En) : EsAt (w.alloc (.cells #[.string x.1, .string x.2.1, .bool x.2.2.1, .int .i64 x.2.2.2] 33)) (some ⟨w.heap.size, 0, none⟩) [x] := esAt_new w [x] 33
set_option maxRecDepth 100000 in
set_option maxHeartbeats 8000000 in
theorem fsorted_any (A : Option Addr) (c : Nat) (l : List V) (w : World) (hf : EsAt w A (l.map (·.1))) (hn : l.length ≤ 5010) :
    Calls Tryd.prog 29 #[.slice A l.length c] w fun e w' => ∃ A' c' m, e = .returned (.slice A' m.length c') ∧ Stb.Stab leV l m ∧ EsAt w' A' (m.map (·.1)) ∧ Below w.heap.size w w' := by
  have HF := Lib.hid hf
  have JC := Lib.hid orderV_any
  clear hf
  obtain ⟨n, hnn⟩ : ∃ n, l.length = n := ⟨_, rfl⟩
  rw [hnn] at hn ⊢
  have HN := Lib.hid hnn
  clear hnn
  go_enter Tryd.func29, Tryd.ntmps29
  go_wp2_with fail
  go_loopw [3, 4] (fun vo vi wr => ∃ (i M c' : Nat) (A' : Option Addr) (mv : List V), vi = .int .i64 i ∧ i ≤ n ∧ vo = .slice A' M c' ∧ M = (mv.map (·.1)).length ∧ M = i ∧ M ≤ c' ∧ Stb.Stab leV (l.take i) mv ∧ EsAt wr A' (mv.map (·.1)) ∧ (A' = none → c' = 0) ∧ Below w.heap.size w wr) (fun _ vi _ => n - (intOf vi).toNat)
  case atStart => exact ⟨0, 0, 0, none, [], by first | rfl | go_num, Nat.zero_le _, rfl, rfl, rfl, Nat.le_refl _, ⟨List.Pairwise.nil, fun z => rfl⟩, .inl rfl, fun _ => rfl, Below.refl _ _⟩
  case round =>
    obtain ⟨i, M, c', A', mv, rfl, him, rfl, hM, hMi, hMc, hst, hes, hz, hb⟩ := hrel
    have HM := Lib.hid hM
    have HST := Lib.hid hst
    have HES := Lib.hid hes
    have HZ := Lib.hid hz
    have HMI := Lib.hid hMi
    have HB := Lib.hid hb
    have hsz := hb.size
    clear hM hst hes hz hb hMi
    by_cases hlt : i < n
    rotate_left
    · have hf1 : ¬ (i : Int) < (n : Int) := by omega
      have HR := Lib.hid (show Stb.Stab leV l mv by have := HST.out; rwa [List.take_of_length_le (by rw [HN.out]; omega)] at this)
      go_wp2_with fail
      go_ret
      exact ⟨A', c', mv, by rw [HM.out, List.length_map]; rfl, HR.out, HES.out, HB.out⟩
    have hf1 : (i : Int) < (n : Int) := by omega
    have hil : i < l.length := by rw [HN.out]; exact hlt
    have hM5 : M ≤ 5010 := by rw [HMI.out]; omega
    go_wp2_with fail
    go_loopw [5] (fun vk wr => ∃ k : Nat, vk = .int .i64 k ∧ k ≤ M ∧ (∀ y ∈ mv.drop k, leV y l[i] = false) ∧ Below w.heap.size w wr ∧ EsAt wr A' (mv.map (·.1))) (fun vk _ => (intOf vk).toNat)
    case atStart => exact ⟨M, by first | rfl | go_num, Nat.le_refl _, fun y hy => by (rw [HM.out, List.length_map, List.drop_length] at hy; cases hy), HB.out, HES.out⟩
    case round =>
      obtain ⟨k, rfl, hkM, hdr, hb, hes⟩ := hrel
      have HB2 := Lib.hid hb
      have HES2 := Lib.hid hes
      have HDR := Lib.hid hdr
      have hsz2 := hb.size
      clear hb hes hdr HB HES
      have hix : i < (l.map (·.1)).length := by rw [List.length_map]; exact hil
      rcases HF.out.below HB2.out (Nat.le_refl _) with h0 | ⟨b, off, rfl, hbl, hc⟩
      · rw [h0] at hix; simp at hix
      obtain ⟨p0, p1, p2, p3⟩ := hc i hix
      clear hc
      have HF2 := Lib.hid (HF.out.below HB2.out (Nat.le_refl _))
      obtain ⟨z, hz⟩ : ∃ z, l[i] = z := ⟨_, rfl⟩
      have hxi : (l.map (·.1))[i] = z.1 := by rw [List.getElem_map, hz]
      rw [hxi] at p0 p1 p2 p3
      have HZZ := Lib.hid hz
      have HX1 := Lib.hid hxi
      clear hz hxi
      by_cases hk : 0 < k
      rotate_left
      · have hk0 : k = 0 := by omega
        subst hk0
        have d1 : decide ((0 : Int) < ((0 : Nat) : Int)) = false := by decide
        have d2 : decide (0 < 0) = false := by decide
        go_wp2_with fail
        refine wp_region_abv (by first | assumption | kernel_rfl) (by kernel_rfl) ?_
        repeat (first | go_big_quiet_step (fail) | quiet_step (fail))
        refine wpQuiet_nil ?_
        intro w9 hw9
        obtain ⟨p, rfl⟩ := hw9
        clear p0 p1 p2 p3
        have HBB := Lib.hid (below_abv HB2.out (Nat.le_refl _) p)
        have HAT := Lib.hid (show ∀ y ∈ mv.take 0, leV y l[i] = true from fun y hy => by simp at hy)
        have HMS := Lib.hid (HES2.out.below p.h (Nat.le_refl _))
        have HXS := Lib.hid (HF2.out.below p.h (Nat.le_refl _))
        obtain ⟨m, hm⟩ : ∃ m, mv.map (·.1) = m := ⟨_, rfl⟩
        rw [hm] at HM HMS
        have HMM := Lib.hid hm
        obtain ⟨⟨xk, xv, xd, xq⟩, hzx⟩ : ∃ x, z.1 = x := ⟨_, rfl⟩
        have HXI := Lib.hid (HX1.out.trans hzx)
        have HZX := Lib.hid hzx
        clear hm hzx
        have HM0 := Lib.hid (made0 p.world)
        have HT1 := Lib.hid (show 0 = (m.take (0)).length by rw [List.length_take, ← HM.out]; omega)
        have HT2 := Lib.hid (show M - (0) = (m.drop (0)).length by rw [List.length_drop, ← HM.out])
        have HXC : Hid (∀ W', Below p.world.heap.size p.world W' → W'.cell? ⟨b, off + i * 4, none⟩ = some (.string xk) ∧ W'.cell? ⟨b, off + i * 4 + 1, none⟩ = some (.string xv) ∧ W'.cell? ⟨b, off + i * 4 + 2, none⟩ = some (.bool xd) ∧ W'.cell? ⟨b, off + i * 4 + 3, none⟩ = some (.int .i64 xq)) := Lib.hid fun W' h => by
          rcases HXS.out.below h (Nat.le_refl _) with h0 | ⟨b', off', e', hbl', hc⟩
          · rw [h0] at hix; simp at hix
          injection e' with e'
          injection e' with e1 e2 _
          subst e1 e2
          have := hc i hix
          rw [HXI.out] at this
          exact this
        by_cases hck : c' = 0
        · subst hck
          obtain rfl : M = 0 := by omega
          go_wp2_with (first | (at_builtin; refine wpList_append_es rfl (.tmp 32) (.tmp 35) rfl p.world.heap.size _ 0 [] rfl HM0.out A' (0) (0) (m.take (0)) rfl HT1.out (HMS.out.below (alloc_below _ _) (Nat.le_refl _) |>.take (0)) HZ.out (by omega) (by simp) ?_; intro v1 W1 hown1 hg1; have hb1 : Below p.world.heap.size p.world W1 := ((Below.refl _ p.world).alloc (Nat.le_refl _) _).grown hg1 (by simp) (fun k hk => (HM0.out.lt k hk).1); have HB1 := Lib.hid hb1; rw [Nat.zero_add, List.nil_append] at hown1; have HO1 := Lib.hid hown1; have hs1 : p.world.heap.size ≤ W1.heap.size := hb1.size; obtain ⟨z0, z1, z2, z3⟩ := HXC.out _ hb1; clear hb1 hg1 hown1) | (at_builtin; refine wpList_append_es rfl (.tmp 37) (.tmp 42) rfl p.world.heap.size _ (0) (m.take (0)) rfl (HO1.out.alloc _) (some ⟨W1.heap.size, 0, none⟩) 1 1 [(xk, xv, xd, xq)] rfl rfl (esAt_one W1 (xk, xv, xd, xq)) (fun e => by cases e) (by omega) (by simp; omega) ?_; intro v2 W2 hown2 hg2; have hb2 := (HB1.out.alloc hs1 (.cells #[.string xk, .string xv, .bool xd, .int .i64 xq] 33)).grown hg2 (by simp; omega) (fun g hg => (HO1.out.lt g hg).1); have HB2' := Lib.hid hb2; have HO2 := Lib.hid hown2; have hs2 : p.world.heap.size ≤ W2.heap.size := hb2.size; clear hb2 hg2 hown2 z0 z1 z2 z3) | (at_builtin; refine wpList_append_es rfl (.tmp 44) (.tmp 47) rfl p.world.heap.size _ (0 + 1) (m.take (0) ++ [(xk, xv, xd, xq)]) rfl HO2.out A' (0) (0) (m.drop (0)) rfl (by first | exact HT2.out | (have := HT2.out; simpa using this)) (by rw [List.drop_eq_nil_of_le (by rw [← HM.out]; omega)]; exact .inl rfl) (fun _ => rfl) (by omega) hs2 ?_; intro v3 W3 hown3 hg3; have hb3 := HB2'.out.grown hg3 hs2 (fun g hg => (HO2.out.lt g hg).1); have HB3 := Lib.hid hb3; obtain ⟨A3, c3, rfl, hc3, hn3⟩ := own_cap2 hown3; have HE3 := Lib.hid (EsAt.of_own hown3); have HC3 := Lib.hid hc3; have HN3 := Lib.hid hn3; clear hb3 hg3 hown3 hc3 hn3))
          go_roundw
          case rel => exact ⟨i + 1, 0 + 1 + 0, c3, A3, mv.take (0) ++ l[i] :: mv.drop (0), by go_num, by omega, rfl, by rw [List.length_map, List.length_append, List.length_cons, List.length_take, List.length_drop]; have := HM.out; rw [← HMM.out, List.length_map] at this; omega, by have := HMI.out; omega, HC3.out, ins_step HST.out hil HAT.out HDR.out, by rw [show (mv.take (0) ++ l[i] :: mv.drop (0)).map (·.1) = (m.take (0) ++ [(xk, xv, xd, xq)]) ++ m.drop (0) by rw [HZZ.out, ← HMM.out, ← HZX.out]; simp]; exact HE3.out, HN3.out, HBB.out.trans (HB3.out.mono HBB.out.size)⟩
          case measure => simp [intOf]; omega

        · have hck2 : ¬ 0 = c' := fun e => hck e.symm
          go_wp2_with (first | (at_builtin; refine wpList_append_es rfl (.tmp 32) (.tmp 35) rfl p.world.heap.size _ 0 [] rfl HM0.out A' (0) c' (m.take (0)) rfl HT1.out (HMS.out.below (alloc_below _ _) (Nat.le_refl _) |>.take (0)) HZ.out (by omega) (by simp) ?_; intro v1 W1 hown1 hg1; have hb1 : Below p.world.heap.size p.world W1 := ((Below.refl _ p.world).alloc (Nat.le_refl _) _).grown hg1 (by simp) (fun k hk => (HM0.out.lt k hk).1); have HB1 := Lib.hid hb1; rw [Nat.zero_add, List.nil_append] at hown1; have HO1 := Lib.hid hown1; have hs1 : p.world.heap.size ≤ W1.heap.size := hb1.size; obtain ⟨z0, z1, z2, z3⟩ := HXC.out _ hb1; clear hb1 hg1 hown1) | (at_builtin; refine wpList_append_es rfl (.tmp 37) (.tmp 42) rfl p.world.heap.size _ (0) (m.take (0)) rfl (HO1.out.alloc _) (some ⟨W1.heap.size, 0, none⟩) 1 1 [(xk, xv, xd, xq)] rfl rfl (esAt_one W1 (xk, xv, xd, xq)) (fun e => by cases e) (by omega) (by simp; omega) ?_; intro v2 W2 hown2 hg2; have hb2 := (HB1.out.alloc hs1 (.cells #[.string xk, .string xv, .bool xd, .int .i64 xq] 33)).grown hg2 (by simp; omega) (fun g hg => (HO1.out.lt g hg).1); have HB2' := Lib.hid hb2; have HO2 := Lib.hid hown2; have hs2 : p.world.heap.size ≤ W2.heap.size := hb2.size; clear hb2 hg2 hown2 z0 z1 z2 z3) | (at_builtin; refine wpList_append_es rfl (.tmp 44) (.tmp 47) rfl p.world.heap.size _ (0 + 1) (m.take (0) ++ [(xk, xv, xd, xq)]) rfl HO2.out A' (M) (c') (m.drop (0)) rfl (by first | exact HT2.out | (have := HT2.out; simpa using this)) (by rw [List.drop_zero]; exact HMS.out.below HB2'.out (Nat.le_refl _)) HZ.out (by omega) hs2 ?_; intro v3 W3 hown3 hg3; have hb3 := HB2'.out.grown hg3 hs2 (fun g hg => (HO2.out.lt g hg).1); have HB3 := Lib.hid hb3; obtain ⟨A3, c3, rfl, hc3, hn3⟩ := own_cap2 hown3; have HE3 := Lib.hid (EsAt.of_own hown3); have HC3 := Lib.hid hc3; have HN3 := Lib.hid hn3; clear hb3 hg3 hown3 hc3 hn3))
          go_roundw
          case rel => exact ⟨i + 1, 0 + 1 + (M - (0)), c3, A3, mv.take (0) ++ l[i] :: mv.drop (0), by go_num, by omega, rfl, by rw [List.length_map, List.length_append, List.length_cons, List.length_take, List.length_drop]; have := HM.out; rw [← HMM.out, List.length_map] at this; omega, by have := HMI.out; omega, HC3.out, ins_step HST.out hil HAT.out HDR.out, by rw [show (mv.take (0) ++ l[i] :: mv.drop (0)).map (·.1) = (m.take (0) ++ [(xk, xv, xd, xq)]) ++ m.drop (0) by rw [HZZ.out, ← HMM.out, ← HZX.out]; simp]; exact HE3.out, HN3.out, HBB.out.trans (HB3.out.mono HBB.out.size)⟩
          case measure => simp [intOf]; omega

      · obtain ⟨j, rfl⟩ : ∃ j, k = j + 1 := ⟨k - 1, by omega⟩
        have g1 : decide ((0 : Int) < ((j + 1 : Nat) : Int)) = true := by rw [decide_eq_true_eq]; omega
        have g2 : decide (0 < j + 1) = true := by simp
        have g3 : IntKind.i64.wrap (((j + 1 : Nat) : Int) - 1) = (j : Int) := by rw [IntKind.wrap_i64]; omega
        have hjm : j < mv.length := by have := HM.out; rw [List.length_map] at this; omega
        have hjM : (j : Int) < (M : Int) := by omega
        have hjM' : j < M := by omega
        rcases HES2.out with h0 | ⟨b', off', rfl, hbl', hc'⟩
        · have := congrArg List.length h0; simp at this; rw [this] at hjm; simp at hjm
        obtain ⟨q0, q1, q2, q3⟩ := hc' j (by simpa using hjm)
        rw [List.getElem_map] at q0 q1 q2 q3
        have J := Lib.hid (fun w => JC.out mv[j] z w)
        obtain ⟨x, hx⟩ : ∃ x, mv[j] = x := ⟨_, rfl⟩
        have HX := Lib.hid hx
        rw [hx] at q0 q1 q2 q3 J
        have p0 := abv_c p0
        have p1 := abv_c p1
        have p2 := abv_c p2
        have p3 := abv_c p3
        have q0 := abv_c q0
        have q1 := abv_c q1
        have q2 := abv_c q2
        have q3 := abv_c q3
        clear hc' hx
        by_cases ho : 0 < El.ord x.1 z.1
        · have hd : decide (0 < El.ord x.1 z.1) = true := by simpa using ho
          have HO := Lib.hid (leV_gt ho)
          clear ho
          generalize El.ord x.1 z.1 = r at *
          go_wp2_with fail
          refine wp_region_abv (by first | assumption | kernel_rfl) (by kernel_rfl) ?_
          repeat (first | go_big_quiet_step (exact callAbv (J.out _)) | quiet_step (exact callAbv (J.out _)))
          refine wpQuiet_nil ?_
          intro w9 hw9
          obtain ⟨p, rfl⟩ := hw9
          go_wp2_with fail
          go_roundw
          case rel => exact ⟨j, by go_num, by omega, fun y hy => (by
            rw [List.drop_eq_getElem_cons hjm] at hy
            rcases List.mem_cons.1 hy with rfl | hy
            · rw [HX.out, HZZ.out]; exact HO.out
            · exact HDR.out y hy), below_abv HB2.out (Nat.le_refl _) p, HES2.out.below p.h (Nat.le_refl _)⟩
          case measure => simp [intOf]
        · have hd : decide (0 < El.ord x.1 z.1) = false := by simpa using ho
          have HO := Lib.hid (leV_le ho)
          clear ho
          generalize El.ord x.1 z.1 = r at *
          go_wp2_with fail
          refine wp_region_abv (by first | assumption | kernel_rfl) (by kernel_rfl) ?_
          repeat (first | go_big_quiet_step (exact callAbv (J.out _)) | quiet_step (exact callAbv (J.out _)))
          refine wpQuiet_nil ?_
          intro w9 hw9
          obtain ⟨p, rfl⟩ := hw9
          clear p0 p1 p2 p3 q0 q1 q2 q3
          have HBB := Lib.hid (below_abv HB2.out (Nat.le_refl _) p)
          have hle : leV mv[j] l[i] = true := by rw [HX.out, HZZ.out]; exact HO.out
          have hasc : Stb.Asc leV mv := HST.out.1
          have hat := ins_at hasc hjm hle
          have HAT := Lib.hid hat
          clear hle hasc hat
          have HMS := Lib.hid (HES2.out.below p.h (Nat.le_refl _))
          have HXS := Lib.hid (HF2.out.below p.h (Nat.le_refl _))
          obtain ⟨m, hm⟩ : ∃ m, mv.map (·.1) = m := ⟨_, rfl⟩
          rw [hm] at HM HMS
          have HMM := Lib.hid hm
          obtain ⟨⟨xk, xv, xd, xq⟩, hzx⟩ : ∃ x, z.1 = x := ⟨_, rfl⟩
          have HXI := Lib.hid (HX1.out.trans hzx)
          have HZX := Lib.hid hzx
          clear hm hzx
          have HM0 := Lib.hid (made0 p.world)
          have HT1 := Lib.hid (show j + 1 = (m.take (j + 1)).length by rw [List.length_take, ← HM.out]; omega)
          have HT2 := Lib.hid (show M - (j + 1) = (m.drop (j + 1)).length by rw [List.length_drop, ← HM.out])
          have HXC : Hid (∀ W', Below p.world.heap.size p.world W' → W'.cell? ⟨b, off + i * 4, none⟩ = some (.string xk) ∧ W'.cell? ⟨b, off + i * 4 + 1, none⟩ = some (.string xv) ∧ W'.cell? ⟨b, off + i * 4 + 2, none⟩ = some (.bool xd) ∧ W'.cell? ⟨b, off + i * 4 + 3, none⟩ = some (.int .i64 xq)) := Lib.hid fun W' h => by
            rcases HXS.out.below h (Nat.le_refl _) with h0 | ⟨b', off', e', hbl', hc⟩
            · rw [h0] at hix; simp at hix
            injection e' with e'
            injection e' with e1 e2 _
            subst e1 e2
            have := hc i hix
            rw [HXI.out] at this
            exact this
          by_cases hck : c' = j + 1
          · subst hck
            obtain rfl : M = j + 1 := by omega
            go_wp2_with (first | (at_builtin; refine wpList_append_es rfl (.tmp 32) (.tmp 35) rfl p.world.heap.size _ 0 [] rfl HM0.out (some ⟨b', off', none⟩) (j + 1) (j + 1) (m.take (j + 1)) rfl HT1.out (HMS.out.below (alloc_below _ _) (Nat.le_refl _) |>.take (j + 1)) HZ.out (by omega) (by simp) ?_; intro v1 W1 hown1 hg1; have hb1 : Below p.world.heap.size p.world W1 := ((Below.refl _ p.world).alloc (Nat.le_refl _) _).grown hg1 (by simp) (fun k hk => (HM0.out.lt k hk).1); have HB1 := Lib.hid hb1; rw [Nat.zero_add, List.nil_append] at hown1; have HO1 := Lib.hid hown1; have hs1 : p.world.heap.size ≤ W1.heap.size := hb1.size; obtain ⟨z0, z1, z2, z3⟩ := HXC.out _ hb1; clear hb1 hg1 hown1) | (at_builtin; refine wpList_append_es rfl (.tmp 37) (.tmp 42) rfl p.world.heap.size _ (j + 1) (m.take (j + 1)) rfl (HO1.out.alloc _) (some ⟨W1.heap.size, 0, none⟩) 1 1 [(xk, xv, xd, xq)] rfl rfl (esAt_one W1 (xk, xv, xd, xq)) (fun e => by cases e) (by omega) (by simp; omega) ?_; intro v2 W2 hown2 hg2; have hb2 := (HB1.out.alloc hs1 (.cells #[.string xk, .string xv, .bool xd, .int .i64 xq] 33)).grown hg2 (by simp; omega) (fun g hg => (HO1.out.lt g hg).1); have HB2' := Lib.hid hb2; have HO2 := Lib.hid hown2; have hs2 : p.world.heap.size ≤ W2.heap.size := hb2.size; clear hb2 hg2 hown2 z0 z1 z2 z3) | (at_builtin; refine wpList_append_es rfl (.tmp 44) (.tmp 47) rfl p.world.heap.size _ (j + 1 + 1) (m.take (j + 1) ++ [(xk, xv, xd, xq)]) rfl HO2.out (some ⟨b', off', none⟩) (0) (0) (m.drop (j + 1)) rfl (by first | exact HT2.out | (have := HT2.out; simpa using this)) (by rw [List.drop_eq_nil_of_le (by rw [← HM.out]; omega)]; exact .inl rfl) (fun _ => rfl) (by omega) hs2 ?_; intro v3 W3 hown3 hg3; have hb3 := HB2'.out.grown hg3 hs2 (fun g hg => (HO2.out.lt g hg).1); have HB3 := Lib.hid hb3; obtain ⟨A3, c3, rfl, hc3, hn3⟩ := own_cap2 hown3; have HE3 := Lib.hid (EsAt.of_own hown3); have HC3 := Lib.hid hc3; have HN3 := Lib.hid hn3; clear hb3 hg3 hown3 hc3 hn3))
            go_roundw
            case rel => exact ⟨i + 1, j + 1 + 1 + 0, c3, A3, mv.take (j + 1) ++ l[i] :: mv.drop (j + 1), by go_num, by omega, rfl, by rw [List.length_map, List.length_append, List.length_cons, List.length_take, List.length_drop]; have := HM.out; rw [← HMM.out, List.length_map] at this; omega, by have := HMI.out; omega, HC3.out, ins_step HST.out hil HAT.out HDR.out, by rw [show (mv.take (j + 1) ++ l[i] :: mv.drop (j + 1)).map (·.1) = (m.take (j + 1) ++ [(xk, xv, xd, xq)]) ++ m.drop (j + 1) by rw [HZZ.out, ← HMM.out, ← HZX.out]; simp]; exact HE3.out, HN3.out, HBB.out.trans (HB3.out.mono HBB.out.size)⟩
            case measure => simp [intOf]; omega

          · have hck2 : ¬ j + 1 = c' := fun e => hck e.symm
            go_wp2_with (first | (at_builtin; refine wpList_append_es rfl (.tmp 32) (.tmp 35) rfl p.world.heap.size _ 0 [] rfl HM0.out (some ⟨b', off', none⟩) (j + 1) c' (m.take (j + 1)) rfl HT1.out (HMS.out.below (alloc_below _ _) (Nat.le_refl _) |>.take (j + 1)) HZ.out (by omega) (by simp) ?_; intro v1 W1 hown1 hg1; have hb1 : Below p.world.heap.size p.world W1 := ((Below.refl _ p.world).alloc (Nat.le_refl _) _).grown hg1 (by simp) (fun k hk => (HM0.out.lt k hk).1); have HB1 := Lib.hid hb1; rw [Nat.zero_add, List.nil_append] at hown1; have HO1 := Lib.hid hown1; have hs1 : p.world.heap.size ≤ W1.heap.size := hb1.size; obtain ⟨z0, z1, z2, z3⟩ := HXC.out _ hb1; clear hb1 hg1 hown1) | (at_builtin; refine wpList_append_es rfl (.tmp 37) (.tmp 42) rfl p.world.heap.size _ (j + 1) (m.take (j + 1)) rfl (HO1.out.alloc _) (some ⟨W1.heap.size, 0, none⟩) 1 1 [(xk, xv, xd, xq)] rfl rfl (esAt_one W1 (xk, xv, xd, xq)) (fun e => by cases e) (by omega) (by simp; omega) ?_; intro v2 W2 hown2 hg2; have hb2 := (HB1.out.alloc hs1 (.cells #[.string xk, .string xv, .bool xd, .int .i64 xq] 33)).grown hg2 (by simp; omega) (fun g hg => (HO1.out.lt g hg).1); have HB2' := Lib.hid hb2; have HO2 := Lib.hid hown2; have hs2 : p.world.heap.size ≤ W2.heap.size := hb2.size; clear hb2 hg2 hown2 z0 z1 z2 z3) | (at_builtin; refine wpList_append_es rfl (.tmp 44) (.tmp 47) rfl p.world.heap.size _ (j + 1 + 1) (m.take (j + 1) ++ [(xk, xv, xd, xq)]) rfl HO2.out (some ⟨b', off' + (j + 1) * 4, none⟩) (M - (j + 1)) (c' - (j + 1)) (m.drop (j + 1)) rfl (by first | exact HT2.out | (have := HT2.out; simpa using this)) (by have h9 := ((HMS.out.below HB2'.out (Nat.le_refl _)).drop (j + 1)); simpa [add_at'] using h9) (fun e => by cases e) (by omega) hs2 ?_; intro v3 W3 hown3 hg3; have hb3 := HB2'.out.grown hg3 hs2 (fun g hg => (HO2.out.lt g hg).1); have HB3 := Lib.hid hb3; obtain ⟨A3, c3, rfl, hc3, hn3⟩ := own_cap2 hown3; have HE3 := Lib.hid (EsAt.of_own hown3); have HC3 := Lib.hid hc3; have HN3 := Lib.hid hn3; clear hb3 hg3 hown3 hc3 hn3))
            go_roundw
            case rel => exact ⟨i + 1, j + 1 + 1 + (M - (j + 1)), c3, A3, mv.take (j + 1) ++ l[i] :: mv.drop (j + 1), by go_num, by omega, rfl, by rw [List.length_map, List.length_append, List.length_cons, List.length_take, List.length_drop]; have := HM.out; rw [← HMM.out, List.length_map] at this; omega, by have := HMI.out; omega, HC3.out, ins_step HST.out hil HAT.out HDR.out, by rw [show (mv.take (j + 1) ++ l[i] :: mv.drop (j + 1)).map (·.1) = (m.take (j + 1) ++ [(xk, xv, xd, xq)]) ++ m.drop (j + 1) by rw [HZZ.out, ← HMM.out, ← HZX.out]; simp]; exact HE3.out, HN3.out, HBB.out.trans (HB3.out.mono HBB.out.size)⟩
            case measure => simp [intOf]; omega

end Go.Proofs.YtmobjpmkenpckaaDoor.KK
