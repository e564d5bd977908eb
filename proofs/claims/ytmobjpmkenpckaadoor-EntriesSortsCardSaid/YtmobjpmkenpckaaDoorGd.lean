/-
  slices.symMergeCmpFunc over entries, where the second list has one entry.
-/
import Derived.Test.YtmobjpmkenpckaaDoorGc
namespace Go.Proofs.YtmobjpmkenpckaaDoor.KK
open Go.ChangeShapes Go.WideShapes Go.ChangeAt Go.RowKit Go.Proofs Go.Sort

set_option maxRecDepth 100000 in
set_option maxHeartbeats 8000000 in
theorem sm_right (base bk o cap n : Nat) (P U R : List V) (y : V) (w : World) (hrow : ERow w bk o (P ++ (U ++ (y :: R)))) (hb : bk < w.heap.size) (hbase : base ≤ bk) (hlen : (P ++ (U ++ (y :: R))).length = n) (hn : n ≤ 4000000000) (hU : Stb.Asc leV U) (hU1 : U.length ≠ 1) :
    Calls Tryd.prog 53 #[.slice (some ⟨bk, o, none⟩) n cap, .int .i64 P.length, .int .i64 (P.length + U.length : Nat), .int .i64 (P.length + U.length + 1 : Nat), .func (.func 27) #[.agg #[]] #[]] w
      fun e w' => e = .returned (.tuple #[]) ∧ ∃ X, Stb.Stab leV (U ++ [y]) X ∧ ERow w' bk o (P ++ (X ++ R)) ∧ Below base w w' := by
  obtain ⟨a, haa⟩ : ∃ a, P.length = a := ⟨_, rfl⟩
  obtain ⟨c, hcc⟩ : ∃ c, U.length = c := ⟨_, rfl⟩
  rw [haa, hcc]
  rw [hcc] at hU1
  have hsum : a + c + 1 ≤ n := by rw [← hlen, ← haa, ← hcc]; simp; omega
  have HA := Lib.hid haa
  have HC := Lib.hid hcc
  have HR := Lib.hid hrow
  have HU := Lib.hid hU
  have JC := Lib.hid cmpV_any
  clear haa hcc hrow hlen hU
  obtain ⟨m, hm⟩ : ∃ m, a + c = m := ⟨_, rfl⟩
  rw [hm]
  rw [hm] at hsum
  have w1 : IntKind.i64.wrap ((m : Int) - (a : Int)) = (c : Int) := by rw [IntKind.wrap_i64]; omega
  have w2 : IntKind.i64.wrap ((m : Int) + 1 - (m : Int)) = 1 := by rw [IntKind.wrap_i64]; omega
  have w2' : IntKind.i64.wrap (((m + 1 : Nat) : Int) - (m : Int)) = 1 := by rw [IntKind.wrap_i64]; omega
  have w3 : ((c : Int) == 1) = false := by rw [beq_eq_false_iff_ne]; omega
  have w4 : ¬ c = 1 := hU1
  have HM := Lib.hid hm
  have hma : a ≤ m := by omega
  clear hm hU1
  go_enter Tryd.func53, Tryd.ntmps53
  go_wp2_with fail
  go_loopw [14, 15] (fun vi vj wr => ∃ (i j s t : Nat), vi = .int .i64 i ∧ vj = .int .i64 j ∧ i = a + s ∧ j = a + t ∧ s ≤ t ∧ t ≤ c ∧ (∀ (S : List V) (x : V), U.take s = S ++ [x] → leV x y = true) ∧ (∀ (x : V) (T : List V), U.drop t = x :: T → leV x y = false) ∧ ERow wr bk o (P ++ (U ++ (y :: R))) ∧ Below base w wr) (fun vi vj _ => (intOf vj).toNat - (intOf vi).toNat)
  case atStart => exact ⟨a, m, 0, c, by first | rfl | go_num, by first | rfl | go_num, rfl, HM.out.symm, Nat.zero_le _, Nat.le_refl _, (fun (S : List V) (x : V) h => by simp at h), (fun (x : V) (T : List V) h => by rw [List.drop_of_length_le (by rw [HC.out]; exact Nat.le_refl _)] at h; cases h), HR.out, Below.refl _ _⟩
  case round =>
    obtain ⟨i, j, s, t, rfl, rfl, hi, hj, hst, htc, h1, h2, hr, hbl⟩ := hrel
    have hbw : bk < wr.heap.size := Nat.lt_of_lt_of_le hb hbl.size
    have HI := Lib.hid hi
    have HJ := Lib.hid hj
    have H1 := Lib.hid h1
    have H2 := Lib.hid h2
    have HR2 := Lib.hid hr
    have HB := Lib.hid hbl
    have hmm := HM.out
    have hin : i ≤ m ∧ j ≤ m ∧ a ≤ i ∧ a ≤ j := by omega
    obtain ⟨hin, hjn, hia, hja⟩ := hin
    clear h1 h2 hr hbl
    by_cases hlt : s < t
    rotate_left
    · have hij : i = j := by omega
      have hst' : s = t := by omega
      subst hst'
      have hfin := Lib.hid (show Stb.Stab leV (U ++ [y]) (U.take s ++ y :: U.drop s) by
        have h := Stb.stab_one_right (y := y) (U1 := U.take s) (U2 := U.drop s) preV (by rw [List.take_append_drop]; exact HU.out) (fun x T e => H2.out x T e) (fun S x e => H1.out S x e)
        rw [List.take_append_drop] at h
        exact h)
      have k1 : ¬ (i : Int) < (j : Int) := by omega
      have HBW := Lib.hid hbw
      generalize hwo : wr = wo at *
      clear hwo hi hj hij hmm
      go_wp2_with fail
      go_loopw [17] (fun vk wr => ∃ (k q : Nat), vk = .int .i64 k ∧ k = a + q ∧ s ≤ q ∧ q ≤ c ∧ ERow wr bk o (P ++ (U.take q ++ (y :: (U.drop q ++ R)))) ∧ Below base w wr) (fun vk _ => (intOf vk).toNat)
      case atStart => exact ⟨m, c, by first | rfl | go_num, HM.out.symm, htc, Nat.le_refl _, by rw [List.take_of_length_le (by rw [HC.out]; exact Nat.le_refl _), List.drop_of_length_le (by rw [HC.out]; exact Nat.le_refl _)]; exact HR2.out, HB.out⟩
      case round =>
        obtain ⟨k, q, rfl, hk, hsq, hq, hr, hbl⟩ := hrel
        have hbw : bk < wr.heap.size := Nat.lt_of_lt_of_le hb hbl.size
        have HK := Lib.hid hk
        have HR3 := Lib.hid hr
        have HB3 := Lib.hid hbl
        have hii := HI.out
        by_cases hlt2 : s < q
        rotate_left
        · have hqs : q = s := by omega
          subst hqs
          have k3 : ¬ (i : Int) < (k : Int) := by omega
          clear hr hbl hk hii
          go_wp2_with fail
          refine bodyPost_ret (results_none rfl _ _ _) rfl ?_
          exact ⟨rfl, _, hfin.out, by have h := HR3.out; simpa using h, HB3.out⟩
        obtain ⟨qp, rfl⟩ : ∃ qp, q = qp + 1 := ⟨q - 1, by omega⟩
        obtain ⟨kp, rfl⟩ : ∃ kp, k = kp + 1 := ⟨k - 1, by omega⟩
        have hqc : qp < U.length := by rw [HC.out]; omega
        have k3 : (i : Int) < (kp : Int) + 1 := by omega
        have hmm := HM.out
        have k4 : (kp : Int) + 1 < (n : Int) := by omega
        have k5 : (kp : Int) < (n : Int) := by omega
        have k6 : IntKind.i64.wrap (kp : Int) = (kp : Int) := by rw [IntKind.wrap_i64]; omega
        obtain ⟨x, hx⟩ : ∃ x, U[qp] = x := ⟨_, rfl⟩
        obtain ⟨D, hD⟩ : ∃ D, U.drop (qp + 1) = D := ⟨_, rfl⟩
        have e0 := List.drop_eq_getElem_cons hqc
        have e1 := List.take_succ_eq_append_getElem hqc
        rw [hx, hD] at e0
        rw [hx] at e1
        have hr4 : ERow wr bk o ((P ++ U.take qp) ++ x :: ([] ++ y :: (D ++ R))) := by
          have h := hr; rw [e1, hD] at h; simpa using h
        have hr5 : ERow wr bk o ((P ++ U.take qp ++ [x]) ++ y :: (D ++ R)) := by simpa using hr4
        have i1 : kp = (P ++ U.take qp).length := by rw [List.length_append, List.length_take, HA.out, HC.out]; omega
        obtain ⟨⟨y0, y1, y2, y3⟩, f0, f1, f2, f3⟩ := hr4.at i1
        obtain ⟨⟨z0, z1, z2, z3⟩, f4, f5, f6, f7⟩ := hr5.at (i := kp + 1) (by rw [List.length_append, ← i1]; rfl)
        have HR4 := Lib.hid hr4
        have HI1 := Lib.hid i1
        have HN5 := Lib.hid (show P ++ (U.take qp ++ (y :: (U.drop qp ++ R))) = (P ++ U.take qp) ++ y :: ([] ++ x :: (D ++ R)) by rw [e0]; simp)
        have mixed : Tryd.prog.follows .mixedOrders = true := by kernel_rfl
        clear hr hbl hr4 hr5 i1 hk hii hx hD e0 e1 hmm
        go_wp2_with fail
        go_big_region_o
        all_goals go_wp2_with fail
        go_roundw
        case rel =>
          refine ⟨kp, qp, by first | rfl | go_num, by have := HK.out; omega, by omega, by omega, ?_, ?_⟩
          · rw [HN5.out]
            exact ERow.drew (row_swap' (w := wr) (i := kp) (j := kp + 1) HR4.out HI1.out (by rw [← HI1.out]; rfl))
          · exact Below.drew' (put2_below (w := wr) (i := kp + 1) (j := kp) (x := x) (y := y) HB3.out hbase)
        case measure => simp [intOf]
    obtain ⟨h, hh⟩ : ∃ h, (i + j) / 2 = h := ⟨_, rfl⟩
    obtain ⟨r, hr⟩ : ∃ r, h = a + r := ⟨h - a, by omega⟩
    have hr1 : s ≤ r := by omega
    have hr2 : r < t := by omega
    have hrc : r < U.length := by rw [HC.out]; omega
    have k1 : (i : Int) < (j : Int) := by omega
    have k2 : ((i : Int) + (j : Int)) / 2 = (h : Int) := by omega
    have k3 : (h : Int) < (n : Int) := by omega
    have k4 : (m : Int) < (n : Int) := by omega
    obtain ⟨x, hx⟩ : ∃ x, U[r] = x := ⟨_, rfl⟩
    obtain ⟨D, hD⟩ : ∃ D, U.drop (r + 1) = D := ⟨_, rfl⟩
    have e0 := List.drop_eq_getElem_cons hrc
    rw [hx, hD] at e0
    have e1 : U = U.take r ++ x :: D := by rw [← e0]; exact (List.take_append_drop r U).symm
    have hx1 : ERow wr bk o ((P ++ U) ++ y :: R) := by simpa using HR2.out
    have hx2 : ERow wr bk o ((P ++ U.take r) ++ x :: (D ++ (y :: R))) := by
      have e := HR2.out
      have e2 : P ++ (U ++ (y :: R)) = (P ++ U.take r) ++ x :: (D ++ (y :: R)) := by
        have e3 : U ++ (y :: R) = (U.take r ++ x :: D) ++ (y :: R) := congrArg (· ++ (y :: R)) e1
        rw [e3]; simp
      rw [e2] at e
      exact e
    obtain ⟨x0, x1, x2, x3⟩ := row_abv hx1 hbw (i := m) (by rw [List.length_append, HA.out, HC.out]; exact HM.out.symm)
    obtain ⟨y0, y1, y2, y3⟩ := row_abv hx2 hbw (i := h) (by rw [List.length_append, List.length_take, HA.out, HC.out]; omega)
    have HRr := Lib.hid hr
    have J := Lib.hid (fun w => JC.out y x w)
    have HT1 : Hid (∀ (S : List V) (x' : V), U.take (r + 1) = S ++ [x'] → x' = x) := Lib.hid (fun S x' e => (take_snoc hrc e).trans hx)
    have HT2 : Hid (∀ (x' : V) (T : List V), U.drop r = x' :: T → x' = x) := Lib.hid (fun x' T e => (drop_cons hrc e).trans hx)
    clear hx1 hx2 hi hj hr hh hx hD e0 e1 hmm
    by_cases ho : El.ord y.1 x.1 < 0
    · have hd : decide (El.ord y.1 x.1 < 0) = true := by simpa using ho
      have HLE := Lib.hid (leV_false (x := x) (y := y) ho)
      clear ho
      generalize El.ord y.1 x.1 = ov at *
      go_wp2_with fail
      refine wp_region_abv (by first | assumption | kernel_rfl) (by kernel_rfl) ?_
      repeat (first | go_big_quiet_step (exact callAbv (J.out _)) | quiet_step (exact callAbv (J.out _)))
      refine wpQuiet_nil ?_
      intro w2 hw2
      obtain ⟨p, rfl⟩ := hw2
      go_wp2_with fail
      go_roundw
      case rel => exact ⟨i, h, s, r, rfl, by first | rfl | go_num, HI.out, HRr.out, hr1, by omega, H1.out, (fun x' T e => by rw [HT2.out x' T e]; exact HLE.out), HR2.out.below p.h hbw, below_abv HB.out (by omega) p⟩
      case measure => simp [intOf]; omega
    · have hd : decide (El.ord y.1 x.1 < 0) = false := by simpa using ho
      have HLE := Lib.hid (leV_true (x := x) (y := y) ho)
      clear ho
      generalize El.ord y.1 x.1 = ov at *
      go_wp2_with fail
      refine wp_region_abv (by first | assumption | kernel_rfl) (by kernel_rfl) ?_
      repeat (first | go_big_quiet_step (exact callAbv (J.out _)) | quiet_step (exact callAbv (J.out _)))
      refine wpQuiet_nil ?_
      intro w2 hw2
      obtain ⟨p, rfl⟩ := hw2
      go_wp2_with fail
      go_roundw
      case rel => exact ⟨h + 1, j, r + 1, t, by go_num, rfl, by have := HRr.out; omega, HJ.out, by omega, htc, (fun S x' e => by rw [HT1.out S x' e]; exact HLE.out), H2.out, HR2.out.below p.h hbw, below_abv HB.out (by omega) p⟩
      case measure => simp [intOf]; omega
end Go.Proofs.YtmobjpmkenpckaaDoor.KK
