/-
  slices.symMergeCmpFunc over entries, where one of both lists has one entry.
-/
import Derived.Test.YtmobjpmkenpckaaDoorGb
namespace Go.Proofs.YtmobjpmkenpckaaDoor.KK
open Go.ChangeShapes Go.WideShapes Go.ChangeAt Go.RowKit Go.Proofs Go.Sort

theorem take_snoc {W : List V} {r : Nat} (h : r < W.length) {S : List V} {y : V} (e : W.take (r + 1) = S ++ [y]) : y = W[r] := by
  rw [List.take_succ_eq_append_getElem h] at e
  have := List.append_inj' e rfl
  simpa using this.2.symm
theorem drop_cons {W : List V} {r : Nat} (h : r < W.length) {T : List V} {y : V} (e : W.drop r = y :: T) : y = W[r] := by
  rw [List.drop_eq_getElem_cons h] at e
  exact (List.cons.inj e).1.symm
set_option maxRecDepth 100000 in
set_option maxHeartbeats 8000000 in
theorem sm_left (base bk o cap n : Nat) (P W R : List V) (x : V) (w : World) (hrow : ERow w bk o (P ++ (x :: (W ++ R)))) (hb : bk < w.heap.size) (hbase : base ≤ bk) (hlen : (P ++ (x :: (W ++ R))).length = n) (hn : n ≤ 4000000000) (hW : Stb.Asc leV W) :
    Calls Tryd.prog 53 #[.slice (some ⟨bk, o, none⟩) n cap, .int .i64 P.length, .int .i64 (P.length + 1 : Nat), .int .i64 (P.length + 1 + W.length : Nat), .func (.func 27) #[.agg #[]] #[]] w
      fun e w' => e = .returned (.tuple #[]) ∧ ∃ X, Stb.Stab leV (x :: W) X ∧ ERow w' bk o (P ++ (X ++ R)) ∧ Below base w w' := by
  obtain ⟨a, haa⟩ : ∃ a, P.length = a := ⟨_, rfl⟩
  obtain ⟨c, hcc⟩ : ∃ c, W.length = c := ⟨_, rfl⟩
  rw [haa, hcc]
  have hsum : a + 1 + c ≤ n := by rw [← hlen, ← haa, ← hcc]; simp; omega
  have HA := Lib.hid haa
  have HC := Lib.hid hcc
  have HR := Lib.hid hrow
  have HW := Lib.hid hW
  have HN := Lib.hid hlen
  have JC := Lib.hid cmpV_any
  clear haa hcc hrow hlen hW
  have w1 : IntKind.i64.wrap (((a + 1 : Nat) : Int) - (a : Int)) = 1 := by rw [IntKind.wrap_i64]; omega
  have w1' : IntKind.i64.wrap ((a : Int) + 1 - (a : Int)) = 1 := by rw [IntKind.wrap_i64]; omega
  go_enter Tryd.func53, Tryd.ntmps53
  go_wp2_with fail
  go_loopw [10, 11] (fun vi vj wr => ∃ (i j s t : Nat), vi = .int .i64 i ∧ vj = .int .i64 j ∧ i = a + 1 + s ∧ j = a + 1 + t ∧ s ≤ t ∧ t ≤ c ∧ (∀ (S : List V) (y : V), W.take s = S ++ [y] → leV x y = false) ∧ (∀ (y : V) (T : List V), W.drop t = y :: T → leV x y = true) ∧ ERow wr bk o (P ++ (x :: (W ++ R))) ∧ Below base w wr) (fun vi vj _ => (intOf vj).toNat - (intOf vi).toNat)
  case atStart => exact ⟨a + 1, a + 1 + c, 0, c, by first | rfl | go_num, by first | rfl | go_num, rfl, rfl, Nat.zero_le _, Nat.le_refl _, (fun (S : List V) (y : V) h => by simp at h), (fun (y : V) (T : List V) h => by rw [List.drop_of_length_le (by rw [HC.out]; exact Nat.le_refl _)] at h; cases h), HR.out, Below.refl _ _⟩
  case round =>
    obtain ⟨i, j, s, t, rfl, rfl, hi, hj, hst, htc, h1, h2, hr, hbl⟩ := hrel
    have hbw : bk < wr.heap.size := Nat.lt_of_lt_of_le hb hbl.size
    have HI := Lib.hid hi
    have HJ := Lib.hid hj
    have H1 := Lib.hid h1
    have H2 := Lib.hid h2
    have HR2 := Lib.hid hr
    have HB := Lib.hid hbl
    have hin : i ≤ n ∧ j ≤ n ∧ a + 1 ≤ i ∧ a + 1 ≤ j := by omega
    obtain ⟨hin, hjn, hia, hja⟩ := hin
    clear h1 h2 hr hbl
    by_cases hlt : s < t
    rotate_left
    · have hij : i = j := by omega
      have hst' : s = t := by omega
      subst hst'
      have hfin := Lib.hid (show Stb.Stab leV (x :: W) (W.take s ++ x :: W.drop s) by
        have h := Stb.stab_one_left (x := x) (V1 := W.take s) (V2 := W.drop s) preV (by rw [List.take_append_drop]; exact HW.out) (fun S y e => H1.out S y e) (fun y T e => H2.out y T e)
        rw [List.take_append_drop] at h
        exact h)
      have k1 : ¬ (i : Int) < (j : Int) := by omega
      have k2 : IntKind.i64.wrap ((i : Int) - 1) = ((a + s : Nat) : Int) := by rw [IntKind.wrap_i64]; omega
      have HBW := Lib.hid hbw
      generalize hz : a + s = z at k2
      have HZ := Lib.hid hz
      generalize hwo : wr = wo at *
      clear hwo hi hj hij hz
      go_wp2_with fail
      go_loopw [13] (fun vk wr => ∃ (k q : Nat), vk = .int .i64 k ∧ k = a + q ∧ q ≤ s ∧ ERow wr bk o (P ++ (W.take q ++ (x :: (W.drop q ++ R)))) ∧ Below base w wr) (fun vk _ => z - (intOf vk).toNat)
      case atStart => exact ⟨a, 0, by first | rfl | go_num, rfl, Nat.zero_le _, by simpa using HR2.out, HB.out⟩
      case round =>
        obtain ⟨k, q, rfl, hk, hq, hr, hbl⟩ := hrel
        have hbw : bk < wr.heap.size := Nat.lt_of_lt_of_le hb hbl.size
        have HK := Lib.hid hk
        have HR3 := Lib.hid hr
        have HB3 := Lib.hid hbl
        have hzz := HZ.out
        by_cases hlt2 : q < s
        rotate_left
        · have hqs : q = s := by omega
          subst hqs
          have k3 : ¬ (k : Int) < (z : Int) := by omega
          clear hr hbl hk hzz
          go_wp2_with fail
          refine bodyPost_ret (results_none rfl _ _ _) rfl ?_
          exact ⟨rfl, _, hfin.out, by have h := HR3.out; simpa using h, HB3.out⟩
        have hqc : q < W.length := by rw [HC.out]; omega
        have k3 : (k : Int) < (z : Int) := by omega
        have k4 : (k : Int) + 1 < (n : Int) := by omega
        have k5 : (k : Int) < (n : Int) := by omega
        obtain ⟨y, hy⟩ : ∃ y, W[q] = y := ⟨_, rfl⟩
        obtain ⟨D, hD⟩ : ∃ D, W.drop (q + 1) = D := ⟨_, rfl⟩
        have e0 := List.drop_eq_getElem_cons hqc
        have e1 := List.take_succ_eq_append_getElem hqc
        rw [hy, hD] at e0
        rw [hy] at e1
        have hr4 : ERow wr bk o ((P ++ W.take q) ++ x :: ([] ++ y :: (D ++ R))) := by
          have h := hr; rw [e0] at h; simpa using h
        have hr5 : ERow wr bk o ((P ++ W.take q ++ [x]) ++ y :: (D ++ R)) := by simpa using hr4
        have i1 : k = (P ++ W.take q).length := by rw [List.length_append, List.length_take, HA.out, HC.out]; omega
        obtain ⟨⟨y0, y1, y2, y3⟩, f0, f1, f2, f3⟩ := hr4.at i1
        obtain ⟨⟨z0, z1, z2, z3⟩, f4, f5, f6, f7⟩ := hr5.at (i := k + 1) (by rw [List.length_append, ← i1]; rfl)
        have HR4 := Lib.hid hr4
        have HI1 := Lib.hid i1
        have HN5 := Lib.hid (show P ++ (W.take (q + 1) ++ (x :: (W.drop (q + 1) ++ R))) = (P ++ W.take q) ++ y :: ([] ++ x :: (D ++ R)) by rw [e1, hD]; simp)
        have mixed : Tryd.prog.follows .mixedOrders = true := by kernel_rfl
        clear hr hbl hr4 hr5 i1 hk hzz hy hD e0 e1
        go_wp2_with fail
        go_big_region_o
        all_goals go_wp2_with fail
        go_roundw
        case rel =>
          refine ⟨k + 1, q + 1, by go_num, by have := HK.out; omega, by omega, ?_, ?_⟩
          · rw [HN5.out]
            exact ERow.drew (row_swap (w := wr) (i := k) (j := k + 1) HR4.out HI1.out (by rw [← HI1.out]; rfl))
          · exact Below.drew' (put2_below (w := wr) (i := k) (j := k + 1) (x := y) (y := x) HB3.out hbase)
        case measure => simp [intOf]; omega
    obtain ⟨h, hh⟩ : ∃ h, (i + j) / 2 = h := ⟨_, rfl⟩
    obtain ⟨r, hr⟩ : ∃ r, h = a + 1 + r := ⟨h - (a + 1), by omega⟩
    have hr1 : s ≤ r := by omega
    have hr2 : r < t := by omega
    have hrc : r < W.length := by rw [HC.out]; omega
    have k1 : (i : Int) < (j : Int) := by omega
    have k2 : ((i : Int) + (j : Int)) / 2 = (h : Int) := by omega
    have k3 : (h : Int) < (n : Int) := by omega
    have k4 : (a : Int) < (n : Int) := by omega
    have hx1 : ERow wr bk o (P ++ x :: (W ++ R)) := HR2.out
    obtain ⟨y, hy⟩ : ∃ y, W[r] = y := ⟨_, rfl⟩
    obtain ⟨D, hD⟩ : ∃ D, W.drop (r + 1) = D := ⟨_, rfl⟩
    have e0 := List.drop_eq_getElem_cons hrc
    rw [hy, hD] at e0
    have e1 : W = W.take r ++ y :: D := by rw [← e0]; exact (List.take_append_drop r W).symm
    have hx2 : ERow wr bk o ((P ++ x :: W.take r) ++ y :: (D ++ R)) := by
      have e := HR2.out
      have e2 : P ++ (x :: (W ++ R)) = (P ++ x :: W.take r) ++ y :: (D ++ R) := by
        have e3 : W ++ R = (W.take r ++ y :: D) ++ R := congrArg (· ++ R) e1
        rw [e3]; simp
      rw [e2] at e
      exact e
    obtain ⟨x0, x1, x2, x3⟩ := row_abv hx1 hbw (i := a) HA.out.symm
    obtain ⟨y0, y1, y2, y3⟩ := row_abv hx2 hbw (i := h) (by rw [List.length_append, List.length_cons, List.length_take, HA.out, HC.out]; omega)
    have HRr := Lib.hid hr
    have J := Lib.hid (fun w => JC.out y x w)
    have HT1 : Hid (∀ (S : List V) (y' : V), W.take (r + 1) = S ++ [y'] → y' = y) := Lib.hid (fun S y' e => (take_snoc hrc e).trans hy)
    have HT2 : Hid (∀ (y' : V) (T : List V), W.drop r = y' :: T → y' = y) := Lib.hid (fun y' T e => (drop_cons hrc e).trans hy)
    clear hx1 hx2 hi hj hr hh hy hD e0 e1
    by_cases ho : El.ord y.1 x.1 < 0
    · have hd : decide (El.ord y.1 x.1 < 0) = true := by simpa using ho
      have HLE := Lib.hid (leV_false ho)
      clear ho
      generalize El.ord y.1 x.1 = ov at *
      go_wp2_with fail
      refine wp_region_abv (by first | assumption | kernel_rfl) (by kernel_rfl) ?_
      repeat (first | go_big_quiet_step (exact callAbv (J.out _)) | quiet_step (exact callAbv (J.out _)))
      refine wpQuiet_nil ?_
      intro w2 hw2
      obtain ⟨p, rfl⟩ := hw2
      go_wp2_with fail
      go_roundw
      case rel => exact ⟨h + 1, j, r + 1, t, by go_num, rfl, by have := HRr.out; omega, HJ.out, by omega, htc, (fun S y' e => by rw [HT1.out S y' e]; exact HLE.out), H2.out, HR2.out.below p.h hbw, below_abv HB.out (by omega) p⟩
      case measure => simp [intOf]; omega
    · have hd : decide (El.ord y.1 x.1 < 0) = false := by simpa using ho
      have HLE := Lib.hid (leV_true ho)
      clear ho
      generalize El.ord y.1 x.1 = ov at *
      go_wp2_with fail
      refine wp_region_abv (by first | assumption | kernel_rfl) (by kernel_rfl) ?_
      repeat (first | go_big_quiet_step (exact callAbv (J.out _)) | quiet_step (exact callAbv (J.out _)))
      refine wpQuiet_nil ?_
      intro w2 hw2
      obtain ⟨p, rfl⟩ := hw2
      go_wp2_with fail
      go_roundw
      case rel => exact ⟨i, h, s, r, rfl, by first | rfl | go_num, HI.out, HRr.out, hr1, by omega, H1.out, (fun y' T e => by rw [HT2.out y' T e]; exact HLE.out), HR2.out.below p.h hbw, below_abv HB.out (by omega) p⟩
      case measure => simp [intOf]; omega
end Go.Proofs.YtmobjpmkenpckaaDoor.KK
