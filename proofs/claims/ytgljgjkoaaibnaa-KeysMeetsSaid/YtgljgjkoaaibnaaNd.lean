/-
  The walk of KeysMeets.
-/
import Derived.Test.YtgljgjkoaaibnaaNa
namespace Go.Proofs.Ytgljgjkoaaibnaa.KK
open Go.ChangeShapes Go.WideShapes Go.ChangeAt Go.RowKit Go.Proofs


set_option maxRecDepth 100000 in
set_option maxHeartbeats 4000000 in
theorem KeysMeets_tt1 (lo hi : ByteArray) (b : Bool) (lo2 hi2 : ByteArray) (b2 : Bool) (k : ByteArray) (w : World) (hlo : lo.size ≤ 9223372036854775807) (hhi : hi.size ≤ 9223372036854775807) (hlo2 : lo2.size ≤ 9223372036854775807) (hhi2 : hi2.size ≤ 9223372036854775807) (hk : k.size ≤ 9223372036854775807) (nlo : ¬ 200 < lo.size) (nhi : ¬ 200 < hi.size) (nlo2 : ¬ 200 < lo2.size) (nhi2 : ¬ 200 < hi2.size) (nk : ¬ 200 < k.size) (hc : chkR lo hi b = 0) (hd : chkR lo2 hi2 b2 = 0) (hk32 : k.size ≤ 32) (hx : hasB lo hi b k = true) (hz : hasB lo hi b lo = true) (hle : lo.size ≤ k.size) :
    Calls Try.prog 9 #[.agg #[.string lo, .string hi, .bool b], .agg #[.string lo2, .string hi2, .bool b2], .string k] w fun e w' => e = .returned (.bool true) ∧ Below w.heap.size w w' := by
  have Flo := Lib.hid (fun w => far_no lo w hlo nlo)
  have Fhi := Lib.hid (fun w => far_no hi w hhi nhi)
  have Flo2 := Lib.hid (fun w => far_no lo2 w hlo2 nlo2)
  have Fhi2 := Lib.hid (fun w => far_no hi2 w hhi2 nhi2)
  have Fk := Lib.hid (fun w => far_no k w hk nk)
  obtain ⟨c1, c2, _⟩ := chkR_zero hc
  have K1 := fun w => kMeet_any lo hi b lo2 hi2 b2 w hlo hhi hlo2 hhi2
  have hme : mErr lo hi b lo2 hi2 b2 = 0 := by unfold mErr; rw [hc, hd]; rfl
  have hV : meetV lo hi b lo2 hi2 b2 = (mLo lo lo2, mHi hi b hi2 b2, mB hi b hi2 b2) := by unfold meetV; rw [if_pos hme]
  rw [hV, hme] at K1
  dsimp only at K1
  have hmc := meet_chk hc hd
  have hmh := meet_has lo hi lo2 hi2 k b b2 hc hd
  obtain ⟨m1, hm1⟩ : ∃ v, mLo lo lo2 = v := ⟨_, rfl⟩
  obtain ⟨m2, hm2⟩ : ∃ v, mHi hi b hi2 b2 = v := ⟨_, rfl⟩
  obtain ⟨m3, hm3⟩ : ∃ v, mB hi b hi2 b2 = v := ⟨_, rfl⟩
  rw [hm1, hm2, hm3] at K1 hmc hmh
  have K6 := fun w => kEmpty_any lo hi b w hlo hhi
  rw [hc, emptyV_has hc, hz] at K6
  have J7 := Lib.hid (fun w => in_key lo hi b lo w _ hc c1 hz)
  have K8 := fun w => kOf_any lo w hlo
  have hol : (⟨(ofLo (Kl.L lo)).toArray⟩ : ByteArray) = lo := by unfold ofLo; rw [Kl.L_length, if_pos c1, ← mk_L]
  have hoc := of_chk c1
  have hoh := of_has k c1
  rw [hol, chk1_ok c1] at K8
  obtain ⟨o2, ho2⟩ : ∃ v : ByteArray, ⟨(ofHi (Kl.L lo)).toArray⟩ = v := ⟨_, rfl⟩
  obtain ⟨o3, ho3⟩ : ∃ v, ofB (Kl.L lo) = v := ⟨_, rfl⟩
  rw [ho2, ho3] at K8 hoc hoh
  have J1 := Lib.hid K1
  have J6 := Lib.hid K6
  have J8 := Lib.hid K8
  obtain ⟨y, hy⟩ : ∃ y, hasB lo2 hi2 b2 k = y := ⟨_, rfl⟩
  rw [hx, hy] at hmh
  have J2 := Lib.hid (fun w => in_key lo hi b k w true hc hk32 hx)
  have J3 := Lib.hid (fun w => in_key lo2 hi2 b2 k w y hd hk32 hy)
  have J4 := Lib.hid (fun w => in_key m1 m2 m3 k w y hmc hk32 (by rw [hmh]; simp))
  obtain ⟨d1, d2, _⟩ := chkR_zero hmc
  have K5 := fun w => kCheckRange_any m1 m2 m3 w (by omega) (by omega)
  rw [hmc] at K5
  have J5 := Lib.hid K5
  obtain ⟨v, hv⟩ : ∃ v, (Kl.L lo).isPrefixOf (Kl.L k) = v := ⟨_, rfl⟩
  rw [hv] at hoh
  have J9 := Lib.hid (fun w => in_key lo o2 o3 k w v hoc hk32 hoh)
  have JC := Lib.hid (fun w => chk_yes k w (by omega) hk32)
  have e1 := pre_take hle
  rw [hv] at e1
  have g1 : decide ((lo.size : Int) ≤ (k.size : Int)) = true := by simp; omega
  have g2 : decide (lo.size ≤ k.size) = true := by simp; omega
  have g3 : min (lo.size : Int) (k.size : Int) = (lo.size : Int) := by omega
  have E1 := Lib.hid e1
  have G1 := Lib.hid g1
  have G2 := Lib.hid g2
  have G3 := Lib.hid g3
  clear e1 g1 g2 g3
  clear hy hv hx K5 hk32 
  clear K1 K6 K8 hme hV hmc hmh hm1 hm2 hm3 hol hoc hoh ho2 ho3 hz hc hd nlo nhi nlo2 nhi2 nk
  go_enter Try.func9, Try.ntmps9
  go_wp2_with fail
  refine (Flo.out _).mono ?_
  rintro e w' ⟨rfl, rfl⟩
  go_wp2_with fail
  refine (Fhi.out _).mono ?_
  rintro e w' ⟨rfl, rfl⟩
  go_wp2_with fail
  refine (Flo2.out _).mono ?_
  rintro e w' ⟨rfl, rfl⟩
  go_wp2_with fail
  refine (Fhi2.out _).mono ?_
  rintro e w' ⟨rfl, rfl⟩
  go_wp2_with fail
  refine (Fk.out _).mono ?_
  rintro e w' ⟨rfl, rfl⟩
  go_wp2_with fail
  refine (J1.out _).mono ?_
  rintro e w1 ⟨rfl, hb⟩
  obtain ⟨R0, R1⟩ := rows2 hb
  have HB := Lib.hid ((((Below.refl w.heap.size w).alloc (Nat.le_refl _) _).alloc (by simp) _).trans (hb.mono (by first | (simp; done) | (simp; omega))))
  have l0 := lt_of_row R0
  have l1 := lt_of_row R1
  clear hb
  obtain ⟨p0, p1, p2, _, _, _⟩ := row3 R0
  obtain ⟨q0, q1, q2, _, _, _⟩ := row3 R1
  go_wp2_with fail
  clear p0 p1 p2 q0 q1 q2
  refine (J2.out _).mono ?_
  rintro e w2 ⟨rfl, hb⟩
  have R2 := row_new hb
  have R0 := row_old R0 hb
  have R1 := row_old R1 hb
  have HB := Lib.hid ((HB.out.alloc (by omega) _).trans (hb.mono (by first | (simp; done) | (simp; omega))))
  obtain ⟨g, hg⟩ : ∃ g, w1.heap.size = g := ⟨_, rfl⟩
  rw [hg] at R2
  rw [hg]
  have lR0 := lt_of_row R0
  have lR1 := lt_of_row R1
  have lR2 := lt_of_row R2
  clear hb hg
  obtain ⟨p0, p1, p2, _, _, _⟩ := row3 R0
  obtain ⟨q0, q1, q2, _, _, _⟩ := row3 R1
  obtain ⟨r0, r1, r2, _, _, _⟩ := row3 R2
  go_wp2_with fail
  clear p0 p1 p2 q0 q1 q2 r0 r1 r2
  refine (J3.out _).mono ?_
  rintro e w3 ⟨rfl, hb⟩
  have R0 := row_below R0 hb
  have R1 := row_below R1 hb
  have R2 := row_below R2 hb
  have HB := Lib.hid (below_of HB.out hb (Nat.le_refl _))
  have lR0 := lt_of_row R0
  have lR1 := lt_of_row R1
  have lR2 := lt_of_row R2
  clear hb
  obtain ⟨p0, p1, p2, _, _, _⟩ := row3 R0
  obtain ⟨q0, q1, q2, _, _, _⟩ := row3 R1
  obtain ⟨r0, r1, r2, _, _, _⟩ := row3 R2
  go_wp2_with fail
  clear p0 p1 p2 q0 q1 q2 r0 r1 r2
  refine (J4.out _).mono ?_
  rintro e w4 ⟨rfl, hb⟩
  have R0 := row_below R0 hb
  have R1 := row_below R1 hb
  have R2 := row_below R2 hb
  have HB := Lib.hid (below_of HB.out hb (Nat.le_refl _))
  have lR0 := lt_of_row R0
  have lR1 := lt_of_row R1
  have lR2 := lt_of_row R2
  clear hb
  obtain ⟨p0, p1, p2, _, _, _⟩ := row3 R0
  obtain ⟨q0, q1, q2, _, _, _⟩ := row3 R1
  obtain ⟨r0, r1, r2, _, _, _⟩ := row3 R2
  go_wp2_with fail
  clear p0 p1 p2 q0 q1 q2 r0 r1 r2
  refine (J5.out _).mono ?_
  rintro e w5 ⟨rfl, hb⟩
  have R0 := row_below R0 hb
  have R1 := row_below R1 hb
  have R2 := row_below R2 hb
  have HB := Lib.hid (below_of HB.out hb (Nat.le_refl _))
  have lR0 := lt_of_row R0
  have lR1 := lt_of_row R1
  have lR2 := lt_of_row R2
  clear hb
  obtain ⟨p0, p1, p2, _, _, _⟩ := row3 R0
  obtain ⟨q0, q1, q2, _, _, _⟩ := row3 R1
  obtain ⟨r0, r1, r2, _, _, _⟩ := row3 R2
  go_wp2_with fail
  clear p0 p1 p2 q0 q1 q2 r0 r1 r2
  refine (J6.out _).mono ?_
  rintro e w6 ⟨rfl, hb⟩
  have R0 := row_below R0 hb
  have R1 := row_below R1 hb
  have R2 := row_below R2 hb
  have HB := Lib.hid (below_of HB.out hb (Nat.le_refl _))
  have lR0 := lt_of_row R0
  have lR1 := lt_of_row R1
  have lR2 := lt_of_row R2
  clear hb
  obtain ⟨p0, p1, p2, _, _, _⟩ := row3 R0
  obtain ⟨q0, q1, q2, _, _, _⟩ := row3 R1
  obtain ⟨r0, r1, r2, _, _, _⟩ := row3 R2
  go_wp2_with fail
  clear p0 p1 p2 q0 q1 q2 r0 r1 r2
  refine (J7.out _).mono ?_
  rintro e w7 ⟨rfl, hb⟩
  have R0 := row_below R0 hb
  have R1 := row_below R1 hb
  have R2 := row_below R2 hb
  have HB := Lib.hid (below_of HB.out hb (Nat.le_refl _))
  have lR0 := lt_of_row R0
  have lR1 := lt_of_row R1
  have lR2 := lt_of_row R2
  clear hb
  obtain ⟨p0, p1, p2, _, _, _⟩ := row3 R0
  obtain ⟨q0, q1, q2, _, _, _⟩ := row3 R1
  obtain ⟨r0, r1, r2, _, _, _⟩ := row3 R2
  go_wp2_with fail
  clear p0 p1 p2 q0 q1 q2 r0 r1 r2
  refine (J8.out _).mono ?_
  rintro e w8 ⟨rfl, hb⟩
  have R0 := row_below R0 hb
  have R1 := row_below R1 hb
  have R2 := row_below R2 hb
  have HB := Lib.hid (below_of HB.out hb (Nat.le_refl _))
  have lR0 := lt_of_row R0
  have lR1 := lt_of_row R1
  have lR2 := lt_of_row R2
  clear hb
  obtain ⟨p0, p1, p2, _, _, _⟩ := row3 R0
  obtain ⟨q0, q1, q2, _, _, _⟩ := row3 R1
  obtain ⟨r0, r1, r2, _, _, _⟩ := row3 R2
  go_wp2_with fail
  clear p0 p1 p2 q0 q1 q2 r0 r1 r2
  refine (J9.out _).mono ?_
  rintro e w9 ⟨rfl, hb⟩
  have R3 := row_new hb
  have R0 := row_old R0 hb
  have R1 := row_old R1 hb
  have R2 := row_old R2 hb
  have HB := Lib.hid ((HB.out.alloc (by omega) _).trans (hb.mono (by first | (simp; done) | (simp; omega))))
  obtain ⟨g2, hg⟩ : ∃ g, w8.heap.size = g := ⟨_, rfl⟩
  rw [hg] at R3
  rw [hg]
  have lR0 := lt_of_row R0
  have lR1 := lt_of_row R1
  have lR2 := lt_of_row R2
  have lR3 := lt_of_row R3
  clear hb hg
  obtain ⟨p0, p1, p2, _, _, _⟩ := row3 R0
  obtain ⟨q0, q1, q2, _, _, _⟩ := row3 R1
  obtain ⟨r0, r1, r2, _, _, _⟩ := row3 R2
  obtain ⟨s0, s1, s2, _, _, _⟩ := row3 R3
  go_wp2_with fail
  refine (JC.out _).mono ?_
  rintro e w' ⟨rfl, rfl⟩
  go_wp2_with fail
  have e1 := E1.out
  have g3 := G3.out
  have g1 := G1.out
  have g2 := G2.out
  go_region_held3 (fun w' => w'.cell? ⟨w.heap.size, 0, none⟩ = some (.string lo))
    (first
      | go_keep
      | (exact cell_keep (undrew (by assumption)) p0)
      | (exact cell_keep (by assumption) (by assumption)))
    (first
      | (go_at_call 12; refine (awake_any _).mono ?_; rintro e w12 ⟨rfl, hb12⟩))
  all_goals
    go_wp2_with fail
    go_ret
    refine ⟨by first | rfl | simp [Array.getD], ?_⟩
    first
      | exact below_of HB.out hb12 (Nat.le_refl _)
      | exact below_of HB.out (undrew hb12) (Nat.le_refl _)

set_option maxRecDepth 100000 in
set_option maxHeartbeats 4000000 in
theorem KeysMeets_ff1 (lo hi : ByteArray) (b : Bool) (lo2 hi2 : ByteArray) (b2 : Bool) (k : ByteArray) (w : World) (hlo : lo.size ≤ 9223372036854775807) (hhi : hi.size ≤ 9223372036854775807) (hlo2 : lo2.size ≤ 9223372036854775807) (hhi2 : hi2.size ≤ 9223372036854775807) (hk : k.size ≤ 9223372036854775807) (nlo : ¬ 200 < lo.size) (nhi : ¬ 200 < hi.size) (nlo2 : ¬ 200 < lo2.size) (nhi2 : ¬ 200 < hi2.size) (nk : ¬ 200 < k.size) (hc : chkR lo hi b = 0) (hd : chkR lo2 hi2 b2 = 0) (hk32 : k.size ≤ 32) (hx : hasB lo hi b k = false) (hz : hasB lo hi b lo = true) (hle : lo.size ≤ k.size) :
    Calls Try.prog 9 #[.agg #[.string lo, .string hi, .bool b], .agg #[.string lo2, .string hi2, .bool b2], .string k] w fun e w' => e = .returned (.bool true) ∧ Below w.heap.size w w' := by
  have Flo := Lib.hid (fun w => far_no lo w hlo nlo)
  have Fhi := Lib.hid (fun w => far_no hi w hhi nhi)
  have Flo2 := Lib.hid (fun w => far_no lo2 w hlo2 nlo2)
  have Fhi2 := Lib.hid (fun w => far_no hi2 w hhi2 nhi2)
  have Fk := Lib.hid (fun w => far_no k w hk nk)
  obtain ⟨c1, c2, _⟩ := chkR_zero hc
  have K1 := fun w => kMeet_any lo hi b lo2 hi2 b2 w hlo hhi hlo2 hhi2
  have hme : mErr lo hi b lo2 hi2 b2 = 0 := by unfold mErr; rw [hc, hd]; rfl
  have hV : meetV lo hi b lo2 hi2 b2 = (mLo lo lo2, mHi hi b hi2 b2, mB hi b hi2 b2) := by unfold meetV; rw [if_pos hme]
  rw [hV, hme] at K1
  dsimp only at K1
  have hmc := meet_chk hc hd
  have hmh := meet_has lo hi lo2 hi2 k b b2 hc hd
  obtain ⟨m1, hm1⟩ : ∃ v, mLo lo lo2 = v := ⟨_, rfl⟩
  obtain ⟨m2, hm2⟩ : ∃ v, mHi hi b hi2 b2 = v := ⟨_, rfl⟩
  obtain ⟨m3, hm3⟩ : ∃ v, mB hi b hi2 b2 = v := ⟨_, rfl⟩
  rw [hm1, hm2, hm3] at K1 hmc hmh
  have K6 := fun w => kEmpty_any lo hi b w hlo hhi
  rw [hc, emptyV_has hc, hz] at K6
  have J7 := Lib.hid (fun w => in_key lo hi b lo w _ hc c1 hz)
  have K8 := fun w => kOf_any lo w hlo
  have hol : (⟨(ofLo (Kl.L lo)).toArray⟩ : ByteArray) = lo := by unfold ofLo; rw [Kl.L_length, if_pos c1, ← mk_L]
  have hoc := of_chk c1
  have hoh := of_has k c1
  rw [hol, chk1_ok c1] at K8
  obtain ⟨o2, ho2⟩ : ∃ v : ByteArray, ⟨(ofHi (Kl.L lo)).toArray⟩ = v := ⟨_, rfl⟩
  obtain ⟨o3, ho3⟩ : ∃ v, ofB (Kl.L lo) = v := ⟨_, rfl⟩
  rw [ho2, ho3] at K8 hoc hoh
  have J1 := Lib.hid K1
  have J6 := Lib.hid K6
  have J8 := Lib.hid K8
  obtain ⟨y, hy⟩ : ∃ y, hasB lo2 hi2 b2 k = y := ⟨_, rfl⟩
  rw [hx, hy] at hmh
  have J2 := Lib.hid (fun w => in_key lo hi b k w false hc hk32 hx)
  have J3 := Lib.hid (fun w => in_key lo2 hi2 b2 k w y hd hk32 hy)
  have J4 := Lib.hid (fun w => in_key m1 m2 m3 k w false hmc hk32 (by rw [hmh]; simp))
  obtain ⟨d1, d2, _⟩ := chkR_zero hmc
  have K5 := fun w => kCheckRange_any m1 m2 m3 w (by omega) (by omega)
  rw [hmc] at K5
  have J5 := Lib.hid K5
  obtain ⟨v, hv⟩ : ∃ v, (Kl.L lo).isPrefixOf (Kl.L k) = v := ⟨_, rfl⟩
  rw [hv] at hoh
  have J9 := Lib.hid (fun w => in_key lo o2 o3 k w v hoc hk32 hoh)
  have JC := Lib.hid (fun w => chk_yes k w (by omega) hk32)
  have e1 := pre_take hle
  rw [hv] at e1
  have g1 : decide ((lo.size : Int) ≤ (k.size : Int)) = true := by simp; omega
  have g2 : decide (lo.size ≤ k.size) = true := by simp; omega
  have g3 : min (lo.size : Int) (k.size : Int) = (lo.size : Int) := by omega
  have E1 := Lib.hid e1
  have G1 := Lib.hid g1
  have G2 := Lib.hid g2
  have G3 := Lib.hid g3
  clear e1 g1 g2 g3
  clear hy hv hx K5 hk32 
  clear K1 K6 K8 hme hV hmc hmh hm1 hm2 hm3 hol hoc hoh ho2 ho3 hz hc hd nlo nhi nlo2 nhi2 nk
  go_enter Try.func9, Try.ntmps9
  go_wp2_with fail
  refine (Flo.out _).mono ?_
  rintro e w' ⟨rfl, rfl⟩
  go_wp2_with fail
  refine (Fhi.out _).mono ?_
  rintro e w' ⟨rfl, rfl⟩
  go_wp2_with fail
  refine (Flo2.out _).mono ?_
  rintro e w' ⟨rfl, rfl⟩
  go_wp2_with fail
  refine (Fhi2.out _).mono ?_
  rintro e w' ⟨rfl, rfl⟩
  go_wp2_with fail
  refine (Fk.out _).mono ?_
  rintro e w' ⟨rfl, rfl⟩
  go_wp2_with fail
  refine (J1.out _).mono ?_
  rintro e w1 ⟨rfl, hb⟩
  obtain ⟨R0, R1⟩ := rows2 hb
  have HB := Lib.hid ((((Below.refl w.heap.size w).alloc (Nat.le_refl _) _).alloc (by simp) _).trans (hb.mono (by first | (simp; done) | (simp; omega))))
  have l0 := lt_of_row R0
  have l1 := lt_of_row R1
  clear hb
  obtain ⟨p0, p1, p2, _, _, _⟩ := row3 R0
  obtain ⟨q0, q1, q2, _, _, _⟩ := row3 R1
  go_wp2_with fail
  clear p0 p1 p2 q0 q1 q2
  refine (J2.out _).mono ?_
  rintro e w2 ⟨rfl, hb⟩
  have R2 := row_new hb
  have R0 := row_old R0 hb
  have R1 := row_old R1 hb
  have HB := Lib.hid ((HB.out.alloc (by omega) _).trans (hb.mono (by first | (simp; done) | (simp; omega))))
  obtain ⟨g, hg⟩ : ∃ g, w1.heap.size = g := ⟨_, rfl⟩
  rw [hg] at R2
  rw [hg]
  have lR0 := lt_of_row R0
  have lR1 := lt_of_row R1
  have lR2 := lt_of_row R2
  clear hb hg
  obtain ⟨p0, p1, p2, _, _, _⟩ := row3 R0
  obtain ⟨q0, q1, q2, _, _, _⟩ := row3 R1
  obtain ⟨r0, r1, r2, _, _, _⟩ := row3 R2
  go_wp2_with fail
  clear p0 p1 p2 q0 q1 q2 r0 r1 r2
  refine (J3.out _).mono ?_
  rintro e w3 ⟨rfl, hb⟩
  have R0 := row_below R0 hb
  have R1 := row_below R1 hb
  have R2 := row_below R2 hb
  have HB := Lib.hid (below_of HB.out hb (Nat.le_refl _))
  have lR0 := lt_of_row R0
  have lR1 := lt_of_row R1
  have lR2 := lt_of_row R2
  clear hb
  obtain ⟨p0, p1, p2, _, _, _⟩ := row3 R0
  obtain ⟨q0, q1, q2, _, _, _⟩ := row3 R1
  obtain ⟨r0, r1, r2, _, _, _⟩ := row3 R2
  go_wp2_with fail
  clear p0 p1 p2 q0 q1 q2 r0 r1 r2
  refine (J4.out _).mono ?_
  rintro e w4 ⟨rfl, hb⟩
  have R0 := row_below R0 hb
  have R1 := row_below R1 hb
  have R2 := row_below R2 hb
  have HB := Lib.hid (below_of HB.out hb (Nat.le_refl _))
  have lR0 := lt_of_row R0
  have lR1 := lt_of_row R1
  have lR2 := lt_of_row R2
  clear hb
  obtain ⟨p0, p1, p2, _, _, _⟩ := row3 R0
  obtain ⟨q0, q1, q2, _, _, _⟩ := row3 R1
  obtain ⟨r0, r1, r2, _, _, _⟩ := row3 R2
  go_wp2_with fail
  clear p0 p1 p2 q0 q1 q2 r0 r1 r2
  refine (J5.out _).mono ?_
  rintro e w5 ⟨rfl, hb⟩
  have R0 := row_below R0 hb
  have R1 := row_below R1 hb
  have R2 := row_below R2 hb
  have HB := Lib.hid (below_of HB.out hb (Nat.le_refl _))
  have lR0 := lt_of_row R0
  have lR1 := lt_of_row R1
  have lR2 := lt_of_row R2
  clear hb
  obtain ⟨p0, p1, p2, _, _, _⟩ := row3 R0
  obtain ⟨q0, q1, q2, _, _, _⟩ := row3 R1
  obtain ⟨r0, r1, r2, _, _, _⟩ := row3 R2
  go_wp2_with fail
  clear p0 p1 p2 q0 q1 q2 r0 r1 r2
  refine (J6.out _).mono ?_
  rintro e w6 ⟨rfl, hb⟩
  have R0 := row_below R0 hb
  have R1 := row_below R1 hb
  have R2 := row_below R2 hb
  have HB := Lib.hid (below_of HB.out hb (Nat.le_refl _))
  have lR0 := lt_of_row R0
  have lR1 := lt_of_row R1
  have lR2 := lt_of_row R2
  clear hb
  obtain ⟨p0, p1, p2, _, _, _⟩ := row3 R0
  obtain ⟨q0, q1, q2, _, _, _⟩ := row3 R1
  obtain ⟨r0, r1, r2, _, _, _⟩ := row3 R2
  go_wp2_with fail
  clear p0 p1 p2 q0 q1 q2 r0 r1 r2
  refine (J7.out _).mono ?_
  rintro e w7 ⟨rfl, hb⟩
  have R0 := row_below R0 hb
  have R1 := row_below R1 hb
  have R2 := row_below R2 hb
  have HB := Lib.hid (below_of HB.out hb (Nat.le_refl _))
  have lR0 := lt_of_row R0
  have lR1 := lt_of_row R1
  have lR2 := lt_of_row R2
  clear hb
  obtain ⟨p0, p1, p2, _, _, _⟩ := row3 R0
  obtain ⟨q0, q1, q2, _, _, _⟩ := row3 R1
  obtain ⟨r0, r1, r2, _, _, _⟩ := row3 R2
  go_wp2_with fail
  clear p0 p1 p2 q0 q1 q2 r0 r1 r2
  refine (J8.out _).mono ?_
  rintro e w8 ⟨rfl, hb⟩
  have R0 := row_below R0 hb
  have R1 := row_below R1 hb
  have R2 := row_below R2 hb
  have HB := Lib.hid (below_of HB.out hb (Nat.le_refl _))
  have lR0 := lt_of_row R0
  have lR1 := lt_of_row R1
  have lR2 := lt_of_row R2
  clear hb
  obtain ⟨p0, p1, p2, _, _, _⟩ := row3 R0
  obtain ⟨q0, q1, q2, _, _, _⟩ := row3 R1
  obtain ⟨r0, r1, r2, _, _, _⟩ := row3 R2
  go_wp2_with fail
  clear p0 p1 p2 q0 q1 q2 r0 r1 r2
  refine (J9.out _).mono ?_
  rintro e w9 ⟨rfl, hb⟩
  have R3 := row_new hb
  have R0 := row_old R0 hb
  have R1 := row_old R1 hb
  have R2 := row_old R2 hb
  have HB := Lib.hid ((HB.out.alloc (by omega) _).trans (hb.mono (by first | (simp; done) | (simp; omega))))
  obtain ⟨g2, hg⟩ : ∃ g, w8.heap.size = g := ⟨_, rfl⟩
  rw [hg] at R3
  rw [hg]
  have lR0 := lt_of_row R0
  have lR1 := lt_of_row R1
  have lR2 := lt_of_row R2
  have lR3 := lt_of_row R3
  clear hb hg
  obtain ⟨p0, p1, p2, _, _, _⟩ := row3 R0
  obtain ⟨q0, q1, q2, _, _, _⟩ := row3 R1
  obtain ⟨r0, r1, r2, _, _, _⟩ := row3 R2
  obtain ⟨s0, s1, s2, _, _, _⟩ := row3 R3
  go_wp2_with fail
  refine (JC.out _).mono ?_
  rintro e w' ⟨rfl, rfl⟩
  go_wp2_with fail
  have e1 := E1.out
  have g3 := G3.out
  have g1 := G1.out
  have g2 := G2.out
  go_region_held3 (fun w' => w'.cell? ⟨w.heap.size, 0, none⟩ = some (.string lo))
    (first
      | go_keep
      | (exact cell_keep (undrew (by assumption)) p0)
      | (exact cell_keep (by assumption) (by assumption)))
    (first
      | (go_at_call 12; refine (awake_any _).mono ?_; rintro e w12 ⟨rfl, hb12⟩))
  all_goals
    go_wp2_with fail
    go_ret
    refine ⟨by first | rfl | simp [Array.getD], ?_⟩
    first
      | exact below_of HB.out hb12 (Nat.le_refl _)
      | exact below_of HB.out (undrew hb12) (Nat.le_refl _)

set_option maxRecDepth 100000 in
set_option maxHeartbeats 4000000 in
theorem KeysMeets_ft1 (lo hi : ByteArray) (b : Bool) (lo2 hi2 : ByteArray) (b2 : Bool) (k : ByteArray) (w : World) (hlo : lo.size ≤ 9223372036854775807) (hhi : hi.size ≤ 9223372036854775807) (hlo2 : lo2.size ≤ 9223372036854775807) (hhi2 : hi2.size ≤ 9223372036854775807) (hk : k.size ≤ 9223372036854775807) (nlo : ¬ 200 < lo.size) (nhi : ¬ 200 < hi.size) (nlo2 : ¬ 200 < lo2.size) (nhi2 : ¬ 200 < hi2.size) (nk : ¬ 200 < k.size) (hc : chkR lo hi b = 0) (hd : chkR lo2 hi2 b2 = 0) (hk32 : k.size ≤ 32) (hx : hasB lo hi b k = false) (hz : hasB lo hi b lo = false) (hle : lo.size ≤ k.size) :
    Calls Try.prog 9 #[.agg #[.string lo, .string hi, .bool b], .agg #[.string lo2, .string hi2, .bool b2], .string k] w fun e w' => e = .returned (.bool true) ∧ Below w.heap.size w w' := by
  have Flo := Lib.hid (fun w => far_no lo w hlo nlo)
  have Fhi := Lib.hid (fun w => far_no hi w hhi nhi)
  have Flo2 := Lib.hid (fun w => far_no lo2 w hlo2 nlo2)
  have Fhi2 := Lib.hid (fun w => far_no hi2 w hhi2 nhi2)
  have Fk := Lib.hid (fun w => far_no k w hk nk)
  obtain ⟨c1, c2, _⟩ := chkR_zero hc
  have K1 := fun w => kMeet_any lo hi b lo2 hi2 b2 w hlo hhi hlo2 hhi2
  have hme : mErr lo hi b lo2 hi2 b2 = 0 := by unfold mErr; rw [hc, hd]; rfl
  have hV : meetV lo hi b lo2 hi2 b2 = (mLo lo lo2, mHi hi b hi2 b2, mB hi b hi2 b2) := by unfold meetV; rw [if_pos hme]
  rw [hV, hme] at K1
  dsimp only at K1
  have hmc := meet_chk hc hd
  have hmh := meet_has lo hi lo2 hi2 k b b2 hc hd
  obtain ⟨m1, hm1⟩ : ∃ v, mLo lo lo2 = v := ⟨_, rfl⟩
  obtain ⟨m2, hm2⟩ : ∃ v, mHi hi b hi2 b2 = v := ⟨_, rfl⟩
  obtain ⟨m3, hm3⟩ : ∃ v, mB hi b hi2 b2 = v := ⟨_, rfl⟩
  rw [hm1, hm2, hm3] at K1 hmc hmh
  have K6 := fun w => kEmpty_any lo hi b w hlo hhi
  rw [hc, emptyV_has hc, hz] at K6
  have J7 := Lib.hid (fun w => in_key lo hi b lo w _ hc c1 hz)
  have K8 := fun w => kOf_any lo w hlo
  have hol : (⟨(ofLo (Kl.L lo)).toArray⟩ : ByteArray) = lo := by unfold ofLo; rw [Kl.L_length, if_pos c1, ← mk_L]
  have hoc := of_chk c1
  have hoh := of_has k c1
  rw [hol, chk1_ok c1] at K8
  obtain ⟨o2, ho2⟩ : ∃ v : ByteArray, ⟨(ofHi (Kl.L lo)).toArray⟩ = v := ⟨_, rfl⟩
  obtain ⟨o3, ho3⟩ : ∃ v, ofB (Kl.L lo) = v := ⟨_, rfl⟩
  rw [ho2, ho3] at K8 hoc hoh
  have J1 := Lib.hid K1
  have J6 := Lib.hid K6
  have J8 := Lib.hid K8
  obtain ⟨y, hy⟩ : ∃ y, hasB lo2 hi2 b2 k = y := ⟨_, rfl⟩
  rw [hx, hy] at hmh
  have J2 := Lib.hid (fun w => in_key lo hi b k w false hc hk32 hx)
  have J3 := Lib.hid (fun w => in_key lo2 hi2 b2 k w y hd hk32 hy)
  have J4 := Lib.hid (fun w => in_key m1 m2 m3 k w false hmc hk32 (by rw [hmh]; simp))
  obtain ⟨d1, d2, _⟩ := chkR_zero hmc
  have K5 := fun w => kCheckRange_any m1 m2 m3 w (by omega) (by omega)
  rw [hmc] at K5
  have J5 := Lib.hid K5
  obtain ⟨v, hv⟩ : ∃ v, (Kl.L lo).isPrefixOf (Kl.L k) = v := ⟨_, rfl⟩
  rw [hv] at hoh
  have J9 := Lib.hid (fun w => in_key lo o2 o3 k w v hoc hk32 hoh)
  have JC := Lib.hid (fun w => chk_yes k w (by omega) hk32)
  have e1 := pre_take hle
  rw [hv] at e1
  have g1 : decide ((lo.size : Int) ≤ (k.size : Int)) = true := by simp; omega
  have g2 : decide (lo.size ≤ k.size) = true := by simp; omega
  have g3 : min (lo.size : Int) (k.size : Int) = (lo.size : Int) := by omega
  have E1 := Lib.hid e1
  have G1 := Lib.hid g1
  have G2 := Lib.hid g2
  have G3 := Lib.hid g3
  clear e1 g1 g2 g3
  clear hy hv hx K5 hk32 
  clear K1 K6 K8 hme hV hmc hmh hm1 hm2 hm3 hol hoc hoh ho2 ho3 hz hc hd nlo nhi nlo2 nhi2 nk
  go_enter Try.func9, Try.ntmps9
  go_wp2_with fail
  refine (Flo.out _).mono ?_
  rintro e w' ⟨rfl, rfl⟩
  go_wp2_with fail
  refine (Fhi.out _).mono ?_
  rintro e w' ⟨rfl, rfl⟩
  go_wp2_with fail
  refine (Flo2.out _).mono ?_
  rintro e w' ⟨rfl, rfl⟩
  go_wp2_with fail
  refine (Fhi2.out _).mono ?_
  rintro e w' ⟨rfl, rfl⟩
  go_wp2_with fail
  refine (Fk.out _).mono ?_
  rintro e w' ⟨rfl, rfl⟩
  go_wp2_with fail
  refine (J1.out _).mono ?_
  rintro e w1 ⟨rfl, hb⟩
  obtain ⟨R0, R1⟩ := rows2 hb
  have HB := Lib.hid ((((Below.refl w.heap.size w).alloc (Nat.le_refl _) _).alloc (by simp) _).trans (hb.mono (by first | (simp; done) | (simp; omega))))
  have l0 := lt_of_row R0
  have l1 := lt_of_row R1
  clear hb
  obtain ⟨p0, p1, p2, _, _, _⟩ := row3 R0
  obtain ⟨q0, q1, q2, _, _, _⟩ := row3 R1
  go_wp2_with fail
  clear p0 p1 p2 q0 q1 q2
  refine (J2.out _).mono ?_
  rintro e w2 ⟨rfl, hb⟩
  have R2 := row_new hb
  have R0 := row_old R0 hb
  have R1 := row_old R1 hb
  have HB := Lib.hid ((HB.out.alloc (by omega) _).trans (hb.mono (by first | (simp; done) | (simp; omega))))
  obtain ⟨g, hg⟩ : ∃ g, w1.heap.size = g := ⟨_, rfl⟩
  rw [hg] at R2
  rw [hg]
  have lR0 := lt_of_row R0
  have lR1 := lt_of_row R1
  have lR2 := lt_of_row R2
  clear hb hg
  obtain ⟨p0, p1, p2, _, _, _⟩ := row3 R0
  obtain ⟨q0, q1, q2, _, _, _⟩ := row3 R1
  obtain ⟨r0, r1, r2, _, _, _⟩ := row3 R2
  go_wp2_with fail
  clear p0 p1 p2 q0 q1 q2 r0 r1 r2
  refine (J3.out _).mono ?_
  rintro e w3 ⟨rfl, hb⟩
  have R0 := row_below R0 hb
  have R1 := row_below R1 hb
  have R2 := row_below R2 hb
  have HB := Lib.hid (below_of HB.out hb (Nat.le_refl _))
  have lR0 := lt_of_row R0
  have lR1 := lt_of_row R1
  have lR2 := lt_of_row R2
  clear hb
  obtain ⟨p0, p1, p2, _, _, _⟩ := row3 R0
  obtain ⟨q0, q1, q2, _, _, _⟩ := row3 R1
  obtain ⟨r0, r1, r2, _, _, _⟩ := row3 R2
  go_wp2_with fail
  clear p0 p1 p2 q0 q1 q2 r0 r1 r2
  refine (J4.out _).mono ?_
  rintro e w4 ⟨rfl, hb⟩
  have R0 := row_below R0 hb
  have R1 := row_below R1 hb
  have R2 := row_below R2 hb
  have HB := Lib.hid (below_of HB.out hb (Nat.le_refl _))
  have lR0 := lt_of_row R0
  have lR1 := lt_of_row R1
  have lR2 := lt_of_row R2
  clear hb
  obtain ⟨p0, p1, p2, _, _, _⟩ := row3 R0
  obtain ⟨q0, q1, q2, _, _, _⟩ := row3 R1
  obtain ⟨r0, r1, r2, _, _, _⟩ := row3 R2
  go_wp2_with fail
  clear p0 p1 p2 q0 q1 q2 r0 r1 r2
  refine (J5.out _).mono ?_
  rintro e w5 ⟨rfl, hb⟩
  have R0 := row_below R0 hb
  have R1 := row_below R1 hb
  have R2 := row_below R2 hb
  have HB := Lib.hid (below_of HB.out hb (Nat.le_refl _))
  have lR0 := lt_of_row R0
  have lR1 := lt_of_row R1
  have lR2 := lt_of_row R2
  clear hb
  obtain ⟨p0, p1, p2, _, _, _⟩ := row3 R0
  obtain ⟨q0, q1, q2, _, _, _⟩ := row3 R1
  obtain ⟨r0, r1, r2, _, _, _⟩ := row3 R2
  go_wp2_with fail
  clear p0 p1 p2 q0 q1 q2 r0 r1 r2
  refine (J6.out _).mono ?_
  rintro e w6 ⟨rfl, hb⟩
  have R0 := row_below R0 hb
  have R1 := row_below R1 hb
  have R2 := row_below R2 hb
  have HB := Lib.hid (below_of HB.out hb (Nat.le_refl _))
  have lR0 := lt_of_row R0
  have lR1 := lt_of_row R1
  have lR2 := lt_of_row R2
  clear hb
  obtain ⟨p0, p1, p2, _, _, _⟩ := row3 R0
  obtain ⟨q0, q1, q2, _, _, _⟩ := row3 R1
  obtain ⟨r0, r1, r2, _, _, _⟩ := row3 R2
  go_wp2_with fail
  clear p0 p1 p2 q0 q1 q2 r0 r1 r2
  refine (J7.out _).mono ?_
  rintro e w7 ⟨rfl, hb⟩
  have R0 := row_below R0 hb
  have R1 := row_below R1 hb
  have R2 := row_below R2 hb
  have HB := Lib.hid (below_of HB.out hb (Nat.le_refl _))
  have lR0 := lt_of_row R0
  have lR1 := lt_of_row R1
  have lR2 := lt_of_row R2
  clear hb
  obtain ⟨p0, p1, p2, _, _, _⟩ := row3 R0
  obtain ⟨q0, q1, q2, _, _, _⟩ := row3 R1
  obtain ⟨r0, r1, r2, _, _, _⟩ := row3 R2
  go_wp2_with fail
  clear p0 p1 p2 q0 q1 q2 r0 r1 r2
  refine (J8.out _).mono ?_
  rintro e w8 ⟨rfl, hb⟩
  have R0 := row_below R0 hb
  have R1 := row_below R1 hb
  have R2 := row_below R2 hb
  have HB := Lib.hid (below_of HB.out hb (Nat.le_refl _))
  have lR0 := lt_of_row R0
  have lR1 := lt_of_row R1
  have lR2 := lt_of_row R2
  clear hb
  obtain ⟨p0, p1, p2, _, _, _⟩ := row3 R0
  obtain ⟨q0, q1, q2, _, _, _⟩ := row3 R1
  obtain ⟨r0, r1, r2, _, _, _⟩ := row3 R2
  go_wp2_with fail
  clear p0 p1 p2 q0 q1 q2 r0 r1 r2
  refine (J9.out _).mono ?_
  rintro e w9 ⟨rfl, hb⟩
  have R3 := row_new hb
  have R0 := row_old R0 hb
  have R1 := row_old R1 hb
  have R2 := row_old R2 hb
  have HB := Lib.hid ((HB.out.alloc (by omega) _).trans (hb.mono (by first | (simp; done) | (simp; omega))))
  obtain ⟨g2, hg⟩ : ∃ g, w8.heap.size = g := ⟨_, rfl⟩
  rw [hg] at R3
  rw [hg]
  have lR0 := lt_of_row R0
  have lR1 := lt_of_row R1
  have lR2 := lt_of_row R2
  have lR3 := lt_of_row R3
  clear hb hg
  obtain ⟨p0, p1, p2, _, _, _⟩ := row3 R0
  obtain ⟨q0, q1, q2, _, _, _⟩ := row3 R1
  obtain ⟨r0, r1, r2, _, _, _⟩ := row3 R2
  obtain ⟨s0, s1, s2, _, _, _⟩ := row3 R3
  go_wp2_with fail
  refine (JC.out _).mono ?_
  rintro e w' ⟨rfl, rfl⟩
  go_wp2_with fail
  have e1 := E1.out
  have g3 := G3.out
  have g1 := G1.out
  have g2 := G2.out
  go_region_held3 (fun w' => w'.cell? ⟨w.heap.size, 0, none⟩ = some (.string lo))
    (first
      | go_keep
      | (exact cell_keep (undrew (by assumption)) p0)
      | (exact cell_keep (by assumption) (by assumption)))
    (first
      | (go_at_call 12; refine (awake_any _).mono ?_; rintro e w12 ⟨rfl, hb12⟩))
  all_goals
    go_wp2_with fail
    go_ret
    refine ⟨by first | rfl | simp [Array.getD], ?_⟩
    first
      | exact below_of HB.out hb12 (Nat.le_refl _)
      | exact below_of HB.out (undrew hb12) (Nat.le_refl _)
end Go.Proofs.Ytgljgjkoaaibnaa.KK
