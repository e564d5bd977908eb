/-
  slices.swapRangeCmpFunc, slices.rotateCmpFunc over entries.
-/
import Derived.Test.YtmobjpmkenpckaaDoorQd
namespace Go.Proofs.YtmobjpmkenpckaaDoor.KK
open Go.ChangeShapes Go.WideShapes Go.ChangeAt Go.RowKit Go.Proofs Go.Sort

set_option maxRecDepth 100000 in
set_option maxHeartbeats 4000000 in
theorem sr_any (base bk o cap n : Nat) (P U M V' R : List V) (w : World) (hrow : ERow w bk o (P ++ (U ++ (M ++ (V' ++ R))))) (hb : bk < w.heap.size) (hbase : base ≤ bk) (hlen : (P ++ (U ++ (M ++ (V' ++ R)))).length = n) (hn : n ≤ 4000000000) (hUV : V'.length = U.length) :
    Calls Tryd.prog 66 #[.slice (some ⟨bk, o, none⟩) n cap, .int .i64 P.length, .int .i64 (P.length + U.length + M.length : Nat), .int .i64 U.length, .func (.func 27) #[.agg #[]] #[]] w
      fun e w' => e = .returned (.tuple #[]) ∧ ERow w' bk o (P ++ (V' ++ (M ++ (U ++ R)))) ∧ Below base w w' := by
  obtain ⟨a, haa⟩ : ∃ a, P.length = a := ⟨_, rfl⟩
  obtain ⟨c, hcc⟩ : ∃ c, U.length = c := ⟨_, rfl⟩
  obtain ⟨d, hdd⟩ : ∃ d, P.length + U.length + M.length = d := ⟨_, rfl⟩
  have hs1 : a + c ≤ d := by omega
  have hs2 : d + c ≤ n := by rw [← hlen]; simp; omega
  rw [hdd, haa, hcc]
  have HA := Lib.hid haa
  have HC := Lib.hid hcc
  have HD := Lib.hid hdd
  have HR := Lib.hid hrow
  have HV := Lib.hid (hUV.trans hcc)
  clear haa hcc hdd hrow hlen hUV
  go_enter Tryd.func66, Tryd.ntmps66
  go_wp2_with fail
  go_loopw [10] (fun vi wr => ∃ (i : Nat) (U1 U2 V1 V2 : List V), vi = .int .i64 i ∧ i ≤ c ∧ U = U1 ++ U2 ∧ V' = V1 ++ V2 ∧ U1.length = i ∧ V1.length = i ∧ ERow wr bk o (P ++ (V1 ++ (U2 ++ (M ++ (U1 ++ (V2 ++ R)))))) ∧ Below base w wr) (fun vi _ => c - (intOf vi).toNat)
  case atStart => exact ⟨0, [], U, [], V', by first | rfl | go_num, Nat.zero_le _, rfl, rfl, rfl, rfl, HR.out, Below.refl _ _⟩
  case round =>
    obtain ⟨i, U1, U2, V1, V2, rfl, hi, hU, hV, hU1, hV1, hr, hbl⟩ := hrel
    have hbw : bk < wr.heap.size := Nat.lt_of_lt_of_le hb hbl.size
    have HU := Lib.hid hU
    have HVV := Lib.hid hV
    have HU1 := Lib.hid hU1
    have HV1 := Lib.hid hV1
    have HR2 := Lib.hid hr
    have HB := Lib.hid hbl
    clear hU hV hU1 hV1 hr hbl
    by_cases hlt : i < c
    rotate_left
    · have hf : ¬ (i : Int) < (c : Int) := by omega
      have hU2 : U2 = [] := List.eq_nil_of_length_eq_zero (by have h := HC.out; rw [HU.out, List.length_append, HU1.out] at h; omega)
      have hV2 : V2 = [] := List.eq_nil_of_length_eq_zero (by have h := HV.out; rw [HVV.out, List.length_append, HV1.out] at h; omega)
      go_wp2_with fail
      go_end0
      refine ⟨rfl, ?_, HB.out⟩
      have h := HR2.out
      rw [HU.out, HVV.out, hU2, hV2]
      rw [hU2, hV2] at h
      simpa using h
    obtain ⟨u, U3, hu⟩ : ∃ u U3, U2 = u :: U3 := by
      cases U2 with
      | nil => have h := HC.out; rw [HU.out, List.append_nil, HU1.out] at h; omega
      | cons x t => exact ⟨x, t, rfl⟩
    obtain ⟨v, V3, hv⟩ : ∃ v V3, V2 = v :: V3 := by
      cases V2 with
      | nil => have h := HV.out; rw [HVV.out, List.append_nil, HV1.out] at h; omega
      | cons x t => exact ⟨x, t, rfl⟩
    subst hu hv
    have hr1 : ERow wr bk o ((P ++ V1) ++ u :: ((U3 ++ (M ++ U1)) ++ v :: (V3 ++ R))) := by have h := HR2.out; simpa using h
    have hr2 : ERow wr bk o (((P ++ V1) ++ u :: (U3 ++ (M ++ U1))) ++ v :: (V3 ++ R)) := by simpa using hr1
    have i1 : a + i = (P ++ V1).length := by rw [List.length_append, HA.out, HV1.out]
    have i2 : d + i = (P ++ V1).length + 1 + (U3 ++ (M ++ U1)).length := by
      have h := HC.out; rw [HU.out, List.length_append, HU1.out] at h
      have h2 := HD.out
      rw [HU.out] at h2
      simp [HA.out, HV1.out, HU1.out] at h h2 ⊢
      omega
    obtain ⟨⟨y0, y1, y2, y3⟩, f0, f1, f2, f3⟩ := hr1.at i1
    obtain ⟨⟨z0, z1, z2, z3⟩, f4, f5, f6, f7⟩ := hr2.at (i := d + i) (by rw [i2]; simp; omega)
    have HR3 := Lib.hid hr1
    have HI1 := Lib.hid i1
    have HI2 := Lib.hid i2
    have q1 : (i : Int) < (c : Int) := by omega
    have q2 : (a : Int) + (i : Int) < (n : Int) := by omega
    have q3 : (d : Int) + (i : Int) < (n : Int) := by omega
    have q4 : IntKind.i64.wrap ((a : Int) + (i : Int)) = ((a + i : Nat) : Int) := by rw [IntKind.wrap_i64]; omega
    have q5 : IntKind.i64.wrap ((d : Int) + (i : Int)) = ((d + i : Nat) : Int) := by rw [IntKind.wrap_i64]; omega
    have mixed : Tryd.prog.follows .mixedOrders = true := by kernel_rfl
    clear hr1 hr2 i1 i2
    go_wp2_with fail
    go_big_region_o
    all_goals go_wp2_with fail
    go_roundw
    case rel =>
      refine ⟨i + 1, U1 ++ [u], U3, V1 ++ [v], V3, by go_num, by omega, by rw [HU.out]; simp, by rw [HVV.out]; simp, by rw [List.length_append, HU1.out]; rfl, by rw [List.length_append, HV1.out]; rfl, ?_, ?_⟩
      · have h := row_swap (w := wr) HR3.out HI1.out HI2.out
        rw [show P ++ (V1 ++ [v] ++ (U3 ++ (M ++ (U1 ++ [u] ++ (V3 ++ R))))) = (P ++ V1) ++ v :: ((U3 ++ (M ++ U1)) ++ u :: (V3 ++ R)) by simp]
        exact ERow.drew h
      · exact Below.drew' (put2_below (w := wr) (i := a + i) (j := d + i) (x := v) (y := u) HB.out hbase)
    case measure => simp [intOf]; omega
end Go.Proofs.YtmobjpmkenpckaaDoor.KK
