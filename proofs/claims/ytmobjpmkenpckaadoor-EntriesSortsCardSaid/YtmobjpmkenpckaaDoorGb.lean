/-
  slices.rotateCmpFunc over entries.
-/
import Derived.Test.YtmobjpmkenpckaaDoorGa
namespace Go.Proofs.YtmobjpmkenpckaaDoor.KK
open Go.ChangeShapes Go.WideShapes Go.ChangeAt Go.RowKit Go.Proofs Go.Sort

set_option maxRecDepth 100000 in
set_option maxHeartbeats 4000000 in
theorem ro_any (base bk o cap n : Nat) (P U W R : List V) (w : World) (hrow : ERow w bk o (P ++ (U ++ (W ++ R)))) (hb : bk < w.heap.size) (hbase : base ≤ bk) (hlen : (P ++ (U ++ (W ++ R))).length = n) (hn : n ≤ 4000000000) (hU0 : 0 < U.length) (hW0 : 0 < W.length) :
    Calls Tryd.prog 60 #[.slice (some ⟨bk, o, none⟩) n cap, .int .i64 P.length, .int .i64 (P.length + U.length : Nat), .int .i64 (P.length + U.length + W.length : Nat), .func (.func 27) #[.agg #[]] #[]] w
      fun e w' => e = .returned (.tuple #[]) ∧ ERow w' bk o (P ++ (W ++ (U ++ R))) ∧ Below base w w' := by
  obtain ⟨a, haa⟩ : ∃ a, P.length = a := ⟨_, rfl⟩
  obtain ⟨c, hcc⟩ : ∃ c, U.length = c := ⟨_, rfl⟩
  obtain ⟨d, hdd⟩ : ∃ d, W.length = d := ⟨_, rfl⟩
  rw [haa, hcc, hdd]
  rw [hcc] at hU0
  rw [hdd] at hW0
  have hsum : a + c + d ≤ n := by rw [← hlen, ← haa, ← hcc, ← hdd]; simp; omega
  have HA := Lib.hid haa
  have HC := Lib.hid hcc
  have HD := Lib.hid hdd
  have HR := Lib.hid hrow
  have HLEN := Lib.hid hlen
  clear haa hcc hdd hrow hlen
  have w1 : IntKind.i64.wrap (((a + c : Nat) : Int) - (a : Int)) = (c : Int) := by rw [IntKind.wrap_i64]; omega
  have w2 : IntKind.i64.wrap (((a + c + d : Nat) : Int) - ((a + c : Nat) : Int)) = (d : Int) := by rw [IntKind.wrap_i64]; omega
  obtain ⟨m, hm⟩ : ∃ m, a + c = m := ⟨_, rfl⟩
  obtain ⟨z, hz⟩ : ∃ z, a + c + d = z := ⟨_, rfl⟩
  rw [hz, hm]
  rw [hm] at w1
  rw [hz, hm] at w2
  rw [hm] at hz
  have HM := Lib.hid hm
  have HZ := Lib.hid hz
  have hmn : m + d ≤ n := by omega
  have HMN := Lib.hid hmn
  clear hm hz
  go_enter Tryd.func60, Tryd.ntmps60
  go_wp2_with fail
  go_loopw [10, 11] (fun vi vj wr => ∃ (i j p : Nat) (X U' W' Y : List V), vi = .int .i64 i ∧ vj = .int .i64 j ∧ U'.length = i ∧ W'.length = j ∧ 0 < i ∧ 0 < j ∧ (P ++ X).length = p ∧ p + i = m ∧ m + j ≤ n ∧ ERow wr bk o ((P ++ X) ++ (U' ++ (W' ++ (Y ++ R)))) ∧ X ++ (W' ++ (U' ++ Y)) = W ++ U ∧ Below base w wr) (fun vi vj _ => (intOf vi).toNat + (intOf vj).toNat)
  case atStart => exact ⟨c, d, a, [], U, W, [], by first | rfl | go_num, by first | rfl | go_num, HC.out, HD.out, hU0, hW0, by rw [List.append_nil]; exact HA.out, HM.out, HMN.out, by have h := HR.out; simpa using h, by simp, Below.refl _ _⟩
  case round =>
    obtain ⟨i, j, p, X, U', W', Y, rfl, rfl, hUi, hWj, hi0, hj0, hp, hpm, hmj, hr, heq, hbl⟩ := hrel
    have hbw : bk < wr.heap.size := Nat.lt_of_lt_of_le hb hbl.size
    have htot : ((P ++ X) ++ (U' ++ (W' ++ (Y ++ R)))).length = n := by
      have h1 := HLEN.out
      have h2 := congrArg List.length heq
      simp at h1 h2 ⊢
      omega
    have k1 : IntKind.i64.wrap ((m : Int) - (i : Int)) = (p : Int) := by rw [IntKind.wrap_i64]; omega
    have HUi := Lib.hid hUi
    have HWj := Lib.hid hWj
    have HP := Lib.hid hp
    have HPM := Lib.hid hpm
    have HR2 := Lib.hid hr
    have HEQ := Lib.hid heq
    have HB := Lib.hid hbl
    have HT := Lib.hid htot
    clear hUi hWj hp hr heq hbl htot
    by_cases hij : i = j
    · subst hij
      have J := Lib.hid (by
        have K := sr_any base bk o cap n (P ++ X) (U') ([]) (W') (Y ++ R) wr (by simpa using HR2.out) hbw hbase (by simpa using HT.out) hn (by rw [HWj.out, HUi.out])
        rw [HP.out, HUi.out, List.length_nil, Nat.add_zero, hpm] at K
        exact K)
      have e1 : ((i : Int) != (i : Int)) = false := by simp
      clear hpm
      go_wp2_with fail
      refine J.out.mono ?_
      rintro e w3 ⟨rfl, hr3, hb3⟩
      have HF := Lib.hid hr3
      have HB3 := Lib.hid (HB.out.trans hb3)
      clear hr3 hb3 J
      go_wp2_with fail
      go_end0
      refine ⟨rfl, ?_, HB3.out⟩
      have h := HF.out
      have he := HEQ.out
      rw [show (P ++ X) ++ (W' ++ ([] ++ (U' ++ (Y ++ R)))) = P ++ ((X ++ (W' ++ (U' ++ Y))) ++ R) by simp, he] at h
      simpa using h
    have e1 : ((i : Int) == (j : Int)) = false := by rw [beq_eq_false_iff_ne]; omega
    have e2 : ((i : Int) != (j : Int)) = true := by rw [bne_iff_ne]; omega
    by_cases hlt : j < i
    · obtain ⟨U1, U2, hU, hU1⟩ : ∃ U1 U2, U' = U1 ++ U2 ∧ U1.length = j := ⟨U'.take j, U'.drop j, (List.take_append_drop _ _).symm, by rw [List.length_take, HUi.out]; omega⟩
      have hU2 : U2.length = i - j := by have h := HUi.out; rw [hU, List.length_append, hU1] at h; omega
      have J := Lib.hid (by
        have K := sr_any base bk o cap n (P ++ X) (U1) (U2) (W') (Y ++ R) wr (by have h := HR2.out; rw [hU] at h; simpa using h) hbw hbase (by have h := HT.out; rw [hU] at h; simpa using h) hn (by rw [HWj.out, hU1])
        rw [HP.out, hU1, hU2, show p + j + (i - j) = m by omega] at K
        exact K)
      have k2 : IntKind.i64.wrap ((i : Int) - (j : Int)) = ((i - j : Nat) : Int) := by rw [IntKind.wrap_i64]; omega
      have g1 : (j : Int) < (i : Int) := by omega
      have HU := Lib.hid hU
      have HU1 := Lib.hid hU1
      have HU2 := Lib.hid hU2
      clear hpm hU hU1 hU2
      go_wp2_with fail
      refine J.out.mono ?_
      rintro e w3 ⟨rfl, hr3, hb3⟩
      have HF := Lib.hid hr3
      have HB3 := Lib.hid (HB.out.trans hb3)
      clear hr3 hb3 J
      go_wp2_with fail
      go_roundw
      case rel =>
        refine ⟨i - j, j, p + j, X ++ W', U2, U1, Y, by first | rfl | go_num, rfl, HU2.out, HU1.out, by omega, hj0, by rw [← List.append_assoc, List.length_append, HP.out, HWj.out], by have := HPM.out; omega, hmj, by have h := HF.out; simpa using h, ?_, HB3.out⟩
        have he := HEQ.out
        rw [HU.out] at he
        rw [← he]; simp
      case measure => simp [intOf]; omega
    · obtain ⟨W1, W2, hW, hW2⟩ : ∃ W1 W2, W' = W1 ++ W2 ∧ W2.length = i := ⟨W'.take (j - i), W'.drop (j - i), (List.take_append_drop _ _).symm, by rw [List.length_drop, HWj.out]; omega⟩
      have hW1 : W1.length = j - i := by have h := HWj.out; rw [hW, List.length_append, hW2] at h; omega
      have J := Lib.hid (by
        have K := sr_any base bk o cap n (P ++ X) (U') (W1) (W2) (Y ++ R) wr (by have h := HR2.out; rw [hW] at h; simpa using h) hbw hbase (by have h := HT.out; rw [hW] at h; simpa using h) hn (by rw [hW2, HUi.out])
        rw [HP.out, HUi.out, hW1, show p + i + (j - i) = m + j - i by omega] at K
        exact K)
      have k2 : IntKind.i64.wrap ((j : Int) - (i : Int)) = ((j - i : Nat) : Int) := by rw [IntKind.wrap_i64]; omega
      have k3 : IntKind.i64.wrap ((m : Int) + (j : Int)) = ((m + j : Nat) : Int) := by rw [IntKind.wrap_i64]; omega
      have k4 : IntKind.i64.wrap (((m + j : Nat) : Int) - (i : Int)) = ((m + j - i : Nat) : Int) := by rw [IntKind.wrap_i64]; omega
      have k5 : IntKind.i64.wrap ((m : Int) + (j : Int) - (i : Int)) = ((m + j - i : Nat) : Int) := by rw [IntKind.wrap_i64]; omega
      have g1 : ¬ (j : Int) < (i : Int) := by omega
      have HW := Lib.hid hW
      have HW1 := Lib.hid hW1
      have HW2 := Lib.hid hW2
      clear hpm hW hW1 hW2
      go_wp2_with fail
      refine J.out.mono ?_
      rintro e w3 ⟨rfl, hr3, hb3⟩
      have HF := Lib.hid hr3
      have HB3 := Lib.hid (HB.out.trans hb3)
      clear hr3 hb3 J
      go_wp2_with fail
      go_roundw
      case rel =>
        refine ⟨i, j - i, p, X, W2, W1, U' ++ Y, rfl, by first | rfl | go_num, HW2.out, HW1.out, hi0, by omega, HP.out, HPM.out, by omega, by have h := HF.out; simpa using h, ?_, HB3.out⟩
        have he := HEQ.out
        rw [HW.out] at he
        rw [← he]; simp
      case measure => simp [intOf]; omega
end Go.Proofs.YtmobjpmkenpckaaDoor.KK
