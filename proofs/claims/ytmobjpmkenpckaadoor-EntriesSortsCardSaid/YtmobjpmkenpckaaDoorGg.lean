/-
  slices.stableCmpFunc over entries, however many.
-/
import Derived.Test.YtmobjpmkenpckaaDoorGf
namespace Go.Proofs.YtmobjpmkenpckaaDoor.KK
open Go.ChangeShapes Go.WideShapes Go.ChangeAt Go.RowKit Go.Proofs Go.Sort

theorem insAt (base bk o cap n a k : Nat) (l : List V) (w : World) (hl : l.length = n) (hr : ERow w bk o l) (hb : bk < w.heap.size) (hbase : base ≤ bk) (hn : n ≤ 4000000000) (hk : a + k ≤ n) :
    Calls Tryd.prog 52 #[.slice (some ⟨bk, o, none⟩) n cap, .int .i64 a, .int .i64 (a + k : Nat), .func (.func 27) #[.agg #[]] #[]] w
      fun e w' => e = .returned (.tuple #[]) ∧ ∃ X', Stb.Stab leV ((l.drop a).take k) X' ∧ ERow w' bk o (l.take a ++ (X' ++ l.drop (a + k))) ∧ Below base w w' := by
  have e := split2 l a k
  have K := ins_any base bk o cap (l.take a) ((l.drop a).take k) (l.drop (a + k)) w (by rw [← e]; exact hr) hb hbase (by rw [← e, hl]; exact hn)
  rw [← e, hl, List.length_take, List.length_take, List.length_drop, hl, show min a n = a by omega, show min k (n - a) = k by omega] at K
  exact K
theorem smAt (base bk o cap n a m k : Nat) (l : List V) (w : World) (hl : l.length = n) (hr : ERow w bk o l) (hb : bk < w.heap.size) (hbase : base ≤ bk) (hn : n ≤ 4000000000) (hm : 0 < m) (hk : 0 < k) (hs : a + m + k ≤ n) (h1 : Stb.Asc leV ((l.drop a).take m)) (h2 : Stb.Asc leV ((l.drop (a + m)).take k)) :
    Calls Tryd.prog 53 #[.slice (some ⟨bk, o, none⟩) n cap, .int .i64 a, .int .i64 (a + m : Nat), .int .i64 (a + m + k : Nat), .func (.func 27) #[.agg #[]] #[]] w
      fun e w' => e = .returned (.tuple #[]) ∧ ∃ X', Stb.Stab leV ((l.drop a).take (m + k)) X' ∧ ERow w' bk o (l.take a ++ (X' ++ l.drop (a + (m + k)))) ∧ Below base w w' := by
  have e := split3 l a m k
  have l1 : (l.take a).length = a := by rw [List.length_take]; omega
  have l2 : ((l.drop a).take m).length = m := by rw [List.length_take, List.length_drop]; omega
  have l3 : ((l.drop (a + m)).take k).length = k := by rw [List.length_take, List.length_drop]; omega
  have K := sm_any (m + k) base bk o cap n (l.take a) ((l.drop a).take m) ((l.drop (a + m)).take k) (l.drop (a + m + k)) w (by rw [l2, l3]; exact Nat.le_refl _) (by rw [l2]; exact hm) (by rw [l3]; exact hk) h1 h2 (by rw [← e]; exact hr) hb hbase (by rw [← e]; exact hl) hn
  rw [l1, l2, l3] at K
  have e2 : (l.drop a).take m ++ (l.drop (a + m)).take k = (l.drop a).take (m + k) := by
    rw [List.take_add, List.drop_drop]
  rw [e2] at K
  rw [← Nat.add_assoc]
  exact K
theorem rep_len {l X' : List V} {a k : Nat} (h : a + k ≤ l.length) (hX : Stb.Stab leV ((l.drop a).take k) X') : (l.take a ++ (X' ++ l.drop (a + k))).length = l.length := by
  have e := split2 l a k
  have := Kin.len (P := l.take a) (R := l.drop (a + k)) hX
  rw [this, ← e]
theorem rep_kin {l X' : List V} {a k : Nat} (hX : Stb.Stab leV ((l.drop a).take k) X') : Kin l (l.take a ++ (X' ++ l.drop (a + k))) := by
  have e := split2 l a k
  have := Kin.mid (P := l.take a) (R := l.drop (a + k)) hX
  rw [← e] at this
  exact this
theorem rep_runs {l X' : List V} {q m : Nat} (hm : 0 < m) (h : q * m + m ≤ l.length) (hr : Runs m (q * m) l) (hX : Stb.Stab leV ((l.drop (q * m)).take m) X') : Runs m (q * m + m) (l.take (q * m) ++ (X' ++ l.drop (q * m + m))) := by
  have e := split2 l (q * m) m
  rw [e] at hr
  exact Runs.step hm hr (by rw [List.length_take]; omega) hX (by rw [List.length_take, List.length_drop]; omega)
theorem rep_last {l X' : List V} {q m k : Nat} (h : q * m + k = l.length) (hk : k ≤ m) (hr : Runs m (q * m) l) (hX : Stb.Stab leV ((l.drop (q * m)).take k) X') : All m (l.take (q * m) ++ (X' ++ l.drop (q * m + k))) := by
  have e := split2 l (q * m) k
  have d : l.drop (q * m + k) = [] := List.drop_of_length_le (by omega)
  rw [d] at e ⊢
  rw [e] at hr
  exact Runs.last hr (by rw [List.length_take]; omega) hX (by rw [List.length_take]; omega)
theorem rep_rest {l X' : List V} {a k c m : Nat} (h : a + k ≤ l.length) (hX : Stb.Stab leV ((l.drop a).take k) X') (hc : a + k ≤ c) : ((l.take a ++ (X' ++ l.drop (a + k))).drop c).take m = (l.drop c).take m := by
  have e := split2 l a k
  have := rest_eq (P := l.take a) (R := l.drop (a + k)) (m := m) (Stb.stab_length preV hX) (k := c) (by rw [List.length_take, List.length_take, List.length_drop]; omega)
  rw [this, ← e]
theorem asc_of_take {l : List V} {a m : Nat} (h : Stb.Asc leV ((l.drop a).take m)) (hl : l.length ≤ a + m) {k : Nat} : Stb.Asc leV ((l.drop a).take k) := by
  rw [List.take_of_length_le (by rw [List.length_drop]; omega)] at h
  exact asc_sub h k
set_option maxRecDepth 100000 in
set_option maxHeartbeats 8000000 in
theorem stable_any (n : Nat) (hn : n ≤ 1000000) : StableOk n := by
  intro base bk o cap X w hX hrow hb hbase
  have HR := Lib.hid (show ERow w bk o X by have h := hrow; rw [List.append_nil] at h; exact h)
  have HX := Lib.hid hX
  clear hrow hX
  go_enter Tryd.func43, Tryd.ntmps43
  go_wp2_with fail
  go_loopw [7, 8] (fun va vb wr => ∃ (q a b : Nat) (l : List V), va = .int .i64 a ∧ vb = .int .i64 b ∧ a = q * 20 ∧ b = a + 20 ∧ a ≤ n ∧ Kin X l ∧ l.length = n ∧ Runs 20 (q * 20) l ∧ ERow wr bk o l ∧ Below base w wr) (fun va _ _ => n + 20 - (intOf va).toNat)
  case atStart => exact ⟨0, 0, 20, X, by first | rfl | go_num, by first | rfl | go_num, rfl, rfl, Nat.zero_le _, Kin.refl _, HX.out, fun i hi => by omega, HR.out, Below.refl _ _⟩
  case round =>
    obtain ⟨q, a, b, l, rfl, rfl, ha, hbb, han, hk, hl, hru, hr, hbl⟩ := hrel
    have hbw : bk < wr.heap.size := Nat.lt_of_lt_of_le hb hbl.size
    have HA := Lib.hid ha
    have HK := Lib.hid hk
    have HL := Lib.hid hl
    have HU := Lib.hid hru
    have HRR := Lib.hid hr
    have HB := Lib.hid hbl
    have HBB := Lib.hid hbb
    clear hk hl hru hr hbl
    by_cases hlt : b ≤ n
    · have J := Lib.hid (by
        have K := insAt base bk o cap n a 20 l wr HL.out HRR.out hbw hbase (by omega) (by omega)
        rw [← hbb] at K
        exact K)
      have g1 : (b : Int) ≤ (n : Int) := by omega
      have g2 : b ≤ 1000000 := by omega
      clear ha hbb
      go_wp2_with fail
      refine J.out.mono ?_
      rintro e w3 ⟨rfl, X', hs, hr3, hb3⟩
      have HS := Lib.hid hs
      have HR3 := Lib.hid hr3
      have HB3 := Lib.hid (HB.out.trans hb3)
      clear hs hr3 hb3 J
      go_wp2_with fail
      go_roundw
      case rel =>
        have ha := HA.out
        have hbb := HBB.out
        have hll := HL.out
        refine ⟨q + 1, b, b + 20, l.take a ++ (X' ++ l.drop (a + 20)), rfl, by go_num, by omega, rfl, hlt, HK.out.trans (rep_kin HS.out), (rep_len (by omega) HS.out).trans hll, ?_, (by rw [← hbb]; exact HR3.out), HB3.out⟩
        have h := rep_runs (q := q) (m := 20) (l := l) (X' := X') (by omega) (by omega) HU.out (by have := HS.out; rw [ha] at this; exact this)
        rw [ha, Nat.add_mul, Nat.one_mul]
        exact h
      case measure => have := HBB.out; simp [intOf]; omega
    · have J := Lib.hid (by
        have K := insAt base bk o cap n a (n - a) l wr HL.out HRR.out hbw hbase (by omega) (by omega)
        rw [show a + (n - a) = n by omega] at K
        exact K)
      have g1 : ¬ (b : Int) ≤ (n : Int) := by omega
      clear ha hbb
      go_wp2_with fail
      refine J.out.mono ?_
      rintro e w3 ⟨rfl, X', hs, hr3, hb3⟩
      have hsz3 : bk < w3.heap.size := Nat.lt_of_lt_of_le hbw hb3.size
      have HB3 := Lib.hid (HB.out.trans hb3)
      have ha := HA.out
      have hbb := HBB.out
      have hll := HL.out
      obtain ⟨l2, hl2⟩ : ∃ l2, l.take a ++ (X' ++ l.drop n) = l2 := ⟨_, rfl⟩
      have hK2 : Kin X l2 := by
        have h := HK.out.trans (rep_kin (a := a) (k := n - a) hs)
        rw [show a + (n - a) = n by omega, hl2] at h
        exact h
      have hA2 : All 20 l2 := by
        have h := rep_last (l := l) (X' := X') (q := q) (m := 20) (k := n - a) (by omega) (by omega) HU.out (by rw [← ha]; exact hs)
        rw [← ha, show a + (n - a) = n by omega, hl2] at h
        exact h
      rw [hl2] at hr3
      have HK2 := Lib.hid hK2
      have HA2 := Lib.hid hA2
      have HR3 := Lib.hid hr3
      clear hs hr3 hb3 J ha hbb hll hl2 hK2 hA2
      generalize hw3 : w3 = wo at *
      clear hw3
      go_wp2_with fail
      go_loopw [6] (fun vm wr => ∃ (m : Nat) (l : List V), vm = .int .i64 m ∧ 20 ≤ m ∧ m ≤ 4000000 ∧ Kin X l ∧ All m l ∧ ERow wr bk o l ∧ Below base w wr) (fun vm _ => n - (intOf vm).toNat)
      case atStart => exact ⟨20, l2, by first | rfl | go_num, Nat.le_refl _, by omega, HK2.out, HA2.out, HR3.out, HB3.out⟩
      case round =>
        obtain ⟨m, l, rfl, hm1, hm2, hk, hal, hr, hbl⟩ := hrel
        have hbw : bk < wr.heap.size := Nat.lt_of_lt_of_le hb hbl.size
        have hl : l.length = n := (Kin.len' hk).trans HX.out
        have HL := Lib.hid hl
        have HK := Lib.hid hk
        have HAL := Lib.hid hal
        have HRR := Lib.hid hr
        have HB := Lib.hid hbl
        clear hk hal hr hbl hl
        by_cases hmn : m < n
        rotate_left
        · have g1 : ¬ (m : Int) < (n : Int) := by omega
          go_wp2_with fail
          go_end0
          refine ⟨rfl, l, HK.out.stab ?_, by first | exact HRR.out | (rw [List.append_nil]; exact HRR.out), HB.out⟩
          have h := HAL.out 0
          rw [Nat.zero_mul, List.drop_zero, List.take_of_length_le (by rw [HL.out]; omega)] at h
          exact h
        have g1 : (m : Int) < (n : Int) := by omega
        have HBW := Lib.hid hbw
        generalize hwq : wr = wq at *
        clear hwq hbw
        go_wp2_with fail
        go_loopw [7, 8] (fun va vb wr => ∃ (q a b : Nat) (l : List V), va = .int .i64 a ∧ vb = .int .i64 b ∧ a = q * (2 * m) ∧ b = a + 2 * m ∧ a ≤ n ∧ Kin X l ∧ l.length = n ∧ Runs (2 * m) (q * (2 * m)) l ∧ (∀ i, a ≤ i * m → Stb.Asc leV ((l.drop (i * m)).take m)) ∧ ERow wr bk o l ∧ Below base w wr) (fun va _ _ => n + 2 * m - (intOf va).toNat)
        case atStart => exact ⟨0, 0, 2 * m, l, by first | rfl | go_num, by first | rfl | go_num, by omega, by omega, Nat.zero_le _, HK.out, HL.out, fun i hi => by omega, fun i _ => HAL.out i, HRR.out, HB.out⟩
        case round =>
          obtain ⟨q, a, b, l, rfl, rfl, ha, hbb, han, hk, hl, hru, hrest, hr, hbl⟩ := hrel
          have hbw : bk < wr.heap.size := Nat.lt_of_lt_of_le hb hbl.size
          have aq : q * (2 * m) = (2 * q) * m := by rw [Nat.mul_comm 2 q, Nat.mul_assoc]
          have r1 : Stb.Asc leV ((l.drop a).take m) := by have h := hrest (2 * q) (by omega); rw [show 2 * q * m = a by omega] at h; exact h
          have r2 : Stb.Asc leV ((l.drop (a + m)).take m) := by have h := hrest (2 * q + 1) (by rw [Nat.add_mul]; omega); rw [show (2 * q + 1) * m = a + m by rw [Nat.add_mul]; omega] at h; exact h
          have HA := Lib.hid ha
          have HBB := Lib.hid hbb
          have HK := Lib.hid hk
          have HL := Lib.hid hl
          have HU := Lib.hid hru
          have HRS := Lib.hid hrest
          have HRR := Lib.hid hr
          have HB := Lib.hid hbl
          have k1 : IntKind.i64.wrap ((a : Int) + (m : Int)) = ((a + m : Nat) : Int) := by rw [IntKind.wrap_i64]; omega
          clear hk hl hru hr hbl hrest
          by_cases hlt : b ≤ n
          · have J := Lib.hid (by
              have K := smAt base bk o cap n a m m l wr HL.out HRR.out hbw hbase (by omega) (by omega) (by omega) (by omega) r1 r2
              rw [show a + m + m = b by omega] at K
              exact K)
            have g2 : (b : Int) ≤ (n : Int) := by omega
            have k2 : IntKind.i64.wrap (2 * (m : Int)) = ((2 * m : Nat) : Int) := by rw [IntKind.wrap_i64]; omega
            have k3 : IntKind.i64.wrap ((b : Int) + ((2 * m : Nat) : Int)) = ((b + 2 * m : Nat) : Int) := by rw [IntKind.wrap_i64]; omega
            have k4 : IntKind.i64.wrap ((b : Int) + 2 * (m : Int)) = ((b + 2 * m : Nat) : Int) := by rw [IntKind.wrap_i64]; omega
            have g3 : b ≤ 1000000 := by omega
            clear ha hbb r1 r2 aq
            go_wp2_with fail
            refine J.out.mono ?_
            rintro e w3 ⟨rfl, X', hs, hr3, hb3⟩
            have HS := Lib.hid hs
            have HR3 := Lib.hid hr3
            have HB3 := Lib.hid (HB.out.trans hb3)
            clear hs hr3 hb3 J
            go_wp2_with fail
            go_roundw
            case rel =>
              have ha := HA.out
              have hbb := HBB.out
              have hll := HL.out
              have aq : q * (2 * m) = (2 * q) * m := by rw [Nat.mul_comm 2 q, Nat.mul_assoc]
              have e2 : m + m = 2 * m := by omega
              refine ⟨q + 1, b, b + 2 * m, l.take a ++ (X' ++ l.drop (a + (m + m))), rfl, by first | rfl | go_num, by rw [Nat.add_mul]; omega, rfl, hlt, HK.out.trans (rep_kin HS.out), (rep_len (by omega) HS.out).trans hll, ?_, fun i hi => ?_, HR3.out, HB3.out⟩
              · have h := rep_runs (q := q) (m := 2 * m) (l := l) (X' := X') (by omega) (by omega) HU.out (by have := HS.out; rw [ha, e2] at this; exact this)
                rw [e2, ha, Nat.add_mul, Nat.one_mul]
                exact h
              · rw [rep_rest (by omega) HS.out (by omega)]
                exact HRS.out i (by omega)
            case measure => have := HBB.out; simp [intOf]; omega
          · have g2 : ¬ (b : Int) ≤ (n : Int) := by omega
            have k5 : IntKind.i64.wrap ((m : Int) * 2) = ((2 * m : Nat) : Int) := by rw [IntKind.wrap_i64]; omega
            by_cases hml : a + m < n
            · have J := Lib.hid (by
                have K := smAt base bk o cap n a m (n - (a + m)) l wr HL.out HRR.out hbw hbase (by omega) (by omega) (by omega) (by omega) r1 (asc_of_take r2 (by rw [HL.out]; omega))
                rw [show a + m + (n - (a + m)) = n by omega] at K
                exact K)
              have g3 : (a : Int) + (m : Int) < (n : Int) := by omega
              have g4 : ((a + m : Nat) : Int) < (n : Int) := by omega
              clear ha hbb r1 r2 aq
              go_wp2_with fail
              refine J.out.mono ?_
              rintro e w3 ⟨rfl, X', hs, hr3, hb3⟩
              have HS := Lib.hid hs
              have HR3 := Lib.hid hr3
              have HB3 := Lib.hid (HB.out.trans hb3)
              clear hs hr3 hb3 J
              go_wp2_with fail
              go_roundw
              case rel =>
                have ha := HA.out
                have hbb := HBB.out
                have hll := HL.out
                refine ⟨2 * m, l.take a ++ (X' ++ l.drop (a + (m + (n - (a + m))))), by first | rfl | go_num, by omega, by omega, HK.out.trans (rep_kin HS.out), ?_, HR3.out, HB3.out⟩
                have h := rep_last (l := l) (X' := X') (q := q) (m := 2 * m) (k := m + (n - (a + m))) (by omega) (by omega) HU.out (by rw [← ha]; exact HS.out)
                rw [← ha] at h
                exact h
              case measure => simp [intOf]; omega
            · have g3 : ¬ (a : Int) + (m : Int) < (n : Int) := by omega
              have g4 : ¬ ((a + m : Nat) : Int) < (n : Int) := by omega
              have hs : Stb.Stab leV ((l.drop a).take (n - a)) ((l.drop a).take (n - a)) := Stb.Stab.refl (asc_of_take r1 (by rw [HL.out]; omega))
              have HS := Lib.hid hs
              clear ha hbb r1 r2 aq hs
              go_wp2_with fail
              go_roundw
              case rel =>
                have ha := HA.out
                have hbb := HBB.out
                have hll := HL.out
                refine ⟨2 * m, l, by first | rfl | go_num, by omega, by omega, HK.out, ?_, HRR.out, HB.out⟩
                have h := rep_last (l := l) (q := q) (m := 2 * m) (k := n - a) (by omega) (by omega) HU.out (by rw [← ha]; exact HS.out)
                rw [← ha, ← split2] at h
                exact h
              case measure => simp [intOf]; omega
end Go.Proofs.YtmobjpmkenpckaaDoor.KK
