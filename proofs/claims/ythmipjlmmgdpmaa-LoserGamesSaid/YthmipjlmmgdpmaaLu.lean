/-
  Trees of losers: the law LoserLeast.
-/
import Derived.Test.YthmipjlmmgdpmaaLt
import Derived.BigQuiet
namespace Go.Proofs.Ythmipjlmmgdpmaa.KK
open Go.ChangeShapes Go.WideShapes Go.ChangeAt Go.RowKit Go.Proofs

theorem infoBo : (Try.prog.info? 4).map (fun i => (i.zero, i.size, i.bytes)) = some (some (.bool false), 1, 1) := by kernel_rfl
theorem make_rowB (n : Nat) (hn : n ≤ 16777216) : ∃ Z : Array Value, Hid (Z.toList = List.replicate n (.bool false)) ∧ ∀ w : World, (Instr.makeSlice 50 (.int .i64 (n : Int)) (.int .i64 (n : Int))).run Try.prog w = .ok (.slice (some ⟨w.heap.size, 0, none⟩) n n) (w.alloc (.cells Z 4)) := by
  obtain ⟨i0, hi, hz0, hz1, hz2⟩ := info_parts infoBo
  refine ⟨madeCells (Value.bool false).cells (n * 1), Lib.hid ?_, fun w => ?_⟩
  · have e : (Value.bool false).cells = #[.bool false] := rfl
    rw [e, Nat.mul_one]
    apply List.ext_getElem?
    intro j
    simp only [madeCells]
    by_cases hj : j < n <;> simp [hj, Nat.mod_one]
  · have := run_make (P := Try.prog) w 50 4 i0 _ Try.underlying50 hi hz0 .i64 .i64 n n (by omega) (by omega) (by rw [hz2]; omega) (by omega)
    rw [hz1] at this
    simpa using this
/-- which players were met among the first i of L -/
def metV (n : Nat) (L : List Nat) (i : Nat) : List Value := (List.range n).map fun q => .bool (decide (q ∈ L.take i))
theorem metV_zero (n : Nat) (L : List Nat) : metV n L 0 = List.replicate n (.bool false) := by
  unfold metV
  apply List.ext_getElem
  · simp
  · intro i h1 h2; simp
theorem metV_len (n : Nat) (L : List Nat) (i : Nat) : (metV n L i).length = n := by simp [metV]
theorem metV_at {n : Nat} {L : List Nat} {i q : Nat} (hq : q < n) : (metV n L i)[q]'(by rw [metV_len]; exact hq) = .bool (decide (q ∈ L.take i)) := by simp [metV]
theorem metV_set {n : Nat} {L : List Nat} {i : Nat} (hi : i < L.length) : (metV n L i).set L[i] (.bool true) = metV n L (i + 1) := by
  apply List.ext_getElem
  · simp [metV]
  · intro q h1 h2
    rw [List.getElem_set]
    have hq : q < n := by rw [metV_len] at h2; exact h2
    rw [metV_at (i := i + 1) hq, List.take_succ_eq_append_getElem hi]
    by_cases e : L[i] = q
    · rw [if_pos e, e]; simp
    · rw [if_neg e, metV_at (i := i) hq]
      have : (q ∈ L.take i ++ [L[i]]) = (q ∈ L.take i) := by
        rw [List.mem_append, List.mem_singleton]
        exact propext ⟨fun h => h.elim id (fun g => absurd g.symm e), .inl⟩
      simp only [this]
theorem Ord.fresh {ks : List LK} {L : List Nat} (h : Ord ks L) {i : Nat} (hi : i < L.length) : L[i] ∉ L.take i := fun hm => by
  obtain ⟨j, hj, e⟩ := List.getElem_of_mem hm
  have hj' : j < i := by simp at hj; omega
  rw [List.getElem_take] at e
  exact List.pairwise_iff_getElem.1 h.nodup j i (by omega) hi hj' e
theorem natsV_at {L : List Nat} {i : Nat} (h : i < L.length) : (natsV L)[i]'(by simp [natsV]; exact h) = (L[i] : Int) := by simp [natsV]
theorem natsV_len (L : List Nat) : (natsV L).length = L.length := by simp [natsV]
theorem CR.nat {w : World} {b i : Nat} {L : List Nat} (h : CR w b (intsV (natsV L))) (hi : i < L.length) : w.cell? ⟨b, i, none⟩ = some (.int .i64 (L[i] : Int)) := by
  rw [(h.int (i := i) (by rw [natsV_len]; exact hi)).1]
  simp [natsV, hi]

set_option maxRecDepth 100000 in
set_option maxHeartbeats 4000000 in
theorem Least_any (A : Option Addr) (c : Nat) (ks : List LK) (w : World) (hf : KsAt w A ks) (hn : ks.length ≤ 9223372036854775807) (hs : SizedL ks) :
    Calls Try.prog 7 #[.slice A ks.length c] w fun e w' => e = .returned (.bool true) ∧ Below w.heap.size w w' := by
  have J := Lib.hid (far10_any A c ks w hf hn hs)
  have JW := Lib.hid (fun w => awake10_any w)
  cases hfar : farK ks with
  | true =>
    rw [hfar] at J
    clear hf hs hfar
    generalize ks.length = n at *
    go_enter Try.func7, Try.ntmps7
    go_wp2_with fail
    refine J.out.mono ?_
    rintro e w1 ⟨rfl, hb⟩
    have HB1 := Lib.hid hb
    clear hb
    go_wp2_with fail
    refine (JW.out _).mono ?_
    rintro e w2 ⟨rfl, hb⟩
    have HB2 := Lib.hid (eb_of HB1.out hb (Nat.le_refl _))
    clear hb
    go_wp2_with fail
    go_ret
    exact ⟨rfl, HB2.out⟩
  | false =>
  rw [hfar] at J
  obtain ⟨hn40, _⟩ := farK_len hfar
  by_cases hk : keysE ks = 0
  rotate_left
  · have JB := Lib.hid (fun w' (hb : Below w.heap.size w w') => build_no A c ks w' (hf.below hb (Nat.le_refl _)) (by omega) hk)
    obtain ⟨b1, b2⟩ := ne_b hk
    clear hf hs hfar hk
    generalize keysE ks = r at *
    generalize ks.length = n at *
    go_enter Try.func7, Try.ntmps7
    go_wp2_with fail
    refine J.out.mono ?_
    rintro e w1 ⟨rfl, hb⟩
    have HB1 := Lib.hid hb
    clear hb
    go_wp2_with fail
    refine (JB.out _ HB1.out).mono ?_
    rintro e w2 ⟨rfl, hb⟩
    have HB2 := Lib.hid (eb_of HB1.out hb (Nat.le_refl _))
    clear hb
    go_wp2_with fail
    refine (JW.out _).mono ?_
    rintro e w3 ⟨rfl, hb⟩
    have HB3 := Lib.hid (eb_of (eb_of HB2.out (alloc_below _ _) (Nat.le_refl _)) hb (Nat.le_refl _))
    clear hb
    go_wp2_with fail
    go_ret
    exact ⟨rfl, HB3.out⟩
  obtain ⟨h1, h32, hall⟩ := keysE_ok hk
  have JB := Lib.hid (fun w' (hb : Below w.heap.size w w') => build_ok A c ks w' (hf.below hb (Nat.le_refl _)) hk)
  have JC := Lib.hid (fun (B D : Option Addr) (e d : Nat) (w' : World) (h1 : KsAt w' B ks) (h2 : IsAt w' D (loL ks)) => by
    have K := check_any B D e d ks (loL ks) (wnr ks) w' h1 h2 (by omega) (by rw [loL_len]; omega)
    rw [chkT_self hk, loL_len] at K; exact K)
  have JO := Lib.hid (fun (B D : Option Addr) (e d : Nat) (w' : World) (h1 : KsAt w' B ks) (h2 : IsAt w' D (loL ks)) => order_ok B D e d ks w' h1 h2 hk)
  have JN := Lib.hid (fun (B D : Option Addr) (e d : Nat) (w' : World) (h1 : KsAt w' B ks) (h2 : IsAt w' D (loL ks)) => winner_any B D e d ks w' h1 h2 hk)
  have JT := Lib.hid (fun (p q : Nat) (w' : World) (hb : Below w.heap.size w w') (hp : p < ks.length) (hq : q < ks.length) (h : wn ks p q = true) =>
    beats_any A c ks p q hp hq w' (hf.below hb (Nat.le_refl _)) (by omega) (wn_beat (by rw [kAt_lt hp]; exact hall _ (List.getElem_mem hp)) (by rw [kAt_lt hq]; exact hall _ (List.getElem_mem hq)) h))
  have HHD : Hid (∀ L (h : Ord ks L) (hl : 0 < L.length), L[0] = wnr ks) := Lib.hid (fun L h hl => h.head hk hl)
  have HF := Lib.hid hf
  have HWL := Lib.hid (wnr_lt hk)
  have HKE := Lib.hid hk
  obtain ⟨n, hnn⟩ : ∃ n, ks.length = n := ⟨_, rfl⟩
  have HN := Lib.hid hnn
  rw [hnn] at J JB JC JO JN JT HWL h1 h32 ⊢
  obtain ⟨Z, HZ, hmk⟩ := make_rowB n (by omega)
  clear hf hs hfar hk hall hnn hn40 hn
  obtain ⟨LL, hLL⟩ : ∃ LL, loL ks = LL := ⟨_, rfl⟩
  obtain ⟨ww, hww⟩ : ∃ ww, wnr ks = ww := ⟨_, rfl⟩
  have HLLE := Lib.hid hLL
  rw [hLL, hww] at JB
  rw [hLL] at JC JO JN
  rw [hww] at JC JO JN HHD HWL
  clear hLL hww
  go_enter Try.func7, Try.ntmps7
  go_wp2_with fail
  refine J.out.mono ?_
  rintro e w1 ⟨rfl, hb⟩
  have HB1 := Lib.hid hb
  clear hb J
  go_wp2_with fail
  refine (JB.out _ HB1.out).mono ?_
  rintro e w2 ⟨kb, lb, cp, cl, rfl, ht⟩
  have HT := boxTree (n := n) (cp := cp) (cl := cl) (win := (ww : Int)) (eb_of HB1.out ht.below (Nat.le_refl _)) ht.keys ht.lose
  clear ht HB1 JB
  obtain ⟨w3, hw3⟩ : ∃ w3, w3 = w2.alloc (.cells #[.slice (some ⟨kb, 0, none⟩) n cp, .slice (some ⟨lb, 0, none⟩) n cl, .int .i64 (ww : Int)] 27) := ⟨_, rfl⟩
  go_wp2_with fail
  rw [← hw3]
  rw [← hw3] at HT
  clear hw3
  obtain ⟨q0, q1, q2, q3, q4⟩ := HT.out w3 (Below.refl _ _)
  refine (JC.out _ _ cp cl w3 q1 q2).mono ?_
  rintro e w4 ⟨rfl, hb4⟩
  clear q0 q1 q2 q3 q4
  obtain ⟨q0, q1, q2, q3, q4⟩ := HT.out w4 hb4
  have HB4 := Lib.hid hb4
  have HK := Lib.hid q1
  have HL := Lib.hid q2
  have c0 := q0.c0
  have c1 := q0.c1
  have c2 := q0.c2
  clear hb4 q0 q1 q2 q3 q4 JC
  go_wp2_with fail
  refine (JO.out _ _ cp cl w4 HK.out HL.out).mono ?_
  rintro e w5 ⟨ob, oc, L, rfl, ho, hco, _, hb⟩
  have HB5 := Lib.hid (eb_of HB4.out hb (Nat.le_refl _))
  have HO := Lib.hid ho
  have HCO := Lib.hid hco
  have hln : L.length = n := by rw [ho.len, HN.out]
  have HL0 : Hid (w5.cell? ⟨ob, 0, none⟩ = some (.int .i64 (ww : Int))) := Lib.hid (by
    have h0 := hco.nat (i := 0) (by omega)
    rw [HHD.out L ho (by omega)] at h0; exact h0)
  have HLN := Lib.hid hln
  clear c0 c1 c2 hb HB4 HK HL ho hco HHD JO
  have l0 := HL0.out
  obtain ⟨q0, q1, q2, q3, q4⟩ := HT.out w5 HB5.out
  have c0 := q0.c0
  have c2 := q0.c2
  have hz : ((n : Int) == 0) = false := by rw [beq_eq_false_iff_ne]; omega
  have hz0 : (0 : Int) < (n : Int) := by omega
  clear q0 q1 q2 q3 q4 hln
  go_wp2_with fail
  go_quiet (fail)
  go_wp2_with fail
  have HFW : Hid (KsAt w5 A ks ∧ KsAt w5 (some ⟨kb, 0, none⟩) ks) := Lib.hid (by
    obtain ⟨q0, q1, q2, q3, q4⟩ := HT.out w5 HB5.out
    exact ⟨HF.out.below q3 (Nat.le_refl _), q1⟩)
  clear c0 c2 l0 hmk
  go_loopw [10] (fun iv wr => ∃ i : Nat, i ≤ n ∧ iv = .int .i64 i ∧ Hid (Below w5.heap.size w5 wr ∧ CR wr w5.heap.size (metV n L i))) (fun iv _ => n - (intOf iv).toNat)
  case atStart =>
    refine ⟨0, Nat.zero_le _, rfl, Lib.hid ⟨?_, ?_⟩⟩
    · first
        | exact (alloc_below _ _).trans (below_drewN' _ |>.mono (by simp))
        | exact (below_drewN' _).trans (alloc_below _ _ |>.mono (by simp))
        | exact (below_drewN' _).alloc (by simp) _
    · rw [metV_zero]
      first
        | exact (CR.new HZ.out).below (below_drewN' _) (by simp)
        | exact CR.new HZ.out
  case round =>
    obtain ⟨i, hin, rfl, HS⟩ := hrel
    have HBw := Lib.hid HS.out.1
    have hszw := HS.out.1.size
    by_cases hlt : i < n
    · have hil : i < L.length := by rw [HLN.out]; exact hlt
      have hLi := HO.out.lt _ (List.getElem_mem hil)
      rw [HN.out] at hLi
      have hfr := HO.out.fresh hil
      have m0 := HS.out.2.cell L[i] (by rw [metV_len]; exact hLi)
      have m1 := HS.out.2.frz L[i] (by rw [metV_len]; exact hLi)
      rw [metV_at hLi, show decide (L[i] ∈ L.take i) = false by simp [hfr]] at m0
      have l0 := ((HCO.out.below HS.out.1 HCO.out.lt).nat (i := i) hil)
      have HMV : Hid (∀ k, CR ((wr.drewN k).setCell ⟨w5.heap.size, L[i], none⟩ (.bool true)) w5.heap.size (metV n L (i + 1))) := Lib.hid (fun k => by
        have h := (HS.out.2.below (below_drewN' k) HS.out.2.lt).set (i := L[i]) (by rw [metV_len]; exact hLi) (.bool true)
        rwa [metV_set hil] at h)
      have h5 := HB5.out
      obtain ⟨q0, q1, q2, q3, q4⟩ := HT.out wr (eb_of HB5.out HS.out.1 (Nat.le_refl _))
      have c0 := q0.c0
      have HQ3 := Lib.hid q3
      have hik : i < ks.length := by rw [HN.out]; exact hlt
      rcases q1 with h0 | ⟨b, off, hb0, hbl, hc⟩
      · subst h0; simp at hik
      obtain ⟨rfl, rfl⟩ : b = kb ∧ off = 0 := by simpa [eq_comm] using hb0
      obtain ⟨g0, g1⟩ := hc i hik
      rw [Nat.zero_add] at g0 g1
      rcases HFW.out.1.below HS.out.1 (Nat.le_refl _) with h0 | ⟨b', off', rfl, hbl', hc'⟩
      · subst h0; simp at hik
      obtain ⟨f0, f1⟩ := hc' i hik
      have HNX : Hid (∀ j (hj : j + 1 < L.length), wn ks L[j] L[j + 1] = true) := Lib.hid (fun j hj => HO.out.next hj)
      obtain ⟨p, hp⟩ : ∃ p, L[i] = p := ⟨_, rfl⟩
      have HP := Lib.hid hp
      rw [hp] at l0 HMV hLi
      simp only [hp] at m0 m1
      have hpn : (p : Int) < (n : Int) := by omega
      clear hc hc' hfr hb0 q0 q2 q3 q4 h5 hbl hp
      generalize ks[i] = v at *
      obtain ⟨v1, v2⟩ := v
      go_wp2_with fail
      go_quiet (fail)
      go_upto_region 17 with fail
      obtain ⟨wq, hwq⟩ : ∃ wq, wq = (wr.drewN nq).setCell ⟨w5.heap.size, p, none⟩ (.bool true) := ⟨_, rfl⟩
      have hcq : Chg (fun k => k = w5.heap.size) wr wq := hwq ▸ (Chg.of_below (below_drewN' nq)).trans (chg_set w5.heap.size p (.bool true))
      have HQ5 : Hid (Below w5.heap.size w5 wq) := Lib.hid (HBw.out.trans (hcq.below (fun k hk => by omega) hszw))
      have HQM : Hid (CR wq w5.heap.size (metV n L (i + 1))) := Lib.hid (hwq ▸ HMV.out nq)
      rw [← hwq]
      clear hwq hcq HMV l0 m0 m1 g0 g1 f0 f1 c0
      have HQ3 := Lib.hid ((HT.out wq (eb_of HB5.out HQ5.out (Nat.le_refl _))).2.2.2.1)
      cases i with
      | zero =>
        have hk0 : decide ((0 : Int) < ((0 : Nat) : Int)) = false := by decide
        go_wp2_with fail
        go_quiet (fail)
        go_wp2_with fail
        go_roundw
        case rel => exact ⟨1, by omega, by go_num, Lib.hid ⟨HQ5.out.trans ((below_drewN' _).mono HQ5.out.size), HQM.out.below (below_drewN' _) HQM.out.lt⟩⟩
        case measure => simp [intOf]; omega
      | succ j =>
        have hk0 : decide ((0 : Int) < (j : Int) + 1) = true := by rw [decide_eq_true_eq]; omega
        have hjl : j + 1 < L.length := hil
        have hw := HNX.out j hjl
        have hj1 := HO.out.lt _ (List.getElem_mem (show j < L.length by omega))
        have hj2 := HO.out.lt _ (List.getElem_mem hjl)
        rw [HN.out] at hj1 hj2
        have hwp : IntKind.i64.wrap (j : Int) = (j : Int) := by rw [IntKind.wrap_i64]; omega
        have hjb : (j : Int) < (n : Int) := by omega
        have hjc : (j : Int) + 1 < (n : Int) := by omega
        have y0 := abv_c ((HCO.out.below HQ5.out HCO.out.lt).nat (i := j) (by omega))
        have y1 := abv_c ((HCO.out.below HQ5.out HCO.out.lt).nat (i := j + 1) hjl)
        have JX : Hid (∀ p : Abv wq, Calls Try.prog 25 #[.slice (some ⟨b', off', none⟩) n c, .int .i64 (L[j] : Int), .int .i64 (L[j + 1] : Int)] p.world fun e w' => e = .returned (.bool true) ∧ Below p.world.heap.size p.world w') := Lib.hid (fun p => JT.out _ _ p.world (eb_of HQ3.out p.h (Nat.le_refl _)) hj1 hj2 hw)
        generalize L[j] = a1 at *
        generalize L[j + 1] = a2 at *
        clear hw hj1 hj2
        go_wp2_with fail
        refine wp_region_abv (by first | assumption | kernel_rfl) (by kernel_rfl) ?_
        repeat (first | go_big_quiet_step (exact callAbv (JX.out _)) | quiet_step (exact callAbv (JX.out _)))
        refine wpQuiet_nil ?_
        intro w9 hw9
        obtain ⟨pq, rfl⟩ := hw9
        have HP9 := Lib.hid pq.h
        go_wp2_with fail
        go_roundw
        case rel => exact ⟨j + 1 + 1, by omega, by go_num, Lib.hid ⟨HQ5.out.trans (HP9.out.mono HQ5.out.size), HQM.out.below HP9.out HQM.out.lt⟩⟩
        case measure => simp [intOf]; omega
    · obtain ⟨q0, q1, q2, q3, q4⟩ := HT.out wr (eb_of HB5.out HBw.out (Nat.le_refl _))
      have c0 := q0.c0
      have c1 := q0.c1
      have c2 := q0.c2
      have JX := Lib.hid (JN.out _ _ cp cl wr q1 q2)
      have HQ3 := Lib.hid q3
      have hwk : ww < ks.length := by rw [HN.out]; exact HWL.out
      have hwn : (ww : Int) < (n : Int) := by have := HWL.out; omega
      have HOB : Hid (∀ w', Below wr.heap.size wr w' → w'.cell? ⟨ob, 0, none⟩ = some (.int .i64 (ww : Int))) := Lib.hid (fun w' h => by
        have h5 := eb_of HBw.out h (Nat.le_refl _)
        exact (h5.cell (p := ⟨ob, 0, none⟩) HCO.out.lt).trans HL0.out)
      have HFA : Hid (∀ w', Below wr.heap.size wr w' → KsAt w' A ks) := Lib.hid (fun w' h => HF.out.below (eb_of q3 h (Nat.le_refl _)) (Nat.le_refl _))
      have HKA := Lib.hid (kAt_lt hwk)
      clear q0 q1 q2 q3 q4 HS HT HCO HL0 HFW JT JN
      cases hd : (kAt ks ww).2 with
      | true =>
        rw [hd] at JX
        go_wp2_with fail
        refine JX.out.mono ?_
        rintro e w7 ⟨rfl, hb⟩
        have HB7 := Lib.hid (eb_of HQ3.out hb (Nat.le_refl _))
        have l0 := HOB.out w7 hb
        rcases HFA.out w7 hb with h0 | ⟨b', off', rfl, hbl', hc'⟩
        · subst h0; simp at hwk
        obtain ⟨f0, f1⟩ := hc' ww hwk
        rw [← HKA.out] at f0 f1
        rw [hd] at f1
        clear hc' hb c0 c1 c2 hd
        generalize kAt ks ww = v at *
        go_wp2_with fail
        refine (JW.out _).mono ?_
        rintro e w8 ⟨rfl, hb⟩
        have HB8 := Lib.hid (eb_of HB7.out hb (Nat.le_refl _))
        clear hb
        go_wp2_with fail
        go_ret
        exact ⟨rfl, HB8.out⟩
      | false =>
        rw [hd] at JX
        go_wp2_with fail
        refine JX.out.mono ?_
        rintro e w7 ⟨rfl, hb⟩
        have HB7 := Lib.hid (eb_of HQ3.out hb (Nat.le_refl _))
        have l0 := HOB.out w7 hb
        rcases HFA.out w7 hb with h0 | ⟨b', off', rfl, hbl', hc'⟩
        · subst h0; simp at hwk
        obtain ⟨f0, f1⟩ := hc' ww hwk
        rw [← HKA.out] at f0 f1
        rw [hd] at f1
        clear hc' hb c0 c1 c2 hd
        generalize kAt ks ww = v at *
        go_wp2_with fail
        refine (JW.out _).mono ?_
        rintro e w8 ⟨rfl, hb⟩
        have HB8 := Lib.hid (eb_of HB7.out hb (Nat.le_refl _))
        clear hb
        go_wp2_with fail
        go_ret
        exact ⟨rfl, HB8.out⟩
end Go.Proofs.Ythmipjlmmgdpmaa.KK
