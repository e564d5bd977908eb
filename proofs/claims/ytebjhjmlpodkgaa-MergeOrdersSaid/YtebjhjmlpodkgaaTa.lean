/-
  Merges: the walk of MergeOrders.
-/
import Derived.Test.YtebjhjmlpodkgaaPw
import Derived.Test.YtebjhjmlpodkgaaPx
import Derived.Test.YtebjhjmlpodkgaaPy
import Derived.Deep.QuietTactic
import Derived.IntWalk
namespace Go.Proofs.Ytebjhjmlpodkgaa.KK
open Go.ChangeShapes Go.WideShapes Go.ChangeAt Go.RowKit Go.Proofs

/-- what the walk reads at an entry -/
theorem ord_facts {w2 wr : World} {R B1 B2 : Option Addr} {rs : List Rn} {z : List Int} {k ab : Nat} (hg : Gd (ess rs) z) (hf : RsAt w2 R rs) (hes : EsAt w2 B1 (ents_of (mS (ess rs) z))) (his : IsAt w2 B2 (runs_of (mS (ess rs) z))) (hab : ab = w2.heap.size) (hc : ∀ p : Addr, p.block < ab → wr.cell? p = w2.cell? p) (ha : CR wr ab (intsV (pN (ess rs) z k))) (hk : k < (mS (ess rs) z).length) :
    ∃ (x : El.En) (r v m d1 lb lo fb fo rb ro rb1 ro1 : Nat), x = (mS (ess rs) z)[k].1 ∧ r = (mS (ess rs) z)[k].2.1 ∧ B1 = some ⟨lb, lo, none⟩ ∧ B2 = some ⟨fb, fo, none⟩ ∧ R = some ⟨rb, ro, none⟩ ∧ r < rs.length ∧ v < m ∧ m ≤ 5000 ∧ nextA (ess rs) (pN (ess rs) z k) = (pN (ess rs) z k).set r ((v + 1 : Nat) : Int) ∧ r < (pN (ess rs) z k).length ∧
      wr.cell? ⟨fb, fo + k, none⟩ = some (.int .i64 (r : Int)) ∧ wr.cell? ⟨ab, r, none⟩ = some (.int .i64 (v : Int)) ∧ wr.frozen? ⟨ab, r, none⟩ = false ∧ wr.cell? ⟨rb, ro + r, none⟩ = some (.slice (some ⟨rb1, ro1, none⟩) m d1) ∧
      wr.cell? ⟨rb1, ro1 + v * 4, none⟩ = some (.string x.1) ∧ wr.cell? ⟨rb1, ro1 + v * 4 + 1, none⟩ = some (.string x.2.1) ∧ wr.cell? ⟨rb1, ro1 + v * 4 + 2, none⟩ = some (.bool x.2.2.1) ∧ wr.cell? ⟨rb1, ro1 + v * 4 + 3, none⟩ = some (.int .i64 x.2.2.2) ∧
      wr.cell? ⟨lb, lo + k * 4, none⟩ = some (.string x.1) ∧ wr.cell? ⟨lb, lo + k * 4 + 1, none⟩ = some (.string x.2.1) ∧ wr.cell? ⟨lb, lo + k * 4 + 2, none⟩ = some (.bool x.2.2.1) ∧ wr.cell? ⟨lb, lo + k * 4 + 3, none⟩ = some (.int .i64 x.2.2.2) := by
  have hl := hg.mS_len
  have hx := hg.mS_get hk
  obtain ⟨g, e⟩ := hg.pN (i := k) (by omega)
  have hd := hg.pN_done (i := k) (by omega)
  have hw := g.win
  have hwr := hw
  rw [ess_len] at hwr
  have hlt := g.lt hd
  have h5 := (list_ok (g.list hw)).1
  rw [xsA_eq hw, ess_get hwr] at hlt h5
  rcases hes with h0 | ⟨lb, lo, rfl, hlb, hlc⟩
  · have : (mS (ess rs) z).length = 0 := by have := congrArg List.length h0; simpa [ents_of] using this
    omega
  rcases his with h0 | ⟨fb, fo, rfl, hfb, hfc⟩
  · have : (mS (ess rs) z).length = 0 := by have := congrArg List.length h0; simpa [runs_of] using this
    omega
  rcases hf with h0 | ⟨rb, ro, rfl, hrb, hrc⟩
  · rw [h0] at hwr; simp at hwr
  obtain ⟨r1, r2⟩ := hrc _ hwr
  have hke : k < (ents_of (mS (ess rs) z)).length := by simpa [ents_of] using hk
  have hkr : k < (runs_of (mS (ess rs) z)).length := by simpa [runs_of] using hk
  have ee : (ents_of (mS (ess rs) z))[k] = (mS (ess rs) z)[k].1 := by simp [ents_of]
  have er : (runs_of (mS (ess rs) z))[k] = (((mS (ess rs) z)[k].2.1 : Nat) : Int) := by simp [runs_of]
  have l := hlc k hke
  have f := hfc k hkr
  rw [ee] at l
  rw [er] at f
  rcases r2 with h0 | ⟨rb1, ro1, e1, hb1, hc1⟩
  · rw [h0] at hlt; simp at hlt
  have c1 := hc1 _ hlt
  have ent : rs[winA (ess rs) (pN (ess rs) z k)].2.2[aA (pN (ess rs) z k) (winA (ess rs) (pN (ess rs) z k))] = (mS (ess rs) z)[k].1 := by
    rw [hx]
    have := g.ent hd
    simp only [this, xsA_eq hw, ess_get hwr]
  rw [ent] at c1
  have hr : (mS (ess rs) z)[k].2.1 = winA (ess rs) (pN (ess rs) z k) := by rw [hx]
  rw [hr] at f
  have hwa : winA (ess rs) (pN (ess rs) z k) < (pN (ess rs) z k).length := by rw [g.at_.1]; exact hw
  have ai := ha.int hwa
  rw [show (pN (ess rs) z k).getD (winA (ess rs) (pN (ess rs) z k)) 0 = ((aA (pN (ess rs) z k) (winA (ess rs) (pN (ess rs) z k)) : Nat) : Int) by
    rw [List.getD_eq_getElem?_getD, List.getElem?_eq_getElem hwa, Option.getD_some]; exact g.int hw hwa] at ai
  rw [e1] at r1
  have old : ∀ {b o : Nat} {u : Value}, b < w2.heap.size → w2.cell? ⟨b, o, none⟩ = some u → wr.cell? ⟨b, o, none⟩ = some u := fun hb h => (hc _ (by rw [hab]; exact hb)).trans h
  refine ⟨_, _, aA (pN (ess rs) z k) (winA (ess rs) (pN (ess rs) z k)), rs[winA (ess rs) (pN (ess rs) z k)].2.2.length, rs[winA (ess rs) (pN (ess rs) z k)].2.1, lb, lo, fb, fo, rb, ro, rb1, ro1, rfl, rfl, rfl, rfl, rfl, ?_, hlt, h5, ?_, ?_, ?_, ?_, ?_, ?_, old hb1 c1.1, old hb1 c1.2.1, old hb1 c1.2.2.1, old hb1 c1.2.2.2, old hlb l.1, old hlb l.2.1, old hlb l.2.2.1, old hlb l.2.2.2⟩
  · rw [hr]; exact hwr
  · rw [hr]; rfl
  · rw [hr]; exact hwa
  · rw [hr]; exact old hfb f
  · rw [hr]; exact ai.1
  · rw [hr]; exact ai.2
  · rw [hr]; exact old hrb r1
set_option maxRecDepth 100000 in
set_option maxHeartbeats 8000000 in
theorem Orders_any (A : Option Addr) (c : Nat) (rs : List Rn) (w : World) (hf : RsAt w A rs) (hn : rs.length ≤ 9223372036854775807) (hs : SizedM rs) :
    Calls Try.prog 6 #[.slice A rs.length c] w fun e w' => e = .returned (.bool true) ∧ Below w.heap.size w w' := by
  have JF := Lib.hid (far11_any A c rs w hf hn hs)
  obtain ⟨n, hnn⟩ : ∃ n, rs.length = n := ⟨_, rfl⟩
  rw [hnn] at JF ⊢
  have HN := Lib.hid hnn
  have HF := Lib.hid hf
  have HS := Lib.hid hs
  clear hnn hf hs hn
  go_enter Try.func6, Try.ntmps6
  go_wp2_with fail
  refine JF.out.mono ?_
  rintro e w1 ⟨b, rfl, hnear, hb⟩
  have HB1 := Lib.hid hb
  cases b with
  | true =>
    clear hnear hb
    go_wp2_with fail
    refine (awake11_any _).mono ?_
    rintro e w2 ⟨rfl, hb2⟩
    have HB2 := Lib.hid (eb_of HB1.out hb2 (Nat.le_refl _))
    clear hb2
    go_wp2_with fail
    go_ret
    exact ⟨rfl, HB2.out⟩
  | false =>
  have hnr := hnear rfl
  have hsr := hnr.sized HS.out
  have hf1 := HF.out.below hb (Nat.le_refl _)
  clear hnear hb JF
  by_cases hk : (runsE (ess rs)).2 = 0
  rotate_left
  · have J := Lib.hid (all_bad A c rs w1 hf1 (by have := hnr.1; omega) hsr hk)
    rw [HN.out] at J
    obtain ⟨b1, b2⟩ := ne_b hk
    clear hk hnr hsr hf1
    generalize (runsE (ess rs)).2 = r2 at *
    go_wp2_with fail
    refine J.out.mono ?_
    rintro e w2 ⟨rfl, hb2⟩
    have HB2 := Lib.hid (eb_of HB1.out hb2 (Nat.le_refl _))
    clear hb2
    go_wp2_with fail
    refine (awake11_any _).mono ?_
    rintro e w3 ⟨rfl, hb3⟩
    have HB3 := Lib.hid (eb_of HB2.out hb3 (Nat.le_refl _))
    clear hb3
    go_wp2_with fail
    go_ret
    exact ⟨rfl, HB3.out⟩
  have J := Lib.hid (all_ok A c rs w1 hf1 hsr hk)
  have hg := Gd.zeros hk
  have HF1 := Lib.hid hf1
  have HV : Hid (Inv (ess rs) (zerosA rs.length)) := Lib.hid (inv_zeros _)
  have h1 := hg.len1
  have HL : Hid ((mS (ess rs) (zerosA rs.length)).length ≤ 160000) := Lib.hid (by
    rw [hg.mS_len]
    have := left_le (rs := rs) (fun r hr => (list_ok ((runsE_ok hk).2.2.1 _ (by simp only [ess, List.mem_map]; exact ⟨_, hr, rfl⟩))).1) (zerosA rs.length)
    have : rs.length * 5000 ≤ 32 * 5000 := Nat.mul_le_mul_right _ (by omega)
    omega)
  have HG := Lib.hid hg
  rw [HN.out] at J HG HV HL h1
  unfold AllOut at J
  rw [HN.out] at J
  clear hk hnr hsr hf1 hg
  obtain ⟨z, hz⟩ : ∃ z, zerosA n = z := ⟨_, rfl⟩
  have HZ0 : Hid (z = List.replicate n 0) := Lib.hid (by rw [← hz]; rfl)
  rw [hz] at J HG HV HL
  clear hz
  obtain ⟨sl, hsl⟩ : ∃ sl, (mS (ess rs) z).length = sl := ⟨_, rfl⟩
  have HSL := Lib.hid hsl
  rw [hsl] at J HL
  clear hsl
  have hl16 := HL.out
  obtain ⟨Z, HZ, hmk⟩ := make_row n (by omega)
  have HMK := Lib.hid hmk
  clear hmk
  go_wp2_with fail
  refine J.out.mono ?_
  rintro e w2 ⟨B1, B2, c1, c2, rfl, hes, his, _, _, _, _, hb2⟩
  have HF2 := Lib.hid (HF1.out.below hb2 (Nat.le_refl _))
  have HB2 := Lib.hid (eb_of HB1.out hb2 (Nat.le_refl _))
  have HES := Lib.hid hes
  have HIS := Lib.hid his
  clear hes his hb2 J HF1 HB1
  have hmk := HMK.out
  obtain ⟨w3, hw3⟩ : ∃ w3, w2.alloc (.cells Z 3) = w3 := ⟨_, rfl⟩
  have HCR : Hid (CR w3 w2.heap.size (intsV z)) := Lib.hid (by rw [← hw3, HZ0.out]; exact CR.new HZ.out)
  have HB3 : Hid (Below w2.heap.size w2 w3) := Lib.hid (hw3 ▸ alloc_below _ _)
  have hs3 : Hid (w3.heap.size = w2.heap.size + 1) := Lib.hid (by rw [← hw3]; simp)
  go_wp2_with fail
  clear hw3 hmk
  have HLF := Lib.hid HG.out.left
  go_loopw [7, 8] (fun i _ wr => ∃ k : Nat, k ≤ sl ∧ i = .int .i64 k ∧ Hid (Chg (fun j => j = w2.heap.size) w3 wr ∧ CR wr w2.heap.size (intsV (pN (ess rs) z k)))) (fun i _ _ => sl - (intOf i).toNat)
  case atStart => exact ⟨0, Nat.zero_le _, rfl, Lib.hid ⟨Chg.refl _, HCR.out⟩⟩
  case round =>
    obtain ⟨k, hk, rfl, HH⟩ := hrel
    by_cases hlt : k < sl
    rotate_left
    · obtain rfl : k = sl := by omega
      have hdn : doneB (ess rs) (pN (ess rs) z k) = true := by
        obtain ⟨g, e⟩ := HG.out.pN (i := k) (by rw [← HG.out.mS_len, HSL.out]; exact Nat.le_refl _)
        rw [g.done_iff, e, ← HG.out.mS_len, HSL.out]; simp
      have HGE := Lib.hid (HG.out.pN (i := k) (by rw [← HG.out.mS_len, HSL.out]; exact Nat.le_refl _)).1
      have HDN := Lib.hid hdn
      have HC := Lib.hid HH.out.1
      have HA := Lib.hid HH.out.2
      generalize pN (ess rs) z k = a at *
      have HBW : Hid (Below w.heap.size w wr) := Lib.hid (HB2.out.trans ((HB3.out.mono HB2.out.size).trans (HC.out.below (fun j e => by have := HB2.out.size; omega) (by have := HB2.out.size; have := HB3.out.size; omega))))
      have HFW : Hid (RsAt wr A rs) := Lib.hid ((HF2.out.below HB3.out (Nat.le_refl _)).chg' HC.out (fun b e h => by
        rcases HF2.out with h0 | ⟨b1, o1, rfl, hb1, _⟩
        · have := HN.out; rw [h0] at this; simp at this; omega
        · have h : b.block = w2.heap.size := h
          cases e; simp only at h; omega) (fun r hr hne b e h => by have h : b.block = w2.heap.size := h; have := (HF2.out.each r hr).lt hne b e; omega))
      clear hdn HH HC
      generalize wr = w4 at *
      go_wp2_with fail
      go_loopw [9] (fun i wr => ∃ q : Nat, q ≤ n ∧ i = .int .i64 q ∧ Hid (Below w4.heap.size w4 wr)) (fun i _ => n - (intOf i).toNat)
      case atStart => exact ⟨0, Nat.zero_le _, rfl, Lib.hid (Below.refl _ _)⟩
      case round =>
        obtain ⟨q, hq, rfl, HQ⟩ := hrel
        by_cases hqn : q < n
        rotate_left
        · go_wp2_with fail
          refine (awake11_any _).mono ?_
          rintro e w5 ⟨rfl, hb5⟩
          have HB5 := Lib.hid (eb_of (eb_of HBW.out HQ.out (Nat.le_refl _)) hb5 (Nat.le_refl _))
          clear hb5
          go_wp2_with fail
          go_ret
          exact ⟨rfl, HB5.out⟩
        have hqr : q < rs.length := by rw [HN.out]; exact hqn
        have hfq := HFW.out.below HQ.out (Nat.le_refl _)
        rcases hfq with h0 | ⟨rb, ro, rfl, hrb, hrc⟩
        · rw [h0] at hqr; simp at hqr
        obtain ⟨r1, _⟩ := hrc q hqr
        have hqa : q < a.length := by rw [HGE.out.at_.1, ess_len]; exact hqr
        have ac := (HA.out.below HQ.out HA.out.lt).int hqa
        have e1 : a.getD q 0 = ((rs[q].2.2.length : Nat) : Int) := by
          rw [List.getD_eq_getElem?_getD, List.getElem?_eq_getElem hqa, Option.getD_some, HGE.out.int (by rw [ess_len]; exact hqr) hqa, HGE.out.done HDN.out (by rw [ess_len]; exact hqr), xsA_eq (by rw [ess_len]; exact hqr), ess_get hqr]
        rw [e1] at ac
        have a1 := ac.1
        generalize rs[q].2.2.length = m at *
        generalize rs[q].1 = A1 at *
        generalize rs[q].2.1 = d1 at *
        clear hrc ac e1
        have hqi : (q : Int) < (n : Int) := by omega
        go_wp2_with fail
        go_quiet (fail)
        go_wp2_with fail
        go_roundw
        case rel => exact ⟨q + 1, by omega, by go_num, Lib.hid (eb_of HQ.out (below_drewN' nq) (Nat.le_refl _))⟩
        case measure => simp [intOf]; omega
    have hks : k < (mS (ess rs) z).length := by rw [HSL.out]; exact hlt
    have hold : ∀ p : Addr, p.block < w2.heap.size → wr.cell? p = w2.cell? p := fun p hp => (World.cell?_of_block (HH.out.1.block p.block (by have := hs3.out; omega) (by omega))).trans (World.cell?_of_block (HB3.out.block p.block hp))
    obtain ⟨x, r, v, m, d1, lb, lo, fb, fo, rb, ro, rb1, ro1, hx, hr, rfl, rfl, rfl, hrn, hvm, hm5, hnx, hra, f0, a0, az, r0, y0, y1, y2, y3, l0, l1, l2, l3⟩ := ord_facts HG.out HF2.out HES.out HIS.out rfl hold HH.out.2 hks
    have HPREV : Hid (∀ j, k = j + 1 → ∃ (kp : ByteArray) (rp : Nat), wr.cell? ⟨lb, lo + j * 4, none⟩ = some (.string kp) ∧ wr.cell? ⟨fb, fo + j, none⟩ = some (.int .i64 (rp : Int)) ∧ lx kp rp x.1 r) := Lib.hid (fun j e => by
      subst e
      have hj : j < (mS (ess rs) z).length := by omega
      have hjl : j < (ents_of (mS (ess rs) z)).length := by simpa [ents_of] using hj
      have hjr : j < (runs_of (mS (ess rs) z)).length := by simpa [runs_of] using hj
      have q1 : wr.cell? ⟨lb, lo + j * 4, none⟩ = some (.string (ents_of (mS (ess rs) z))[j].1) := by
        rcases HES.out with h0 | ⟨b, o, e, hb, hc⟩
        · rw [h0] at hjl; simp at hjl
        · cases e; exact (hold _ hb).trans (hc j hjl).1
      have q2 : wr.cell? ⟨fb, fo + j, none⟩ = some (.int .i64 (runs_of (mS (ess rs) z))[j]) := by
        rcases HIS.out with h0 | ⟨b, o, e, hb, hc⟩
        · rw [h0] at hjr; simp at hjr
        · cases e; exact (hold _ hb).trans (hc j hjr)
      rw [show (ents_of (mS (ess rs) z))[j] = (mS (ess rs) z)[j].1 by simp [ents_of]] at q1
      rw [show (runs_of (mS (ess rs) z))[j] = (((mS (ess rs) z)[j].2.1 : Nat) : Int) by simp [runs_of]] at q2
      exact ⟨_, _, q1, q2, by rw [hx, hr]; exact mS_lx HG.out HV.out hks⟩)
    have hfb : fb < wr.heap.size ∧ lb < wr.heap.size ∧ w2.heap.size < wr.heap.size := ⟨cell_lt f0, cell_lt l0, HH.out.2.lt⟩
    have hne : lb ≠ w2.heap.size ∧ fb ≠ w2.heap.size := by
      constructor
      · rcases HES.out with h0 | ⟨b, o, e, hb, hc⟩
        · have : (ents_of (mS (ess rs) z)).length = (mS (ess rs) z).length := by simp [ents_of]
          rw [h0] at this; simp at this; omega
        · cases e; omega
      · rcases HIS.out with h0 | ⟨b, o, e, hb, hc⟩
        · have : (runs_of (mS (ess rs) z)).length = (mS (ess rs) z).length := by simp [runs_of]
          rw [h0] at this; simp at this; omega
        · cases e; omega
    have HNEXT : Hid (∀ nq nr, Chg (fun j => j = w2.heap.size) w3 (((wr.drewN nq).setCell ⟨w2.heap.size, r, none⟩ (.int .i64 ((v : Int) + 1))).drewN nr) ∧ CR (((wr.drewN nq).setCell ⟨w2.heap.size, r, none⟩ (.int .i64 ((v : Int) + 1))).drewN nr) w2.heap.size (intsV (pN (ess rs) z (k + 1)))) := Lib.hid (fun nq nr => by
      have hb1 := below_drewN' (w := wr) nq
      have c1 : Chg (fun j => j = w2.heap.size) wr (wr.drewN nq) := Chg.of_below hb1
      have c2 := chg_set (w := wr.drewN nq) w2.heap.size r (.int .i64 ((v : Int) + 1))
      have c3 : Chg (fun j => j = w2.heap.size) ((wr.drewN nq).setCell ⟨w2.heap.size, r, none⟩ (.int .i64 ((v : Int) + 1))) (((wr.drewN nq).setCell ⟨w2.heap.size, r, none⟩ (.int .i64 ((v : Int) + 1))).drewN nr) := Chg.of_below (below_drewN' nr)
      refine ⟨((HH.out.1.trans c1).trans c2).trans c3, ?_⟩
      have q := ((HH.out.2.below hb1 HH.out.2.lt).put hra ((v : Int) + 1)).below (below_drewN' nr) (by simpa [World.setCell] using HH.out.2.lt)
      rw [show pN (ess rs) z (k + 1) = (pN (ess rs) z k).set r ((v : Int) + 1) by
        show nextA (ess rs) (pN (ess rs) z k) = _
        rw [hnx]; rfl]
      exact q)
    obtain ⟨xk, xv, xd, xq⟩ := x
    simp only at y0 y1 y2 y3 l0 l1 l2 l3 HPREV
    clear hx hr hnx hra hks hold
    have hrn' : r < n := by rw [← HN.out]; exact hrn
    have t1 : decide ((r : Int) < 0) = false := by rw [decide_eq_false_iff_not]; omega
    have t2 : decide ((n : Int) ≤ (r : Int)) = false := by rw [decide_eq_false_iff_not]; omega
    have t3 : decide ((m : Int) ≤ (v : Int)) = false := by rw [decide_eq_false_iff_not]; omega
    have hri : (r : Int) < (n : Int) := by omega
    have hvi : (v : Int) < (m : Int) := by omega
    have hki : (k : Int) < (sl : Int) := by omega
    have hwv : IntKind.i64.wrap ((v : Int) + 1) = (v : Int) + 1 := IntWalk.i64_in _ (by omega)
    clear hrn hm5
    rcases k with _ | j
    · have k0 : decide ((0 : Int) < 0) = false := by simp
      have hs0 : (0 : Int) < (sl : Int) := by omega
      simp only [Nat.zero_mul, Nat.add_zero] at f0 l0 l1 l2 l3
      go_wp2_with fail
      go_quiet (fail)
      go_wp2_with fail
      generalize nq = n1 at *
      go_quiet (fail)
      go_wp2_with fail
      go_roundw
      case rel => exact ⟨1, by omega, by go_num, Lib.hid (HNEXT.out _ _)⟩
      case measure => simp [intOf]; omega
    · obtain ⟨kp, rp, p0, p1, hlx⟩ := HPREV.out j rfl
      have k0 : decide ((0 : Int) < (j : Int) + 1) = true := by rw [decide_eq_true_eq]; omega
      have hjs : (j : Int) < (sl : Int) := by omega
      have hjs2 : (j : Int) + 1 < (sl : Int) := by omega
      have hj0 : (0 : Int) ≤ (j : Int) + 1 := by omega
      have l0' : wr.cell? ⟨lb, lo + (j + 1) * 4, none⟩ = some (.string xk) := l0
      rcases hlx with hlx | ⟨hke, hrr⟩
      · have c1 : Op.bytesLess xk.toList kp.toList = false := by rw [less_L]; exact Kl.lt_asymm hlx
        have c2 : xk ≠ kp := by rintro rfl; rw [Kl.lt_irrefl] at hlx; cases hlx
        have c3 := str_beq_ne c2
        have c4 := str_ne c2
        clear hlx c2
        go_wp2_with fail
        go_quiet (fail)
        go_wp2_with fail
        generalize nq = n1 at *
        go_quiet (fail)
        go_wp2_with fail
        go_roundw
        case rel => exact ⟨j + 1 + 1, by omega, by go_num, Lib.hid (HNEXT.out _ _)⟩
        case measure => simp [intOf]; omega
      · have e := L_inj' hke
        subst e
        have c1 : Op.bytesLess kp.toList kp.toList = false := by rw [less_L]; exact Kl.lt_irrefl _
        have c5 : decide ((r : Int) ≤ (rp : Int)) = false := by rw [decide_eq_false_iff_not]; omega
        clear hke
        go_wp2_with fail
        go_quiet (fail)
        go_wp2_with fail
        generalize nq = n1 at *
        go_quiet (fail)
        go_wp2_with fail
        go_roundw
        case rel => exact ⟨j + 1 + 1, by omega, by go_num, Lib.hid (HNEXT.out _ _)⟩
        case measure => simp [intOf]; omega
end Go.Proofs.Ytebjhjmlpodkgaa.KK
