/-
  Merges: does an entry that was read come after one that was not?
-/
import Derived.Test.YtebjhjmlpodkgaaPl
namespace Go.Proofs.Ytebjhjmlpodkgaa.KK
open Go.ChangeShapes Go.WideShapes Go.ChangeAt Go.RowKit Go.Proofs

/-- the key of the last entry of a run that was read -/
def lastK (xss : List (List El.En)) (a : List Int) (i : Nat) : ByteArray := ((xsA xss i).getD (aA a i - 1) El.none).1
/-- was an entry of this run read that comes after what comes next? -/
def badA (xss : List (List El.En)) (a : List Int) (i : Nat) : Bool := decide (0 < aA a i) && caB (lastK xss a i) (i : Int) (kAt (nks xss a) (winA xss a)).1 (winA xss a : Nat)
def ordE (xss : List (List El.En)) (a : List Int) : Int × Int := if doneB xss a = true then (0, 0) else if (List.range xss.length).any (badA xss a) = true then ((winA xss a : Nat), 6) else (0, 0)
theorem any_yes {f : Nat → Bool} {k n : Nat} (h : k < n) (g : f k = true) : (List.range n).any f = true := List.any_eq_true.2 ⟨k, List.mem_range.2 h, g⟩
theorem any_more {f : Nat → Bool} {k : Nat} (h : (List.range k).any f = false) (g : f k = false) : (List.range (k + 1)).any f = false := by rw [List.range_succ, List.any_append, h]; simp [g]
set_option maxRecDepth 100000 in
set_option maxHeartbeats 4000000 in
theorem order11_any (R A K L : Option Addr) (cr ca ck cl n : Nat) (rs : List Rn) (a : List Int) (w : World) (hn : rs.length = n) (h : Gd (ess rs) a) (hr : RdOk w A K L R rs a) :
    Calls Try.prog 54 #[.agg #[.slice R n cr, .slice A n ca, .slice K n ck, .slice L n cl, .int .i64 (winA (ess rs) a : Nat)]] w fun e w' => e = .returned (.tuple #[.int .i64 (ordE (ess rs) a).1, .int .i64 (ordE (ess rs) a).2]) ∧ Below w.heap.size w w' := by
  obtain ⟨W, hW⟩ : ∃ W, W = w.alloc (.cells #[.slice R n cr, .slice A n ca, .slice K n ck, .slice L n cl, .int .i64 (winA (ess rs) a : Nat)] 30) := ⟨_, rfl⟩
  have hbW : Below w.heap.size w W := hW ▸ alloc_below _ _
  have HR0 : Hid (Rw5 W w.heap.size 30 (.slice R n cr) (.slice A n ca) (.slice K n ck) (.slice L n cl) (.int .i64 (winA (ess rs) a : Nat))) := Lib.hid (hW ▸ heap_alloc_new w _)
  have h1 := h.len1
  rw [hn] at h1
  have hkl : (nks (ess rs) a).length = n := by rw [h.len, ess_len, hn]
  have HRD := Lib.hid (hr.below hbW (Nat.le_refl _))
  have JW := Lib.hid (by
    have q := winner_any K L ck cl (nks (ess rs) a) W HRD.out.keys HRD.out.lose h.keys
    rw [hkl] at q; exact q)
  have HG := Lib.hid h
  have HN := Lib.hid hn
  have HBW := Lib.hid hbW
  have HDD : Hid ((kAt (nks (ess rs) a) (wnr (nks (ess rs) a))).2 = doneB (ess rs) a) := Lib.hid rfl
  have HWW : Hid (wnr (nks (ess rs) a) = winA (ess rs) a) := Lib.hid rfl
  rw [HDD.out, HWW.out] at JW
  have y0 := HR0.out.c0
  have y1 := HR0.out.c1
  have y2 := HR0.out.c2
  have y3 := HR0.out.c3
  have y4 := HR0.out.c4
  rw [hW] at y0 y1 y2 y3 y4
  clear hr h hn hkl hbW HDD HWW
  cases hd : doneB (ess rs) a with
  | true =>
    rw [hd, if_pos rfl] at JW
    have HV : Hid (ordE (ess rs) a = (0, 0)) := Lib.hid (if_pos hd)
    clear hd
    generalize ordE (ess rs) a = res at *
    generalize winA (ess rs) a = p at *
    go_enter Try.func54, Try.ntmps54
    go_wp2_with fail
    rw [← hW]
    clear hW y0 y1 y2 y3 y4
    refine JW.out.mono ?_
    rintro e w1 ⟨rfl, hb⟩
    have HB1 := Lib.hid (eb_of HBW.out hb (Nat.le_refl _))
    clear hb
    go_wp2_with fail
    go_ret2
    exact ⟨retP HV.out rfl rfl, HB1.out⟩
  | false =>
  rw [hd, if_neg (by simp)] at JW
  have HV : Hid (ordE (ess rs) a = if (List.range n).any (badA (ess rs) a) = true then (((winA (ess rs) a : Nat) : Int), (6 : Int)) else (0, 0)) := Lib.hid (by unfold ordE; rw [if_neg (by rw [hd]; simp), ess_len, HN.out])
  have HBD : Hid (∀ i, badA (ess rs) a i = (decide (0 < aA a i) && caB (lastK (ess rs) a i) (i : Int) (kAt (nks (ess rs) a) (winA (ess rs) a)).1 (winA (ess rs) a : Nat))) := Lib.hid (fun i => rfl)
  clear hd
  generalize ordE (ess rs) a = res at *
  generalize winA (ess rs) a = p at *
  generalize (kAt (nks (ess rs) a) p).1 = kw at *
  generalize badA (ess rs) a = bad at *
  go_enter Try.func54, Try.ntmps54
  go_wp2_with fail
  rw [← hW]
  clear hW y0 y1 y2 y3 y4
  refine JW.out.mono ?_
  rintro e w1 ⟨rfl, hb⟩
  have HB1 := Lib.hid (eb_of HBW.out hb (Nat.le_refl _))
  have HR1 := Lib.hid (HR0.out.below hb (Nat.le_refl _))
  have HRD1 := Lib.hid (HRD.out.below hb (Nat.le_refl _))
  have y1 := HR1.out.c1
  clear hb JW HR0 HRD
  go_wp2_with fail
  go_loopw [20] (fun iv wr => ∃ k : Nat, k ≤ n ∧ iv = .int .i64 k ∧ Below w1.heap.size w1 wr ∧ Hid ((List.range k).any bad = false)) (fun iv _ => n - (intOf iv).toNat)
  case atStart => exact ⟨0, Nat.zero_le _, rfl, Below.refl _ _, Lib.hid rfl⟩
  case round =>
    obtain ⟨k, hk, rfl, hb, HA⟩ := hrel
    have HB := Lib.hid hb
    have hR := HR1.out.below hb (Nat.le_refl _)
    have hD := HRD1.out.below hb (Nat.le_refl _)
    have hBZ := Lib.hid (eb_of HB1.out hb (Nat.le_refl _))
    clear hb y1
    by_cases hlt : k < n
    · have hkr : k < rs.length := by rw [HN.out]; exact hlt
      have hka : k < a.length := by rw [HG.out.at_.1, ess_len]; exact hkr
      have hii := HG.out.int (i := k) (by rw [ess_len]; exact hkr) hka
      have hle := HG.out.le (i := k) (by rw [ess_len]; exact hkr)
      have hxa : xsA (ess rs) k = rs[k].2.2 := by rw [xsA_eq (by rw [ess_len]; exact hkr), ess_get hkr]
      have hsm := (list_ok (HG.out.list (i := k) (by rw [ess_len]; exact hkr))).1
      rcases hD.ats with h0 | ⟨b1, o1, rfl, hbl1, hc1⟩
      · rw [h0] at hka; simp at hka
      rcases hD.runs with h0 | ⟨b2, o2, rfl, hbl2, hc2⟩
      · rw [h0] at hkr; simp at hkr
      have a1 := hc1 k hka
      rw [hii] at a1
      obtain ⟨a2, a3⟩ := hc2 k hkr
      have hbk := HBD.out k
      have y0 := hR.c0
      have l1 : (k : Int) < (n : Int) := by omega
      clear hc1 hc2 hii hR hD
      rw [hxa] at hle hsm
      cases hv : aA a k with
      | zero =>
        rw [hv] at a1 hbk
        have HT := Lib.hid (any_more HA.out (by rw [hbk]; rfl))
        clear hv hbk a3 hle hxa
        generalize rs[k].1 = A1 at *
        generalize rs[k].2.1 = d1 at *
        generalize rs[k].2.2.length = m1 at *
        go_wp2_with fail
        go_roundw
        case rel => exact ⟨k + 1, by omega, by go_num, HB.out, HT⟩
        case measure => simp [intOf]; omega
      | succ u =>
        rw [hv] at a1 hbk hle
        rcases a3 with h0 | ⟨b3, o3, hr3, hbl3, hc3⟩
        · rw [h0] at hle; simp at hle
        have hu : u < rs[k].2.2.length := by omega
        have q0 := (hc3 u hu).1
        have hlk : lastK (ess rs) a k = (rs[k].2.2[u]).1 := by
          unfold lastK; rw [hxa, hv, Nat.add_sub_cancel, List.getD_eq_getElem?_getD, List.getElem?_eq_getElem hu]; rfl
        rw [← hlk] at q0
        rw [hr3] at a2
        have hbk' : bad k = caB (lastK (ess rs) a k) (k : Int) kw (p : Nat) := by rw [hbk]; simp
        have JC := Lib.hid (fun w' => comesAfter_any (lastK (ess rs) a k) (k : Int) kw (p : Nat) w')
        clear hc3 hlk hbk hv hxa hr3
        generalize lastK (ess rs) a k = lk at *
        generalize hm1 : rs[k].2.2.length = m1 at *
        generalize rs[k].2.1 = d1 at *
        clear hm1
        rw [show (((u + 1 : Nat)) : Int) = (u : Int) + 1 by omega] at a1
        have l2 : (u : Int) < (m1 : Int) := by omega
        have d1 : decide ((0 : Int) < (u : Int) + 1) = true := by rw [decide_eq_true_iff]; omega
        have d2 : (0 : Int) < (u : Int) + 1 := by omega
        cases hc : caB lk (k : Int) kw (p : Nat) with
        | true =>
          rw [hc] at hbk' JC
          have HT : Hid (res = (((p : Nat) : Int), 6)) := Lib.hid (by rw [HV.out, if_pos (any_yes hlt hbk')])
          clear hbk' hc
          go_wp2_with fail
          refine (JC.out _).mono ?_
          rintro e w2 ⟨rfl, hb⟩
          have HB2 := Lib.hid (eb_of hBZ.out hb (Nat.le_refl _))
          clear hb a1 a2 q0 y0
          go_wp2_with fail
          go_ret2
          exact ⟨retP HT.out rfl rfl, HB2.out⟩
        | false =>
          rw [hc] at hbk' JC
          have HT := Lib.hid (any_more HA.out hbk')
          clear hbk' hc
          go_wp2_with fail
          refine (JC.out _).mono ?_
          rintro e w2 ⟨rfl, hb⟩
          have HB2 := Lib.hid (eb_of HB.out hb (Nat.le_refl _))
          clear hb a1 a2 q0 y0
          go_wp2_with fail
          go_roundw
          case rel => exact ⟨k + 1, by omega, by go_num, HB2.out, HT⟩
          case measure => simp [intOf]; omega
    · obtain rfl : k = n := by omega
      have HT : Hid (res = (0, 0)) := Lib.hid (by rw [HV.out, HA.out]; rfl)
      clear hR hD
      go_wp2_with fail
      go_ret2
      exact ⟨retP HT.out rfl rfl, hBZ.out⟩
end Go.Proofs.Ytebjhjmlpodkgaa.KK
