/-
  Merges: the place behind the entry that comes next; the reading of a state, of runs.
-/
import Derived.Test.YtebjhjmlpodkgaaPd
namespace Go.Proofs.Ytebjhjmlpodkgaa.KK
open Go.ChangeShapes Go.WideShapes Go.ChangeAt Go.RowKit Go.Proofs

/-- the tree that Replace returns for the next place -/
theorem rep_next (K L : Option Addr) (n ck cl : Nat) (rs : List Rn) (a : List Int) (w : World) (hn : rs.length = n) (h : Gd (ess rs) a) (hd : doneB (ess rs) a = false) (hk : KsAt w K (nks (ess rs) a)) (hl : IsAt w L (loL (nks (ess rs) a))) (k : ByteArray) (d : Bool) (hkd : nk (xsA (ess rs) (winA (ess rs) a)) (aA a (winA (ess rs) a) + 1) = (k, d)) :
    Calls Try.prog 100 #[.agg #[.slice K n ck, .slice L n cl, .int .i64 (winA (ess rs) a : Nat)], .agg #[.string k, .bool d]] w fun e w' => ∃ (kb lb cp cl : Nat) (gg : Int), e = .returned (.tuple #[.agg #[.slice (some ⟨kb, 0, none⟩) n cp, .slice (some ⟨lb, 0, none⟩) n cl, .int .i64 (winA (ess rs) (nextA (ess rs) a) : Nat)], .int .i64 gg, .int .i64 0]) ∧
      KsAt w' (some ⟨kb, 0, none⟩) (nks (ess rs) (nextA (ess rs) a)) ∧ IsAt w' (some ⟨lb, 0, none⟩) (loL (nks (ess rs) (nextA (ess rs) a))) ∧ w.heap.size ≤ kb ∧ w.heap.size ≤ lb ∧ kb < w'.heap.size ∧ lb < w'.heap.size ∧ Below w.heap.size w w' := by
  have hr := h.rep hd
  have hx := h.nks_next
  rw [hkd] at hr hx
  have hlen : (nks (ess rs) a).length = n := by rw [h.len, ess_len, hn]
  have K := replace_ok K L ck cl (nks (ess rs) a) k d w hk hl h.keys hr
  rw [hlen] at K
  refine K.mono ?_
  rintro e w' ⟨kb, lb, cp, cl, rfl, ht⟩
  have e1 : (nks (ess rs) a).set (wnr (nks (ess rs) a)) (k, d) = nks (ess rs) (nextA (ess rs) a) := hx.symm
  rw [e1] at ht ⊢
  exact ⟨kb, lb, cp, cl, _, rfl, ht.keys.ks, ht.lose.is, ht.new.1, ht.new.2, ht.keys.lt, ht.lose.lt, ht.below⟩
set_option maxRecDepth 100000 in
set_option maxHeartbeats 4000000 in
theorem move_any (A K L : Option Addr) (n ca ck cl : Nat) (rs : List Rn) (a : List Int) (w : World) (hn : rs.length = n) (h : Gd (ess rs) a) (hd : doneB (ess rs) a = false) (ha : IsAt w A a) (hk : KsAt w K (nks (ess rs) a)) (hl : IsAt w L (loL (nks (ess rs) a))) (k : ByteArray) (d : Bool) (hkd : nk (xsA (ess rs) (winA (ess rs) a)) (aA a (winA (ess rs) a) + 1) = (k, d)) :
    Calls Try.prog 81 #[.agg #[.slice A n ca, .slice K n ck, .slice L n cl, .int .i64 (winA (ess rs) a : Nat)], .agg #[.string k, .bool d]] w fun e w' => ∃ (ab kb lb ca cp cl : Nat), e = .returned (.agg #[.slice (some ⟨ab, 0, none⟩) n ca, .slice (some ⟨kb, 0, none⟩) n cp, .slice (some ⟨lb, 0, none⟩) n cl, .int .i64 (winA (ess rs) (nextA (ess rs) a) : Nat)]) ∧
      IsAt w' (some ⟨ab, 0, none⟩) (nextA (ess rs) a) ∧ KsAt w' (some ⟨kb, 0, none⟩) (nks (ess rs) (nextA (ess rs) a)) ∧ IsAt w' (some ⟨lb, 0, none⟩) (loL (nks (ess rs) (nextA (ess rs) a))) ∧ (w.heap.size ≤ ab ∧ ab < w'.heap.size) ∧ (w.heap.size ≤ kb ∧ kb < w'.heap.size) ∧ (w.heap.size ≤ lb ∧ lb < w'.heap.size) ∧ Below w.heap.size w w' := by
  obtain ⟨W, hW⟩ : ∃ W, W = ((w.alloc (.cells #[.slice A n ca, .slice K n ck, .slice L n cl, .int .i64 (winA (ess rs) a : Nat)] 81)).alloc (.cells #[.string k, .bool d] 41)).alloc (.cells #[.slice none 0 0, .slice none 0 0, .slice none 0 0, .int .i64 0] 81) := ⟨_, rfl⟩
  have HSZ : Hid (W.heap.size = w.heap.size + 3) := Lib.hid (by rw [hW]; simp)
  have hb0 := alloc3_below w (.cells #[.slice A n ca, .slice K n ck, .slice L n cl, .int .i64 (winA (ess rs) a : Nat)] 81) (.cells #[.string k, .bool d] 41) (.cells #[.slice none 0 0, .slice none 0 0, .slice none 0 0, .int .i64 0] 81)
  rw [← hW] at hb0
  have HR0 : Hid (Rw4 W w.heap.size 81 (.slice A n ca) (.slice K n ck) (.slice L n cl) (.int .i64 (winA (ess rs) a : Nat))) := Lib.hid (hW ▸ (heap_alloc_old _ _ (by simp; omega)).trans (hp2 w _ _))
  have HR1 : Hid (W.heap[w.heap.size + 1]? = some (.cells #[.string k, .bool d] 41 (0, 0))) := Lib.hid (hW ▸ (heap_alloc_old _ _ (by simp)).trans (hp3 w _ _ rfl))
  have HR2 : Hid (Rw4 W (w.heap.size + 1 + 1) 81 (.slice none 0 0) (.slice none 0 0) (.slice none 0 0) (.int .i64 0)) := Lib.hid (hW ▸ hp1 _ _ (by simp))
  have HB0 := Lib.hid hb0
  have h1 := h.len1
  have hal : a.length = n := by rw [h.at_.1, ess_len, hn]
  rw [hn] at h1
  have hne : a ≠ [] := fun e => by rw [e] at hal; simp at hal; omega
  have JC := Lib.hid (by
    have K := cloneI_any A ca a W (ha.below hb0 (Nat.le_refl _)) hne (by omega)
    rw [hal] at K; exact K)
  have JR := Lib.hid (fun (w' : World) (hk' : KsAt w' K (nks (ess rs) a)) (hl' : IsAt w' L (loL (nks (ess rs) a))) => rep_next K L n ck cl rs a w' hn h hd hk' hl' k d hkd)
  have HKW := Lib.hid (hk.below hb0 (Nat.le_refl _))
  have HLW := Lib.hid (hl.below hb0 (Nat.le_refl _))
  have hksn : (nks (ess rs) a).length = n := by rw [h.len, ess_len, hn]
  have HKB : Hid (∀ b, K = some b → b.block < w.heap.size) := Lib.hid (fun b e => by
    rcases hk with h0 | ⟨b1, o1, e1, hb1, _⟩
    · rw [h0] at hksn; simp at hksn; omega
    · rw [e1] at e; cases e; exact hb1)
  have HLB : Hid (∀ b, L = some b → b.block < w.heap.size) := Lib.hid (fun b e => by
    rcases hl with h0 | ⟨b1, o1, e1, hb1, _⟩
    · have := loL_len (nks (ess rs) a); rw [h0] at this; simp at this; omega
    · rw [e1] at e; cases e; exact hb1)
  have hw := h.win
  rw [ess_len, hn] at hw
  have hgi : Hid (a.getD (winA (ess rs) a) 0 = (aA a (winA (ess rs) a) : Nat)) := Lib.hid (by
    rw [List.getD_eq_getElem?_getD, List.getElem?_eq_getElem (by rw [hal]; exact hw)]
    exact h.int h.win (by rw [hal]; exact hw))
  have HNX : Hid (nextA (ess rs) a = a.set (winA (ess rs) a) ((aA a (winA (ess rs) a) + 1 : Nat) : Int)) := Lib.hid rfl
  have hsm : aA a (winA (ess rs) a) ≤ 5000 := by
    have := h.le h.win
    have := (list_ok (h.list h.win)).1
    omega
  have HAL := Lib.hid hal
  have x0 := (HR0.out.c0)
  rw [hW] at x0
  clear ha hk hl hkd h hd hn hal hne hb0 hksn
  generalize winA (ess rs) (nextA (ess rs) a) = wv at *
  generalize nks (ess rs) (nextA (ess rs) a) = ks' at *
  generalize nextA (ess rs) a = a' at *
  generalize aA a (winA (ess rs) a) = v at *
  generalize winA (ess rs) a = p at *
  generalize nks (ess rs) a = ks at *
  have l0 : (0 : Int) ≤ (p : Int) := by omega
  have l1 : (p : Int) < (n : Int) := by omega
  go_enter Try.func81, Try.ntmps81
  go_wp2_with fail
  rw [← hW]
  clear hW x0
  refine JC.out.mono ?_
  rintro e w1 ⟨g, cg, rfl, hgW, hcr, hb⟩
  have HS0 := Lib.hid (HR0.out.below hb (Nat.le_refl _))
  have HS1 : Hid (w1.heap[w.heap.size + 1]? = some (.cells #[.string k, .bool d] 41 (0, 0))) := Lib.hid ((hb.block _ (by rw [HSZ.out]; omega)).trans HR1.out)
  have HS2 := Lib.hid (HR2.out.below hb (Nat.le_refl _))
  have HK1 := Lib.hid (HKW.out.below hb (Nat.le_refl _))
  have HL1 := Lib.hid (HLW.out.below hb (Nat.le_refl _))
  have HB1 := Lib.hid (eb_of HB0.out hb (Nat.le_refl _))
  have HCR := Lib.hid hcr
  have hg3 : w.heap.size + 3 ≤ g := by rw [← HSZ.out]; exact hgW
  have HSW := Lib.hid (show w.heap.size + 3 ≤ w1.heap.size by rw [← HSZ.out]; exact hb.size)
  obtain ⟨c1, c2⟩ := hcr.int (i := p) (by rw [HAL.out]; exact hw)
  rw [hgi.out] at c1
  have hglt := hcr.lt
  have y1 := HS0.out.c1
  have y2 := HS0.out.c2
  have y3 := HS0.out.c3
  have y4 := cell_of_row w1 (w.heap.size + 1) 0 _ _ _ HS1.out
  have y5 := cell_of_row w1 (w.heap.size + 1) 1 _ _ _ HS1.out
  simp only [List.getElem?_toArray, List.getElem?_cons_zero, List.getElem?_cons_succ] at y4 y5
  have n0 : w.heap.size ≠ g := by omega
  have n1 : w.heap.size + 1 ≠ g := by omega
  have n0' : g ≠ w.heap.size := by omega
  have n1' : g ≠ w.heap.size + 1 := by omega
  clear hb hcr hgW JC HR0 HR1 HR2 HKW HLW HB0 HSZ
  go_wp2_with fail
  have hc := chg_set (w := w1) g p (.int .i64 ((v : Int) + 1))
  have HCR2 := Lib.hid (HCR.out.put (i := p) (by rw [HAL.out]; exact hw) ((v : Int) + 1))
  refine (JR.out _ (HK1.out.chg hc (fun b e => by have := HKB.out b e; omega)) (HL1.out.chg hc (fun b e => by have := HLB.out b e; omega))).mono ?_
  rintro e w3 ⟨kb, lb, cp, cl', gg, rfl, hk3, hl3, hkb, hlb, hkb', hlb', hb3⟩
  obtain ⟨w4, hw4⟩ : ∃ w4, w4 = w3.alloc (.cells #[.slice (some ⟨kb, 0, none⟩) n cp, .slice (some ⟨lb, 0, none⟩) n cl', .int .i64 (wv : Int)] 28) := ⟨_, rfl⟩
  have hb34 : Below w3.heap.size w3 w4 := hw4 ▸ alloc_below _ _
  have hsz2 : (w1.setCell ⟨g, p, none⟩ (.int .i64 ((v : Int) + 1))).heap.size = w1.heap.size := by simp [World.setCell]
  have hb24 := eb_of hb3 hb34 (Nat.le_refl _)
  have hc4 := hc.trans (Chg.of_below (S := fun k => k = g) hb24)
  have HT : Hid (Row3 w4 w3.heap.size 28 (.slice (some ⟨kb, 0, none⟩) n cp) (.slice (some ⟨lb, 0, none⟩) n cl') (.int .i64 (wv : Int))) := Lib.hid (hw4 ▸ heap_alloc_new w3 _)
  have HZ4 := Lib.hid (HS2.out.chg hc4 (by omega))
  have HG4 := Lib.hid (HCR2.out.below hb24 (by rw [hsz2]; exact hglt))
  have HK4 := Lib.hid (hk3.below hb34 (Nat.le_refl _))
  have HL4 := Lib.hid (hl3.below hb34 (Nat.le_refl _))
  have HB4 := Lib.hid (HB1.out.trans (hc4.below (fun k hk => by omega) HB1.out.size))
  have HN4 : Hid (w.heap.size + 3 ≤ g ∧ g < w4.heap.size ∧ w.heap.size + 3 ≤ kb ∧ kb < w4.heap.size ∧ w.heap.size + 3 ≤ lb ∧ lb < w4.heap.size) := Lib.hid (by
    have s1 := hb34.size
    have s2 := hb3.size
    have s3 := HSW.out
    rw [hsz2] at hkb hlb s2
    exact ⟨hg3, by omega, by omega, by omega, by omega, by omega⟩)
  have hlt3 : w3.heap.size < w4.heap.size := HT.out.lt
  clear hk3 hl3 hkb hlb hkb' hlb' hb3 hb34 hsz2 hb24 hc4 hc HS0 HS1 HS2 HK1 HL1 HB1 HCR HCR2 HSW y1 y2 y3 y4 y5 c1 c2 n0 n1 n0' n1' hglt
  have t0 := HT.out.c0
  have t1 := HT.out.c1
  have t2 := HT.out.c2
  have k0 := HZ4.out.c0
  have k1 := HZ4.out.c1
  have k2 := HZ4.out.c2
  have k3 := HZ4.out.c3
  have z0 := HZ4.out.fz 0
  have z1 := HZ4.out.fz 1
  have z2 := HZ4.out.fz 2
  have z3 := HZ4.out.fz 3
  rw [hw4] at t0 t1 t2 k0 k1 k2 k3 z0 z1 z2 z3
  go_wp2_with fail
  rw [← hw4]
  clear hw4 t0 t1 t2 k0 k1 k2 k3 z0 z1 z2 z3
  have HX := Lib.hid (HZ4.out.set (.slice (some ⟨g, 0, none⟩) n cg) (.slice (some ⟨kb, 0, none⟩) n cp) (.slice (some ⟨lb, 0, none⟩) n cl') (.int .i64 (wv : Int)))
  have e0 := HX.out.c0
  have e1 := HX.out.c1
  have e2 := HX.out.c2
  have e3 := HX.out.c3
  have hcF := set4C w4 (w.heap.size + 1 + 1) (.slice (some ⟨g, 0, none⟩) n cg) (.slice (some ⟨kb, 0, none⟩) n cp) (.slice (some ⟨lb, 0, none⟩) n cl') (.int .i64 (wv : Int))
  have hsF := hcF.size
  obtain ⟨m1, m2, m3, m4, m5, m6⟩ := HN4.out
  refine bodyPost_ret (v := .agg #[.slice (some ⟨g, 0, none⟩) n cg, .slice (some ⟨kb, 0, none⟩) n cp, .slice (some ⟨lb, 0, none⟩) n cl', .int .i64 (wv : Int)]) (by simp [results, Try.results81, go_sem, e0, e1, e2, e3]) rfl ?_
  refine ⟨g, kb, lb, cg, cp, cl', rfl, ?_, HK4.out.chg hcF (fun b e => by cases e; show ¬ kb = _; omega), HL4.out.chg hcF (fun b e => by cases e; show ¬ lb = _; omega), ⟨by omega, by omega⟩, ⟨by omega, by omega⟩, ⟨by omega, by omega⟩, HB4.out.trans (hcF.below (fun k hk => by omega) HB4.out.size)⟩
  rw [HNX.out]
  exact (HG4.out.chg hcF (by omega)).is
set_option maxRecDepth 100000 in
set_option maxHeartbeats 2000000 in
theorem resume_any (R A K L : Value) (win : Value) (w : World) (hR : ∃ a n c, R = .slice a n c) (hA : ∃ a n c, A = .slice a n c) (hK : ∃ a n c, K = .slice a n c) (hL : ∃ a n c, L = .slice a n c) (hw : ∃ i, win = .int .i64 i) :
    Calls Try.prog 55 #[.agg #[R, A, K, L, win]] w fun e w' => e = .returned (.agg #[A, K, L, win, R]) ∧ Below w.heap.size w w' := by
  obtain ⟨a1, n1, c1, rfl⟩ := hR
  obtain ⟨a2, n2, c2, rfl⟩ := hA
  obtain ⟨a3, n3, c3, rfl⟩ := hK
  obtain ⟨a4, n4, c4, rfl⟩ := hL
  obtain ⟨i, rfl⟩ := hw
  go_enter Try.func55, Try.ntmps55
  go_wp2_with fail
  exact bodyPost_ret (v := .agg #[.slice a2 n2 c2, .slice a3 n3 c3, .slice a4 n4 c4, .int .i64 i, .slice a1 n1 c1]) (by simp [results, Try.results55, go_sem]) rfl ⟨rfl, alloc2_below _ _ _⟩
end Go.Proofs.Ytebjhjmlpodkgaa.KK
