/-
  Contract of give (pins), of Pin, of Unpin that lets go.
-/
import Derived.Test.YtbgpcmpbfenplaaUa
namespace Go.Proofs.Ytbgpcmpbfenplaa.KK
open Go.ChangeShapes Go.WideShapes Go.ChangeAt Go.RowKit Go.Proofs

theorem Row2.chg {S : Nat → Prop} {W W' : World} {B : Nat} {t : TypeId} {v0 v1 : Value} (h : Row2 W B t v0 v1) (hb : Chg S W W') (hn : ¬ S B) : Row2 W' B t v0 v1 := (hb.block B h.lt hn).trans h
set_option maxRecDepth 100000 in
set_option maxHeartbeats 400000 in
/-- the first free slot is given -/
theorem give_free (base M : Nat) (h q : Value) (g c : Nat) (ss : List Sl) (i : Nat) (a : Option Addr) (m d : Nat) (w : World) (hm : Md w M h (.slice (some ⟨g, 0, none⟩) ss.length c) q) (ho : Sown w base (.slice (some ⟨g, 0, none⟩) ss.length c) ss) (hn : ss.length ≤ 16) (hv : ∀ s ∈ ss, ∃ a m d, s.2.2 = .slice a m d) (hi : i < ss.length) (hf : freeI 0 ss = i) (hg : -1000000000 ≤ ss[i].1 ∧ ss[i].1 ≤ 1000000000) :
    Calls Try.prog 77 #[.pointer (some ⟨M, 2, none⟩), .slice a m d] w fun e w' => e = .returned (.tuple #[.agg #[.int .i64 ((i : Int) + 1), .int .i64 (ss[i].1 + 1)], .int .i64 0]) ∧ GiveOut base M h q (.slice (some ⟨g, 0, none⟩) ss.length c) w w' (ss.set i (ss[i].1 + 1, true, .slice a m d)) := by
  have hb0 := alloc_below w (.cells #[.int .i64 0, .int .i64 0] 52)
  have HR := Row2.new w 52 (.int .i64 0) (.int .i64 0)
  obtain ⟨S, c', hp, hsl⟩ := ho.form
  injection hp with hp1 _ hp3; subst hp1 hp3
  have JF := Lib.hid (fun (w' : World) (hb : Below w.heap.size w w') => free_any _ c ss w' (hsl.below hb (Nat.le_refl _)) (by omega) hv)
  rw [hf] at JF
  have HM := Lib.hid (fun (w' : World) (hb : Below w.heap.size w w') => hm.below hb)
  have HO := Lib.hid (fun (w' : World) (hb : Below w.heap.size w w') => show Sown w' base (.slice (some ⟨g, 0, none⟩) ss.length c) ss from (Chg.of_below (S := fun _ => False) hb).own ho (fun _ _ g => g))
  have hgM := ho.notM hm g rfl
  have hgl : g < w.heap.size := by obtain ⟨g2, c2, e, _, h3⟩ := ho.block (fun e => by rw [e] at hi; simp at hi); injection e with e; injection e with e; injection e with e; omega
  have hMl := hm.lt
  obtain ⟨⟨sg, sh, sw⟩, hs⟩ : ∃ s, ss[i] = s := ⟨_, rfl⟩
  obtain ⟨c0, c1, c2⟩ := cellsS_get ss i hi
  rw [hs] at c0 c1 c2 hg ⊢
  simp only at c0 c1 c2 hg ⊢
  have hci : i * 3 + 2 < ss.length * 3 := by omega
  have HC := Lib.hid (And.intro c0 (And.intro c1 c2))
  have HSET := Lib.hid (fun (w' : World) (k : Sown w' base (.slice (some ⟨g, 0, none⟩) ss.length c) ss) => k.set i (sg + 1, true, .slice a m d))
  obtain ⟨n, hnn⟩ : ∃ n, ss.length = n := ⟨_, rfl⟩
  have hI : (i : Int) < (n : Int) := by omega
  have hJ : ¬ (i : Int) < 0 := by omega
  have HN := Lib.hid hnn
  rw [hnn] at JF HM ⊢
  clear hf hv hsl hs c0 c1 c2 hm ho hnn hi
  go_enter Try.func77, Try.ntmps77
  have m3 := (HM.out _ hb0).c 3
  simp only [List.getElem?_toArray, List.getElem?_cons_succ, List.getElem?_cons_zero] at m3
  go_wp2_with fail
  refine (JF.out _ hb0).mono ?_
  rintro e w1 ⟨rfl, hb⟩
  have HB := Lib.hid (eb_of hb0 hb (Nat.le_refl _))
  have HR1 := Lib.hid (HR.below hb (Nat.le_refl _))
  have m3 := (HM.out _ HB.out).c 3
  simp only [List.getElem?_toArray, List.getElem?_cons_succ, List.getElem?_cons_zero] at m3
  have ho1 := HO.out _ HB.out
  have s0 := (World.ownsRow.cellAt ho1 (i * 3) (by omega)).trans HC.out.1
  have s1 := (World.ownsRow.cellAt ho1 (i * 3 + 1) (by omega)).trans HC.out.2.1
  have s2 := (World.ownsRow.cellAt ho1 (i * 3 + 2) (by omega)).trans HC.out.2.2
  have z := World.ownsRow.frozenAt ho1
  have z0 := z (i * 3)
  have z1 := z (i * 3 + 1)
  have z2 := z (i * 3 + 2)
  have r0 := HR1.out.c0
  have r1 := HR1.out.c1
  have y0 := HR1.out.fz 0
  have y1 := HR1.out.fz 1
  have HO1 := Lib.hid ho1
  have hne : g ≠ w.heap.size := by omega
  have hne2 : M ≠ w.heap.size := by omega
  clear ho1 z hb hb0 HR JF
  go_wp2_with fail
  have k1 := chg_set3 (w := w1) g (i * 3) (i * 3 + 1) (i * 3 + 2) (.int .i64 (sg + 1)) (.bool true) (.slice a m d)
  have hRX := (HR1.out.chg k1 (fun e => hne e.symm)).set (u0 := .int .i64 ((i : Int) + 1)) (u1 := .int .i64 (sg + 1))
  have x0 := hRX.c0
  have x1 := hRX.c1
  refine bodyPost_ret (v := .tuple #[.agg #[.int .i64 ((i : Int) + 1), .int .i64 (sg + 1)], .int .i64 0]) (by simp [results, Try.f77, go_sem, x0, x1]) rfl ?_
  have hS := HSET.out _ HO1.out
  have k2 := (chg_set (w := (((w1.setCell ⟨g, i * 3, none⟩ (.int .i64 (sg + 1))).setCell ⟨g, i * 3 + 1, none⟩ (.bool true)).setCell ⟨g, i * 3 + 2, none⟩ (.slice a m d))) w.heap.size 0 (.int .i64 ((i : Int) + 1))).trans (chg_set w.heap.size 1 (.int .i64 (sg + 1)))
  have hM1 := HM.out _ HB.out
  refine ⟨rfl, .slice (some ⟨g, 0, none⟩) n c, (hM1.chg k1 (fun e => hgM e.symm)).chg k2 (fun e => hne2 e), ?_, ?_, .inl rfl⟩
  · rw [← HN.out]
    exact k2.own hS (fun g2 hg2 e => by injection hg2 with hg2; exact hne (hg2.trans e))
  · have e1 : Chg (fun k => k = M ∨ some k = (Value.slice (some ⟨g, 0, none⟩) n c).ownBlock) w w1 := Chg.of_below HB.out
    have e2 := e1.trans (k1.mono (fun k hk => .inr (by rw [hk]; rfl)))
    exact ⟨k2.os.trans e2.os, k2.tape.trans e2.tape, k2.output.trans e2.output, Nat.le_trans e2.size k2.size, fun k hk hn => (k2.block k (Nat.lt_of_lt_of_le hk e2.size) (fun e => by omega)).trans (e2.block k hk hn)⟩
set_option maxRecDepth 100000 in
set_option maxHeartbeats 1000000 in
/-- no slot is free: a new one -/
theorem give_new (base M : Nat) (h q p : Value) (ss : List Sl) (a : Option Addr) (m d : Nat) (w : World) (hm : Md w M h p q) (ho : Sown w base p ss) (hn : ss.length < 16) (hv : ∀ s ∈ ss, ∃ a m d, s.2.2 = .slice a m d) (hf : freeI 0 ss = -1) (hbase : base ≤ w.heap.size) :
    Calls Try.prog 77 #[.pointer (some ⟨M, 2, none⟩), .slice a m d] w fun e w' => e = .returned (.tuple #[.agg #[.int .i64 ((ss.length : Int) + 1), .int .i64 1], .int .i64 0]) ∧ GiveOut base M h q p w w' (ss ++ [(1, true, .slice a m d)]) := by
  obtain ⟨i0, hi, hz0, hz1, hz2⟩ := info_parts infoS
  have hb0 := alloc_below w (.cells #[.int .i64 0, .int .i64 0] 52)
  have HR := Row2.new w 52 (.int .i64 0) (.int .i64 0)
  obtain ⟨S, c, hp, hsl⟩ := ho.form
  subst hp
  have JF := Lib.hid (fun (w' : World) (hb : Below w.heap.size w w') => free_any S c ss w' (hsl.below hb (Nat.le_refl _)) (by omega) hv)
  rw [hf] at JF
  have HM := Lib.hid (fun (w' : World) (hb : Below w.heap.size w w') => hm.below hb)
  have HO := Lib.hid (fun (w' : World) (hb : Below w.heap.size w w') => show Sown w' base (.slice S ss.length c) ss from (Chg.of_below (S := fun _ => False) hb).own ho (fun _ _ g => g))
  have HGM := Lib.hid (ho.notM hm)
  have HLT := Lib.hid (World.ownsRow.lt ho)
  have hMl := hm.lt
  have HSN := Lib.hid (fun (w' : World) (g cc : Nat) (k : w'.ownsRow base 129 3 (.slice (some ⟨g, 0, none⟩) (ss.length + 1) cc) (ss.length + 1) (cellsS (ss ++ [(0, false, .slice none 0 0)]))) => show Sown (((w'.setCell ⟨g, ss.length * 3, none⟩ (.int .i64 1)).setCell ⟨g, ss.length * 3 + 1, none⟩ (.bool true)).setCell ⟨g, ss.length * 3 + 2, none⟩ (.slice a m d)) base (.slice (some ⟨g, 0, none⟩) (ss.length + 1) cc) (ss ++ [(1, true, .slice a m d)]) from by
    have k' : Sown w' base (.slice (some ⟨g, 0, none⟩) (ss ++ [((0 : Int), false, Value.slice none 0 0)]).length cc) (ss ++ [(0, false, .slice none 0 0)]) := by
      unfold Sown; rw [List.length_append]; exact k
    have := k'.set ss.length (1, true, .slice a m d)
    rw [List.set_append_right _ _ (Nat.le_refl _), Nat.sub_self, List.set_cons_zero, List.length_append] at this
    exact this)
  have HG := Lib.hid (fun (w' : World) (g cc : Nat) (k : w'.ownsRow base 129 3 (.slice (some ⟨g, 0, none⟩) (ss.length + 1) cc) (ss.length + 1) (cellsS (ss ++ [(0, false, .slice none 0 0)]))) => show (w'.cell? ⟨g, ss.length * 3, none⟩ = some (.int .i64 0) ∧ w'.cell? ⟨g, ss.length * 3 + 1, none⟩ = some (.bool false) ∧ w'.cell? ⟨g, ss.length * 3 + 2, none⟩ = some (.slice none 0 0)) ∧ w'.frozen? ⟨g, ss.length * 3, none⟩ = false ∧ w'.frozen? ⟨g, ss.length * 3 + 1, none⟩ = false ∧ w'.frozen? ⟨g, ss.length * 3 + 2, none⟩ = false from by
    obtain ⟨c0, c1, c2⟩ := cellsS_get (ss ++ [((0 : Int), false, Value.slice none 0 0)]) ss.length (by simp)
    rw [List.getElem_append_right (Nat.le_refl _)] at c0 c1 c2
    simp only [Nat.sub_self, List.getElem_cons_zero] at c0 c1 c2
    exact ⟨⟨(World.ownsRow.cellAt k _ (by omega)).trans c0, (World.ownsRow.cellAt k _ (by omega)).trans c1, (World.ownsRow.cellAt k _ (by omega)).trans c2⟩, World.ownsRow.frozenAt k _, World.ownsRow.frozenAt k _, World.ownsRow.frozenAt k _⟩)
  unfold Sown at HO
  obtain ⟨n, hnn⟩ : ∃ n, ss.length = n := ⟨_, rfl⟩
  have HN := Lib.hid hnn
  rw [hnn] at hn JF HM HO HGM HLT HSN HG ⊢
  clear hf hv hsl hm ho hnn
  have qn : ((n : Int) == 16) = false := by rw [beq_eq_false_iff_ne]; omega
  go_enter Try.func77, Try.ntmps77
  have m3 := (HM.out _ hb0).c 3
  simp only [List.getElem?_toArray, List.getElem?_cons_succ, List.getElem?_cons_zero] at m3
  go_wp2_with fail
  refine (JF.out _ hb0).mono ?_
  rintro e w1 ⟨rfl, hb⟩
  have HB := Lib.hid (eb_of hb0 hb (Nat.le_refl _))
  have HR1 := Lib.hid (HR.below hb (Nat.le_refl _))
  have m2 := (HM.out _ HB.out).c 2
  have m3 := (HM.out _ HB.out).c 3
  simp only [List.getElem?_toArray, List.getElem?_cons_succ, List.getElem?_cons_zero] at m2 m3
  clear hb hb0 HR JF
  go_wp2_with fail
  go_quiet (fail)
  have HBq := Lib.hid (show Below w.heap.size w (w1.drewN nq) from HB.out.trans ((below_drewN' nq).mono HB.out.size))
  have HRq := Lib.hid (show Row2 (w1.drewN nq) w.heap.size 52 (.int .i64 0) (.int .i64 0) from HR1.out.below (below_drewN' nq) (Nat.le_refl _))
  clear HB HR1 m2 m3
  generalize w1.drewN nq = w2 at *
  have hba := alloc_below w2 (.cells #[.int .i64 0, .bool false, .slice none 0 0] 129)
  have HBa := Lib.hid (eb_of HBq.out hba (Nat.le_refl _))
  have HRa := Lib.hid (HRq.out.below hba (Nat.le_refl _))
  have HMa := Lib.hid (HM.out _ HBa.out)
  have HOa := Lib.hid (HO.out _ HBa.out)
  have hsz := HBq.out.size
  have m3 := (HM.out _ HBq.out).c 3
  simp only [List.getElem?_toArray, List.getElem?_cons_succ, List.getElem?_cons_zero] at m3
  have hwp : IntKind.i64.wrap (n : Int) = (n : Int) := by rw [IntKind.wrap_i64]; omega
  have hI : (n : Int) < ((n + 1 : Nat) : Int) := by omega
  have hI2 : (n : Int) < (n : Int) + 1 := by omega
  clear hba
  go_wp2_with (at_builtin; go_loud (refine wpList_append_lies _ rfl (.tmp 35) (.tmp 37) 92 rfl base 129 i0 (.agg #[.int .i64 0, .bool false, .slice none 0 0]) 3 40 Try.underlying92 hi hz0 hz1 hz2 rfl (by decide) (.slice S n c) n (cellsS ss) rfl HOa.out ⟨w2.heap.size, 0, none⟩ 1 1 [.int .i64 0, .bool false, .slice none 0 0] rfl rfl (World.news_of_block (cs := #[.int .i64 0, .bool false, .slice none 0 0]) (t := 129) (fr := (0, 0)) (heap_alloc_new w2 _)) (by simp [Value.oneCell']) (by omega) (by unfold maxLen; omega) (by omega) (by simp; omega) (w2.heap.size + 1) (by simp) ?_; intro g cc w3 hown0 hgrow hat hlt; have hown : w3.ownsRow base 129 3 (.slice (some ⟨g, 0, none⟩) (n + 1) cc) (n + 1) (cellsS (ss ++ [(0, false, .slice none 0 0)])) := (by rw [cellsS_app]; exact hown0); have HW := Lib.hid hown; have HGR := Lib.hid hgrow; have hgM3 : g ≠ M := (by rcases hat with e | e; exact HGM.out g e; have := HMa.out.lt; simp at this; omega); have hg0 : g ≠ w.heap.size := (by rcases hat with e | e; have := (HLT.out g e).2; omega; omega); have hM3 := HMa.out.chg (Chg.of_grown hgrow) (fun e => HGM.out M e.symm rfl); have m3 := hM3.c 3; have f3 := hM3.fz 3; have HM3 := Lib.hid hM3; have HR3 := Lib.hid (HRa.out.chg (Chg.of_grown hgrow) (fun e => by have := (HLT.out _ e.symm).2; omega)); obtain ⟨⟨s0, s1, s2⟩, z0, z1, z2⟩ := HG.out _ g cc hown; have r0 := HR3.out.c0; have r1 := HR3.out.c1; have y0 := HR3.out.fz 0; have y1 := HR3.out.fz 1; have HAT := Lib.hid hat; clear hown hown0 hgrow hM3 hat))
  have k0 := chg_set (w := w3) M 3 (.slice (some ⟨g, 0, none⟩) (n + 1) cc)
  have k1 := chg_set3 (w := w3.setCell ⟨M, 3, none⟩ (.slice (some ⟨g, 0, none⟩) (n + 1) cc)) g (n * 3) (n * 3 + 1) (n * 3 + 2) (.int .i64 1) (.bool true) (.slice a m d)
  have hRX := ((HR3.out.chg k0 (fun e => by omega)).chg k1 (fun e => hg0 e.symm)).set (u0 := .int .i64 ((n : Int) + 1)) (u1 := .int .i64 1)
  have x0 := hRX.c0
  have x1 := hRX.c1
  refine bodyPost_ret (v := .tuple #[.agg #[.int .i64 ((n : Int) + 1), .int .i64 1], .int .i64 0]) (by simp [results, Try.f77, go_sem, x0, x1]) rfl ?_
  have k2 := fun (W : World) => (chg_set (w := W) w.heap.size 0 (.int .i64 ((n : Int) + 1))).trans (chg_set w.heap.size 1 (.int .i64 1))
  have hS := HSN.out _ g cc (k0.own HW.out (fun g2 hg2 e => by injection hg2 with hg2; exact hgM3 (hg2.trans e)))
  refine ⟨rfl, .slice (some ⟨g, 0, none⟩) (n + 1) cc, ((HM3.out.set3 _).chg k1 (fun e => hgM3 e.symm)).chg (k2 _) (fun e => by omega), (k2 _).own hS (fun g2 hg2 e => by injection hg2 with hg2; exact hg0 (hg2.trans e)), ?_, ?_⟩
  · have e1 : Chg (fun k => k = M ∨ some k = (Value.slice S n c).ownBlock) w _ := Chg.of_below HBa.out
    have e2 := e1.trans_new (Chg.of_grown HGR.out) (fun i hi => .inl (.inr hi))
    have e3 := e2.trans_new k0 (fun i hi => .inl (.inl hi))
    have e4 := e3.trans_new k1 (fun i hi => by
      rcases HAT.out with e | e
      · left; right; rw [hi]; exact e.symm
      · right; omega)
    exact e4.trans_new (k2 _) (fun i hi => .inr (by omega))
  · rcases HAT.out with e | e
    · exact .inl e.symm
    · exact .inr ⟨g, rfl, by omega⟩
end Go.Proofs.Ytbgpcmpbfenplaa.KK
