/-
  Contracts of Pin, of Unpin that lets go.
-/
import Derived.Test.YtbgpcmpbfenplaaUb
namespace Go.Proofs.Ytbgpcmpbfenplaa.KK
open Go.ChangeShapes Go.WideShapes Go.ChangeAt Go.RowKit Go.Proofs

theorem GiveOut.below {base M : Nat} {h q p : Value} {w w1 w' : World} {ss' : List Sl} (k : GiveOut base M h q p w w1 ss') (hb : Below w1.heap.size w1 w') : GiveOut base M h q p w w' ss' := by
  obtain ⟨p', k1, k2, k3, k4⟩ := k
  exact ⟨p', k1.below hb, (Chg.of_below (S := fun _ => False) hb).own k2 (fun _ _ g => g), k3.trans (Chg.of_below hb), k4⟩
/-- what lies above the world it speaks of may be written -/
theorem GiveOut.set {base M : Nat} {h q p : Value} {w w' : World} {ss' : List Sl} (k : GiveOut base M h q p w w' ss') (b : Nat) (hb : w.heap.size ≤ b) (hM : b ≠ M) (hp : ∀ p', Sown w' base p' ss' → some b ≠ p'.ownBlock) (u0 u1 : Value) :
    GiveOut base M h q p w ((w'.setCell ⟨b, 0, none⟩ u0).setCell ⟨b, 1, none⟩ u1) ss' := by
  obtain ⟨p', k1, k2, k3, k4⟩ := k
  have c : Chg (fun k => k = b) w' ((w'.setCell ⟨b, 0, none⟩ u0).setCell ⟨b, 1, none⟩ u1) := (chg_set b 0 u0).trans (chg_set b 1 u1)
  refine ⟨p', k1.chg c (fun e => hM e.symm), c.own k2 (fun g hg e => hp p' k2 (by rw [hg, e])), k3.trans_new c (fun i hi => .inr (by rw [hi]; exact hb)), k4⟩
set_option maxRecDepth 100000 in
set_option maxHeartbeats 1000000 in
theorem pin_of (base M : Nat) (p q : Value) (a : Option Addr) (m d : Nat) (ss ss' : List Sl) (i g : Int) (w : World) (hm : Md w M (.slice a m d) p q) (ho : Sown w base p ss)
    (hgive : ∀ w', Below w.heap.size w w' → Calls Try.prog 77 #[.pointer (some ⟨M, 2, none⟩), .slice a m d] w' fun e w'' => e = .returned (.tuple #[.agg #[.int .i64 i, .int .i64 g], .int .i64 0]) ∧ GiveOut base M (.slice a m d) q p w' w'' ss') :
    Calls Try.prog 43 #[.pointer (some ⟨M, 0, none⟩)] w fun e w' => e = .returned (.tuple #[.agg #[.int .i64 i, .int .i64 g], .int .i64 0]) ∧ GiveOut base M (.slice a m d) q p w w' ss' := by
  have hb0 := alloc_below w (.cells #[.int .i64 0, .int .i64 0] 52)
  have HR := Row2.new w 52 (.int .i64 0) (.int .i64 0)
  have J1 := Lib.hid (fun (w1 : World) (hb : Below w.heap.size w w1) => made_yes M w1 ((hb.cell (p := ⟨M, 0, none⟩) hm.lt).trans (hm.c 0)))
  have J2 := Lib.hid hgive
  have HM := Lib.hid (fun (w' : World) (hb : Below w.heap.size w w') => hm.below hb)
  have HLT := Lib.hid (World.ownsRow.lt ho)
  have hMl := hm.lt
  clear hgive hm ho
  go_enter Try.func43, Try.ntmps43
  go_wp2_with fail
  refine (J1.out _ hb0).mono ?_
  rintro e w1 ⟨rfl, hb⟩
  have HB := Lib.hid (eb_of hb0 hb (Nat.le_refl _))
  have HR1 := Lib.hid (HR.below hb (Nat.le_refl _))
  have m1 := (HM.out _ HB.out).c 1
  simp only [List.getElem?_toArray, List.getElem?_cons_succ, List.getElem?_cons_zero] at m1
  have HD := Lib.hid (show Below w.heap.size w w1.drew from HB.out.trans ((below_drewN' 1).mono HB.out.size))
  have HRD := Lib.hid (show Row2 w1.drew w.heap.size 52 (.int .i64 0) (.int .i64 0) from HR1.out.below (below_drewN' 1) (Nat.le_refl _))
  have hne : w.heap.size ≠ M := by omega
  clear hb hb0 HR J1 HB HR1
  go_wp2_with fail
  go_region_with (go_at_call 77; refine (J2.out _ HD.out).mono ?_; rintro e w2 ⟨rfl, hout⟩; have HO := Lib.hid (hout.after HD.out); have hR2 : Row2 w2 w.heap.size 52 (.int .i64 0) (.int .i64 0) := (by obtain ⟨_, _, _, k3, _⟩ := hout; exact HRD.out.chg k3 (fun e => by rcases e with e | e; exact hne e; have := (HLT.out _ e.symm).2; omega)); have HR2 := Lib.hid hR2; have r0 := hR2.c0; have r1 := hR2.c1; have y0 := hR2.fz 0; have y1 := hR2.fz 1; clear hout hR2)
  all_goals go_wp2_with fail
  all_goals
    have hX := HR2.out.set (u0 := .int .i64 i) (u1 := .int .i64 g)
    have k0 := hX.c0
    have k1 := hX.c1
    refine bodyPost_ret (v := .tuple #[.agg #[.int .i64 i, .int .i64 g], .int .i64 0]) (by simp [results, Try.f43, go_sem, k0, k1]) rfl ?_
    exact ⟨rfl, HO.out.set _ (Nat.le_refl _) hne (fun p' hs => own_row_ne HR2.out (by decide) hs) _ _⟩
/-- a slot's pin is let go -/
theorem drop_give (base M : Nat) (h q p : Value) (ss : List Sl) (x g : Int) (w : World) (hm : Md w M h p q) (ho : Sown w base p ss) (hn : ss.length ≤ 100) (hv : ∀ s ∈ ss, ∃ a m d, s.2.2 = .slice a m d) (hx : x ≤ 9223372036854775807) (he : handE ss x g = 0) :
    Calls Try.prog 78 #[.pointer (some ⟨M, 2, none⟩), .agg #[.int .i64 x, .int .i64 g]] w fun e w' => e = .returned (.int .i64 0) ∧ GiveOut base M h q p w w' (ss.set (x - 1).toNat (g, false, .slice none 0 0)) := by
  obtain ⟨k, rfl, hk⟩ := handE_ok he
  have hne : ss ≠ [] := by rintro rfl; simp at hk
  obtain ⟨S, c, hp, hsl⟩ := ho.form
  subst hp
  have hr := ho.2
  rcases hr with ⟨hr, _⟩ | ⟨b, cap, cur, hr, hbb, hg, h5, h6, h7, h8⟩
  · exact absurd (by have := ho.block hne; obtain ⟨g, c, e, _⟩ := this; rw [hr] at e; cases e) id
  · injection hr with h1 _ h3; subst h1 h3
    have m3 := hm.c 3
    simp only [List.getElem?_toArray, List.getElem?_cons_succ, List.getElem?_cons_zero] at m3
    have hbM := ho.notM hm b rfl
    refine (drop_any M 2 b _ cur ss _ g w m3 hg hsl (by omega) hbM hn hv hx he).mono ?_
    rintro e w' ⟨rfl, hg', hgr⟩
    have hc := Chg.of_grown hgr
    refine ⟨rfl, _, hm.chg hc (fun e => by injection e with e; exact hbM e.symm), ?_, hc.mono (fun i hi => .inr hi), .inl rfl⟩
    have e1 : ((k : Int) + 1 - 1).toNat = k := by omega
    rw [e1] at hg' ⊢
    unfold Sown
    rw [List.length_set]
    refine ⟨by rw [cellsS_len, List.length_set], .inr ⟨b, c, _, rfl, hbb, hg', h5, h6, by simpa using h7, ?_⟩⟩
    rw [cellsS_set]
    simp only [Array.toList_setIfInBounds, ← h8, List.take_set]
set_option maxRecDepth 100000 in
set_option maxHeartbeats 1000000 in
theorem unpin_of (base M : Nat) (h q p : Value) (ss : List Sl) (x g : Int) (w : World) (hm : Md w M h p q) (ho : Sown w base p ss) (hn : ss.length ≤ 100) (hv : ∀ s ∈ ss, ∃ a m d, s.2.2 = .slice a m d) (hx : x ≤ 9223372036854775807) (he : handE ss x g = 0) :
    Calls Try.prog 44 #[.pointer (some ⟨M, 0, none⟩), .agg #[.int .i64 x, .int .i64 g]] w fun e w' => e = .returned (.int .i64 0) ∧ GiveOut base M h q p w w' (ss.set (x - 1).toNat (g, false, .slice none 0 0)) := by
  have hb0 := alloc_below w (.cells #[.int .i64 x, .int .i64 g] 52)
  have HR := Row2.new w 52 (.int .i64 x) (.int .i64 g)
  have J1 := Lib.hid (fun (w1 : World) (hb : Below w.heap.size w w1) => made_yes M w1 ((hb.cell (p := ⟨M, 0, none⟩) hm.lt).trans (hm.c 0)))
  have J2 := Lib.hid (fun (w' : World) (hb : Below w.heap.size w w') => (drop_give base M h q p ss x g w' (hm.below hb) ((Chg.of_below (S := fun _ => False) hb).own ho (fun _ _ g => g)) hn hv hx he).mono (fun e w'' k => And.intro k.1 (k.2.after hb)))
  have hMl := hm.lt
  clear hm ho hv he hn
  generalize ss.set (x - 1).toNat (g, false, .slice none 0 0) = ss' at *
  go_enter Try.func44, Try.ntmps44
  go_wp2_with fail
  refine (J1.out _ hb0).mono ?_
  rintro e w1 ⟨rfl, hb⟩
  have HD := Lib.hid (show Below w.heap.size w w1.drew from (eb_of hb0 hb (Nat.le_refl _)).trans ((below_drewN' 1).mono (Nat.le_trans hb0.size hb.size)))
  have HR1 := HR.below hb (Nat.le_refl _)
  have r0 := HR1.c0
  have r1 := HR1.c1
  clear hb hb0 HR J1 HR1
  go_wp2_with fail
  go_region_with (go_at_call 78; refine (J2.out _ HD.out).mono ?_; rintro e w2 ⟨rfl, hout⟩; have HO := Lib.hid hout; clear hout)
  all_goals go_wp2_with fail
  all_goals go_ret
  all_goals exact ⟨rfl, HO.out⟩
end Go.Proofs.Ytbgpcmpbfenplaa.KK
