/-
  Trees of losers: Replace.
-/
import Derived.Test.YtebjhjmlpodkgaaLi
namespace Go.Proofs.Ytebjhjmlpodkgaa.KK
open Go.ChangeShapes Go.WideShapes Go.ChangeAt Go.RowKit Go.Proofs

theorem less_L (a b : ByteArray) : Op.bytesLess a.toList b.toList = Kl.lt (Kl.L a) (Kl.L b) := by rw [bytesLess_lt, toList_L, toList_L]
/-- the error of Replace, for a tree that is one -/
def repE (ks : List LK) (k : LK) : Int :=
  if (kAt ks (wnr ks)).2 = true then 12 else if keyE k ≠ 0 then keyE k else if k.2 = false ∧ Kl.lt (Kl.L k.1) (Kl.L (kAt ks (wnr ks)).1) = true then 6 else 0
/-- what is in the boxes of Replace -/
theorem boxes (A B : Option Addr) (n c m d : Nat) (win : Int) (k : ByteArray) (b : Bool) (w : World) : Hid (∀ w', Below ((w.alloc (.cells #[.slice A n c, .slice B m d, .int .i64 win] 28)).alloc (.cells #[.string k, .bool b] 41) |>.alloc (.cells #[.slice none 0 0, .slice none 0 0, .int .i64 0] 28)).heap.size ((w.alloc (.cells #[.slice A n c, .slice B m d, .int .i64 win] 28)).alloc (.cells #[.string k, .bool b] 41) |>.alloc (.cells #[.slice none 0 0, .slice none 0 0, .int .i64 0] 28)) w' →
    Row3 w' w.heap.size 28 (.slice A n c) (.slice B m d) (.int .i64 win) ∧ w'.cell? ⟨w.heap.size + 1, 0, none⟩ = some (.string k) ∧ w'.cell? ⟨w.heap.size + 1, 1, none⟩ = some (.bool b) ∧ Row3 w' (w.heap.size + 1 + 1) 28 (.slice none 0 0) (.slice none 0 0) (.int .i64 0) ∧ Below w.heap.size w w') := Lib.hid fun w' h => by
  simp only [World.size_alloc] at h
  have e1 := (h.block w.heap.size (by omega)).trans ((heap_alloc_old _ _ (by simp; omega)).trans (hp2 w _ _))
  have e2 := (h.block (w.heap.size + 1) (by omega)).trans ((heap_alloc_old _ _ (by simp)).trans (hp3 w (.cells #[.slice A n c, .slice B m d, .int .i64 win] 28) (.cells #[.string k, .bool b] 41) rfl))
  have e3 := (h.block (w.heap.size + 1 + 1) (by omega)).trans (hp1 ((w.alloc (.cells #[.slice A n c, .slice B m d, .int .i64 win] 28)).alloc (.cells #[.string k, .bool b] 41)) (.cells #[.slice none 0 0, .slice none 0 0, .int .i64 0] 28) (by simp))
  exact ⟨e1, (cell_of_row w' (w.heap.size + 1) 0 _ _ _ e2), (cell_of_row w' (w.heap.size + 1) 1 _ _ _ e2), e3, (alloc3_below w _ _ _).trans (h.mono (by omega))⟩
set_option maxRecDepth 100000 in
set_option maxHeartbeats 2000000 in
/-- Replace, when Winner has an error -/
theorem replace_w (A B : Option Addr) (n c m d : Nat) (win : Int) (k : ByteArray) (b : Bool) (w : World) (r : Int) (hr : r ≠ 0)
    (hW : ∀ w', Below w.heap.size w w' → Calls Try.prog 85 #[.agg #[.slice A n c, .slice B m d, .int .i64 win]] w' fun e w'' => e = .returned (.tuple #[.int .i64 0, .string ⟨#[]⟩, .int .i64 r]) ∧ Below w'.heap.size w' w'') :
    Calls Try.prog 100 #[.agg #[.slice A n c, .slice B m d, .int .i64 win], .agg #[.string k, .bool b]] w fun e w' => e = .returned (.tuple #[.agg #[.slice none 0 0, .slice none 0 0, .int .i64 0], .int .i64 0, .int .i64 r]) ∧ Below w.heap.size w w' := by
  have HX := boxes A B n c m d win k b w
  obtain ⟨x0, x1, x2, x3, x4⟩ := HX.out _ (Below.refl _ _)
  have J := Lib.hid (hW _ x4)
  obtain ⟨b1, b2⟩ := ne_b hr
  clear hW hr x1 x2 x3 x4 x0
  go_enter Try.func100, Try.ntmps100
  go_wp2_with fail
  refine J.out.mono ?_
  rintro e w1 ⟨rfl, hb⟩
  obtain ⟨x0, x1, x2, x3, x4⟩ := HX.out _ hb
  have HB1 := Lib.hid x4
  have HR := Lib.hid x3
  have r0 := x3.c0
  have r1 := x3.c1
  have r2 := x3.c2
  have z0 := x3.fz 0
  have z1 := x3.fz 1
  have z2 := x3.fz 2
  clear hb x0 x1 x2 x3 x4
  go_wp2_with fail
  have HX := HR.out.set (.slice none 0 0) (.slice none 0 0) (.int .i64 0)
  have k0 := HX.c0
  have k1 := HX.c1
  have k2 := HX.c2
  refine bodyPost_ret (v := .tuple #[.agg #[.slice none 0 0, .slice none 0 0, .int .i64 0], .int .i64 0, .int .i64 r]) (by simp [results, Try.f100, go_sem, k0, k1, k2]) rfl ?_
  have hc : Chg (fun k => k = w.heap.size + 1 + 1) w1 _ := ((chg_set (w.heap.size + 1 + 1) 0 (.slice none 0 0)).trans (chg_set (w.heap.size + 1 + 1) 1 (.slice none 0 0))).trans (chg_set (w.heap.size + 1 + 1) 2 (.int .i64 0))
  exact ⟨rfl, HB1.out.trans (hc.below (fun k hk => by omega) HB1.out.size)⟩
set_option maxRecDepth 100000 in
set_option maxHeartbeats 2000000 in
/-- Replace, when the key can't be taken -/
theorem replace_no (A B : Option Addr) (c d : Nat) (ks : List LK) (k : ByteArray) (b : Bool) (w : World) (hf : KsAt w A ks) (hg : IsAt w B (loL ks)) (h : keysE ks = 0) (hr : repE ks (k, b) ≠ 0) :
    Calls Try.prog 100 #[.agg #[.slice A ks.length c, .slice B ks.length d, .int .i64 (wnr ks : Nat)], .agg #[.string k, .bool b]] w fun e w' => e = .returned (.tuple #[.agg #[.slice none 0 0, .slice none 0 0, .int .i64 0], .int .i64 0, .int .i64 (repE ks (k, b))]) ∧ Below w.heap.size w w' := by
  by_cases hd : (kAt ks (wnr ks)).2 = true
  · have e : repE ks (k, b) = 12 := if_pos hd
    rw [e]
    refine replace_w A B ks.length c ks.length d (wnr ks) k b w 12 (by decide) (fun w' hb => ?_)
    have K := winner_any A B c d ks w' (hf.below hb (Nat.le_refl _)) (hg.below hb (Nat.le_refl _)) h
    rw [if_pos hd] at K; exact K
  have HX := boxes A B ks.length c ks.length d (wnr ks) k b w
  obtain ⟨x0, x1, x2, x3, x4⟩ := HX.out _ (Below.refl _ _)
  have J := Lib.hid (by
    have K := winner_any A B c d ks _ (hf.below x4 (Nat.le_refl _)) (hg.below x4 (Nat.le_refl _)) h
    rw [if_neg hd] at K; exact K)
  have JK := Lib.hid (fun w => pKey_any k b w)
  by_cases hk : keyE (k, b) = 0
  rotate_left
  · have HR : Hid (repE ks (k, b) = keyE (k, b)) := Lib.hid (by unfold repE; rw [if_neg hd, if_pos hk])
    rw [HR.out]
    obtain ⟨b1, b2⟩ := ne_b hk
    clear hf hg h hr hd hk x0 x1 x2 x3 x4 HR
    generalize keyE (k, b) = r at *
    generalize kAt ks (wnr ks) = q at *
    generalize wnr ks = p at *
    generalize ks.length = n at *
    go_enter Try.func100, Try.ntmps100
    go_wp2_with fail
    refine J.out.mono ?_
    rintro e w1 ⟨rfl, hb⟩
    obtain ⟨x0, x1, x2, x3, x4⟩ := HX.out _ hb
    have HB1 := Lib.hid x4
    have HR := Lib.hid x3
    clear hb x0 x3 x4
    go_wp2_with fail
    refine (JK.out _).mono ?_
    rintro e w2 ⟨rfl, hb⟩
    have HB2 := Lib.hid (eb_of HB1.out hb (Nat.le_refl _))
    have HR2 := Lib.hid (HR.out.below hb (Nat.le_refl _))
    clear hb HR x1 x2
    have r0 := HR2.out.c0
    have r1 := HR2.out.c1
    have r2 := HR2.out.c2
    have z0 := HR2.out.fz 0
    have z1 := HR2.out.fz 1
    have z2 := HR2.out.fz 2
    go_wp2_with fail
    have HX := HR2.out.set (.slice none 0 0) (.slice none 0 0) (.int .i64 0)
    have k0 := HX.c0
    have k1 := HX.c1
    have k2 := HX.c2
    refine bodyPost_ret (v := .tuple #[.agg #[.slice none 0 0, .slice none 0 0, .int .i64 0], .int .i64 0, .int .i64 r]) (by simp [results, Try.f100, go_sem, k0, k1, k2]) rfl ?_
    have hc : Chg (fun k => k = w.heap.size + 1 + 1) w2 _ := ((chg_set (w.heap.size + 1 + 1) 0 (.slice none 0 0)).trans (chg_set (w.heap.size + 1 + 1) 1 (.slice none 0 0))).trans (chg_set (w.heap.size + 1 + 1) 2 (.int .i64 0))
    exact ⟨rfl, HB2.out.trans (hc.below (fun k hk => by omega) HB2.out.size)⟩
  have hl : b = false ∧ Kl.lt (Kl.L k) (Kl.L (kAt ks (wnr ks)).1) = true := by
    unfold repE at hr
    rw [if_neg hd, if_neg (by simp [hk])] at hr
    by_cases g : b = false ∧ Kl.lt (Kl.L k) (Kl.L (kAt ks (wnr ks)).1) = true
    · exact g
    · rw [if_neg g] at hr; exact absurd rfl hr
  have HR : Hid (repE ks (k, b) = 6) := Lib.hid (by unfold repE; rw [if_neg hd, if_neg (by simp [hk]), if_pos hl])
  rw [HR.out]
  rw [hk] at JK
  have hless : Op.bytesLess k.toList (kAt ks (wnr ks)).1.toList = true := by rw [less_L]; exact hl.2
  obtain ⟨rfl, _⟩ := hl
  clear hf hg h hr hd hk x0 x1 x2 x3 x4 HR
  generalize kAt ks (wnr ks) = q at *
  generalize wnr ks = p at *
  generalize ks.length = n at *
  go_enter Try.func100, Try.ntmps100
  go_wp2_with fail
  refine J.out.mono ?_
  rintro e w1 ⟨rfl, hb⟩
  obtain ⟨x0, x1, x2, x3, x4⟩ := HX.out _ hb
  have HB1 := Lib.hid x4
  have HR := Lib.hid x3
  clear hb x0 x3 x4
  go_wp2_with fail
  refine (JK.out _).mono ?_
  rintro e w2 ⟨rfl, hb⟩
  have HB2 := Lib.hid (eb_of HB1.out hb (Nat.le_refl _))
  have HR2 := Lib.hid (HR.out.below hb (Nat.le_refl _))
  have x1 := (hb.cell (p := ⟨w.heap.size + 1, 0, none⟩) (cell_lt x1)).trans x1
  have x2 := (hb.cell (p := ⟨w.heap.size + 1, 1, none⟩) (cell_lt x2)).trans x2
  clear hb HR
  have r0 := HR2.out.c0
  have r1 := HR2.out.c1
  have r2 := HR2.out.c2
  have z0 := HR2.out.fz 0
  have z1 := HR2.out.fz 1
  have z2 := HR2.out.fz 2
  go_wp2_with fail
  have HX := HR2.out.set (.slice none 0 0) (.slice none 0 0) (.int .i64 0)
  have k0 := HX.c0
  have k1 := HX.c1
  have k2 := HX.c2
  refine bodyPost_ret (v := .tuple #[.agg #[.slice none 0 0, .slice none 0 0, .int .i64 0], .int .i64 0, .int .i64 6]) (by simp [results, Try.f100, go_sem, k0, k1, k2]) rfl ?_
  have hc : Chg (fun k => k = w.heap.size + 1 + 1) w2 _ := ((chg_set (w.heap.size + 1 + 1) 0 (.slice none 0 0)).trans (chg_set (w.heap.size + 1 + 1) 1 (.slice none 0 0))).trans (chg_set (w.heap.size + 1 + 1) 2 (.int .i64 0))
  exact ⟨rfl, HB2.out.trans (hc.below (fun k hk => by omega) HB2.out.size)⟩
end Go.Proofs.Ytebjhjmlpodkgaa.KK
