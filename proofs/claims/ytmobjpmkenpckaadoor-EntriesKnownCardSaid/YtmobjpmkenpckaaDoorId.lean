/-
  EntriesKnown: the walk.
-/
import Derived.Test.YtmobjpmkenpckaaDoorIc
namespace Go.Proofs.YtmobjpmkenpckaaDoor.KK
open Go.ChangeShapes Go.WideShapes Go.ChangeAt Go.RowKit Go.Proofs Go.Sort

theorem kn_cmp : El.cmp xa.1 xc.1 = -1 ∧ El.two xa.1 xc.1 = 0 := by decide +kernel
theorem kn_wins : El.wins xa.1 xc.1 = (6, El.none) := by decide +kernel
theorem kn_list : listE [xb.1, xc.1] = (0, 0) ∧ listE [xa.1, xc.1] = (0, 0) ∧ listE [xb.1] = (0, 0) ∧ liveE [xb.1, xc.1] = [xc.1] := by decide +kernel
theorem kn_ov1 : overE [xa.1, xc.1] [xb.1] = (0, [xb.1, xc.1]) := by
  obtain ⟨h1, h2, h3, h4⟩ := kn_list
  have e : ovr [xa.1, xc.1] [xb.1] = [xb.1, xc.1] := by
    rw [ovr, if_neg (by decide +kernel), if_pos (by decide +kernel), ovr_nil_right]
  unfold overE
  rw [h2, h3, if_neg (by simp), if_neg (by simp), e, if_neg (by simp)]
theorem kn_ov2 : overE [xb.1] [xa.1, xc.1] = (0, [xa.1, xc.1]) := by
  obtain ⟨h1, h2, h3, h4⟩ := kn_list
  have e : ovr [xb.1] [xa.1, xc.1] = [xa.1, xc.1] := by
    rw [ovr, if_neg (by decide +kernel), if_pos (by decide +kernel), ovr_nil_left]
  unfold overE
  rw [h2, h3, if_neg (by simp), if_neg (by simp), e, if_neg (by simp)]
theorem kn_compare (w : World) : Calls Tryd.prog 16 #[.agg #[.string ⟨#[97]⟩, .string ⟨#[49]⟩, .bool false, .int .i64 5], .agg #[.string ⟨#[98]⟩, .string ⟨#[50]⟩, .bool false, .int .i64 6]] w fun e w' => e = .returned (.tuple #[.int .i64 (-1), .int .i64 0]) ∧ Below w.heap.size w w' := by
  have K := eCompare_any ⟨#[97]⟩ ⟨#[49]⟩ false 5 ⟨#[98]⟩ ⟨#[50]⟩ false 6 w (by decide) (by decide) (by decide) (by decide)
  rw [show El.cmp (⟨#[97]⟩, ⟨#[49]⟩, false, 5) (⟨#[98]⟩, ⟨#[50]⟩, false, 6) = -1 from kn_cmp.1, show El.two (⟨#[97]⟩, ⟨#[49]⟩, false, 5) (⟨#[98]⟩, ⟨#[50]⟩, false, 6) = 0 from kn_cmp.2] at K
  exact K
theorem kn_winsC (w : World) : Calls Tryd.prog 19 #[.agg #[.string ⟨#[97]⟩, .string ⟨#[49]⟩, .bool false, .int .i64 5], .agg #[.string ⟨#[98]⟩, .string ⟨#[50]⟩, .bool false, .int .i64 6]] w fun e w' => e = .returned (.tuple #[.agg #[.string ⟨#[]⟩, .string ⟨#[]⟩, .bool false, .int .i64 0], .int .i64 6]) ∧ Below w.heap.size w w' := by
  have K := eWins_any ⟨#[97]⟩ ⟨#[49]⟩ false 5 ⟨#[98]⟩ ⟨#[50]⟩ false 6 w (by decide) (by decide) (by decide) (by decide)
  rw [show El.wins (⟨#[97]⟩, ⟨#[49]⟩, false, 5) (⟨#[98]⟩, ⟨#[50]⟩, false, 6) = (6, El.none) from kn_wins] at K
  exact K
theorem sized_k {l : List V} : Sized (l.map (·.1)) := fun x hx => by
  obtain ⟨y, _, rfl⟩ := List.mem_map.1 hx
  have := El.chk_of y.2
  omega
theorem kn_live (w : World) : Calls Tryd.prog 20 #[.slice (some ⟨w.heap.size, 0, none⟩) 2 2] (w.alloc (.cells #[.string ⟨#[97]⟩, .string ⟨#[]⟩, .bool true, .int .i64 7, .string ⟨#[98]⟩, .string ⟨#[50]⟩, .bool false, .int .i64 6] 33)) fun e w' => ∃ A' c', e = .returned (.tuple #[.slice A' 1 c', .int .i64 0]) ∧ EsAt w' A' [xc.1] ∧ Below w.heap.size w w' := by
  have hb0 : Below w.heap.size w (w.alloc (.cells #[.string ⟨#[97]⟩, .string ⟨#[]⟩, .bool true, .int .i64 7, .string ⟨#[98]⟩, .string ⟨#[50]⟩, .bool false, .int .i64 6] 33)) := (Below.refl _ _).alloc (Nat.le_refl _) _
  have K := eLive_any (some ⟨w.heap.size, 0, none⟩) 2 [xb.1, xc.1] (w.alloc (.cells #[.string ⟨#[97]⟩, .string ⟨#[]⟩, .bool true, .int .i64 7, .string ⟨#[98]⟩, .string ⟨#[50]⟩, .bool false, .int .i64 6] 33)) (esAt_new w [xb.1, xc.1] 33 : EsAt (w.alloc (.cells #[.string ⟨#[97]⟩, .string ⟨#[]⟩, .bool true, .int .i64 7, .string ⟨#[98]⟩, .string ⟨#[50]⟩, .bool false, .int .i64 6] 33)) (some ⟨w.heap.size, 0, none⟩) [xb.1, xc.1]) (by decide) (sized_k (l := [xb, xc]))
  rw [kn_list.2.2.2, kn_list.1] at K
  refine K.mono ?_
  rintro e w' ⟨A', c', rfl, he, hb⟩
  exact ⟨A', c', rfl, he, hb0.trans (hb.mono (by simp))⟩
theorem kn_over1 (w wx : World) (A0 : Option Addr) (hx : Below wx.heap.size wx w) (A1 : Option Addr) (B1 : Option Addr) (h1 : EsAt w A1 [xa.1, xc.1]) (h2 : EsAt w B1 [xb.1]) : Calls Tryd.prog 13 #[.slice A1 2 2, .slice B1 1 1] w fun e w' => ∃ A' c', e = .returned (.tuple #[.slice A' 2 c', .int .i64 0]) ∧ EsAt w' A' [xb.1, xc.1] ∧ Below wx.heap.size wx w' := by
  have K := over_any A1 2 [xa.1, xc.1] B1 1 [xb.1] w h1 h2 (by decide) (by decide) (sized_k (l := [xa, xc])) (sized_k (l := [xb])) (by decide)
  refine K.mono ?_
  rintro e w' ⟨A', c', he, hf, hc, hb⟩
  rw [kn_ov1] at he hf
  exact ⟨A', c', he, hf, hx.trans (hb.mono hx.size)⟩
theorem kn_over2 (w wx : World) (A0 : Option Addr) (hx : Below wx.heap.size wx w) (A1 : Option Addr) (B1 : Option Addr) (h1 : EsAt w A1 [xb.1]) (h2 : EsAt w B1 [xa.1, xc.1]) : Calls Tryd.prog 13 #[.slice A1 1 1, .slice B1 2 2] w fun e w' => ∃ A' c', e = .returned (.tuple #[.slice A' 2 c', .int .i64 0]) ∧ EsAt w' A' [xa.1, xc.1] ∧ Below wx.heap.size wx w' := by
  have K := over_any A1 1 [xb.1] B1 2 [xa.1, xc.1] w h1 h2 (by decide) (by decide) (sized_k (l := [xb])) (sized_k (l := [xa, xc])) (by decide)
  refine K.mono ?_
  rintro e w' ⟨A', c', he, hf, hc, hb⟩
  rw [kn_ov2] at he hf
  exact ⟨A', c', he, hf, hx.trans (hb.mono hx.size)⟩
theorem kn_same_c (A' : Option Addr) (c' : Nat) (w : World) (hf : EsAt w A' [xc.1]) : Calls Tryd.prog 10 #[.slice A' 1 c', .slice (some ⟨w.heap.size, 0, none⟩) 1 1] (w.alloc (.cells #[.string ⟨#[98]⟩, .string ⟨#[50]⟩, .bool false, .int .i64 6] 33)) fun e w' => e = .returned (.bool true) ∧ Below w.heap.size w w' := by
  have hb0 : Below w.heap.size w (w.alloc (.cells #[.string ⟨#[98]⟩, .string ⟨#[50]⟩, .bool false, .int .i64 6] 33)) := (Below.refl _ _).alloc (Nat.le_refl _) _
  have K := Same_any A' _ c' 1 [xc.1] [xc.1] _ (hf.below hb0 (Nat.le_refl _)) (esAt_new w [xc.1] 33 : EsAt (w.alloc (.cells #[.string ⟨#[98]⟩, .string ⟨#[50]⟩, .bool false, .int .i64 6] 33)) (some ⟨w.heap.size, 0, none⟩) [xc.1]) (by decide) (by decide)
  refine K.mono ?_
  rintro e w' ⟨rfl, hb⟩
  exact ⟨by simp, hb0.trans (hb.mono (by simp))⟩
theorem kn_same_bc (A' : Option Addr) (c' : Nat) (w : World) (hf : EsAt w A' [xb.1, xc.1]) : Calls Tryd.prog 10 #[.slice A' 2 c', .slice (some ⟨w.heap.size, 0, none⟩) 2 2] (w.alloc (.cells #[.string ⟨#[97]⟩, .string ⟨#[]⟩, .bool true, .int .i64 7, .string ⟨#[98]⟩, .string ⟨#[50]⟩, .bool false, .int .i64 6] 33)) fun e w' => e = .returned (.bool true) ∧ Below w.heap.size w w' := by
  have hb0 : Below w.heap.size w (w.alloc (.cells #[.string ⟨#[97]⟩, .string ⟨#[]⟩, .bool true, .int .i64 7, .string ⟨#[98]⟩, .string ⟨#[50]⟩, .bool false, .int .i64 6] 33)) := (Below.refl _ _).alloc (Nat.le_refl _) _
  have K := Same_any A' _ c' 2 [xb.1, xc.1] [xb.1, xc.1] _ (hf.below hb0 (Nat.le_refl _)) (esAt_new w [xb.1, xc.1] 33 : EsAt (w.alloc (.cells #[.string ⟨#[97]⟩, .string ⟨#[]⟩, .bool true, .int .i64 7, .string ⟨#[98]⟩, .string ⟨#[50]⟩, .bool false, .int .i64 6] 33)) (some ⟨w.heap.size, 0, none⟩) [xb.1, xc.1]) (by decide) (by decide)
  refine K.mono ?_
  rintro e w' ⟨rfl, hb⟩
  exact ⟨by simp, hb0.trans (hb.mono (by simp))⟩
theorem kn_same_ac (A' : Option Addr) (c' : Nat) (w : World) (hf : EsAt w A' [xa.1, xc.1]) : Calls Tryd.prog 10 #[.slice A' 2 c', .slice (some ⟨w.heap.size, 0, none⟩) 2 2] (w.alloc (.cells #[.string ⟨#[97]⟩, .string ⟨#[49]⟩, .bool false, .int .i64 5, .string ⟨#[98]⟩, .string ⟨#[50]⟩, .bool false, .int .i64 6] 33)) fun e w' => e = .returned (.bool true) ∧ Below w.heap.size w w' := by
  have hb0 : Below w.heap.size w (w.alloc (.cells #[.string ⟨#[97]⟩, .string ⟨#[49]⟩, .bool false, .int .i64 5, .string ⟨#[98]⟩, .string ⟨#[50]⟩, .bool false, .int .i64 6] 33)) := (Below.refl _ _).alloc (Nat.le_refl _) _
  have K := Same_any A' _ c' 2 [xa.1, xc.1] [xa.1, xc.1] _ (hf.below hb0 (Nat.le_refl _)) (esAt_new w [xa.1, xc.1] 33 : EsAt (w.alloc (.cells #[.string ⟨#[97]⟩, .string ⟨#[49]⟩, .bool false, .int .i64 5, .string ⟨#[98]⟩, .string ⟨#[50]⟩, .bool false, .int .i64 6] 33)) (some ⟨w.heap.size, 0, none⟩) [xa.1, xc.1]) (by decide) (by decide)
  refine K.mono ?_
  rintro e w' ⟨rfl, hb⟩
  exact ⟨by simp, hb0.trans (hb.mono (by simp))⟩
set_option maxRecDepth 100000 in
set_option maxHeartbeats 4000000 in
theorem EntriesKnown_any (w : World) (he : EnvE w) : Calls Tryd.prog 5 #[] w fun e w' => e = .returned (.bool true) ∧ Below w.heap.size w w' := by
  have HE := Lib.hid he
  have HB := Lib.hid (Below.refl w.heap.size w)
  clear he
  go_enter Tryd.func5, Tryd.ntmps5
  go_wp2_with fail
  refine (aw_a _).mono ?_
  rintro e w1 ⟨rfl, hb⟩
  have HB := Lib.hid (eb_of HB.out hb (by first | exact Nat.le_refl _ | exact HB.out.size))
  clear hb
  go_wp2_with fail
  refine (aw_c _).mono ?_
  rintro e w2 ⟨rfl, hb⟩
  have HB := Lib.hid (eb_of HB.out hb (by first | exact Nat.le_refl _ | exact HB.out.size))
  clear hb
  go_wp2_with fail
  refine (kn_compare _).mono ?_
  rintro e w3 ⟨rfl, hb⟩
  have HB := Lib.hid (eb_of HB.out hb (by first | exact Nat.le_refl _ | exact HB.out.size))
  clear hb
  go_wp2_with fail
  refine (aw_a _).mono ?_
  rintro e w4 ⟨rfl, hb⟩
  have HB := Lib.hid (eb_of HB.out hb (by first | exact Nat.le_refl _ | exact HB.out.size))
  clear hb
  go_wp2_with fail
  refine (aw_c _).mono ?_
  rintro e w5 ⟨rfl, hb⟩
  have HB := Lib.hid (eb_of HB.out hb (by first | exact Nat.le_refl _ | exact HB.out.size))
  clear hb
  go_wp2_with fail
  refine (kn_winsC _).mono ?_
  rintro e w6 ⟨rfl, hb⟩
  have HB := Lib.hid (eb_of HB.out hb (by first | exact Nat.le_refl _ | exact HB.out.size))
  clear hb
  have HA : Hid (Below w6.heap.size w6 (w6.alloc (.cells #[.string ⟨#[]⟩, .string ⟨#[]⟩, .bool false, .int .i64 0] 33))) := Lib.hid ((Below.refl _ _).alloc (Nat.le_refl _) _)
  have HB := Lib.hid (eb_of HB.out HA.out (Nat.le_refl _))
  go_wp2_with fail
  refine (aw_b _).mono ?_
  rintro e w7 ⟨rfl, hb⟩
  have HB := Lib.hid (eb_of HB.out hb (by first | exact Nat.le_refl _ | exact HB.out.size))
  clear hb
  go_wp2_with fail
  refine (aw_c _).mono ?_
  rintro e w8 ⟨rfl, hb⟩
  have HB := Lib.hid (eb_of HB.out hb (by first | exact Nat.le_refl _ | exact HB.out.size))
  clear hb
  go_wp2_with fail
  refine (kn_live _).mono ?_
  rintro e w9 ⟨A1, d1, rfl, hl, hb⟩
  have HB := Lib.hid (eb_of HB.out hb (by first | exact Nat.le_refl _ | exact HB.out.size))
  have HL := Lib.hid hl
  clear hl
  clear hb
  go_wp2_with fail
  refine (aw_a _).mono ?_
  rintro e w10 ⟨rfl, hb⟩
  have HB := Lib.hid (eb_of HB.out hb (by first | exact Nat.le_refl _ | exact HB.out.size))
  have HL := Lib.hid (HL.out.below hb (Nat.le_refl _))
  clear hb
  go_wp2_with fail
  refine (aw_c _).mono ?_
  rintro e w11 ⟨rfl, hb⟩
  have HB := Lib.hid (eb_of HB.out hb (by first | exact Nat.le_refl _ | exact HB.out.size))
  have HL := Lib.hid (HL.out.below hb (Nat.le_refl _))
  clear hb
  have HA : Hid (Below w11.heap.size w11 (w11.alloc (.cells #[.string ⟨#[97]⟩, .string ⟨#[49]⟩, .bool false, .int .i64 5, .string ⟨#[98]⟩, .string ⟨#[50]⟩, .bool false, .int .i64 6] 33))) := Lib.hid ((Below.refl _ _).alloc (Nat.le_refl _) _)
  have HB := Lib.hid (eb_of HB.out HA.out (Nat.le_refl _))
  have HL := Lib.hid (HL.out.below HA.out (Nat.le_refl _))
  have H1 := Lib.hid (esAt_new w11 [xa.1, xc.1] 33 : EsAt (w11.alloc (.cells #[.string ⟨#[97]⟩, .string ⟨#[49]⟩, .bool false, .int .i64 5, .string ⟨#[98]⟩, .string ⟨#[50]⟩, .bool false, .int .i64 6] 33)) (some ⟨w11.heap.size, 0, none⟩) [xa.1, xc.1])
  go_wp2_with fail
  refine (aw_b _).mono ?_
  rintro e w12 ⟨rfl, hb⟩
  have HB := Lib.hid (eb_of HB.out hb (by first | exact Nat.le_refl _ | exact HB.out.size))
  have HL := Lib.hid (HL.out.below hb (Nat.le_refl _))
  have H1 := Lib.hid (H1.out.below hb (Nat.le_refl _))
  clear hb
  have HA : Hid (Below w12.heap.size w12 (w12.alloc (.cells #[.string ⟨#[97]⟩, .string ⟨#[]⟩, .bool true, .int .i64 7] 33))) := Lib.hid ((Below.refl _ _).alloc (Nat.le_refl _) _)
  have HB := Lib.hid (eb_of HB.out HA.out (Nat.le_refl _))
  have HL := Lib.hid (HL.out.below HA.out (Nat.le_refl _))
  have H1 := Lib.hid (H1.out.below HA.out (Nat.le_refl _))
  have H2 := Lib.hid (esAt_new w12 [xb.1] 33 : EsAt (w12.alloc (.cells #[.string ⟨#[97]⟩, .string ⟨#[]⟩, .bool true, .int .i64 7] 33)) (some ⟨w12.heap.size, 0, none⟩) [xb.1])
  go_wp2_with fail
  refine (kn_over1 _ _ none (Below.refl _ _) _ _ H1.out H2.out).mono ?_
  rintro e w13 ⟨A2, d2, rfl, hp, hb⟩
  have HB := Lib.hid (eb_of HB.out hb (by first | exact Nat.le_refl _ | exact HB.out.size))
  have HL := Lib.hid (HL.out.below hb (Nat.le_refl _))
  have HP := Lib.hid hp
  clear hp H1 H2
  clear hb
  go_wp2_with fail
  refine (aw_b _).mono ?_
  rintro e w14 ⟨rfl, hb⟩
  have HB := Lib.hid (eb_of HB.out hb (by first | exact Nat.le_refl _ | exact HB.out.size))
  have HL := Lib.hid (HL.out.below hb (Nat.le_refl _))
  have HP := Lib.hid (HP.out.below hb (Nat.le_refl _))
  clear hb
  have HA : Hid (Below w14.heap.size w14 (w14.alloc (.cells #[.string ⟨#[97]⟩, .string ⟨#[]⟩, .bool true, .int .i64 7] 33))) := Lib.hid ((Below.refl _ _).alloc (Nat.le_refl _) _)
  have HB := Lib.hid (eb_of HB.out HA.out (Nat.le_refl _))
  have HL := Lib.hid (HL.out.below HA.out (Nat.le_refl _))
  have HP := Lib.hid (HP.out.below HA.out (Nat.le_refl _))
  have H1 := Lib.hid (esAt_new w14 [xb.1] 33 : EsAt (w14.alloc (.cells #[.string ⟨#[97]⟩, .string ⟨#[]⟩, .bool true, .int .i64 7] 33)) (some ⟨w14.heap.size, 0, none⟩) [xb.1])
  go_wp2_with fail
  refine (aw_a _).mono ?_
  rintro e w15 ⟨rfl, hb⟩
  have HB := Lib.hid (eb_of HB.out hb (by first | exact Nat.le_refl _ | exact HB.out.size))
  have HL := Lib.hid (HL.out.below hb (Nat.le_refl _))
  have HP := Lib.hid (HP.out.below hb (Nat.le_refl _))
  have H1 := Lib.hid (H1.out.below hb (Nat.le_refl _))
  clear hb
  go_wp2_with fail
  refine (aw_c _).mono ?_
  rintro e w16 ⟨rfl, hb⟩
  have HB := Lib.hid (eb_of HB.out hb (by first | exact Nat.le_refl _ | exact HB.out.size))
  have HL := Lib.hid (HL.out.below hb (Nat.le_refl _))
  have HP := Lib.hid (HP.out.below hb (Nat.le_refl _))
  have H1 := Lib.hid (H1.out.below hb (Nat.le_refl _))
  clear hb
  have HA : Hid (Below w16.heap.size w16 (w16.alloc (.cells #[.string ⟨#[97]⟩, .string ⟨#[49]⟩, .bool false, .int .i64 5, .string ⟨#[98]⟩, .string ⟨#[50]⟩, .bool false, .int .i64 6] 33))) := Lib.hid ((Below.refl _ _).alloc (Nat.le_refl _) _)
  have HB := Lib.hid (eb_of HB.out HA.out (Nat.le_refl _))
  have HL := Lib.hid (HL.out.below HA.out (Nat.le_refl _))
  have HP := Lib.hid (HP.out.below HA.out (Nat.le_refl _))
  have H1 := Lib.hid (H1.out.below HA.out (Nat.le_refl _))
  have H2 := Lib.hid (esAt_new w16 [xa.1, xc.1] 33 : EsAt (w16.alloc (.cells #[.string ⟨#[97]⟩, .string ⟨#[49]⟩, .bool false, .int .i64 5, .string ⟨#[98]⟩, .string ⟨#[50]⟩, .bool false, .int .i64 6] 33)) (some ⟨w16.heap.size, 0, none⟩) [xa.1, xc.1])
  go_wp2_with fail
  refine (kn_over2 _ _ none (Below.refl _ _) _ _ H1.out H2.out).mono ?_
  rintro e w17 ⟨A3, d3, rfl, hq, hb⟩
  have HB := Lib.hid (eb_of HB.out hb (by first | exact Nat.le_refl _ | exact HB.out.size))
  have HL := Lib.hid (HL.out.below hb (Nat.le_refl _))
  have HP := Lib.hid (HP.out.below hb (Nat.le_refl _))
  have HQ := Lib.hid hq
  clear hq H1 H2
  clear hb
  go_wp2_with fail
  refine (aw_c _).mono ?_
  rintro e w18 ⟨rfl, hb⟩
  have HB := Lib.hid (eb_of HB.out hb (by first | exact Nat.le_refl _ | exact HB.out.size))
  have HL := Lib.hid (HL.out.below hb (Nat.le_refl _))
  have HP := Lib.hid (HP.out.below hb (Nat.le_refl _))
  have HQ := Lib.hid (HQ.out.below hb (Nat.le_refl _))
  clear hb
  go_wp2_with fail
  refine (kn_same_c A1 d1 _ HL.out).mono ?_
  rintro e w19 ⟨rfl, hb⟩
  have HB := Lib.hid (eb_of HB.out hb (by first | exact Nat.le_refl _ | exact HB.out.size))
  have HL := Lib.hid (HL.out.below hb (Nat.le_refl _))
  have HP := Lib.hid (HP.out.below hb (Nat.le_refl _))
  have HQ := Lib.hid (HQ.out.below hb (Nat.le_refl _))
  clear hb
  go_wp2_with fail
  refine (aw_b _).mono ?_
  rintro e w20 ⟨rfl, hb⟩
  have HB := Lib.hid (eb_of HB.out hb (by first | exact Nat.le_refl _ | exact HB.out.size))
  have HL := Lib.hid (HL.out.below hb (Nat.le_refl _))
  have HP := Lib.hid (HP.out.below hb (Nat.le_refl _))
  have HQ := Lib.hid (HQ.out.below hb (Nat.le_refl _))
  clear hb
  go_wp2_with fail
  refine (aw_c _).mono ?_
  rintro e w21 ⟨rfl, hb⟩
  have HB := Lib.hid (eb_of HB.out hb (by first | exact Nat.le_refl _ | exact HB.out.size))
  have HL := Lib.hid (HL.out.below hb (Nat.le_refl _))
  have HP := Lib.hid (HP.out.below hb (Nat.le_refl _))
  have HQ := Lib.hid (HQ.out.below hb (Nat.le_refl _))
  clear hb
  go_wp2_with fail
  refine (kn_same_bc A2 d2 _ HP.out).mono ?_
  rintro e w22 ⟨rfl, hb⟩
  have HB := Lib.hid (eb_of HB.out hb (by first | exact Nat.le_refl _ | exact HB.out.size))
  have HL := Lib.hid (HL.out.below hb (Nat.le_refl _))
  have HP := Lib.hid (HP.out.below hb (Nat.le_refl _))
  have HQ := Lib.hid (HQ.out.below hb (Nat.le_refl _))
  clear hb
  go_wp2_with fail
  refine (aw_a _).mono ?_
  rintro e w23 ⟨rfl, hb⟩
  have HB := Lib.hid (eb_of HB.out hb (by first | exact Nat.le_refl _ | exact HB.out.size))
  have HL := Lib.hid (HL.out.below hb (Nat.le_refl _))
  have HP := Lib.hid (HP.out.below hb (Nat.le_refl _))
  have HQ := Lib.hid (HQ.out.below hb (Nat.le_refl _))
  clear hb
  go_wp2_with fail
  refine (aw_c _).mono ?_
  rintro e w24 ⟨rfl, hb⟩
  have HB := Lib.hid (eb_of HB.out hb (by first | exact Nat.le_refl _ | exact HB.out.size))
  have HL := Lib.hid (HL.out.below hb (Nat.le_refl _))
  have HP := Lib.hid (HP.out.below hb (Nat.le_refl _))
  have HQ := Lib.hid (HQ.out.below hb (Nat.le_refl _))
  clear hb
  go_wp2_with fail
  refine (kn_same_ac A3 d3 _ HQ.out).mono ?_
  rintro e w25 ⟨rfl, hb⟩
  have HB := Lib.hid (eb_of HB.out hb (by first | exact Nat.le_refl _ | exact HB.out.size))
  have HL := Lib.hid (HL.out.below hb (Nat.le_refl _))
  have HP := Lib.hid (HP.out.below hb (Nat.le_refl _))
  have HQ := Lib.hid (HQ.out.below hb (Nat.le_refl _))
  clear hb
  go_wp2_with fail
  refine (awake_any _ (HE.out.below HB.out)).mono ?_
  rintro e w26 ⟨rfl, hb⟩
  have HB := Lib.hid (eb_of HB.out hb (by first | exact Nat.le_refl _ | exact HB.out.size))
  have HL := Lib.hid (HL.out.below hb (Nat.le_refl _))
  have HP := Lib.hid (HP.out.below hb (Nat.le_refl _))
  have HQ := Lib.hid (HQ.out.below hb (Nat.le_refl _))
  clear hb
  go_wp2_with fail
  go_ret
  exact ⟨rfl, HB.out⟩
end Go.Proofs.YtmobjpmkenpckaaDoor.KK
