/-
  The walk of BuilderKnown.
-/
import Derived.Test.YtkphadkmmjcmnaaBi
namespace Go.Proofs.Ytkphadkmmjcmnaa.KK
open Go.ChangeShapes Go.WideShapes Go.ChangeAt Go.RowKit Go.Proofs

theorem esAt_two (w : World) (x y : El.En) : EsAt (w.alloc (.cells #[.string x.1, .string x.2.1, .bool x.2.2.1, .int .i64 x.2.2.2, .string y.1, .string y.2.1, .bool y.2.2.1, .int .i64 y.2.2.2] 36)) (some ⟨w.heap.size, 0, none⟩) [x, y] := by
  have hr := fun c => cell_of_row (w.alloc (.cells #[.string x.1, .string x.2.1, .bool x.2.2.1, .int .i64 x.2.2.2, .string y.1, .string y.2.1, .bool y.2.2.1, .int .i64 y.2.2.2] 36)) w.heap.size c _ _ _ (heap_alloc_new w _)
  refine .inr ⟨w.heap.size, 0, rfl, by simp, fun i hi => ?_⟩
  have : i = 0 ∨ i = 1 := by simp at hi; omega
  rcases this with rfl | rfl
  · exact ⟨hr 0, hr 1, hr 2, hr 3⟩
  · exact ⟨hr 4, hr 5, hr 6, hr 7⟩
theorem knc : ofE 7 [aE, cE] = 0 ∧ ofId 7 [aE, cE] = 7 ∧ ofL 7 [aE, cE] = [aE, cE] ∧ ofE 0 [aE, cE] = 7 ∧ ofId 0 [aE, cE] = 0 ∧ ofL 0 [aE, cE] = [] ∧ ofE 7 [] = 4 ∧ ofId 7 [] = 0 ∧ ofL 7 [] = [] ∧ addE 2 [cE] cE = 6 ∧ addL 2 [cE] cE = [cE] ∧ ofE 0 [cE] = 7 ∧ ofId 0 [cE] = 0 ∧ ofL 0 [cE] = [] := by decide +kernel
theorem sized_of {xs : List El.En} (h : ∀ y ∈ xs, El.chk y = 0) : Sized xs := fun x hx => by
  have := El.chk_of (h x hx); omega
/-- what the last line of the examples keeps to -/
structure KnS (wx : World) (A : Option Addr) (xs : List El.En) (w' : World) : Prop where
  b : Below wx.heap.size wx w'
  f : EsAt w' A xs
theorem KnS.call {wx w1 w2 : World} {A : Option Addr} {xs : List El.En} (h : KnS wx A xs w1) (hb : Below w1.heap.size w1 w2) : KnS wx A xs w2 := ⟨h.b.trans (hb.mono h.b.size), h.f.below hb (Nat.le_refl _)⟩
theorem KnS.drew {wx w1 : World} {A : Option Addr} {xs : List El.En} (h : KnS wx A xs w1) : KnS wx A xs w1.drew := h.call (below_drewN' 1)
theorem KnS.alloc {wx w1 : World} {A : Option Addr} {xs : List El.En} (h : KnS wx A xs w1) (o : Obj) : KnS wx A xs (w1.alloc o) := h.call (alloc_below _ _)
set_option maxRecDepth 100000 in
set_option maxHeartbeats 4000000 in
theorem Known_any (w : World) : Calls Try.prog 9 #[] w fun e w' => e = .returned (.bool true) ∧ Below w.heap.size w w' := by
  obtain ⟨t1, t2, t3, t4, t5, t6, t7, t8, t9, t10, t11, t12, t13, t14⟩ := knc
  obtain ⟨s1, s2, _, _, _, _, _, s8⟩ := awc_add
  have JOf := Lib.hid (fun (w1 : World) (id : Int) (hid : -9223372036854775808 ≤ id ∧ id ≤ 9223372036854775807) => Of_any id (some ⟨w1.heap.size, 0, none⟩) 2 [aE, cE] _ (esAt_two w1 aE cE) (by decide) (fun x hx => by simp at hx; rcases hx with rfl | rfl <;> decide) hid)
  have JO1 := Lib.hid (fun (w1 : World) => show Calls Try.prog 21 #[.int .i64 7, .slice (some ⟨w1.heap.size, 0, none⟩) 2 2] (w1.alloc (.cells #[.string ⟨#[97]⟩, .string ⟨#[49]⟩, .bool false, .int .i64 5, .string ⟨#[98]⟩, .string ⟨#[50]⟩, .bool false, .int .i64 6] 36)) fun e w' => ∃ A c, e = .returned (.tuple #[.agg #[.int .i64 7, .slice A 2 c], .int .i64 0]) ∧ EsAt w' A [aE, cE] ∧ Below w1.heap.size w1 w' from
    (JOf.out w1 7 (by omega)).mono fun e w' ⟨A, c, h1, h2, _, _, h5⟩ => ⟨A, c, by rw [t1, t2, t3] at h1; exact h1, by rw [t3] at h2; exact h2, (alloc_below w1 _).trans (h5.mono (by simp))⟩)
  have JO2 := Lib.hid (fun (w1 : World) => show Calls Try.prog 21 #[.int .i64 0, .slice (some ⟨w1.heap.size, 0, none⟩) 2 2] (w1.alloc (.cells #[.string ⟨#[97]⟩, .string ⟨#[49]⟩, .bool false, .int .i64 5, .string ⟨#[98]⟩, .string ⟨#[50]⟩, .bool false, .int .i64 6] 36)) fun e w' => ∃ A c, e = .returned (.tuple #[.agg #[.int .i64 0, .slice A 0 c], .int .i64 7]) ∧ Below w1.heap.size w1 w' from
    (JOf.out w1 0 (by omega)).mono fun e w' ⟨A, c, h1, h2, _, _, h5⟩ => ⟨A, c, by rw [t4, t5, t6] at h1; exact h1, (alloc_below w1 _).trans (h5.mono (by simp))⟩)
  have JO3 := Lib.hid (fun (w1 : World) => show Calls Try.prog 21 #[.int .i64 7, .slice none 0 0] w1 fun e w' => ∃ A c, e = .returned (.tuple #[.agg #[.int .i64 0, .slice A 0 c], .int .i64 4]) ∧ Below w1.heap.size w1 w' from
    (Of_any 7 none 0 [] w1 (.inl rfl) (by decide) (fun x hx => by cases hx) (by omega)).mono fun e w' ⟨A, c, h1, h2, _, _, h5⟩ => ⟨A, c, by rw [t7, t8, t9] at h1; exact h1, h5⟩)
  have JN0 := Lib.hid (fun (w1 : World) => New_bad 0 w1 (by omega) (by omega))
  have JN5 := Lib.hid (fun (w1 : World) => New_bad 5001 w1 (by omega) (by omega))
  have JN := Lib.hid (fun (w1 : World) => New_ok 2 2 w1 rfl (by omega) (by omega))
  have JL := Lib.hid (fun (w1 : World) (M : Nat) (h : Bd w1 M 1 2 (.slice none 0 0)) => show Calls Try.prog 23 #[.pointer (some ⟨M, 0, none⟩)] w1 fun e w' => e = .returned (.tuple #[.agg #[.string ⟨#[]⟩, .string ⟨#[]⟩, .bool false, .int .i64 0], .int .i64 4]) ∧ Below w1.heap.size w1 w' from by
    have K := Last_any (xs := []) h (by omega) (.inl rfl) (by decide)
    rw [if_pos rfl] at K; exact K)
  have JA1 := Lib.hid (fun (B : Nat) (w' : World) (M : Nat) (v : Value) (wb : Option Nat) (h : Hold B M 2 1 [] w' v wb) => by
    have K := Add_any B M 2 v wb [] cE w' h.d h.r (OkL.nil (by omega)) h.s (by decide)
    rw [s1, s2] at K; exact K)
  have JA2 := Lib.hid (fun (B : Nat) (w' : World) (M : Nat) (v : Value) (wb : Option Nat) (h : Hold B M 2 1 [cE] w' v wb) => by
    have K := Add_any B M 2 v wb [cE] cE w' h.d h.r ⟨by decide, by omega, s8⟩ h.s (by decide)
    rw [t10, t11] at K; exact K)
  have JS := Lib.hid (fun (B : Nat) (w' : World) (M : Nat) (v : Value) (wb : Option Nat) (h : Hold B M 2 1 [cE] w' v wb) => show Calls Try.prog 17 #[.pointer (some ⟨M, 0, none⟩), .int .i64 0] w' fun e w'' => ∃ A c, e = .returned (.tuple #[.agg #[.int .i64 0, .slice A 0 c], .int .i64 7]) ∧ Below B w' w'' from by
    refine (Seal_any B M 2 v wb [cE] 0 w' h.d h.r ⟨by decide, by omega, s8⟩ h.off (sized_of s8) (by omega)).mono ?_
    rintro e w'' ho
    have hb := ho.below h.m h.s
    obtain ⟨A, c, h1, h2, h3, h4, h5, h6, h7⟩ := ho
    rw [t12, t13, t14] at h1
    exact ⟨A, c, h1, hb⟩)
  have HB := Lib.hid (Below.refl w.heap.size w)
  clear s8 JOf
  go_enter Try.func9, Try.ntmps9
  go_wp2_with fail
  refine (law_a _).mono ?_
  rintro e w1 ⟨rfl, hb⟩
  have HB := Lib.hid (HB.out.trans (hb.mono HB.out.size))
  clear hb
  go_wp2_with fail
  refine (law_c _).mono ?_
  rintro e w2 ⟨rfl, hb⟩
  have HB := Lib.hid (HB.out.trans (hb.mono HB.out.size))
  clear hb
  go_wp2_with fail
  refine (JO1.out _).mono ?_
  rintro e w3 ⟨A1, c1, rfl, hes, hb⟩
  have HES := Lib.hid hes
  have HB := Lib.hid (HB.out.trans (hb.mono HB.out.size))
  clear hb
  have HR := Row2.new w3 43 (.int .i64 7) (.slice A1 2 c1)
  have HES := Lib.hid (HES.out.below (alloc_below w3 (.cells #[.int .i64 7, .slice A1 2 c1] 43)) (Nat.le_refl _))
  clear hes
  have hb := alloc_below w3 (.cells #[.int .i64 7, .slice A1 2 c1] 43)
  have HB := Lib.hid (HB.out.trans (hb.mono HB.out.size))
  clear hb
  go_wp2_with fail
  generalize w3.alloc (.cells #[.int .i64 7, .slice A1 2 c1] 43) = wx at *
  generalize w3.heap.size = br at *
  have HRlt := HR.lt
  go_wp2_with fail
  refine (law_a _).mono ?_
  rintro e w4 ⟨rfl, hb⟩
  have HR := HR.below hb (Nat.le_refl _)
  have HES := Lib.hid (HES.out.below hb (Nat.le_refl _))
  have HB := Lib.hid (HB.out.trans (hb.mono HB.out.size))
  clear hb
  go_wp2_with fail
  refine (law_c _).mono ?_
  rintro e w5 ⟨rfl, hb⟩
  have HR := HR.below hb (Nat.le_refl _)
  have HES := Lib.hid (HES.out.below hb (Nat.le_refl _))
  have HB := Lib.hid (HB.out.trans (hb.mono HB.out.size))
  clear hb
  go_wp2_with fail
  refine (JO2.out _).mono ?_
  rintro e w6 ⟨A2, c2, rfl, hb⟩
  have HR := HR.below hb (Nat.le_refl _)
  have HES := Lib.hid (HES.out.below hb (Nat.le_refl _))
  have HB := Lib.hid (HB.out.trans (hb.mono HB.out.size))
  clear hb
  have hb := alloc_below w6 (.cells #[.int .i64 0, .slice A2 0 c2] 43)
  have HR := HR.below hb (Nat.le_refl _)
  have HES := Lib.hid (HES.out.below hb (Nat.le_refl _))
  have HB := Lib.hid (HB.out.trans (hb.mono HB.out.size))
  clear hb
  go_wp2_with fail
  generalize w6.alloc (.cells #[.int .i64 0, .slice A2 0 c2] 43) = wy at *
  go_wp2_with fail
  refine (JO3.out _).mono ?_
  rintro e w7 ⟨A3, c3, rfl, hb⟩
  have HR := HR.below hb (Nat.le_refl _)
  have HES := Lib.hid (HES.out.below hb (Nat.le_refl _))
  have HB := Lib.hid (HB.out.trans (hb.mono HB.out.size))
  clear hb
  have hb := alloc_below w7 (.cells #[.int .i64 0, .slice A3 0 c3] 43)
  have HR := HR.below hb (Nat.le_refl _)
  have HES := Lib.hid (HES.out.below hb (Nat.le_refl _))
  have HB := Lib.hid (HB.out.trans (hb.mono HB.out.size))
  clear hb
  go_wp2_with fail
  generalize w7.alloc (.cells #[.int .i64 0, .slice A3 0 c3] 43) = wz at *
  go_wp2_with fail
  refine (JN0.out _).mono ?_
  rintro e w8 ⟨rfl, hb⟩
  have HR := HR.below hb (Nat.le_refl _)
  have HES := Lib.hid (HES.out.below hb (Nat.le_refl _))
  have HB := Lib.hid (HB.out.trans (hb.mono HB.out.size))
  clear hb
  go_wp2_with fail
  refine (JN5.out _).mono ?_
  rintro e w9 ⟨rfl, hb⟩
  have HR := HR.below hb (Nat.le_refl _)
  have HES := Lib.hid (HES.out.below hb (Nat.le_refl _))
  have HB := Lib.hid (HB.out.trans (hb.mono HB.out.size))
  clear hb
  have HRP := HR
  have HESP := HES
  have HBP := HB
  clear HR HES HB
  go_wp2_with fail
  refine (JN.out _).mono ?_
  rintro e w10 ⟨M, rfl, hM, hd, hb⟩
  have HB := Lib.hid hb
  have H1 := Lib.hid (Hold.mk hd (Rv.nil w10 w9.heap.size) hM HB.out.size)
  clear hb hd
  go_wp2_with fail
  refine (JL.out _ M H1.out.d).mono ?_
  rintro e w11 ⟨rfl, hb⟩
  have H1 := Lib.hid (H1.out.below hb)
  have HB := Lib.hid (HB.out.trans (hb.mono HB.out.size))
  clear hb
  have hb := alloc_below w11 (.cells #[.string ⟨#[]⟩, .string ⟨#[]⟩, .bool false, .int .i64 0] 36)
  have H1 := Lib.hid (H1.out.below hb)
  have HB := Lib.hid (HB.out.trans (hb.mono HB.out.size))
  clear hb
  go_wp2_with fail
  generalize w11.alloc (.cells #[.string ⟨#[]⟩, .string ⟨#[]⟩, .bool false, .int .i64 0] 36) = wl at *
  go_wp2_with fail
  refine (law_c _).mono ?_
  rintro e w12 ⟨rfl, hb⟩
  have H1 := Lib.hid (H1.out.below hb)
  have HB := Lib.hid (HB.out.trans (hb.mono HB.out.size))
  clear hb
  go_wp2_with fail
  refine (JA1.out _ _ M _ _ H1.out).mono ?_
  rintro e w13 ⟨rfl, ho⟩
  have hb := ho.below hM H1.out.r H1.out.s
  have HB := Lib.hid (HB.out.trans hb)
  obtain ⟨vw13, bw13, h3⟩ := ho.hold H1.out
  have H1 := Lib.hid h3
  clear ho h3 hb
  go_wp2_with fail
  refine (law_c _).mono ?_
  rintro e w14 ⟨rfl, hb⟩
  have H1 := Lib.hid (H1.out.below hb)
  have HB := Lib.hid (HB.out.trans (hb.mono HB.out.size))
  clear hb
  go_wp2_with fail
  refine (JA2.out _ _ M _ _ H1.out).mono ?_
  rintro e w15 ⟨rfl, ho⟩
  have hb := ho.below hM H1.out.r H1.out.s
  have HB := Lib.hid (HB.out.trans hb)
  obtain ⟨vw15, bw15, h3⟩ := ho.hold H1.out
  have H1 := Lib.hid h3
  clear ho h3 hb
  go_wp2_with fail
  refine (JS.out _ _ M _ _ H1.out).mono ?_
  rintro e w16 ⟨A9, c9, rfl, hb⟩
  have HB := Lib.hid (HB.out.trans hb)
  clear hb H1
  have hb := alloc_below w16 (.cells #[.int .i64 0, .slice A9 0 c9] 43)
  have HB := Lib.hid (HB.out.trans (hb.mono HB.out.size))
  clear hb
  go_wp2_with fail
  generalize w16.alloc (.cells #[.int .i64 0, .slice A9 0 c9] 43) = we at *
  have HRE := HRP.below HB.out (Nat.le_refl _)
  have HESE := HESP.out.below HB.out (Nat.le_refl _)
  have HBE := Lib.hid (HBP.out.trans (HB.out.mono HBP.out.size))
  clear HB HRP HESP HBP
  have hS := KnS.mk (Below.refl we.heap.size we) HESE
  have JA : Hid (∀ w1, KnS we A1 [aE, cE] w1 → Calls Try.prog 30 #[] w1 fun e w' => e = .returned (.agg #[.string ⟨#[97]⟩, .string ⟨#[49]⟩, .bool false, .int .i64 5]) ∧ KnS we A1 [aE, cE] w') := Lib.hid fun w1 h => (law_a w1).mono fun e w' ⟨h1, h2⟩ => ⟨h1, h.call h2⟩
  have JC : Hid (∀ w1, KnS we A1 [aE, cE] w1 → Calls Try.prog 31 #[] w1 fun e w' => e = .returned (.agg #[.string ⟨#[98]⟩, .string ⟨#[50]⟩, .bool false, .int .i64 6]) ∧ KnS we A1 [aE, cE] w') := Lib.hid fun w1 h => (law_c w1).mono fun e w' ⟨h1, h2⟩ => ⟨h1, h.call h2⟩
  have JW : Hid (∀ w1, KnS we A1 [aE, cE] w1 → Calls Try.prog 11 #[] w1 fun e w' => e = .returned (.bool true) ∧ KnS we A1 [aE, cE] w') := Lib.hid fun w1 h => (awake_any w1).mono fun e w' ⟨h1, h2⟩ => ⟨h1, h.call h2⟩
  have JS2 : Hid (∀ w1, KnS we A1 [aE, cE] w1 → Calls Try.prog 19 #[.agg #[.int .i64 7, .slice A1 2 c1], .agg #[.int .i64 7, .slice (some ⟨w1.heap.size, 0, none⟩) 2 2]] (w1.alloc (.cells #[.string ⟨#[97]⟩, .string ⟨#[49]⟩, .bool false, .int .i64 5, .string ⟨#[98]⟩, .string ⟨#[50]⟩, .bool false, .int .i64 6] 36)) fun e w' => e = .returned (.bool true) ∧ KnS we A1 [aE, cE] w') := Lib.hid fun w1 h => by
    have h2 := h.alloc (.cells #[.string ⟨#[97]⟩, .string ⟨#[49]⟩, .bool false, .int .i64 5, .string ⟨#[98]⟩, .string ⟨#[50]⟩, .bool false, .int .i64 6] 36)
    refine (RSame_any 7 7 A1 _ c1 2 [aE, cE] [aE, cE] _ h2.f (esAt_two w1 aE cE) (by decide) (by decide)).mono ?_
    rintro e w' ⟨rfl, hb⟩
    exact ⟨by simp, h2.call hb⟩
  have HK : Hid (∀ w', KnS we A1 [aE, cE] w' → KnS we A1 [aE, cE] w' ∧ w'.cell? ⟨br, 0, none⟩ = some (.int .i64 7) ∧ w'.cell? ⟨br, 1, none⟩ = some (.slice A1 2 c1)) := Lib.hid fun w' h => by
    have r := HRE.below h.b (Nat.le_refl _)
    exact ⟨h, r.c0, r.c1⟩
  clear HRE HESE
  go_region_held3 (fun w' => KnS we A1 [aE, cE] w' ∧ w'.cell? ⟨br, 0, none⟩ = some (.int .i64 7) ∧ w'.cell? ⟨br, 1, none⟩ = some (.slice A1 2 c1))
    (first
      | (exact HK.out _ (by assumption))
      | (exact HK.out _ (KnS.drew (by assumption)))
      | (exact HK.out _ (KnS.alloc (by assumption) _))
      | (exact HK.out _ (KnS.alloc (And.left (by assumption)) _)))
    (first
      | (go_at_call 30; refine (JA.out _ (by first | assumption | exact KnS.drew (by assumption) | exact And.left (by assumption))).mono ?_; rintro e w31 ⟨rfl, hs31⟩)
      | (go_at_call 31; refine (JC.out _ (by first | assumption | exact KnS.drew (by assumption) | exact And.left (by assumption))).mono ?_; rintro e w32 ⟨rfl, hs32⟩)
      | (go_at_call 19; refine (JS2.out _ (by first | assumption | exact KnS.drew (by assumption) | exact And.left (by assumption))).mono ?_; rintro e w33 ⟨rfl, hs33⟩)
      | (go_at_call 11; refine (JW.out _ (by first | assumption | exact KnS.drew (by assumption) | exact And.left (by assumption))).mono ?_; rintro e w34 ⟨rfl, hs34⟩))
  all_goals
    go_wp2_with fail
    go_ret
    exact ⟨rfl, HBE.out.trans ((by first | exact KnS.b (by assumption) | exact KnS.b (And.left (by assumption)) : Below we.heap.size we _).mono HBE.out.size)⟩
end Go.Proofs.Ytkphadkmmjcmnaa.KK
