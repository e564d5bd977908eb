/-
  Contract of the law's own awake.
-/
import Derived.Test.YtkphadkmmjcmnaaBh
namespace Go.Proofs.Ytkphadkmmjcmnaa.KK
open Go.ChangeShapes Go.WideShapes Go.ChangeAt Go.RowKit Go.Proofs

theorem AddOut.below {base M most : Nat} {st : Int} {wb : Option Nat} {w w' : World} {v : Value} {xs ys : List El.En} (h : AddOut base M most st v wb xs w w' ys) (hM : base ≤ M) (hr : Rv w base v xs wb) (hb : base ≤ w.heap.size) : Below base w w' := by
  obtain ⟨_, _, _, _, h3, _⟩ := h
  refine h3.below (fun k hk => ?_) hb
  rcases hk with rfl | hk
  · exact hM
  · exact (hr.wlt k hk.symm).1
/-- a builder that is held: it lies there, with its entries, its own blocks among those from base on -/
structure Hold (base M most : Nat) (st : Int) (xs : List El.En) (w : World) (v : Value) (wb : Option Nat) : Prop where
  d : Bd w M st most v
  r : Rv w base v xs wb
  m : base ≤ M
  s : base ≤ w.heap.size
theorem Hold.off {base M most : Nat} {st : Int} {xs : List El.En} {w : World} {v : Value} {wb : Option Nat} (h : Hold base M most st xs w v wb) : Off v M := by
  rintro A n c rfl e
  rcases h.r with ⟨_, hz, hown⟩ | ⟨_, h0, g, e2, hes⟩
  · have := h.r.notB h.d
    rcases hown.2 with ⟨h1, _⟩ | ⟨g, cap, cur, e2, _, hg, _⟩
    · cases h1
    · injection e2 with e2; injection e2 with e2; subst e2
      have := h.d; unfold Bd at this; simp only at e; rw [← e, hg] at this
      injection this with this; injection this with _ this _; exact absurd this (by decide)
  · injection e2 with e2; injection e2 with e2; subst e2
    simp only at e
    subst e
    obtain ⟨b, off, e3, _, hc⟩ := hes.cells h0
    injection e3 with e3; injection e3 with e3 e4; subst e3; subst e4
    have hx : 0 < xs.length := List.length_pos_iff.2 h0
    have c0 := hc 0 _ ((cellsE_get xs 0 0 hx (by omega)).trans rfl)
    rw [Nat.zero_add, h.d.c0] at c0; cases c0
theorem Hold.below {base M most : Nat} {st : Int} {xs : List El.En} {w w' : World} {v : Value} {wb : Option Nat} (h : Hold base M most st xs w v wb) (hb : Below w.heap.size w w') : Hold base M most st xs w' v wb := ⟨h.d.below hb, h.r.below hb, h.m, Nat.le_trans h.s hb.size⟩
theorem AddOut.hold {base M most : Nat} {st : Int} {wb : Option Nat} {w w' : World} {v : Value} {xs ys : List El.En} (h : AddOut base M most st v wb xs w w' ys) (hh : Hold base M most st xs w v wb) : ∃ v' wb', Hold base M most st ys w' v' wb' := by
  have hb := h.below hh.m hh.r hh.s
  obtain ⟨v', wb', h1, h2, _⟩ := h
  exact ⟨v', wb', h1, h2, hh.m, Nat.le_trans hh.s hb.size⟩
theorem SealOut.below {base M most : Nat} {v : Value} {wb : Option Nat} {xs : List El.En} {id : Int} {w w' : World} {e : Ending} (h : SealOut base M most v wb xs id w w' e) (hM : base ≤ M) (hb : base ≤ w.heap.size) : Below base w w' := by
  obtain ⟨_, _, _, _, _, _, _, _, h⟩ := h
  exact h.below (fun k hk => by omega) hb
theorem awc_add : addE 2 [] cE = 0 ∧ addL 2 [] cE = [cE] ∧ addE 2 [cE] aE = 6 ∧ addL 2 [cE] aE = [cE] ∧ ofE 7 [cE] = 0 ∧ ofId 7 [cE] = 7 ∧ ofL 7 [cE] = [cE] ∧ (∀ y ∈ [cE], El.chk y = 0) := by decide +kernel
/-- what the last line of awake keeps to -/
structure AwS (wx : World) (M : Nat) (v : Value) (A : Option Addr) (w' : World) : Prop where
  b : Below wx.heap.size wx w'
  d : Bd w' M 2 2 v
  f : EsAt w' A [cE]
theorem AwS.call {wx w1 w2 : World} {M : Nat} {v : Value} {A : Option Addr} (h : AwS wx M v A w1) (hb : Below w1.heap.size w1 w2) : AwS wx M v A w2 := ⟨h.b.trans (hb.mono h.b.size), h.d.below hb, h.f.below hb (Nat.le_refl _)⟩
theorem AwS.drew {wx w1 : World} {M : Nat} {v : Value} {A : Option Addr} (h : AwS wx M v A w1) : AwS wx M v A w1.drew := h.call (below_drewN' 1)
theorem AwS.alloc {wx w1 : World} {M : Nat} {v : Value} {A : Option Addr} (h : AwS wx M v A w1) (o : Obj) : AwS wx M v A (w1.alloc o) := h.call (alloc_below _ _)
theorem esAt_one (w : World) (x : El.En) : EsAt (w.alloc (.cells #[.string x.1, .string x.2.1, .bool x.2.2.1, .int .i64 x.2.2.2] 36)) (some ⟨w.heap.size, 0, none⟩) [x] := by
  have h := Row4.new w 36 (.string x.1) (.string x.2.1) (.bool x.2.2.1) (.int .i64 x.2.2.2)
  refine .inr ⟨w.heap.size, 0, rfl, by simp, fun i hi => ?_⟩
  have : i = 0 := by simpa using hi
  subst this
  exact ⟨h.c0, h.c1, h.c2, h.c3⟩
set_option maxRecDepth 100000 in
set_option maxHeartbeats 4000000 in
theorem awake_any (w : World) : Calls Try.prog 11 #[] w fun e w' => e = .returned (.bool true) ∧ Below w.heap.size w w' := by
  obtain ⟨t1, t2, t3, t4, t5, t6, t7, t8⟩ := awc_add
  have HT := Lib.hid t8
  have JN := Lib.hid (New_ok 2 2 w rfl (by omega) (by omega))
  have JA1 := Lib.hid (fun (w' : World) (M : Nat) (v : Value) (wb : Option Nat) (h : Hold w.heap.size M 2 1 [] w' v wb) => by
    have K := Add_any w.heap.size M 2 v wb [] cE w' h.d h.r (OkL.nil (by omega)) h.s (by decide)
    rw [t1, t2] at K; exact K)
  have JA2 := Lib.hid (fun (w' : World) (M : Nat) (v : Value) (wb : Option Nat) (h : Hold w.heap.size M 2 1 [cE] w' v wb) => by
    have K := Add_any w.heap.size M 2 v wb [cE] aE w' h.d h.r ⟨by decide, by omega, t8⟩ h.s (by decide)
    rw [t3, t4] at K; exact K)
  have JR := Lib.hid (fun (w' : World) (M : Nat) (A : Option Addr) (c : Nat) (h : Bd w' M 1 2 (.slice A 1 c)) => Room_open h (by omega) (by omega))
  have JL := Lib.hid (fun (w' : World) (M : Nat) (A : Option Addr) (c : Nat) (h : Bd w' M 1 2 (.slice A [cE].length c)) (he : EsAt w' A [cE]) => show Calls Try.prog 23 #[.pointer (some ⟨M, 0, none⟩)] w' fun e w'' => e = .returned (.tuple #[.agg #[.string ⟨#[98]⟩, .string ⟨#[50]⟩, .bool false, .int .i64 6], .int .i64 0]) ∧ Below w'.heap.size w' w'' from by
    have K := Last_any h (by omega) he (by decide)
    rw [if_neg (by simp)] at K; exact K)
  have JS := Lib.hid (fun (w' : World) (M : Nat) (v : Value) (wb : Option Nat) (h : Hold w.heap.size M 2 1 [cE] w' v wb) => show Calls Try.prog 17 #[.pointer (some ⟨M, 0, none⟩), .int .i64 7] w' fun e w'' => ∃ A c, e = .returned (.tuple #[.agg #[.int .i64 7, .slice A 1 c], .int .i64 0]) ∧ EsAt w'' A [cE] ∧ Bd w'' M 2 2 v ∧ (∃ g, g = w'.heap.size ∧ ∀ b o u, b < g → b ≠ M → w'.cell? ⟨b, o, none⟩ = some u → w''.cell? ⟨b, o, none⟩ = some u) ∧ Below w.heap.size w' w'' from by
    refine (Seal_any w.heap.size M 2 v wb [cE] 7 w' h.d h.r ⟨by decide, by omega, t8⟩ h.off (fun x hx => by simp at hx; subst hx; decide) (by omega)).mono ?_
    rintro e w'' ho
    have hb := ho.below h.m h.s
    obtain ⟨A, c, h1, h2, h3, h4, h5, h6, h7⟩ := ho
    rw [t5, t6, t7] at h1
    rw [t7] at h2
    rw [t5] at h5
    exact ⟨A, c, h1, h2, h5, ⟨_, rfl, fun b o u _ hne hc => h7.cell hc hne⟩, hb⟩)
  clear t8
  go_enter Try.func11, Try.ntmps11
  go_wp2_with fail
  refine JN.out.mono ?_
  rintro e w1 ⟨M, rfl, hM, hd, hb⟩
  have HB1 := Lib.hid hb
  have H1 := Lib.hid (Hold.mk hd (Rv.nil w1 w.heap.size) hM hb.size)
  clear hb hd
  go_wp2_with fail
  refine (law_c _).mono ?_
  rintro e w2 ⟨rfl, hb⟩
  have HB2 := Lib.hid (HB1.out.trans (hb.mono HB1.out.size))
  have H2 := Lib.hid (H1.out.below hb)
  clear hb HB1 H1
  go_wp2_with fail
  refine (JA1.out _ M _ _ H2.out).mono ?_
  rintro e w3 ⟨rfl, ho⟩
  have HB3 := Lib.hid (HB2.out.trans (ho.below hM H2.out.r H2.out.s))
  obtain ⟨v3, wb3, h3⟩ := ho.hold H2.out
  have H3 := Lib.hid h3
  clear ho HB2 H2 h3
  go_wp2_with fail
  refine (law_a _).mono ?_
  rintro e w4 ⟨rfl, hb⟩
  have HB4 := Lib.hid (HB3.out.trans (hb.mono HB3.out.size))
  have H4 := Lib.hid (H3.out.below hb)
  clear hb HB3 H3
  go_wp2_with fail
  refine (JA2.out _ M _ _ H4.out).mono ?_
  rintro e w5 ⟨rfl, ho⟩
  have HB5 := Lib.hid (HB4.out.trans (ho.below hM H4.out.r H4.out.s))
  obtain ⟨v5, wb5, h5⟩ := ho.hold H4.out
  have H5 := Lib.hid h5
  clear ho HB4 H4 h5
  obtain ⟨A5, c5, hv5, hcap5, hnil5, hes5⟩ := H5.out.r.form
  have HES5 := Lib.hid hes5
  subst hv5
  clear hes5 hcap5 hnil5
  go_wp2_with fail
  refine (JR.out _ M _ _ H5.out.d).mono ?_
  rintro e w6 ⟨rfl, hb⟩
  have HB6 := Lib.hid (HB5.out.trans (hb.mono HB5.out.size))
  have H6 := Lib.hid (H5.out.below hb)
  have HES6 := Lib.hid (HES5.out.below hb (Nat.le_refl _))
  clear hb HB5 H5 HES5
  go_wp2_with fail
  refine (JL.out _ M _ _ H6.out.d HES6.out).mono ?_
  rintro e w7 ⟨rfl, hb⟩
  have HB7 := Lib.hid (HB6.out.trans (hb.mono HB6.out.size))
  have H7 := Lib.hid (H6.out.below hb)
  clear hb HB6 H6 HES6
  have HX := Row4.new w7 36 (.string ⟨#[98]⟩) (.string ⟨#[50]⟩) (.bool false) (.int .i64 6)
  have hbx := alloc_below w7 (.cells #[.string ⟨#[98]⟩, .string ⟨#[50]⟩, .bool false, .int .i64 6] 36)
  have HBX := Lib.hid (HB7.out.trans (hbx.mono HB7.out.size))
  have H8 := Lib.hid (H7.out.below hbx)
  have hMx : w7.heap.size ≠ M := by have := H7.out.d.lt; omega
  clear hbx HB7 H7
  go_wp2_with fail
  generalize w7.alloc (.cells #[.string ⟨#[98]⟩, .string ⟨#[50]⟩, .bool false, .int .i64 6] 36) = wx at *
  generalize w7.heap.size = bx at *
  refine (JS.out _ M _ _ H8.out).mono ?_
  rintro e w8 ⟨A, c, rfl, hes, hd, ⟨g, hg, hcell⟩, hb⟩
  have hxl : bx < wx.heap.size := HX.lt
  have x0 := hcell bx 0 _ (by omega) hMx HX.c0
  have x1 := hcell bx 1 _ (by omega) hMx HX.c1
  have x2 := hcell bx 2 _ (by omega) hMx HX.c2
  have x3 := hcell bx 3 _ (by omega) hMx HX.c3
  have HB8 := Lib.hid (HBX.out.trans hb)
  have hrb := alloc_below w8 (.cells #[.int .i64 7, .slice A 1 c] 43)
  have HR := Row2.new w8 43 (.int .i64 7) (.slice A 1 c)
  have hbs : bx < w8.heap.size := Nat.lt_of_lt_of_le hxl hb.size
  have HB9 := Lib.hid (HB8.out.trans (hrb.mono HB8.out.size))
  have HD := Lib.hid (hd.below hrb)
  have HF := Lib.hid (hes.below hrb (Nat.le_refl _))
  have HXC := Lib.hid (fun (w' : World) (h : Below w8.heap.size w8 w') => show w'.cell? ⟨bx, 0, none⟩ = some (.string ⟨#[98]⟩) ∧ w'.cell? ⟨bx, 1, none⟩ = some (.string ⟨#[50]⟩) ∧ w'.cell? ⟨bx, 2, none⟩ = some (.bool false) ∧ w'.cell? ⟨bx, 3, none⟩ = some (.int .i64 6) from
    ⟨(h.cell (p := ⟨bx, 0, none⟩) hbs).trans x0, (h.cell (p := ⟨bx, 1, none⟩) hbs).trans x1, (h.cell (p := ⟨bx, 2, none⟩) hbs).trans x2, (h.cell (p := ⟨bx, 3, none⟩) hbs).trans x3⟩)
  clear hb hd hes hcell HBX H8 HX x0 x1 x2 x3 hg hxl hMx
  have HXD := Lib.hid (fun (w' : World) (h : Below (w8.alloc (.cells #[.int .i64 7, .slice A 1 c] 43)).heap.size (w8.alloc (.cells #[.int .i64 7, .slice A 1 c] 43)) w') => HXC.out w' (hrb.trans (h.mono hrb.size)))
  clear hrb HXC
  go_wp2_with fail
  generalize w8.alloc (.cells #[.int .i64 7, .slice A 1 c] 43) = wr at *
  have hbr : bx ≠ w8.heap.size := by omega
  generalize w8.heap.size = br at *
  have JE := Lib.hid (Seal_err (.pointer (some ⟨M, 0, none⟩)) 9 (by decide) 8 wr (fun w' hb => open_sealed (HD.out.below hb)))
  refine JE.out.mono ?_
  rintro e w9 ⟨rfl, hb⟩
  have hrb := alloc_below w9 (.cells #[.int .i64 0, .slice none 0 0] 43)
  have hb2 : Below wr.heap.size wr (w9.alloc (.cells #[.int .i64 0, .slice none 0 0] 43)) := hb.trans (hrb.mono hb.size)
  have HB10 := Lib.hid (HB9.out.trans (hb2.mono HB9.out.size))
  have HD10 := Lib.hid (HD.out.below hb2)
  have HF10 := Lib.hid (HF.out.below hb2 (Nat.le_refl _))
  have HXC10 := Lib.hid (fun (w' : World) (h : Below (w9.alloc (.cells #[.int .i64 0, .slice none 0 0] 43)).heap.size (w9.alloc (.cells #[.int .i64 0, .slice none 0 0] 43)) w') => HXD.out w' (hb2.trans (h.mono hb2.size)))
  have HR10 := Lib.hid (HR.below hb2 (Nat.le_refl _))
  clear hb hrb hb2 HB9 HD HF HXD HR JE
  go_wp2_with fail
  generalize w9.alloc (.cells #[.int .i64 0, .slice none 0 0] 43) = wz at *
  have hS := AwS.mk (Below.refl wz.heap.size wz) HD10.out HF10.out
  have JC : Hid (∀ w1, AwS wz M (.slice A5 [cE].length c5) A w1 → Calls Try.prog 31 #[] w1 fun e w' => e = .returned (.agg #[.string ⟨#[98]⟩, .string ⟨#[50]⟩, .bool false, .int .i64 6]) ∧ AwS wz M (.slice A5 [cE].length c5) A w') := Lib.hid fun w1 h => (law_c w1).mono fun e w' ⟨h1, h2⟩ => ⟨h1, h.call h2⟩
  have JS2 : Hid (∀ w1, AwS wz M (.slice A5 [cE].length c5) A w1 → Calls Try.prog 19 #[.agg #[.int .i64 7, .slice A 1 c], .agg #[.int .i64 7, .slice (some ⟨w1.heap.size, 0, none⟩) 1 1]] (w1.alloc (.cells #[.string ⟨#[98]⟩, .string ⟨#[50]⟩, .bool false, .int .i64 6] 36)) fun e w' => e = .returned (.bool true) ∧ AwS wz M (.slice A5 [cE].length c5) A w') := Lib.hid fun w1 h => by
    have h2 := h.alloc (.cells #[.string ⟨#[98]⟩, .string ⟨#[50]⟩, .bool false, .int .i64 6] 36)
    refine (RSame_any 7 7 A _ c 1 [cE] [cE] _ h2.f (esAt_one w1 cE) (by decide) (by decide)).mono ?_
    rintro e w' ⟨rfl, hb⟩
    exact ⟨by simp, h2.call hb⟩
  have JA : Hid (∀ w1, AwS wz M (.slice A5 [cE].length c5) A w1 → Calls Try.prog 24 #[.pointer (some ⟨M, 0, none⟩), .agg #[.string ⟨#[98]⟩, .string ⟨#[50]⟩, .bool false, .int .i64 6]] w1 fun e w' => e = .returned (.int .i64 9) ∧ AwS wz M (.slice A5 [cE].length c5) A w') := Lib.hid fun w1 h => (Add_sealed h.d cE).mono fun e w' ⟨h1, h2⟩ => ⟨h1, h.call h2⟩
  have HK : Hid (∀ w', AwS wz M (.slice A5 [cE].length c5) A w' → AwS wz M (.slice A5 [cE].length c5) A w' ∧ w'.cell? ⟨bx, 0, none⟩ = some (.string ⟨#[98]⟩) ∧ w'.cell? ⟨bx, 1, none⟩ = some (.string ⟨#[50]⟩) ∧ w'.cell? ⟨bx, 2, none⟩ = some (.bool false) ∧ w'.cell? ⟨bx, 3, none⟩ = some (.int .i64 6) ∧ w'.cell? ⟨br, 0, none⟩ = some (.int .i64 7) ∧ w'.cell? ⟨br, 1, none⟩ = some (.slice A 1 c)) := Lib.hid fun w' h => by
    obtain ⟨c0, c1, c2, c3⟩ := HXC10.out w' h.b
    have r := HR10.out.below h.b (Nat.le_refl _)
    exact ⟨h, c0, c1, c2, c3, r.c0, r.c1⟩
  go_region_held3 (fun w' => AwS wz M (.slice A5 [cE].length c5) A w' ∧ w'.cell? ⟨bx, 0, none⟩ = some (.string ⟨#[98]⟩) ∧ w'.cell? ⟨bx, 1, none⟩ = some (.string ⟨#[50]⟩) ∧ w'.cell? ⟨bx, 2, none⟩ = some (.bool false) ∧ w'.cell? ⟨bx, 3, none⟩ = some (.int .i64 6) ∧ w'.cell? ⟨br, 0, none⟩ = some (.int .i64 7) ∧ w'.cell? ⟨br, 1, none⟩ = some (.slice A 1 c))
    (first
      | (exact HK.out _ (by assumption))
      | (exact HK.out _ (AwS.drew (by assumption)))
      | (exact HK.out _ (AwS.alloc (by assumption) _))
      | (exact HK.out _ (AwS.alloc (And.left (by assumption)) _)))
    (first
      | (go_at_call 31; refine (JC.out _ (by first | assumption | exact AwS.drew (by assumption) | exact And.left (by assumption))).mono ?_; rintro e w22 ⟨rfl, hs22⟩)
      | (go_at_call 19; refine (JS2.out _ (by first | assumption | exact AwS.drew (by assumption) | exact And.left (by assumption))).mono ?_; rintro e w23 ⟨rfl, hs23⟩)
      | (go_at_call 24; refine (JA.out _ (by first | assumption | exact AwS.drew (by assumption) | exact And.left (by assumption))).mono ?_; rintro e w24 ⟨rfl, hs24⟩))
  all_goals
    go_wp2_with fail
    go_ret
    exact ⟨rfl, HB10.out.trans ((by first | exact AwS.b (by assumption) | exact AwS.b (And.left (by assumption)) : Below wz.heap.size wz _).mono HB10.out.size)⟩
end Go.Proofs.Ytkphadkmmjcmnaa.KK
