/-
  Shadow: awake.
-/
import Derived.Test.YtlobkbhghpknmaaSj
import Derived.Deep.DeepCutAuto
namespace Go.Proofs.Ytlobkbhghpknmaa.KK
open Go.ChangeShapes Go.WideShapes Go.ChangeAt Go.RowKit Go.Proofs

/-- what stays while awake looks -/
def AwK (w wz : World) (Al Aa Ab : Option Addr) (b8 : Nat) (w' : World) : Prop :=
  EsAt w' Al exL ∧ EsAt w' Aa [l0, l1, l3] ∧ EsAt w' Ab [l0, l3] ∧ Row3 w' b8 38 (.int .i64 2) (.int .i64 2) (.int .i64 1) ∧ Below w.heap.size w w' ∧ Below wz.heap.size wz w'
theorem AwK.below {w wz w1 w2 : World} {Al Aa Ab : Option Addr} {b8 : Nat} (h : AwK w wz Al Aa Ab b8 w1) (hb : Below w1.heap.size w1 w2) : AwK w wz Al Aa Ab b8 w2 :=
  ⟨h.1.below hb (Nat.le_refl _), h.2.1.below hb (Nat.le_refl _), h.2.2.1.below hb (Nat.le_refl _), h.2.2.2.1.below hb (Nat.le_refl _), eb_of h.2.2.2.2.1 hb (Nat.le_refl _), eb_of h.2.2.2.2.2 hb (Nat.le_refl _)⟩
theorem AwK.cells {w wz w' : World} {bl off : Nat} {Aa Ab : Option Addr} {b8 : Nat} (h : AwK w wz (some ⟨bl, off, none⟩) Aa Ab b8 w') :
    bl < w'.heap.size ∧ ∀ (i : Nat) (hi : i < exL.length), w'.cell? ⟨bl, off + i * 4, none⟩ = some (.string exL[i].1) ∧ w'.cell? ⟨bl, off + i * 4 + 1, none⟩ = some (.string exL[i].2.1) ∧ w'.cell? ⟨bl, off + i * 4 + 2, none⟩ = some (.bool exL[i].2.2.1) ∧ w'.cell? ⟨bl, off + i * 4 + 3, none⟩ = some (.int .i64 exL[i].2.2.2) := by
  rcases h.1 with h0 | ⟨b, o, e, hb, hc⟩
  · cases h0
  · injection e with e; injection e with e1 e2; subst e1; subst e2; exact ⟨hb, hc⟩
theorem es_some {w : World} {A : Option Addr} {xs : List El.En} (h : EsAt w A xs) (hne : xs ≠ []) : ∃ bl off, A = some ⟨bl, off, none⟩ := by
  rcases h with h | ⟨b, o, e, _⟩
  · exact absurd h hne
  · exact ⟨b, o, e⟩
theorem set_of {W w : World} {B g : Nat} {T : TypeId} {v0 v1 v2 : Value} (_ : Row3 W g T v0 v1 v2) (h : Below B w W) (hg : B ≤ g) (a b c : Value) : Below B w (((W.setCell ⟨g, 0, none⟩ a).setCell ⟨g, 1, none⟩ b).setCell ⟨g, 2, none⟩ c) := set3s h hg a b c
theorem ex_of {W : World} {g : Nat} {T : TypeId} {v0 v1 v2 : Value} (_ : Row3 W g T v0 v1 v2) : ∃ n, g = n := ⟨_, rfl⟩
theorem h3c : (#[.string ⟨#[97]⟩, .string ⟨#[]⟩, .bool false, .int .i64 1, .string ⟨#[98]⟩, .string ⟨#[]⟩, .bool true, .int .i64 5, .string ⟨#[99]⟩, .string ⟨#[]⟩, .bool false, .int .i64 4] : Array Value).toList = cellsE [l0, l1, l3] := by simp [cellsE, l0, l1, l3]
theorem h3l : ([l0, l1, l3] : List El.En).length ≤ 1000 := by decide
theorem h2c : (#[.string ⟨#[97]⟩, .string ⟨#[]⟩, .bool false, .int .i64 1, .string ⟨#[99]⟩, .string ⟨#[]⟩, .bool false, .int .i64 4] : Array Value).toList = cellsE [l0, l3] := by simp [cellsE, l0, l3]
theorem h3l2 : ([l0, l3] : List El.En).length ≤ 1000 := by decide
theorem es_litD (W : World) (cs : Array Value) (xs : List El.En) (h : cs.toList = cellsE xs) (hn : xs.length ≤ 1000) : EsAt (W.alloc (.cells cs 25)).drew (some ⟨W.heap.size, 0, none⟩) xs := (es_lit W cs xs h hn).below (Below.refl _ _).drew (Nat.le_refl _)
theorem row_al2 {W w' : World} (hb : Below (W.alloc (.cells #[.bool false, .string ⟨#[]⟩, .bool false] 23)).heap.size (W.alloc (.cells #[.bool false, .string ⟨#[]⟩, .bool false] 23)) w') : Row3 w' W.heap.size 23 (.bool false) (.string ⟨#[]⟩) (.bool false) :=
  (hb.block _ (by simp)).trans (heap_alloc_new W _)
theorem aw_keep {w wz w8 wN : World} {bl off : Nat} {Aa Ab : Option Addr} {b8 b12 : Nat} (h8 : AwK w wz (some ⟨bl, off, none⟩) Aa Ab b8 w8) (hr : Row3 w8 b12 23 (.bool true) (.string ⟨#[98]⟩) (.bool true)) (h : Below w8.heap.size w8 wN) : (wN.cell? ⟨bl, off, none⟩ = some (.string ⟨#[97]⟩) ∧ wN.cell? ⟨bl, off + 1, none⟩ = some (.string ⟨#[]⟩) ∧ wN.cell? ⟨bl, off + 2, none⟩ = some (.bool false) ∧ wN.cell? ⟨bl, off + 3, none⟩ = some (.int .i64 1) ∧ wN.cell? ⟨bl, off + 4, none⟩ = some (.string ⟨#[98]⟩) ∧ wN.cell? ⟨bl, off + 4 + 1, none⟩ = some (.string ⟨#[]⟩) ∧ wN.cell? ⟨bl, off + 4 + 2, none⟩ = some (.bool true) ∧ wN.cell? ⟨bl, off + 4 + 3, none⟩ = some (.int .i64 5) ∧ wN.cell? ⟨bl, off + 12, none⟩ = some (.string ⟨#[99]⟩) ∧ wN.cell? ⟨bl, off + 12 + 1, none⟩ = some (.string ⟨#[]⟩) ∧ wN.cell? ⟨bl, off + 12 + 2, none⟩ = some (.bool false) ∧ wN.cell? ⟨bl, off + 12 + 3, none⟩ = some (.int .i64 4) ∧ wN.cell? ⟨b8, 0, none⟩ = some (.int .i64 2) ∧ wN.cell? ⟨b8, 1, none⟩ = some (.int .i64 2) ∧ wN.cell? ⟨b8, 2, none⟩ = some (.int .i64 1) ∧ wN.cell? ⟨b12, 0, none⟩ = some (.bool true) ∧ wN.cell? ⟨b12, 1, none⟩ = some (.string ⟨#[98]⟩) ∧ wN.cell? ⟨b12, 2, none⟩ = some (.bool true)) ∧ Below w8.heap.size w8 wN := by
  have h9 := h8.below h
  obtain ⟨_, hc⟩ := h9.cells
  have hq := hr.below h (Nat.le_refl _)
  exact ⟨⟨(hc 0 (by decide)).1, (hc 0 (by decide)).2.1, (hc 0 (by decide)).2.2.1, (hc 0 (by decide)).2.2.2, (hc 1 (by decide)).1, (hc 1 (by decide)).2.1, (hc 1 (by decide)).2.2.1, (hc 1 (by decide)).2.2.2, (hc 3 (by decide)).1, (hc 3 (by decide)).2.1, (hc 3 (by decide)).2.2.1, (hc 3 (by decide)).2.2.2, h9.2.2.2.1.c0, h9.2.2.2.1.c1, h9.2.2.2.1.c2, hq.c0, hq.c1, hq.c2⟩, h⟩
set_option maxRecDepth 100000 in
set_option maxHeartbeats 8000000 in
theorem awake12_any (w : World) : Calls Try.prog 10 #[] w fun e w' => e = .returned (.bool true) ∧ Below w.heap.size w w' := by
  go_enter Try.func10, Try.ntmps10
  go_wp2_with fail
  refine (ex_any _).mono ?_
  rintro e w1 ⟨Al, rfl, hl, hb1⟩
  obtain ⟨bl, off, rfl⟩ := es_some hl (by decide)
  go_wp2_with fail
  refine (exF _ _ _ hl).mono ?_
  rintro e w2 ⟨Aa, ca, rfl, ha, hb2⟩
  have hl2 := hl.below hb2 (Nat.le_refl _)
  have hb2' := eb_of hb1 hb2 (Nat.le_refl _)
  clear hl hb1 hb2
  go_wp2_with fail
  refine (exT _ _ _ hl2).mono ?_
  rintro e w3 ⟨Ab, cb, rfl, hbb, hb3⟩
  have hl3 := hl2.below hb3 (Nat.le_refl _)
  have ha3 := ha.below hb3 (Nat.le_refl _)
  have hb3' := eb_of hb2' hb3 (Nat.le_refl _)
  clear hl2 ha hb2' hb3
  go_wp2_with fail
  refine (exC _ _ _ hl3).mono ?_
  rintro e w4 ⟨rfl, hb4⟩
  have HZ : Hid (AwK w (w4.alloc (.cells #[.int .i64 2, .int .i64 2, .int .i64 1] 38)) (some ⟨bl, off, none⟩) Aa Ab w4.heap.size (w4.alloc (.cells #[.int .i64 2, .int .i64 2, .int .i64 1] 38))) := Lib.hid
    ⟨(hl3.below hb4 (Nat.le_refl _)).below (al1 _ _) (Nat.le_refl _), (ha3.below hb4 (Nat.le_refl _)).below (al1 _ _) (Nat.le_refl _), (hbb.below hb4 (Nat.le_refl _)).below (al1 _ _) (Nat.le_refl _), heap_alloc_new _ _, bl_al (eb_of hb3' hb4 (Nat.le_refl _)) (Nat.le_refl _) _, Below.refl _ _⟩
  clear hl3 ha3 hbb hb4 hb3'
  go_upto_region 5 with fail
  revert HZ
  generalize (w4.alloc (.cells #[.int .i64 2, .int .i64 2, .int .i64 1] 38)) = wz
  intro HZ
  generalize w4.heap.size = b8 at *
  have HK : Hid (∀ wN, Below wz.heap.size wz wN → (wN.cell? ⟨bl, off + 4, none⟩ = some (.string ⟨#[98]⟩) ∧ wN.cell? ⟨bl, off + 4 + 1, none⟩ = some (.string ⟨#[]⟩) ∧ wN.cell? ⟨bl, off + 4 + 2, none⟩ = some (.bool true) ∧ wN.cell? ⟨bl, off + 4 + 3, none⟩ = some (.int .i64 5)) ∧ Below wz.heap.size wz wN) := Lib.hid fun wN h => by
    obtain ⟨_, hc⟩ := (HZ.out.below h).cells
    exact ⟨⟨(hc 1 (by decide)).1, (hc 1 (by decide)).2.1, (hc 1 (by decide)).2.2.1, (hc 1 (by decide)).2.2.2⟩, h⟩
  go_cut [11, 12, 13] (fun kv bv ev wy => kv = .bool false ∧ ev = .int .i64 0 ∧ ∃ b12, bv = .pointer (some ⟨b12, 0, none⟩) ∧ Row3 wy b12 23 (.bool true) (.string ⟨#[98]⟩) (.bool true) ∧ Below wz.heap.size wz wy)
  case first =>
    have HD := Lib.hid (show Below wz.heap.size wz wz.drew from (Below.refl _ _).drew)
    have HFF := Lib.hid (Below.refl wz.heap.size wz)
    go_region_held3 (fun wN => (wN.cell? ⟨bl, off + 4, none⟩ = some (.string ⟨#[98]⟩) ∧ wN.cell? ⟨bl, off + 4 + 1, none⟩ = some (.string ⟨#[]⟩) ∧ wN.cell? ⟨bl, off + 4 + 2, none⟩ = some (.bool true) ∧ wN.cell? ⟨bl, off + 4 + 3, none⟩ = some (.int .i64 5)) ∧ Below wz.heap.size wz wN)
      ((refine HK.out _ ?_; first | with_reducible assumption | with_reducible exact HD.out | with_reducible exact bl_al (by assumption) (Nat.le_refl _) _ | with_reducible exact bAD HFF.out (Nat.le_refl _) _ | (with_reducible refine set3s (by assumption) ?_ _ _ _; first | exact Nat.le_refl _ | exact Below.size (by assumption))))
      (first
        | (go_at_call 13; refine (pBegin_any true _).mono ?_; rintro e w5 ⟨rfl, hb5⟩; (try have HR5 := Lib.hid (row_al hb5)); have hb6 : Below wz.heap.size wz w5 := eb_of (by first | with_reducible exact HD.out | with_reducible assumption | with_reducible exact bAD HFF.out (Nat.le_refl _) _ | exact And.right (by assumption)) hb5 (Nat.le_refl _); clear hb5)
        | (go_at_call 11; refine (exS _).mono ?_; rintro e w7 ⟨rfl, hb7⟩; (try have HR6 := Lib.hid (Row3.below HR5.out hb7 (Nat.le_refl _))); (try have HR6 := Lib.hid (row_al2 hb7)); (try (have e0 := HR6.out.c0; have e1 := HR6.out.c1; have e2 := HR6.out.c2; have e3 := HR6.out.fz 0; have e4 := HR6.out.fz 1; have e5 := HR6.out.fz 2)); have hb8 : Below wz.heap.size wz w7 := eb_of (by first | with_reducible assumption | with_reducible exact bl_al (by assumption) (Nat.le_refl _) _ | exact And.right (by assumption)) hb7 (Nat.le_refl _); clear hb7))
    all_goals
      go_wp2_with fail
      go_meet
    all_goals
      first
        | exact ⟨rfl, rfl, _, rfl, HR6.out.set _ _ _, set_of HR6.out hb8 (by first | exact Nat.le_refl _ | exact hb6.size) _ _ _⟩
        | exact ⟨rfl, rfl, _, rfl, heap_alloc_new _ _, bl_al hb8 (Nat.le_refl _) _⟩
  case rest =>
    obtain ⟨rfl, rfl, b12, rfl, hr12, hbw⟩ := hcut
    rename World => wy
    have HY := Lib.hid (HZ.out.below hbw)
    have HR12 := Lib.hid hr12
    clear hr12 hbw
    have HKy : Hid (∀ wN, Below wy.heap.size wy wN → (wN.cell? ⟨bl, off, none⟩ = some (.string ⟨#[97]⟩) ∧ wN.cell? ⟨bl, off + 1, none⟩ = some (.string ⟨#[]⟩) ∧ wN.cell? ⟨bl, off + 2, none⟩ = some (.bool false) ∧ wN.cell? ⟨bl, off + 3, none⟩ = some (.int .i64 1) ∧ wN.cell? ⟨bl, off + 4, none⟩ = some (.string ⟨#[98]⟩) ∧ wN.cell? ⟨bl, off + 4 + 1, none⟩ = some (.string ⟨#[]⟩) ∧ wN.cell? ⟨bl, off + 4 + 2, none⟩ = some (.bool true) ∧ wN.cell? ⟨bl, off + 4 + 3, none⟩ = some (.int .i64 5)) ∧ Below wy.heap.size wy wN) := Lib.hid fun wN h => by
      obtain ⟨_, hc⟩ := (HY.out.below h).cells
      exact ⟨⟨(hc 0 (by decide)).1, (hc 0 (by decide)).2.1, (hc 0 (by decide)).2.2.1, (hc 0 (by decide)).2.2.2, (hc 1 (by decide)).1, (hc 1 (by decide)).2.1, (hc 1 (by decide)).2.2.1, (hc 1 (by decide)).2.2.2⟩, h⟩
    have HDy := Lib.hid (show Below wy.heap.size wy wy.drew from (Below.refl _ _).drew)
    have HFy := Lib.hid (Below.refl wy.heap.size wy)
    go_wp2_with fail
    go_region_held3 (fun wN => (wN.cell? ⟨bl, off, none⟩ = some (.string ⟨#[97]⟩) ∧ wN.cell? ⟨bl, off + 1, none⟩ = some (.string ⟨#[]⟩) ∧ wN.cell? ⟨bl, off + 2, none⟩ = some (.bool false) ∧ wN.cell? ⟨bl, off + 3, none⟩ = some (.int .i64 1) ∧ wN.cell? ⟨bl, off + 4, none⟩ = some (.string ⟨#[98]⟩) ∧ wN.cell? ⟨bl, off + 4 + 1, none⟩ = some (.string ⟨#[]⟩) ∧ wN.cell? ⟨bl, off + 4 + 2, none⟩ = some (.bool true) ∧ wN.cell? ⟨bl, off + 4 + 3, none⟩ = some (.int .i64 5)) ∧ Below wy.heap.size wy wN)
      ((refine HKy.out _ ?_; first | with_reducible assumption | with_reducible exact HDy.out | with_reducible exact bl_al HDy.out (Nat.le_refl _) _ | with_reducible exact bAD HFy.out (Nat.le_refl _) _))
      ((go_at_call 18; refine (exN _ _ _ (by first | exact es_lit _ _ [l1, l0] (by simp [cellsE, l0, l1]) (by decide) | exact (es_lit _ _ [l1, l0] (by simp [cellsE, l0, l1]) (by decide)).below (Below.refl _ _).drew (Nat.le_refl _))).mono ?_; rintro e w8 ⟨An, cn, rfl, hb8⟩; have hb9 : Below wy.heap.size wy w8 := eb_of (by first | with_reducible exact bl_al HDy.out (Nat.le_refl _) _ | with_reducible exact bAD HFy.out (Nat.le_refl _) _ | exact And.right (by assumption)) hb8 (Nat.le_refl _); clear hb8))
    have HY8 := Lib.hid (HY.out.below hb9)
    have HR8 := Lib.hid (HR12.out.below hb9 (Nat.le_refl _))
    clear hb9 HR12 HY HKy HDy HFy
    have HE8 : Hid (∀ wN, Below w8.heap.size w8 wN → EsAt wN Aa [l0, l1, l3] ∧ EsAt wN Ab [l0, l3]) := Lib.hid fun wN h => ⟨(HY8.out.below h).2.1, (HY8.out.below h).2.2.1⟩
    have HK8 := Lib.hid (fun (wN : World) (h : Below w8.heap.size w8 wN) => aw_keep HY8.out HR8.out h)
    have HD8 := Lib.hid (show Below w8.heap.size w8 w8.drew from (Below.refl _ _).drew)
    have HF8 := Lib.hid (Below.refl w8.heap.size w8)
    have J7a : Hid (∀ (W : World) (g : Addr), EsAt W Aa [l0, l1, l3] → EsAt W (some g) [l0, l1, l3] → Calls Try.prog 22 #[.slice Aa 3 ca, .slice (some g) 3 3] W fun e w' => e = .returned (.bool true) ∧ Below W.heap.size W w') := Lib.hid fun W g h1 h2 => exSm Aa (some g) ca 3 [l0, l1, l3] 3 rfl (by decide) W h1 h2
    have J7b : Hid (∀ (W : World) (g : Addr), EsAt W Ab [l0, l3] → EsAt W (some g) [l0, l3] → Calls Try.prog 22 #[.slice Ab 2 cb, .slice (some g) 2 2] W fun e w' => e = .returned (.bool true) ∧ Below W.heap.size W w') := Lib.hid fun W g h1 h2 => exSm Ab (some g) cb 2 [l0, l3] 2 rfl (by decide) W h1 h2
    go_wp2_with fail
    go_region_held3 (fun wN => (wN.cell? ⟨bl, off, none⟩ = some (.string ⟨#[97]⟩) ∧ wN.cell? ⟨bl, off + 1, none⟩ = some (.string ⟨#[]⟩) ∧ wN.cell? ⟨bl, off + 2, none⟩ = some (.bool false) ∧ wN.cell? ⟨bl, off + 3, none⟩ = some (.int .i64 1) ∧ wN.cell? ⟨bl, off + 4, none⟩ = some (.string ⟨#[98]⟩) ∧ wN.cell? ⟨bl, off + 4 + 1, none⟩ = some (.string ⟨#[]⟩) ∧ wN.cell? ⟨bl, off + 4 + 2, none⟩ = some (.bool true) ∧ wN.cell? ⟨bl, off + 4 + 3, none⟩ = some (.int .i64 5) ∧ wN.cell? ⟨bl, off + 12, none⟩ = some (.string ⟨#[99]⟩) ∧ wN.cell? ⟨bl, off + 12 + 1, none⟩ = some (.string ⟨#[]⟩) ∧ wN.cell? ⟨bl, off + 12 + 2, none⟩ = some (.bool false) ∧ wN.cell? ⟨bl, off + 12 + 3, none⟩ = some (.int .i64 4) ∧ wN.cell? ⟨b8, 0, none⟩ = some (.int .i64 2) ∧ wN.cell? ⟨b8, 1, none⟩ = some (.int .i64 2) ∧ wN.cell? ⟨b8, 2, none⟩ = some (.int .i64 1) ∧ wN.cell? ⟨b12, 0, none⟩ = some (.bool true) ∧ wN.cell? ⟨b12, 1, none⟩ = some (.string ⟨#[98]⟩) ∧ wN.cell? ⟨b12, 2, none⟩ = some (.bool true)) ∧ Below w8.heap.size w8 wN)
      ((refine HK8.out _ ?_; first | with_reducible assumption | with_reducible exact HD8.out | with_reducible exact bl_al HD8.out (Nat.le_refl _) _ | with_reducible exact bAD HF8.out (Nat.le_refl _) _ | with_reducible exact bl_al (by assumption) (Nat.le_refl _) _))
      (first
        | (go_at_call 22; with_reducible refine Calls.mono (J7a.out _ _ ?_ ?_) ?_; exact (HE8.out _ (by first | with_reducible exact bl_al HD8.out (Nat.le_refl _) _ | with_reducible exact bAD HF8.out (Nat.le_refl _) _)).1; (first | with_reducible exact es_lit _ _ [l0, l1, l3] h3c h3l | with_reducible exact es_litD _ _ [l0, l1, l3] h3c h3l); rintro e w9 ⟨rfl, hb9⟩; have hb10 : Below w8.heap.size w8 w9 := eb_of (by first | with_reducible exact bl_al HD8.out (Nat.le_refl _) _ | with_reducible exact bAD HF8.out (Nat.le_refl _) _ | exact And.right (by assumption)) hb9 (Nat.le_refl _); clear hb9)
        | (go_at_call 22; with_reducible refine Calls.mono (J7b.out _ _ ?_ ?_) ?_; exact (HE8.out _ (by with_reducible exact bl_al (by assumption) (Nat.le_refl _) _)).2; with_reducible exact es_lit _ _ [l0, l3] h2c h3l2; rintro e w11 ⟨rfl, hb11⟩; have hb12 : Below w8.heap.size w8 w11 := eb_of (by with_reducible exact bl_al (by assumption) (Nat.le_refl _) _) hb11 (Nat.le_refl _); clear hb11))
    all_goals
      go_wp2_with fail
      go_ret
      exact ⟨rfl, eb_of HY8.out.2.2.2.2.1 hb12 (Nat.le_refl _)⟩
end Go.Proofs.Ytlobkbhghpknmaa.KK
