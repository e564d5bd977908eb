/-
  Merges: the example's contracts.
-/
import Derived.Test.YtebjhjmlpodkgaaPu
import Derived.Test.YtebjhjmlpodkgaaHa
import Derived.Test.YtebjhjmlpodkgaaLr
import Derived.Laws.OwnMore
namespace Go.Proofs.Ytebjhjmlpodkgaa.KK
open Go.ChangeShapes Go.WideShapes Go.ChangeAt Go.RowKit Go.Proofs

theorem Gd.of_best {xss : List (List El.En)} {a : List Int} (h : Gd xss a) {b : Nat} (hb : bestA xss a xss.length = (b : Nat)) : doneB xss a = false ∧ winA xss a = b := by
  have := h.best
  rw [hb] at this
  cases hd : doneB xss a with
  | true => rw [hd, if_pos rfl] at this; omega
  | false => rw [hd, if_neg (by simp)] at this; exact ⟨rfl, by omega⟩
theorem Gd.of_none {xss : List (List El.En)} {a : List Int} (h : Gd xss a) (hb : bestA xss a xss.length = -1) : doneB xss a = true := by
  have := h.best
  rw [hb] at this
  cases hd : doneB xss a with
  | true => rfl
  | false => rw [hd, if_neg (by simp)] at this; omega
def x0 : El.En := (⟨#[98]⟩, ⟨#[]⟩, true, 9)
def x1 : El.En := (⟨#[97]⟩, ⟨#[49]⟩, false, 1)
def x2 : El.En := (⟨#[98]⟩, ⟨#[50]⟩, false, 2)
def x3 : El.En := (⟨#[99]⟩, ⟨#[51]⟩, false, 3)
def exX : List (List El.En) := [[x0], [x1, x2, x3]]
def exRs (g0 g1 : Nat) : List Rn := [(some ⟨g0, 0, none⟩, 1, [x0]), (some ⟨g1, 0, none⟩, 3, [x1, x2, x3])]
theorem ex_ess (g0 g1 : Nat) : ess (exRs g0 g1) = exX := rfl
theorem ex_clip (g0 g1 : Nat) : (exRs g0 g1).map clipR = exRs g0 g1 := rfl
theorem ex_runs : (runsE exX).2 = 0 := by decide +kernel
theorem ex_sz (g0 g1 : Nat) : SizedR (exRs g0 g1) := fun r hr => by
  simp only [exRs, List.mem_cons, List.not_mem_nil, or_false] at hr
  rcases hr with rfl | rfl
  · exact ⟨by simp, fun x hx => by simp at hx; subst hx; decide⟩
  · exact ⟨by simp, fun x hx => by simp at hx; rcases hx with rfl | rfl | rfl <;> decide⟩
theorem ex_cap (g0 g1 : Nat) : CapR (exRs g0 g1) := fun r hr => by
  simp only [exRs, List.mem_cons, List.not_mem_nil, or_false] at hr
  rcases hr with rfl | rfl
  · exact ⟨by simp, fun e => by cases e⟩
  · exact ⟨by simp, fun e => by cases e⟩
theorem ex_gd {a b : Int} (ha : 0 ≤ a ∧ a ≤ 1) (hb : 0 ≤ b ∧ b ≤ 3) : Gd exX [a, b] := ⟨ex_runs, rfl, fun i h h' => by
  match i, h with
  | 0, _ => exact ha
  | 1, _ => exact hb⟩
theorem ex_w0 : doneB exX [0, 0] = false ∧ winA exX [0, 0] = 1 := (ex_gd (by decide) (by decide)).of_best (b := 1) (by decide +kernel)
theorem ex_w1 : doneB exX [0, 1] = false ∧ winA exX [0, 1] = 0 := (ex_gd (by decide) (by decide)).of_best (b := 0) (by decide +kernel)
theorem ex_w2 : doneB exX [1, 1] = false ∧ winA exX [1, 1] = 1 := (ex_gd (by decide) (by decide)).of_best (b := 1) (by decide +kernel)
theorem ex_w3 : doneB exX [1, 2] = false ∧ winA exX [1, 2] = 1 := (ex_gd (by decide) (by decide)).of_best (b := 1) (by decide +kernel)
theorem ex_w4 : doneB exX [1, 3] = true := (ex_gd (by decide) (by decide)).of_none (by decide +kernel)
theorem ex_n0 : nextA exX [0, 0] = [0, 1] ∧ entA exX [0, 0] = x1 := by unfold nextA entA; rw [ex_w0.2]; exact ⟨rfl, rfl⟩
theorem ex_n1 : nextA exX [0, 1] = [1, 1] ∧ entA exX [0, 1] = x0 := by unfold nextA entA; rw [ex_w1.2]; exact ⟨rfl, rfl⟩
theorem ex_n2 : nextA exX [1, 1] = [1, 2] ∧ entA exX [1, 1] = x2 := by unfold nextA entA; rw [ex_w2.2]; exact ⟨rfl, rfl⟩
theorem ex_n3 : nextA exX [1, 2] = [1, 3] ∧ entA exX [1, 2] = x3 := by unfold nextA entA; rw [ex_w3.2]; exact ⟨rfl, rfl⟩
theorem ex_g0 : Gd exX [0, 0] := ex_gd (by decide) (by decide)
theorem ex_g2 : Gd exX [1, 2] := ex_gd (by decide) (by decide)
theorem ex_g3 : Gd exX [1, 3] := ex_gd (by decide) (by decide)
theorem ex_mS : mS exX [0, 0] = [(x1, 1, [0, 1]), (x0, 0, [1, 1]), (x2, 1, [1, 2]), (x3, 1, [1, 3])] := by
  rw [ex_g0.step ex_w0.1, ex_n0.1, ex_n0.2, ex_w0.2, Gd.step (ex_gd (by decide) (by decide)) ex_w1.1, ex_n1.1, ex_n1.2, ex_w1.2, Gd.step (ex_gd (by decide) (by decide)) ex_w2.1, ex_n2.1, ex_n2.2, ex_w2.2, Gd.step (ex_gd (by decide) (by decide)) ex_w3.1, ex_n3.1, ex_n3.2, ex_w3.2, mS_done ex_w4]
theorem ex_i0 : Inv exX [0, 0] := inv_zeros 2
theorem ex_p3 : pN exX [0, 0] 3 = [1, 2] := by
  show nextA exX (nextA exX (nextA exX [0, 0])) = _
  rw [ex_n0.1, ex_n1.1, ex_n2.1]
theorem ex_l0 : left exX [0, 0] = 4 := rfl
theorem ex_i2 : Inv exX [1, 2] := by rw [← ex_p3]; exact ex_g0.pN_inv ex_i0 (by rw [ex_l0]; decide)
theorem ex_i3 : Inv exX [1, 3] := by rw [← ex_n3.1]; exact ex_g2.inv_next ex_w3.1 ex_i2
theorem ex_sk : skN (mS exX [0, 0]) ⟨#[99]⟩ = 3 := by rw [ex_mS]; decide +kernel
theorem es_lit (W : World) (cs : Array Value) (xs : List El.En) (h : cs.toList = cellsE xs) (hn : xs.length ≤ 1000) : EsAt (W.alloc (.cells cs 45)) (some ⟨W.heap.size, 0, none⟩) xs := by
  have hl : cs.size = xs.length * 4 := by rw [← Array.length_toList, h, cellsE_len]
  have := World.ownsRow_lit (base := 0) (e := 45) (size := 4) W cs xs.length (Nat.zero_le _) (by unfold maxLen; omega) hl
  rw [h] at this
  exact EsAt.of_own this
theorem two_cells {W : World} {k : Nat} {a b : Value} {t : TypeId} {f : Nat × Nat} (h : W.heap[k]? = some (.cells #[a, b] t f)) : W.cell? ⟨k, 0, none⟩ = some a ∧ W.cell? ⟨k, 1, none⟩ = some b := by
  constructor <;> simp [World.cell?, h]
set_option maxRecDepth 100000 in
set_option maxHeartbeats 1000000 in
theorem ex_any11 (w : World) : Calls Try.prog 43 #[] w fun e w' => ∃ gr g0 g1, e = .returned (.slice (some ⟨gr, 0, none⟩) 2 2) ∧ RsAt w' (some ⟨gr, 0, none⟩) (exRs g0 g1) ∧ Below w.heap.size w w' := by
  have ea := es_lit w #[.string x0.1, .string x0.2.1, .bool x0.2.2.1, .int .i64 x0.2.2.2] [x0] rfl (by decide)
  obtain ⟨wa, hwa⟩ : ∃ wa, w.alloc (.cells #[.string x0.1, .string x0.2.1, .bool x0.2.2.1, .int .i64 x0.2.2.2] 45) = wa := ⟨_, rfl⟩
  have hba : Below w.heap.size w wa := hwa ▸ alloc_below _ _
  rw [hwa] at ea
  have ebb := es_lit wa #[.string x1.1, .string x1.2.1, .bool x1.2.2.1, .int .i64 x1.2.2.2, .string x2.1, .string x2.2.1, .bool x2.2.2.1, .int .i64 x2.2.2.2, .string x3.1, .string x3.2.1, .bool x3.2.2.1, .int .i64 x3.2.2.2] [x1, x2, x3] rfl (by decide)
  obtain ⟨wb, hwb⟩ : ∃ wb, wa.alloc (.cells #[.string x1.1, .string x1.2.1, .bool x1.2.2.1, .int .i64 x1.2.2.2, .string x2.1, .string x2.2.1, .bool x2.2.2.1, .int .i64 x2.2.2.2, .string x3.1, .string x3.2.1, .bool x3.2.2.1, .int .i64 x3.2.2.2] 45) = wb := ⟨_, rfl⟩
  have hbb : Below wa.heap.size wa wb := hwb ▸ alloc_below _ _
  rw [hwb] at ebb
  have hsa : wa.heap.size = w.heap.size + 1 := by rw [← hwa]; simp
  have HR : Hid (RsAt (wb.alloc (.cells #[.slice (some ⟨w.heap.size, 0, none⟩) 1 1, .slice (some ⟨wa.heap.size, 0, none⟩) 3 3] 34)) (some ⟨wb.heap.size, 0, none⟩) (exRs w.heap.size wa.heap.size)) := Lib.hid (by
    have hal := alloc_below wb (.cells #[.slice (some ⟨w.heap.size, 0, none⟩) 1 1, .slice (some ⟨wa.heap.size, 0, none⟩) 3 3] 34)
    have hn := heap_alloc_new wb (.cells #[.slice (some ⟨w.heap.size, 0, none⟩) 1 1, .slice (some ⟨wa.heap.size, 0, none⟩) 3 3] 34)
    refine .inr ⟨wb.heap.size, 0, rfl, by simp, fun i hi => ?_⟩
    match i, hi with
    | 0, _ => exact ⟨(two_cells hn).1, (ea.below hbb (Nat.le_refl _)).below hal (Nat.le_refl _)⟩
    | 1, _ => exact ⟨(two_cells hn).2, ebb.below hal (Nat.le_refl _)⟩)
  have HB : Hid (Below w.heap.size w (wb.alloc (.cells #[.slice (some ⟨w.heap.size, 0, none⟩) 1 1, .slice (some ⟨wa.heap.size, 0, none⟩) 3 3] 34))) := Lib.hid (eb_of (eb_of hba hbb (Nat.le_refl _)) (alloc_below _ _) (Nat.le_refl _))
  clear ea ebb hba hbb hsa
  simp only [x0, x1, x2, x3] at hwa hwb
  go_enter Try.func43, Try.ntmps43
  go_wp2_with fail
  go_ret
  exact ⟨_, _, _, rfl, HR.out, HB.out⟩
/-- a state over the example's runs lies there -/
abbrev RdX (w : World) (gr ga gk gl g0 g1 : Nat) (a : List Int) : Prop := RdOk w (some ⟨ga, 0, none⟩) (some ⟨gk, 0, none⟩) (some ⟨gl, 0, none⟩) (some ⟨gr, 0, none⟩) (exRs g0 g1) a
theorem ex_all (A : Option Addr) (g0 g1 c : Nat) (w : World) (h : RsAt w A (exRs g0 g1)) : Calls Try.prog 17 #[.slice A 2 c] w fun e w' => ∃ A' B' c' d', e = .returned (.tuple #[.slice A' 4 c', .slice B' 4 d', .int .i64 0]) ∧ EsAt w' A' [x1, x0, x2, x3] ∧ IsAt w' B' [1, 0, 1, 1] ∧ Below w.heap.size w w' := by
  refine (all_ok A c (exRs g0 g1) w h (ex_sz g0 g1) ex_runs).mono ?_
  rintro e w' ⟨A', B', c', d', he, h1, h2, _, _, _, _, hb⟩
  have hm : mS (ess (exRs g0 g1)) (zerosA (exRs g0 g1).length) = [(x1, 1, [0, 1]), (x0, 0, [1, 1]), (x2, 1, [1, 2]), (x3, 1, [1, 3])] := ex_mS
  rw [hm] at he h1 h2
  exact ⟨A', B', c', d', he, h1, h2, hb⟩
theorem ex_begin (A : Option Addr) (g0 g1 c : Nat) (w : World) (h : RsAt w A (exRs g0 g1)) : Calls Try.prog 15 #[.slice A 2 c] w fun e w' => ∃ gr ga gk gl c1 c2 c3 c4 : Nat, e = .returned (.tuple #[.agg #[.slice (some ⟨gr, 0, none⟩) 2 c1, .slice (some ⟨ga, 0, none⟩) 2 c2, .slice (some ⟨gk, 0, none⟩) 2 c3, .slice (some ⟨gl, 0, none⟩) 2 c4, .int .i64 1], .int .i64 0, .int .i64 0]) ∧ RdX w' gr ga gk gl g0 g1 [0, 0] ∧ Below w.heap.size w w' := by
  refine (begin_ok A c (exRs g0 g1) w h (ex_sz g0 g1) (ex_cap g0 g1) ex_runs).mono ?_
  rintro e w' ⟨gr, ga, gk, gl, c1, c2, c3, c4, he, hst⟩
  have hz : winA (ess (exRs g0 g1)) (zerosA (exRs g0 g1).length) = 1 := ex_w0.2
  rw [hz] at he
  exact ⟨gr, ga, gk, gl, c1, c2, c3, c4, he, hst.rd h.each, hst.below⟩
theorem ex_peek (gr ga gk gl g0 g1 c1 c2 c3 c4 : Nat) (w : World) (h : RdX w gr ga gk gl g0 g1 [0, 0]) : Calls Try.prog 24 #[.agg #[.slice (some ⟨gr, 0, none⟩) 2 c1, .slice (some ⟨ga, 0, none⟩) 2 c2, .slice (some ⟨gk, 0, none⟩) 2 c3, .slice (some ⟨gl, 0, none⟩) 2 c4, .int .i64 1]] w fun e w' => e = .returned (.tuple #[.agg #[.string ⟨#[97]⟩, .string ⟨#[49]⟩, .bool false, .int .i64 1], .int .i64 1, .int .i64 0]) ∧ Below w.heap.size w w' := by
  have K := peek_good _ _ _ _ c1 c2 c3 c4 2 (exRs g0 g1) [0, 0] w rfl ex_g0 ex_i0 h (ex_sz g0 g1) (ex_cap g0 g1)
  unfold PeekOut at K
  rw [ex_ess, ex_w0.1, ex_w0.2, ex_n0.2] at K
  refine K.mono ?_
  rintro e w' (⟨h, _⟩ | ⟨_, rfl, hb⟩)
  · cases h
  · exact ⟨rfl, hb⟩
theorem ex_skip (gr ga gk gl g0 g1 c1 c2 c3 c4 : Nat) (w : World) (h : RdX w gr ga gk gl g0 g1 [0, 0]) : Calls Try.prog 30 #[.agg #[.slice (some ⟨gr, 0, none⟩) 2 c1, .slice (some ⟨ga, 0, none⟩) 2 c2, .slice (some ⟨gk, 0, none⟩) 2 c3, .slice (some ⟨gl, 0, none⟩) 2 c4, .int .i64 1], .string ⟨#[99]⟩] w fun e w' => ∃ hr ha hk hl d1 d2 d3 d4 : Nat, e = .returned (.tuple #[.agg #[.slice (some ⟨hr, 0, none⟩) 2 d1, .slice (some ⟨ha, 0, none⟩) 2 d2, .slice (some ⟨hk, 0, none⟩) 2 d3, .slice (some ⟨hl, 0, none⟩) 2 d4, .int .i64 1], .int .i64 0]) ∧ RdX w' hr ha hk hl g0 g1 [1, 2] ∧ Below w.heap.size w w' := by
  have K := skip_good _ _ _ _ c1 c2 c3 c4 2 (exRs g0 g1) [0, 0] ⟨#[99]⟩ w rfl ex_g0 ex_i0 h (ex_sz g0 g1) (ex_cap g0 g1)
  unfold SkipOut at K
  rw [ex_ess, ex_w0.2, ex_sk, ex_p3, ex_w3.2] at K
  refine K.mono ?_
  rintro e w' ⟨hr, ha, hk, hl, d1, d2, d3, d4, he, hst⟩
  exact ⟨hr, ha, hk, hl, d1, d2, d3, d4, he, hst.rd h.runs.each, hst.below⟩
theorem ex_next (gr ga gk gl g0 g1 c1 c2 c3 c4 : Nat) (w : World) (h : RdX w gr ga gk gl g0 g1 [1, 2]) : Calls Try.prog 26 #[.agg #[.slice (some ⟨gr, 0, none⟩) 2 c1, .slice (some ⟨ga, 0, none⟩) 2 c2, .slice (some ⟨gk, 0, none⟩) 2 c3, .slice (some ⟨gl, 0, none⟩) 2 c4, .int .i64 1]] w fun e w' => ∃ (hr ha hk hl d1 d2 d3 d4 : Nat) (wn : Nat), wn = winA exX [1, 3] ∧ e = .returned (.tuple #[.agg #[.string ⟨#[99]⟩, .string ⟨#[51]⟩, .bool false, .int .i64 3], .int .i64 1, .agg #[.slice (some ⟨hr, 0, none⟩) 2 d1, .slice (some ⟨ha, 0, none⟩) 2 d2, .slice (some ⟨hk, 0, none⟩) 2 d3, .slice (some ⟨hl, 0, none⟩) 2 d4, .int .i64 (wn : Nat)], .int .i64 0]) ∧ RdX w' hr ha hk hl g0 g1 [1, 3] ∧ Below w.heap.size w w' := by
  have K := next_good _ _ _ _ c1 c2 c3 c4 2 (exRs g0 g1) [1, 2] w rfl ex_g2 ex_i2 h (ex_sz g0 g1) (ex_cap g0 g1)
  unfold NextOut at K
  rw [ex_ess, ex_w3.1, ex_w3.2, ex_n3.1, ex_n3.2] at K
  refine K.mono ?_
  rintro e w' (⟨h, _⟩ | ⟨_, hr, ha, hk, hl, d1, d2, d3, d4, rfl, hst⟩)
  · cases h
  · exact ⟨hr, ha, hk, hl, d1, d2, d3, d4, _, rfl, rfl, hst.rd h.runs.each, hst.below⟩
theorem ex_peek2 (gr ga gk gl g0 g1 c1 c2 c3 c4 wn : Nat) (w : World) (hw : wn = winA exX [1, 3]) (h : RdX w gr ga gk gl g0 g1 [1, 3]) : Calls Try.prog 24 #[.agg #[.slice (some ⟨gr, 0, none⟩) 2 c1, .slice (some ⟨ga, 0, none⟩) 2 c2, .slice (some ⟨gk, 0, none⟩) 2 c3, .slice (some ⟨gl, 0, none⟩) 2 c4, .int .i64 (wn : Nat)]] w fun e w' => e = .returned (.tuple #[.agg #[.string ⟨#[]⟩, .string ⟨#[]⟩, .bool false, .int .i64 0], .int .i64 0, .int .i64 12]) ∧ Below w.heap.size w w' := by
  subst hw
  have K := peek_good _ _ _ _ c1 c2 c3 c4 2 (exRs g0 g1) [1, 3] w rfl ex_g3 ex_i3 h (ex_sz g0 g1) (ex_cap g0 g1)
  unfold PeekOut at K
  rw [ex_ess, ex_w4] at K
  refine K.mono ?_
  rintro e w' (⟨_, rfl, hb⟩ | ⟨h, _⟩)
  · exact ⟨rfl, hb⟩
  · cases h
/-- the bad state -/
def bKs : List LK := [(⟨#[98]⟩, false), (⟨#[]⟩, true)]
theorem b_gd : Gd exX [0, 3] := ex_gd (by decide) (by decide)
theorem b_w : doneB exX [0, 3] = false ∧ winA exX [0, 3] = 0 := b_gd.of_best (b := 0) (by decide +kernel)
theorem b_ks : nks exX [0, 3] = bKs := rfl
theorem b_lo : loL bKs = [0, 1] := by
  have a := Lo.pl_leaf (wn bKs) 2 0
  have b := Lo.pl_leaf (wn bKs) 2 1
  have h : Lo.lo (wn bKs) 2 1 = 1 := by
    unfold Lo.lo
    show (if wn bKs (Lo.pl (wn bKs) 2 (2 + 0)) (Lo.pl (wn bKs) 2 (2 + 1)) then Lo.pl (wn bKs) 2 (2 + 1) else Lo.pl (wn bKs) 2 (2 + 0)) = 1
    rw [a, b, show wn bKs 0 1 = true by decide +kernel]; rfl
  unfold loL
  show List.map _ _ = _
  simp [bKs, List.range, List.range.loop] at h ⊢
  omega
theorem b_chk : chkS exX [0, 3] bKs [0, 1] 0 = (0, 6) := by
  have h1 : (atE11 exX [0, 3]).2 = 0 := by decide +kernel
  have h2 : nxB exX [0, 3] bKs [0, 1] 0 = true := by
    unfold nxB
    have := chkT_self b_gd.keys
    rw [b_ks, b_lo, show wnr bKs = 0 from b_w.2] at this
    have e : chkT bKs [0, 1] 0 = (0, 0) := this
    rw [b_ks, e]; simp
  unfold chkS
  rw [if_neg (by rw [ex_runs]; simp), if_neg (by rw [h1]; simp), if_neg (by rw [h2]; simp)]
  unfold ordE
  rw [b_w.1, if_neg (by simp), if_pos, b_w.2]
  · rfl
  · unfold badA
    rw [b_w.2]
    decide +kernel
theorem ex_check (A B K L : Option Addr) (g0 g1 c1 c2 c3 c4 : Nat) (w : World) (h : RsAt w A (exRs g0 g1)) (hi : IsAt w B [0, 3]) (hk : KsAt w K bKs) (hl : IsAt w L [0, 1]) : Calls Try.prog 22 #[.agg #[.slice A 2 c1, .slice B 2 c2, .slice K 2 c3, .slice L 2 c4, .int .i64 0]] w fun e w' => e = .returned (.tuple #[.int .i64 0, .int .i64 6]) ∧ Below w.heap.size w w' := by
  have K := check11_any A B K L c1 c2 c3 c4 (exRs g0 g1) [0, 3] bKs [0, 1] 0 w ⟨h, hi, hk, hl⟩ ⟨by simp [exRs], by decide, by decide, by decide, ex_sz g0 g1, by decide⟩
  rw [ex_ess, b_chk] at K
  exact K
end Go.Proofs.Ytebjhjmlpodkgaa.KK
