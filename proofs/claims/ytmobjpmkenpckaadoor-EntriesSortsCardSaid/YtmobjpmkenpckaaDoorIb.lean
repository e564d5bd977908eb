/-
  One list over another: what the iterator keeps, and its contract.
-/
import Derived.Test.YtmobjpmkenpckaaDoorIa
namespace Go.Proofs.YtmobjpmkenpckaaDoor.KK
open Go.ChangeShapes Go.WideShapes Go.ChangeAt Go.RowKit Go.Proofs Go.Sort
attribute [local go_sem] Oper.semAt_some

/-- block k is not the row that the list in the cell P lies in -/
def NotRow (P k : Nat) (W : World) : Prop := ∀ v, W.cell? ⟨P, 0, none⟩ = some v → v.ownBlock ≠ some k
/-- the row lies among the blocks made since -/
def OvR (P : Nat) (W : World) : Prop := P + 5 ≤ W.heap.size ∧ ∀ v, W.cell? ⟨P, 0, none⟩ = some v → ∀ r, v.ownBlock = some r → P + 6 ≤ r ∧ r < W.heap.size
/-- what a round leaves as it was -/
def OvK (P : Nat) (A A' : World) : Prop := A.heap.size ≤ A'.heap.size ∧ ∀ k, k < A.heap.size → k ≠ P → k ≠ P + 3 → k ≠ P + 4 → NotRow P k A → A'.heap[k]? = A.heap[k]? ∧ NotRow P k A'
theorem OvK.refl (P : Nat) (A : World) : OvK P A A := ⟨Nat.le_refl _, fun _ _ _ _ _ h => ⟨rfl, h⟩⟩
theorem OvK.trans {P : Nat} {A B C : World} (h : OvK P A B) (g : OvK P B C) : OvK P A C :=
  ⟨Nat.le_trans h.1 g.1, fun k h1 h2 h3 h4 h5 => by
    obtain ⟨a1, a2⟩ := h.2 k h1 h2 h3 h4 h5
    obtain ⟨b1, b2⟩ := g.2 k (Nat.lt_of_lt_of_le h1 h.1) h2 h3 h4 a2
    exact ⟨b1.trans a1, b2⟩⟩
theorem NotRow.same {P k : Nat} {A A' : World} (h : NotRow P k A) (e : A'.heap[P]? = A.heap[P]?) : NotRow P k A' :=
  fun v hv => h v (by rwa [World.cell?_of_block (a := ⟨P, 0, none⟩) e] at hv)
theorem OvK.of_below {P : Nat} {A A' : World} (hP : P < A.heap.size) (h : Below A.heap.size A A') : OvK P A A' :=
  ⟨h.size, fun k h1 _ _ _ h5 => ⟨h.block k h1, h5.same (h.block P hP)⟩⟩
theorem OvR.low {P k : Nat} {A : World} (h : OvR P A) (hk : k < P + 6) : NotRow P k A := fun v hv e => by
  have := (h.2 v hv k e).1; omega
theorem OvR.lt {P : Nat} {A : World} (h : OvR P A) : P < A.heap.size := by have := h.1; omega
/-- the box of an entry, behind whatever rounds -/
theorem ov_box {P : Nat} {W : World} (hR : OvR P W) (k v : ByteArray) (d : Bool) (q : Int) : Hid (∀ W', OvK P (W.alloc (.cells #[.string k, .string v, .bool d, .int .i64 q] 33)) W' →
    W'.cell? ⟨W.heap.size, 0, none⟩ = some (.string k) ∧ W'.cell? ⟨W.heap.size, 1, none⟩ = some (.string v) ∧ W'.cell? ⟨W.heap.size, 2, none⟩ = some (.bool d) ∧ W'.cell? ⟨W.heap.size, 3, none⟩ = some (.int .i64 q) ∧ W.heap.size < W'.heap.size) := Lib.hid fun W' h => by
  have hs := hR.1
  have hn : NotRow P W.heap.size (W.alloc (.cells #[.string k, .string v, .bool d, .int .i64 q] 33)) := fun u hu e => by
    rw [cell_alloc_old (by omega)] at hu
    have := (hR.2 u hu _ e).2; omega
  have hb := (h.2 W.heap.size (by simp) (by omega) (by omega) (by omega) hn).1
  rw [heap_alloc_new] at hb
  have r1 := fun i => cell_of_row W' W.heap.size i _ _ _ hb
  exact ⟨(r1 0).trans rfl, (r1 1).trans rfl, (r1 2).trans rfl, (r1 3).trans rfl, by have := h.1; simp at this; omega⟩
def encE1 (x : El.En) : Array Value := #[.agg #[.string x.1, .string x.2.1, .bool x.2.2.1, .int .i64 x.2.2.2]]
/-- what a round answers -/
def OvY (n l P : Nat) (S : List El.En) (J Jx : List El.En → World → Prop) : Prop :=
  ∀ pre x W1, J pre W1 → (pre ++ [x]) <+: S → YieldAt Fence.wide (n - 1) Tryd.prog l (encE1 x) W1 fun e W' =>
      (e = .returned (.bool true) ∧ J (pre ++ [x]) W' ∧ OvK P W1 W') ∨ (e = .returned (.bool false) ∧ Jx (pre ++ [x]) W')
/-- the iterator's state between two steps: how far both lists are read, what has come -/
def OvS (xs ys : List El.En) (J : List El.En → World → Prop) (at_ i : Nat) (pre : List El.En) (W : World) : Prop :=
  ovr xs ys = pre ++ ovr (xs.drop at_) (ys.drop i) ∧ J pre W
theorem ovr_lt {xs ys : List El.En} {a i : Nat} (ha : a < xs.length) (hi : i < ys.length) (h : kl xs[a] ys[i] = true) : ovr (xs.drop a) (ys.drop i) = xs[a] :: ovr (xs.drop (a + 1)) (ys.drop i) := by
  rw [List.drop_eq_getElem_cons ha, List.drop_eq_getElem_cons hi, ovr, if_pos h]
theorem ovr_eq {xs ys : List El.En} {a i : Nat} (ha : a < xs.length) (hi : i < ys.length) (h : kl xs[a] ys[i] = false) (e : xs[a].1 = ys[i].1) : ovr (xs.drop a) (ys.drop i) = ys[i] :: ovr (xs.drop (a + 1)) (ys.drop (i + 1)) := by
  rw [List.drop_eq_getElem_cons ha, List.drop_eq_getElem_cons hi, ovr, if_neg (by rw [h]; simp), if_pos e]
theorem ovr_gt {xs ys : List El.En} {a i : Nat} (ha : a < xs.length) (hi : i < ys.length) (h : kl xs[a] ys[i] = false) (e : xs[a].1 ≠ ys[i].1) : ovr (xs.drop a) (ys.drop i) = ys[i] :: ovr (xs.drop a) (ys.drop (i + 1)) := by
  conv => lhs; rw [List.drop_eq_getElem_cons ha, List.drop_eq_getElem_cons hi, ovr, if_neg (by rw [h]; simp), if_neg e]
  rw [← List.drop_eq_getElem_cons ha]
theorem ovr_no {xs ys : List El.En} {a i : Nat} (ha : ¬ a < xs.length) (hi : i < ys.length) : ovr (xs.drop a) (ys.drop i) = ys[i] :: ovr (xs.drop a) (ys.drop (i + 1)) := by
  rw [List.drop_eq_nil_of_le (by omega), ovr_nil_left, ovr_nil_left, ← List.drop_eq_getElem_cons hi]
theorem ovr_fin {xs ys : List El.En} {a i : Nat} (hi : ¬ i < ys.length) : ovr (xs.drop a) (ys.drop i) = xs.drop a := by
  rw [show ys.drop i = [] from List.drop_eq_nil_of_le (by omega), ovr_nil_right]
theorem OvS.pre {xs ys : List El.En} {J : List El.En → World → Prop} {a i : Nat} {pre t : List El.En} {W : World} {x : El.En} (h : OvS xs ys J a i pre W) (e : ovr (xs.drop a) (ys.drop i) = x :: t) : (pre ++ [x]) <+: ovr xs ys :=
  ⟨t, by rw [h.1, e]; simp⟩
theorem OvS.next {xs ys : List El.En} {J : List El.En → World → Prop} {a i a' i' : Nat} {pre : List El.En} {W W' : World} {x : El.En} (h : OvS xs ys J a i pre W) (e : ovr (xs.drop a) (ys.drop i) = x :: ovr (xs.drop a') (ys.drop i')) (hJ : J (pre ++ [x]) W') : OvS xs ys J a' i' (pre ++ [x]) W' :=
  ⟨by rw [h.1, e]; simp, hJ⟩
theorem kl_ord {x y : El.En} : kl x y = true ↔ Kl.ord (Kl.L x.1) (Kl.L y.1) < 0 := by
  rw [Kl.ord_neg]; exact Iff.rfl
def abv2 {w : World} (p : Abv w) (q : Abv p.world) : Abv w := ⟨q.world, p.h.trans (q.h.mono p.h.size)⟩
theorem abv_up {w : World} {a : Addr} {v : Value} (h : ∀ p : Abv w, p.world.cell? a = some v) (p : Abv w) : ∀ q : Abv p.world, q.world.cell? a = some v := fun q => h (abv2 p q)
theorem cell_lt {w : World} {b o : Nat} {v : Value} (h : w.cell? ⟨b, o, none⟩ = some v) : b < w.heap.size := World.block_lt_of_cell? w _ h
theorem abv_c {w1 : World} {b o : Nat} {v : Value} (h : w1.cell? ⟨b, o, none⟩ = some v) : ∀ p : Abv w1, p.world.cell? ⟨b, o, none⟩ = some v := abv_cell (cell_lt h) h
theorem abv_self {w : World} {a : Addr} {v : Value} (h : ∀ p : Abv w, p.world.cell? a = some v) : w.cell? a = some v := h ⟨w, Below.refl _ _⟩
theorem alloc_below (w : World) (o : Obj) : Below w.heap.size w (w.alloc o) := (Below.refl _ _).alloc (Nat.le_refl _) _
set_option maxRecDepth 100000 in
set_option maxHeartbeats 8000000 in
theorem layered1_in (n P Bf Bo : Nat) (xs ys : List El.En) (Ao Af : Option Addr) (co cf l : Nat) (w : World) (hw : w.heap.size = P + 5)
    (hx : ∀ x ∈ xs, El.chk x = 0) (hy0 : ∀ x ∈ ys, El.chk x = 0) (hxl : xs.length ≤ 5000) (hyl : ys.length ≤ 5000) (hco : xs.length ≤ co)
    (hbo : ∀ W, OvK P w W → W.cell? ⟨Bo, 0, none⟩ = some (.slice Ao xs.length co)) (hbf : ∀ W, OvK P w W → W.cell? ⟨Bf, 0, none⟩ = some (.slice Af ys.length cf))
    (hfo : ∀ W, OvK P w W → EsAt W Ao xs) (hff : ∀ W, OvK P w W → EsAt W Af ys)
    (J Jx : List El.En → World → Prop) (hJ : ∀ pre A A', J pre A → Below A.heap.size A A' → J pre A') (hJR : ∀ pre A, J pre A → OvR P A)
    (hY : OvY n l P (ovr xs ys) J Jx) (h0 : J [] w) :
    CallsIn Fence.wide n Tryd.prog 48 #[.func (.yield l) #[] #[], .pointer (some ⟨Bf, 0, none⟩), .pointer (some ⟨Bo, 0, none⟩)] w fun e W' => (∃ v, e = .returned v) ∧ (J (ovr xs ys) W' ∨ ∃ pre, pre <+: ovr xs ys ∧ Jx pre W') := by
  have HX := Lib.hid hx
  have HY0 := Lib.hid hy0
  have HBO := Lib.hid hbo
  have HBF := Lib.hid hbf
  have HFO := Lib.hid hfo
  have HFF := Lib.hid hff
  have HJ := Lib.hid hJ
  have HJR := Lib.hid hJR
  have HY := Lib.hid hY
  have H0 := Lib.hid h0
  have HW := Lib.hid hw
  have g0 := hbo w (OvK.refl P w)
  have g1 := hbf w (OvK.refl P w)
  clear hx hy0 hbo hbf hfo hff hJ hJR hY h0 hw
  obtain ⟨nx, hnx⟩ : ∃ nx, xs.length = nx := ⟨_, rfl⟩
  obtain ⟨ny, hny⟩ : ∃ ny, ys.length = ny := ⟨_, rfl⟩
  rw [hnx] at HBO g0 hxl hco
  rw [hny] at HBF g1 hyl
  have HNX := Lib.hid hnx
  have HNY := Lib.hid hny
  clear hnx hny
  refine callsIn_of_wp Tryd.func48 rfl trivial ?_ rfl
  simp only [Tryd.ntmps48, List.size_toArray, List.length_cons, List.length_nil, Nat.reduceAdd, Nat.reduceSub, Array.replicate_succ, Array.replicate_zero, List.push_toArray, List.append_toArray, List.nil_append, List.cons_append]
  gi_wp2
  gi_loopw [4, 11] (fun va vi wr => ∃ (a i : Nat) (pre : List El.En), va = .int .i64 a ∧ vi = .int .i64 i ∧ a ≤ nx ∧ i ≤ ny ∧ OvS xs ys J a i pre wr ∧ OvK P w wr) (fun _ vi _ => ny - (intOf vi).toNat)
  case atStart => exact ⟨0, 0, [], by first | rfl | go_num, by first | rfl | go_num, Nat.zero_le _, Nat.zero_le _, ⟨by simp, H0.out⟩, OvK.refl _ _⟩
  case round =>
    obtain ⟨a, i, pre, rfl, rfl, ha, hi, hs, hk⟩ := hrel
    have HS := Lib.hid hs
    have HK := Lib.hid hk
    clear hs hk g0 g1 H0
    have g0 := HBO.out _ HK.out
    have g1 := HBF.out _ HK.out
    obtain ⟨wo, rfl⟩ : ∃ wo : World, wo = wr := ⟨_, rfl⟩
    by_cases hlt : i < ny
    rotate_left
    · have hf : ¬ (i : Int) < (ny : Int) := by omega
      have HE : Hid (ovr xs ys = pre ++ xs.drop a) := Lib.hid (by rw [HS.out.1, ovr_fin (by rw [HNY.out]; exact hlt)])
      by_cases hna : a < nx
      rotate_left
      · have hz : nx - a = 0 := by omega
        have HE2 : Hid (ovr xs ys = pre) := Lib.hid (by rw [HE.out, List.drop_eq_nil_of_le (by rw [HNX.out]; omega)]; simp)
        have HZ := Lib.hid hz
        clear hz
        gi_wp2
        all_goals
          gi_loopw [60] (fun vj wr' => vj = .int .i64 0 ∧ J pre wr') (fun _ _ => 0)
          case atStart => exact ⟨rfl, HS.out.2⟩
          case round =>
            obtain ⟨rfl, hj⟩ := hrel
            have HJ2 := Lib.hid hj
            have hf2 : ¬ (0 : Int) < ((nx - a : Nat) : Int) := by rw [HZ.out]; decide
            have hf3 : ¬ 0 < nx - a := by rw [HZ.out]; decide
            clear hj
            gi_wp2
            go_end0
            exact ⟨⟨_, rfl⟩, .inl (by rw [HE2.out]; exact HJ2.out)⟩
      have hc1 : ¬ co = a := by omega
      have hc2 : ¬ a = co := by omega
      rcases HFO.out _ HK.out with h0 | ⟨b, off, rfl, hbl, hc⟩
      · have := HNX.out; rw [h0] at this; simp at this; omega
      clear hc
      gi_wp2
      gi_loopw [60] (fun vj wr' => ∃ (j : Nat) (pre : List El.En), vj = .int .i64 j ∧ j ≤ nx - a ∧ ovr xs ys = pre ++ xs.drop (a + j) ∧ J pre wr' ∧ OvK P w wr') (fun vj _ => (nx - a) - (intOf vj).toNat)
      case atStart => exact ⟨0, pre, by first | rfl | go_num, Nat.zero_le _, HE.out, HS.out.2, HK.out⟩
      case round =>
        clear HE HS g0 g1 HK
        obtain ⟨j, pre, rfl, hj, he, hJ1, hk⟩ := hrel
        have HE := Lib.hid he
        have HJ1 := Lib.hid hJ1
        have HK := Lib.hid hk
        clear he hJ1 hk
        by_cases hjl : j < nx - a
        rotate_left
        · have HE2 : Hid (ovr xs ys = pre) := Lib.hid (by rw [HE.out, List.drop_eq_nil_of_le (by rw [HNX.out]; omega)]; simp)
          have hf2 : ¬ (j : Int) < ((nx - a : Nat) : Int) := by omega
          gi_wp2
          go_end0
          exact ⟨⟨_, rfl⟩, .inl (by rw [HE2.out]; exact HJ1.out)⟩
        have hf2 : (j : Int) < ((nx - a : Nat) : Int) := by omega
        have hxa : a + j < xs.length := by rw [HNX.out]; omega
        rcases HFO.out _ HK.out with h0 | ⟨b', off', e', hbl', hc⟩
        · rw [h0] at hxa; simp at hxa
        injection e' with e'
        injection e' with e1 e2 _
        subst e1 e2
        obtain ⟨x0, x1, x2, x3⟩ := hc (a + j) hxa
        rw [show off + (a + j) * 4 = off + a * 4 + j * 4 by omega] at x0 x1 x2 x3
        clear hc
        have HD := Lib.hid (List.drop_eq_getElem_cons hxa)
        obtain ⟨⟨xk, xv, xd, xq⟩, hxi⟩ : ∃ y, xs[a + j] = y := ⟨_, rfl⟩
        rw [hxi] at x0 x1 x2 x3 HD
        clear hxi
        simp only at x0 x1 x2 x3
        obtain ⟨fn, tmps, assign, body, hy, hR⟩ := HY.out pre (xk, xv, xd, xq) (wr.alloc (.cells #[.string xk, .string xv, .bool xd, .int .i64 xq] 33)) (HJ.out _ _ _ HJ1.out (alloc_below _ _)) ⟨xs.drop (a + j + 1), by rw [HE.out, HD.out]; simp⟩
        dsimp only [encE1] at hy
        gi_wp2
        refine ⟨(fun h => by cases h), hR.mono ?_⟩
        rintro e W3 (⟨rfl, hJ3, hk3⟩ | ⟨rfl, hx3⟩)
        · have HJ3 := Lib.hid hJ3
          have HK3 := Lib.hid hk3
          clear hJ3 hk3 hy hR x0 x1 x2 x3
          gi_wp2
          go_roundw
          case rel => exact ⟨j + 1, pre ++ [(xk, xv, xd, xq)], by go_num, by omega, by rw [HE.out, HD.out]; simp [Nat.add_assoc], HJ3.out, (HK.out.trans (OvK.of_below (HJR.out _ _ HJ1.out).lt (alloc_below _ _))).trans HK3.out⟩
          case measure => simp [intOf]; omega
        · have HX3 := Lib.hid hx3
          clear hx3 hy hR
          gi_wp2
          refine bodyPost_ret (v := .tuple #[]) (by simp [results, Tryd.f48, go_sem]) rfl ?_
          exact ⟨⟨_, rfl⟩, .inr ⟨_, ⟨xs.drop (a + j + 1), by rw [HE.out, HD.out]; simp⟩, HX3.out⟩⟩
    · have hf : (i : Int) < (ny : Int) := by omega
      have hiy : i < ys.length := by rw [HNY.out]; exact hlt
      rcases HFF.out _ HK.out with h0 | ⟨b, off, rfl, hbl, hc⟩
      · rw [h0] at hiy; simp at hiy
      obtain ⟨c0, c1, c2, c3⟩ := hc i hiy
      clear hc
      have HV := Lib.hid (HY0.out _ (List.getElem_mem hiy))
      obtain ⟨⟨yk, yv, yd, yq⟩, hyi⟩ : ∃ y, ys[i] = y := ⟨_, rfl⟩
      have HYI := Lib.hid hyi
      rw [hyi] at c0 c1 c2 c3 HV
      clear hyi
      simp only at c0 c1 c2 c3
      gi_wp2
      have HBX := ov_box (HJR.out _ _ HS.out.2) yk yv yd yq
      have HK1 := Lib.hid (HK.out.trans (OvK.of_below (HJR.out _ _ HS.out.2).lt (alloc_below wo (.cells #[.string yk, .string yv, .bool yd, .int .i64 yq] 33))))
      have hky := (El.chk_of HV.out).1
      simp only at hky
      gi_loopw [4] (fun va wr => ∃ (a : Nat) (pre : List El.En), va = .int .i64 a ∧ a ≤ nx ∧ OvS xs ys J a i pre wr ∧ OvK P (wo.alloc (.cells #[.string yk, .string yv, .bool yd, .int .i64 yq] 33)) wr) (fun va _ => nx - (intOf va).toNat)
      case atStart => exact ⟨a, pre, rfl, ha, ⟨HS.out.1, HJ.out _ _ _ HS.out.2 (alloc_below _ _)⟩, OvK.refl _ _⟩
      case round =>
        clear c0 c1 c2 c3 HS HK g0 g1 ha
        obtain ⟨a, pre, rfl, ha, hs, hk⟩ := hrel
        have HS2 := Lib.hid hs
        have HK2 := Lib.hid hk
        obtain ⟨y0, y1, y2, y3, hyw⟩ := HBX.out _ hk
        clear hs hk
        have g0 := HBO.out _ (HK1.out.trans HK2.out)
        have g0 := abv_c g0
        have y0 := abv_c y0
        have y1 := abv_c y1
        have y2 := abv_c y2
        have y3 := abv_c y3
        by_cases hax : a < nx
        rotate_left
        · have d1 : decide ((a : Int) < (nx : Int)) = false := by rw [decide_eq_false_iff_not]; omega
          have d2 : decide (a < nx) = false := by rw [decide_eq_false_iff_not]; omega
          have HEQ := Lib.hid (ovr_no (xs := xs) (a := a) (by rw [HNX.out]; exact hax) hiy)
          rw [HYI.out] at HEQ
          gi_wp2
          refine wpIn_wide.2 ?_
          refine wp_region_abv (by first | assumption | kernel_rfl) (by kernel_rfl) ?_
          repeat (first | go_big_quiet_step (fail) | quiet_step (fail))
          refine wpQuiet_nil ?_
          intro w9 hw9
          obtain ⟨p, rfl⟩ := hw9

          have g0 := abv_up g0 p
          have y0 := abv_up y0 p
          have y1 := abv_up y1 p
          have y2 := abv_up y2 p
          have y3 := abv_up y3 p
          have g0' := g0 ⟨_, Below.refl _ _⟩
          gi_wp2
          refine wpIn_wide.2 ?_
          refine wp_region_abv (by first | assumption | kernel_rfl) (by kernel_rfl) ?_
          repeat (first | go_big_quiet_step (fail) | quiet_step (fail))
          refine wpQuiet_nil ?_
          intro w9 hw9
          obtain ⟨p2, rfl⟩ := hw9
          obtain ⟨fn, tmps, assign, body, hy, hR⟩ := HY.out pre (yk, yv, yd, yq) p2.world (HJ.out _ _ _ HS2.out.2 (p.h.trans (p2.h.mono p.h.size))) (OvS.pre HS2.out HEQ.out)
          dsimp only [encE1] at hy
          gi_wp2
          refine ⟨(fun h => by cases h), hR.mono ?_⟩
          rintro e W3 (⟨rfl, hJ3, hk3⟩ | ⟨rfl, hx3⟩)
          · have HJ3 := Lib.hid hJ3
            have HK3 := Lib.hid hk3
            clear hJ3 hk3 hy hR
            gi_wp2
            go_roundw
            case rel => exact ⟨a, i + 1, pre ++ [(yk, yv, yd, yq)], by first | rfl | go_num, by go_num, by omega, by omega, OvS.next HS2.out HEQ.out HJ3.out, (HK1.out.trans (HK2.out.trans (OvK.of_below (HJR.out _ _ HS2.out.2).lt (p.h.trans (p2.h.mono p.h.size))))).trans HK3.out⟩
            case measure => simp [intOf]; omega
          · have HX3 := Lib.hid hx3
            clear hx3 hy hR
            gi_wp2
            refine bodyPost_ret (v := .tuple #[]) (by simp [results, Tryd.f48, go_sem]) rfl ?_
            exact ⟨⟨_, rfl⟩, .inr ⟨_, OvS.pre HS2.out HEQ.out, HX3.out⟩⟩
        have d1 : decide ((a : Int) < (nx : Int)) = true := by rw [decide_eq_true_eq]; omega
        have d2 : decide (a < nx) = true := by rw [decide_eq_true_eq]; omega
        have d3 : (a : Int) < (nx : Int) := by omega
        have hxa : a < xs.length := by rw [HNX.out]; exact hax
        rcases HFO.out _ (HK1.out.trans HK2.out) with h0 | ⟨b', off', rfl, hbl', hc⟩
        · rw [h0] at hxa; simp at hxa
        obtain ⟨x0, x1, x2, x3⟩ := hc a hxa
        clear hc
        have hkx := (El.chk_of (HX.out _ (List.getElem_mem hxa))).1
        by_cases hkl : kl xs[a] ys[i] = true
        · have HEQ := Lib.hid (ovr_lt hxa hiy hkl)
          have ho := kl_ord.1 hkl
          rw [HYI.out] at ho
          clear hkl
          obtain ⟨⟨xk, xv, xd, xq⟩, hxi⟩ : ∃ y, xs[a] = y := ⟨_, rfl⟩
          rw [hxi] at x0 x1 x2 x3 HEQ hkx ho
          clear hxi
          simp only at x0 x1 x2 x3 hkx ho
          have JK := Lib.hid (fun w => eKey_any xk xv xd xq yk yv yd yq w hkx hky)
          have x0 := abv_c x0
          have x1 := abv_c x1
          have x2 := abv_c x2
          have x3 := abv_c x3
          have d4 : decide (Kl.ord (Kl.L xk) (Kl.L yk) < 0) = true := by rw [decide_eq_true_eq]; exact ho
          clear ho
          generalize Kl.ord (Kl.L xk) (Kl.L yk) = r at *
          gi_wp2
          refine wpIn_wide.2 ?_
          refine wp_region_abv (by first | assumption | kernel_rfl) (by kernel_rfl) ?_
          repeat (first | go_big_quiet_step (exact callAbv (JK.out _)) | quiet_step (exact callAbv (JK.out _)))
          refine wpQuiet_nil ?_
          intro w9 hw9
          obtain ⟨p, rfl⟩ := hw9

          obtain ⟨fn, tmps, assign, body, hy, hR⟩ := HY.out pre (xk, xv, xd, xq) p.world (HJ.out _ _ _ HS2.out.2 p.h) (OvS.pre HS2.out HEQ.out)
          dsimp only [encE1] at hy
          gi_wp2
          refine ⟨(fun h => by cases h), hR.mono ?_⟩
          rintro e W3 (⟨rfl, hJ3, hk3⟩ | ⟨rfl, hx3⟩)
          · have HJ3 := Lib.hid hJ3
            have HK3 := Lib.hid hk3
            clear hJ3 hk3 hy hR
            gi_wp2
            go_roundw
            case rel => exact ⟨a + 1, pre ++ [(xk, xv, xd, xq)], by go_num, by omega, OvS.next HS2.out HEQ.out HJ3.out, (HK2.out.trans (OvK.of_below (HJR.out _ _ HS2.out.2).lt p.h)).trans HK3.out⟩
            case measure => simp [intOf]; omega
          · have HX3 := Lib.hid hx3
            clear hx3 hy hR
            gi_wp2
            refine bodyPost_ret (v := .tuple #[]) (by simp [results, Tryd.f48, go_sem]) rfl ?_
            exact ⟨⟨_, rfl⟩, .inr ⟨_, OvS.pre HS2.out HEQ.out, HX3.out⟩⟩
        · have hkl : kl xs[a] ys[i] = false := by simpa using hkl
          by_cases hke : xs[a].1 = ys[i].1
          · have HEQ := Lib.hid (ovr_eq hxa hiy hkl hke)
            have ho : ¬ Kl.ord (Kl.L xs[a].1) (Kl.L ys[i].1) < 0 := fun h => by rw [kl_ord.2 h] at hkl; cases hkl
            rw [HYI.out] at ho HEQ hke
            clear hkl
            obtain ⟨⟨xk, xv, xd, xq⟩, hxi⟩ : ∃ y, xs[a] = y := ⟨_, rfl⟩
            rw [hxi] at x0 x1 x2 x3 hkx ho hke
            clear hxi
            simp only at x0 x1 x2 x3 hkx ho hke
            have JK := Lib.hid (fun w => eKey_any xk xv xd xq yk yv yd yq w hkx hky)
            have JS : Hid (∀ w, Calls Tryd.prog 31 #[.agg #[.string xk, .string xv, .bool xd, .int .i64 xq], .agg #[.string yk, .string yv, .bool yd, .int .i64 yq]] w fun e w' => e = .returned (.bool true) ∧ Below w.heap.size w w') := Lib.hid (fun w => by rw [hke]; exact eSame_yes yk xv xd xq yv yd yq w)
            have x0 := abv_c x0
            have x1 := abv_c x1
            have x2 := abv_c x2
            have x3 := abv_c x3
            have d4 : decide (Kl.ord (Kl.L xk) (Kl.L yk) < 0) = false := by rw [decide_eq_false_iff_not]; exact ho
            clear ho hke
            generalize Kl.ord (Kl.L xk) (Kl.L yk) = r at *
            gi_wp2
            refine wpIn_wide.2 ?_
            refine wp_region_abv (by first | assumption | kernel_rfl) (by kernel_rfl) ?_
            repeat (first | go_big_quiet_step (exact callAbv (JK.out _)) | quiet_step (exact callAbv (JK.out _)))
            refine wpQuiet_nil ?_
            intro w9 hw9
            obtain ⟨p, rfl⟩ := hw9

            have g0 := abv_up g0 p
            have y0 := abv_up y0 p
            have y1 := abv_up y1 p
            have y2 := abv_up y2 p
            have y3 := abv_up y3 p
            have x0 := abv_up x0 p
            have x1 := abv_up x1 p
            have x2 := abv_up x2 p
            have x3 := abv_up x3 p
            have g0' := g0 ⟨_, Below.refl _ _⟩
            gi_wp2
            refine wpIn_wide.2 ?_
            refine wp_region_abv (by first | assumption | kernel_rfl) (by kernel_rfl) ?_
            repeat (first | go_big_quiet_step (exact callAbv (JS.out _)) | quiet_step (exact callAbv (JS.out _)))
            refine wpQuiet_nil ?_
            intro w9 hw9
            obtain ⟨p2, rfl⟩ := hw9
            obtain ⟨fn, tmps, assign, body, hy, hR⟩ := HY.out pre (yk, yv, yd, yq) p2.world (HJ.out _ _ _ HS2.out.2 (p.h.trans (p2.h.mono p.h.size))) (OvS.pre HS2.out HEQ.out)
            dsimp only [encE1] at hy
            gi_wp2
            refine ⟨(fun h => by cases h), hR.mono ?_⟩
            rintro e W3 (⟨rfl, hJ3, hk3⟩ | ⟨rfl, hx3⟩)
            · have HJ3 := Lib.hid hJ3
              have HK3 := Lib.hid hk3
              clear hJ3 hk3 hy hR
              gi_wp2
              go_roundw
              case rel => exact ⟨a + 1, i + 1, pre ++ [(yk, yv, yd, yq)], by first | rfl | go_num, by go_num, by omega, by omega, OvS.next HS2.out HEQ.out HJ3.out, (HK1.out.trans (HK2.out.trans (OvK.of_below (HJR.out _ _ HS2.out.2).lt (p.h.trans (p2.h.mono p.h.size))))).trans HK3.out⟩
              case measure => simp [intOf]; omega
            · have HX3 := Lib.hid hx3
              clear hx3 hy hR
              gi_wp2
              refine bodyPost_ret (v := .tuple #[]) (by simp [results, Tryd.f48, go_sem]) rfl ?_
              exact ⟨⟨_, rfl⟩, .inr ⟨_, OvS.pre HS2.out HEQ.out, HX3.out⟩⟩
          · have HEQ := Lib.hid (ovr_gt hxa hiy hkl hke)
            have ho : ¬ Kl.ord (Kl.L xs[a].1) (Kl.L ys[i].1) < 0 := fun h => by rw [kl_ord.2 h] at hkl; cases hkl
            rw [HYI.out] at ho HEQ hke
            clear hkl
            obtain ⟨⟨xk, xv, xd, xq⟩, hxi⟩ : ∃ y, xs[a] = y := ⟨_, rfl⟩
            rw [hxi] at x0 x1 x2 x3 hkx ho hke
            clear hxi
            simp only at x0 x1 x2 x3 hkx ho hke
            have JK := Lib.hid (fun w => eKey_any xk xv xd xq yk yv yd yq w hkx hky)
            have JS := Lib.hid (fun w => eSame_no xk xv xd xq yk yv yd yq w hke)
            have x0 := abv_c x0
            have x1 := abv_c x1
            have x2 := abv_c x2
            have x3 := abv_c x3
            have d4 : decide (Kl.ord (Kl.L xk) (Kl.L yk) < 0) = false := by rw [decide_eq_false_iff_not]; exact ho
            clear ho hke
            generalize Kl.ord (Kl.L xk) (Kl.L yk) = r at *
            gi_wp2
            refine wpIn_wide.2 ?_
            refine wp_region_abv (by first | assumption | kernel_rfl) (by kernel_rfl) ?_
            repeat (first | go_big_quiet_step (exact callAbv (JK.out _)) | quiet_step (exact callAbv (JK.out _)))
            refine wpQuiet_nil ?_
            intro w9 hw9
            obtain ⟨p, rfl⟩ := hw9

            have g0 := abv_up g0 p
            have y0 := abv_up y0 p
            have y1 := abv_up y1 p
            have y2 := abv_up y2 p
            have y3 := abv_up y3 p
            have x0 := abv_up x0 p
            have x1 := abv_up x1 p
            have x2 := abv_up x2 p
            have x3 := abv_up x3 p
            have g0' := g0 ⟨_, Below.refl _ _⟩
            gi_wp2
            refine wpIn_wide.2 ?_
            refine wp_region_abv (by first | assumption | kernel_rfl) (by kernel_rfl) ?_
            repeat (first | go_big_quiet_step (exact callAbv (JS.out _)) | quiet_step (exact callAbv (JS.out _)))
            refine wpQuiet_nil ?_
            intro w9 hw9
            obtain ⟨p2, rfl⟩ := hw9
            obtain ⟨fn, tmps, assign, body, hy, hR⟩ := HY.out pre (yk, yv, yd, yq) p2.world (HJ.out _ _ _ HS2.out.2 (p.h.trans (p2.h.mono p.h.size))) (OvS.pre HS2.out HEQ.out)
            dsimp only [encE1] at hy
            gi_wp2
            refine ⟨(fun h => by cases h), hR.mono ?_⟩
            rintro e W3 (⟨rfl, hJ3, hk3⟩ | ⟨rfl, hx3⟩)
            · have HJ3 := Lib.hid hJ3
              have HK3 := Lib.hid hk3
              clear hJ3 hk3 hy hR
              gi_wp2
              go_roundw
              case rel => exact ⟨a, i + 1, pre ++ [(yk, yv, yd, yq)], by first | rfl | go_num, by go_num, by omega, by omega, OvS.next HS2.out HEQ.out HJ3.out, (HK1.out.trans (HK2.out.trans (OvK.of_below (HJR.out _ _ HS2.out.2).lt (p.h.trans (p2.h.mono p.h.size))))).trans HK3.out⟩
              case measure => simp [intOf]; omega
            · have HX3 := Lib.hid hx3
              clear hx3 hy hR
              gi_wp2
              refine bodyPost_ret (v := .tuple #[]) (by simp [results, Tryd.f48, go_sem]) rfl ?_
              exact ⟨⟨_, rfl⟩, .inr ⟨_, OvS.pre HS2.out HEQ.out, HX3.out⟩⟩
end Go.Proofs.YtmobjpmkenpckaaDoor.KK
