/-
  Runs: indexOf, the two searches.
-/
import Derived.Test.YticdechdgpfdfaaRc
import Derived.Test.YticdechdgpfdfaaQc
namespace Go.Proofs.Yticdechdgpfdfaa.KK
open Go.ChangeShapes Go.WideShapes Go.ChangeAt Go.RowKit Go.Proofs

/-- a row of three cells -/
def Row3 (W : World) (B : Nat) (t : TypeId) (v0 v1 v2 : Value) : Prop := W.heap[B]? = some (.cells #[v0, v1, v2] t (0, 0))
theorem Row3.lt {W : World} {B : Nat} {t : TypeId} {v0 v1 v2 : Value} (h : Row3 W B t v0 v1 v2) : B < W.heap.size := (Array.getElem?_eq_some_iff.1 h).1
theorem Row3.c0 {W : World} {B : Nat} {t : TypeId} {v0 v1 v2 : Value} (h : Row3 W B t v0 v1 v2) : W.cell? ⟨B, 0, none⟩ = some v0 := by unfold Row3 at h; simp [World.cell?, h]
theorem Row3.c1 {W : World} {B : Nat} {t : TypeId} {v0 v1 v2 : Value} (h : Row3 W B t v0 v1 v2) : W.cell? ⟨B, 1, none⟩ = some v1 := by unfold Row3 at h; simp [World.cell?, h]
theorem Row3.c2 {W : World} {B : Nat} {t : TypeId} {v0 v1 v2 : Value} (h : Row3 W B t v0 v1 v2) : W.cell? ⟨B, 2, none⟩ = some v2 := by unfold Row3 at h; simp [World.cell?, h]
theorem Row3.set {W : World} {B : Nat} {t : TypeId} {v0 v1 v2 : Value} (h : Row3 W B t v0 v1 v2) (u0 u1 u2 : Value) : Row3 (((W.setCell ⟨B, 0, none⟩ u0).setCell ⟨B, 1, none⟩ u1).setCell ⟨B, 2, none⟩ u2) B t u0 u1 u2 := by
  unfold Row3 at h ⊢; simp [World.setCell, Array.getElem?_modify, h]
theorem Row3.below {W W' : World} {B n : Nat} {t : TypeId} {v0 v1 v2 : Value} (h : Row3 W B t v0 v1 v2) (hb : Below n W W') (hn : W.heap.size ≤ n) : Row3 W' B t v0 v1 v2 := (hb.block B (Nat.lt_of_lt_of_le h.lt hn)).trans h
/-- a row of four cells -/
def Row4 (W : World) (B : Nat) (t : TypeId) (v0 v1 v2 v3 : Value) : Prop := W.heap[B]? = some (.cells #[v0, v1, v2, v3] t (0, 0))
theorem Row4.lt {W : World} {B : Nat} {t : TypeId} {v0 v1 v2 v3 : Value} (h : Row4 W B t v0 v1 v2 v3) : B < W.heap.size := (Array.getElem?_eq_some_iff.1 h).1
theorem Row4.c0 {W : World} {B : Nat} {t : TypeId} {v0 v1 v2 v3 : Value} (h : Row4 W B t v0 v1 v2 v3) : W.cell? ⟨B, 0, none⟩ = some v0 := by unfold Row4 at h; simp [World.cell?, h]
theorem Row4.c1 {W : World} {B : Nat} {t : TypeId} {v0 v1 v2 v3 : Value} (h : Row4 W B t v0 v1 v2 v3) : W.cell? ⟨B, 1, none⟩ = some v1 := by unfold Row4 at h; simp [World.cell?, h]
theorem Row4.c2 {W : World} {B : Nat} {t : TypeId} {v0 v1 v2 v3 : Value} (h : Row4 W B t v0 v1 v2 v3) : W.cell? ⟨B, 2, none⟩ = some v2 := by unfold Row4 at h; simp [World.cell?, h]
theorem Row4.c3 {W : World} {B : Nat} {t : TypeId} {v0 v1 v2 v3 : Value} (h : Row4 W B t v0 v1 v2 v3) : W.cell? ⟨B, 3, none⟩ = some v3 := by unfold Row4 at h; simp [World.cell?, h]
theorem Row4.fz {W : World} {B : Nat} {t : TypeId} {v0 v1 v2 v3 : Value} (h : Row4 W B t v0 v1 v2 v3) (i : Nat) : W.frozen? ⟨B, i, none⟩ = false := by unfold Row4 at h; simp [World.frozen?, h]
theorem Row4.set {W : World} {B : Nat} {t : TypeId} {v0 v1 v2 v3 : Value} (h : Row4 W B t v0 v1 v2 v3) (u0 u1 u2 u3 : Value) : Row4 ((((W.setCell ⟨B, 0, none⟩ u0).setCell ⟨B, 1, none⟩ u1).setCell ⟨B, 2, none⟩ u2).setCell ⟨B, 3, none⟩ u3) B t u0 u1 u2 u3 := by
  unfold Row4 at h ⊢; simp [World.setCell, Array.getElem?_modify, h]
theorem Row4.below {W W' : World} {B n : Nat} {t : TypeId} {v0 v1 v2 v3 : Value} (h : Row4 W B t v0 v1 v2 v3) (hb : Below n W W') (hn : W.heap.size ≤ n) : Row4 W' B t v0 v1 v2 v3 := (hb.block B (Nat.lt_of_lt_of_le h.lt hn)).trans h
theorem set4 {B : Nat} {w w1 : World} {g : Nat} (h : Below B w w1) (hg : B ≤ g) (a b c d : Value) : Below B w ((((w1.setCell ⟨g, 0, none⟩ a).setCell ⟨g, 1, none⟩ b).setCell ⟨g, 2, none⟩ c).setCell ⟨g, 3, none⟩ d) :=
  (((h.setCell hg _).setCell hg _).setCell hg _).setCell hg _
/-- behind indexOf -/
def IndexOut (B : Option Addr) (d : Nat) (xs : List El.En) (w : World) (e : Ending) (w' : World) : Prop :=
  ∃ A c, e = .returned (.agg #[.slice B xs.length d, .int .i64 16, .slice A (makeM 16 xs).length c]) ∧ SsAt w' A (makeM 16 xs) ∧ Below w.heap.size w w'
theorem make16 {xs : List El.En} (h : (listE xs).2 = 0) : mkEr ((16 : Nat) : Int) xs = 0 ∧ mkSt ((16 : Nat) : Int) xs = 16 ∧ mkMs ((16 : Nat) : Int) xs = makeM 16 xs := by
  have e := mkEr_ok (s := ((16 : Nat) : Int)) h (by decide)
  refine ⟨e, ?_, ?_⟩
  · unfold mkSt; rw [if_pos e]; rfl
  · unfold mkMs; rw [if_pos e]; rfl
theorem ix_ok {B : Option Addr} {d : Nat} {xs : List El.En} (hcap : xs.length ≤ d) (hnil : B = none → d = 0) (h : (listE xs).2 = 0) : IxOk B d xs (makeM 16 xs) := by
  obtain ⟨a, b, c⟩ := list_ok h
  exact ⟨hcap, hnil, a, fun x hx => (El.chk_of (b x hx)).1, c, make_good (by omega) a b c, make_fits (by omega) c⟩
theorem ss_set3 {w : World} {A : Option Addr} {ms : List ByteArray} (h : SsAt w A ms) {g : Nat} {t : TypeId} (hr : Row3 w g t (.slice none 0 0) (.int .i64 0) (.slice none 0 0)) (x y z : Value) (o : Obj) : SsAt ((((w.setCell ⟨g, 0, none⟩ x).setCell ⟨g, 1, none⟩ y).setCell ⟨g, 2, none⟩ z).alloc o) A ms := by
  have c1 : Chg (fun k => k = g) w (((w.setCell ⟨g, 0, none⟩ x).setCell ⟨g, 1, none⟩ y).setCell ⟨g, 2, none⟩ z) := ((chg_set g 0 x).trans (chg_set g 1 y)).trans (chg_set g 2 z)
  by_cases h0 : ms = []
  · exact .inl h0
  refine (h.chg c1 fun a ha => ?_).below (alloc_below _ o) (Nat.le_refl _)
  rcases h with h | ⟨b, off, hA, hb, hc⟩
  · exact absurd h h0
  · rw [hA] at ha
    obtain rfl := Option.some.inj ha
    intro e
    simp only at e
    subst e
    have := hc 0 (List.length_pos_iff.2 h0)
    unfold Row3 at hr
    simp only [World.cell?, hr] at this
    match off, this with
    | 0, this => simp at this
    | 1, this => simp at this
    | 2, this => simp at this
    | k + 3, this => simp at this
set_option maxRecDepth 100000 in
set_option maxHeartbeats 2000000 in
theorem indexOf_any (id : Int) (B : Option Addr) (d : Nat) (xs : List El.En) (w : World) (hf : EsAt w B xs) (hn : xs.length ≤ 4294967295) (hs : Sized xs) (hcap : xs.length ≤ d) (hz : (listE xs).2 = 0) :
    Calls Try.prog 50 #[.agg #[.int .i64 id, .slice B xs.length d]] w (IndexOut B d xs w) := by
  have HX := boxU id B xs.length d w
  have hb0 := alloc_below (w.alloc (.cells #[.int .i64 id, .slice B xs.length d] 24)) (.cells #[.slice none 0 0, .int .i64 0, .slice none 0 0] 75)
  obtain ⟨x0, x1, x2, x3⟩ := HX.out _ hb0
  have HB := Lib.hid x3
  have HR : ((w.alloc (.cells #[.int .i64 id, .slice B xs.length d] 24)).alloc (.cells #[.slice none 0 0, .int .i64 0, .slice none 0 0] 75)).heap[w.heap.size + 1]? = some (.cells #[.slice none 0 0, .int .i64 0, .slice none 0 0] 75 (0, 0)) := by
    have e := heap_alloc_new (w.alloc (.cells #[.int .i64 id, .slice B xs.length d] 24)) (.cells #[.slice none 0 0, .int .i64 0, .slice none 0 0] 75)
    rw [show (w.alloc (.cells #[.int .i64 id, .slice B xs.length d] 24)).heap.size = w.heap.size + 1 by simp] at e
    exact e
  have HRH := Lib.hid HR
  have hsz : w.heap.size + 2 ≤ ((w.alloc (.cells #[.int .i64 id, .slice B xs.length d] 24)).alloc (.cells #[.slice none 0 0, .int .i64 0, .slice none 0 0] 75)).heap.size := by simp
  obtain ⟨m1, m2, m3⟩ := make16 hz
  have J : Hid (∀ w1, Below w.heap.size w w1 → Calls Try.prog 59 #[.slice B xs.length d, .int .i64 16] w1 fun e w' => ∃ A c, e = .returned (.tuple #[.agg #[.int .i64 16, .slice A (makeM 16 xs).length c], .int .i64 0]) ∧ SsAt w' A (makeM 16 xs) ∧ Below w1.heap.size w1 w') := Lib.hid (fun w1 (h : Below w.heap.size w w1) => by
    have K := pMake7_any B d xs ((16 : Nat) : Int) w1 (hf.below h (Nat.le_refl _)) hn hs hcap
    refine K.mono ?_
    rintro e w' ⟨A', c', h1, h2, h3⟩
    rw [m1, m2, m3] at h1
    rw [m3] at h2
    exact ⟨A', c', h1, h2, h3⟩)
  clear x3 hb0 hf hs hz m1 m2 m3 HR hcap
  unfold IndexOut
  generalize makeM 16 xs = ms at *
  generalize xs.length = n at *
  go_enter Try.func50, Try.ntmps50
  go_wp2_with fail
  refine (J.out _ HB.out).mono ?_
  rintro e w1 ⟨A, c, rfl, hss, hb⟩
  obtain ⟨y0, y1, y2, y3⟩ := HX.out _ ((alloc_below _ _).trans (hb.mono (by simp)))
  have hr1 := (hb.block (w.heap.size + 1) (by simp)).trans HRH.out
  have HB1 := Lib.hid y3
  have hz1 : w.heap.size + 2 ≤ w1.heap.size := Nat.le_trans hsz hb.size
  have HS := Lib.hid hss
  obtain ⟨q0, q1, q2, f0, f1, f2⟩ := row3 hr1
  have hlt : w.heap.size + 1 < w1.heap.size := by omega
  obtain ⟨r0, r1, r2, g0, g1, g2⟩ := row3 (((alloc_below w1 (.cells #[.int .i64 16, .slice A ms.length c] 73)).block (w.heap.size + 1) hlt).trans hr1)
  clear hb x0 x1 x2 y3 hss
  go_wp2_with fail
  have hb3 := set3 HB1.out (show w.heap.size ≤ w.heap.size + 1 by omega) (.slice B n d) (.int .i64 16) (.slice A ms.length c)
  have hrow := (Row3.set (t := 75) hr1 (.slice B n d) (.int .i64 16) (.slice A ms.length c)).below (alloc_below _ (.cells #[.int .i64 16, .slice A ms.length c] 73)) (Nat.le_refl _)
  have k0 := hrow.c0
  have k1 := hrow.c1
  have k2 := hrow.c2
  exact bodyPost_ret (v := .agg #[.slice B n d, .int .i64 16, .slice A ms.length c]) (by simp [results, Try.results50, go_sem, k0, k1, k2]) rfl ⟨A, c, rfl, ss_set3 HS.out hr1 _ _ _ _, eb_of hb3 (alloc_below _ _) (Nat.le_refl _)⟩
/-- what a search answers -/
def seekV (o : Option Nat) : Value := match o with
  | none => .nilIface
  | some k => .iface 3 (.int .i64 (k : Int))
def floorO (xs : List El.En) (key : ByteArray) (strict : Bool) : Option Nat := if befN xs key (!strict) = 0 then none else some (befN xs key (!strict) - 1)
def ceilO (xs : List El.En) (key : ByteArray) (strict : Bool) : Option Nat := if befN xs key strict = xs.length then none else some (befN xs key strict)
theorem floorO_none {xs : List El.En} {key : ByteArray} {s : Bool} (g : befN xs key (!s) = 0) : floorO xs key s = none := if_pos g
theorem floorO_some {xs : List El.En} {key : ByteArray} {s : Bool} (g : befN xs key (!s) ≠ 0) : floorO xs key s = some (befN xs key (!s) - 1) := if_neg g
theorem ceilO_none {xs : List El.En} {key : ByteArray} {s : Bool} (g : befN xs key s = xs.length) : ceilO xs key s = none := if_pos g
theorem ceilO_some {xs : List El.En} {key : ByteArray} {s : Bool} (g : befN xs key s ≠ xs.length) : ceilO xs key s = some (befN xs key s) := if_neg g
theorem retV {a b : Value} (h : a = b) : Ending.returned a = .returned b := by rw [h]
end Go.Proofs.Yticdechdgpfdfaa.KK
