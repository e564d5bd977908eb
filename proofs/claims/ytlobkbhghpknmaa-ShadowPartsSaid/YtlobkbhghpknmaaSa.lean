/-
  Shadow: plain functions; contracts of Begin and Check on both sides, entry.
-/
import Derived.Test.YtlobkbhghpknmaaFa
namespace Go.Proofs.Ytlobkbhghpknmaa.KK
open Go.ChangeShapes Go.WideShapes Go.ChangeAt Go.RowKit Go.Proofs

/-- a state: whether there was an entry, the last key, whether this is the bottom -/
abbrev St := Bool × ByteArray × Bool
def chkS (s : St) : Int := if 32 < s.2.1.size then 3 else if s.1 = false ∧ s.2.1.size ≠ 0 then 6 else 0
def lessS (a b : ByteArray) : Bool := Op.bytesLess a.toList b.toList
/-- what is wrong with an entry that comes -/
def stepE (s : St) (x : El.En) : Int :=
  if chkS s = 0 then (if El.chk x = 0 then (if s.1 = true ∧ lessS x.1 s.2.1 = true then 6 else 0) else El.chk x) else chkS s
def nextS (s : St) (x : El.En) : St := (true, x.1, s.2.2)
inductive Fate | kept | shad | drop
def fateS (s : St) (x : El.En) : Fate := if s.1 = true ∧ x.1 = s.2.1 then .shad else if s.2.2 = true ∧ x.2.2.1 = true then .drop else .kept
def Fate.ty : Fate → TypeId
  | .kept => 53
  | .shad => 67
  | .drop => 68
def agX (x : El.En) : Value := .agg #[.string x.1, .string x.2.1, .bool x.2.2.1, .int .i64 x.2.2.2]
def agS (s : St) : Value := .agg #[.bool s.1, .string s.2.1, .bool s.2.2]
theorem bcl {W w1 : World} (hb : Below W.heap.size W w1) : (∀ b o, b < W.heap.size → w1.cell? ⟨b, o, none⟩ = W.cell? ⟨b, o, none⟩) ∧ (∀ b o, b < W.heap.size → w1.frozen? ⟨b, o, none⟩ = W.frozen? ⟨b, o, none⟩) :=
  ⟨fun b o h => hb.cell (p := ⟨b, o, none⟩) h, fun b o h => hb.frozen (p := ⟨b, o, none⟩) h⟩
theorem al1 (w : World) (o : Obj) : Below w.heap.size w (w.alloc o) := (Below.refl _ _).alloc (Nat.le_refl _) _
theorem al2 (w : World) (o o' : Obj) : Below w.heap.size w ((w.alloc o).alloc o') := (al1 w o).alloc (by simp) _
theorem al3 (w : World) (o o' o2 : Obj) : Below w.heap.size w (((w.alloc o).alloc o').alloc o2) := (al2 w o o').alloc (by simp; omega) _
def Row3 (W : World) (B : Nat) (t : TypeId) (v0 v1 v2 : Value) : Prop := W.heap[B]? = some (.cells #[v0, v1, v2] t (0, 0))
theorem Row3.lt {W : World} {B : Nat} {t : TypeId} {v0 v1 v2 : Value} (h : Row3 W B t v0 v1 v2) : B < W.heap.size := (Array.getElem?_eq_some_iff.1 h).1
theorem Row3.c0 {W : World} {B : Nat} {t : TypeId} {v0 v1 v2 : Value} (h : Row3 W B t v0 v1 v2) : W.cell? ⟨B, 0, none⟩ = some v0 := by unfold Row3 at h; simp [World.cell?, h]
theorem Row3.c1 {W : World} {B : Nat} {t : TypeId} {v0 v1 v2 : Value} (h : Row3 W B t v0 v1 v2) : W.cell? ⟨B, 1, none⟩ = some v1 := by unfold Row3 at h; simp [World.cell?, h]
theorem Row3.c2 {W : World} {B : Nat} {t : TypeId} {v0 v1 v2 : Value} (h : Row3 W B t v0 v1 v2) : W.cell? ⟨B, 2, none⟩ = some v2 := by unfold Row3 at h; simp [World.cell?, h]
theorem Row3.set {W : World} {B : Nat} {t : TypeId} {v0 v1 v2 : Value} (h : Row3 W B t v0 v1 v2) (u0 u1 u2 : Value) : Row3 (((W.setCell ⟨B, 0, none⟩ u0).setCell ⟨B, 1, none⟩ u1).setCell ⟨B, 2, none⟩ u2) B t u0 u1 u2 := by
  unfold Row3 at h ⊢; simp [World.setCell, Array.getElem?_modify, h]
theorem Row3.below {W W' : World} {B n : Nat} {t : TypeId} {v0 v1 v2 : Value} (h : Row3 W B t v0 v1 v2) (hb : Below n W W') (hn : W.heap.size ≤ n) : Row3 W' B t v0 v1 v2 := (hb.block B (Nat.lt_of_lt_of_le h.lt hn)).trans h
theorem Row3.fz {W : World} {B : Nat} {t : TypeId} {v0 v1 v2 : Value} (h : Row3 W B t v0 v1 v2) (i : Nat) : W.frozen? ⟨B, i, none⟩ = false := by unfold Row3 at h; simp [World.frozen?, h]
/-- a row of four cells -/
def Row4 (W : World) (B : Nat) (t : TypeId) (v0 v1 v2 v3 : Value) : Prop := W.heap[B]? = some (.cells #[v0, v1, v2, v3] t (0, 0))
theorem Row4.lt {W : World} {B : Nat} {t : TypeId} {v0 v1 v2 v3 : Value} (h : Row4 W B t v0 v1 v2 v3) : B < W.heap.size := (Array.getElem?_eq_some_iff.1 h).1
theorem Row4.c0 {W : World} {B : Nat} {t : TypeId} {v0 v1 v2 v3 : Value} (h : Row4 W B t v0 v1 v2 v3) : W.cell? ⟨B, 0, none⟩ = some v0 := by unfold Row4 at h; simp [World.cell?, h]
theorem Row4.c1 {W : World} {B : Nat} {t : TypeId} {v0 v1 v2 v3 : Value} (h : Row4 W B t v0 v1 v2 v3) : W.cell? ⟨B, 1, none⟩ = some v1 := by unfold Row4 at h; simp [World.cell?, h]
theorem Row4.c2 {W : World} {B : Nat} {t : TypeId} {v0 v1 v2 v3 : Value} (h : Row4 W B t v0 v1 v2 v3) : W.cell? ⟨B, 2, none⟩ = some v2 := by unfold Row4 at h; simp [World.cell?, h]
theorem Row4.c3 {W : World} {B : Nat} {t : TypeId} {v0 v1 v2 v3 : Value} (h : Row4 W B t v0 v1 v2 v3) : W.cell? ⟨B, 3, none⟩ = some v3 := by unfold Row4 at h; simp [World.cell?, h]
theorem Row4.fz {W : World} {B : Nat} {t : TypeId} {v0 v1 v2 v3 : Value} (h : Row4 W B t v0 v1 v2 v3) (i : Nat) : W.frozen? ⟨B, i, none⟩ = false := by unfold Row4 at h; simp [World.frozen?, h]
theorem Row4.set {W : World} {B : Nat} {t : TypeId} {v0 v1 v2 v3 : Value} (h : Row4 W B t v0 v1 v2 v3) (u0 u1 u2 u3 : Value) : Row4 ((((W.setCell ⟨B, 0, none⟩ u0).setCell ⟨B, 1, none⟩ u1).setCell ⟨B, 2, none⟩ u2).setCell ⟨B, 3, none⟩ u3) B t u0 u1 u2 u3 := by
  unfold Row4 at h ⊢; simp [World.setCell, Array.getElem?_modify, h]
theorem Row4.below {W W' : World} {B n : Nat} {t : TypeId} {v0 v1 v2 v3 : Value} (h : Row4 W B t v0 v1 v2 v3) (hb : Below n W W') (hn : W.heap.size ≤ n) : Row4 W' B t v0 v1 v2 v3 := (hb.block B (Nat.lt_of_lt_of_le h.lt hn)).trans h
theorem hdr (w : World) : w.drew.heap.size = w.heap.size := rfl
/-- the boxes of a state and an entry, and a state of the result, in whatever comes -/
theorem rows_se (s : Bool) (l : ByteArray) (b : Bool) (k v : ByteArray) (d : Bool) (q : Int) (w w3 : World) (h3 : w3 = ((w.alloc (.cells #[.bool s, .string l, .bool b] 23)).alloc (.cells #[.string k, .string v, .bool d, .int .i64 q] 25)).alloc (.cells #[.bool false, .string ⟨#[]⟩, .bool false] 23)) :
    Hid (∀ w', Below w3.heap.size w3 w' → Row3 w' w.heap.size 23 (.bool s) (.string l) (.bool b) ∧ Row4 w' (w.heap.size + 1) 25 (.string k) (.string v) (.bool d) (.int .i64 q) ∧ Row3 w' (w.heap.size + 1 + 1) 23 (.bool false) (.string ⟨#[]⟩) (.bool false) ∧ Below w.heap.size w w') := Lib.hid fun w' hb => by
  have e2 := heap_alloc_new ((w.alloc (.cells #[.bool s, .string l, .bool b] 23)).alloc (.cells #[.string k, .string v, .bool d, .int .i64 q] 25)) (.cells #[.bool false, .string ⟨#[]⟩, .bool false] 23)
  have e1 := heap_alloc_new (w.alloc (.cells #[.bool s, .string l, .bool b] 23)) (.cells #[.string k, .string v, .bool d, .int .i64 q] 25)
  have e0 := heap_alloc_new w (.cells #[.bool s, .string l, .bool b] 23)
  simp only [World.size_alloc] at e2 e1
  subst h3
  have hs := hb.size
  simp only [World.size_alloc] at hs
  refine ⟨?_, ?_, ?_, (al3 _ _ _ _).trans (hb.mono (by simp; omega))⟩
  · exact (hb.block _ (by simp; omega)).trans ((heap_alloc_old _ _ (by simp; omega)).trans ((heap_alloc_old _ _ (by simp)).trans e0))
  · exact (hb.block _ (by simp)).trans ((heap_alloc_old _ _ (by simp)).trans e1)
  · exact (hb.block _ (by simp)).trans e2
theorem set3s {B : Nat} {w w1 : World} {g : Nat} (h : Below B w w1) (hg : B ≤ g) (a b c : Value) : Below B w (((w1.setCell ⟨g, 0, none⟩ a).setCell ⟨g, 1, none⟩ b).setCell ⟨g, 2, none⟩ c) :=
  ((h.setCell hg _).setCell hg _).setCell hg _

set_option maxHeartbeats 1000000 in
theorem pBegin_any (b : Bool) (w : World) : Calls Try.prog 13 #[.bool b] w fun e w' => e = .returned (.agg #[.bool false, .string ⟨#[]⟩, .bool b]) ∧ Below w.heap.size w w' := by
  go_enter Try.func13, Try.ntmps13
  go_wp2_with fail
  exact bodyPost_ret (v := .agg #[.bool false, .string ⟨#[]⟩, .bool b]) (by simp [results, Try.results13, go_sem]) rfl ⟨rfl, (Below.refl _ _).alloc (Nat.le_refl _) _⟩
set_option maxHeartbeats 1000000 in
theorem rBegin_any (b : Bool) (w : World) : Calls Try.prog 14 #[.bool b] w fun e w' => e = .returned (.agg #[.bool false, .string ⟨#[]⟩, .bool b]) ∧ Below w.heap.size w w' := by
  go_enter Try.func14, Try.ntmps14
  go_wp2_with fail
  exact bodyPost_ret (v := .agg #[.bool false, .string ⟨#[]⟩, .bool b]) (by simp [results, Try.results14, go_sem]) rfl ⟨rfl, (Below.refl _ _).alloc (Nat.le_refl _) _⟩
set_option maxHeartbeats 1000000 in
theorem pChk_any (s : Bool) (l : ByteArray) (b : Bool) (w : World) (hl : l.size ≤ 9223372036854775807) : Calls Try.prog 15 #[.agg #[.bool s, .string l, .bool b]] w fun e w' => e = .returned (.int .i64 (chkS (s, l, b))) ∧ Below w.heap.size w w' := by
  by_cases h1 : 32 < l.size
  · have H : Hid (chkS (s, l, b) = 3) := Lib.hid (if_pos h1)
    have J := Lib.hid (fun w => by have K := kCheck_any l w hl; rw [chk1_no (by omega)] at K; exact K)
    clear h1
    go_enter Try.func15, Try.ntmps15
    go_wp2_with (go_at_call 28; refine (J.out _).mono ?_; rintro e w' ⟨rfl, rfl⟩)
    go_ret
    exact ⟨by rw [H.out]; rfl, (Below.refl _ _).alloc (Nat.le_refl _) _⟩
  have J := Lib.hid (fun w => by have K := kCheck_any l w hl; rw [chk1_ok (by omega)] at K; exact K)
  by_cases h2 : s = false ∧ l.size ≠ 0
  · have H : Hid (chkS (s, l, b) = 6) := Lib.hid (by unfold chkS; rw [if_neg h1, if_pos h2])
    obtain ⟨rfl, h2⟩ := h2
    obtain ⟨z1, z2⟩ := str_full l h2
    clear h1 h2
    go_enter Try.func15, Try.ntmps15
    go_wp2_with (go_at_call 28; refine (J.out _).mono ?_; rintro e w' ⟨rfl, rfl⟩)
    go_ret
    exact ⟨by rw [H.out]; rfl, (Below.refl _ _).alloc (Nat.le_refl _) _⟩
  · have H : Hid (chkS (s, l, b) = 0) := Lib.hid (by unfold chkS; rw [if_neg h1, if_neg h2])
    cases s with
    | true =>
      clear h1 h2
      go_enter Try.func15, Try.ntmps15
      go_wp2_with (go_at_call 28; refine (J.out _).mono ?_; rintro e w' ⟨rfl, rfl⟩)
      go_ret
      exact ⟨by rw [H.out]; rfl, (Below.refl _ _).alloc (Nat.le_refl _) _⟩
    | false =>
      have z1 := str_empty l (by by_cases z : l.size = 0; exact z; exact absurd ⟨rfl, z⟩ h2)
      clear h1 h2
      go_enter Try.func15, Try.ntmps15
      go_wp2_with (go_at_call 28; refine (J.out _).mono ?_; rintro e w' ⟨rfl, rfl⟩)
      go_ret
      exact ⟨by rw [H.out]; rfl, (Below.refl _ _).alloc (Nat.le_refl _) _⟩
set_option maxHeartbeats 1000000 in
theorem rChk_any (s : Bool) (l : ByteArray) (b : Bool) (w : World) (hl : l.size ≤ 9223372036854775807) : Calls Try.prog 16 #[.agg #[.bool s, .string l, .bool b]] w fun e w' => e = .returned (.int .i64 (chkS (s, l, b))) ∧ Below w.heap.size w w' := by
  by_cases h1 : 32 < l.size
  · have H : Hid (chkS (s, l, b) = 3) := Lib.hid (if_pos h1)
    go_enter Try.func16, Try.ntmps16
    go_wp2_with fail
    go_ret
    exact ⟨by rw [H.out]; rfl, (Below.refl _ _).alloc (Nat.le_refl _) _⟩
  by_cases h2 : s = false ∧ l.size ≠ 0
  · have H : Hid (chkS (s, l, b) = 6) := Lib.hid (by unfold chkS; rw [if_neg h1, if_pos h2])
    obtain ⟨rfl, h2⟩ := h2
    obtain ⟨z1, z2⟩ := str_full l h2
    clear h2
    go_enter Try.func16, Try.ntmps16
    go_wp2_with fail
    go_ret
    exact ⟨by rw [H.out]; rfl, (Below.refl _ _).alloc (Nat.le_refl _) _⟩
  · have H : Hid (chkS (s, l, b) = 0) := Lib.hid (by unfold chkS; rw [if_neg h1, if_neg h2])
    cases s with
    | true =>
      clear h2
      go_enter Try.func16, Try.ntmps16
      go_wp2_with fail
      go_ret
      exact ⟨by rw [H.out]; rfl, (Below.refl _ _).alloc (Nat.le_refl _) _⟩
    | false =>
      have z1 := str_empty l (by by_cases z : l.size = 0; exact z; exact absurd ⟨rfl, z⟩ h2)
      clear h2
      go_enter Try.func16, Try.ntmps16
      go_wp2_with fail
      go_ret
      exact ⟨by rw [H.out]; rfl, (Below.refl _ _).alloc (Nat.le_refl _) _⟩
set_option maxHeartbeats 1000000 in
theorem entry_any (x : El.En) (w : World) : Calls Try.prog 37 #[.agg #[.string x.1, .string x.2.1, .bool x.2.2.1, .int .i64 x.2.2.2]] w fun e w' => e = .returned (.agg #[.string x.1, .string x.2.1, .bool x.2.2.1, .int .i64 x.2.2.2]) ∧ Below w.heap.size w w' := by
  go_enter Try.func37, Try.ntmps37
  go_wp2_with fail
  exact bodyPost_ret (v := .agg #[.string x.1, .string x.2.1, .bool x.2.2.1, .int .i64 x.2.2.2]) (by simp [results, Try.results37, go_sem]) rfl ⟨rfl, al2 _ _ _⟩
end Go.Proofs.Ytlobkbhghpknmaa.KK
