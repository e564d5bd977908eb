/-
  The law's own awake: what it makes.
-/
import Derived.Test.YtbgpcmpbfenplaaUc
import Derived.Test.YtbgpcmpbfenplaaVy
import Derived.Test.YtbgpcmpbfenplaaVu
namespace Go.Proofs.Ytbgpcmpbfenplaa.KK
open Go.ChangeShapes Go.WideShapes Go.ChangeAt Go.RowKit Go.Proofs

def exP : List Pr := [(⟨#[97]⟩, ⟨#[49]⟩), (⟨#[99]⟩, ⟨#[51]⟩)]
def exW : List Wr := [(⟨#[98]⟩, ⟨#[50]⟩, false), (⟨#[97]⟩, ⟨#[]⟩, true)]
def exM : List Pr := [(⟨#[98]⟩, ⟨#[50]⟩), (⟨#[99]⟩, ⟨#[51]⟩)]
def exI : List It := [(2, ⟨#[97]⟩, ⟨#[49]⟩, ⟨#[]⟩), (1, ⟨#[98]⟩, ⟨#[]⟩, ⟨#[50]⟩)]
theorem ex_floor : floorE exP ⟨#[98]⟩ = (0, ⟨#[97]⟩, ⟨#[49]⟩) ∧ ceilE exP ⟨#[98]⟩ = (0, ⟨#[99]⟩, ⟨#[51]⟩) := by decide +kernel
theorem ex_write : writeE exP exW = 0 ∧ writeM exP exW = exM := by decide +kernel
theorem ex_diff : diffE exP exM = 0 ∧ diffM exP exM = exI := by decide +kernel
theorem exP_sized : SizedP exP := by unfold SizedP; decide +kernel
theorem exM_sized : SizedP exM := by unfold SizedP; decide +kernel
theorem exW_sized : SizedW exW := by unfold SizedW; decide +kernel
theorem cellsI_cons (x : It) (xs : List It) : cellsI (x :: xs) = [.int .i64 x.1, .string x.2.1, .string x.2.2.1, .string x.2.2.2] ++ cellsI xs := rfl
theorem cellsI_len (xs : List It) : (cellsI xs).length = xs.length * 4 := by
  induction xs with
  | nil => rfl
  | cons x t ih => rw [cellsI_cons, List.length_append, ih, List.length_cons]; simp; omega
theorem cellsI_get : ∀ (xs : List It) (i : Nat) (h : i < xs.length), (cellsI xs)[i * 4]? = some (.int .i64 xs[i].1) ∧ (cellsI xs)[i * 4 + 1]? = some (.string xs[i].2.1) ∧ (cellsI xs)[i * 4 + 2]? = some (.string xs[i].2.2.1) ∧ (cellsI xs)[i * 4 + 3]? = some (.string xs[i].2.2.2)
  | x :: t, 0, _ => by simp [cellsI, itC]
  | x :: t, i + 1, h => by
    have := cellsI_get t i (by simpa using h)
    have e : ∀ j, (cellsI (x :: t))[j + 4]? = (cellsI t)[j]? := fun j => by simp [cellsI, itC]
    rw [show (i + 1) * 4 = i * 4 + 4 by omega, show i * 4 + 4 + 1 = (i * 4 + 1) + 4 by omega, show i * 4 + 4 + 2 = (i * 4 + 2) + 4 by omega, show i * 4 + 4 + 3 = (i * 4 + 3) + 4 by omega, e, e, e, e]
    simpa using this
theorem ItAt.of_own {w : World} {base n : Nat} {A : Option Addr} {c : Nat} {ys : List It} (h : w.ownsRow base 74 4 (.slice A n c) n (cellsI ys)) : ItAt w A ys := by
  have hn : n = ys.length := by have := h.1; rw [cellsI_len] at this; omega
  by_cases h0 : ys = []
  · exact .inl h0
  · have hpos : 0 < ys.length := List.length_pos_iff.2 h0
    have hform : ∃ g cap, Value.slice A n c = .slice (some ⟨g, 0, none⟩) n cap ∧ g < w.heap.size := by
      rcases h.2 with ⟨_, h1⟩ | ⟨g, cap, cur, hv, _, hh, _⟩
      · omega
      · exact ⟨g, cap, hv, (Array.getElem?_eq_some_iff.1 hh).1⟩
    obtain ⟨g, cap, hv, hlt⟩ := hform
    have hA : A = some ⟨g, 0, none⟩ := by injection hv
    refine .inr ⟨g, 0, hA, hlt, fun i hi => ?_⟩
    have hcell := h.cells (g := g) (by rw [hv]; rfl)
    obtain ⟨a0, a1, a2, a3⟩ := cellsI_get ys i hi
    have b0 := hcell _ _ a0
    have b1 := hcell _ _ a1
    have b2 := hcell _ _ a2
    have b3 := hcell _ _ a3
    rw [add_at'] at b0 b1 b2 b3
    exact ⟨b0, by rw [Nat.add_assoc]; exact b1, by rw [Nat.add_assoc]; exact b2, by rw [Nat.add_assoc]; exact b3⟩
theorem own_slice {w : World} {base size n : Nat} {e : TypeId} {v : Value} {zs : List Value} (h : w.ownsRow base e size v n zs) : ∃ A c, v = .slice A n c ∧ (A = none → c = 0) := by
  rcases h.2 with ⟨rfl, rfl⟩ | ⟨g, cap, cur, rfl, _⟩
  · exact ⟨none, 0, rfl, fun _ => rfl⟩
  · exact ⟨_, _, rfl, fun e => by cases e⟩
/-- a fact that stays while nothing old is written -/
def Keep (w : World) (P : World → Prop) : Prop := ∀ w', Below w.heap.size w w' → P w'
theorem Keep.step {w w1 : World} {P : World → Prop} (h : Keep w P) (hb : Below w.heap.size w w1) : Keep w1 P := fun w' k => h w' (hb.trans (k.mono hb.size))
theorem Keep.now {w : World} {P : World → Prop} (h : Keep w P) : P w := h w (Below.refl _ _)
theorem Keep.and {w : World} {P Q : World → Prop} (h : Keep w P) (k : Keep w Q) : Keep w (fun w' => P w' ∧ Q w') := fun w' b => ⟨h w' b, k w' b⟩
theorem keep_ps {w : World} {A : Option Addr} {xs : List Pr} (h : PsAt w A xs) : Keep w (fun w' => PsAt w' A xs) := fun _ b => h.below b (Nat.le_refl _)
theorem keep_it {w : World} {A : Option Addr} {xs : List It} (h : ItAt w A xs) : Keep w (fun w' => ItAt w' A xs) := fun _ b => h.below b (Nat.le_refl _)
theorem keep_row {w : World} {B : Nat} {t : TypeId} {u0 u1 : Value} (h : Row2 w B t u0 u1) : Keep w (fun w' => Row2 w' B t u0 u1) := fun _ b => h.below b (Nat.le_refl _)
theorem ps_two (w : World) (x y : Pr) : PsAt (w.alloc (.cells #[.string x.1, .string x.2, .string y.1, .string y.2] 31)) (some ⟨w.heap.size, 0, none⟩) [x, y] := by
  have hr := fun c => cell_of_row (w.alloc (.cells #[.string x.1, .string x.2, .string y.1, .string y.2] 31)) w.heap.size c _ _ _ (heap_alloc_new w _)
  refine .inr ⟨w.heap.size, 0, rfl, by simp, fun i hi => ?_⟩
  have : i = 0 ∨ i = 1 := by simp at hi; omega
  rcases this with rfl | rfl
  · exact ⟨hr 0, hr 1⟩
  · exact ⟨hr 2, hr 3⟩
theorem ws_two (w : World) (x y : Wr) : WsAt (w.alloc (.cells #[.string x.1, .string x.2.1, .bool x.2.2, .string y.1, .string y.2.1, .bool y.2.2] 76)) (some ⟨w.heap.size, 0, none⟩) [x, y] := by
  have hr := fun c => cell_of_row (w.alloc (.cells #[.string x.1, .string x.2.1, .bool x.2.2, .string y.1, .string y.2.1, .bool y.2.2] 76)) w.heap.size c _ _ _ (heap_alloc_new w _)
  refine .inr ⟨w.heap.size, 0, rfl, by simp, fun i hi => ?_⟩
  have : i = 0 ∨ i = 1 := by simp at hi; omega
  rcases this with rfl | rfl
  · exact ⟨hr 0, hr 1, hr 2⟩
  · exact ⟨hr 3, hr 4, hr 5⟩
theorem it_two (w : World) (x y : It) : ItAt (w.alloc (.cells #[.int .i64 x.1, .string x.2.1, .string x.2.2.1, .string x.2.2.2, .int .i64 y.1, .string y.2.1, .string y.2.2.1, .string y.2.2.2] 74)) (some ⟨w.heap.size, 0, none⟩) [x, y] := by
  have hr := fun c => cell_of_row (w.alloc (.cells #[.int .i64 x.1, .string x.2.1, .string x.2.2.1, .string x.2.2.2, .int .i64 y.1, .string y.2.1, .string y.2.2.1, .string y.2.2.2] 74)) w.heap.size c _ _ _ (heap_alloc_new w _)
  refine .inr ⟨w.heap.size, 0, rfl, by simp, fun i hi => ?_⟩
  have : i = 0 ∨ i = 1 := by simp at hi; omega
  rcases this with rfl | rfl
  · exact ⟨hr 0, hr 1, hr 2, hr 3⟩
  · exact ⟨hr 4, hr 5, hr 6, hr 7⟩
theorem law_ex (w : World) : Calls Try.prog 42 #[] w fun e w' => ∃ X, e = .returned (.slice (some ⟨X, 0, none⟩) 2 2) ∧ Keep w' (fun w' => PsAt w' (some ⟨X, 0, none⟩) exP) ∧ Below w.heap.size w w' := by
  go_enter Try.func42, Try.ntmps42
  go_wp2_with fail
  go_ret
  exact ⟨_, rfl, keep_ps (ps_two w (⟨#[97]⟩, ⟨#[49]⟩) (⟨#[99]⟩, ⟨#[51]⟩)), alloc_below _ _⟩
/-- awake's model: its slots, what it keeps to -/
structure AwS (M : Nat) (w5 : World) (p : Value) (ss : List Sl) (w' : World) : Prop where
  md : Md w' M (.slice none 0 0) p (.slice none 0 0)
  own : Sown w' w5.heap.size p ss
  b : Below w5.heap.size w5 w'
  m : w5.heap.size ≤ M
section
variable {M : Nat} {w5 w1 w2 : World} {p : Value} {ss ss' : List Sl}
theorem AwS.below (h : AwS M w5 p ss w1) (hb : Below w1.heap.size w1 w2) : AwS M w5 p ss w2 :=
  ⟨h.md.below hb, (Chg.of_below (S := fun _ => False) hb).own h.own (fun _ _ g => g), h.b.trans (hb.mono h.b.size), h.m⟩
theorem AwS.give (h : AwS M w5 p ss w1) (k : GiveOut w5.heap.size M (.slice none 0 0) (.slice none 0 0) p w1 w2 ss') :
    ∃ p', AwS M w5 p' ss' w2 ∧ ∀ B t u0 u1, t ≠ 129 → B ≠ M → Row2 w1 B t u0 u1 → Row2 w2 B t u0 u1 := by
  obtain ⟨p', k1, k2, k3, _⟩ := k
  refine ⟨p', ⟨k1, k2, h.b.trans (k3.below (fun i hi => ?_) h.b.size), h.m⟩, fun B t u0 u1 ht hB hR => hR.chg k3 (fun e => ?_)⟩
  · rcases hi with rfl | hi
    · exact h.m
    · exact (World.ownsRow.lt h.own i hi.symm).1
  · rcases e with e | e
    · exact hB e
    · exact own_row_ne hR ht h.own e
end
def nilS : Value := .slice none 0 0
theorem nil_two {a b : Sl} (ha : a.2.2 = .slice none 0 0) (hb : b.2.2 = .slice none 0 0) : ∀ s ∈ [a, b], ∃ a m d, s.2.2 = .slice a m d := by
  intro s hs
  simp only [List.mem_cons, List.not_mem_nil, or_false] at hs
  rcases hs with rfl | rfl
  · exact ⟨_, _, _, ha⟩
  · exact ⟨_, _, _, hb⟩
section
variable {M : Nat} {w5 w1 : World} {p : Value}
theorem aw_pin1 (h : AwS M w5 p [] w1) : Calls Try.prog 43 #[.pointer (some ⟨M, 0, none⟩)] w1 fun e w' => e = .returned (.tuple #[.agg #[.int .i64 1, .int .i64 1], .int .i64 0]) ∧ GiveOut w5.heap.size M (.slice none 0 0) (.slice none 0 0) p w1 w' [(1, true, .slice none 0 0)] :=
  pin_of w5.heap.size M p _ none 0 0 [] [(1, true, .slice none 0 0)] 1 1 w1 h.md h.own (fun w' hb =>
    have h' := h.below hb
    (give_new w5.heap.size M _ _ p [] none 0 0 w' h'.md h'.own (by decide) (by simp) rfl h'.b.size).mono (fun e w'' k => k))
theorem aw_pin2 (h : AwS M w5 p [(1, true, .slice none 0 0)] w1) : Calls Try.prog 43 #[.pointer (some ⟨M, 0, none⟩)] w1 fun e w' => e = .returned (.tuple #[.agg #[.int .i64 2, .int .i64 1], .int .i64 0]) ∧ GiveOut w5.heap.size M (.slice none 0 0) (.slice none 0 0) p w1 w' [(1, true, .slice none 0 0), (1, true, .slice none 0 0)] :=
  pin_of w5.heap.size M p _ none 0 0 [(1, true, .slice none 0 0)] [(1, true, .slice none 0 0), (1, true, .slice none 0 0)] 2 1 w1 h.md h.own (fun w' hb =>
    have h' := h.below hb
    (give_new w5.heap.size M _ _ p [(1, true, .slice none 0 0)] none 0 0 w' h'.md h'.own (by decide) (by intro s hs; simp only [List.mem_cons, List.not_mem_nil, or_false] at hs; subst hs; exact ⟨_, _, _, rfl⟩) rfl h'.b.size).mono (fun e w'' k => k))
theorem aw_unpin (h : AwS M w5 p [(1, true, .slice none 0 0), (1, true, .slice none 0 0)] w1) : Calls Try.prog 44 #[.pointer (some ⟨M, 0, none⟩), .agg #[.int .i64 1, .int .i64 1]] w1 fun e w' => e = .returned (.int .i64 0) ∧ GiveOut w5.heap.size M (.slice none 0 0) (.slice none 0 0) p w1 w' [(1, false, .slice none 0 0), (1, true, .slice none 0 0)] :=
  unpin_of w5.heap.size M _ _ p [(1, true, .slice none 0 0), (1, true, .slice none 0 0)] 1 1 w1 h.md h.own (by decide) (nil_two rfl rfl) (by omega) (by decide +kernel)
theorem aw_pin3 (h : AwS M w5 p [(1, false, .slice none 0 0), (1, true, .slice none 0 0)] w1) : Calls Try.prog 43 #[.pointer (some ⟨M, 0, none⟩)] w1 fun e w' => e = .returned (.tuple #[.agg #[.int .i64 1, .int .i64 2], .int .i64 0]) ∧ GiveOut w5.heap.size M (.slice none 0 0) (.slice none 0 0) p w1 w' [(2, true, .slice none 0 0), (1, true, .slice none 0 0)] :=
  pin_of w5.heap.size M p _ none 0 0 [(1, false, .slice none 0 0), (1, true, .slice none 0 0)] [(2, true, .slice none 0 0), (1, true, .slice none 0 0)] 1 2 w1 h.md h.own (fun w' hb => by
    have h' := h.below hb
    obtain ⟨g, c, hp, _⟩ := h'.own.block (by simp)
    subst hp
    exact (give_free w5.heap.size M _ _ g c [(1, false, .slice none 0 0), (1, true, .slice none 0 0)] 0 none 0 0 w' h'.md h'.own (by decide) (nil_two rfl rfl) (by decide) (by decide +kernel) (by decide)).mono (fun e w'' k => k))
theorem aw_map (h : AwS M w5 p [(2, true, .slice none 0 0), (1, true, .slice none 0 0)] w1) (x g r : Int) (hx : x ≤ 9223372036854775807) (hr : verE [(2, true, .slice none 0 0), (1, true, .slice none 0 0)] x g = r) (hv : verV (.slice none 0 0) [(2, true, .slice none 0 0), (1, true, .slice none 0 0)] x g = .slice none 0 0) : Calls Try.prog 33 #[.pointer (some ⟨M, 0, none⟩), .agg #[.int .i64 x, .int .i64 g]] w1 fun e w' => ∃ v, e = .returned (.tuple #[v, .int .i64 r]) ∧ Below w1.heap.size w1 w' := by
  obtain ⟨S, c, hp, hs⟩ := h.own.form
  subst hp
  refine (map_any M none 0 0 S c [(2, true, .slice none 0 0), (1, true, .slice none 0 0)] x g w1 (h.md.c 0) (h.md.c 1) (h.md.c 3) hs (by decide) (nil_two rfl rfl) hx none 0 [] hv (.inl rfl) (fun _ => rfl) (by decide)).mono ?_
  rintro e w' ⟨v, h1, _, h3⟩
  rw [hr] at h1
  exact ⟨v, h1, h3⟩
end
end Go.Proofs.Ytbgpcmpbfenplaa.KK
