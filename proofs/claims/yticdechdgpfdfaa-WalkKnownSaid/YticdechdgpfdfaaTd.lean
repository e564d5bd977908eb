/-
  Walk: goOn: on to the first entry that is wanted.
-/
import Derived.Test.YticdechdgpfdfaaTc
import Derived.Test.YticdechdgpfdfaaIa
namespace Go.Proofs.Yticdechdgpfdfaa.KK
open Go.ChangeShapes Go.WideShapes Go.ChangeAt Go.RowKit Go.Proofs Go.Sort
attribute [local go_sem] Oper.semAt_some

theorem grown_of_below' {A A' : World} (h : Below A.heap.size A A') : A.grownBy A' none := ⟨h.os, h.tape, h.output, h.size, fun k hk _ => h.block k hk⟩
theorem yield_any' {n m : Nat} {P : Program} {l : Nat} {args : Array Value} {W : World} {R : Ending → World → Prop} (h : YieldAt Fence.wide n P l args W R) : YieldAt Fence.wide m P l args W R := by
  obtain ⟨fn, tmps, assign, body, hy, hF, hR⟩ := h
  exact ⟨fn, tmps, assign, body, hy, hF, fun c cs _ => hR c cs (room_wide _)⟩
def entV (x : El.En) : Value := .agg #[.string x.1, .string x.2.1, .bool x.2.2.1, .int .i64 x.2.2.2]
/-- what goOn returns -/
def goE (id : Int) (xs : List El.En) (k : Int) (back : Bool) (q : El.En → Bool) : El.En × Int × Int :=
  if curE id xs k ≠ 0 then (El.none, 0, curE id xs k)
  else match (ahL xs k.toNat back).find? (fun y => q y.1) with
    | some y => (y.1, (y.2 : Int), 0)
    | none => (El.none, k, 12)
theorem goE_no {id : Int} {xs : List El.En} {k : Int} {back : Bool} {q : El.En → Bool} (h : curE id xs k ≠ 0) : goE id xs k back q = (El.none, 0, curE id xs k) := if_pos h
theorem goE_none {id : Int} {xs : List El.En} {k : Nat} {back : Bool} {q : El.En → Bool} (h : curE id xs k = 0) (g : ∀ y ∈ ahL xs k back, q y.1 = false) : goE id xs k back q = (El.none, (k : Int), 12) := by
  unfold goE
  rw [if_neg (by rw [h]; simp), show ((k : Int)).toNat = k by omega, List.find?_eq_none.2 (fun y hy => by rw [g y hy]; simp)]
theorem goE_some {id : Int} {xs : List El.En} {k : Nat} {back : Bool} {q : El.En → Bool} {pre : List (El.En × Nat)} {y : El.En × Nat} (h : curE id xs k = 0) (hp : (pre ++ [y]) <+: ahL xs k back) (g : ∀ y ∈ pre, q y.1 = false) (hy : q y.1 = true) : goE id xs k back q = (y.1, (y.2 : Int), 0) := by
  unfold goE
  obtain ⟨t, ht⟩ := hp
  rw [if_neg (by rw [h]; simp), show ((k : Int)).toNat = k by omega, ← ht, List.append_assoc, List.find?_append, List.find?_eq_none.2 (fun y hy => by rw [g y hy]; simp)]
  simp [hy]
def GoOut (id : Int) (xs : List El.En) (k : Int) (back : Bool) (q : El.En → Bool) (w : World) (e : Ending) (w' : World) : Prop :=
  e = .returned (.tuple #[entV (goE id xs k back q).1, .agg #[.int .i64 (goE id xs k back q).2.1], .int .i64 (goE id xs k back q).2.2]) ∧ Below w.heap.size w w'
/-- what wants an entry: a function value -/
def Wants (gf : Nat) (cap : Array Value) (q : El.En → Bool) (w : World) : Prop :=
  ∀ (W : World) (x : El.En), Below w.heap.size w W → Calls Try.prog gf (#[entV x] ++ cap) W fun e w' => e = .returned (.bool (q x)) ∧ Below W.heap.size W w'
/-- goOn's six boxes -/
theorem boxGo (id : Int) (B : Option Addr) (n d : Nat) (k : Int) (v : Value) (w : World) : ∃ w1, (((((w.alloc (.cells #[.int .i64 id, .slice B n d] 24)).alloc (.cells #[.int .i64 k] 26)).alloc (.cells #[v] 62)).alloc (.cells #[.string ⟨#[]⟩, .string ⟨#[]⟩, .bool false, .int .i64 0] 34)).alloc (.cells #[.int .i64 0] 26)).alloc (.cells #[.int .i64 0] 29) = w1 ∧
    Row2 w1 w.heap.size 24 (.int .i64 id) (.slice B n d) ∧ Boxed w1 (w.heap.size + 1) 26 (.int .i64 k) ∧ Boxed w1 (w.heap.size + 2) 62 v ∧ Row4 w1 (w.heap.size + 3) 34 (.string ⟨#[]⟩) (.string ⟨#[]⟩) (.bool false) (.int .i64 0) ∧ Boxed w1 (w.heap.size + 4) 26 (.int .i64 0) ∧ Boxed w1 (w.heap.size + 5) 29 (.int .i64 0) ∧ w1.heap.size = w.heap.size + 6 ∧ Below w.heap.size w w1 := by
  obtain ⟨wa, ea, r0, r1, hs, hb⟩ := boxUC id B n d k w
  rw [ea]
  have a := Boxed.new wa 62 v
  have ha := alloc_below wa (.cells #[v] 62)
  obtain ⟨wb, eb⟩ : ∃ wb, wa.alloc (.cells #[v] 62) = wb := ⟨_, rfl⟩
  have hsb : wb.heap.size = wa.heap.size + 1 := by rw [← eb]; simp
  rw [eb] at a ha ⊢
  have b : Row4 (wb.alloc (.cells #[.string ⟨#[]⟩, .string ⟨#[]⟩, .bool false, .int .i64 0] 34)) wb.heap.size 34 (.string ⟨#[]⟩) (.string ⟨#[]⟩) (.bool false) (.int .i64 0) := heap_alloc_new _ _
  have hbb := alloc_below wb (.cells #[.string ⟨#[]⟩, .string ⟨#[]⟩, .bool false, .int .i64 0] 34)
  obtain ⟨wc, ec⟩ : ∃ wc, wb.alloc (.cells #[.string ⟨#[]⟩, .string ⟨#[]⟩, .bool false, .int .i64 0] 34) = wc := ⟨_, rfl⟩
  have hsc : wc.heap.size = wb.heap.size + 1 := by rw [← ec]; simp
  rw [ec] at b hbb ⊢
  have c := Boxed.new wc 26 (.int .i64 0)
  have hc := alloc_below wc (.cells #[.int .i64 0] 26)
  obtain ⟨wd, ed⟩ : ∃ wd, wc.alloc (.cells #[.int .i64 0] 26) = wd := ⟨_, rfl⟩
  have hsd : wd.heap.size = wc.heap.size + 1 := by rw [← ed]; simp
  rw [ed] at c hc ⊢
  have e := Boxed.new wd 29 (.int .i64 0)
  have he := alloc_below wd (.cells #[.int .i64 0] 29)
  have hse : (wd.alloc (.cells #[.int .i64 0] 29)).heap.size = wd.heap.size + 1 := by simp
  refine ⟨_, rfl, ?_, ?_, ?_, ?_, ?_, ?_, by omega, ?_⟩
  · exact (((r0.below ha (Nat.le_refl _)).below hbb (Nat.le_refl _)).below hc (Nat.le_refl _)).below he (Nat.le_refl _)
  · exact box_below (box_below (box_below (box_below r1 ha (Nat.le_refl _)) hbb (Nat.le_refl _)) hc (Nat.le_refl _)) he (Nat.le_refl _)
  · rw [show w.heap.size + 2 = wa.heap.size by omega]; exact box_below (box_below (box_below a hbb (Nat.le_refl _)) hc (Nat.le_refl _)) he (Nat.le_refl _)
  · rw [show w.heap.size + 3 = wb.heap.size by omega]; exact (b.below hc (Nat.le_refl _)).below he (Nat.le_refl _)
  · rw [show w.heap.size + 4 = wc.heap.size by omega]; exact box_below c he (Nat.le_refl _)
  · rw [show w.heap.size + 5 = wd.heap.size by omega]; exact e
  · exact eb_of (eb_of (eb_of (eb_of hb ha (by omega)) hbb (by omega)) hc (by omega)) he (by omega)
/-- three results in cells -/
theorem out3 {W : World} {p q r : Nat} {t tw te : TypeId} {v0 v1 v2 v3 v4 v5 : Value} (h : Row4 W p t v0 v1 v2 v3) (b : Boxed W q tw v4) (c : Boxed W r te v5) (hpq : p ≠ q) (hpr : p ≠ r) (hqr : q ≠ r) (u0 u1 u2 u3 k e : Value) :
    Row4 ((((((W.setCell ⟨p, 0, none⟩ u0).setCell ⟨p, 1, none⟩ u1).setCell ⟨p, 2, none⟩ u2).setCell ⟨p, 3, none⟩ u3).setCell ⟨q, 0, none⟩ k).setCell ⟨r, 0, none⟩ e) p t u0 u1 u2 u3 ∧ Boxed ((((((W.setCell ⟨p, 0, none⟩ u0).setCell ⟨p, 1, none⟩ u1).setCell ⟨p, 2, none⟩ u2).setCell ⟨p, 3, none⟩ u3).setCell ⟨q, 0, none⟩ k).setCell ⟨r, 0, none⟩ e) q tw k ∧ Boxed ((((((W.setCell ⟨p, 0, none⟩ u0).setCell ⟨p, 1, none⟩ u1).setCell ⟨p, 2, none⟩ u2).setCell ⟨p, 3, none⟩ u3).setCell ⟨q, 0, none⟩ k).setCell ⟨r, 0, none⟩ e) r te e ∧
      (∀ (n : Nat) (w : World), Below n w W → n ≤ p → n ≤ q → n ≤ r → Below n w ((((((W.setCell ⟨p, 0, none⟩ u0).setCell ⟨p, 1, none⟩ u1).setCell ⟨p, 2, none⟩ u2).setCell ⟨p, 3, none⟩ u3).setCell ⟨q, 0, none⟩ k).setCell ⟨r, 0, none⟩ e)) ∧
      (∀ x, x ≠ p → x ≠ q → x ≠ r → ((((((W.setCell ⟨p, 0, none⟩ u0).setCell ⟨p, 1, none⟩ u1).setCell ⟨p, 2, none⟩ u2).setCell ⟨p, 3, none⟩ u3).setCell ⟨q, 0, none⟩ k).setCell ⟨r, 0, none⟩ e).heap[x]? = W.heap[x]?) := by
  have hs := h.set u0 u1 u2 u3
  obtain ⟨W1, hW1⟩ : ∃ W1, (((W.setCell ⟨p, 0, none⟩ u0).setCell ⟨p, 1, none⟩ u1).setCell ⟨p, 2, none⟩ u2).setCell ⟨p, 3, none⟩ u3 = W1 := ⟨_, rfl⟩
  have hk : ∀ x, x ≠ p → W1.heap[x]? = W.heap[x]? := fun x hx => by
    rw [← hW1, Below.heap_setCell _ _ _ _ (by simpa using hx), Below.heap_setCell _ _ _ _ (by simpa using hx), Below.heap_setCell _ _ _ _ (by simpa using hx), Below.heap_setCell _ _ _ _ (by simpa using hx)]
  have hb : ∀ (n : Nat) (w : World), Below n w W → n ≤ p → Below n w W1 := fun n w h hn => by rw [← hW1]; exact set4 h hn _ _ _ _
  rw [hW1] at hs ⊢
  have b1 : Boxed W1 q tw v4 := (hk q (Ne.symm hpq)).trans b
  have c1 : Boxed W1 r te v5 := (hk r (Ne.symm hpr)).trans c
  refine ⟨?_, ?_, ?_, fun n w g h1 h2 h3 => ((hb n w g h1).setCell (p := ⟨q, 0, none⟩) h2 _).setCell (p := ⟨r, 0, none⟩) h3 _, fun x h1 h2 h3 => ?_⟩
  · show _ = _
    rw [Below.heap_setCell _ _ _ _ (by simpa using hpr), Below.heap_setCell _ _ _ _ (by simpa using hpq)]; exact hs
  · exact (Below.heap_setCell _ _ _ _ (by simpa using hqr)).trans (Boxed.set _ b1)
  · exact Boxed.set _ ((Below.heap_setCell _ _ _ _ (by simpa using Ne.symm hqr)).trans c1)
  · rw [Below.heap_setCell _ _ _ _ (by simpa using h3), Below.heap_setCell _ _ _ _ (by simpa using h2), hk x h1]
set_option maxRecDepth 100000 in
set_option maxHeartbeats 2000000 in
theorem goOn_bad (id : Int) (B : Option Addr) (d : Nat) (xs : List El.En) (k : Int) (back : Bool) (gf : Nat) (cap : Array Value) (q : El.En → Bool) (w : World) (hf : EsAt w B xs) (hn : xs.length ≤ 4294967295) (hs : Sized xs) (h1 : curE id xs k ≠ 0) :
    Calls Try.prog 37 #[.agg #[.int .i64 id, .slice B xs.length d], .agg #[.int .i64 k], .bool back, .func (.func gf) #[] cap] w (GoOut id xs k back q w) := by
  obtain ⟨w1, hw1, r0, b0, b1, r1, b2, b3, hsz, hb⟩ := boxGo id B xs.length d k (.func (.func gf) #[] cap) w
  have J := Lib.hid (fun w2 (h : Below w.heap.size w w2) => pCur_any id B d xs k w2 (hf.below h (Nat.le_refl _)) hn hs)
  have HL := Lib.hid (goE_no (back := back) (q := q) h1)
  obtain ⟨n1, n2⟩ := ne_b h1
  have HB := Lib.hid hb
  have HR0 := Lib.hid r0
  have HK0 := Lib.hid b0
  have HR1 := Lib.hid r1
  have HK2 := Lib.hid b2
  have HK3 := Lib.hid b3
  have x0 := r0.c0
  have x1 := r0.c1
  have x2 := b0.cell
  unfold GoOut
  clear hf hs r0 b0 b1 r1 b2 b3 hb hsz h1
  generalize goE id xs k back q = res at *
  generalize curE id xs k = r2 at *
  generalize xs.length = n at *
  go_enter Try.func37, Try.ntmps37
  go_wp2_with fail
  refine (J.out _ HB.out).mono ?_
  rintro e w2 ⟨rfl, hb⟩
  have r1 := HR1.out.below hb (Nat.le_refl _)
  have b2 := box_below HK2.out hb (Nat.le_refl _)
  have b3 := box_below HK3.out hb (Nat.le_refl _)
  have HO := Lib.hid (out3 r1 b2 b3 (by omega) (by omega) (by omega) (.string ⟨#[]⟩) (.string ⟨#[]⟩) (.bool false) (.int .i64 0) (.int .i64 0) (.int .i64 r2))
  have y0 := r1.c0
  have y1 := r1.c1
  have y2 := r1.c2
  have y3 := r1.c3
  have z0 := r1.fz 0
  have z1 := r1.fz 1
  have z2 := r1.fz 2
  have z3 := r1.fz 3
  have y4 := b2.cell
  have z4 := b2.frozen
  have y5 := b3.cell
  have z5 := b3.frozen
  have HB2 := Lib.hid (eb_of HB.out hb (by first | exact Nat.le_refl _ | exact HB.out.size))
  clear hb x0 x1 x2 r1 b2 b3
  go_wp2_with fail
  obtain ⟨k1, k2, k3, k4⟩ := HO.out
  have c0 := k1.c0
  have c1 := k1.c1
  have c2 := k1.c2
  have c3 := k1.c3
  have c4 := k2.cell
  have c5 := k3.cell
  refine bodyPost_ret (v := .tuple #[.agg #[.string ⟨#[]⟩, .string ⟨#[]⟩, .bool false, .int .i64 0], .agg #[.int .i64 0], .int .i64 r2]) (by simp [results, Try.f37, go_sem, c0, c1, c2, c3, c4, c5]) rfl ?_
  exact ⟨by rw [HL.out]; rfl, k4.1 _ _ HB2.out (by omega) (by omega) (by omega)⟩
end Go.Proofs.Yticdechdgpfdfaa.KK
