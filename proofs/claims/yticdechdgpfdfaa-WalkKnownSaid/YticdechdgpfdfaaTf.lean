/-
  Walk: Next, Prev, Skip of the program.
-/
import Derived.Test.YticdechdgpfdfaaTe
namespace Go.Proofs.Yticdechdgpfdfaa.KK
open Go.ChangeShapes Go.WideShapes Go.ChangeAt Go.RowKit Go.Proofs Go.Sort

theorem goOn_any (id : Int) (B : Option Addr) (d : Nat) (xs : List El.En) (k : Int) (back : Bool) (gf : Nat) (cap : Array Value) (q : El.En → Bool) (w : World) (hf : EsAt w B xs) (hn : xs.length ≤ 4294967295) (hs : Sized xs) (hq : Wants gf cap q w) (heg : ∀ (args : Array Value) (w : World), Sem.run Try.prog (callFunc gf args) w = .ok (.enter gf args) w) :
    Calls Try.prog 37 #[.agg #[.int .i64 id, .slice B xs.length d], .agg #[.int .i64 k], .bool back, .func (.func gf) #[] cap] w (GoOut id xs k back q w) := by
  by_cases h1 : curE id xs k = 0
  · obtain ⟨hr, m, rfl, hm⟩ := curE_zero h1
    exact goOn_main id B d xs m back gf cap q w hf hn hs h1 hq heg
  · exact goOn_bad id B d xs k back gf cap q w hf hn hs h1
theorem anyE_wants (w : World) : Wants 38 #[] (fun _ => true) w := by
  rintro W ⟨xk, xv, xd, xq⟩ hb
  simp only [entV, Array.append_empty]
  go_enter Try.func38, Try.ntmps38
  go_wp2
  go_ret
  exact ⟨rfl, alloc_below _ _⟩
theorem skip_wants (dead : Bool) (b : Nat) (w : World) (h : Boxed w b 4 (.bool dead)) (hlt : b < w.heap.size) (hw : ∀ W, Below w.heap.size w W → W.cell? ⟨b, 0, none⟩ = some (.bool dead)) : Wants 45 #[.pointer (some ⟨b, 0, none⟩)] (fun x => x.2.2.1 == dead) w := by
  rintro W ⟨xk, xv, xd, xq⟩ hb
  have x0 := (box_below h (hb.trans ((alloc_below W (.cells #[.string xk, .string xv, .bool xd, .int .i64 xq] 34)).mono hb.size)) (Nat.le_refl _)).cell
  simp only [entV]
  show Calls _ _ #[.agg #[.string xk, .string xv, .bool xd, .int .i64 xq], .pointer (some ⟨b, 0, none⟩)] _ _
  go_enter Try.func45, Try.ntmps45
  go_wp2
  go_ret
  exact ⟨rfl, alloc_below _ _⟩
/-- two results in cells -/
theorem out2 {W : World} {p q : Nat} {t tw : TypeId} {v0 v1 v2 v3 v4 : Value} (h : Row4 W p t v0 v1 v2 v3) (b : Boxed W q tw v4) (hpq : p ≠ q) (u0 u1 u2 u3 k : Value) :
    Row4 (((((W.setCell ⟨p, 0, none⟩ u0).setCell ⟨p, 1, none⟩ u1).setCell ⟨p, 2, none⟩ u2).setCell ⟨p, 3, none⟩ u3).setCell ⟨q, 0, none⟩ k) p t u0 u1 u2 u3 ∧ Boxed (((((W.setCell ⟨p, 0, none⟩ u0).setCell ⟨p, 1, none⟩ u1).setCell ⟨p, 2, none⟩ u2).setCell ⟨p, 3, none⟩ u3).setCell ⟨q, 0, none⟩ k) q tw k ∧
      (∀ (n : Nat) (w : World), Below n w W → n ≤ p → n ≤ q → Below n w (((((W.setCell ⟨p, 0, none⟩ u0).setCell ⟨p, 1, none⟩ u1).setCell ⟨p, 2, none⟩ u2).setCell ⟨p, 3, none⟩ u3).setCell ⟨q, 0, none⟩ k)) := by
  have hs := h.set u0 u1 u2 u3
  obtain ⟨W1, hW1⟩ : ∃ W1, (((W.setCell ⟨p, 0, none⟩ u0).setCell ⟨p, 1, none⟩ u1).setCell ⟨p, 2, none⟩ u2).setCell ⟨p, 3, none⟩ u3 = W1 := ⟨_, rfl⟩
  have hk : ∀ x, x ≠ p → W1.heap[x]? = W.heap[x]? := fun x hx => by
    rw [← hW1, Below.heap_setCell _ _ _ _ (by simpa using hx), Below.heap_setCell _ _ _ _ (by simpa using hx), Below.heap_setCell _ _ _ _ (by simpa using hx), Below.heap_setCell _ _ _ _ (by simpa using hx)]
  have hb : ∀ (n : Nat) (w : World), Below n w W → n ≤ p → Below n w W1 := fun n w h hn => by rw [← hW1]; exact set4 h hn _ _ _ _
  rw [hW1] at hs ⊢
  have b1 : Boxed W1 q tw v4 := (hk q (Ne.symm hpq)).trans b
  exact ⟨(Below.heap_setCell _ _ _ _ (by simpa using hpq)).trans hs, Boxed.set _ b1, fun n w g h1 h2 => (hb n w g h1).setCell (p := ⟨q, 0, none⟩) h2 _⟩
/-- boxes: a run, a cursor, an entry and a cursor for the answer -/
theorem boxNx (id : Int) (B : Option Addr) (n d : Nat) (k : Int) (w : World) : ∃ w1, (((w.alloc (.cells #[.int .i64 id, .slice B n d] 24)).alloc (.cells #[.int .i64 k] 26)).alloc (.cells #[.string ⟨#[]⟩, .string ⟨#[]⟩, .bool false, .int .i64 0] 34)).alloc (.cells #[.int .i64 0] 26) = w1 ∧
    Row2 w1 w.heap.size 24 (.int .i64 id) (.slice B n d) ∧ Boxed w1 (w.heap.size + 1) 26 (.int .i64 k) ∧ Z4 w1 (w.heap.size + 2) El.none ∧ Boxed w1 (w.heap.size + 3) 26 (.int .i64 0) ∧ w1.heap.size = w.heap.size + 4 ∧ Below w.heap.size w w1 := by
  obtain ⟨wa, ea, r0, r1, hs, hb⟩ := boxUC id B n d k w
  rw [ea]
  have b : Z4 (wa.alloc (.cells #[.string ⟨#[]⟩, .string ⟨#[]⟩, .bool false, .int .i64 0] 34)) wa.heap.size El.none := heap_alloc_new _ _
  have hbb := alloc_below wa (.cells #[.string ⟨#[]⟩, .string ⟨#[]⟩, .bool false, .int .i64 0] 34)
  obtain ⟨wc, ec⟩ : ∃ wc, wa.alloc (.cells #[.string ⟨#[]⟩, .string ⟨#[]⟩, .bool false, .int .i64 0] 34) = wc := ⟨_, rfl⟩
  have hsc : wc.heap.size = wa.heap.size + 1 := by rw [← ec]; simp
  rw [ec] at b hbb ⊢
  have c := Boxed.new wc 26 (.int .i64 0)
  have hc := alloc_below wc (.cells #[.int .i64 0] 26)
  refine ⟨_, rfl, ?_, ?_, ?_, ?_, by simp; omega, ?_⟩
  · exact (r0.below hbb (Nat.le_refl _)).below hc (Nat.le_refl _)
  · exact box_below (box_below r1 hbb (Nat.le_refl _)) hc (Nat.le_refl _)
  · rw [show w.heap.size + 2 = wa.heap.size by omega]; exact Row4.below b hc (Nat.le_refl _)
  · rw [show w.heap.size + 3 = wc.heap.size by omega]; exact c
  · exact eb_of (eb_of hb hbb (by omega)) hc (by omega)
/-- the same, and a bool in a box -/
theorem boxSk (id : Int) (B : Option Addr) (n d : Nat) (k : Int) (dead : Bool) (w : World) : ∃ w1, ((((w.alloc (.cells #[.int .i64 id, .slice B n d] 24)).alloc (.cells #[.int .i64 k] 26)).alloc (.cells #[.bool dead] 4)).alloc (.cells #[.string ⟨#[]⟩, .string ⟨#[]⟩, .bool false, .int .i64 0] 34)).alloc (.cells #[.int .i64 0] 26) = w1 ∧
    Row2 w1 w.heap.size 24 (.int .i64 id) (.slice B n d) ∧ Boxed w1 (w.heap.size + 1) 26 (.int .i64 k) ∧ Boxed w1 (w.heap.size + 2) 4 (.bool dead) ∧ Z4 w1 (w.heap.size + 3) El.none ∧ Boxed w1 (w.heap.size + 4) 26 (.int .i64 0) ∧ w1.heap.size = w.heap.size + 5 ∧ Below w.heap.size w w1 := by
  obtain ⟨w0, e0, r0, r1, hs0, hb0⟩ := boxUC id B n d k w
  rw [e0]
  have a := Boxed.new w0 4 (.bool dead)
  have ha := alloc_below w0 (.cells #[.bool dead] 4)
  obtain ⟨wa, ea⟩ : ∃ wa, w0.alloc (.cells #[.bool dead] 4) = wa := ⟨_, rfl⟩
  have hs : wa.heap.size = w0.heap.size + 1 := by rw [← ea]; simp
  rw [ea] at a ha ⊢
  have b : Z4 (wa.alloc (.cells #[.string ⟨#[]⟩, .string ⟨#[]⟩, .bool false, .int .i64 0] 34)) wa.heap.size El.none := heap_alloc_new _ _
  have hbb := alloc_below wa (.cells #[.string ⟨#[]⟩, .string ⟨#[]⟩, .bool false, .int .i64 0] 34)
  obtain ⟨wc, ec⟩ : ∃ wc, wa.alloc (.cells #[.string ⟨#[]⟩, .string ⟨#[]⟩, .bool false, .int .i64 0] 34) = wc := ⟨_, rfl⟩
  have hsc : wc.heap.size = wa.heap.size + 1 := by rw [← ec]; simp
  rw [ec] at b hbb ⊢
  have c := Boxed.new wc 26 (.int .i64 0)
  have hc := alloc_below wc (.cells #[.int .i64 0] 26)
  refine ⟨_, rfl, ?_, ?_, ?_, ?_, ?_, by simp; omega, ?_⟩
  · exact ((r0.below ha (Nat.le_refl _)).below hbb (Nat.le_refl _)).below hc (Nat.le_refl _)
  · exact box_below (box_below (box_below r1 ha (Nat.le_refl _)) hbb (Nat.le_refl _)) hc (Nat.le_refl _)
  · rw [show w.heap.size + 2 = w0.heap.size by omega]; exact box_below (box_below a hbb (Nat.le_refl _)) hc (Nat.le_refl _)
  · rw [show w.heap.size + 3 = wa.heap.size by omega]; exact Row4.below b hc (Nat.le_refl _)
  · rw [show w.heap.size + 4 = wc.heap.size by omega]; exact c
  · exact eb_of (eb_of (eb_of hb0 ha (by omega)) hbb (by omega)) hc (by omega)
set_option maxRecDepth 100000 in
set_option maxHeartbeats 2000000 in
theorem pNext9_any (id : Int) (B : Option Addr) (d : Nat) (xs : List El.En) (k : Int) (w : World) (hf : EsAt w B xs) (hn : xs.length ≤ 4294967295) (hs : Sized xs) :
    Calls Try.prog 19 #[.agg #[.int .i64 id, .slice B xs.length d], .agg #[.int .i64 k]] w (GoOut id xs k false (fun _ => true) w) := by
  obtain ⟨w1, hw1, r0, b0, r1, b2, hsz, hb⟩ := boxNx id B xs.length d k w
  have J : Hid (Calls Try.prog 37 #[.agg #[.int .i64 id, .slice B xs.length d], .agg #[.int .i64 k], .bool false, .func (.func 38) #[] #[]] w1 fun e w' => e = .returned (.tuple #[entV (goE id xs k false (fun _ => true)).1, .agg #[.int .i64 (goE id xs k false (fun _ => true)).2.1], .int .i64 (goE id xs k false (fun _ => true)).2.2]) ∧ Below w1.heap.size w1 w') := Lib.hid (by
    have h2 : Below w1.heap.size w1 w1 := Below.refl _ _
    exact goOn_any id B d xs k false 38 #[] (fun _ => true) w1 (hf.below hb (Nat.le_refl _)) hn hs (by have w2 := w1; exact anyE_wants w1) (enters_of Try.func38 (by kernel_rfl) rfl))
  unfold GoOut
  generalize goE id xs k false (fun _ => true) = res at *
  obtain ⟨⟨ek, ev, ed, eq⟩, rk, re⟩ := res
  simp only [entV] at J ⊢
  have HB := Lib.hid hb
  have HR1 := Lib.hid r1
  have HK2 := Lib.hid b2
  have HSZ := Lib.hid hsz
  have x0 := r0.c0
  have x1 := r0.c1
  have x2 := b0.cell
  clear hf hs r0 b0 r1 b2 hb hsz
  generalize xs.length = n at *
  go_enter Try.func19, Try.ntmps19
  go_wp2_with fail
  refine J.out.mono ?_
  rintro e w2 ⟨rfl, hb⟩
  have r1 : Z4 _ _ _ := Row4.below HR1.out hb (Nat.le_refl _)
  have b2 := box_below HK2.out hb (Nat.le_refl _)
  have HO := Lib.hid (out2 r1 b2 (by omega) (.string ek) (.string ev) (.bool ed) (.int .i64 eq) (.int .i64 rk))
  have HB2 := Lib.hid (eb_of HB.out hb (by first | exact Nat.le_refl _ | exact HB.out.size))
  have y0 := r1.c0
  have y1 := r1.c1
  have y2 := r1.c2
  have y3 := r1.c3
  have z0 := r1.fz 0
  have z1 := r1.fz 1
  have z2 := r1.fz 2
  have z3 := r1.fz 3
  have y4 := b2.cell
  have z4 := b2.frozen
  clear hb x0 x1 x2 r1 b2 J
  go_wp2_with fail
  obtain ⟨k1, k2, k3⟩ := HO.out
  have c0 := k1.c0
  have c1 := k1.c1
  have c2 := k1.c2
  have c3 := k1.c3
  have c4 := k2.cell
  refine bodyPost_ret (v := .tuple #[.agg #[.string ek, .string ev, .bool ed, .int .i64 eq], .agg #[.int .i64 rk], .int .i64 re]) (by simp [results, Try.f19, go_sem, c0, c1, c2, c3, c4]) rfl ?_
  exact ⟨rfl, k3 _ _ HB2.out (by omega) (by omega)⟩
set_option maxRecDepth 100000 in
set_option maxHeartbeats 2000000 in
theorem pPrev9_any (id : Int) (B : Option Addr) (d : Nat) (xs : List El.En) (k : Int) (w : World) (hf : EsAt w B xs) (hn : xs.length ≤ 4294967295) (hs : Sized xs) :
    Calls Try.prog 21 #[.agg #[.int .i64 id, .slice B xs.length d], .agg #[.int .i64 k]] w (GoOut id xs k true (fun _ => true) w) := by
  obtain ⟨w1, hw1, r0, b0, r1, b2, hsz, hb⟩ := boxNx id B xs.length d k w
  have J : Hid (Calls Try.prog 37 #[.agg #[.int .i64 id, .slice B xs.length d], .agg #[.int .i64 k], .bool true, .func (.func 38) #[] #[]] w1 fun e w' => e = .returned (.tuple #[entV (goE id xs k true (fun _ => true)).1, .agg #[.int .i64 (goE id xs k true (fun _ => true)).2.1], .int .i64 (goE id xs k true (fun _ => true)).2.2]) ∧ Below w1.heap.size w1 w') := Lib.hid (by
    have h2 : Below w1.heap.size w1 w1 := Below.refl _ _
    exact goOn_any id B d xs k true 38 #[] (fun _ => true) w1 (hf.below hb (Nat.le_refl _)) hn hs (by have w2 := w1; exact anyE_wants w1) (enters_of Try.func38 (by kernel_rfl) rfl))
  unfold GoOut
  generalize goE id xs k true (fun _ => true) = res at *
  obtain ⟨⟨ek, ev, ed, eq⟩, rk, re⟩ := res
  simp only [entV] at J ⊢
  have HB := Lib.hid hb
  have HR1 := Lib.hid r1
  have HK2 := Lib.hid b2
  have HSZ := Lib.hid hsz
  have x0 := r0.c0
  have x1 := r0.c1
  have x2 := b0.cell
  clear hf hs r0 b0 r1 b2 hb hsz
  generalize xs.length = n at *
  go_enter Try.func21, Try.ntmps21
  go_wp2_with fail
  refine J.out.mono ?_
  rintro e w2 ⟨rfl, hb⟩
  have r1 : Z4 _ _ _ := Row4.below HR1.out hb (Nat.le_refl _)
  have b2 := box_below HK2.out hb (Nat.le_refl _)
  have HO := Lib.hid (out2 r1 b2 (by omega) (.string ek) (.string ev) (.bool ed) (.int .i64 eq) (.int .i64 rk))
  have HB2 := Lib.hid (eb_of HB.out hb (by first | exact Nat.le_refl _ | exact HB.out.size))
  have y0 := r1.c0
  have y1 := r1.c1
  have y2 := r1.c2
  have y3 := r1.c3
  have z0 := r1.fz 0
  have z1 := r1.fz 1
  have z2 := r1.fz 2
  have z3 := r1.fz 3
  have y4 := b2.cell
  have z4 := b2.frozen
  clear hb x0 x1 x2 r1 b2 J
  go_wp2_with fail
  obtain ⟨k1, k2, k3⟩ := HO.out
  have c0 := k1.c0
  have c1 := k1.c1
  have c2 := k1.c2
  have c3 := k1.c3
  have c4 := k2.cell
  refine bodyPost_ret (v := .tuple #[.agg #[.string ek, .string ev, .bool ed, .int .i64 eq], .agg #[.int .i64 rk], .int .i64 re]) (by simp [results, Try.f21, go_sem, c0, c1, c2, c3, c4]) rfl ?_
  exact ⟨rfl, k3 _ _ HB2.out (by omega) (by omega)⟩
set_option maxRecDepth 100000 in
set_option maxHeartbeats 2000000 in
theorem pSkip9_any (id : Int) (B : Option Addr) (d : Nat) (xs : List El.En) (k : Int) (dead back : Bool) (w : World) (hf : EsAt w B xs) (hn : xs.length ≤ 4294967295) (hs : Sized xs) :
    Calls Try.prog 30 #[.agg #[.int .i64 id, .slice B xs.length d], .agg #[.int .i64 k], .bool dead, .bool back] w (GoOut id xs k back (fun x => x.2.2.1 == dead) w) := by
  obtain ⟨w1, hw1, r0, b0, bd, r1, b2, hsz, hb⟩ := boxSk id B xs.length d k dead w
  have J : Hid (Calls Try.prog 37 #[.agg #[.int .i64 id, .slice B xs.length d], .agg #[.int .i64 k], .bool back, .func (.func 45) #[] #[.pointer (some ⟨w.heap.size + 2, 0, none⟩)]] w1 fun e w' => e = .returned (.tuple #[entV (goE id xs k back (fun x => x.2.2.1 == dead)).1, .agg #[.int .i64 (goE id xs k back (fun x => x.2.2.1 == dead)).2.1], .int .i64 (goE id xs k back (fun x => x.2.2.1 == dead)).2.2]) ∧ Below w1.heap.size w1 w') := Lib.hid (by
    have h2 : Below w1.heap.size w1 w1 := Below.refl _ _
    exact goOn_any id B d xs k back 45 #[.pointer (some ⟨w.heap.size + 2, 0, none⟩)] (fun x => x.2.2.1 == dead) w1 (hf.below hb (Nat.le_refl _)) hn hs (by have w2 := w1; exact skip_wants dead (w.heap.size + 2) w1 (box_below bd h2 (Nat.le_refl _)) (box_below bd h2 (Nat.le_refl _)).lt (fun W hW => (box_below (box_below bd h2 (Nat.le_refl _)) hW (Nat.le_refl _)).cell)) (enters_of Try.func45 (by kernel_rfl) rfl))
  unfold GoOut
  generalize goE id xs k back (fun x => x.2.2.1 == dead) = res at *
  obtain ⟨⟨ek, ev, ed, eq⟩, rk, re⟩ := res
  simp only [entV] at J ⊢
  have HB := Lib.hid hb
  have HR1 := Lib.hid r1
  have HK2 := Lib.hid b2
  have HSZ := Lib.hid hsz
  have x0 := r0.c0
  have x1 := r0.c1
  have x2 := b0.cell
  clear hf hs r0 b0 r1 b2 hb hsz bd
  generalize xs.length = n at *
  go_enter Try.func30, Try.ntmps30
  go_wp2_with fail
  refine J.out.mono ?_
  rintro e w2 ⟨rfl, hb⟩
  have r1 : Z4 _ _ _ := Row4.below HR1.out hb (Nat.le_refl _)
  have b2 := box_below HK2.out hb (Nat.le_refl _)
  have HO := Lib.hid (out2 r1 b2 (by omega) (.string ek) (.string ev) (.bool ed) (.int .i64 eq) (.int .i64 rk))
  have HB2 := Lib.hid (eb_of HB.out hb (by first | exact Nat.le_refl _ | exact HB.out.size))
  have y0 := r1.c0
  have y1 := r1.c1
  have y2 := r1.c2
  have y3 := r1.c3
  have z0 := r1.fz 0
  have z1 := r1.fz 1
  have z2 := r1.fz 2
  have z3 := r1.fz 3
  have y4 := b2.cell
  have z4 := b2.frozen
  clear hb x0 x1 x2 r1 b2 J
  go_wp2_with fail
  obtain ⟨k1, k2, k3⟩ := HO.out
  have c0 := k1.c0
  have c1 := k1.c1
  have c2 := k1.c2
  have c3 := k1.c3
  have c4 := k2.cell
  refine bodyPost_ret (v := .tuple #[.agg #[.string ek, .string ev, .bool ed, .int .i64 eq], .agg #[.int .i64 rk], .int .i64 re]) (by simp [results, Try.f30, go_sem, c0, c1, c2, c3, c4]) rfl ?_
  exact ⟨rfl, k3 _ _ HB2.out (by omega) (by omega)⟩
end Go.Proofs.Yticdechdgpfdfaa.KK
