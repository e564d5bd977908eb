/-
  Walk: goOn with a cursor of the run.
-/
import Derived.Test.YticdechdgpfdfaaTd
import Derived.RegionIn
namespace Go.Proofs.Yticdechdgpfdfaa.KK
open Go.ChangeShapes Go.WideShapes Go.ChangeAt Go.RowKit Go.Proofs Go.Sort
attribute [local go_sem] Oper.semAt_some

theorem below_drew {n : Nat} {w W : World} (h : Below n w W) : Below n w W.drew := ⟨h.1, h.2, h.3, h.4, h.5⟩
def Z4 (W : World) (p : Nat) (x : El.En) : Prop := Row4 W p 34 (.string x.1) (.string x.2.1) (.bool x.2.2.1) (.int .i64 x.2.2.2)
theorem row4_kept {W W' : World} {row : Option Nat} {B : Nat} {t : TypeId} {a b c d : Value} (h : Row4 W B t a b c d) (hg : W.grownBy W' row) (hne : some B ≠ row) : Row4 W' B t a b c d := (hg.block B h.lt hne).trans h
theorem row2_kept {W W' : World} {row : Option Nat} {B : Nat} {t : TypeId} {a b : Value} (h : Row2 W B t a b) (hg : W.grownBy W' row) (hne : some B ≠ row) : Row2 W' B t a b := (hg.block B h.lt hne).trans h
/-- goOn's cells between two rounds -/
def GoI (w : World) (gv : Value) (A : Option Addr) (n c : Nat) (k : Int) (back : Bool) (Bl Bw Bd : Nat) (q : El.En → Bool) (pre : List (El.En × Nat)) (W : World) : Prop :=
  AhAt A n c k back Bl Bw Bd W ∧ Boxed W (w.heap.size + 1) 26 (.int .i64 k) ∧ Boxed W (w.heap.size + 2) 62 gv ∧ Z4 W (w.heap.size + 3) El.none ∧ Boxed W (w.heap.size + 4) 26 (.int .i64 0) ∧ Boxed W (w.heap.size + 5) 29 (.int .i64 0) ∧
    Below w.heap.size w W ∧ ∀ y ∈ pre, q y.1 = false
def GoX (w : World) (q : El.En → Bool) (c : Code) (pre : List (El.En × Nat)) (W : World) : Prop :=
  c = .ret ∧ ∃ (pre' : List (El.En × Nat)) (y : El.En × Nat), pre = pre' ++ [y] ∧ (∀ z ∈ pre', q z.1 = false) ∧ q y.1 = true ∧ Z4 W (w.heap.size + 3) y.1 ∧ Boxed W (w.heap.size + 4) 26 (.int .i64 (y.2 : Int)) ∧ Boxed W (w.heap.size + 5) 29 (.int .i64 0) ∧ Below w.heap.size w W
theorem GoI.kept {w A A' : World} {gv : Value} {D : Option Addr} {n c : Nat} {k : Int} {back : Bool} {Bl Bw Bd N : Nat} {q : El.En → Bool} {pre : List (El.En × Nat)} {row : Option Nat} (h : GoI w gv D n c k back Bl Bw Bd q pre A) (hN : Bl < N ∧ Bw < N ∧ Bd < N ∧ w.heap.size + 5 < N) (hg : A.grownBy A' row) (hr : ∀ r, row = some r → N ≤ r) : GoI w gv D n c k back Bl Bw Bd q pre A' := by
  obtain ⟨⟨a1, a2, a3⟩, b1, b2, b3, b4, b5, hb, hq⟩ := h
  have ne : ∀ k, k < N → some k ≠ row := fun k hk e => by have := hr k e.symm; omega
  exact ⟨⟨a1.kept hg (ne _ hN.1), a2.kept hg (ne _ hN.2.1), row2_kept a3 hg (ne _ hN.2.2.1)⟩, b1.kept hg (ne _ (by omega)), b2.kept hg (ne _ (by omega)), row4_kept b3 hg (ne _ (by omega)), b4.kept hg (ne _ (by omega)), b5.kept hg (ne _ (by omega)),
    hb.grown hg hb.size (fun k e => by have := hr k e; omega), hq⟩
theorem GoX.kept {w A A' : World} {N : Nat} {q : El.En → Bool} {c : Code} {pre : List (El.En × Nat)} {row : Option Nat} (h : GoX w q c pre A) (hN : w.heap.size + 5 < N) (hg : A.grownBy A' row) (hr : ∀ r, row = some r → N ≤ r) : GoX w q c pre A' := by
  obtain ⟨hc, p', y, h1, h2, h3, b3, b4, b5, hb⟩ := h
  have ne : ∀ k, k < N → some k ≠ row := fun k hk e => by have := hr k e.symm; omega
  exact ⟨hc, p', y, h1, h2, h3, row4_kept b3 hg (ne _ (by omega)), b4.kept hg (ne _ (by omega)), b5.kept hg (ne _ (by omega)), hb.grown hg hb.size (fun k e => by have := hr k e; omega)⟩
theorem fin3 {w X : World} {D : Nat} {y : El.En} {k e : Int} (hD : w.heap.size + 5 < D) (k1 : Z4 X (w.heap.size + 3) y) (k2 : Boxed X (w.heap.size + 4) 26 (.int .i64 k)) (k3 : Boxed X (w.heap.size + 5) 29 (.int .i64 e)) (hb : Below w.heap.size w X) :
    (X.putObj D (.deferred none)).cell? ⟨w.heap.size + 3, 0, none⟩ = some (.string y.1) ∧ (X.putObj D (.deferred none)).cell? ⟨w.heap.size + 3, 1, none⟩ = some (.string y.2.1) ∧ (X.putObj D (.deferred none)).cell? ⟨w.heap.size + 3, 2, none⟩ = some (.bool y.2.2.1) ∧ (X.putObj D (.deferred none)).cell? ⟨w.heap.size + 3, 3, none⟩ = some (.int .i64 y.2.2.2) ∧
      (X.putObj D (.deferred none)).cell? ⟨w.heap.size + 4, 0, none⟩ = some (.int .i64 k) ∧ (X.putObj D (.deferred none)).cell? ⟨w.heap.size + 5, 0, none⟩ = some (.int .i64 e) ∧ Below w.heap.size w (X.putObj D (.deferred none)) := by
  have h1 : Z4 (X.putObj D (.deferred none)) (w.heap.size + 3) y := (World.putObj_heap_other (by omega)).trans k1
  exact ⟨h1.c0, h1.c1, h1.c2, h1.c3, Boxed.cell ((World.putObj_heap_other (by omega)).trans k2), Boxed.cell ((World.putObj_heap_other (by omega)).trans k3), hb.grown (grownBy_putObj' X D _) hb.size (fun k e => by cases e; omega)⟩
theorem go_fin {w w3 W w4 : World} {q : El.En → Bool} {pre : List (El.En × Nat)} {x : El.En × Nat} (hb : Below W.heap.size W w4) (hs : w3.heap.size + 2 ≤ W.heap.size) (hlow : w.heap.size + 5 < w3.heap.size)
    (g4 : Z4 w4 (w.heap.size + 3) El.none) (g5 : Boxed w4 (w.heap.size + 4) 26 (.int .i64 0)) (g6 : Boxed w4 (w.heap.size + 5) 29 (.int .i64 0)) (g7 : Below w.heap.size w w4) (g8 : ∀ y ∈ pre, q y.1 = false) (hq : q x.1 = true) :
    Two w3.heap.size W ((((((w4.setCell ⟨w.heap.size + 3, 0, none⟩ (.string x.1.1)).setCell ⟨w.heap.size + 3, 1, none⟩ (.string x.1.2.1)).setCell ⟨w.heap.size + 3, 2, none⟩ (.bool x.1.2.2.1)).setCell ⟨w.heap.size + 3, 3, none⟩ (.int .i64 x.1.2.2.2)).setCell ⟨w.heap.size + 4, 0, none⟩ (.int .i64 (x.2 : Int))).setCell ⟨w.heap.size + 5, 0, none⟩ (.int .i64 0)).drew ∧
      GoX w q .ret (pre ++ [x]) ((((((w4.setCell ⟨w.heap.size + 3, 0, none⟩ (.string x.1.1)).setCell ⟨w.heap.size + 3, 1, none⟩ (.string x.1.2.1)).setCell ⟨w.heap.size + 3, 2, none⟩ (.bool x.1.2.2.1)).setCell ⟨w.heap.size + 3, 3, none⟩ (.int .i64 x.1.2.2.2)).setCell ⟨w.heap.size + 4, 0, none⟩ (.int .i64 (x.2 : Int))).setCell ⟨w.heap.size + 5, 0, none⟩ (.int .i64 0)).drew := by
  obtain ⟨k1, k2, k3, k4, k5⟩ := out3 g4 g5 g6 (by omega) (by omega) (by omega) (.string x.1.1) (.string x.1.2.1) (.bool x.1.2.2.1) (.int .i64 x.1.2.2.2) (.int .i64 (x.2 : Int)) (.int .i64 0)
  have k6 := (k4 _ _ (Below.refl w.heap.size w4)  (by omega) (by omega) (by omega)).size
  generalize (((((w4.setCell ⟨w.heap.size + 3, 0, none⟩ (.string x.1.1)).setCell ⟨w.heap.size + 3, 1, none⟩ (.string x.1.2.1)).setCell ⟨w.heap.size + 3, 2, none⟩ (.bool x.1.2.2.1)).setCell ⟨w.heap.size + 3, 3, none⟩ (.int .i64 x.1.2.2.2)).setCell ⟨w.heap.size + 4, 0, none⟩ (.int .i64 (x.2 : Int))).setCell ⟨w.heap.size + 5, 0, none⟩ (.int .i64 0) = X at *
  exact ⟨⟨Nat.le_trans hb.size k6, (k5 _ (by omega) (by omega) (by omega)).trans (hb.block _ (by omega)), (k5 _ (by omega) (by omega) (by omega)).trans (hb.block _ (by omega))⟩, rfl, pre, x, rfl, g8, hq, k1, k2, k3, below_drew (k4 _ _ g7 (by omega) (by omega) (by omega))⟩
def GoA (w w2 : World) (B : Option Addr) (id : Int) (n d m : Nat) (back : Bool) (gf : Nat) (cap : Array Value) (Bd N : Nat) (x : El.En × Nat) (a' : Act) (W : World) : Prop :=
  ∃ Bx, N + 2 ≤ Bx ∧ Z4 W Bx x.1 ∧ Boxed W (Bx + 1) 26 (.int .i64 (x.2 : Int)) ∧ a' = { tmps := (.agg #[.int .i64 id, .slice B n d] :: .agg #[.int .i64 (m : Int)] :: .bool back :: .func (.func gf) #[] cap :: .pointer (some ⟨w.heap.size, 0, none⟩) :: .pointer (some ⟨w.heap.size + 1, 0, none⟩) :: undef :: .pointer (some ⟨w.heap.size + 1 + 1, 0, none⟩) :: .pointer (some ⟨w.heap.size + 1 + 1 + 1, 0, none⟩) :: .pointer (some ⟨w.heap.size + 1 + 1 + 1 + 1, 0, none⟩) :: .pointer (some ⟨w.heap.size + 1 + 1 + 1 + 1 + 1, 0, none⟩) :: .int .i64 0 :: .pointer (some ⟨Bx, 0, none⟩) :: .pointer (some ⟨Bx + 1, 0, none⟩) :: .agg #[.int .i64 id, .slice B n d] :: .agg #[.int .i64 (m : Int)] :: .int .i64 0 :: .int .i64 0 :: .bool false :: undef :: undef :: undef :: .pointer (some ⟨w.heap.size, 1, none⟩) :: .slice B n d :: .agg #[.int .i64 (m : Int)] :: .bool back :: .func (.func 54) #[] #[.pointer (some ⟨w2.heap.size + 1, 0, none⟩), .pointer (some ⟨Bd, 0, none⟩), .pointer (some ⟨w2.heap.size, 0, none⟩)] :: .agg #[.string x.1.1, .string x.1.2.1, .bool x.1.2.2.1, .int .i64 x.1.2.2.2] :: .agg #[.int .i64 (x.2 : Int)] :: undef :: undef :: undef :: undef :: undef :: undef :: undef :: []).toArray, defers := [] }
set_option maxRecDepth 100000 in
set_option maxHeartbeats 4000000 in
theorem goOn_main (id : Int) (B : Option Addr) (d : Nat) (xs : List El.En) (m : Nat) (back : Bool) (gf : Nat) (cap : Array Value) (q : El.En → Bool) (w : World) (hf : EsAt w B xs) (hn : xs.length ≤ 4294967295) (hs : Sized xs) (h1 : curE id xs m = 0) (hq : Wants gf cap q w) (heg : ∀ (args : Array Value) (w : World), Sem.run Try.prog (callFunc gf args) w = .ok (.enter gf args) w) :
    Calls Try.prog 37 #[.agg #[.int .i64 id, .slice B xs.length d], .agg #[.int .i64 (m : Int)], .bool back, .func (.func gf) #[] cap] w (GoOut id xs m back q w) := by
  obtain ⟨hr, m', hm', hml'⟩ := curE_zero h1
  have hml : m ≤ xs.length := by omega
  have h5 : xs.length ≤ 5000 := (list_ok (run_list hr)).1
  clear hml' hm' m' hr
  obtain ⟨w1, hw1, r0, b0, b1, r1, b2, b3, hsz, hb⟩ := boxGo id B xs.length d m (.func (.func gf) #[] cap) w
  have J := Lib.hid (fun w2 (h : Below w.heap.size w w2) => pCur_any id B d xs m w2 (hf.below h (Nat.le_refl _)) hn hs)
  rw [h1] at J
  have HF := Lib.hid hf
  have HQ := Lib.hid hq
  have H1 := Lib.hid h1
  have HB := Lib.hid hb
  have HR0 := Lib.hid r0
  have HK0 := Lib.hid b0
  have HK1 := Lib.hid b1
  have HR1 := Lib.hid r1
  have HK2 := Lib.hid b2
  have HK3 := Lib.hid b3
  have HSZ := Lib.hid hsz
  have x0 := r0.c0
  have x1 := r0.c1
  have x2 := b0.cell
  clear hf hs r0 b0 b1 r1 b2 b3 hb hsz h1 hq
  obtain ⟨n, hn'⟩ : ∃ n, xs.length = n := ⟨_, rfl⟩
  rw [hn'] at J HR0 x1 hml h5 hw1 hn ⊢
  have HN := Lib.hid hn'
  have JA := Lib.hid (fun w => ahead_any B n d (m : Int) back w)
  clear hn'
  refine (callsIn_wide (n := 9)).1 ?_
  refine callsIn_of_wp_marks Try.func37 rfl trivial ?_
  simp only [Try.ntmps37, List.size_toArray, List.length_cons, List.length_nil, Nat.reduceAdd, Nat.reduceSub, Array.replicate_succ, Array.replicate_zero, List.push_toArray, List.append_toArray, List.nil_append, List.cons_append]
  gi_wp2_with fail
  refine ⟨trivial, ?_⟩
  refine (callsIn_wide.2 (J.out _ HB.out)).mono ?_
  rintro e w2 ⟨rfl, hb⟩
  have HR2 := Lib.hid (HR0.out.below hb (Nat.le_refl _))
  have HL0 := Lib.hid (box_below HK0.out hb (Nat.le_refl _))
  have HL1 := Lib.hid (box_below HK1.out hb (Nat.le_refl _))
  have HL4 := Lib.hid (HR1.out.below hb (Nat.le_refl _))
  have HL2 := Lib.hid (box_below HK2.out hb (Nat.le_refl _))
  have HL3 := Lib.hid (box_below HK3.out hb (Nat.le_refl _))
  have HB2 := Lib.hid (eb_of HB.out hb (by first | exact Nat.le_refl _ | exact HB.out.size))
  have HS2 : Hid (w.heap.size + 6 ≤ w2.heap.size) := Lib.hid (by have := hb.size; have := HSZ.out; omega)
  clear hb x0 x1 x2 HR0 HK0 HK1 HR1 HK2 HK3 HB HSZ hw1 J
  have y0 := HR2.out.c1
  have y1 := HL0.out.cell
  gi_wp2_with fail
  refine ⟨trivial, ?_⟩
  refine (callsIn_wide.2 (JA.out _)).mono ?_
  rintro e w3 ⟨Bd, rfl, hBd, hA, hb⟩
  have HA := Lib.hid hA
  have HBD := Lib.hid hBd
  have HM0 := Lib.hid (box_below HL0.out hb (Nat.le_refl _))
  have HM1 := Lib.hid (box_below HL1.out hb (Nat.le_refl _))
  have HM4 := Lib.hid (HL4.out.below hb (Nat.le_refl _))
  have HM2 := Lib.hid (box_below HL2.out hb (Nat.le_refl _))
  have HM3 := Lib.hid (box_below HL3.out hb (Nat.le_refl _))
  have HB3 := Lib.hid (eb_of HB2.out hb (by first | exact Nat.le_refl _ | exact HB2.out.size))
  clear hb y0 y1 HR2 HL0 HL1 HL4 HL2 HL3 HB2 hA hBd JA
  gi_wp2_with fail
  have hN : w2.heap.size < w3.heap.size ∧ w2.heap.size + 1 < w3.heap.size ∧ Bd < w3.heap.size ∧ w.heap.size + 5 < w3.heap.size := by
    have h1 := HA.out.1.lt
    have h2 := HA.out.2.1.lt
    have h3 := HA.out.2.2.lt
    have h4 := HS2.out
    omega
  refine range_ownR (n := 9) (ps := #[27, 28]) (gf := 54) (lb := #[.pointer (some ⟨w2.heap.size + 1, 0, none⟩), .pointer (some ⟨Bd, 0, none⟩), .pointer (some ⟨w2.heap.size, 0, none⟩)]) ?hg (enters_of Try.func54 (by kernel_rfl) rfl)
    (encs := encW) ?hps (ahL xs m back) (fun _ _ => True) (GoI w (.func (.func gf) #[] cap) B n d m back w2.heap.size (w2.heap.size + 1) Bd q) (GoX w q) (AhR B xs d m back w2.heap.size (w2.heap.size + 1) Bd) ?hIR
    ?hI ?hIx (fun _ _ => trivial) (fun _ _ _ _ => trivial) (fun _ _ _ _ => trivial) ?h0 ?hseq (GoA w w2 B id n d m back gf cap Bd w3.heap.size) ?hAx ?hassign ?hbody ?hdone ?hstop
  case hg => rfl
  case hps => intro x; rfl
  case hIR =>
    intro pre W hi hs
    exact ⟨by rw [HN.out]; exact hi.1, HF.out.below hi.2.2.2.2.2.2.1 (Nat.le_refl _)⟩
  case hI =>
    intro pre A A' row h hg hr
    exact h.kept hN hg (fun r e => (hr r e).1)
  case hIx =>
    intro c pre A A' row h hg hr
    exact h.kept hN.2.2.2 hg (fun r e => (hr r e).1)
  case h0 => exact ⟨HA.out, HM0.out, HM1.out, HM4.out, HM2.out, HM3.out, HB3.out, fun y hy => by cases hy⟩
  case hseq =>
    intro l J Jx W hsz hbl hJ hJR hY h0
    cases back with
    | false => exact ahead1_f (9 - 1) _ _ _ xs B d m l W (by rw [HN.out]; exact hml) (by rw [HN.out]; exact h5) J Jx (fun pre A A' h hb => hJ pre A A' none h (grown_of_below' hb) (fun r e => by cases e)) hJR (fun pre x W1 hj hp => (yield_any' (hY pre x W1 hj hp)).mono (fun e w' hr => hr.imp (fun h => ⟨h.1, h.2.1⟩) (fun h => h))) h0
    | true => exact ahead1_b (9 - 1) _ _ _ xs B d m l W (by rw [HN.out]; exact hml) (by rw [HN.out]; exact h5) J Jx (fun pre A A' h hb => hJ pre A A' none h (grown_of_below' hb) (fun r e => by cases e)) hJR (fun pre x W1 hj hp => (yield_any' (hY pre x W1 hj hp)).mono (fun e w' hr => hr.imp (fun h => ⟨h.1, h.2.1⟩) (fun h => h))) h0
  case hAx =>
    rintro x a' A A' ⟨Bx, hBx, hz, hbx, ha⟩ hg
    exact ⟨Bx, hBx, row4_kept hz hg (by simp; omega), hbx.kept hg (by simp; omega), ha⟩
  case hassign =>
    intro l pre x W K hi hsz hK
    obtain ⟨⟨xk, xv, xd, xq⟩, xb⟩ := x
    simp only [encW]
    gi_wp2
    refine hK _ _ ((World.grownBy_alloc W _ none).trans (World.grownBy_alloc _ _ none)) ⟨W.heap.size, hsz, (heap_alloc_new W (.cells #[.string xk, .string xv, .bool xd, .int .i64 xq] 34) |> fun h => (Below.heap_alloc _ _ _ (by simp)).trans h), ?_, rfl⟩
    have := Boxed.new (W.alloc (.cells #[.string xk, .string xv, .bool xd, .int .i64 xq] 34)) 26 (.int .i64 (xb : Int))
    rwa [World.size_alloc] at this
  case hbody =>
    rintro l pre x a' W hpre hi hsz ⟨Bx, hBx, hz, hbx, rfl⟩
    obtain ⟨⟨xk, xv, xd, xq⟩, xb⟩ := x
    have HI := Lib.hid hi
    have HZ := Lib.hid hz
    have HBX := Lib.hid hbx
    have J1 := Lib.hid (HQ.out W (xk, xv, xd, xq) hi.2.2.2.2.2.2.1)
    simp only [entV] at J1
    have HSZ := Lib.hid hsz
    have x0 := hi.2.2.1.cell
    have x1 := hz.c0
    have x2 := hz.c1
    have x3 := hz.c2
    have x4 := hz.c3
    simp only at x1 x2 x3 x4
    clear hi hz hbx hsz hN
    obtain ⟨qb, hqb⟩ : ∃ qb, q (xk, xv, xd, xq) = qb := ⟨_, rfl⟩
    rw [hqb] at J1
    have HQB := Lib.hid hqb
    clear hqb
    gi_wp2_with fail
    refine ⟨trivial, ?_⟩
    refine (callsIn_wide.2 J1.out).mono ?_
    rintro e w4 ⟨rfl, hb⟩
    have HB4 := Lib.hid hb
    have HI4 : Hid (GoI w (.func (.func gf) #[] cap) B n d m back w2.heap.size (w2.heap.size + 1) Bd q pre w4) := Lib.hid (HI.out.kept (N := W.heap.size) ⟨HI.out.1.1.lt, HI.out.1.2.1.lt, HI.out.1.2.2.lt, by have := HI.out.2.2.2.2.2.1.lt; omega⟩ (grown_of_below' hb) (fun r e => by cases e))
    have hz := HZ.out.below hb (Nat.le_refl _)
    have hbx := box_below HBX.out hb (Nat.le_refl _)
    clear hb x0 x1 x2 x3 x4 J1
    cases qb with
    | false =>
      clear hz hbx
      gi_wp2_with fail
      simp only [roundEnd]
      have hb := HB4.out
      have hw := HSZ.out
      refine ⟨⟨hb.size, hb.block _ (by omega), hb.block _ (by omega)⟩, trivial, ?_⟩
      obtain ⟨g1, g2, g3, g4, g5, g6, g7, g8⟩ := HI4.out
      exact ⟨g1, g2, g3, g4, g5, g6, g7, fun y hy => by
        rcases List.mem_append.1 hy with h | h
        · exact g8 y h
        · rw [List.mem_singleton.1 h]; exact HQB.out⟩
    | true =>
      obtain ⟨g1, g2, g3, g4, g5, g6, g7, g8⟩ := HI4.out
      have x1 := hz.c0
      have x2 := hz.c1
      have x3 := hz.c2
      have x4 := hz.c3
      have x5 := hbx.cell
      have y0 := g4.c0
      have y1 := g4.c1
      have y2 := g4.c2
      have y3 := g4.c3
      have z0 := g4.fz 0
      have z1 := g4.fz 1
      have z2 := g4.fz 2
      have z3 := g4.fz 3
      have y4 := g5.cell
      have z4 := g5.frozen
      have y5 := g6.cell
      have z5 := g6.frozen
      simp only at x1 x2 x3 x4
      clear hz hbx g1 g2 g3 g4 g5 g6 g7 g8
      have hmo : Try.prog.follows .mixedOrders = true := by kernel_rfl
      have hlow : w.heap.size + 5 < w3.heap.size := by have := HA.out.1.lt; have := HS2.out; omega
      have hn1 : ¬ (Bx = w.heap.size + 1 + 1) := by omega
      have hn2 : ¬ (w.heap.size + 1 + 1 = Bx) := by omega
      have hn3 : ¬ (Bx = w.heap.size + 2) := by omega
      have hn4 : ¬ (w.heap.size + 2 = Bx) := by omega
      have hn5 : ¬ (Bx + 1 = w.heap.size + 1 + 1 + 1) := by omega
      have hn6 : ¬ (w.heap.size + 1 + 1 + 1 = Bx + 1) := by omega
      have hn7 : ¬ (Bx + 1 = w.heap.size + 3) := by omega
      have hn8 : ¬ (w.heap.size + 3 = Bx + 1) := by omega
      have hfin : Two w3.heap.size W ((((((w4.setCell ⟨w.heap.size + 3, 0, none⟩ (.string xk)).setCell ⟨w.heap.size + 3, 1, none⟩ (.string xv)).setCell ⟨w.heap.size + 3, 2, none⟩ (.bool xd)).setCell ⟨w.heap.size + 3, 3, none⟩ (.int .i64 xq)).setCell ⟨w.heap.size + 4, 0, none⟩ (.int .i64 (xb : Int))).setCell ⟨w.heap.size + 5, 0, none⟩ (.int .i64 0)).drew ∧ GoX w q .ret (pre ++ [((xk, xv, xd, xq), xb)]) ((((((w4.setCell ⟨w.heap.size + 3, 0, none⟩ (.string xk)).setCell ⟨w.heap.size + 3, 1, none⟩ (.string xv)).setCell ⟨w.heap.size + 3, 2, none⟩ (.bool xd)).setCell ⟨w.heap.size + 3, 3, none⟩ (.int .i64 xq)).setCell ⟨w.heap.size + 4, 0, none⟩ (.int .i64 (xb : Int))).setCell ⟨w.heap.size + 5, 0, none⟩ (.int .i64 0)).drew := by
        exact go_fin (x := ((xk, xv, xd, xq), xb)) HB4.out HSZ.out hlow HI4.out.2.2.2.1 HI4.out.2.2.2.2.1 HI4.out.2.2.2.2.2.1 HI4.out.2.2.2.2.2.2.1 HI4.out.2.2.2.2.2.2.2 HQB.out
      have HFIN := Lib.hid hfin
      clear hfin
      gi_wp2_with fail
      gi_region
      all_goals
        gi_wp2_with fail
        simp only [roundEnd]
        exact HFIN.out
  case hdone =>
    rintro D W hD1 hD2 hi hK
    obtain ⟨g1, g2, g3, g4, g5, g6, g7, g8⟩ := hi
    have HE := Lib.hid (goE_none H1.out g8)
    have HO := Lib.hid (out3 g4 g5 g6 (by omega) (by omega) (by omega) (.string ⟨#[]⟩) (.string ⟨#[]⟩) (.bool false) (.int .i64 0) (.int .i64 (m : Int)) (.int .i64 12))
    have HG := Lib.hid g7
    have HKD := Lib.hid hK
    have hn3 := hN.2.2.2
    have x5 := g2.cell
    have y0 := g4.c0
    have y1 := g4.c1
    have y2 := g4.c2
    have y3 := g4.c3
    have z0 := g4.fz 0
    have z1 := g4.fz 1
    have z2 := g4.fz 2
    have z3 := g4.fz 3
    have y4 := g5.cell
    have z4 := g5.frozen
    have y5 := g6.cell
    have z5 := g6.frozen
    unfold GoOut
    clear g1 g2 g3 g4 g5 g6 g7 g8 hK hN
    have hmo : Try.prog.follows .mixedOrders = true := by kernel_rfl
    gi_wp2_with fail
    gi_region
    all_goals
      gi_wp2_with fail
      obtain ⟨k1, k2, k3, k4, k5⟩ := HO.out
      obtain ⟨X, hX⟩ : ∃ X, (((((W.setCell ⟨w.heap.size + 3, 0, none⟩ (.string ⟨#[]⟩)).setCell ⟨w.heap.size + 3, 1, none⟩ (.string ⟨#[]⟩)).setCell ⟨w.heap.size + 3, 2, none⟩ (.bool false)).setCell ⟨w.heap.size + 3, 3, none⟩ (.int .i64 0)).setCell ⟨w.heap.size + 4, 0, none⟩ (.int .i64 (m : Int))).setCell ⟨w.heap.size + 5, 0, none⟩ (.int .i64 12) = X := ⟨_, rfl⟩
      rw [hX] at k1 k2 k3 k5 ⊢
      have k4 := k4 _ _ HG.out (by omega) (by omega) (by omega)
      rw [hX] at k4
      have hKX : X.drew.heap[D]? = some (.deferred (some [])) := (k5 D (by omega) (by omega) (by omega)).trans HKD.out
      obtain ⟨c0, c1, c2, c3, c4, c5, c6⟩ := fin3 (w := w) (X := X.drew) (D := D) (y := El.none) (by omega) k1 k2 k3 (below_drew k4)
      refine ⟨by simp, .inl ⟨_, _, rfl, run_takeDeferred hKX, ?_⟩⟩
      refine ⟨.tuple #[.agg #[.string ⟨#[]⟩, .string ⟨#[]⟩, .bool false, .int .i64 0], .agg #[.int .i64 (m : Int)], .int .i64 12], ?_, by unfold GoOut; rw [HE.out]; exact ⟨rfl, c6⟩⟩
      simp only [El.none] at c0 c1 c2 c3
      simp [results, Try.f37, go_sem, c0, c1, c2, c3, c4, c5]
  case hstop =>
    rintro D c' pre W hD1 hD2 hpre ⟨rfl, p', y, rfl, g1, g2, b0, b1, b2, hb⟩ hK
    have HE := Lib.hid (goE_some H1.out hpre g1 g2)
    obtain ⟨⟨yk, yv, yd, yq⟩, yb⟩ := y
    have hn3 := hN.2.2.2
    obtain ⟨c0, c1, c2, c3, c4, c5, c6⟩ := fin3 (w := w) (X := W) (D := D) (by omega) b0 b1 b2 hb
    simp only at c0 c1 c2 c3 c4
    gi_wp2_with fail
    refine ⟨by simp, .inl ⟨_, _, rfl, run_takeDeferred hK, ?_⟩⟩
    refine ⟨.tuple #[.agg #[.string yk, .string yv, .bool yd, .int .i64 yq], .agg #[.int .i64 (yb : Int)], .int .i64 0], ?_, by unfold GoOut; rw [HE.out]; exact ⟨rfl, c6⟩⟩
    simp [results, Try.f37, go_sem, c0, c1, c2, c3, c4, c5]
end Go.Proofs.Yticdechdgpfdfaa.KK
