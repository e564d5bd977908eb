/-
  Shadow: sift, Filter and Count of the program.
-/
import Derived.Test.YtlobkbhghpknmaaSe
namespace Go.Proofs.Ytlobkbhghpknmaa.KK
open Go.ChangeShapes Go.WideShapes Go.ChangeAt Go.RowKit Go.Proofs

def zO : Oc := ([], 0, 0)
/-- what becomes of the entries from one on -/
def sgo : St → Nat → Oc → List El.En → Oc × Int × Int
  | _, _, o, [] => (o, 0, 0)
  | s, i, o, x :: t => if stepE s x = 0 then sgo (nextS s x) (i + 1) (addO o x (fateS s x)) t else (zO, (i : Int), stepE s x)
def siftE (xs : List El.En) (b : Bool) : Oc × Int × Int := if 20000 < xs.length then (zO, -1, 3) else sgo (false, ⟨#[]⟩, b) 0 zO xs
theorem sgo_ok {xs : List El.En} {k : Nat} {s : St} {o : Oc} (h : k < xs.length) (g : stepE s xs[k] = 0) : sgo s k o (xs.drop k) = sgo (nextS s xs[k]) (k + 1) (addO o xs[k] (fateS s xs[k])) (xs.drop (k + 1)) := by
  rw [List.drop_eq_getElem_cons h]; exact if_pos g
theorem sgo_no {xs : List El.En} {k : Nat} {s : St} {o : Oc} (h : k < xs.length) (g : stepE s xs[k] ≠ 0) : sgo s k o (xs.drop k) = (zO, (k : Int), stepE s xs[k]) := by
  rw [List.drop_eq_getElem_cons h]; exact if_neg g
theorem sgo_end {xs : List El.En} {k : Nat} {s : St} {o : Oc} (h : ¬ k < xs.length) : sgo s k o (xs.drop k) = (o, 0, 0) := by
  rw [List.drop_eq_nil_of_le (by omega)]; rfl
theorem addO_le {o : Oc} {x : El.En} {f : Fate} {k : Nat} (h : o.1.length ≤ k ∧ o.2.1 ≤ k ∧ o.2.2 ≤ k) : (addO o x f).1.length ≤ k + 1 ∧ (addO o x f).2.1 ≤ k + 1 ∧ (addO o x f).2.2 ≤ k + 1 := by
  cases f <;> simp [addO] <;> omega
/-- what sift answers -/
def SiftOut (xs : List El.En) (b : Bool) (w : World) (e : Ending) (w' : World) : Prop :=
  ∃ A c, e = .returned (.tuple #[.agg #[.slice A (siftE xs b).1.1.length c, .int .i64 ((siftE xs b).1.2.1 : Int), .int .i64 ((siftE xs b).1.2.2 : Int)], .int .i64 (siftE xs b).2.1, .int .i64 (siftE xs b).2.2]) ∧ EsAt w' A (siftE xs b).1.1 ∧ Below w.heap.size w w'
theorem SiftOut.err {xs : List El.En} {b : Bool} {w w' : World} {i e : Int} (h : siftE xs b = (zO, i, e)) (hb : Below w.heap.size w w') : SiftOut xs b w (.returned (.tuple #[.agg #[.slice none 0 0, .int .i64 0, .int .i64 0], .int .i64 i, .int .i64 e])) w' := by
  unfold SiftOut; rw [h]; exact ⟨none, 0, rfl, .inl rfl, hb⟩
theorem SiftOut.fin {xs : List El.En} {b : Bool} {w w' : World} {o : Oc} {base : Nat} {A : Option Addr} {c : Nat} (h : siftE xs b = (o, 0, 0)) (hr : w'.ownsRow base 25 4 (.slice A o.1.length c) o.1.length (cellsE o.1)) (hb : Below w.heap.size w w') : SiftOut xs b w (.returned (.tuple #[.agg #[.slice A o.1.length c, .int .i64 (o.2.1 : Int), .int .i64 (o.2.2 : Int)], .int .i64 0, .int .i64 0])) w' := by
  unfold SiftOut; rw [h]; exact ⟨A, c, rfl, .of_own hr, hb⟩

/-- while entries come -/
def SiftR (xs : List El.En) (b : Bool) (w : World) (base b7 : Nat) (k : Nat) (wr : World) : Prop :=
  ∃ (A : Option Addr) (c : Nat) (o : Oc) (ss : Bool) (sl : ByteArray), OcAt base w.heap.size wr (.slice A o.1.length c) o ∧ Row3 wr b7 23 (.bool ss) (.string sl) (.bool b) ∧ Below w.heap.size w wr ∧ base ≤ wr.heap.size ∧
    siftE xs b = sgo (ss, sl, b) k o (xs.drop k) ∧ sl.size ≤ 9223372036854775807 ∧ (o.1.length ≤ k ∧ o.2.1 ≤ k ∧ o.2.2 ≤ k)
theorem OcAt.set3 {base B b7 : Nat} {w : World} {v : Value} {o : Oc} (h : OcAt base B w v o) (h7 : b7 < base) (hne : b7 ≠ B) (x y z : Value) : OcAt base B (((w.setCell ⟨b7, 0, none⟩ x).setCell ⟨b7, 1, none⟩ y).setCell ⟨b7, 2, none⟩ z) v o :=
  ⟨h.1.chg (((chg_set b7 0 x).trans (chg_set b7 1 y)).trans (chg_set b7 2 z)) (fun e => hne e.symm), ownsRow_setCell_below (ownsRow_setCell_below (ownsRow_setCell_below h.2 (a := ⟨b7, 0, none⟩) h7 x) (a := ⟨b7, 1, none⟩) h7 y) (a := ⟨b7, 2, none⟩) h7 z⟩
theorem SiftR.next {xs : List El.En} {b : Bool} {w w3 w4 : World} {base b7 k : Nat} {v : Value} {o : Oc} {xk : ByteArray} {A4 : Option Addr} {c4 : Nat} (hO : OcAt base w.heap.size w4 (.slice A4 o.1.length c4) o) (hC : Chg (fun k => k = w.heap.size ∨ v.ownBlock = some k) w3 w4) (hown : ∀ g, v.ownBlock = some g → base ≤ g)
    {ss : Bool} {sl : ByteArray} (hS : Row3 w3 b7 23 (.bool ss) (.string sl) (.bool b)) (hB : Below w.heap.size w w3) (h7 : b7 < base) (h7' : w.heap.size < b7) (hbase : base ≤ w3.heap.size) (ha : siftE xs b = sgo (true, xk, b) k o (xs.drop k)) (hx : xk.size ≤ 9223372036854775807) (hle : o.1.length ≤ k ∧ o.2.1 ≤ k ∧ o.2.2 ≤ k) :
    SiftR xs b w base b7 k (((w4.setCell ⟨b7, 0, none⟩ (.bool true)).setCell ⟨b7, 1, none⟩ (.string xk)).setCell ⟨b7, 2, none⟩ (.bool b)) := by
  have hS4 : Row3 w4 b7 23 (.bool ss) (.string sl) (.bool b) := hS.chg hC (fun e => by rcases e with e | e; omega; have := hown _ e; omega)
  exact ⟨A4, c4, o, true, xk, hO.set3 h7 (by omega) _ _ _, hS4.set _ _ _, set3s (hB.trans (hC.below (fun k hk => by rcases hk with e | e; omega; have := hown _ e; omega) hB.size)) (by omega) _ _ _, Nat.le_trans hbase (by simpa [World.setCell] using hC.size), ha, hx, hle⟩
set_option maxRecDepth 100000 in
set_option maxHeartbeats 2000000 in
theorem sift_any (A : Option Addr) (c : Nat) (xs : List El.En) (b : Bool) (w : World) (hf : EsAt w A xs) (hn : xs.length ≤ 4294967295) (hs : Sized xs) :
    Calls Try.prog 29 #[.slice A xs.length c, .bool b] w fun e w' => SiftOut xs b w e w' := by
  by_cases h64 : 20000 < xs.length
  · have HE := Lib.hid (show siftE xs b = (zO, -1, 3) from if_pos h64)
    go_enter Try.func29, Try.ntmps29
    go_wp2_with fail
    exact bodyPost_ret (v := .tuple #[.agg #[.slice none 0 0, .int .i64 0, .int .i64 0], .int .i64 (-1), .int .i64 3]) (by simp [results, Try.results29, go_sem]) rfl (.err HE.out (al1 _ _))
  have HE := Lib.hid (show siftE xs b = sgo (false, ⟨#[]⟩, b) 0 zO xs from if_neg h64)
  have JB := Lib.hid (fun w => pBegin_any b w)
  have HF := Lib.hid hf
  have HS := Lib.hid hs
  obtain ⟨n, hnn⟩ : ∃ n, xs.length = n := ⟨_, rfl⟩
  rw [hnn] at hn h64 ⊢
  have HN := Lib.hid hnn
  clear hnn hf hs
  go_enter Try.func29, Try.ntmps29
  go_wp2_with fail
  refine (JB.out _).mono ?_
  rintro e w1 ⟨rfl, hb⟩
  have hr0 : Row3 w1 w.heap.size 58 (.slice none 0 0) (.int .i64 0) (.int .i64 0) := (hb.block _ (by simp)).trans (heap_alloc_new _ _)
  have HB := Lib.hid (eb_of (al1 w (.cells #[.slice none 0 0, .int .i64 0, .int .i64 0] 58)) hb (Nat.le_refl _))
  have hz1 : w.heap.size + 1 ≤ w1.heap.size := by have := hb.size; simpa using this
  have HST : Hid (SiftR xs b w (w1.heap.size + 1) w1.heap.size 0 (w1.alloc (.cells #[.bool false, .string ⟨#[]⟩, .bool b] 23))) := Lib.hid
    ⟨none, 0, zO, false, ⟨#[]⟩, ⟨hr0.below (al1 _ _) (Nat.le_refl _), World.ownsRow_nil _ _ _ _⟩, heap_alloc_new _ _, eb_of HB.out (al1 _ _) (by have := HB.out.size; omega), by simp, HE.out, by decide, by decide⟩
  clear hb hr0 HE
  go_wp2_with fail
  go_loopw [21] (fun iv wr => ∃ k : Nat, k ≤ n ∧ iv = .int .i64 k ∧ SiftR xs b w (w1.heap.size + 1) w1.heap.size k wr) (fun iv _ => n - (intOf iv).toNat)
  case atStart => exact ⟨0, Nat.zero_le _, rfl, HST.out⟩
  case round =>
    obtain ⟨k, hk, rfl, A1, c1, o, ss, sl, ho, hs7, hb, hbase, ha, hsl, hle⟩ := hrel
    have HA := Lib.hid ha
    have HB2 := Lib.hid hb
    have HO := Lib.hid ho
    have HS7 := Lib.hid hs7
    have HLE := Lib.hid hle
    have r0 := ho.1.c0
    have r1 := ho.1.c1
    have r2 := ho.1.c2
    have rf0 := ho.1.fz 0
    have rf1 := ho.1.fz 1
    have rf2 := ho.1.fz 2
    have s0 := hs7.c0
    have s1 := hs7.c1
    have s2 := hs7.c2
    have sf0 := hs7.fz 0
    have sf1 := hs7.fz 1
    have sf2 := hs7.fz 2
    have hl7 : w1.heap.size < wr.heap.size := by omega
    have hlB : w.heap.size < wr.heap.size := by omega
    clear ha ho hs7 hle
    by_cases hlt : k < n
    rotate_left
    · have HEN : Hid (siftE xs b = (o, 0, 0)) := Lib.hid (HA.out.trans (sgo_end (by rw [HN.out]; exact hlt)))
      clear hb
      go_wp2_with fail
      have hr := HO.out.1.set (.slice A1 o.1.length c1) (.int .i64 (o.2.1 : Int)) (.int .i64 (o.2.2 : Int))
      have ho := ownsRow_setCell_below (ownsRow_setCell_below (ownsRow_setCell_below HO.out.2 (a := ⟨w.heap.size, 0, none⟩) (show w.heap.size < _ by omega) (.slice A1 o.1.length c1)) (a := ⟨w.heap.size, 1, none⟩) (show w.heap.size < _ by omega) (.int .i64 (o.2.1 : Int))) (a := ⟨w.heap.size, 2, none⟩) (show w.heap.size < _ by omega) (.int .i64 (o.2.2 : Int))
      have hBf := set3s HB2.out (Nat.le_refl _) (.slice A1 o.1.length c1) (.int .i64 (o.2.1 : Int)) (.int .i64 (o.2.2 : Int))
      clear r0 r1 r2
      revert hr ho hBf
      generalize World.setCell _ _ _ = W
      intro hr ho hBf
      have c0 := hr.c0; have c1' := hr.c1; have c2 := hr.c2
      exact bodyPost_ret (v := .tuple #[.agg #[.slice A1 o.1.length c1, .int .i64 (o.2.1 : Int), .int .i64 (o.2.2 : Int)], .int .i64 0, .int .i64 0]) (by simp [results, Try.results29, go_sem, c0, c1', c2]) rfl (.fin HEN.out ho hBf)
    have hlx : k < xs.length := by rw [HN.out]; exact hlt
    have hf' := HF.out.below hb (Nat.le_refl _)
    clear hb
    rcases hf' with h0 | ⟨bl, off, rfl, hbl, hc⟩
    · rw [h0] at hlx; simp at hlx
    obtain ⟨g0, g1, g2, g3⟩ := hc k hlx
    have hsx := HS.out.at hlx
    have hok := fun g => sgo_ok (s := (ss, sl, b)) (o := o) hlx g
    have hno := fun g => sgo_no (s := (ss, sl, b)) (o := o) hlx g
    clear hc
    obtain ⟨⟨xk, xv, xd, xq⟩, hx⟩ : ∃ x, xs[k] = x := ⟨_, rfl⟩
    rw [hx] at g0 g1 g2 g3 hok hno hsx
    simp only at g0 g1 g2 g3 hsx
    clear hx
    obtain ⟨hx1, hx2⟩ := hsx
    by_cases hst : stepE (ss, sl, b) (xk, xv, xd, xq) = 0
    rotate_left
    · have JN := Lib.hid (fun w => next_no ss sl b xk xv xd xq w hsl hx1 hx2 hst)
      have HEN : Hid (siftE xs b = (zO, (k : Int), stepE (ss, sl, b) (xk, xv, xd, xq))) := Lib.hid (HA.out.trans (hno hst))
      obtain ⟨b1, b2⟩ := ne_b hst
      clear hst hok hno
      generalize stepE (ss, sl, b) (xk, xv, xd, xq) = r at *
      go_wp2_with fail
      refine (JN.out _).mono ?_
      rintro e w2 ⟨rfl, hb2⟩
      have hb3 : Below wr.heap.size wr w2 := eb_of (al1 wr _) hb2 (Nat.le_refl _)
      have hO2 := (HO.out.below hb3).1
      have hlt2 := hO2.lt
      have hB2 := eb_of HB2.out hb3 (Nat.le_refl _)
      have HB3 := Lib.hid hB2
      have HO2 := Lib.hid hO2
      have u0 := hO2.c0; have u1 := hO2.c1; have u2 := hO2.c2
      have v0 := hO2.fz 0; have v1 := hO2.fz 1; have v2 := hO2.fz 2
      clear hb2 hb3 r0 r1 r2 s0 s1 s2 rf0 rf1 rf2 sf0 sf1 sf2 g0 g1 g2 g3 hO2 hB2
      go_wp2_with fail
      have hr := (HO2.out.set (.slice none 0 0) (.int .i64 0) (.int .i64 0)).below (al1 _ (.cells #[.bool false, .string ⟨#[]⟩, .bool false] 23)) (Nat.le_refl _)
      have hBf := bl_al (set3s HB3.out (Nat.le_refl _) (.slice none 0 0) (.int .i64 0) (.int .i64 0)) (Nat.le_refl _) (.cells #[.bool false, .string ⟨#[]⟩, .bool false] 23)
      clear u0 u1 u2
      revert hr hBf
      generalize World.alloc _ _ = W
      intro hr hBf
      have c0 := hr.c0; have c1' := hr.c1; have c2 := hr.c2
      exact bodyPost_ret (v := .tuple #[.agg #[.slice none 0 0, .int .i64 0, .int .i64 0], .int .i64 (k : Int), .int .i64 r]) (by simp [results, Try.results29, go_sem, c0, c1', c2]) rfl (.err HEN.out hBf)
    · have JN := Lib.hid (fun w => next_ok ss sl b xk xv xd xq w hsl hx1 hx2 hst)
      have HAA : Hid (siftE xs b = sgo (true, xk, b) (k + 1) (addO o (xk, xv, xd, xq) (fateS (ss, sl, b) (xk, xv, xd, xq))) (xs.drop (k + 1))) := Lib.hid (HA.out.trans (hok hst))
      clear hst hok hno
      generalize fateS (ss, sl, b) (xk, xv, xd, xq) = f at *
      have JA := Lib.hid (fun w' h1 h2 => add_any (w1.heap.size + 1) w.heap.size A1 c1 o xk xv xd xq f w' (by omega) h1 h2 (by have := HLE.out; omega) (by have := HLE.out; omega) (by have := HLE.out; omega))
      go_wp2_with fail
      refine (JN.out _).mono ?_
      rintro e w2 ⟨rfl, hb2⟩
      have hb3 : Below wr.heap.size wr w2 := eb_of (al1 wr _) hb2 (Nat.le_refl _)
      have hb4 := eb_of hb3 (al1 w2 (.cells #[.bool true, .string xk, .bool b] 23)) (Nat.le_refl _)
      have HO2 := Lib.hid (HO.out.below hb4)
      have HS2 := Lib.hid (HS7.out.below hb4 (Nat.le_refl _))
      have HX2 : Hid (Row3 (w2.alloc (.cells #[.bool true, .string xk, .bool b] 23)) w2.heap.size 23 (.bool true) (.string xk) (.bool b)) := Lib.hid (heap_alloc_new _ _)
      have HB3 := Lib.hid (eb_of HB2.out hb4 (Nat.le_refl _))
      have hz2 := hb3.size
      clear hb2 hb3 hb4 r0 r1 r2 s0 s1 s2 rf0 rf1 rf2 sf0 sf1 sf2 g0 g1 g2 g3
      go_wp2_with fail
      refine (JA.out _ (by simp; omega) HO2.out).mono ?_
      rintro e w4 ⟨rfl, A4, c4, hO4, hC4⟩
      have hown : ∀ g, (Value.slice A1 o.1.length c1).ownBlock = some g → w1.heap.size + 1 ≤ g ∧ g < wr.heap.size := fun g e => HO.out.2.lt g e
      have hx4 : Row3 w4 w2.heap.size 23 (.bool true) (.string xk) (.bool b) := HX2.out.chg hC4 (fun e => by rcases e with e | e; omega; have := (hown _ e).2; omega)
      have hs4 : Row3 w4 w1.heap.size 23 (.bool ss) (.string sl) (.bool b) := HS2.out.chg hC4 (fun e => by rcases e with e | e; omega; have := (hown _ e).1; omega)
      have hz4 := hC4.size
      simp only [World.size_alloc] at hz4
      have HREL := Lib.hid (fun hx => SiftR.next hO4 hC4 (fun g e => (hown g e).1) HS2.out HB3.out (show w1.heap.size < w1.heap.size + 1 by omega) (by omega) (by simp; omega) HAA.out hx (addO_le HLE.out))
      have x0 := hx4.c0; have x1 := hx4.c1; have x2 := hx4.c2
      have y0 := hs4.c0; have y1 := hs4.c1; have y2 := hs4.c2
      have z0 := hs4.fz 0; have z1 := hs4.fz 1; have z2 := hs4.fz 2
      clear hO4 hC4 hown hx4 hs4
      go_wp2_with fail
      go_roundw
      case rel => exact ⟨k + 1, by omega, by go_num, HREL.out hx1⟩
      case measure => simp [intOf]; omega
end Go.Proofs.Ytlobkbhghpknmaa.KK
