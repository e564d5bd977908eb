/-
  Shadow: the reference's Filter.
-/
import Derived.Test.YtlobkbhghpknmaaSg
import Derived.Test.YtlobkbhghpknmaaSd
import Derived.Deep.DeepCutAuto
namespace Go.Proofs.Ytlobkbhghpknmaa.KK
open Go.ChangeShapes Go.WideShapes Go.ChangeAt Go.RowKit Go.Proofs

theorem own_sl {w : World} {base n : Nat} {v : Value} {xs : List Value} (h : w.ownsRow base 25 4 v n xs) : ∃ A c, v = .slice A n c := by
  rcases h.2 with ⟨rfl, h0⟩ | ⟨g, cap, cur, rfl, _⟩
  · exact ⟨none, 0, by rw [h0]⟩
  · exact ⟨_, _, rfl⟩
theorem FiltOut.err {xs : List El.En} {b : Bool} {w w' : World} {i e : Int} (h : siftE xs b = (zO, i, e)) (hb : Below w.heap.size w w') : FiltOut xs b w (.returned (.tuple #[.slice none 0 0, .int .i64 i, .int .i64 e])) w' := by
  unfold FiltOut; rw [h]; exact ⟨none, 0, rfl, .inl rfl, hb⟩
theorem FiltOut.fin {xs : List El.En} {b : Bool} {w w' : World} {o : Oc} {base : Nat} {A : Option Addr} {c : Nat} (h : siftE xs b = (o, 0, 0)) (hr : w'.ownsRow base 25 4 (.slice A o.1.length c) o.1.length (cellsE o.1)) (hb : Below w.heap.size w w') : FiltOut xs b w (.returned (.tuple #[.slice A o.1.length c, .int .i64 0, .int .i64 0])) w' := by
  unfold FiltOut; rw [h]; exact ⟨A, c, rfl, .of_own hr, hb⟩
def FiltR (xs : List El.En) (b : Bool) (w : World) (base b7 : Nat) (k : Nat) (v : Value) (wr : World) : Prop :=
  ∃ (A : Option Addr) (c : Nat) (o : Oc) (ss : Bool) (sl : ByteArray), v = .slice A o.1.length c ∧ wr.ownsRow base 25 4 (.slice A o.1.length c) o.1.length (cellsE o.1) ∧ Row3 wr b7 23 (.bool ss) (.string sl) (.bool b) ∧ Below w.heap.size w wr ∧ base ≤ wr.heap.size ∧
    siftE xs b = sgo (ss, sl, b) k o (xs.drop k) ∧ sl.size ≤ 9223372036854775807 ∧ (o.1.length ≤ k ∧ o.2.1 ≤ k ∧ o.2.2 ≤ k)
/-- behind the append of a round -/
theorem filt_app {wx w3 : World} {bx b7 base n : Nat} {v v3 : Value} {xs ys : List Value} {a0 a1 a2 c0 c1 c2 : Value} {T : TypeId} {oc : Obj} (hx : Row3 wx bx T a0 a1 a2) (hs : Row3 wx b7 T c0 c1 c2) (ho : wx.ownsRow base 25 4 v n xs) {wrs : Nat} (hbx : wrs ≤ bx) (h7 : b7 < wrs) {n' : Nat} (hown : w3.ownsRow base 25 4 v3 n' ys) (hg : (wx.alloc oc).grownBy w3 v.ownBlock) (h7b : b7 < base) (hvb : ∀ g, v.ownBlock = some g → g < wrs) :
    Row3 w3 bx T a0 a1 a2 ∧ Row3 w3 b7 T c0 c1 c2 ∧ w3.ownsRow base 25 4 v3 n' ys ∧ Chg (fun k => v.ownBlock = some k) wx w3 := by
  have hc := (Chg.of_below (S := fun k => v.ownBlock = some k) (al1 wx oc)).trans (chg_grown hg)
  exact ⟨hx.chg hc (fun e => by have := hvb _ e; omega), hs.chg hc (fun e => by have := (ho.lt _ e).1; omega), hown, hc⟩
/-- a state that lay in a region's world, behind a call -/
theorem row_al {W w' : World} (hb : Below (W.alloc (.cells #[.bool false, .string ⟨#[]⟩, .bool false] 23)).drew.heap.size (W.alloc (.cells #[.bool false, .string ⟨#[]⟩, .bool false] 23)).drew w') : Row3 w' W.heap.size 23 (.bool false) (.string ⟨#[]⟩) (.bool false) :=
  (hb.block _ (by simp)).trans (heap_alloc_new W _)
theorem bAD {B : Nat} {w w' : World} (h : Below B w w') (hB : B ≤ w.heap.size) (o : Obj) : Below B w (w'.alloc o).drew := (bl_al h hB o).drew
set_option maxRecDepth 100000 in
set_option maxHeartbeats 2000000 in
theorem rFilter_any (A : Option Addr) (c : Nat) (xs : List El.En) (b : Bool) (w : World) (hf : EsAt w A xs) (hn : xs.length ≤ 4294967295) (hs : Sized xs) :
    Calls Try.prog 19 #[.slice A xs.length c, .bool b] w fun e w' => FiltOut xs b w e w' := by
  obtain ⟨i0, hi, hz0, hz1, hz2⟩ := info_parts infoE
  by_cases h64 : 20000 < xs.length
  · have HE := Lib.hid (show siftE xs b = (zO, -1, 3) from if_pos h64)
    go_enter Try.func19, Try.ntmps19
    go_wp2_with fail
    exact bodyPost_ret (v := .tuple #[.slice none 0 0, .int .i64 (-1), .int .i64 3]) (by simp [results, Try.results19, go_sem]) rfl (.err HE.out (Below.refl _ _))
  have HE := Lib.hid (show siftE xs b = sgo (false, ⟨#[]⟩, b) 0 zO xs from if_neg h64)
  have JB := Lib.hid (fun w => rBegin_any b w)
  have HF := Lib.hid hf
  have HS := Lib.hid hs
  obtain ⟨n, hnn⟩ : ∃ n, xs.length = n := ⟨_, rfl⟩
  rw [hnn] at hn h64 ⊢
  have HN := Lib.hid hnn
  have hdn : decide ((20000 : Int) < (n : Int)) = false := by simp; omega
  clear hnn hf hs
  go_enter Try.func19, Try.ntmps19
  go_wp2_with fail
  refine (JB.out _).mono ?_
  rintro e w1 ⟨rfl, hb⟩
  have HB := Lib.hid hb
  have hw1 := hb.size
  have HST : Hid (FiltR xs b w (w1.heap.size + 1) w1.heap.size 0 (.slice none 0 0) (w1.alloc (.cells #[.bool false, .string ⟨#[]⟩, .bool b] 23))) := Lib.hid
    ⟨none, 0, zO, false, ⟨#[]⟩, rfl, World.ownsRow_nil _ _ _ _, heap_alloc_new _ _, eb_of HB.out (al1 _ _) (Nat.le_refl _), by simp, HE.out, by decide, by decide⟩
  clear hb HE
  go_wp2_with fail
  go_loopw [8, 9] (fun ov iv wr => ∃ k : Nat, k ≤ n ∧ iv = .int .i64 k ∧ FiltR xs b w (w1.heap.size + 1) w1.heap.size k ov wr) (fun _ iv _ => n - (intOf iv).toNat)
  case atStart => exact ⟨0, Nat.zero_le _, rfl, HST.out⟩
  case round =>
    obtain ⟨k, hk, rfl, A1, c1, o, ss, sl, rfl, ho, hs7, hb, hbase, ha, hsl, hle⟩ := hrel
    have HA := Lib.hid ha
    have HB2 := Lib.hid hb
    have HO := Lib.hid ho
    have HS7 := Lib.hid hs7
    have HLE := Lib.hid hle
    have s0 := hs7.c0
    have s1 := hs7.c1
    have s2 := hs7.c2
    have sf0 := hs7.fz 0
    have sf1 := hs7.fz 1
    have sf2 := hs7.fz 2
    have hl7 : w1.heap.size < wr.heap.size := by omega
    clear ha ho hs7 hle
    by_cases hlt : k < n
    rotate_left
    · have HEN : Hid (siftE xs b = (o, 0, 0)) := Lib.hid (HA.out.trans (sgo_end (by rw [HN.out]; exact hlt)))
      clear hb
      go_wp2_with fail
      exact bodyPost_ret (v := .tuple #[.slice A1 o.1.length c1, .int .i64 0, .int .i64 0]) (by simp [results, Try.results19, go_sem]) rfl (.fin HEN.out HO.out HB2.out)
    have hlx : k < xs.length := by rw [HN.out]; exact hlt
    have hf' := HF.out.below hb (Nat.le_refl _)
    clear hb
    rcases hf' with h0 | ⟨bl, off, rfl, hbl, hc⟩
    · rw [h0] at hlx; simp at hlx
    obtain ⟨g0, g1, g2, g3⟩ := hc k hlx
    have hsx := HS.out.at hlx
    have hok := fun g => sgo_ok (s := (ss, sl, b)) (o := o) hlx g
    have hno := fun g => sgo_no (s := (ss, sl, b)) (o := o) hlx g
    clear hc
    obtain ⟨⟨xk, xv, xd, xq⟩, hx⟩ : ∃ x, xs[k] = x := ⟨_, rfl⟩
    rw [hx] at g0 g1 g2 g3 hok hno hsx
    simp only at g0 g1 g2 g3 hsx
    clear hx
    obtain ⟨hx1, hx2⟩ := hsx
    have HX4 : Hid (∀ w', Below wr.heap.size wr w' → Row3 w' w1.heap.size 23 (.bool ss) (.string sl) (.bool b) ∧ w'.ownsRow (w1.heap.size + 1) 25 4 (.slice A1 o.1.length c1) o.1.length (cellsE o.1)) := Lib.hid fun w' h => ⟨HS7.out.below h (Nat.le_refl _), own_below HO.out h⟩
    have HK : Hid (∀ wN, Below wr.heap.size wr wN → (wN.cell? ⟨w1.heap.size, 0, none⟩ = some (.bool ss) ∧ wN.cell? ⟨w1.heap.size, 1, none⟩ = some (.string sl) ∧ wN.cell? ⟨w1.heap.size, 2, none⟩ = some (.bool b) ∧ wN.cell? ⟨bl, off + k * 4, none⟩ = some (.string xk) ∧ wN.cell? ⟨bl, off + k * 4 + 1, none⟩ = some (.string xv) ∧ wN.cell? ⟨bl, off + k * 4 + 2, none⟩ = some (.bool xd) ∧ wN.cell? ⟨bl, off + k * 4 + 3, none⟩ = some (.int .i64 xq)) ∧ Below wr.heap.size wr wN) := Lib.hid fun wN h => by
      have hq := (HX4.out _ h).1
      exact ⟨⟨hq.c0, hq.c1, hq.c2, (h.cell (p := ⟨bl, _, none⟩) hbl).trans g0, (h.cell (p := ⟨bl, _, none⟩) hbl).trans g1, (h.cell (p := ⟨bl, _, none⟩) hbl).trans g2, (h.cell (p := ⟨bl, _, none⟩) hbl).trans g3⟩, h⟩
    by_cases hst : stepE (ss, sl, b) (xk, xv, xd, xq) = 0
    rotate_left
    · have JN := Lib.hid (fun w => rstep_no ss sl b xk xv xd xq w hsl hx1 hx2 hst)
      have HEN : Hid (siftE xs b = (zO, (k : Int), stepE (ss, sl, b) (xk, xv, xd, xq))) := Lib.hid (HA.out.trans (hno hst))
      obtain ⟨b1, b2⟩ := ne_b hst
      clear hst hok hno
      generalize stepE (ss, sl, b) (xk, xv, xd, xq) = r at *
      go_wp2_with fail
      have HD := Lib.hid (show Below wr.heap.size wr wr.drew from (Below.refl _ _).drew)
      have HFF := Lib.hid (Below.refl wr.heap.size wr)
      go_region_held3 (fun wN => (wN.cell? ⟨w1.heap.size, 0, none⟩ = some (.bool ss) ∧ wN.cell? ⟨w1.heap.size, 1, none⟩ = some (.string sl) ∧ wN.cell? ⟨w1.heap.size, 2, none⟩ = some (.bool b) ∧ wN.cell? ⟨bl, off + k * 4, none⟩ = some (.string xk) ∧ wN.cell? ⟨bl, off + k * 4 + 1, none⟩ = some (.string xv) ∧ wN.cell? ⟨bl, off + k * 4 + 2, none⟩ = some (.bool xd) ∧ wN.cell? ⟨bl, off + k * 4 + 3, none⟩ = some (.int .i64 xq)) ∧ Below wr.heap.size wr wN)
        ((refine HK.out _ ?_; first | with_reducible assumption | with_reducible exact HD.out | with_reducible exact bl_al (by assumption) (Nat.le_refl _) _ | with_reducible exact bAD HFF.out (Nat.le_refl _) _ | with_reducible exact set3s (by assumption) (Nat.le_refl _) _ _ _))
        ((go_at_call 12; refine (JN.out _).mono ?_; rintro e w5 ⟨rfl, hb5⟩; (try have HR5 := Lib.hid (show Row3 w5 wr.heap.size 23 (.bool false) (.string ⟨#[]⟩) (.bool false) from row_al hb5)); (try (have e0 := HR5.out.c0; have e1 := HR5.out.c1; have e2 := HR5.out.c2; have e3 := HR5.out.fz 0; have e4 := HR5.out.fz 1; have e5 := HR5.out.fz 2)); have hb6 : Below wr.heap.size wr w5 := eb_of (by first | with_reducible exact HD.out | with_reducible assumption | with_reducible exact bAD HFF.out (Nat.le_refl _) _ | exact And.right (by assumption)) hb5 (Nat.le_refl _); clear hb5))
      all_goals
        go_wp2_with fail
        exact bodyPost_ret (v := .tuple #[.slice none 0 0, .int .i64 (k : Int), .int .i64 r]) (by simp [results, Try.results19, go_sem]) rfl (.err HEN.out (eb_of HB2.out (by first | with_reducible exact bl_al hb6 (Nat.le_refl _) _ | with_reducible exact set3s hb6 (Nat.le_refl _) _ _ _) (Nat.le_refl _)))
    · have JN := Lib.hid (fun w => rstep_ok ss sl b xk xv xd xq w hsl hx1 hx2 hst)
      have HAA : Hid (siftE xs b = sgo (true, xk, b) (k + 1) (addO o (xk, xv, xd, xq) (fateS (ss, sl, b) (xk, xv, xd, xq))) (xs.drop (k + 1))) := Lib.hid (HA.out.trans (hok hst))
      clear hst hok hno
      cases hfk : fateS (ss, sl, b) (xk, xv, xd, xq)
      case shad =>
        have hkb : keptB (ss, sl, b) (xk, xv, xd, xq) = false := by unfold keptB; rw [hfk]
        rw [hkb] at JN
        rw [hfk] at HAA
        clear hkb hfk
        go_wp2_with fail
        have HD := Lib.hid (show Below wr.heap.size wr wr.drew from (Below.refl _ _).drew)
        have HFF := Lib.hid (Below.refl wr.heap.size wr)
        go_region_held3 (fun wN => (wN.cell? ⟨w1.heap.size, 0, none⟩ = some (.bool ss) ∧ wN.cell? ⟨w1.heap.size, 1, none⟩ = some (.string sl) ∧ wN.cell? ⟨w1.heap.size, 2, none⟩ = some (.bool b) ∧ wN.cell? ⟨bl, off + k * 4, none⟩ = some (.string xk) ∧ wN.cell? ⟨bl, off + k * 4 + 1, none⟩ = some (.string xv) ∧ wN.cell? ⟨bl, off + k * 4 + 2, none⟩ = some (.bool xd) ∧ wN.cell? ⟨bl, off + k * 4 + 3, none⟩ = some (.int .i64 xq)) ∧ Below wr.heap.size wr wN)
          ((refine HK.out _ ?_; first | with_reducible assumption | with_reducible exact HD.out | with_reducible exact bl_al (by assumption) (Nat.le_refl _) _ | with_reducible exact bAD HFF.out (Nat.le_refl _) _ | with_reducible exact set3s (by assumption) (Nat.le_refl _) _ _ _))
          ((go_at_call 12; refine (JN.out _).mono ?_; rintro e w5 ⟨rfl, hb5⟩; (try have HR5 := Lib.hid (show Row3 w5 wr.heap.size 23 (.bool false) (.string ⟨#[]⟩) (.bool false) from row_al hb5)); (try (have e0 := HR5.out.c0; have e1 := HR5.out.c1; have e2 := HR5.out.c2; have e3 := HR5.out.fz 0; have e4 := HR5.out.fz 1; have e5 := HR5.out.fz 2)); have hb6 : Below wr.heap.size wr w5 := eb_of (by first | with_reducible exact HD.out | with_reducible assumption | with_reducible exact bAD HFF.out (Nat.le_refl _) _ | exact And.right (by assumption)) hb5 (Nat.le_refl _); clear hb5))
        all_goals
          first
            | (have hrx := HR5.out.set (.bool true) (.string xk) (.bool b)
               have hbw := set3s hb6 (Nat.le_refl _) (.bool true) (.string xk) (.bool b)
               have hbx : wr.heap.size ≤ wr.heap.size := Nat.le_refl _
               revert hrx hbw
               generalize World.setCell _ _ _ = wx
               intro hrx hbw
               clear HR5 hb6 e0 e1 e2 e3 e4 e5)
            | (have hrx : Row3 (w5.alloc (.cells #[.bool true, .string xk, .bool b] 23)) w5.heap.size 23 (.bool true) (.string xk) (.bool b) := heap_alloc_new _ _
               have hbw := bl_al hb6 (Nat.le_refl _) (.cells #[.bool true, .string xk, .bool b] 23)
               have hbx : wr.heap.size ≤ w5.heap.size := hb6.size
               revert hrx hbw
               generalize World.alloc w5 _ = wx
               intro hrx hbw
               clear hb6)
          have HB6 := Lib.hid hbw
          have HG6 : Hid (wx.cell? ⟨bl, off + k * 4, none⟩ = some (.string xk) ∧ wx.cell? ⟨bl, off + k * 4 + 1, none⟩ = some (.string xv) ∧ wx.cell? ⟨bl, off + k * 4 + 2, none⟩ = some (.bool xd) ∧ wx.cell? ⟨bl, off + k * 4 + 3, none⟩ = some (.int .i64 xq)) := Lib.hid ⟨(hbw.cell (p := ⟨bl, _, none⟩) hbl).trans g0, (hbw.cell (p := ⟨bl, _, none⟩) hbl).trans g1, (hbw.cell (p := ⟨bl, _, none⟩) hbl).trans g2, (hbw.cell (p := ⟨bl, _, none⟩) hbl).trans g3⟩
          obtain ⟨hs6, ho6⟩ := HX4.out _ hbw
          have hzx := hbw.size
          have HRX := Lib.hid hrx
          have HS6 := Lib.hid hs6
          have HO6 := Lib.hid ho6
          clear hbw hrx hs6 ho6 s0 s1 s2 sf0 sf1 sf2 g0 g1 g2 g3
          have x0 := HRX.out.c0; have x1 := HRX.out.c1; have x2 := HRX.out.c2
          have y0 := HS6.out.c0; have y1 := HS6.out.c1; have y2 := HS6.out.c2
          have z0 := HS6.out.fz 0; have z1 := HS6.out.fz 1; have z2 := HS6.out.fz 2
          go_wp2_with fail
          go_roundw
          case rel => exact ⟨k + 1, by omega, by go_num, A1, c1, addO o (xk, xv, xd, xq) .shad, true, xk, rfl, ownsRow_setCell_below (ownsRow_setCell_below (ownsRow_setCell_below HO6.out (a := ⟨w1.heap.size, 0, none⟩) (by simp) _) (a := ⟨w1.heap.size, 1, none⟩) (by simp) _) (a := ⟨w1.heap.size, 2, none⟩) (by simp) _, HS6.out.set _ _ _, set3s (eb_of HB2.out HB6.out (Nat.le_refl _)) hw1 _ _ _, by simp [World.setCell]; omega, HAA.out, hx1, addO_le (x := (xk, xv, xd, xq)) (f := .shad) HLE.out⟩
          case measure => simp [intOf]; omega
      case drop =>
        have hkb : keptB (ss, sl, b) (xk, xv, xd, xq) = false := by unfold keptB; rw [hfk]
        rw [hkb] at JN
        rw [hfk] at HAA
        clear hkb hfk
        go_wp2_with fail
        have HD := Lib.hid (show Below wr.heap.size wr wr.drew from (Below.refl _ _).drew)
        have HFF := Lib.hid (Below.refl wr.heap.size wr)
        go_region_held3 (fun wN => (wN.cell? ⟨w1.heap.size, 0, none⟩ = some (.bool ss) ∧ wN.cell? ⟨w1.heap.size, 1, none⟩ = some (.string sl) ∧ wN.cell? ⟨w1.heap.size, 2, none⟩ = some (.bool b) ∧ wN.cell? ⟨bl, off + k * 4, none⟩ = some (.string xk) ∧ wN.cell? ⟨bl, off + k * 4 + 1, none⟩ = some (.string xv) ∧ wN.cell? ⟨bl, off + k * 4 + 2, none⟩ = some (.bool xd) ∧ wN.cell? ⟨bl, off + k * 4 + 3, none⟩ = some (.int .i64 xq)) ∧ Below wr.heap.size wr wN)
          ((refine HK.out _ ?_; first | with_reducible assumption | with_reducible exact HD.out | with_reducible exact bl_al (by assumption) (Nat.le_refl _) _ | with_reducible exact bAD HFF.out (Nat.le_refl _) _ | with_reducible exact set3s (by assumption) (Nat.le_refl _) _ _ _))
          ((go_at_call 12; refine (JN.out _).mono ?_; rintro e w5 ⟨rfl, hb5⟩; (try have HR5 := Lib.hid (show Row3 w5 wr.heap.size 23 (.bool false) (.string ⟨#[]⟩) (.bool false) from row_al hb5)); (try (have e0 := HR5.out.c0; have e1 := HR5.out.c1; have e2 := HR5.out.c2; have e3 := HR5.out.fz 0; have e4 := HR5.out.fz 1; have e5 := HR5.out.fz 2)); have hb6 : Below wr.heap.size wr w5 := eb_of (by first | with_reducible exact HD.out | with_reducible assumption | with_reducible exact bAD HFF.out (Nat.le_refl _) _ | exact And.right (by assumption)) hb5 (Nat.le_refl _); clear hb5))
        all_goals
          first
            | (have hrx := HR5.out.set (.bool true) (.string xk) (.bool b)
               have hbw := set3s hb6 (Nat.le_refl _) (.bool true) (.string xk) (.bool b)
               have hbx : wr.heap.size ≤ wr.heap.size := Nat.le_refl _
               revert hrx hbw
               generalize World.setCell _ _ _ = wx
               intro hrx hbw
               clear HR5 hb6 e0 e1 e2 e3 e4 e5)
            | (have hrx : Row3 (w5.alloc (.cells #[.bool true, .string xk, .bool b] 23)) w5.heap.size 23 (.bool true) (.string xk) (.bool b) := heap_alloc_new _ _
               have hbw := bl_al hb6 (Nat.le_refl _) (.cells #[.bool true, .string xk, .bool b] 23)
               have hbx : wr.heap.size ≤ w5.heap.size := hb6.size
               revert hrx hbw
               generalize World.alloc w5 _ = wx
               intro hrx hbw
               clear hb6)
          have HB6 := Lib.hid hbw
          have HG6 : Hid (wx.cell? ⟨bl, off + k * 4, none⟩ = some (.string xk) ∧ wx.cell? ⟨bl, off + k * 4 + 1, none⟩ = some (.string xv) ∧ wx.cell? ⟨bl, off + k * 4 + 2, none⟩ = some (.bool xd) ∧ wx.cell? ⟨bl, off + k * 4 + 3, none⟩ = some (.int .i64 xq)) := Lib.hid ⟨(hbw.cell (p := ⟨bl, _, none⟩) hbl).trans g0, (hbw.cell (p := ⟨bl, _, none⟩) hbl).trans g1, (hbw.cell (p := ⟨bl, _, none⟩) hbl).trans g2, (hbw.cell (p := ⟨bl, _, none⟩) hbl).trans g3⟩
          obtain ⟨hs6, ho6⟩ := HX4.out _ hbw
          have hzx := hbw.size
          have HRX := Lib.hid hrx
          have HS6 := Lib.hid hs6
          have HO6 := Lib.hid ho6
          clear hbw hrx hs6 ho6 s0 s1 s2 sf0 sf1 sf2 g0 g1 g2 g3
          have x0 := HRX.out.c0; have x1 := HRX.out.c1; have x2 := HRX.out.c2
          have y0 := HS6.out.c0; have y1 := HS6.out.c1; have y2 := HS6.out.c2
          have z0 := HS6.out.fz 0; have z1 := HS6.out.fz 1; have z2 := HS6.out.fz 2
          go_wp2_with fail
          go_roundw
          case rel => exact ⟨k + 1, by omega, by go_num, A1, c1, addO o (xk, xv, xd, xq) .drop, true, xk, rfl, ownsRow_setCell_below (ownsRow_setCell_below (ownsRow_setCell_below HO6.out (a := ⟨w1.heap.size, 0, none⟩) (by simp) _) (a := ⟨w1.heap.size, 1, none⟩) (by simp) _) (a := ⟨w1.heap.size, 2, none⟩) (by simp) _, HS6.out.set _ _ _, set3s (eb_of HB2.out HB6.out (Nat.le_refl _)) hw1 _ _ _, by simp [World.setCell]; omega, HAA.out, hx1, addO_le (x := (xk, xv, xd, xq)) (f := .drop) HLE.out⟩
          case measure => simp [intOf]; omega
      case kept =>
        have hkb : keptB (ss, sl, b) (xk, xv, xd, xq) = true := by unfold keptB; rw [hfk]
        rw [hkb] at JN
        rw [hfk] at HAA
        clear hkb hfk
        go_wp2_with fail
        have HD := Lib.hid (show Below wr.heap.size wr wr.drew from (Below.refl _ _).drew)
        have HFF := Lib.hid (Below.refl wr.heap.size wr)
        go_region_held3 (fun wN => (wN.cell? ⟨w1.heap.size, 0, none⟩ = some (.bool ss) ∧ wN.cell? ⟨w1.heap.size, 1, none⟩ = some (.string sl) ∧ wN.cell? ⟨w1.heap.size, 2, none⟩ = some (.bool b) ∧ wN.cell? ⟨bl, off + k * 4, none⟩ = some (.string xk) ∧ wN.cell? ⟨bl, off + k * 4 + 1, none⟩ = some (.string xv) ∧ wN.cell? ⟨bl, off + k * 4 + 2, none⟩ = some (.bool xd) ∧ wN.cell? ⟨bl, off + k * 4 + 3, none⟩ = some (.int .i64 xq)) ∧ Below wr.heap.size wr wN)
          ((refine HK.out _ ?_; first | with_reducible assumption | with_reducible exact HD.out | with_reducible exact bl_al (by assumption) (Nat.le_refl _) _ | with_reducible exact bAD HFF.out (Nat.le_refl _) _ | with_reducible exact set3s (by assumption) (Nat.le_refl _) _ _ _))
          ((go_at_call 12; refine (JN.out _).mono ?_; rintro e w5 ⟨rfl, hb5⟩; (try have HR5 := Lib.hid (show Row3 w5 wr.heap.size 23 (.bool false) (.string ⟨#[]⟩) (.bool false) from row_al hb5)); (try (have e0 := HR5.out.c0; have e1 := HR5.out.c1; have e2 := HR5.out.c2; have e3 := HR5.out.fz 0; have e4 := HR5.out.fz 1; have e5 := HR5.out.fz 2)); have hb6 : Below wr.heap.size wr w5 := eb_of (by first | with_reducible exact HD.out | with_reducible assumption | with_reducible exact bAD HFF.out (Nat.le_refl _) _ | exact And.right (by assumption)) hb5 (Nat.le_refl _); clear hb5))
        all_goals
          first
            | (have hrx := HR5.out.set (.bool true) (.string xk) (.bool b)
               have hbw := set3s hb6 (Nat.le_refl _) (.bool true) (.string xk) (.bool b)
               have hbx : wr.heap.size ≤ wr.heap.size := Nat.le_refl _
               revert hrx hbw
               generalize World.setCell _ _ _ = wx
               intro hrx hbw
               clear HR5 hb6 e0 e1 e2 e3 e4 e5)
            | (have hrx : Row3 (w5.alloc (.cells #[.bool true, .string xk, .bool b] 23)) w5.heap.size 23 (.bool true) (.string xk) (.bool b) := heap_alloc_new _ _
               have hbw := bl_al hb6 (Nat.le_refl _) (.cells #[.bool true, .string xk, .bool b] 23)
               have hbx : wr.heap.size ≤ w5.heap.size := hb6.size
               revert hrx hbw
               generalize World.alloc w5 _ = wx
               intro hrx hbw
               clear hb6)
          have HB6 := Lib.hid hbw
          have HG6 : Hid (wx.cell? ⟨bl, off + k * 4, none⟩ = some (.string xk) ∧ wx.cell? ⟨bl, off + k * 4 + 1, none⟩ = some (.string xv) ∧ wx.cell? ⟨bl, off + k * 4 + 2, none⟩ = some (.bool xd) ∧ wx.cell? ⟨bl, off + k * 4 + 3, none⟩ = some (.int .i64 xq)) := Lib.hid ⟨(hbw.cell (p := ⟨bl, _, none⟩) hbl).trans g0, (hbw.cell (p := ⟨bl, _, none⟩) hbl).trans g1, (hbw.cell (p := ⟨bl, _, none⟩) hbl).trans g2, (hbw.cell (p := ⟨bl, _, none⟩) hbl).trans g3⟩
          obtain ⟨hs6, ho6⟩ := HX4.out _ hbw
          have hzx := hbw.size
          have HRX := Lib.hid hrx
          have HS6 := Lib.hid hs6
          have HO6 := Lib.hid ho6
          clear hbw hrx hs6 ho6 s0 s1 s2 sf0 sf1 sf2 g0 g1 g2 g3
          have HO7 := Lib.hid (HO6.out.alloc (.cells #[.string xk, .string xv, .bool xd, .int .i64 xq] 25))
          obtain ⟨q0, q1, q2, q3⟩ : Hid (wx.cell? ⟨bl, off + k * 4, none⟩ = some (.string xk)) ∧ Hid (wx.cell? ⟨bl, off + k * 4 + 1, none⟩ = some (.string xv)) ∧ Hid (wx.cell? ⟨bl, off + k * 4 + 2, none⟩ = some (.bool xd)) ∧ Hid (wx.cell? ⟨bl, off + k * 4 + 3, none⟩ = some (.int .i64 xq)) := ⟨HG6.out.1, HG6.out.2.1, HG6.out.2.2.1, HG6.out.2.2.2⟩
          have g0 := q0.out; have g1 := q1.out; have g2 := q2.out; have g3 := q3.out
          have hbl' : bl < wx.heap.size := by omega
          have hle1 : o.1.length ≤ 20000 := by have := HLE.out; omega
          go_wp2_with (at_builtin; go_loud (refine wpList_append_own _ rfl (.tmp 39) (.tmp 44) 33 rfl (w1.heap.size + 1) 25 i0 (.agg #[.string ⟨#[]⟩, .string ⟨#[]⟩, .bool false, .int .i64 0]) 4 48 Try.underlying33 hi hz0 hz1 hz2 rfl (by decide) _ o.1.length _ rfl HO7.out ⟨wx.heap.size, 0, none⟩ 1 1 [.string xk, .string xv, .bool xd, .int .i64 xq] rfl rfl (new4 wx (xk, xv, xd, xq)) (by simp [Value.oneCell']) (by unfold maxLen; omega) (by omega) (by simp; omega) ?_; intro v3 w3 hown3 hg3 _; have HP := Lib.hid (filt_app HRX.out HS6.out HO6.out hbx hl7 (own_snoc (x := (xk, xv, xd, xq)) hown3) hg3 (by omega) (fun g e => (HO.out.lt g e).2)); clear hg3 hown3; have x0 := HP.out.1.c0; have x1 := HP.out.1.c1; have x2 := HP.out.1.c2; have y0 := HP.out.2.1.c0; have y1 := HP.out.2.1.c1; have y2 := HP.out.2.1.c2; have z0 := HP.out.2.1.fz 0; have z1 := HP.out.2.1.fz 1; have z2 := HP.out.2.1.fz 2))
          obtain ⟨A', c', rfl⟩ := own_sl HP.out.2.2.1
          have hlen : (addO o (xk, xv, xd, xq) .kept).1.length = o.1.length + 1 := by simp [addO]
          have HBw : Hid (Below w.heap.size w w3) := Lib.hid ((eb_of HB2.out HB6.out (Nat.le_refl _)).trans (HP.out.2.2.2.below (fun g e => by have := (HO6.out.lt g e).1; omega) (by omega)))
          have hw3 := HP.out.2.2.2.size
          go_roundw
          case rel => exact ⟨k + 1, by omega, by go_num, A', c', addO o (xk, xv, xd, xq) .kept, true, xk, by rw [hlen], by rw [hlen]; exact ownsRow_setCell_below (ownsRow_setCell_below (ownsRow_setCell_below HP.out.2.2.1 (a := ⟨w1.heap.size, 0, none⟩) (by simp) _) (a := ⟨w1.heap.size, 1, none⟩) (by simp) _) (a := ⟨w1.heap.size, 2, none⟩) (by simp) _, HP.out.2.1.set _ _ _, set3s HBw.out hw1 _ _ _, by simp [World.setCell]; omega, HAA.out, hx1, addO_le (x := (xk, xv, xd, xq)) (f := .kept) HLE.out⟩
          case measure => simp [intOf]; omega
end Go.Proofs.Ytlobkbhghpknmaa.KK
