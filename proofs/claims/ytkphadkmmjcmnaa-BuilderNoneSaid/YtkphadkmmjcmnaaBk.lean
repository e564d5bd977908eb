/-
  The walk of BuilderNone.
-/
import Derived.Test.YtkphadkmmjcmnaaBi
namespace Go.Proofs.Ytkphadkmmjcmnaa.KK
open Go.ChangeShapes Go.WideShapes Go.ChangeAt Go.RowKit Go.Proofs

def callV (wh : Int) (x : El.En) (id : Int) : Value := .agg #[.int .u8 wh, .string x.1, .string x.2.1, .bool x.2.2.1, .int .i64 x.2.2.2, .int .i64 id]
/-- a row of six cells -/
def Row6 (W : World) (B : Nat) (t : TypeId) (v0 v1 v2 v3 v4 v5 : Value) : Prop := W.heap[B]? = some (.cells #[v0, v1, v2, v3, v4, v5] t (0, 0))
section
variable {W : World} {B : Nat} {t : TypeId} {v0 v1 v2 v3 v4 v5 : Value}
theorem Row6.lt (h : Row6 W B t v0 v1 v2 v3 v4 v5) : B < W.heap.size := (Array.getElem?_eq_some_iff.1 h).1
theorem Row6.c (h : Row6 W B t v0 v1 v2 v3 v4 v5) (i : Nat) : W.cell? ⟨B, i, none⟩ = #[v0, v1, v2, v3, v4, v5][i]? := cell_of_row W B i _ _ _ h
theorem Row6.below {W' : World} {n : Nat} (h : Row6 W B t v0 v1 v2 v3 v4 v5) (hb : Below n W W') (hn : W.heap.size ≤ n) : Row6 W' B t v0 v1 v2 v3 v4 v5 := (hb.block B (Nat.lt_of_lt_of_le h.lt hn)).trans h
end
theorem Row6.new (w : World) (t : TypeId) (v0 v1 v2 v3 v4 v5 : Value) : Row6 (w.alloc (.cells #[v0, v1, v2, v3, v4, v5] t)) w.heap.size t v0 v1 v2 v3 v4 v5 := heap_alloc_new w _
set_option maxRecDepth 100000 in
set_option maxHeartbeats 4000000 in
theorem None_any (wh : Int) (k v : ByteArray) (d : Bool) (q id : Int) (w : World) (hk : k.size ≤ 9223372036854775807) (hv : v.size ≤ 9223372036854775807) :
    Calls Try.prog 5 #[.agg #[.int .u8 wh, .string k, .string v, .bool d, .int .i64 q, .int .i64 id]] w fun e w' => e = .returned (.bool true) ∧ Below w.heap.size w w' := by
  have hb0 := alloc_below w (.cells #[.int .u8 wh, .string k, .string v, .bool d, .int .i64 q, .int .i64 id] 38)
  have JW := Lib.hid awake_any
  by_cases hbig : 100 < k.size ∨ 100 < v.size
  · have HB0 := Lib.hid hb0
    clear hb0
    by_cases h1 : 100 < k.size
    · clear hbig
      go_enter Try.func5, Try.ntmps5
      go_wp2_with fail
      refine (JW.out _).mono ?_
      rintro e w1 ⟨rfl, hb⟩
      go_wp2_with fail
      go_ret
      exact ⟨rfl, eb_of HB0.out hb (Nat.le_refl _)⟩
    · have h2 : 100 < v.size := by omega
      clear hbig
      go_enter Try.func5, Try.ntmps5
      go_wp2_with fail
      refine (JW.out _).mono ?_
      rintro e w1 ⟨rfl, hb⟩
      go_wp2_with fail
      go_ret
      exact ⟨rfl, eb_of HB0.out hb (Nat.le_refl _)⟩
  have h1 : ¬ 100 < k.size := by omega
  have h2 : ¬ 100 < v.size := by omega
  clear hbig
  have HR := Row6.new w 38 (.int .u8 wh) (.string k) (.string v) (.bool d) (.int .i64 q) (.int .i64 id)
  go_enter Try.func5, Try.ntmps5
  go_wp2_with fail
  generalize w.alloc (.cells #[.int .u8 wh, .string k, .string v, .bool d, .int .i64 q, .int .i64 id] 38) = wx at *
  have HB0 := Lib.hid hb0
  clear hb0
  go_loopw [3] (fun i wr => ∃ n : Nat, n ≤ 2 ∧ i = .int .i64 n ∧ Below wx.heap.size wx wr) (fun i _ => 2 - (intOf i).toNat)
  case atStart => exact ⟨0, by omega, rfl, Below.refl _ _⟩
  case round =>
    obtain ⟨n, hn, rfl, hb⟩ := hrel
    have HB := Lib.hid hb
    clear hb
    by_cases hlt : n < 2
    rotate_left
    · go_wp2_with fail
      refine (JW.out _).mono ?_
      rintro e w1 ⟨rfl, hb⟩
      go_wp2_with fail
      go_ret
      exact ⟨rfl, HB0.out.trans ((eb_of HB.out hb (Nat.le_refl _)).mono HB0.out.size)⟩
    have hn01 : n = 0 ∨ n = 1 := by omega
    rcases hn01 with rfl | rfl
    · have HN := Lib.hid (nm_nil wr)
      go_wp2_with fail
      refine (Last_no HN.out).mono ?_
      rintro e w1 ⟨rfl, hb⟩
      have HB := Lib.hid (HB.out.trans (hb.mono HB.out.size))
      have HN := Lib.hid (HN.out.below (hb))
      have RX := Row4.new w1 36 (.string ⟨#[]⟩) (.string ⟨#[]⟩) (.bool false) (.int .i64 0)
      have hb2 := alloc_below w1 (.cells #[.string ⟨#[]⟩, .string ⟨#[]⟩, .bool false, .int .i64 0] 36)
      have HB := Lib.hid (HB.out.trans (hb2.mono HB.out.size))
      have HN := Lib.hid (HN.out.below hb2)
      clear hb hb2
      have hr5 := (HR.below HB.out (Nat.le_refl _)).c 5
      simp only [List.getElem?_toArray, List.getElem?_cons_succ, List.getElem?_cons_zero] at hr5
      go_wp2_with fail
      generalize w1.alloc (.cells #[.string ⟨#[]⟩, .string ⟨#[]⟩, .bool false, .int .i64 0] 36) = wy at *
      generalize w1.heap.size = bx at *
      go_wp2_with fail
      have JE := Lib.hid (Seal_err (.pointer none) 1 (by decide) id wy (fun w' hb => open_no (HN.out.below hb)))
      refine JE.out.mono ?_
      rintro e w2 ⟨rfl, hb⟩
      have HB := Lib.hid (HB.out.trans (hb.mono HB.out.size))
      have HN := Lib.hid (HN.out.below hb)
      have RX := RX.below hb (Nat.le_refl _)
      have RY := Row2.new w2 43 (.int .i64 0) (.slice none 0 0)
      have hb2 := alloc_below w2 (.cells #[.int .i64 0, .slice none 0 0] 43)
      have HB := Lib.hid (HB.out.trans (hb2.mono HB.out.size))
      have HN := Lib.hid (HN.out.below hb2)
      have RX := RX.below hb2 (Nat.le_refl _)
      clear hb hb2 JE hr5
      have hr := (HR.below HB.out (Nat.le_refl _)).c
      have hr1 := hr 1
      have hr2 := hr 2
      have hr3 := hr 3
      have hr4 := hr 4
      clear hr
      simp only [List.getElem?_toArray, List.getElem?_cons_succ, List.getElem?_cons_zero] at hr1 hr2 hr3 hr4
      go_wp2_with fail
      generalize w2.alloc (.cells #[.int .i64 0, .slice none 0 0] 43) = wz at *
      generalize w2.heap.size = by' at *
      go_wp2_with fail
      refine (Add_no HN.out (k, v, d, q)).mono ?_
      rintro e w3 ⟨rfl, hb⟩
      have HB := Lib.hid (HB.out.trans (hb.mono HB.out.size))
      have HN := Lib.hid (HN.out.below hb)
      have RX := RX.below hb (Nat.le_refl _)
      have RY := RY.below hb (Nat.le_refl _)
      clear hb hr1 hr2 hr3 hr4
      have x0 := RX.c0
      have x1 := RX.c1
      have x2 := RX.c2
      have x3 := RX.c3
      have y0 := RY.c0
      have y1 := RY.c1
      go_wp2_with fail
      refine (RSame_any 0 0 none none 0 0 [] [] w3 (.inl rfl) (.inl rfl) (by decide) (by decide)).mono ?_
      rintro e w4 ⟨rfl, hb⟩
      have HB := Lib.hid (HB.out.trans (hb.mono HB.out.size))
      have HN := Lib.hid (HN.out.below hb)
      clear hb RX RY x0 x1 x2 x3 y0 y1
      have hd : decide ((0 : Int) = 0 ∧ ([] : List El.En) = []) = true := by simp
      rw [hd]
      clear hd
      go_wp2_with fail
      refine (len_no HN.out).mono ?_
      rintro e w5 ⟨rfl, hb⟩
      have HB := Lib.hid (HB.out.trans (hb.mono HB.out.size))
      have HN := Lib.hid (HN.out.below hb)
      clear hb
      go_wp2_with fail
      refine (Room_no HN.out).mono ?_
      rintro e w6 ⟨rfl, hb⟩
      have HB := Lib.hid (HB.out.trans (hb.mono HB.out.size))
      have HN := Lib.hid (HN.out.below hb)
      clear hb
      go_wp2_with fail
      refine (Fork_no HN.out).mono ?_
      rintro e w7 ⟨rfl, hb⟩
      have HB := Lib.hid (HB.out.trans (hb.mono HB.out.size))
      clear hb HN
      go_wp2_with fail
      go_roundw
      case rel => exact ⟨1, by omega, by go_num, HB.out⟩
      case measure => simp [intOf]
    · have hn0 : (wr.alloc (.cells #[.pointer none, .int .i64 0, .int .i64 0, .slice none 0 0] 55)).cell? ⟨wr.heap.size, 0, none⟩ = some (.pointer none) := (Row4.new wr 55 (.pointer none) (.int .i64 0) (.int .i64 0) (.slice none 0 0)).c0
      have HN := Lib.hid (nm_new _ _ hn0)
      have hb0 := alloc_below wr (.cells #[.pointer none, .int .i64 0, .int .i64 0, .slice none 0 0] 55)
      have HB := Lib.hid (HB.out.trans (hb0.mono HB.out.size))
      clear hn0 hb0
      go_wp2_with fail
      generalize wr.alloc (.cells #[.pointer none, .int .i64 0, .int .i64 0, .slice none 0 0] 55) = wn at *
      refine (Last_no HN.out).mono ?_
      rintro e w1 ⟨rfl, hb⟩
      have HB := Lib.hid (HB.out.trans (hb.mono HB.out.size))
      have HN := Lib.hid (HN.out.below (hb))
      have RX := Row4.new w1 36 (.string ⟨#[]⟩) (.string ⟨#[]⟩) (.bool false) (.int .i64 0)
      have hb2 := alloc_below w1 (.cells #[.string ⟨#[]⟩, .string ⟨#[]⟩, .bool false, .int .i64 0] 36)
      have HB := Lib.hid (HB.out.trans (hb2.mono HB.out.size))
      have HN := Lib.hid (HN.out.below hb2)
      clear hb hb2
      have hr5 := (HR.below HB.out (Nat.le_refl _)).c 5
      simp only [List.getElem?_toArray, List.getElem?_cons_succ, List.getElem?_cons_zero] at hr5
      go_wp2_with fail
      generalize w1.alloc (.cells #[.string ⟨#[]⟩, .string ⟨#[]⟩, .bool false, .int .i64 0] 36) = wy at *
      generalize w1.heap.size = bx at *
      go_wp2_with fail
      have JE := Lib.hid (Seal_err (.pointer (some ⟨wr.heap.size, 0, none⟩)) 1 (by decide) id wy (fun w' hb => open_no (HN.out.below hb)))
      refine JE.out.mono ?_
      rintro e w2 ⟨rfl, hb⟩
      have HB := Lib.hid (HB.out.trans (hb.mono HB.out.size))
      have HN := Lib.hid (HN.out.below hb)
      have RX := RX.below hb (Nat.le_refl _)
      have RY := Row2.new w2 43 (.int .i64 0) (.slice none 0 0)
      have hb2 := alloc_below w2 (.cells #[.int .i64 0, .slice none 0 0] 43)
      have HB := Lib.hid (HB.out.trans (hb2.mono HB.out.size))
      have HN := Lib.hid (HN.out.below hb2)
      have RX := RX.below hb2 (Nat.le_refl _)
      clear hb hb2 JE hr5
      have hr := (HR.below HB.out (Nat.le_refl _)).c
      have hr1 := hr 1
      have hr2 := hr 2
      have hr3 := hr 3
      have hr4 := hr 4
      clear hr
      simp only [List.getElem?_toArray, List.getElem?_cons_succ, List.getElem?_cons_zero] at hr1 hr2 hr3 hr4
      go_wp2_with fail
      generalize w2.alloc (.cells #[.int .i64 0, .slice none 0 0] 43) = wz at *
      generalize w2.heap.size = by' at *
      go_wp2_with fail
      refine (Add_no HN.out (k, v, d, q)).mono ?_
      rintro e w3 ⟨rfl, hb⟩
      have HB := Lib.hid (HB.out.trans (hb.mono HB.out.size))
      have HN := Lib.hid (HN.out.below hb)
      have RX := RX.below hb (Nat.le_refl _)
      have RY := RY.below hb (Nat.le_refl _)
      clear hb hr1 hr2 hr3 hr4
      have x0 := RX.c0
      have x1 := RX.c1
      have x2 := RX.c2
      have x3 := RX.c3
      have y0 := RY.c0
      have y1 := RY.c1
      go_wp2_with fail
      refine (RSame_any 0 0 none none 0 0 [] [] w3 (.inl rfl) (.inl rfl) (by decide) (by decide)).mono ?_
      rintro e w4 ⟨rfl, hb⟩
      have HB := Lib.hid (HB.out.trans (hb.mono HB.out.size))
      have HN := Lib.hid (HN.out.below hb)
      clear hb RX RY x0 x1 x2 x3 y0 y1
      have hd : decide ((0 : Int) = 0 ∧ ([] : List El.En) = []) = true := by simp
      rw [hd]
      clear hd
      go_wp2_with fail
      refine (len_no HN.out).mono ?_
      rintro e w5 ⟨rfl, hb⟩
      have HB := Lib.hid (HB.out.trans (hb.mono HB.out.size))
      have HN := Lib.hid (HN.out.below hb)
      clear hb
      go_wp2_with fail
      refine (Room_no HN.out).mono ?_
      rintro e w6 ⟨rfl, hb⟩
      have HB := Lib.hid (HB.out.trans (hb.mono HB.out.size))
      have HN := Lib.hid (HN.out.below hb)
      clear hb
      go_wp2_with fail
      refine (Fork_no HN.out).mono ?_
      rintro e w7 ⟨rfl, hb⟩
      have HB := Lib.hid (HB.out.trans (hb.mono HB.out.size))
      clear hb HN
      go_wp2_with fail
      go_roundw
      case rel => exact ⟨2, by omega, by go_num, HB.out⟩
      case measure => simp [intOf]
end Go.Proofs.Ytkphadkmmjcmnaa.KK
