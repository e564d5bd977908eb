/-
  Runs: awake.
-/
import Derived.Test.YtjnbdeahmbkbnaaRl
import Derived.Test.YtjnbdeahmbkbnaaRi
namespace Go.Proofs.Ytjnbdeahmbkbnaa.KK
open Go.ChangeShapes Go.WideShapes Go.ChangeAt Go.RowKit Go.Proofs

theorem rxL_sized : Sized rxL := fun x hx => by simp [rxL] at hx; rcases hx with rfl | rfl | rfl <;> decide
theorem entV_mk {p : El.En × Int} {k v : ByteArray} {d : Bool} {q r : Int} (h : p = ((k, v, d, q), r)) : Ending.returned (entV p) = .returned (.tuple #[.agg #[.string k, .string v, .bool d, .int .i64 q], .int .i64 r]) := by rw [h]; rfl
theorem rxGet (key : ByteArray) (k v : ByteArray) (d : Bool) (q r : Int) (a : Addr) (w : World) (hf : EsAt w (some a) rxL) (hk : key.size ≤ 9223372036854775807) (h : getR 7 rxL key = ((k, v, d, q), r)) :
    Calls Try.prog 13 #[.agg #[.int .i64 7, .slice (some a) 3 3], .string key] w fun e w' => e = .returned (.tuple #[.agg #[.string k, .string v, .bool d, .int .i64 q], .int .i64 r]) ∧ Below w.heap.size w w' :=
  (pGet8_any 7 (some a) 3 rxL key w hf (by decide) rxL_sized (by decide) (fun e => by cases e) hk).mono fun e w' ⟨he, hb⟩ => ⟨he.trans (entV_mk h), hb⟩
theorem rxFloor (key : ByteArray) (s : Bool) (k v : ByteArray) (d : Bool) (q r : Int) (a : Addr) (w : World) (hf : EsAt w (some a) rxL) (hk : key.size ≤ 9223372036854775807) (h : floorR 7 rxL key s = ((k, v, d, q), r)) :
    Calls Try.prog 15 #[.agg #[.int .i64 7, .slice (some a) 3 3], .string key, .bool s] w fun e w' => e = .returned (.tuple #[.agg #[.string k, .string v, .bool d, .int .i64 q], .int .i64 r]) ∧ Below w.heap.size w w' :=
  (pFloor8_any 7 (some a) 3 rxL key s w hf (by decide) rxL_sized (by decide) (fun e => by cases e) hk).mono fun e w' ⟨he, hb⟩ => ⟨he.trans (entV_mk h), hb⟩
theorem rxCeil (key : ByteArray) (s : Bool) (k v : ByteArray) (d : Bool) (q r : Int) (a : Addr) (w : World) (hf : EsAt w (some a) rxL) (hk : key.size ≤ 9223372036854775807) (h : ceilR 7 rxL key s = ((k, v, d, q), r)) :
    Calls Try.prog 17 #[.agg #[.int .i64 7, .slice (some a) 3 3], .string key, .bool s] w fun e w' => e = .returned (.tuple #[.agg #[.string k, .string v, .bool d, .int .i64 q], .int .i64 r]) ∧ Below w.heap.size w w' :=
  (pCeil8_any 7 (some a) 3 rxL key s w hf (by decide) rxL_sized (by decide) (fun e => by cases e) hk).mono fun e w' ⟨he, hb⟩ => ⟨he.trans (entV_mk h), hb⟩
theorem rxCount (lo hi : ByteArray) (b : Bool) (x y r : Int) (a : Addr) (w : World) (hf : EsAt w (some a) rxL) (h1 : lo.size ≤ 9223372036854775807) (h2 : hi.size ≤ 9223372036854775807) (h : countR 7 rxL lo hi b = (x, y, r)) :
    Calls Try.prog 21 #[.agg #[.int .i64 7, .slice (some a) 3 3], .agg #[.string lo, .string hi, .bool b]] w fun e w' => e = .returned (.tuple #[.int .i64 x, .int .i64 y, .int .i64 r]) ∧ Below w.heap.size w w' :=
  (pCount8_any 7 (some a) 3 rxL lo hi b w hf (by decide) rxL_sized (by decide) (fun e => by cases e) h1 h2).mono fun e w' ⟨he, hb⟩ => ⟨by rw [he, h], hb⟩
theorem field_run (x : Int) (a : Option Addr) (n c : Nat) (w : World) : Sem.run Try.prog (Instr.field 24 (.agg #[.int .i64 x, .slice a n c]) 1) w = .ok (.slice a n c) w := by kernel_rfl
set_option maxRecDepth 100000 in
set_option maxHeartbeats 8000000 in
theorem awake8_any (w : World) : Calls Try.prog 10 #[] w fun e w' => e = .returned (.bool true) ∧ Below w.heap.size w w' := by
  have JG := Lib.hid (fun a w hf => rxGet ⟨#[99]⟩ ⟨#[99]⟩ ⟨#[]⟩ true 2 0 a w hf (by decide) (by decide +kernel))
  have JF := Lib.hid (fun a w hf => rxFloor ⟨#[99]⟩ true ⟨#[97]⟩ ⟨#[49]⟩ false 1 0 a w hf (by decide) (by decide +kernel))
  have JC := Lib.hid (fun a w hf => rxCeil ⟨#[100]⟩ false ⟨#[101]⟩ ⟨#[50]⟩ false 3 0 a w hf (by decide) (by decide +kernel))
  have JN := Lib.hid (fun a w hf => rxCount ⟨#[]⟩ ⟨#[]⟩ false 2 1 0 a w hf (by decide) (by decide) (by decide +kernel))
  have hfield := field_run
  go_enter Try.func10, Try.ntmps10
  go_wp2_with fail
  refine (rx_any _).mono ?_
  rintro e w0 ⟨a0, rfl, hes, hb⟩
  have HB0 := Lib.hid hb
  have HL0 := Lib.hid hes
  clear hb hes
  go_wp2_with fail
  refine (rx_any _).mono ?_
  rintro e v0 ⟨a1, rfl, hes, hb⟩
  have HB1 := Lib.hid (eb_of HB0.out hb (Nat.le_refl _))
  have HL1 := Lib.hid (HL0.out.below hb (Nat.le_refl _))
  clear HB0 HL0 
  have HE := Lib.hid hes
  clear hb hes
  go_wp2_with fail
  refine (JG.out _ _ HE.out).mono ?_
  rintro e u0 ⟨rfl, hb⟩
  have HB2 := Lib.hid (eb_of HB1.out hb (Nat.le_refl _))
  have HL2 := Lib.hid (HL1.out.below hb (Nat.le_refl _))
  clear HB1 HL1 
  clear hb HE
  have hbb := alloc_below u0 (.cells #[.string ⟨#[99]⟩, .string ⟨#[]⟩, .bool true, .int .i64 2] 31)
  have HB3 := Lib.hid (eb_of HB2.out hbb (Nat.le_refl _))
  have HL3 := Lib.hid (HL2.out.below hbb (Nat.le_refl _))
  clear HB2 HL2 
  have HX3 := Lib.hid (Below.refl (u0.alloc (.cells #[.string ⟨#[99]⟩, .string ⟨#[]⟩, .bool true, .int .i64 2] 31)).heap.size (u0.alloc (.cells #[.string ⟨#[99]⟩, .string ⟨#[]⟩, .bool true, .int .i64 2] 31)))
  have KX := box1 ⟨#[99]⟩ ⟨#[]⟩ true 2 u0
  clear hbb
  go_wp2_with fail
  refine (rx_any _).mono ?_
  rintro e v1 ⟨a2, rfl, hes, hb⟩
  have HB4 := Lib.hid (eb_of HB3.out hb (Nat.le_refl _))
  have HL4 := Lib.hid (HL3.out.below hb (Nat.le_refl _))
  have HX4 := Lib.hid (eb_of HX3.out hb (Nat.le_refl _))
  clear HB3 HL3 HX3
  have HE := Lib.hid hes
  clear hb hes
  go_wp2_with fail
  refine (JF.out _ _ HE.out).mono ?_
  rintro e u1 ⟨rfl, hb⟩
  have HB5 := Lib.hid (eb_of HB4.out hb (Nat.le_refl _))
  have HL5 := Lib.hid (HL4.out.below hb (Nat.le_refl _))
  have HX5 := Lib.hid (eb_of HX4.out hb (Nat.le_refl _))
  clear HB4 HL4 HX4
  clear hb HE
  have hbb := alloc_below u1 (.cells #[.string ⟨#[97]⟩, .string ⟨#[49]⟩, .bool false, .int .i64 1] 31)
  have HB6 := Lib.hid (eb_of HB5.out hbb (Nat.le_refl _))
  have HL6 := Lib.hid (HL5.out.below hbb (Nat.le_refl _))
  have HX6 := Lib.hid (eb_of HX5.out hbb (Nat.le_refl _))
  clear HB5 HL5 HX5
  have HY6 := Lib.hid (Below.refl (u1.alloc (.cells #[.string ⟨#[97]⟩, .string ⟨#[49]⟩, .bool false, .int .i64 1] 31)).heap.size (u1.alloc (.cells #[.string ⟨#[97]⟩, .string ⟨#[49]⟩, .bool false, .int .i64 1] 31)))
  have KY := box1 ⟨#[97]⟩ ⟨#[49]⟩ false 1 u1
  clear hbb
  go_wp2_with fail
  refine (rx_any _).mono ?_
  rintro e v2 ⟨a3, rfl, hes, hb⟩
  have HB7 := Lib.hid (eb_of HB6.out hb (Nat.le_refl _))
  have HL7 := Lib.hid (HL6.out.below hb (Nat.le_refl _))
  have HX7 := Lib.hid (eb_of HX6.out hb (Nat.le_refl _))
  have HY7 := Lib.hid (eb_of HY6.out hb (Nat.le_refl _))
  clear HB6 HL6 HX6 HY6
  have HE := Lib.hid hes
  clear hb hes
  go_wp2_with fail
  refine (JC.out _ _ HE.out).mono ?_
  rintro e u2 ⟨rfl, hb⟩
  have HB8 := Lib.hid (eb_of HB7.out hb (Nat.le_refl _))
  have HL8 := Lib.hid (HL7.out.below hb (Nat.le_refl _))
  have HX8 := Lib.hid (eb_of HX7.out hb (Nat.le_refl _))
  have HY8 := Lib.hid (eb_of HY7.out hb (Nat.le_refl _))
  clear HB7 HL7 HX7 HY7
  clear hb HE
  have hbb := alloc_below u2 (.cells #[.string ⟨#[101]⟩, .string ⟨#[50]⟩, .bool false, .int .i64 3] 31)
  have HB9 := Lib.hid (eb_of HB8.out hbb (Nat.le_refl _))
  have HL9 := Lib.hid (HL8.out.below hbb (Nat.le_refl _))
  have HX9 := Lib.hid (eb_of HX8.out hbb (Nat.le_refl _))
  have HY9 := Lib.hid (eb_of HY8.out hbb (Nat.le_refl _))
  clear HB8 HL8 HX8 HY8
  have HZ9 := Lib.hid (Below.refl (u2.alloc (.cells #[.string ⟨#[101]⟩, .string ⟨#[50]⟩, .bool false, .int .i64 3] 31)).heap.size (u2.alloc (.cells #[.string ⟨#[101]⟩, .string ⟨#[50]⟩, .bool false, .int .i64 3] 31)))
  have KZ := box1 ⟨#[101]⟩ ⟨#[50]⟩ false 3 u2
  clear hbb
  go_wp2_with fail
  refine (rx_any _).mono ?_
  rintro e v3 ⟨a4, rfl, hes, hb⟩
  have HB10 := Lib.hid (eb_of HB9.out hb (Nat.le_refl _))
  have HL10 := Lib.hid (HL9.out.below hb (Nat.le_refl _))
  have HX10 := Lib.hid (eb_of HX9.out hb (Nat.le_refl _))
  have HY10 := Lib.hid (eb_of HY9.out hb (Nat.le_refl _))
  have HZ10 := Lib.hid (eb_of HZ9.out hb (Nat.le_refl _))
  clear HB9 HL9 HX9 HY9 HZ9
  have HE := Lib.hid hes
  clear hb hes
  go_wp2_with fail
  refine (JN.out _ _ HE.out).mono ?_
  rintro e u3 ⟨rfl, hb⟩
  have HB11 := Lib.hid (eb_of HB10.out hb (Nat.le_refl _))
  have HL11 := Lib.hid (HL10.out.below hb (Nat.le_refl _))
  have HX11 := Lib.hid (eb_of HX10.out hb (Nat.le_refl _))
  have HY11 := Lib.hid (eb_of HY10.out hb (Nat.le_refl _))
  have HZ11 := Lib.hid (eb_of HZ10.out hb (Nat.le_refl _))
  clear HB10 HL10 HX10 HY10 HZ10
  clear hb HE
  obtain ⟨pX0, pX1, pX2, pX3, pX4⟩ := KX.out _ HX11.out
  obtain ⟨pY0, pY1, pY2, pY3, pY4⟩ := KY.out _ HY11.out
  obtain ⟨pZ0, pZ1, pZ2, pZ3, pZ4⟩ := KZ.out _ HZ11.out
  have HLL := HL11.out
  rcases HLL with h0 | ⟨b, off, ha, hbl, hc⟩
  · cases h0
  obtain rfl : a0 = ⟨b, off, none⟩ := Option.some.inj ha
  obtain ⟨c0, c1, c2, c3⟩ := hc 0 (by decide)
  obtain ⟨d0, d1, d2, d3⟩ := hc 1 (by decide)
  obtain ⟨e0, e1, e2, e3⟩ := hc 2 (by decide)
  simp only [rxL, rx1, rx2, rx3, List.getElem_cons_zero, List.getElem_cons_succ, Nat.zero_mul, Nat.one_mul, Nat.add_zero] at c0 c1 c2 c3 d0 d1 d2 d3 e0 e1 e2 e3
  clear hc ha
  go_wp2_with fail
  go_quiet (fail)
  go_wp2_with fail
  go_ret
  exact ⟨by first | rfl | simp, eb_of HB11.out (below_drewN' _) (Nat.le_refl _)⟩
end Go.Proofs.Ytjnbdeahmbkbnaa.KK
