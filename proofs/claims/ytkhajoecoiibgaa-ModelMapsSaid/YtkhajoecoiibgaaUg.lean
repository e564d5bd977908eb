/-
  The walk of ModelNone.
-/
import Derived.Test.YtkhajoecoiibgaaUf
namespace Go.Proofs.Ytkhajoecoiibgaa.KK
open Go.ChangeShapes Go.WideShapes Go.ChangeAt Go.RowKit Go.Proofs

/-- a row of three cells -/
def Row3 (W : World) (B : Nat) (t : TypeId) (v0 v1 v2 : Value) : Prop := W.heap[B]? = some (.cells #[v0, v1, v2] t (0, 0))
section
variable {W : World} {B : Nat} {t : TypeId} {v0 v1 v2 : Value}
theorem Row3.lt (h : Row3 W B t v0 v1 v2) : B < W.heap.size := (Array.getElem?_eq_some_iff.1 h).1
theorem Row3.c (h : Row3 W B t v0 v1 v2) : W.cell? ⟨B, 0, none⟩ = some v0 ∧ W.cell? ⟨B, 1, none⟩ = some v1 ∧ W.cell? ⟨B, 2, none⟩ = some v2 := ⟨cell_of_row W B 0 _ _ _ h, cell_of_row W B 1 _ _ _ h, cell_of_row W B 2 _ _ _ h⟩
theorem Row3.below {W' : World} {n : Nat} (h : Row3 W B t v0 v1 v2) (hb : Below n W W') (hn : W.heap.size ≤ n) : Row3 W' B t v0 v1 v2 := (hb.block B (Nat.lt_of_lt_of_le h.lt hn)).trans h
end
theorem keep_row3 {w : World} {B : Nat} {t : TypeId} {u0 u1 u2 : Value} (h : Row3 w B t u0 u1 u2) : Keep w (fun w' => Row3 w' B t u0 u1 u2) := fun _ b => h.below b (Nat.le_refl _)
theorem Row3.new (w : World) (t : TypeId) (v0 v1 v2 : Value) : Row3 (w.alloc (.cells #[v0, v1, v2] t)) w.heap.size t v0 v1 v2 := heap_alloc_new w _
set_option maxRecDepth 100000 in
set_option maxHeartbeats 4000000 in
theorem None_any (i g : Int) (lo hi : ByteArray) (all : Bool) (A : Option Addr) (c : Nat) (xs : List Wr) (w : World) (hlo : lo.size ≤ 9223372036854775807) (hhi : hi.size ≤ 9223372036854775807) (hf : WsAt w A xs) (hn : xs.length ≤ 9223372036854775807) (hs : SizedW xs) :
    Calls Try.prog 10 #[.agg #[.int .i64 i, .int .i64 g], .agg #[.string lo, .string hi, .bool all], .slice A xs.length c] w fun e w' => e = .returned (.bool true) ∧ Below w.heap.size w w' := by
  have hb1 := alloc_below w (.cells #[.int .i64 i, .int .i64 g] 58)
  have h1 := Row2.new w 58 (.int .i64 i) (.int .i64 g)
  have hsz1 : (w.alloc (.cells #[.int .i64 i, .int .i64 g] 58)).heap.size = w.heap.size + 1 := by simp
  obtain ⟨wh, hwh⟩ : ∃ wh, w.alloc (.cells #[.int .i64 i, .int .i64 g] 58) = wh := ⟨_, rfl⟩
  rw [hwh] at hb1 h1 hsz1
  have hb2 := alloc_below wh (.cells #[.string lo, .string hi, .bool all] 35)
  have h2 := Row3.new wh 35 (.string lo) (.string hi) (.bool all)
  rw [hsz1] at h2
  have h12 := h1.below hb2 (Nat.le_refl _)
  have hb0 := hb1.trans (hb2.mono hb1.size)
  have HF := Lib.hid (fun (w' : World) (hb : Below w.heap.size w w') => hf.below hb (Nat.le_refl _))
  have JWd := Lib.hid (fun (w' : World) (hb : Below w.heap.size w w') => wide_any A c xs w' (hf.below hb (Nat.le_refl _)) hn hs)
  have JW := Lib.hid awake_any
  have JR : Hid (∀ w', Below w.heap.size w w' → Calls Try.prog 13 #[] w' fun e w'' => e = .returned (.bool true) ∧ Below w.heap.size w w'') := Lib.hid fun w' hb => (awake_any w').mono fun e w'' k => ⟨k.1, eb_of hb k.2 (Nat.le_refl _)⟩
  have HB0 := Lib.hid hb0
  obtain ⟨l0, l1, l2⟩ := h2.c
  have HH := Lib.hid h12
  have HR := Lib.hid h2
  rw [← hwh] at HB0 HH HR l0 l1 l2
  clear hb0 hb1 hb2 h1 h2 h12 hsz1 hwh wh hf hn hs
  generalize wideE xs = bw at *
  by_cases k1 : 200 < lo.size
  · go_enter Try.func10, Try.ntmps10
    go_wp2_with fail
    refine (JR.out _ HB0.out).mono ?_
    rintro e w1 ⟨rfl, hb⟩
    go_wp2_with fail
    go_ret
    exact ⟨rfl, hb⟩
  by_cases k2 : 200 < hi.size
  · go_enter Try.func10, Try.ntmps10
    go_wp2_with fail
    refine (JR.out _ HB0.out).mono ?_
    rintro e w1 ⟨rfl, hb⟩
    go_wp2_with fail
    go_ret
    exact ⟨rfl, hb⟩
  cases bw with
  | true =>
    go_enter Try.func10, Try.ntmps10
    go_wp2_with fail
    refine (JWd.out _ HB0.out).mono ?_
    rintro e w1 ⟨rfl, hb⟩
    have HB1 := Lib.hid (eb_of HB0.out hb (Nat.le_refl _))
    clear hb
    go_wp2_with fail
    refine (JR.out _ HB1.out).mono ?_
    rintro e w2 ⟨rfl, hb⟩
    go_wp2_with fail
    go_ret
    exact ⟨rfl, hb⟩
  | false =>
  have HK := Lib.hid ((keep_row HH.out).and (keep_row3 HR.out))
  clear HH HR
  go_enter Try.func10, Try.ntmps10
  go_wp2_with fail
  generalize (w.alloc (.cells #[.int .i64 i, .int .i64 g] 58)).alloc (.cells #[.string lo, .string hi, .bool all] 35) = wx at *
  clear l0 l1 l2 k1 k2
  refine (JWd.out _ HB0.out).mono ?_
  rintro e w1 ⟨rfl, hb⟩
  have HB1 := Lib.hid (eb_of HB0.out hb (Nat.le_refl _))
  have HK1 := Lib.hid (HK.out.step hb)
  clear hb JWd HB0 HK JW
  go_wp2_with fail
  go_loopw [8] (fun i wr => ∃ n : Nat, n ≤ 2 ∧ i = .int .i64 n ∧ Below w1.heap.size w1 wr) (fun i _ => 2 - (intOf i).toNat)
  case atStart => exact ⟨0, by omega, rfl, Below.refl _ _⟩
  case round =>
    obtain ⟨n, hn, rfl, hb⟩ := hrel
    have HB := Lib.hid (eb_of HB1.out hb (Nat.le_refl _))
    have HL := Lib.hid hb
    have HK := Lib.hid (HK1.out.step hb)
    clear hb
    by_cases hlt : n < 2
    rotate_left
    · go_wp2_with fail
      refine (JR.out _ HB.out).mono ?_
      rintro e w2 ⟨rfl, hb⟩
      go_wp2_with fail
      go_ret
      exact ⟨rfl, hb⟩
    have hn01 : n = 0 ∨ n = 1 := by omega
    rcases hn01 with rfl | rfl
    · have HN := Lib.hid (not_nil wr)
      have h0 := HK.out.now.1.c0
      have h1 := HK.out.now.1.c1
      go_wp2_with fail
      clear h0 h1
      refine (no_map _ _ HN.out i g).mono ?_
      rintro e w2 ⟨rfl, hb⟩
      have HB := Lib.hid (eb_of HB.out hb (Nat.le_refl _))
      have HL := Lib.hid (eb_of HL.out hb (Nat.le_refl _))
      have HK := Lib.hid (HK.out.step hb)
      have HN := Lib.hid (HN.out.below hb)
      clear hb
      go_wp2_with fail
      refine (no_pin _ _ HN.out).mono ?_
      rintro e w3 ⟨rfl, hb⟩
      have HB := Lib.hid (eb_of HB.out hb (Nat.le_refl _))
      have HL := Lib.hid (eb_of HL.out hb (Nat.le_refl _))
      have HK := Lib.hid (HK.out.step hb)
      have HN := Lib.hid (HN.out.below hb)
      clear hb
      have hr := keep_row (Row2.new w3 58 (.int .i64 0) (.int .i64 0))
      have hb := alloc_below w3 (.cells #[.int .i64 0, .int .i64 0] 58)
      have HB := Lib.hid (eb_of HB.out hb (Nat.le_refl _))
      have HL := Lib.hid (eb_of HL.out hb (Nat.le_refl _))
      have HK := Lib.hid (HK.out.step hb)
      have HN := Lib.hid (HN.out.below hb)
      have HK := Lib.hid (HK.out.and hr)
      clear hb hr
      have h0 := HK.out.now.1.1.c0
      have h1 := HK.out.now.1.1.c1
      obtain ⟨r0, r1, r2⟩ := HK.out.now.1.2.c
      go_wp2_with fail
      generalize w3.alloc (.cells #[.int .i64 0, .int .i64 0] 58) = wp at *
      generalize w3.heap.size = bp at *
      clear h0 h1 r0 r1 r2
      refine (no_open _ _ HN.out i g lo hi all).mono ?_
      rintro e w4 ⟨rfl, hb⟩
      have HB := Lib.hid (eb_of HB.out hb (Nat.le_refl _))
      have HL := Lib.hid (eb_of HL.out hb (Nat.le_refl _))
      have HK := Lib.hid (HK.out.step hb)
      have HN := Lib.hid (HN.out.below hb)
      clear hb
      have hr := keep_row (Row2.new w4 58 (.int .i64 0) (.int .i64 0))
      have hb := alloc_below w4 (.cells #[.int .i64 0, .int .i64 0] 58)
      have HB := Lib.hid (eb_of HB.out hb (Nat.le_refl _))
      have HL := Lib.hid (eb_of HL.out hb (Nat.le_refl _))
      have HK := Lib.hid (HK.out.step hb)
      have HN := Lib.hid (HN.out.below hb)
      have HK := Lib.hid (HK.out.and hr)
      clear hb hr
      have h0 := HK.out.now.1.1.1.c0
      have h1 := HK.out.now.1.1.1.c1
      go_wp2_with fail
      generalize w4.alloc (.cells #[.int .i64 0, .int .i64 0] 58) = wo at *
      generalize w4.heap.size = bo at *
      clear h0 h1
      refine (no_next _ _ HN.out i g).mono ?_
      rintro e w5 ⟨rfl, hb⟩
      have HB := Lib.hid (eb_of HB.out hb (Nat.le_refl _))
      have HL := Lib.hid (eb_of HL.out hb (Nat.le_refl _))
      have HK := Lib.hid (HK.out.step hb)
      have HN := Lib.hid (HN.out.below hb)
      clear hb
      have hr := keep_row (Row2.new w5 39 (.string ⟨#[]⟩) (.string ⟨#[]⟩))
      have hb := alloc_below w5 (.cells #[.string ⟨#[]⟩, .string ⟨#[]⟩] 39)
      have HB := Lib.hid (eb_of HB.out hb (Nat.le_refl _))
      have HL := Lib.hid (eb_of HL.out hb (Nat.le_refl _))
      have HK := Lib.hid (HK.out.step hb)
      have HN := Lib.hid (HN.out.below hb)
      have HK := Lib.hid (HK.out.and hr)
      clear hb hr
      have h0 := HK.out.now.1.1.1.1.c0
      have h1 := HK.out.now.1.1.1.1.c1
      go_wp2_with fail
      generalize w5.alloc (.cells #[.string ⟨#[]⟩, .string ⟨#[]⟩] 39) = wt at *
      generalize w5.heap.size = bt at *
      clear h0 h1
      refine (no_prev _ _ HN.out i g).mono ?_
      rintro e w6 ⟨rfl, hb⟩
      have HB := Lib.hid (eb_of HB.out hb (Nat.le_refl _))
      have HL := Lib.hid (eb_of HL.out hb (Nat.le_refl _))
      have HK := Lib.hid (HK.out.step hb)
      have HN := Lib.hid (HN.out.below hb)
      clear hb
      have hr := keep_row (Row2.new w6 39 (.string ⟨#[]⟩) (.string ⟨#[]⟩))
      have hb := alloc_below w6 (.cells #[.string ⟨#[]⟩, .string ⟨#[]⟩] 39)
      have HB := Lib.hid (eb_of HB.out hb (Nat.le_refl _))
      have HL := Lib.hid (eb_of HL.out hb (Nat.le_refl _))
      have HK := Lib.hid (HK.out.step hb)
      have HN := Lib.hid (HN.out.below hb)
      have HK := Lib.hid (HK.out.and hr)
      clear hb hr
      go_wp2_with fail
      generalize w6.alloc (.cells #[.string ⟨#[]⟩, .string ⟨#[]⟩] 39) = wv at *
      generalize w6.heap.size = bv at *
      refine (no_live _ _ HN.out).mono ?_
      rintro e w7 ⟨rfl, hb⟩
      have HB := Lib.hid (eb_of HB.out hb (Nat.le_refl _))
      have HL := Lib.hid (eb_of HL.out hb (Nat.le_refl _))
      have HK := Lib.hid (HK.out.step hb)
      have HN := Lib.hid (HN.out.below hb)
      clear hb
      obtain ⟨⟨⟨⟨_, kp⟩, ko⟩, kt⟩, kv⟩ := HK.out.now
      have p0 := kp.c0
      have p1 := kp.c1
      have o0 := ko.c0
      have o1 := ko.c1
      have t0 := kt.c0
      have t1 := kt.c1
      have v0 := kv.c0
      have v1 := kv.c1
      clear kp ko kt kv
      go_wp2_with fail
      clear p0 p1 o0 o1 t0 t1 v0 v1
      refine (no_write _ _ HN.out A xs.length c).mono ?_
      rintro e w8 ⟨rfl, hb⟩
      have HB := Lib.hid (eb_of HB.out hb (Nat.le_refl _))
      have HL := Lib.hid (eb_of HL.out hb (Nat.le_refl _))
      have HK := Lib.hid (HK.out.step hb)
      have HN := Lib.hid (HN.out.below hb)
      clear hb
      have h0 := HK.out.now.1.1.1.1.1.c0
      have h1 := HK.out.now.1.1.1.1.1.c1
      go_wp2_with fail
      clear h0 h1
      refine (no_unpin _ _ HN.out i g).mono ?_
      rintro e w9 ⟨rfl, hb⟩
      have HB := Lib.hid (eb_of HB.out hb (Nat.le_refl _))
      have HL := Lib.hid (eb_of HL.out hb (Nat.le_refl _))
      have HK := Lib.hid (HK.out.step hb)
      have HN := Lib.hid (HN.out.below hb)
      clear hb
      have h0 := HK.out.now.1.1.1.1.1.c0
      have h1 := HK.out.now.1.1.1.1.1.c1
      go_wp2_with fail
      clear h0 h1
      refine (no_shut _ _ HN.out i g).mono ?_
      rintro e w10 ⟨rfl, hb⟩
      have HB := Lib.hid (eb_of HB.out hb (Nat.le_refl _))
      have HL := Lib.hid (eb_of HL.out hb (Nat.le_refl _))
      have HK := Lib.hid (HK.out.step hb)
      have HN := Lib.hid (HN.out.below hb)
      clear hb
      go_wp2_with fail
      go_roundw
      case rel => exact ⟨1, by omega, by go_num, HL.out⟩
      case measure => simp [intOf]
    · have hn0 : (wr.alloc (.cells #[.pointer none, .slice none 0 0, .int .i64 0, .slice none 0 0, .int .i64 0, .slice none 0 0] 88)).cell? ⟨wr.heap.size, 0, none⟩ = some (.pointer none) := cell_of_row _ _ 0 _ _ _ (heap_alloc_new wr _)
      have HN := Lib.hid (not_new _ _ hn0)
      have hb0 := alloc_below wr (.cells #[.pointer none, .slice none 0 0, .int .i64 0, .slice none 0 0, .int .i64 0, .slice none 0 0] 88)
      have HB := Lib.hid (eb_of HB.out hb0 (Nat.le_refl _))
      have HL := Lib.hid (eb_of HL.out hb0 (Nat.le_refl _))
      have HK := Lib.hid (HK.out.step hb0)
      clear hn0 hb0
      have h0 := HK.out.now.1.c0
      have h1 := HK.out.now.1.c1
      go_wp2_with fail
      generalize wr.alloc (.cells #[.pointer none, .slice none 0 0, .int .i64 0, .slice none 0 0, .int .i64 0, .slice none 0 0] 88) = wn at *
      clear h0 h1
      refine (no_map _ _ HN.out i g).mono ?_
      rintro e w2 ⟨rfl, hb⟩
      have HB := Lib.hid (eb_of HB.out hb (Nat.le_refl _))
      have HL := Lib.hid (eb_of HL.out hb (Nat.le_refl _))
      have HK := Lib.hid (HK.out.step hb)
      have HN := Lib.hid (HN.out.below hb)
      clear hb
      go_wp2_with fail
      refine (no_pin _ _ HN.out).mono ?_
      rintro e w3 ⟨rfl, hb⟩
      have HB := Lib.hid (eb_of HB.out hb (Nat.le_refl _))
      have HL := Lib.hid (eb_of HL.out hb (Nat.le_refl _))
      have HK := Lib.hid (HK.out.step hb)
      have HN := Lib.hid (HN.out.below hb)
      clear hb
      have hr := keep_row (Row2.new w3 58 (.int .i64 0) (.int .i64 0))
      have hb := alloc_below w3 (.cells #[.int .i64 0, .int .i64 0] 58)
      have HB := Lib.hid (eb_of HB.out hb (Nat.le_refl _))
      have HL := Lib.hid (eb_of HL.out hb (Nat.le_refl _))
      have HK := Lib.hid (HK.out.step hb)
      have HN := Lib.hid (HN.out.below hb)
      have HK := Lib.hid (HK.out.and hr)
      clear hb hr
      have h0 := HK.out.now.1.1.c0
      have h1 := HK.out.now.1.1.c1
      obtain ⟨r0, r1, r2⟩ := HK.out.now.1.2.c
      go_wp2_with fail
      generalize w3.alloc (.cells #[.int .i64 0, .int .i64 0] 58) = wp at *
      generalize w3.heap.size = bp at *
      clear h0 h1 r0 r1 r2
      refine (no_open _ _ HN.out i g lo hi all).mono ?_
      rintro e w4 ⟨rfl, hb⟩
      have HB := Lib.hid (eb_of HB.out hb (Nat.le_refl _))
      have HL := Lib.hid (eb_of HL.out hb (Nat.le_refl _))
      have HK := Lib.hid (HK.out.step hb)
      have HN := Lib.hid (HN.out.below hb)
      clear hb
      have hr := keep_row (Row2.new w4 58 (.int .i64 0) (.int .i64 0))
      have hb := alloc_below w4 (.cells #[.int .i64 0, .int .i64 0] 58)
      have HB := Lib.hid (eb_of HB.out hb (Nat.le_refl _))
      have HL := Lib.hid (eb_of HL.out hb (Nat.le_refl _))
      have HK := Lib.hid (HK.out.step hb)
      have HN := Lib.hid (HN.out.below hb)
      have HK := Lib.hid (HK.out.and hr)
      clear hb hr
      have h0 := HK.out.now.1.1.1.c0
      have h1 := HK.out.now.1.1.1.c1
      go_wp2_with fail
      generalize w4.alloc (.cells #[.int .i64 0, .int .i64 0] 58) = wo at *
      generalize w4.heap.size = bo at *
      clear h0 h1
      refine (no_next _ _ HN.out i g).mono ?_
      rintro e w5 ⟨rfl, hb⟩
      have HB := Lib.hid (eb_of HB.out hb (Nat.le_refl _))
      have HL := Lib.hid (eb_of HL.out hb (Nat.le_refl _))
      have HK := Lib.hid (HK.out.step hb)
      have HN := Lib.hid (HN.out.below hb)
      clear hb
      have hr := keep_row (Row2.new w5 39 (.string ⟨#[]⟩) (.string ⟨#[]⟩))
      have hb := alloc_below w5 (.cells #[.string ⟨#[]⟩, .string ⟨#[]⟩] 39)
      have HB := Lib.hid (eb_of HB.out hb (Nat.le_refl _))
      have HL := Lib.hid (eb_of HL.out hb (Nat.le_refl _))
      have HK := Lib.hid (HK.out.step hb)
      have HN := Lib.hid (HN.out.below hb)
      have HK := Lib.hid (HK.out.and hr)
      clear hb hr
      have h0 := HK.out.now.1.1.1.1.c0
      have h1 := HK.out.now.1.1.1.1.c1
      go_wp2_with fail
      generalize w5.alloc (.cells #[.string ⟨#[]⟩, .string ⟨#[]⟩] 39) = wt at *
      generalize w5.heap.size = bt at *
      clear h0 h1
      refine (no_prev _ _ HN.out i g).mono ?_
      rintro e w6 ⟨rfl, hb⟩
      have HB := Lib.hid (eb_of HB.out hb (Nat.le_refl _))
      have HL := Lib.hid (eb_of HL.out hb (Nat.le_refl _))
      have HK := Lib.hid (HK.out.step hb)
      have HN := Lib.hid (HN.out.below hb)
      clear hb
      have hr := keep_row (Row2.new w6 39 (.string ⟨#[]⟩) (.string ⟨#[]⟩))
      have hb := alloc_below w6 (.cells #[.string ⟨#[]⟩, .string ⟨#[]⟩] 39)
      have HB := Lib.hid (eb_of HB.out hb (Nat.le_refl _))
      have HL := Lib.hid (eb_of HL.out hb (Nat.le_refl _))
      have HK := Lib.hid (HK.out.step hb)
      have HN := Lib.hid (HN.out.below hb)
      have HK := Lib.hid (HK.out.and hr)
      clear hb hr
      go_wp2_with fail
      generalize w6.alloc (.cells #[.string ⟨#[]⟩, .string ⟨#[]⟩] 39) = wv at *
      generalize w6.heap.size = bv at *
      refine (no_live _ _ HN.out).mono ?_
      rintro e w7 ⟨rfl, hb⟩
      have HB := Lib.hid (eb_of HB.out hb (Nat.le_refl _))
      have HL := Lib.hid (eb_of HL.out hb (Nat.le_refl _))
      have HK := Lib.hid (HK.out.step hb)
      have HN := Lib.hid (HN.out.below hb)
      clear hb
      obtain ⟨⟨⟨⟨_, kp⟩, ko⟩, kt⟩, kv⟩ := HK.out.now
      have p0 := kp.c0
      have p1 := kp.c1
      have o0 := ko.c0
      have o1 := ko.c1
      have t0 := kt.c0
      have t1 := kt.c1
      have v0 := kv.c0
      have v1 := kv.c1
      clear kp ko kt kv
      go_wp2_with fail
      clear p0 p1 o0 o1 t0 t1 v0 v1
      refine (no_write _ _ HN.out A xs.length c).mono ?_
      rintro e w8 ⟨rfl, hb⟩
      have HB := Lib.hid (eb_of HB.out hb (Nat.le_refl _))
      have HL := Lib.hid (eb_of HL.out hb (Nat.le_refl _))
      have HK := Lib.hid (HK.out.step hb)
      have HN := Lib.hid (HN.out.below hb)
      clear hb
      have h0 := HK.out.now.1.1.1.1.1.c0
      have h1 := HK.out.now.1.1.1.1.1.c1
      go_wp2_with fail
      clear h0 h1
      refine (no_unpin _ _ HN.out i g).mono ?_
      rintro e w9 ⟨rfl, hb⟩
      have HB := Lib.hid (eb_of HB.out hb (Nat.le_refl _))
      have HL := Lib.hid (eb_of HL.out hb (Nat.le_refl _))
      have HK := Lib.hid (HK.out.step hb)
      have HN := Lib.hid (HN.out.below hb)
      clear hb
      have h0 := HK.out.now.1.1.1.1.1.c0
      have h1 := HK.out.now.1.1.1.1.1.c1
      go_wp2_with fail
      clear h0 h1
      refine (no_shut _ _ HN.out i g).mono ?_
      rintro e w10 ⟨rfl, hb⟩
      have HB := Lib.hid (eb_of HB.out hb (Nat.le_refl _))
      have HL := Lib.hid (eb_of HL.out hb (Nat.le_refl _))
      have HK := Lib.hid (HK.out.step hb)
      have HN := Lib.hid (HN.out.below hb)
      clear hb
      go_wp2_with fail
      go_roundw
      case rel => exact ⟨2, by omega, by go_num, HL.out⟩
      case measure => simp [intOf]
end Go.Proofs.Ytkhajoecoiibgaa.KK
