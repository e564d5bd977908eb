/-
  The walk of BuilderRoom.
-/
import Derived.Test.YtkphadkmmjcmnaaBn
import Derived.Laws.BytesArg
namespace Go.Proofs.Ytkphadkmmjcmnaa.KK
open Go.ChangeShapes Go.WideShapes Go.ChangeAt Go.RowKit Go.Proofs

theorem str_nums (t : List UInt8) : strOfNums (t.map fun c => (c.toNat : Int)) = ⟨t.toArray⟩ := by
  have : (strOfNums (t.map fun c => (c.toNat : Int))).data.toList = t := by
    rw [strOfNums_data, List.map_map]
    conv => rhs; rw [← List.map_id t]
    apply List.map_congr_left
    intro c _
    simp
  rw [← Lib.mk_data (strOfNums _), this]
theorem conv2 (w : World) (m : Int) (c : UInt8) (hm : m = c.toNat) :
    (convert 66 9 (.slice (some ⟨w.heap.size, 0, none⟩) 2 2)).run Try.prog (w.alloc (.cells #[.int .u8 107, .int .u8 m] 5)) = .ok (.string ⟨#[107, c]⟩) (w.alloc (.cells #[.int .u8 107, .int .u8 m] 5)) := by
  subst hm
  have hr := fun i => cell_of_row (w.alloc (.cells #[.int .u8 107, .int .u8 (c.toNat : Int)] 5)) w.heap.size i _ _ _ (heap_alloc_new w _)
  rw [run_convert_bytes_arg _ _ _ Try.underlying66 Try.underlying5 w.heap.size 0 2 2 [107, (c.toNat : Int)] rfl (fun i hi => ?_) _ Try.underlying9]
  · exact congrArg (fun t => Result.ok (Value.string t) _) (str_nums [107, c])
  · have : i = 0 ∨ i = 1 := by omega
    rcases this with rfl | rfl
    · exact hr 0
    · exact hr 1
def rE (d : Bool) (i : Nat) : El.En := (⟨#[107, UInt8.ofNat i]⟩, ⟨#[]⟩, d, (i : Int) + 1)
def rL (d : Bool) (m : Nat) : List El.En := (List.range m).map (rE d)
theorem rL_len (d : Bool) (m : Nat) : (rL d m).length = m := by simp [rL]
theorem rL_succ (d : Bool) (m : Nat) : rL d (m + 1) = rL d m ++ [rE d m] := by simp [rL, List.range_succ]
theorem rL_last (d : Bool) (m : Nat) : lastE (rL d (m + 1)) = rE d m := by
  rw [rL_succ]; unfold lastE; simp
theorem rL_ne (d : Bool) {m : Nat} (h : 0 < m) : rL d m ≠ [] := fun e => by have := rL_len d m; rw [e] at this; simp at this; omega
theorem rE_chk (d : Bool) {i : Nat} (h : i < 60) : El.chk (rE d i) = 0 := El.chk_ok (by show ¬ 32 < 2; omega) (by show ¬ 64 < 0; omega) (fun ⟨_, h⟩ => h rfl) (by omega)
theorem rE_above (d : Bool) {i j : Nat} (h : i < j) (hj : j < 60) : 0 < Kl.ord (Kl.L (rE d j).1) (Kl.L (rE d i).1) := by
  have e : ∀ k, Kl.L (rE d k).1 = [107, UInt8.ofNat k] := fun k => rfl
  rw [e, e, Kl.ord_more 1 [107, UInt8.ofNat j] [107, UInt8.ofNat i] rfl (by simp) (by simp) (by
    simp only [List.getElem_cons_succ, List.getElem_cons_zero]
    rw [UInt8.toNat_ofNat_of_lt' (by show _ < 256; omega), UInt8.toNat_ofNat_of_lt' (by show _ < 256; omega)]; omega)]
  omega
theorem room_add (d : Bool) {room i : Nat} (h : i < room) (hi : i < 60) : addE room (rL d i) (rE d i) = 0 := by
  refine addE_ok (rE_chk d hi) (fun ⟨h1, h2⟩ => h2 ?_) (by rw [rL_len]; omega)
  rcases i with _ | i
  · exact absurd rfl h1
  · rw [rL_last]; exact rE_above d (by omega) hi
theorem room_full (d : Bool) {room i : Nat} (h : room ≤ i) (hr : 0 < room) (hi : i < 60) : addE room (rL d room) (rE d i) = 5 := by
  refine addE_full (rE_chk d hi) (fun ⟨h1, h2⟩ => h2 ?_) (by rw [rL_len]; omega)
  obtain ⟨r, rfl⟩ : ∃ r, room = r + 1 := ⟨room - 1, by omega⟩
  rw [rL_last]; exact rE_above d (by omega) hi
theorem rL_ok (d : Bool) {most m : Nat} (h : m ≤ most) (hm : most ≤ 5000) (h6 : m ≤ 60) : OkL most (rL d m) ∧ GL (rL d m) := by
  refine ⟨⟨by rw [rL_len]; exact h, hm, fun y hy => ?_⟩, ?_⟩
  · obtain ⟨i, hi, rfl⟩ := List.mem_map.1 hy
    exact rE_chk d (by have := List.mem_range.1 hi; omega)
  · induction m with
    | zero => exact GL.nil
    | succ m ih =>
      have := (ih (by omega) (by omega)).add (most := most) hm (rE d m)
      rw [addL, if_pos (room_add d (by omega) (by omega)), ← rL_succ] at this
      exact this
set_option maxRecDepth 100000 in
set_option maxHeartbeats 4000000 in
theorem Room_law (mo ma : Int) (d : Bool) (w : World) (hmo : 0 ≤ mo ∧ mo ≤ 255) (hma : 0 ≤ ma ∧ ma ≤ 255) :
    Calls Try.prog 8 #[.int .u8 mo, .int .u8 ma, .bool d] w fun e w' => e = .returned (.bool true) ∧ Below w.heap.size w w' := by
  have JW := Lib.hid awake_any
  obtain ⟨m, hm, hm1, hm2⟩ : ∃ m : Nat, (m : Int) = mo % 40 + 1 ∧ 1 ≤ m ∧ m ≤ 40 := ⟨(mo % 40 + 1).toNat, by omega, by omega, by omega⟩
  obtain ⟨n, hn, hn2⟩ : ∃ n : Nat, (n : Int) = ma % 60 ∧ n < 60 := ⟨(ma % 60).toNat, by omega, by omega⟩
  have JN := Lib.hid (fun (w1 : World) => New_ok (mo % 40 + 1) m w1 hm.symm hm1 (by omega))
  go_enter Try.func8, Try.ntmps8
  go_wp2_with fail
  refine (JN.out _).mono ?_
  rintro e w1 ⟨M, rfl, hM, hd, hb⟩
  have HB1 := Lib.hid hb
  have HH1 := Lib.hid (Hold.mk hd (Rv.nil w1 w.heap.size) hM hb.size)
  have JR := Lib.hid (Room_open hd (by omega) (by omega))
  clear hb hd
  go_wp2_with fail
  refine JR.out.mono ?_
  rintro e w2 ⟨rfl, hb⟩
  have HB2 := Lib.hid (eb_of HB1.out hb (Nat.le_refl _))
  have HH2 := Lib.hid (HH1.out.below hb)
  clear hb JR HB1 HH1
  go_wp2_with fail
  go_loopw [11] (fun iv wr => ∃ (k : Nat) (v : Value) (wb : Option Nat), k ≤ n ∧ iv = .int .i64 k ∧ Below w.heap.size w wr ∧ Hold w.heap.size M m 1 (rL d (min k m)) wr v wb) (fun iv _ => n - (intOf iv).toNat)
  case atStart => exact ⟨0, _, _, Nat.zero_le _, rfl, HB2.out, by rw [Nat.zero_min]; exact HH2.out⟩
  case round =>
    obtain ⟨k, v, wb, hk, rfl, hb, hh⟩ := hrel
    have HB := Lib.hid hb
    have HH := Lib.hid hh
    clear hb hh HH2 HB2
    by_cases hlt : k < n
    · have hwr : IntKind.u8.wrap (k : Int) = (k : Int) := by simp [IntKind.wrap, IntKind.signed, IntKind.bits]; omega
      have hcv := conv2 wr (k : Int) (UInt8.ofNat k) (by rw [UInt8.toNat_ofNat_of_lt' (by show _ < 256; omega)])
      have hI : (k : Int) < ma % 60 := by omega
      have hb1 := alloc_below wr (.cells #[.int .u8 107, .int .u8 (k : Int)] 5)
      have hb2 := eb_of hb1 (alloc_below (wr.alloc (.cells #[.int .u8 107, .int .u8 (k : Int)] 5)) (.cells #[.string ⟨#[107, UInt8.ofNat k]⟩, .string ⟨#[]⟩, .bool d, .int .i64 ((k : Int) + 1)] 36)) (Nat.le_refl _)
      have HBX := Lib.hid (eb_of HB.out hb2 (Nat.le_refl _))
      have HHX := Lib.hid (HH.out.below hb2)
      have hwb : ∀ g, wb = some g → g < wr.heap.size + 1 := fun g hg => by have := (HH.out.r.wlt g hg).2; omega
      have hMb : M < wr.heap.size + 1 := by have := HH.out.d.lt; omega
      have RX := Row4.new (wr.alloc (.cells #[.int .u8 107, .int .u8 (k : Int)] 5)) 36 (.string ⟨#[107, UInt8.ofNat k]⟩) (.string ⟨#[]⟩) (.bool d) (.int .i64 ((k : Int) + 1))
      have hsx : (wr.alloc (.cells #[.int .u8 107, .int .u8 (k : Int)] 5)).heap.size = wr.heap.size + 1 := by simp
      rw [hsx] at RX
      clear hb1 hb2 hsx
      go_wp2_with fail
      clear hcv
      generalize (wr.alloc (.cells #[.int .u8 107, .int .u8 (k : Int)] 5)).alloc (.cells #[.string ⟨#[107, UInt8.ofNat k]⟩, .string ⟨#[]⟩, .bool d, .int .i64 ((k : Int) + 1)] 36) = wx at *
      generalize wr.heap.size + 1 = bx at *
      have k60 : k < 60 := by omega
      by_cases hkm : k < m
      · have hmin : min k m = k := Nat.min_eq_left (by omega)
        have hI2 : (k : Int) < mo % 40 + 1 := by omega
        rw [hmin] at HHX
        obtain ⟨hok, hgl⟩ := rL_ok d (most := m) (m := k) (by omega) (by omega) (by omega)
        have JA := Lib.hid (Add_any w.heap.size M m v wb (rL d k) (rE d k) wx HHX.out.d HHX.out.r hok HHX.out.s ⟨by show (2 : Nat) ≤ _; omega, by show (0 : Nat) ≤ _; omega⟩)
        rw [room_add d hkm k60, show addL m (rL d k) (rE d k) = rL d (k + 1) by rw [addL, if_pos (room_add d hkm k60), rL_succ]] at JA
        clear hok hgl hmin
        refine JA.out.mono ?_
        rintro e w3 ⟨rfl, ho⟩
        have hb := ho.below hM HHX.out.r HHX.out.s
        have HB3 := Lib.hid (HBX.out.trans hb)
        obtain ⟨v3, wb3, hd3, hr3, hch, -, -⟩ := ho
        have RX3 := (hch.block bx RX.lt (fun hs => by rcases hs with e | e; exact absurd e (by omega); have := hwb bx e.symm; omega)).trans RX
        have RX3 : Row4 w3 bx 36 (.string ⟨#[107, UInt8.ofNat k]⟩) (.string ⟨#[]⟩) (.bool d) (.int .i64 ((k : Int) + 1)) := RX3
        have HH3 := Lib.hid (Hold.mk (xs := rL d (k + 1)) hd3 hr3 hM HB3.out.size)
        clear hd3 hr3 hch hb JA
        obtain ⟨A5, c5, hv5, hcap5, -, hes5⟩ := HH3.out.r.form
        rw [rL_len] at hv5
        have JL := Lib.hid (by have K := HH3.out.d; rw [hv5] at K; exact Last_any (xs := rL d (k + 1)) (by rw [rL_len]; exact K) (by decide) hes5 (by rw [rL_len]; omega))
        rw [if_neg (rL_ne d (by omega)), rL_last] at JL
        unfold valE rE at JL
        simp only at JL
        clear hcap5 hes5
        go_wp2_with fail
        refine JL.out.mono ?_
        rintro e w4 ⟨rfl, hb⟩
        have HB4 := Lib.hid (eb_of HB3.out hb (Nat.le_refl _))
        have RX4 := RX3.below hb (Nat.le_refl _)
        have HH4 := Lib.hid (HH3.out.below hb)
        have RZ := Row4.new w4 36 (.string ⟨#[107, UInt8.ofNat k]⟩) (.string ⟨#[]⟩) (.bool d) (.int .i64 ((k : Int) + 1))
        have hbb := alloc_below w4 (.cells #[.string ⟨#[107, UInt8.ofNat k]⟩, .string ⟨#[]⟩, .bool d, .int .i64 ((k : Int) + 1)] 36)
        have RX5 := RX4.below hbb (Nat.le_refl _)
        have HB5 := Lib.hid (eb_of HB4.out hbb (Nat.le_refl _))
        have HH5 := Lib.hid (HH4.out.below hbb)
        clear hb hbb RX3 RX4 JL
        have x0 := RX5.c0
        have x1 := RX5.c1
        have x2 := RX5.c2
        have x3 := RX5.c3
        have z0 := RZ.c0
        have z1 := RZ.c1
        have z2 := RZ.c2
        have z3 := RZ.c3
        go_wp2_with fail
        generalize w4.alloc (.cells #[.string ⟨#[107, UInt8.ofNat k]⟩, .string ⟨#[]⟩, .bool d, .int .i64 ((k : Int) + 1)] 36) = wz at *
        generalize w4.heap.size = bz at *
        have JN1 := Lib.hid (fun (w' : World) (h : Bd w' M 1 m v3) => by rw [hv5] at h; exact len_any h (by decide) (by omega))
        have JR1 := Lib.hid (fun (w' : World) (h : Bd w' M 1 m v3) => by rw [hv5] at h; exact Room_open h (by omega) (by omega))
        clear hv5 x0 x1 x2 x3 z0 z1 z2 z3
        go_wp2_with fail
        refine (JN1.out _ HH5.out.d).mono ?_
        rintro e w5 ⟨rfl, hb⟩
        have HB6 := Lib.hid (eb_of HB5.out hb (Nat.le_refl _))
        have HH6 := Lib.hid (HH5.out.below hb)
        clear hb
        go_wp2_with fail
        refine (JN1.out _ HH6.out.d).mono ?_
        rintro e w6 ⟨rfl, hb⟩
        have HB7 := Lib.hid (eb_of HB6.out hb (Nat.le_refl _))
        have HH7 := Lib.hid (HH6.out.below hb)
        clear hb
        go_wp2_with fail
        refine (JR1.out _ HH7.out.d).mono ?_
        rintro e w7 ⟨rfl, hb⟩
        have HB8 := Lib.hid (eb_of HB7.out hb (Nat.le_refl _))
        have HH8 := Lib.hid (HH7.out.below hb)
        clear hb
        go_wp2_with fail
        go_roundw
        case rel => exact ⟨k + 1, v3, wb3, by omega, by go_num, HB8.out, by rw [Nat.min_eq_left (by omega)]; exact HH8.out⟩
        case measure => simp [intOf]; omega
      · have hmin : min k m = m := Nat.min_eq_right (by omega)
        obtain ⟨mp, hmp⟩ : ∃ mp, m = mp + 1 := ⟨m - 1, by omega⟩
        have hI2 : ¬ (k : Int) < mo % 40 + 1 := by omega
        have hI3 : (mp : Int) = mo % 40 := by omega
        rw [hmin] at HHX
        obtain ⟨hok, hgl⟩ := rL_ok d (most := m) (m := m) (by omega) (by omega) (by omega)
        have JA := Lib.hid (Add_any w.heap.size M m v wb (rL d m) (rE d k) wx HHX.out.d HHX.out.r hok HHX.out.s ⟨by show (2 : Nat) ≤ _; omega, by show (0 : Nat) ≤ _; omega⟩)
        rw [room_full d (by omega) (by omega) k60, show addL m (rL d m) (rE d k) = rL d m by rw [addL, if_neg (by rw [room_full d (by omega) (by omega) k60]; decide)]] at JA
        clear hok hgl hmin
        refine JA.out.mono ?_
        rintro e w3 ⟨rfl, ho⟩
        have hb := ho.below hM HHX.out.r HHX.out.s
        have HB3 := Lib.hid (HBX.out.trans hb)
        obtain ⟨v3, wb3, hd3, hr3, hch, -, -⟩ := ho
        have RX3 := (hch.block bx RX.lt (fun hs => by rcases hs with e | e; exact absurd e (by omega); have := hwb bx e.symm; omega)).trans RX
        have RX3 : Row4 w3 bx 36 (.string ⟨#[107, UInt8.ofNat k]⟩) (.string ⟨#[]⟩) (.bool d) (.int .i64 ((k : Int) + 1)) := RX3
        have HH3 := Lib.hid (Hold.mk (xs := rL d m) hd3 hr3 hM HB3.out.size)
        clear hd3 hr3 hch hb JA
        obtain ⟨A5, c5, hv5, hcap5, -, hes5⟩ := HH3.out.r.form
        rw [rL_len] at hv5
        have JL := Lib.hid (by have K := HH3.out.d; rw [hv5] at K; exact Last_any (xs := rL d m) (by rw [rL_len]; exact K) (by decide) hes5 (by rw [rL_len]; omega))
        rw [if_neg (rL_ne d (by omega)), show rL d m = rL d (mp + 1) by rw [hmp], rL_last] at JL
        unfold valE rE at JL
        simp only at JL
        rw [hI3] at JL
        clear hI3
        clear hcap5 hes5
        go_wp2_with fail
        refine JL.out.mono ?_
        rintro e w4 ⟨rfl, hb⟩
        have HB4 := Lib.hid (eb_of HB3.out hb (Nat.le_refl _))
        have RX4 := RX3.below hb (Nat.le_refl _)
        have HH4 := Lib.hid (HH3.out.below hb)
        have RZ := Row4.new w4 36 (.string ⟨#[107, UInt8.ofNat mp]⟩) (.string ⟨#[]⟩) (.bool d) (.int .i64 (mo % 40 + 1))
        have hbb := alloc_below w4 (.cells #[.string ⟨#[107, UInt8.ofNat mp]⟩, .string ⟨#[]⟩, .bool d, .int .i64 (mo % 40 + 1)] 36)
        have RX5 := RX4.below hbb (Nat.le_refl _)
        have HB5 := Lib.hid (eb_of HB4.out hbb (Nat.le_refl _))
        have HH5 := Lib.hid (HH4.out.below hbb)
        clear hb hbb RX3 RX4 JL
        have x0 := RX5.c0
        have x1 := RX5.c1
        have x2 := RX5.c2
        have x3 := RX5.c3
        have z0 := RZ.c0
        have z1 := RZ.c1
        have z2 := RZ.c2
        have z3 := RZ.c3
        go_wp2_with fail
        generalize w4.alloc (.cells #[.string ⟨#[107, UInt8.ofNat mp]⟩, .string ⟨#[]⟩, .bool d, .int .i64 (mo % 40 + 1)] 36) = wz at *
        generalize w4.heap.size = bz at *
        have JN1 := Lib.hid (fun (w' : World) (h : Bd w' M 1 m v3) => by rw [hv5] at h; exact len_any h (by decide) (by omega))
        have JR1 := Lib.hid (fun (w' : World) (h : Bd w' M 1 m v3) => by rw [hv5] at h; exact Room_open h (by omega) (by omega))
        clear hv5 x0 x1 x2 x3 z0 z1 z2 z3
        go_wp2_with fail
        refine (JN1.out _ HH5.out.d).mono ?_
        rintro e w5 ⟨rfl, hb⟩
        have HB6 := Lib.hid (eb_of HB5.out hb (Nat.le_refl _))
        have HH6 := Lib.hid (HH5.out.below hb)
        clear hb
        go_wp2_with fail
        refine (JN1.out _ HH6.out.d).mono ?_
        rintro e w6 ⟨rfl, hb⟩
        have HB7 := Lib.hid (eb_of HB6.out hb (Nat.le_refl _))
        have HH7 := Lib.hid (HH6.out.below hb)
        clear hb
        go_wp2_with fail
        refine (JR1.out _ HH7.out.d).mono ?_
        rintro e w7 ⟨rfl, hb⟩
        have HB8 := Lib.hid (eb_of HB7.out hb (Nat.le_refl _))
        have HH8 := Lib.hid (HH7.out.below hb)
        clear hb
        go_wp2_with fail
        go_roundw
        case rel => exact ⟨k + 1, v3, wb3, by omega, by go_num, HB8.out, by rw [Nat.min_eq_right (by omega)]; exact HH8.out⟩
        case measure => simp [intOf]; omega
    · have hkn : k = n := by omega
      subst hkn
      have hq : (min k m : Nat) ≤ m := Nat.min_le_right _ _
      have hq2 : (min k m : Nat) ≤ k := Nat.min_le_left _ _
      obtain ⟨hok, hgl⟩ := rL_ok d (most := m) (m := min k m) hq (by omega) (by omega)
      have hof := hgl.ofE (id := 1)
      rw [if_neg (by omega)] at hof
      have JS := Lib.hid (Seal_any w.heap.size M m v wb (rL d (min k m)) 1 wr HH.out.d HH.out.r hok HH.out.off hok.sized (by omega))
      rcases Nat.eq_zero_or_pos k with h0 | h0
      · have e0 : rL d (min k m) = [] := by rw [h0, Nat.zero_min]; rfl
        rw [if_pos e0] at hof
        have JS : Hid (Calls Try.prog 17 #[.pointer (some ⟨M, 0, none⟩), .int .i64 1] wr fun e w' => ∃ A9 c9, e = .returned (.tuple #[.agg #[.int .i64 0, .slice A9 0 c9], .int .i64 4]) ∧ Below w.heap.size wr w') := Lib.hid (JS.out.mono fun e w' ho => by
          have hb := ho.below hM HH.out.s
          obtain ⟨A9, c9, h1, _⟩ := ho
          rw [(ofE_pos (by rw [hof]; decide)).1, (ofE_pos (by rw [hof]; decide)).2, hof] at h1
          exact ⟨A9, c9, h1, hb⟩)
        clear hok hgl hof hq hq2 e0
        have hma0 : ma % 60 = 0 := by omega
        clear h0 hlt
        go_wp2_with fail
        refine JS.out.mono ?_
        rintro e w2 ⟨A9, c9, rfl, hb⟩
        have hbb := alloc_below w2 (.cells #[.int .i64 0, .slice A9 0 c9] 43)
        have HB2 := Lib.hid ((HB.out.trans hb).trans (hbb.mono (HB.out.trans hb).size))
        have HR := Row2.new w2 43 (.int .i64 0) (.slice A9 0 c9)
        have x1 := HR.c1
        clear hb hbb JS
        go_wp2_with fail
        generalize w2.alloc (.cells #[.int .i64 0, .slice A9 0 c9] 43) = wx at *
        refine (JW.out _).mono ?_
        rintro e w9 ⟨rfl, hb⟩
        go_wp2_with fail
        go_ret
        exact ⟨rfl, eb_of HB2.out hb (Nat.le_refl _)⟩
      · have e0 : rL d (min k m) ≠ [] := rL_ne d (by omega)
        rw [if_neg e0] at hof
        obtain ⟨q, hqm⟩ : ∃ q : Nat, min k m = q := ⟨_, rfl⟩
        have JS : Hid (Calls Try.prog 17 #[.pointer (some ⟨M, 0, none⟩), .int .i64 1] wr fun e w' => ∃ A9 c9, e = .returned (.tuple #[.agg #[.int .i64 1, .slice A9 q c9], .int .i64 0]) ∧ Bd w' M 2 m v ∧ Below w.heap.size wr w') := Lib.hid (JS.out.mono fun e w' ho => by
          have hb := ho.below hM HH.out.s
          obtain ⟨A9, c9, h1, h2, h3, h4, h5, h6, h7⟩ := ho
          rw [(ofE_nil' hof).1, (ofE_nil' hof).2, hof, rL_len, hqm] at h1
          rw [if_pos hof] at h5
          exact ⟨A9, c9, h1, h5, hb⟩)
        have hma0 : (0 : Int) < ma % 60 := by omega
        have hq3 : (q : Int) = if ma % 60 < mo % 40 + 1 then ma % 60 else mo % 40 + 1 := by
          rw [← hqm]; split <;> omega
        clear hok hgl hof hq hq2 e0 hqm
        have hne : (ma % 60 == 0) = false := by rw [beq_eq_false_iff_ne]; omega
        clear h0 hlt
        go_wp2_with fail
        refine JS.out.mono ?_
        rintro e w2 ⟨A9, c9, rfl, hd, hb⟩
        have hbb := alloc_below w2 (.cells #[.int .i64 1, .slice A9 q c9] 43)
        have HB2 := Lib.hid ((HB.out.trans hb).trans (hbb.mono (HB.out.trans hb).size))
        have HD := Lib.hid (hd.below hbb)
        have HR := Row2.new w2 43 (.int .i64 1) (.slice A9 q c9)
        have x1 := HR.c1
        clear hb hbb JS hd
        have HQ := Lib.hid hq3
        clear hq3
        have hmm : (ma % 60 < mo % 40 + 1 ∧ (q : Int) = ma % 60) ∨ (mo % 40 + 1 < ma % 60 ∧ (q : Int) = mo % 40 + 1) ∨ (ma % 60 = mo % 40 + 1 ∧ (q : Int) = mo % 40 + 1) := by
          have := HQ.out
          split at this <;> omega
        clear HQ
        rcases hmm with ⟨hm3, hm4⟩ | ⟨hm3, hm4⟩ | ⟨hm3, hm4⟩
        all_goals
          go_wp2_with fail
          generalize w2.alloc (.cells #[.int .i64 1, .slice A9 q c9] 43) = wx at *
          refine (Room_sealed HD.out).mono ?_
          rintro e w7 ⟨rfl, hb⟩
          have HB7 := Lib.hid (eb_of HB2.out hb (Nat.le_refl _))
          clear hb
          go_wp2_with fail
          refine (JW.out _).mono ?_
          rintro e w9 ⟨rfl, hb⟩
          go_wp2_with fail
          go_ret
          exact ⟨rfl, eb_of HB7.out hb (Nat.le_refl _)⟩
end Go.Proofs.Ytkphadkmmjcmnaa.KK
