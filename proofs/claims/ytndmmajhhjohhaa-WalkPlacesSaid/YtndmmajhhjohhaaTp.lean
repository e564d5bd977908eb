/-
  Walk: the reference's Seek.
-/
import Derived.Test.YtndmmajhhjohhaaTo
namespace Go.Proofs.Ytndmmajhhjohhaa.KK
open Go.ChangeShapes Go.WideShapes Go.ChangeAt Go.RowKit Go.Proofs Go.Sort

theorem bef_next {xs : List El.En} {key : ByteArray} {past : Bool} {i : Nat} (h : i < xs.length) : (xs.take (i + 1)).countP (lowB key past) = (xs.take i).countP (lowB key past) + (if lowB key past xs[i] = true then 1 else 0) := by
  rw [List.take_succ_eq_append_getElem h, List.countP_append]
  congr 1
  simp [List.countP_cons]
set_option maxRecDepth 100000 in
set_option maxHeartbeats 8000000 in
theorem rSeek9_any (id : Int) (B : Option Addr) (d : Nat) (xs : List El.En) (key : ByteArray) (past : Bool) (w : World) (hf : EsAt w B xs) (hn : xs.length ≤ 4294967295) (hs : Sized xs) (hk : key.size ≤ 9223372036854775807) :
    Calls Try.prog 24 #[.agg #[.int .i64 id, .slice B xs.length d], .string key, .bool past] w fun e w' => e = .returned (.tuple #[.agg #[.int .i64 (sekE id xs key past).1], .int .i64 (sekE id xs key past).2]) ∧ Below w.heap.size w w' := by
  obtain ⟨w1, hw1, r0, b0, hsz, hb⟩ := boxUC0 id B xs.length d w
  have J := Lib.hid (fun w2 (h : Below w.heap.size w w2) => rCheck8_any id B d xs w2 (hf.below h (Nat.le_refl _)) hn hs)
  have JK := Lib.hid (fun w2 => rCheck_any key w2 hk)
  have HB := Lib.hid hb
  have RU := Lib.hid r0
  have RZ := Lib.hid b0
  have LZ : Hid (w.heap.size + 1 ≤ w.heap.size + 1) := Lib.hid (Nat.le_refl _)
  have x0 := r0.c0
  have x1 := r0.c1
  have x2 := b0.cell
  clear r0 b0 hb hsz
  by_cases h1 : askR id xs key = 0
  rotate_left
  · have HL := Lib.hid (sekE_no (past := past) h1)
    by_cases h2 : (runE id xs).2 = 0
    · rw [askR_ok h2] at h1 HL
      obtain ⟨n1, n2⟩ := ne_b h1
      rw [h2] at J
      clear hf hs h1 h2
      generalize sekE id xs key past = res at *
      generalize chk1 key.size = r3 at *
      generalize (runE id xs).1 = r1 at *
      generalize xs.length = n at *
      go_enter Try.func24, Try.ntmps24
      go_wp2_with fail
      clear x0 x1 x2
      refine (J.out _ HB.out).mono ?_
      rintro e w1 ⟨rfl, hb⟩
      have HB1 := Lib.hid (eb_of HB.out hb (by first | exact Nat.le_refl _ | exact HB.out.size))
      have RU_1 := Lib.hid (Row2.below RU.out hb (Nat.le_refl _))
      have RZ_1 := Lib.hid (box_below RZ.out hb (Nat.le_refl _))
      clear RU RZ
      clear hb
      have cU0 := RU_1.out.c0
      have cU1 := RU_1.out.c1
      have cZ := RZ_1.out.cell
      have fZ := RZ_1.out.frozen
      go_wp2_with fail
      clear cU0 cU1 cZ fZ
      refine (JK.out _).mono ?_
      rintro e w9 ⟨rfl, rfl⟩
      have cU0 := RU_1.out.c0
      have cU1 := RU_1.out.c1
      have cZ := RZ_1.out.cell
      have fZ := RZ_1.out.frozen
      have HB2 := Lib.hid (HB1.out.setCell (p := ⟨(w.heap.size + 1), 0, none⟩) (by show w.heap.size ≤ (w.heap.size + 1); have := LZ.out; omega) (.int .i64 (0)))
      have RZ_2 := Lib.hid (Boxed.set (.int .i64 (0)) RZ_1.out)
      clear HB1 RZ_1
      go_wp2_with fail
      have z0 := RZ_2.out.cell
      refine bodyPost_ret (v := .tuple #[.agg #[.int .i64 (0)], .int .i64 r3]) (by simp [results, Try.f24, go_sem, z0]) rfl ?_
      exact ⟨by rw [HL.out], HB2.out⟩
    · rw [askR_no h2] at h1 HL
      obtain ⟨n1, n2⟩ := ne_b h1
      clear hf hs h1 h2
      generalize sekE id xs key past = res at *
      generalize (runE id xs).1 = r1 at *
      generalize (runE id xs).2 = r2 at *
      generalize xs.length = n at *
      go_enter Try.func24, Try.ntmps24
      go_wp2_with fail
      clear x0 x1 x2
      refine (J.out _ HB.out).mono ?_
      rintro e w1 ⟨rfl, hb⟩
      have HB1 := Lib.hid (eb_of HB.out hb (by first | exact Nat.le_refl _ | exact HB.out.size))
      have RU_1 := Lib.hid (Row2.below RU.out hb (Nat.le_refl _))
      have RZ_1 := Lib.hid (box_below RZ.out hb (Nat.le_refl _))
      clear RU RZ
      clear hb
      have cU0 := RU_1.out.c0
      have cU1 := RU_1.out.c1
      have cZ := RZ_1.out.cell
      have fZ := RZ_1.out.frozen
      have HB2 := Lib.hid (HB1.out.setCell (p := ⟨(w.heap.size + 1), 0, none⟩) (by show w.heap.size ≤ (w.heap.size + 1); have := LZ.out; omega) (.int .i64 (0)))
      have RZ_2 := Lib.hid (Boxed.set (.int .i64 (0)) RZ_1.out)
      clear HB1 RZ_1
      go_wp2_with fail
      have z0 := RZ_2.out.cell
      refine bodyPost_ret (v := .tuple #[.agg #[.int .i64 (0)], .int .i64 r2]) (by simp [results, Try.f24, go_sem, z0]) rfl ?_
      exact ⟨by rw [HL.out], HB2.out⟩
  obtain ⟨hr, hks⟩ := askR_zero h1
  have hl5 := (run_ok hr).1
  have HL := Lib.hid (sekE_ok (past := past) h1)
  rw [hr] at J
  rw [chk1_ok hks] at JK
  have JO := Lib.hid (fun (x : El.En) (hx : x ∈ xs) w2 => Order_any x.1 key w2 (hs x hx).1 hk)
  have HF := Lib.hid (fun w2 (h : Below w.heap.size w w2) => hf.below h (Nat.le_refl _))
  clear hf hs h1 hr
  generalize sekE id xs key past = res at *
  generalize (runE id xs).1 = r1 at *
  obtain ⟨n, hnn⟩ : ∃ n, xs.length = n := ⟨_, rfl⟩
  rw [hnn] at J hw1 RU x1 hl5 hn ⊢
  have HNN := Lib.hid hnn
  clear hnn
  go_enter Try.func24, Try.ntmps24
  go_wp2_with fail
  clear x0 x1 x2
  refine (J.out _ HB.out).mono ?_
  rintro e w1 ⟨rfl, hb⟩
  have HB1 := Lib.hid (eb_of HB.out hb (by first | exact Nat.le_refl _ | exact HB.out.size))
  have RU_1 := Lib.hid (Row2.below RU.out hb (Nat.le_refl _))
  have RZ_1 := Lib.hid (box_below RZ.out hb (Nat.le_refl _))
  clear RU RZ
  clear hb
  have cU0 := RU_1.out.c0
  have cU1 := RU_1.out.c1
  have cZ := RZ_1.out.cell
  have fZ := RZ_1.out.frozen
  go_wp2_with fail
  clear cU0 cU1 cZ fZ
  refine (JK.out _).mono ?_
  rintro e w9 ⟨rfl, rfl⟩
  go_wp2_with fail
  go_loopw [10, 11, 12] (fun vn vi vo wr => ∃ i cn : Nat, vn = .int .i64 (cn : Int) ∧ vi = .int .i64 (i : Int) ∧ i ≤ n ∧ (xs.take i).countP (lowB key past) = cn ∧ Below w.heap.size w wr ∧ Row2 wr w.heap.size 24 (.int .i64 id) (.slice B n d) ∧ Boxed wr (w.heap.size + 1) 26 (.int .i64 0)) (fun _ vi _ _ => n - (intOf vi).toNat)
  case atStart => exact ⟨0, 0, rfl, rfl, Nat.zero_le _, by simp, HB1.out, RU_1.out, RZ_1.out⟩
  case round =>
    clear HB1 RU_1 RZ_1
    obtain ⟨i, cn, rfl, rfl, hi, hc, hb, hu, hz⟩ := hrel
    have hcn : cn ≤ i := by rw [← hc]; exact Nat.le_trans List.countP_le_length (by rw [List.length_take]; omega)
    have HC := Lib.hid hc
    have HBa := Lib.hid hb
    have RUa := Lib.hid hu
    have RZa := Lib.hid hz
    have cU1 := hu.c1
    have cU0 := hu.c0
    have cZ := hz.cell
    have fZ := hz.frozen
    clear hc hb hu hz
    by_cases hin : i < n
    rotate_left
    · have t2 : ¬ (i : Int) < (n : Int) := by omega
      have HE : Hid (befN xs key past = cn) := Lib.hid (by rw [← HC.out, List.take_of_length_le (by rw [HNN.out]; omega)]; rfl)
      rw [HE.out] at HL
      have HB301 := Lib.hid (HBa.out.setCell (p := ⟨(w.heap.size + 1), 0, none⟩) (by show w.heap.size ≤ (w.heap.size + 1); have := LZ.out; omega) (.int .i64 ((cn : Int))))
      have RZ_301 := Lib.hid (Boxed.set (.int .i64 ((cn : Int))) RZa.out)
      clear HBa RZa
      go_wp2_with fail
      have z0 := RZ_301.out.cell
      refine bodyPost_ret (v := .tuple #[.agg #[.int .i64 ((cn : Int))], .int .i64 0]) (by simp [results, Try.f24, go_sem, z0]) rfl ?_
      exact ⟨by rw [HL.out], HB301.out⟩
    have t2 : (i : Int) < (n : Int) := by omega
    have hix : i < xs.length := by rw [HNN.out]; exact hin
    have HNX := Lib.hid (bef_next (key := key) (past := past) hix)
    rcases HF.out _ HBa.out with h0 | ⟨b, off, rfl, hbl, hc⟩
    · rw [h0] at hix; simp at hix
    have d0 := (hc i hix).1
    have J1 := Lib.hid (fun w2 => JO.out xs[i] (List.getElem_mem hix) w2)
    obtain ⟨⟨xk, xv, xd, xq⟩, hxi⟩ : ∃ y, xs[i] = y := ⟨_, rfl⟩
    rw [hxi] at d0 J1 HNX
    rw [HC.out] at HNX
    simp only at d0 J1
    have hrg := Kl.ord_range (Kl.L xk) (Kl.L key)
    have H1 := Lib.hid (fun (h : Kl.ord (Kl.L xk) (Kl.L key) = -1) => low_lt (x := (xk, xv, xd, xq)) h past)
    have H2 := Lib.hid (fun (h : Kl.ord (Kl.L xk) (Kl.L key) = 0) => low_eq (x := (xk, xv, xd, xq)) h past)
    have H3 := Lib.hid (fun (h : Kl.ord (Kl.L xk) (Kl.L key) = 1) => low_gt (x := (xk, xv, xd, xq)) h past)
    clear hc hxi hix
    generalize Kl.ord (Kl.L xk) (Kl.L key) = o at *
    have ho : o = -1 ∨ o = 0 ∨ o = 1 := by omega
    clear hrg
    rcases ho with rfl | rfl | rfl
    · have HX : Hid ((xs.take (i + 1)).countP (lowB key past) = cn + 1) := Lib.hid (by rw [HNX.out, H1.out rfl]; rfl)
      go_wp2_with fail
      refine (J1.out _).mono ?_
      rintro e w8 ⟨rfl, hb⟩
      have HBb := Lib.hid (eb_of HBa.out hb (by first | exact Nat.le_refl _ | exact HBa.out.size))
      have RUb := Lib.hid (Row2.below RUa.out hb (Nat.le_refl _))
      have RZb := Lib.hid (box_below RZa.out hb (Nat.le_refl _))
      clear hb cU0 cU1 cZ fZ d0
      go_wp2_with fail
      exact ⟨⟨i + 1, cn + 1, by first | rfl | go_num, by first | rfl | go_num, by omega, HX.out, HBb.out, RUb.out, RZb.out⟩, by simp [intOf]; omega⟩
    · cases past with
      | false =>
        have HX : Hid ((xs.take (i + 1)).countP (lowB key false) = cn) := Lib.hid (by rw [HNX.out, H2.out rfl]; rfl)
        go_wp2_with fail
        refine (J1.out _).mono ?_
        rintro e w8 ⟨rfl, hb⟩
        have HBb := Lib.hid (eb_of HBa.out hb (by first | exact Nat.le_refl _ | exact HBa.out.size))
        have RUb := Lib.hid (Row2.below RUa.out hb (Nat.le_refl _))
        have RZb := Lib.hid (box_below RZa.out hb (Nat.le_refl _))
        clear hb cU0 cU1 cZ fZ d0
        go_wp2_with fail
        exact ⟨⟨i + 1, cn, by first | rfl | go_num, by first | rfl | go_num, by omega, HX.out, HBb.out, RUb.out, RZb.out⟩, by simp [intOf]; omega⟩
      | true =>
        have HX : Hid ((xs.take (i + 1)).countP (lowB key true) = cn + 1) := Lib.hid (by rw [HNX.out, H2.out rfl]; rfl)
        go_wp2_with fail
        refine (J1.out _).mono ?_
        rintro e w8 ⟨rfl, hb⟩
        have HBb := Lib.hid (eb_of HBa.out hb (by first | exact Nat.le_refl _ | exact HBa.out.size))
        have RUb := Lib.hid (Row2.below RUa.out hb (Nat.le_refl _))
        have RZb := Lib.hid (box_below RZa.out hb (Nat.le_refl _))
        clear hb cU0 cU1 cZ fZ d0
        go_wp2_with fail
        exact ⟨⟨i + 1, cn + 1, by first | rfl | go_num, by first | rfl | go_num, by omega, HX.out, HBb.out, RUb.out, RZb.out⟩, by simp [intOf]; omega⟩
    · have HX : Hid ((xs.take (i + 1)).countP (lowB key past) = cn) := Lib.hid (by rw [HNX.out, H3.out rfl]; rfl)
      go_wp2_with fail
      refine (J1.out _).mono ?_
      rintro e w8 ⟨rfl, hb⟩
      have HBb := Lib.hid (eb_of HBa.out hb (by first | exact Nat.le_refl _ | exact HBa.out.size))
      have RUb := Lib.hid (Row2.below RUa.out hb (Nat.le_refl _))
      have RZb := Lib.hid (box_below RZa.out hb (Nat.le_refl _))
      clear hb cU0 cU1 cZ fZ d0
      go_wp2_with fail
      exact ⟨⟨i + 1, cn, by first | rfl | go_num, by first | rfl | go_num, by omega, HX.out, HBb.out, RUb.out, RZb.out⟩, by simp [intOf]; omega⟩

end Go.Proofs.Ytndmmajhhjohhaa.KK
