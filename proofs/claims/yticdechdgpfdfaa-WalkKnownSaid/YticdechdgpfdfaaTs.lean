/-
  Walk: the reference's Skip.
-/
import Derived.Test.YticdechdgpfdfaaTn
namespace Go.Proofs.Yticdechdgpfdfaa.KK
open Go.ChangeShapes Go.WideShapes Go.ChangeAt Go.RowKit Go.Proofs Go.Sort

theorem row4_drew {W : World} {B : Nat} {t : TypeId} {a b c d : Value} (h : Row4 W B t a b c d) : Row4 W.drew B t a b c d := h
theorem box_drew {W : World} {B : Nat} {t : TypeId} {a : Value} (h : Boxed W B t a) : Boxed W.drew B t a := h
set_option maxRecDepth 100000 in
set_option maxHeartbeats 16000000 in
theorem rSkip9_f (id : Int) (A : Option Addr) (c : Nat) (xs : List El.En) (m : Nat) (dead : Bool) (w : World) (hf : EsAt w A xs) (hn : xs.length ≤ 4294967295) (hs : Sized xs) (h1 : curE id xs m = 0) :
    Calls Try.prog 31 #[.agg #[.int .i64 id, .slice A xs.length c], .agg #[.int .i64 (m : Int)], .bool dead, .bool false] w (GoOut id xs m false (fun x => x.2.2.1 == dead) w) := by
  obtain ⟨hr, m', hm', hml'⟩ := curE_zero h1
  have hml : m ≤ xs.length := by omega
  have h5 : xs.length ≤ 5000 := (list_ok (run_list hr)).1
  clear hml' hm' m'
  obtain ⟨w0, hw0, r0, b0, r1, b2, hsz, hb⟩ := boxNx id A xs.length c m w
  have J := Lib.hid (fun w2 (h : Below w.heap.size w w2) => by have K := rCur_any id A c xs m w2 (hf.below h (Nat.le_refl _)) hn hs; rw [h1] at K; exact K)
  have JN := Lib.hid (fun (k : Nat) (x : El.En) (j : Nat) w1 (hk : k < xs.length) (hj : k + 1 = j) (he : entR xs k = x) (h : Below w.heap.size w w1) => by
    have K := rNext9_any id A c xs (k : Int) w1 (hf.below h (Nat.le_refl _)) hn hs
    unfold GoOut at K; rw [goE_next hr hk, he, hj] at K; simp only [entV] at K; exact K)
  have JNE := Lib.hid (fun w1 (h : Below w.heap.size w w1) => by
    have K := rNext9_any id A c xs (xs.length : Int) w1 (hf.below h (Nat.le_refl _)) hn hs
    unfold GoOut at K; rw [goE_nend hr] at K; simp only [entV, El.none] at K; exact K)
  have JNA := Lib.hid (fun (k : Nat) w1 (h : Below w.heap.size w w1) => show Calls Try.prog 20 #[.agg #[.int .i64 id, .slice A xs.length c], .agg #[.int .i64 (k : Int)]] w1 fun e w' => ∃ (zk zv : ByteArray) (zd : Bool) (zq zp ze : Int), e = .returned (.tuple #[.agg #[.string zk, .string zv, .bool zd, .int .i64 zq], .agg #[.int .i64 zp], .int .i64 ze]) ∧ Below w1.heap.size w1 w' from
    (rNext9_any id A c xs (k : Int) w1 (hf.below h (Nat.le_refl _)) hn hs).mono fun e w' ⟨he, hb⟩ => ⟨_, _, _, _, _, _, he, hb⟩)
  have JP := Lib.hid (fun (k : Nat) (x : El.En) (j : Nat) w1 (hk : k < xs.length) (hj : k + 1 = j) (he : entR xs k = x) (h : Below w.heap.size w w1) => by
    have K := rPrev9_any id A c xs (j : Int) w1 (hf.below h (Nat.le_refl _)) hn hs
    unfold GoOut at K; rw [← hj, goE_prev hr hk, he, hj] at K; simp only [entV] at K; exact K)
  have JPE := Lib.hid (fun (k : Nat) w1 (hk : k = 0) (h : Below w.heap.size w w1) => by
    have K := rPrev9_any id A c xs (k : Int) w1 (hf.below h (Nat.le_refl _)) hn hs
    have he : goE id xs (k : Int) true (fun _ => true) = (El.none, 0, 12) := by rw [hk]; exact goE_pend hr
    unfold GoOut at K; rw [he] at K; simp only [entV, El.none] at K; exact K)
  have HGH := Lib.hid (fun i hi g hy => skip_hit (q := fun x => x.2.2.1 == dead) (back := false) h1 (i := i) hi g hy)
  have HGM := Lib.hid (fun g => skip_miss (q := fun x => x.2.2.1 == dead) (back := false) h1 g)
  have HSL : Hid ((ahL xs m false).length = ahN xs.length m false) := Lib.hid (ahL_length _ _ _)
  have HAT := Lib.hid (fun j h => ahL_at xs m false j h)
  unfold GoOut
  have HB := Lib.hid hb
  have RU := Lib.hid r0
  have RK := Lib.hid b0
  have RE : Hid (Z4 w0 (w.heap.size + 2) El.none) := Lib.hid r1
  have RZ := Lib.hid b2
  have x0 := r0.c0
  have x1 := r0.c1
  have x2 := b0.cell
  clear hf hs r0 b0 r1 b2 hsz hb h1 hr
  obtain ⟨n, hnn⟩ : ∃ n, xs.length = n := ⟨_, rfl⟩
  rw [hnn] at J JN JNE JNA JP JPE RU hw0 x1 hml h5 hn HSL
  rw [hnn]
  have HNN := Lib.hid hnn
  clear hnn
  go_enter Try.func31, Try.ntmps31
  go_wp2_with fail
  clear x0 x1 x2
  refine (J.out _ HB.out).mono ?_
  rintro e w1 ⟨rfl, hb⟩
  have HB1 := Lib.hid (eb_of HB.out hb (by first | exact Nat.le_refl _ | exact HB.out.size))
  have RU_1 := Lib.hid (Row2.below RU.out hb (Nat.le_refl _))
  have RK_1 := Lib.hid (box_below RK.out hb (Nat.le_refl _))
  have RE_1 := Lib.hid (Row4.below RE.out hb (Nat.le_refl _))
  have RZ_1 := Lib.hid (box_below RZ.out hb (Nat.le_refl _))
  clear RU RK RE RZ
  clear hb
  have cU0 := RU_1.out.c0
  have cU1 := RU_1.out.c1
  have cK := RK_1.out.cell
  have fK := RK_1.out.frozen
  have LT : Hid (w.heap.size + 1 ≤ w1.heap.size) := Lib.hid (by have := RU_1.out.lt; (try simp only [World.size_alloc] at this); omega)
  have DUT : Hid (w.heap.size < w1.heap.size) := Lib.hid (by have := RU_1.out.lt; (try simp only [World.size_alloc] at this); omega)
  have DKT : Hid ((w.heap.size + 1) < w1.heap.size) := Lib.hid (by have := RK_1.out.lt; (try simp only [World.size_alloc] at this); omega)
  have DET : Hid ((w.heap.size + 2) < w1.heap.size) := Lib.hid (by have := RE_1.out.lt; (try simp only [World.size_alloc] at this); omega)
  have DZT : Hid ((w.heap.size + 3) < w1.heap.size) := Lib.hid (by have := RZ_1.out.lt; (try simp only [World.size_alloc] at this); omega)
  have hb := alloc_below w1 (.cells #[.int .i64 (m : Int)] 26)
  have HB2 := Lib.hid (eb_of HB1.out hb (by first | exact Nat.le_refl _ | exact HB1.out.size))
  have RU_2 := Lib.hid (Row2.below RU_1.out hb (Nat.le_refl _))
  have RK_2 := Lib.hid (box_below RK_1.out hb (Nat.le_refl _))
  have RE_2 := Lib.hid (Row4.below RE_1.out hb (Nat.le_refl _))
  have RZ_2 := Lib.hid (box_below RZ_1.out hb (Nat.le_refl _))
  clear HB1 RU_1 RK_1 RE_1 RZ_1
  clear hb
  have RT_2 : Hid (Boxed (w1.alloc (.cells #[.int .i64 (m : Int)] 26)) (w1.heap.size) 26 (.int .i64 (m : Int))) := Lib.hid (heap_alloc_new _ _)
  go_wp2_with fail
  clear cU0 cU1 cK fK
  obtain ⟨bt, hbt⟩ : ∃ b, w1.heap.size = b := ⟨_, rfl⟩
  rw [hbt] at LT DUT DKT DET DZT RT_2 ⊢
  clear hbt
  go_loopw [13, 14, 15] (fun v13 v14 v15 wr => ∃ j p : Nat, p = m + j ∧ j ≤ ahN n m false ∧ (∀ i (hi : i < (ahL xs m false).length), i < j → ((ahL xs m false)[i].1.2.2.1 == dead) = false) ∧ Below w.heap.size w wr ∧ Row2 wr w.heap.size 24 (.int .i64 id) (.slice A n c) ∧ Boxed wr (w.heap.size + 1) 26 (.int .i64 (m : Int)) ∧ Z4 wr (w.heap.size + 2) El.none ∧ Boxed wr (w.heap.size + 3) 26 (.int .i64 0) ∧ Boxed wr bt 26 (.int .i64 (p : Int))) (fun _ _ _ wr => n - (intOf ((wr.cell? ⟨bt, 0, none⟩).getD undef)).toNat)
  case atStart => exact ⟨0, m, by simp, Nat.zero_le _, fun i hi h => absurd h (Nat.not_lt_zero _), HB2.out, RU_2.out, RK_2.out, RE_2.out, RZ_2.out, RT_2.out⟩
  case round =>
    clear HB2 RU_2 RK_2 RE_2 RZ_2 RT_2
    obtain ⟨j, p, hp, hj, hq, hb, hu, hk, he, hz, ht⟩ := hrel
    have HQ := Lib.hid hq
    have HP := Lib.hid hp
    have HPP := Lib.hid hp
    have HBa := Lib.hid hb
    have RUa := Lib.hid hu
    have RKa := Lib.hid hk
    have REa := Lib.hid he
    have RZa := Lib.hid hz
    have RTa := Lib.hid ht
    have cU0 := hu.c0
    have cU1 := hu.c1
    have cK := hk.cell
    have cT := ht.cell
    have fT := ht.frozen
    clear hq hb hu hk he hz
    have hN : ahN n m false = n - m := rfl
    clear HP
    by_cases hjl : j < ahN n m false
    rotate_left
    · have hpz : p = n := by omega
      have hg := HGM.out (fun i hi => HQ.out i hi (by have := HSL.out; omega))
      have HL := Lib.hid hg
      clear hg ht hN hjl hj HQ HGM HGH HAT HSL hp
      subst hpz
      go_wp2_with fail
      clear cU0 cU1 cK cT fT
      refine (JNE.out _ HBa.out).mono ?_
      rintro e w201 ⟨rfl, hb⟩
      have HB201 := Lib.hid (eb_of HBa.out hb (by first | exact Nat.le_refl _ | exact HBa.out.size))
      have RU_201 := Lib.hid (Row2.below RUa.out hb (Nat.le_refl _))
      have RK_201 := Lib.hid (box_below RKa.out hb (Nat.le_refl _))
      have RE_201 := Lib.hid (Row4.below REa.out hb (Nat.le_refl _))
      have RZ_201 := Lib.hid (box_below RZa.out hb (Nat.le_refl _))
      have RT_201 := Lib.hid (box_below RTa.out hb (Nat.le_refl _))
      clear HBa RUa RKa REa RZa RTa
      clear hb
      have LX : Hid (w.heap.size + 1 ≤ w201.heap.size) := Lib.hid (by have := RU_201.out.lt; (try simp only [World.size_alloc] at this); omega)
      have DUX : Hid (w.heap.size < w201.heap.size) := Lib.hid (by have := RU_201.out.lt; (try simp only [World.size_alloc] at this); omega)
      have DKX : Hid ((w.heap.size + 1) < w201.heap.size) := Lib.hid (by have := RK_201.out.lt; (try simp only [World.size_alloc] at this); omega)
      have DEX : Hid ((w.heap.size + 2) < w201.heap.size) := Lib.hid (by have := RE_201.out.lt; (try simp only [World.size_alloc] at this); omega)
      have DZX : Hid ((w.heap.size + 3) < w201.heap.size) := Lib.hid (by have := RZ_201.out.lt; (try simp only [World.size_alloc] at this); omega)
      have DTX : Hid (bt < w201.heap.size) := Lib.hid (by have := RT_201.out.lt; (try simp only [World.size_alloc] at this); omega)
      have hb := alloc_below w201 (.cells #[.string ⟨#[]⟩, .string ⟨#[]⟩, .bool false, .int .i64 0] 34)
      have HB202 := Lib.hid (eb_of HB201.out hb (by first | exact Nat.le_refl _ | exact HB201.out.size))
      have RU_202 := Lib.hid (Row2.below RU_201.out hb (Nat.le_refl _))
      have RK_202 := Lib.hid (box_below RK_201.out hb (Nat.le_refl _))
      have RE_202 := Lib.hid (Row4.below RE_201.out hb (Nat.le_refl _))
      have RZ_202 := Lib.hid (box_below RZ_201.out hb (Nat.le_refl _))
      have RT_202 := Lib.hid (box_below RT_201.out hb (Nat.le_refl _))
      clear HB201 RU_201 RK_201 RE_201 RZ_201 RT_201
      clear hb
      have RX_202 : Hid (Row4 (w201.alloc (.cells #[.string ⟨#[]⟩, .string ⟨#[]⟩, .bool false, .int .i64 0] 34)) (w201.heap.size) 34 (.string ⟨#[]⟩) (.string ⟨#[]⟩) (.bool false) (.int .i64 0)) := Lib.hid (heap_alloc_new _ _)
      have LY : Hid (w.heap.size + 1 ≤ w201.heap.size + 1) := Lib.hid (by have := RU_202.out.lt; (try simp only [World.size_alloc] at this); omega)
      have DUY : Hid (w.heap.size < w201.heap.size + 1) := Lib.hid (by have := RU_202.out.lt; (try simp only [World.size_alloc] at this); omega)
      have DKY : Hid ((w.heap.size + 1) < w201.heap.size + 1) := Lib.hid (by have := RK_202.out.lt; (try simp only [World.size_alloc] at this); omega)
      have DEY : Hid ((w.heap.size + 2) < w201.heap.size + 1) := Lib.hid (by have := RE_202.out.lt; (try simp only [World.size_alloc] at this); omega)
      have DZY : Hid ((w.heap.size + 3) < w201.heap.size + 1) := Lib.hid (by have := RZ_202.out.lt; (try simp only [World.size_alloc] at this); omega)
      have DTY : Hid (bt < w201.heap.size + 1) := Lib.hid (by have := RT_202.out.lt; (try simp only [World.size_alloc] at this); omega)
      have DXY : Hid (w201.heap.size < w201.heap.size + 1) := Lib.hid (by have := RX_202.out.lt; (try simp only [World.size_alloc] at this); omega)
      have hb := alloc_below (w201.alloc (.cells #[.string ⟨#[]⟩, .string ⟨#[]⟩, .bool false, .int .i64 0] 34)) (.cells #[.int .i64 (p : Int)] 26)
      have HB203 := Lib.hid (eb_of HB202.out hb (by first | exact Nat.le_refl _ | exact HB202.out.size))
      have RU_203 := Lib.hid (Row2.below RU_202.out hb (Nat.le_refl _))
      have RK_203 := Lib.hid (box_below RK_202.out hb (Nat.le_refl _))
      have RE_203 := Lib.hid (Row4.below RE_202.out hb (Nat.le_refl _))
      have RZ_203 := Lib.hid (box_below RZ_202.out hb (Nat.le_refl _))
      have RT_203 := Lib.hid (box_below RT_202.out hb (Nat.le_refl _))
      have RX_203 := Lib.hid (Row4.below RX_202.out hb (Nat.le_refl _))
      clear HB202 RU_202 RK_202 RE_202 RZ_202 RT_202 RX_202
      clear hb
      have RY_203 : Hid (Boxed ((w201.alloc (.cells #[.string ⟨#[]⟩, .string ⟨#[]⟩, .bool false, .int .i64 0] 34)).alloc (.cells #[.int .i64 (p : Int)] 26)) (w201.heap.size + 1) 26 (.int .i64 (p : Int))) := Lib.hid (by
        have hq := heap_alloc_new (w201.alloc (.cells #[.string ⟨#[]⟩, .string ⟨#[]⟩, .bool false, .int .i64 0] 34)) (.cells #[.int .i64 (p : Int)] 26)
        simp only [World.size_alloc] at hq
        exact hq)
      have cK := RK_203.out.cell
      have fK := RK_203.out.frozen
      have HO := Lib.hid (out2 RE_203.out RZ_203.out (by omega) (.string ⟨#[]⟩) (.string ⟨#[]⟩) (.bool false) (.int .i64 0) (.int .i64 (m : Int)))
      have y0 := RE_203.out.c0
      have y1 := RE_203.out.c1
      have y2 := RE_203.out.c2
      have y3 := RE_203.out.c3
      have z0 := RE_203.out.fz 0
      have z1 := RE_203.out.fz 1
      have z2 := RE_203.out.fz 2
      have z3 := RE_203.out.fz 3
      have y4 := RZ_203.out.cell
      have z4 := RZ_203.out.frozen
      have hmo : Try.prog.follows .mixedOrders = true := by kernel_rfl
      go_wp2_with fail
      go_region
      all_goals
        go_wp2_with fail
        obtain ⟨k1, k2, k3⟩ := HO.out
        have k4 := below_drew (k3 _ _ HB203.out (by omega) (by omega))
        have k5 := row4_drew k1
        have k6 := box_drew k2
        clear k1 k2 k3
        have c0 := k5.c0
        have c1 := k5.c1
        have c2 := k5.c2
        have c3 := k5.c3
        have c4 := k6.cell
        (try simp only at c0 c1 c2 c3 c4)
        clear k5 k6
        refine bodyPost_ret (v := .tuple #[.agg #[.string ⟨#[]⟩, .string ⟨#[]⟩, .bool false, .int .i64 0], .agg #[.int .i64 (m : Int)], .int .i64 12]) (by simp [results, Try.f31, go_sem, c0, c1, c2, c3, c4]) rfl ?_
        exact ⟨by rw [HL.out]; rfl, k4⟩
    have hix : m + j < n := by omega
    obtain ⟨ix, hixe⟩ : ∃ ix, m + j = ix := ⟨_, rfl⟩
    rw [hixe] at hix
    have hSj : j < (ahL xs m false).length := by have := HSL.out; omega
    obtain ⟨⟨xk, xv, xd, xq⟩, hx⟩ : ∃ y, entR xs ix = y := ⟨_, rfl⟩
    have hA := HAT.out j hSj
    have hA1 : (ahL xs m false)[j].1 = (xk, xv, xd, xq) := by rw [hA]; unfold ahX; simp only [Bool.false_eq_true, if_false]; rw [hixe, hx]
    obtain ⟨p1, hp1⟩ : ∃ p1, p + 1 = p1 := ⟨_, rfl⟩
    have e1 : ix = p := by omega
    have HX := Lib.hid hx
    have HP1 := Lib.hid hp1
    have HIX := Lib.hid hix
    have hpl : ((plcW m false (j + 1) : Nat) : Int) = (p1 : Int) := by unfold plcW; simp only [Bool.false_eq_true, if_false]; omega
    subst e1
    have HJ := Lib.hid hjl
    have HJ2 := Lib.hid hj
    have HN := Lib.hid hN
    clear hx hix hixe hA hjl hj hN hp
    go_wp2_with fail
    clear cU0 cU1 cK cT fT
    refine (JN.out ix (xk, xv, xd, xq) p1 _ HIX.out HP1.out HX.out HBa.out).mono ?_
    rintro e w301 ⟨rfl, hb⟩
    have HB301 := Lib.hid (eb_of HBa.out hb (by first | exact Nat.le_refl _ | exact HBa.out.size))
    have RU_301 := Lib.hid (Row2.below RUa.out hb (Nat.le_refl _))
    have RK_301 := Lib.hid (box_below RKa.out hb (Nat.le_refl _))
    have RE_301 := Lib.hid (Row4.below REa.out hb (Nat.le_refl _))
    have RZ_301 := Lib.hid (box_below RZa.out hb (Nat.le_refl _))
    have RT_301 := Lib.hid (box_below RTa.out hb (Nat.le_refl _))
    clear HBa RUa RKa REa RZa RTa
    clear hb
    have LX : Hid (w.heap.size + 1 ≤ w301.heap.size) := Lib.hid (by have := RU_301.out.lt; (try simp only [World.size_alloc] at this); omega)
    have DUX : Hid (w.heap.size < w301.heap.size) := Lib.hid (by have := RU_301.out.lt; (try simp only [World.size_alloc] at this); omega)
    have DKX : Hid ((w.heap.size + 1) < w301.heap.size) := Lib.hid (by have := RK_301.out.lt; (try simp only [World.size_alloc] at this); omega)
    have DEX : Hid ((w.heap.size + 2) < w301.heap.size) := Lib.hid (by have := RE_301.out.lt; (try simp only [World.size_alloc] at this); omega)
    have DZX : Hid ((w.heap.size + 3) < w301.heap.size) := Lib.hid (by have := RZ_301.out.lt; (try simp only [World.size_alloc] at this); omega)
    have DTX : Hid (bt < w301.heap.size) := Lib.hid (by have := RT_301.out.lt; (try simp only [World.size_alloc] at this); omega)
    have hb := alloc_below w301 (.cells #[.string xk, .string xv, .bool xd, .int .i64 xq] 34)
    have HB302 := Lib.hid (eb_of HB301.out hb (by first | exact Nat.le_refl _ | exact HB301.out.size))
    have RU_302 := Lib.hid (Row2.below RU_301.out hb (Nat.le_refl _))
    have RK_302 := Lib.hid (box_below RK_301.out hb (Nat.le_refl _))
    have RE_302 := Lib.hid (Row4.below RE_301.out hb (Nat.le_refl _))
    have RZ_302 := Lib.hid (box_below RZ_301.out hb (Nat.le_refl _))
    have RT_302 := Lib.hid (box_below RT_301.out hb (Nat.le_refl _))
    clear HB301 RU_301 RK_301 RE_301 RZ_301 RT_301
    clear hb
    have RX_302 : Hid (Row4 (w301.alloc (.cells #[.string xk, .string xv, .bool xd, .int .i64 xq] 34)) (w301.heap.size) 34 (.string xk) (.string xv) (.bool xd) (.int .i64 xq)) := Lib.hid (heap_alloc_new _ _)
    have LY : Hid (w.heap.size + 1 ≤ w301.heap.size + 1) := Lib.hid (by have := RU_302.out.lt; (try simp only [World.size_alloc] at this); omega)
    have DUY : Hid (w.heap.size < w301.heap.size + 1) := Lib.hid (by have := RU_302.out.lt; (try simp only [World.size_alloc] at this); omega)
    have DKY : Hid ((w.heap.size + 1) < w301.heap.size + 1) := Lib.hid (by have := RK_302.out.lt; (try simp only [World.size_alloc] at this); omega)
    have DEY : Hid ((w.heap.size + 2) < w301.heap.size + 1) := Lib.hid (by have := RE_302.out.lt; (try simp only [World.size_alloc] at this); omega)
    have DZY : Hid ((w.heap.size + 3) < w301.heap.size + 1) := Lib.hid (by have := RZ_302.out.lt; (try simp only [World.size_alloc] at this); omega)
    have DTY : Hid (bt < w301.heap.size + 1) := Lib.hid (by have := RT_302.out.lt; (try simp only [World.size_alloc] at this); omega)
    have DXY : Hid (w301.heap.size < w301.heap.size + 1) := Lib.hid (by have := RX_302.out.lt; (try simp only [World.size_alloc] at this); omega)
    have hb := alloc_below (w301.alloc (.cells #[.string xk, .string xv, .bool xd, .int .i64 xq] 34)) (.cells #[.int .i64 (p1 : Int)] 26)
    have HB303 := Lib.hid (eb_of HB302.out hb (by first | exact Nat.le_refl _ | exact HB302.out.size))
    have RU_303 := Lib.hid (Row2.below RU_302.out hb (Nat.le_refl _))
    have RK_303 := Lib.hid (box_below RK_302.out hb (Nat.le_refl _))
    have RE_303 := Lib.hid (Row4.below RE_302.out hb (Nat.le_refl _))
    have RZ_303 := Lib.hid (box_below RZ_302.out hb (Nat.le_refl _))
    have RT_303 := Lib.hid (box_below RT_302.out hb (Nat.le_refl _))
    have RX_303 := Lib.hid (Row4.below RX_302.out hb (Nat.le_refl _))
    clear HB302 RU_302 RK_302 RE_302 RZ_302 RT_302 RX_302
    clear hb
    have RY_303 : Hid (Boxed ((w301.alloc (.cells #[.string xk, .string xv, .bool xd, .int .i64 xq] 34)).alloc (.cells #[.int .i64 (p1 : Int)] 26)) (w301.heap.size + 1) 26 (.int .i64 (p1 : Int))) := Lib.hid (by
      have hq := heap_alloc_new (w301.alloc (.cells #[.string xk, .string xv, .bool xd, .int .i64 xq] 34)) (.cells #[.int .i64 (p1 : Int)] 26)
      simp only [World.size_alloc] at hq
      exact hq)
    have cK := RK_303.out.cell
    have fK := RK_303.out.frozen
    have cX0 := RX_303.out.c0
    have cX1 := RX_303.out.c1
    have cX2 := RX_303.out.c2
    have cX3 := RX_303.out.c3
    have cY := RY_303.out.cell
    have fY := RY_303.out.frozen
    have cT := RT_303.out.cell
    have fT := RT_303.out.frozen
    by_cases hd : xd = dead
    rotate_left
    · have t4 : (xd == dead) = false := by rw [beq_eq_false_iff_ne]; exact hd
      have HNX : Hid (∀ i (hi : i < (ahL xs m false).length), i < j + 1 → ((ahL xs m false)[i].1.2.2.1 == dead) = false) := Lib.hid (fun i hi h => by
        rcases Nat.lt_or_ge i j with h' | h'
        · exact HQ.out i hi h'
        · have : i = j := by omega
          subst this; rw [hA1]; exact t4)
      clear hd hA1
      have HB304 := Lib.hid (HB303.out.setCell (p := ⟨bt, 0, none⟩) (by show w.heap.size ≤ bt; have := LT.out; omega) (.int .i64 (p1 : Int)))
      have RU_304 := Lib.hid (off2 (g := bt) (o := 0) RU_303.out (by have := DUT.out; omega) (.int .i64 (p1 : Int)))
      have RK_304 := Lib.hid (off1 (g := bt) (o := 0) RK_303.out (by have := DKT.out; omega) (.int .i64 (p1 : Int)))
      have RE_304 := Lib.hid (off4 (g := bt) (o := 0) RE_303.out (by have := DET.out; omega) (.int .i64 (p1 : Int)))
      have RZ_304 := Lib.hid (off1 (g := bt) (o := 0) RZ_303.out (by have := DZT.out; omega) (.int .i64 (p1 : Int)))
      have RT_304 := Lib.hid (Boxed.set (.int .i64 (p1 : Int)) RT_303.out)
      clear HB303 RU_303 RK_303 RE_303 RZ_303 RT_303
      go_wp2_with fail
      refine ⟨⟨j + 1, p1, by have := HPP.out; have := HP1.out; omega, by have := HJ.out; omega, HNX.out, HB304.out, RU_304.out, RK_304.out, RE_304.out, RZ_304.out, RT_304.out⟩, ?_⟩
      have ce := RT_304.out.cell
      have ct := ht.cell
      rw [ce, ct]
      have h1 := HP1.out
      have h2 := HIX.out
      have h3 := HPP.out
      simp [intOf]
      omega
    subst hd
    have t4 : (xd == xd) = true := by simp
    have hg := HGH.out j hSj (fun i hi h => HQ.out i hi h) (by rw [hA1]; exact t4)
    rw [hA1, hpl] at hg
    have HL := Lib.hid hg
    clear hg hA1 hpl
    have q1 := DEY.out
    have q2 := DZY.out
    have q3 := DEX.out
    have q4 := DZX.out
    have na0 : ¬ ((w301.heap.size + 1) = w.heap.size + 1 + 1) := by omega
    have nb0 : ¬ (w.heap.size + 1 + 1 = (w301.heap.size + 1)) := by omega
    have na1 : ¬ ((w301.heap.size + 1) = w.heap.size + 2) := by omega
    have nb1 : ¬ (w.heap.size + 2 = (w301.heap.size + 1)) := by omega
    have na2 : ¬ (w301.heap.size = w.heap.size + 1) := by omega
    have nb2 : ¬ (w.heap.size + 1 = w301.heap.size) := by omega
    have na3 : ¬ ((w301.heap.size + 1) = w.heap.size + 1 + 1 + 1) := by omega
    have nb3 : ¬ (w.heap.size + 1 + 1 + 1 = (w301.heap.size + 1)) := by omega
    have na4 : ¬ ((w301.heap.size + 1) = w.heap.size + 3) := by omega
    have nb4 : ¬ (w.heap.size + 3 = (w301.heap.size + 1)) := by omega
    have na5 : ¬ (w301.heap.size = w.heap.size + 1 + 1) := by omega
    have nb5 : ¬ (w.heap.size + 1 + 1 = w301.heap.size) := by omega
    have na6 : ¬ (w301.heap.size = w.heap.size + 2) := by omega
    have nb6 : ¬ (w.heap.size + 2 = w301.heap.size) := by omega
    clear q1 q2 q3 q4
    have HO := Lib.hid (out2 RE_303.out RZ_303.out (by omega) (.string xk) (.string xv) (.bool xd) (.int .i64 xq) (.int .i64 (p1 : Int)))
    have y0 := RE_303.out.c0
    have y1 := RE_303.out.c1
    have y2 := RE_303.out.c2
    have y3 := RE_303.out.c3
    have z0 := RE_303.out.fz 0
    have z1 := RE_303.out.fz 1
    have z2 := RE_303.out.fz 2
    have z3 := RE_303.out.fz 3
    have y4 := RZ_303.out.cell
    have z4 := RZ_303.out.frozen
    have hmo : Try.prog.follows .mixedOrders = true := by kernel_rfl
    go_wp2_with fail
    go_region
    all_goals
      go_wp2_with fail
      obtain ⟨k1, k2, k3⟩ := HO.out
      have k4 := below_drew (k3 _ _ HB303.out (by omega) (by omega))
      have k5 := row4_drew k1
      have k6 := box_drew k2
      clear k1 k2 k3
      have c0 := k5.c0
      have c1 := k5.c1
      have c2 := k5.c2
      have c3 := k5.c3
      have c4 := k6.cell
      (try simp only at c0 c1 c2 c3 c4)
      clear k5 k6
      refine bodyPost_ret (v := .tuple #[.agg #[.string xk, .string xv, .bool xd, .int .i64 xq], .agg #[.int .i64 (p1 : Int)], .int .i64 0]) (by simp [results, Try.f31, go_sem, c0, c1, c2, c3, c4]) rfl ?_
      exact ⟨by rw [HL.out]; rfl, k4⟩
set_option maxRecDepth 100000 in
set_option maxHeartbeats 16000000 in
theorem rSkip9_b (id : Int) (A : Option Addr) (c : Nat) (xs : List El.En) (m : Nat) (dead : Bool) (w : World) (hf : EsAt w A xs) (hn : xs.length ≤ 4294967295) (hs : Sized xs) (h1 : curE id xs m = 0) :
    Calls Try.prog 31 #[.agg #[.int .i64 id, .slice A xs.length c], .agg #[.int .i64 (m : Int)], .bool dead, .bool true] w (GoOut id xs m true (fun x => x.2.2.1 == dead) w) := by
  obtain ⟨hr, m', hm', hml'⟩ := curE_zero h1
  have hml : m ≤ xs.length := by omega
  have h5 : xs.length ≤ 5000 := (list_ok (run_list hr)).1
  clear hml' hm' m'
  obtain ⟨w0, hw0, r0, b0, r1, b2, hsz, hb⟩ := boxNx id A xs.length c m w
  have J := Lib.hid (fun w2 (h : Below w.heap.size w w2) => by have K := rCur_any id A c xs m w2 (hf.below h (Nat.le_refl _)) hn hs; rw [h1] at K; exact K)
  have JN := Lib.hid (fun (k : Nat) (x : El.En) (j : Nat) w1 (hk : k < xs.length) (hj : k + 1 = j) (he : entR xs k = x) (h : Below w.heap.size w w1) => by
    have K := rNext9_any id A c xs (k : Int) w1 (hf.below h (Nat.le_refl _)) hn hs
    unfold GoOut at K; rw [goE_next hr hk, he, hj] at K; simp only [entV] at K; exact K)
  have JNE := Lib.hid (fun w1 (h : Below w.heap.size w w1) => by
    have K := rNext9_any id A c xs (xs.length : Int) w1 (hf.below h (Nat.le_refl _)) hn hs
    unfold GoOut at K; rw [goE_nend hr] at K; simp only [entV, El.none] at K; exact K)
  have JNA := Lib.hid (fun (k : Nat) w1 (h : Below w.heap.size w w1) => show Calls Try.prog 20 #[.agg #[.int .i64 id, .slice A xs.length c], .agg #[.int .i64 (k : Int)]] w1 fun e w' => ∃ (zk zv : ByteArray) (zd : Bool) (zq zp ze : Int), e = .returned (.tuple #[.agg #[.string zk, .string zv, .bool zd, .int .i64 zq], .agg #[.int .i64 zp], .int .i64 ze]) ∧ Below w1.heap.size w1 w' from
    (rNext9_any id A c xs (k : Int) w1 (hf.below h (Nat.le_refl _)) hn hs).mono fun e w' ⟨he, hb⟩ => ⟨_, _, _, _, _, _, he, hb⟩)
  have JP := Lib.hid (fun (k : Nat) (x : El.En) (j : Nat) w1 (hk : k < xs.length) (hj : k + 1 = j) (he : entR xs k = x) (h : Below w.heap.size w w1) => by
    have K := rPrev9_any id A c xs (j : Int) w1 (hf.below h (Nat.le_refl _)) hn hs
    unfold GoOut at K; rw [← hj, goE_prev hr hk, he, hj] at K; simp only [entV] at K; exact K)
  have JPE := Lib.hid (fun (k : Nat) w1 (hk : k = 0) (h : Below w.heap.size w w1) => by
    have K := rPrev9_any id A c xs (k : Int) w1 (hf.below h (Nat.le_refl _)) hn hs
    have he : goE id xs (k : Int) true (fun _ => true) = (El.none, 0, 12) := by rw [hk]; exact goE_pend hr
    unfold GoOut at K; rw [he] at K; simp only [entV, El.none] at K; exact K)
  have HGH := Lib.hid (fun i hi g hy => skip_hit (q := fun x => x.2.2.1 == dead) (back := true) h1 (i := i) hi g hy)
  have HGM := Lib.hid (fun g => skip_miss (q := fun x => x.2.2.1 == dead) (back := true) h1 g)
  have HSL : Hid ((ahL xs m true).length = ahN xs.length m true) := Lib.hid (ahL_length _ _ _)
  have HAT := Lib.hid (fun j h => ahL_at xs m true j h)
  unfold GoOut
  have HB := Lib.hid hb
  have RU := Lib.hid r0
  have RK := Lib.hid b0
  have RE : Hid (Z4 w0 (w.heap.size + 2) El.none) := Lib.hid r1
  have RZ := Lib.hid b2
  have x0 := r0.c0
  have x1 := r0.c1
  have x2 := b0.cell
  clear hf hs r0 b0 r1 b2 hsz hb h1 hr
  obtain ⟨n, hnn⟩ : ∃ n, xs.length = n := ⟨_, rfl⟩
  rw [hnn] at J JN JNE JNA JP JPE RU hw0 x1 hml h5 hn HSL
  rw [hnn]
  have HNN := Lib.hid hnn
  clear hnn
  go_enter Try.func31, Try.ntmps31
  go_wp2_with fail
  clear x0 x1 x2
  refine (J.out _ HB.out).mono ?_
  rintro e w1 ⟨rfl, hb⟩
  have HB1 := Lib.hid (eb_of HB.out hb (by first | exact Nat.le_refl _ | exact HB.out.size))
  have RU_1 := Lib.hid (Row2.below RU.out hb (Nat.le_refl _))
  have RK_1 := Lib.hid (box_below RK.out hb (Nat.le_refl _))
  have RE_1 := Lib.hid (Row4.below RE.out hb (Nat.le_refl _))
  have RZ_1 := Lib.hid (box_below RZ.out hb (Nat.le_refl _))
  clear RU RK RE RZ
  clear hb
  have cU0 := RU_1.out.c0
  have cU1 := RU_1.out.c1
  have cK := RK_1.out.cell
  have fK := RK_1.out.frozen
  have LT : Hid (w.heap.size + 1 ≤ w1.heap.size) := Lib.hid (by have := RU_1.out.lt; (try simp only [World.size_alloc] at this); omega)
  have DUT : Hid (w.heap.size < w1.heap.size) := Lib.hid (by have := RU_1.out.lt; (try simp only [World.size_alloc] at this); omega)
  have DKT : Hid ((w.heap.size + 1) < w1.heap.size) := Lib.hid (by have := RK_1.out.lt; (try simp only [World.size_alloc] at this); omega)
  have DET : Hid ((w.heap.size + 2) < w1.heap.size) := Lib.hid (by have := RE_1.out.lt; (try simp only [World.size_alloc] at this); omega)
  have DZT : Hid ((w.heap.size + 3) < w1.heap.size) := Lib.hid (by have := RZ_1.out.lt; (try simp only [World.size_alloc] at this); omega)
  have hb := alloc_below w1 (.cells #[.int .i64 (m : Int)] 26)
  have HB2 := Lib.hid (eb_of HB1.out hb (by first | exact Nat.le_refl _ | exact HB1.out.size))
  have RU_2 := Lib.hid (Row2.below RU_1.out hb (Nat.le_refl _))
  have RK_2 := Lib.hid (box_below RK_1.out hb (Nat.le_refl _))
  have RE_2 := Lib.hid (Row4.below RE_1.out hb (Nat.le_refl _))
  have RZ_2 := Lib.hid (box_below RZ_1.out hb (Nat.le_refl _))
  clear HB1 RU_1 RK_1 RE_1 RZ_1
  clear hb
  have RT_2 : Hid (Boxed (w1.alloc (.cells #[.int .i64 (m : Int)] 26)) (w1.heap.size) 26 (.int .i64 (m : Int))) := Lib.hid (heap_alloc_new _ _)
  go_wp2_with fail
  clear cU0 cU1 cK fK
  obtain ⟨bt, hbt⟩ : ∃ b, w1.heap.size = b := ⟨_, rfl⟩
  rw [hbt] at LT DUT DKT DET DZT RT_2 ⊢
  clear hbt
  go_loopw [13, 14, 15] (fun v13 v14 v15 wr => ∃ j p : Nat, p = m - j ∧ j ≤ ahN n m true ∧ (∀ i (hi : i < (ahL xs m true).length), i < j → ((ahL xs m true)[i].1.2.2.1 == dead) = false) ∧ Below w.heap.size w wr ∧ Row2 wr w.heap.size 24 (.int .i64 id) (.slice A n c) ∧ Boxed wr (w.heap.size + 1) 26 (.int .i64 (m : Int)) ∧ Z4 wr (w.heap.size + 2) El.none ∧ Boxed wr (w.heap.size + 3) 26 (.int .i64 0) ∧ Boxed wr bt 26 (.int .i64 (p : Int))) (fun _ _ _ wr => (intOf ((wr.cell? ⟨bt, 0, none⟩).getD undef)).toNat)
  case atStart => exact ⟨0, m, by simp, Nat.zero_le _, fun i hi h => absurd h (Nat.not_lt_zero _), HB2.out, RU_2.out, RK_2.out, RE_2.out, RZ_2.out, RT_2.out⟩
  case round =>
    clear HB2 RU_2 RK_2 RE_2 RZ_2 RT_2
    obtain ⟨j, p, hp, hj, hq, hb, hu, hk, he, hz, ht⟩ := hrel
    have HQ := Lib.hid hq
    have HP := Lib.hid hp
    have HPP := Lib.hid hp
    have HBa := Lib.hid hb
    have RUa := Lib.hid hu
    have RKa := Lib.hid hk
    have REa := Lib.hid he
    have RZa := Lib.hid hz
    have RTa := Lib.hid ht
    have cU0 := hu.c0
    have cU1 := hu.c1
    have cK := hk.cell
    have cT := ht.cell
    have fT := ht.frozen
    clear hq hb hu hk he hz
    have hN : ahN n m true = m := rfl
    clear HP
    by_cases hjl : j < ahN n m true
    rotate_left
    · have hpz : p = 0 := by omega
      have hg := HGM.out (fun i hi => HQ.out i hi (by have := HSL.out; omega))
      have HL := Lib.hid hg
      clear hg ht hN hjl hj HQ HGM HGH HAT HSL hp
      have HPZ := Lib.hid hpz
      clear hpz
      go_wp2_with fail
      clear cU0 cU1 cK cT fT
      refine (JNA.out p _ HBa.out).mono ?_
      rintro e w201 ⟨zk, zv, zd, zq, zp, ze, rfl, hb⟩
      have HB201 := Lib.hid (eb_of HBa.out hb (by first | exact Nat.le_refl _ | exact HBa.out.size))
      have RU_201 := Lib.hid (Row2.below RUa.out hb (Nat.le_refl _))
      have RK_201 := Lib.hid (box_below RKa.out hb (Nat.le_refl _))
      have RE_201 := Lib.hid (Row4.below REa.out hb (Nat.le_refl _))
      have RZ_201 := Lib.hid (box_below RZa.out hb (Nat.le_refl _))
      have RT_201 := Lib.hid (box_below RTa.out hb (Nat.le_refl _))
      clear HBa RUa RKa REa RZa RTa
      clear hb
      have LX : Hid (w.heap.size + 1 ≤ w201.heap.size) := Lib.hid (by have := RU_201.out.lt; (try simp only [World.size_alloc] at this); omega)
      have DUX : Hid (w.heap.size < w201.heap.size) := Lib.hid (by have := RU_201.out.lt; (try simp only [World.size_alloc] at this); omega)
      have DKX : Hid ((w.heap.size + 1) < w201.heap.size) := Lib.hid (by have := RK_201.out.lt; (try simp only [World.size_alloc] at this); omega)
      have DEX : Hid ((w.heap.size + 2) < w201.heap.size) := Lib.hid (by have := RE_201.out.lt; (try simp only [World.size_alloc] at this); omega)
      have DZX : Hid ((w.heap.size + 3) < w201.heap.size) := Lib.hid (by have := RZ_201.out.lt; (try simp only [World.size_alloc] at this); omega)
      have DTX : Hid (bt < w201.heap.size) := Lib.hid (by have := RT_201.out.lt; (try simp only [World.size_alloc] at this); omega)
      have hb := alloc_below w201 (.cells #[.string zk, .string zv, .bool zd, .int .i64 zq] 34)
      have HB202 := Lib.hid (eb_of HB201.out hb (by first | exact Nat.le_refl _ | exact HB201.out.size))
      have RU_202 := Lib.hid (Row2.below RU_201.out hb (Nat.le_refl _))
      have RK_202 := Lib.hid (box_below RK_201.out hb (Nat.le_refl _))
      have RE_202 := Lib.hid (Row4.below RE_201.out hb (Nat.le_refl _))
      have RZ_202 := Lib.hid (box_below RZ_201.out hb (Nat.le_refl _))
      have RT_202 := Lib.hid (box_below RT_201.out hb (Nat.le_refl _))
      clear HB201 RU_201 RK_201 RE_201 RZ_201 RT_201
      clear hb
      have RX_202 : Hid (Row4 (w201.alloc (.cells #[.string zk, .string zv, .bool zd, .int .i64 zq] 34)) (w201.heap.size) 34 (.string zk) (.string zv) (.bool zd) (.int .i64 zq)) := Lib.hid (heap_alloc_new _ _)
      have LY : Hid (w.heap.size + 1 ≤ w201.heap.size + 1) := Lib.hid (by have := RU_202.out.lt; (try simp only [World.size_alloc] at this); omega)
      have DUY : Hid (w.heap.size < w201.heap.size + 1) := Lib.hid (by have := RU_202.out.lt; (try simp only [World.size_alloc] at this); omega)
      have DKY : Hid ((w.heap.size + 1) < w201.heap.size + 1) := Lib.hid (by have := RK_202.out.lt; (try simp only [World.size_alloc] at this); omega)
      have DEY : Hid ((w.heap.size + 2) < w201.heap.size + 1) := Lib.hid (by have := RE_202.out.lt; (try simp only [World.size_alloc] at this); omega)
      have DZY : Hid ((w.heap.size + 3) < w201.heap.size + 1) := Lib.hid (by have := RZ_202.out.lt; (try simp only [World.size_alloc] at this); omega)
      have DTY : Hid (bt < w201.heap.size + 1) := Lib.hid (by have := RT_202.out.lt; (try simp only [World.size_alloc] at this); omega)
      have DXY : Hid (w201.heap.size < w201.heap.size + 1) := Lib.hid (by have := RX_202.out.lt; (try simp only [World.size_alloc] at this); omega)
      have hb := alloc_below (w201.alloc (.cells #[.string zk, .string zv, .bool zd, .int .i64 zq] 34)) (.cells #[.int .i64 zp] 26)
      have HB203 := Lib.hid (eb_of HB202.out hb (by first | exact Nat.le_refl _ | exact HB202.out.size))
      have RU_203 := Lib.hid (Row2.below RU_202.out hb (Nat.le_refl _))
      have RK_203 := Lib.hid (box_below RK_202.out hb (Nat.le_refl _))
      have RE_203 := Lib.hid (Row4.below RE_202.out hb (Nat.le_refl _))
      have RZ_203 := Lib.hid (box_below RZ_202.out hb (Nat.le_refl _))
      have RT_203 := Lib.hid (box_below RT_202.out hb (Nat.le_refl _))
      have RX_203 := Lib.hid (Row4.below RX_202.out hb (Nat.le_refl _))
      clear HB202 RU_202 RK_202 RE_202 RZ_202 RT_202 RX_202
      clear hb
      have RY_203 : Hid (Boxed ((w201.alloc (.cells #[.string zk, .string zv, .bool zd, .int .i64 zq] 34)).alloc (.cells #[.int .i64 zp] 26)) (w201.heap.size + 1) 26 (.int .i64 zp)) := Lib.hid (by
        have hq := heap_alloc_new (w201.alloc (.cells #[.string zk, .string zv, .bool zd, .int .i64 zq] 34)) (.cells #[.int .i64 zp] 26)
        simp only [World.size_alloc] at hq
        exact hq)
      have cU0 := RU_203.out.c0
      have cU1 := RU_203.out.c1
      have cK := RK_203.out.cell
      have fK := RK_203.out.frozen
      have cT := RT_203.out.cell
      have fT := RT_203.out.frozen
      go_wp2_with fail
      clear cU0 cU1 cK fK cT fT
      refine (JPE.out p _ HPZ.out HB203.out).mono ?_
      rintro e w204 ⟨rfl, hb⟩
      have HB204 := Lib.hid (eb_of HB203.out hb (by first | exact Nat.le_refl _ | exact HB203.out.size))
      have RU_204 := Lib.hid (Row2.below RU_203.out hb (Nat.le_refl _))
      have RK_204 := Lib.hid (box_below RK_203.out hb (Nat.le_refl _))
      have RE_204 := Lib.hid (Row4.below RE_203.out hb (Nat.le_refl _))
      have RZ_204 := Lib.hid (box_below RZ_203.out hb (Nat.le_refl _))
      have RT_204 := Lib.hid (box_below RT_203.out hb (Nat.le_refl _))
      have RX_204 := Lib.hid (Row4.below RX_203.out hb (Nat.le_refl _))
      have RY_204 := Lib.hid (box_below RY_203.out hb (Nat.le_refl _))
      clear HB203 RU_203 RK_203 RE_203 RZ_203 RT_203 RX_203 RY_203
      clear hb
      have cX0 := RX_204.out.c0
      have cX1 := RX_204.out.c1
      have cX2 := RX_204.out.c2
      have cX3 := RX_204.out.c3
      have cY := RY_204.out.cell
      have fY := RY_204.out.frozen
      have fX0 := RX_204.out.fz 0
      have fX1 := RX_204.out.fz 1
      have fX2 := RX_204.out.fz 2
      have fX3 := RX_204.out.fz 3
      have HB205 := Lib.hid ((((HB204.out.setCell (p := ⟨w201.heap.size, 0, none⟩) (by show w.heap.size ≤ w201.heap.size; have := LX.out; omega) (.string ⟨#[]⟩)).setCell (p := ⟨w201.heap.size, 1, none⟩) (by show w.heap.size ≤ w201.heap.size; have := LX.out; omega) (.string ⟨#[]⟩)).setCell (p := ⟨w201.heap.size, 2, none⟩) (by show w.heap.size ≤ w201.heap.size; have := LX.out; omega) (.bool false)).setCell (p := ⟨w201.heap.size, 3, none⟩) (by show w.heap.size ≤ w201.heap.size; have := LX.out; omega) (.int .i64 0))
      have RU_205 := Lib.hid (off2 (g := w201.heap.size) (o := 3) (off2 (g := w201.heap.size) (o := 2) (off2 (g := w201.heap.size) (o := 1) (off2 (g := w201.heap.size) (o := 0) RU_204.out (by have := DUX.out; omega) (.string ⟨#[]⟩)) (by have := DUX.out; omega) (.string ⟨#[]⟩)) (by have := DUX.out; omega) (.bool false)) (by have := DUX.out; omega) (.int .i64 0))
      have RK_205 := Lib.hid (off1 (g := w201.heap.size) (o := 3) (off1 (g := w201.heap.size) (o := 2) (off1 (g := w201.heap.size) (o := 1) (off1 (g := w201.heap.size) (o := 0) RK_204.out (by have := DKX.out; omega) (.string ⟨#[]⟩)) (by have := DKX.out; omega) (.string ⟨#[]⟩)) (by have := DKX.out; omega) (.bool false)) (by have := DKX.out; omega) (.int .i64 0))
      have RE_205 := Lib.hid (off4 (g := w201.heap.size) (o := 3) (off4 (g := w201.heap.size) (o := 2) (off4 (g := w201.heap.size) (o := 1) (off4 (g := w201.heap.size) (o := 0) RE_204.out (by have := DEX.out; omega) (.string ⟨#[]⟩)) (by have := DEX.out; omega) (.string ⟨#[]⟩)) (by have := DEX.out; omega) (.bool false)) (by have := DEX.out; omega) (.int .i64 0))
      have RZ_205 := Lib.hid (off1 (g := w201.heap.size) (o := 3) (off1 (g := w201.heap.size) (o := 2) (off1 (g := w201.heap.size) (o := 1) (off1 (g := w201.heap.size) (o := 0) RZ_204.out (by have := DZX.out; omega) (.string ⟨#[]⟩)) (by have := DZX.out; omega) (.string ⟨#[]⟩)) (by have := DZX.out; omega) (.bool false)) (by have := DZX.out; omega) (.int .i64 0))
      have RT_205 := Lib.hid (off1 (g := w201.heap.size) (o := 3) (off1 (g := w201.heap.size) (o := 2) (off1 (g := w201.heap.size) (o := 1) (off1 (g := w201.heap.size) (o := 0) RT_204.out (by have := DTX.out; omega) (.string ⟨#[]⟩)) (by have := DTX.out; omega) (.string ⟨#[]⟩)) (by have := DTX.out; omega) (.bool false)) (by have := DTX.out; omega) (.int .i64 0))
      have RX_205 := Lib.hid (RX_204.out.set (.string ⟨#[]⟩) (.string ⟨#[]⟩) (.bool false) (.int .i64 0))
      have RY_205 := Lib.hid (off1 (g := w201.heap.size) (o := 3) (off1 (g := w201.heap.size) (o := 2) (off1 (g := w201.heap.size) (o := 1) (off1 (g := w201.heap.size) (o := 0) RY_204.out (by have := DXY.out; omega) (.string ⟨#[]⟩)) (by have := DXY.out; omega) (.string ⟨#[]⟩)) (by have := DXY.out; omega) (.bool false)) (by have := DXY.out; omega) (.int .i64 0))
      clear HB204 RU_204 RK_204 RE_204 RZ_204 RT_204 RX_204 RY_204
      have cY := RY_205.out.cell
      have fY := RY_205.out.frozen
      have HB206 := Lib.hid (HB205.out.setCell (p := ⟨(w201.heap.size + 1), 0, none⟩) (by show w.heap.size ≤ (w201.heap.size + 1); have := LY.out; omega) (.int .i64 0))
      have RU_206 := Lib.hid (off2 (g := (w201.heap.size + 1)) (o := 0) RU_205.out (by have := DUY.out; omega) (.int .i64 0))
      have RK_206 := Lib.hid (off1 (g := (w201.heap.size + 1)) (o := 0) RK_205.out (by have := DKY.out; omega) (.int .i64 0))
      have RE_206 := Lib.hid (off4 (g := (w201.heap.size + 1)) (o := 0) RE_205.out (by have := DEY.out; omega) (.int .i64 0))
      have RZ_206 := Lib.hid (off1 (g := (w201.heap.size + 1)) (o := 0) RZ_205.out (by have := DZY.out; omega) (.int .i64 0))
      have RT_206 := Lib.hid (off1 (g := (w201.heap.size + 1)) (o := 0) RT_205.out (by have := DTY.out; omega) (.int .i64 0))
      have RX_206 := Lib.hid (off4 (g := (w201.heap.size + 1)) (o := 0) RX_205.out (by have := DXY.out; omega) (.int .i64 0))
      have RY_206 := Lib.hid (Boxed.set (.int .i64 0) RY_205.out)
      clear HB205 RU_205 RK_205 RE_205 RZ_205 RT_205 RX_205 RY_205
      have cK := RK_206.out.cell
      have fK := RK_206.out.frozen
      generalize hWZ : (((((w204.setCell ⟨w201.heap.size, 0, none⟩ (.string ⟨#[]⟩)).setCell ⟨w201.heap.size, 1, none⟩ (.string ⟨#[]⟩)).setCell ⟨w201.heap.size, 2, none⟩ (.bool false)).setCell ⟨w201.heap.size, 3, none⟩ (.int .i64 0)).setCell ⟨(w201.heap.size + 1), 0, none⟩ (.int .i64 0)) = wz at *
      have HO := Lib.hid (out2 RE_206.out RZ_206.out (by omega) (.string ⟨#[]⟩) (.string ⟨#[]⟩) (.bool false) (.int .i64 0) (.int .i64 (m : Int)))
      have y0 := RE_206.out.c0
      have y1 := RE_206.out.c1
      have y2 := RE_206.out.c2
      have y3 := RE_206.out.c3
      have z0 := RE_206.out.fz 0
      have z1 := RE_206.out.fz 1
      have z2 := RE_206.out.fz 2
      have z3 := RE_206.out.fz 3
      have y4 := RZ_206.out.cell
      have z4 := RZ_206.out.frozen
      have hmo : Try.prog.follows .mixedOrders = true := by kernel_rfl
      go_wp2_with fail
      go_region
      all_goals
        go_wp2_with fail
        obtain ⟨k1, k2, k3⟩ := HO.out
        have k4 := below_drew (k3 _ _ HB206.out (by omega) (by omega))
        have k5 := row4_drew k1
        have k6 := box_drew k2
        clear k1 k2 k3
        have c0 := k5.c0
        have c1 := k5.c1
        have c2 := k5.c2
        have c3 := k5.c3
        have c4 := k6.cell
        (try simp only at c0 c1 c2 c3 c4)
        clear k5 k6
        refine bodyPost_ret (v := .tuple #[.agg #[.string ⟨#[]⟩, .string ⟨#[]⟩, .bool false, .int .i64 0], .agg #[.int .i64 (m : Int)], .int .i64 12]) (by simp [results, Try.f31, go_sem, c0, c1, c2, c3, c4]) rfl ?_
        exact ⟨by rw [HL.out]; rfl, k4⟩
    have hix : m - 1 - j < n := by omega
    obtain ⟨ix, hixe⟩ : ∃ ix, m - 1 - j = ix := ⟨_, rfl⟩
    rw [hixe] at hix
    have hSj : j < (ahL xs m true).length := by have := HSL.out; omega
    obtain ⟨⟨xk, xv, xd, xq⟩, hx⟩ : ∃ y, entR xs ix = y := ⟨_, rfl⟩
    have hA := HAT.out j hSj
    have hA1 : (ahL xs m true)[j].1 = (xk, xv, xd, xq) := by rw [hA]; unfold ahX; simp only [if_true]; rw [hixe, hx]
    obtain ⟨p1, hp1⟩ : ∃ p1, p1 + 1 = p := ⟨p - 1, by omega⟩
    have e1 : ix = p1 := by omega
    have HX := Lib.hid hx
    have HP1 := Lib.hid hp1
    have HIX := Lib.hid hix
    have hpl : ((plcW m true (j + 1) : Nat) : Int) = (p1 : Int) := by unfold plcW; simp only [if_true]; omega
    subst e1
    have HJ := Lib.hid hjl
    have HJ2 := Lib.hid hj
    have HN := Lib.hid hN
    clear hx hix hixe hA hjl hj hN hp
    go_wp2_with fail
    clear cU0 cU1 cK cT fT
    refine (JNA.out p _ HBa.out).mono ?_
    rintro e w301 ⟨zk, zv, zd, zq, zp, ze, rfl, hb⟩
    have HB301 := Lib.hid (eb_of HBa.out hb (by first | exact Nat.le_refl _ | exact HBa.out.size))
    have RU_301 := Lib.hid (Row2.below RUa.out hb (Nat.le_refl _))
    have RK_301 := Lib.hid (box_below RKa.out hb (Nat.le_refl _))
    have RE_301 := Lib.hid (Row4.below REa.out hb (Nat.le_refl _))
    have RZ_301 := Lib.hid (box_below RZa.out hb (Nat.le_refl _))
    have RT_301 := Lib.hid (box_below RTa.out hb (Nat.le_refl _))
    clear HBa RUa RKa REa RZa RTa
    clear hb
    have LX : Hid (w.heap.size + 1 ≤ w301.heap.size) := Lib.hid (by have := RU_301.out.lt; (try simp only [World.size_alloc] at this); omega)
    have DUX : Hid (w.heap.size < w301.heap.size) := Lib.hid (by have := RU_301.out.lt; (try simp only [World.size_alloc] at this); omega)
    have DKX : Hid ((w.heap.size + 1) < w301.heap.size) := Lib.hid (by have := RK_301.out.lt; (try simp only [World.size_alloc] at this); omega)
    have DEX : Hid ((w.heap.size + 2) < w301.heap.size) := Lib.hid (by have := RE_301.out.lt; (try simp only [World.size_alloc] at this); omega)
    have DZX : Hid ((w.heap.size + 3) < w301.heap.size) := Lib.hid (by have := RZ_301.out.lt; (try simp only [World.size_alloc] at this); omega)
    have DTX : Hid (bt < w301.heap.size) := Lib.hid (by have := RT_301.out.lt; (try simp only [World.size_alloc] at this); omega)
    have hb := alloc_below w301 (.cells #[.string zk, .string zv, .bool zd, .int .i64 zq] 34)
    have HB302 := Lib.hid (eb_of HB301.out hb (by first | exact Nat.le_refl _ | exact HB301.out.size))
    have RU_302 := Lib.hid (Row2.below RU_301.out hb (Nat.le_refl _))
    have RK_302 := Lib.hid (box_below RK_301.out hb (Nat.le_refl _))
    have RE_302 := Lib.hid (Row4.below RE_301.out hb (Nat.le_refl _))
    have RZ_302 := Lib.hid (box_below RZ_301.out hb (Nat.le_refl _))
    have RT_302 := Lib.hid (box_below RT_301.out hb (Nat.le_refl _))
    clear HB301 RU_301 RK_301 RE_301 RZ_301 RT_301
    clear hb
    have RX_302 : Hid (Row4 (w301.alloc (.cells #[.string zk, .string zv, .bool zd, .int .i64 zq] 34)) (w301.heap.size) 34 (.string zk) (.string zv) (.bool zd) (.int .i64 zq)) := Lib.hid (heap_alloc_new _ _)
    have LY : Hid (w.heap.size + 1 ≤ w301.heap.size + 1) := Lib.hid (by have := RU_302.out.lt; (try simp only [World.size_alloc] at this); omega)
    have DUY : Hid (w.heap.size < w301.heap.size + 1) := Lib.hid (by have := RU_302.out.lt; (try simp only [World.size_alloc] at this); omega)
    have DKY : Hid ((w.heap.size + 1) < w301.heap.size + 1) := Lib.hid (by have := RK_302.out.lt; (try simp only [World.size_alloc] at this); omega)
    have DEY : Hid ((w.heap.size + 2) < w301.heap.size + 1) := Lib.hid (by have := RE_302.out.lt; (try simp only [World.size_alloc] at this); omega)
    have DZY : Hid ((w.heap.size + 3) < w301.heap.size + 1) := Lib.hid (by have := RZ_302.out.lt; (try simp only [World.size_alloc] at this); omega)
    have DTY : Hid (bt < w301.heap.size + 1) := Lib.hid (by have := RT_302.out.lt; (try simp only [World.size_alloc] at this); omega)
    have DXY : Hid (w301.heap.size < w301.heap.size + 1) := Lib.hid (by have := RX_302.out.lt; (try simp only [World.size_alloc] at this); omega)
    have hb := alloc_below (w301.alloc (.cells #[.string zk, .string zv, .bool zd, .int .i64 zq] 34)) (.cells #[.int .i64 zp] 26)
    have HB303 := Lib.hid (eb_of HB302.out hb (by first | exact Nat.le_refl _ | exact HB302.out.size))
    have RU_303 := Lib.hid (Row2.below RU_302.out hb (Nat.le_refl _))
    have RK_303 := Lib.hid (box_below RK_302.out hb (Nat.le_refl _))
    have RE_303 := Lib.hid (Row4.below RE_302.out hb (Nat.le_refl _))
    have RZ_303 := Lib.hid (box_below RZ_302.out hb (Nat.le_refl _))
    have RT_303 := Lib.hid (box_below RT_302.out hb (Nat.le_refl _))
    have RX_303 := Lib.hid (Row4.below RX_302.out hb (Nat.le_refl _))
    clear HB302 RU_302 RK_302 RE_302 RZ_302 RT_302 RX_302
    clear hb
    have RY_303 : Hid (Boxed ((w301.alloc (.cells #[.string zk, .string zv, .bool zd, .int .i64 zq] 34)).alloc (.cells #[.int .i64 zp] 26)) (w301.heap.size + 1) 26 (.int .i64 zp)) := Lib.hid (by
      have hq := heap_alloc_new (w301.alloc (.cells #[.string zk, .string zv, .bool zd, .int .i64 zq] 34)) (.cells #[.int .i64 zp] 26)
      simp only [World.size_alloc] at hq
      exact hq)
    have cU0 := RU_303.out.c0
    have cU1 := RU_303.out.c1
    have cK := RK_303.out.cell
    have fK := RK_303.out.frozen
    have cT := RT_303.out.cell
    have fT := RT_303.out.frozen
    go_wp2_with fail
    clear cU0 cU1 cK fK cT fT
    refine (JP.out ix (xk, xv, xd, xq) p _ HIX.out HP1.out HX.out HB303.out).mono ?_
    rintro e w304 ⟨rfl, hb⟩
    have HB304 := Lib.hid (eb_of HB303.out hb (by first | exact Nat.le_refl _ | exact HB303.out.size))
    have RU_304 := Lib.hid (Row2.below RU_303.out hb (Nat.le_refl _))
    have RK_304 := Lib.hid (box_below RK_303.out hb (Nat.le_refl _))
    have RE_304 := Lib.hid (Row4.below RE_303.out hb (Nat.le_refl _))
    have RZ_304 := Lib.hid (box_below RZ_303.out hb (Nat.le_refl _))
    have RT_304 := Lib.hid (box_below RT_303.out hb (Nat.le_refl _))
    have RX_304 := Lib.hid (Row4.below RX_303.out hb (Nat.le_refl _))
    have RY_304 := Lib.hid (box_below RY_303.out hb (Nat.le_refl _))
    clear HB303 RU_303 RK_303 RE_303 RZ_303 RT_303 RX_303 RY_303
    clear hb
    have cX0 := RX_304.out.c0
    have cX1 := RX_304.out.c1
    have cX2 := RX_304.out.c2
    have cX3 := RX_304.out.c3
    have cY := RY_304.out.cell
    have fY := RY_304.out.frozen
    have fX0 := RX_304.out.fz 0
    have fX1 := RX_304.out.fz 1
    have fX2 := RX_304.out.fz 2
    have fX3 := RX_304.out.fz 3
    have HB305 := Lib.hid ((((HB304.out.setCell (p := ⟨w301.heap.size, 0, none⟩) (by show w.heap.size ≤ w301.heap.size; have := LX.out; omega) (.string xk)).setCell (p := ⟨w301.heap.size, 1, none⟩) (by show w.heap.size ≤ w301.heap.size; have := LX.out; omega) (.string xv)).setCell (p := ⟨w301.heap.size, 2, none⟩) (by show w.heap.size ≤ w301.heap.size; have := LX.out; omega) (.bool xd)).setCell (p := ⟨w301.heap.size, 3, none⟩) (by show w.heap.size ≤ w301.heap.size; have := LX.out; omega) (.int .i64 xq))
    have RU_305 := Lib.hid (off2 (g := w301.heap.size) (o := 3) (off2 (g := w301.heap.size) (o := 2) (off2 (g := w301.heap.size) (o := 1) (off2 (g := w301.heap.size) (o := 0) RU_304.out (by have := DUX.out; omega) (.string xk)) (by have := DUX.out; omega) (.string xv)) (by have := DUX.out; omega) (.bool xd)) (by have := DUX.out; omega) (.int .i64 xq))
    have RK_305 := Lib.hid (off1 (g := w301.heap.size) (o := 3) (off1 (g := w301.heap.size) (o := 2) (off1 (g := w301.heap.size) (o := 1) (off1 (g := w301.heap.size) (o := 0) RK_304.out (by have := DKX.out; omega) (.string xk)) (by have := DKX.out; omega) (.string xv)) (by have := DKX.out; omega) (.bool xd)) (by have := DKX.out; omega) (.int .i64 xq))
    have RE_305 := Lib.hid (off4 (g := w301.heap.size) (o := 3) (off4 (g := w301.heap.size) (o := 2) (off4 (g := w301.heap.size) (o := 1) (off4 (g := w301.heap.size) (o := 0) RE_304.out (by have := DEX.out; omega) (.string xk)) (by have := DEX.out; omega) (.string xv)) (by have := DEX.out; omega) (.bool xd)) (by have := DEX.out; omega) (.int .i64 xq))
    have RZ_305 := Lib.hid (off1 (g := w301.heap.size) (o := 3) (off1 (g := w301.heap.size) (o := 2) (off1 (g := w301.heap.size) (o := 1) (off1 (g := w301.heap.size) (o := 0) RZ_304.out (by have := DZX.out; omega) (.string xk)) (by have := DZX.out; omega) (.string xv)) (by have := DZX.out; omega) (.bool xd)) (by have := DZX.out; omega) (.int .i64 xq))
    have RT_305 := Lib.hid (off1 (g := w301.heap.size) (o := 3) (off1 (g := w301.heap.size) (o := 2) (off1 (g := w301.heap.size) (o := 1) (off1 (g := w301.heap.size) (o := 0) RT_304.out (by have := DTX.out; omega) (.string xk)) (by have := DTX.out; omega) (.string xv)) (by have := DTX.out; omega) (.bool xd)) (by have := DTX.out; omega) (.int .i64 xq))
    have RX_305 := Lib.hid (RX_304.out.set (.string xk) (.string xv) (.bool xd) (.int .i64 xq))
    have RY_305 := Lib.hid (off1 (g := w301.heap.size) (o := 3) (off1 (g := w301.heap.size) (o := 2) (off1 (g := w301.heap.size) (o := 1) (off1 (g := w301.heap.size) (o := 0) RY_304.out (by have := DXY.out; omega) (.string xk)) (by have := DXY.out; omega) (.string xv)) (by have := DXY.out; omega) (.bool xd)) (by have := DXY.out; omega) (.int .i64 xq))
    clear HB304 RU_304 RK_304 RE_304 RZ_304 RT_304 RX_304 RY_304
    have cY := RY_305.out.cell
    have fY := RY_305.out.frozen
    have HB306 := Lib.hid (HB305.out.setCell (p := ⟨(w301.heap.size + 1), 0, none⟩) (by show w.heap.size ≤ (w301.heap.size + 1); have := LY.out; omega) (.int .i64 (ix : Int)))
    have RU_306 := Lib.hid (off2 (g := (w301.heap.size + 1)) (o := 0) RU_305.out (by have := DUY.out; omega) (.int .i64 (ix : Int)))
    have RK_306 := Lib.hid (off1 (g := (w301.heap.size + 1)) (o := 0) RK_305.out (by have := DKY.out; omega) (.int .i64 (ix : Int)))
    have RE_306 := Lib.hid (off4 (g := (w301.heap.size + 1)) (o := 0) RE_305.out (by have := DEY.out; omega) (.int .i64 (ix : Int)))
    have RZ_306 := Lib.hid (off1 (g := (w301.heap.size + 1)) (o := 0) RZ_305.out (by have := DZY.out; omega) (.int .i64 (ix : Int)))
    have RT_306 := Lib.hid (off1 (g := (w301.heap.size + 1)) (o := 0) RT_305.out (by have := DTY.out; omega) (.int .i64 (ix : Int)))
    have RX_306 := Lib.hid (off4 (g := (w301.heap.size + 1)) (o := 0) RX_305.out (by have := DXY.out; omega) (.int .i64 (ix : Int)))
    have RY_306 := Lib.hid (Boxed.set (.int .i64 (ix : Int)) RY_305.out)
    clear HB305 RU_305 RK_305 RE_305 RZ_305 RT_305 RX_305 RY_305
    have cK := RK_306.out.cell
    have fK := RK_306.out.frozen
    have cX0 := RX_306.out.c0
    have cX1 := RX_306.out.c1
    have cX2 := RX_306.out.c2
    have cX3 := RX_306.out.c3
    have cY := RY_306.out.cell
    have fY := RY_306.out.frozen
    have cT := RT_306.out.cell
    have fT := RT_306.out.frozen
    by_cases hd : xd = dead
    rotate_left
    · have t4 : (xd == dead) = false := by rw [beq_eq_false_iff_ne]; exact hd
      have HNX : Hid (∀ i (hi : i < (ahL xs m true).length), i < j + 1 → ((ahL xs m true)[i].1.2.2.1 == dead) = false) := Lib.hid (fun i hi h => by
        rcases Nat.lt_or_ge i j with h' | h'
        · exact HQ.out i hi h'
        · have : i = j := by omega
          subst this; rw [hA1]; exact t4)
      clear hd hA1
      have HB307 := Lib.hid (HB306.out.setCell (p := ⟨bt, 0, none⟩) (by show w.heap.size ≤ bt; have := LT.out; omega) (.int .i64 (ix : Int)))
      have RU_307 := Lib.hid (off2 (g := bt) (o := 0) RU_306.out (by have := DUT.out; omega) (.int .i64 (ix : Int)))
      have RK_307 := Lib.hid (off1 (g := bt) (o := 0) RK_306.out (by have := DKT.out; omega) (.int .i64 (ix : Int)))
      have RE_307 := Lib.hid (off4 (g := bt) (o := 0) RE_306.out (by have := DET.out; omega) (.int .i64 (ix : Int)))
      have RZ_307 := Lib.hid (off1 (g := bt) (o := 0) RZ_306.out (by have := DZT.out; omega) (.int .i64 (ix : Int)))
      have RT_307 := Lib.hid (Boxed.set (.int .i64 (ix : Int)) RT_306.out)
      clear HB306 RU_306 RK_306 RE_306 RZ_306 RT_306
      go_wp2_with fail
      refine ⟨⟨j + 1, ix, by have := HPP.out; have := HP1.out; omega, by have := HJ.out; omega, HNX.out, HB307.out, RU_307.out, RK_307.out, RE_307.out, RZ_307.out, RT_307.out⟩, ?_⟩
      have ce := RT_307.out.cell
      have ct := ht.cell
      rw [ce, ct]
      have h1 := HP1.out
      have h2 := HIX.out
      have h3 := HPP.out
      simp [intOf]
      omega
    subst hd
    have t4 : (xd == xd) = true := by simp
    have hg := HGH.out j hSj (fun i hi h => HQ.out i hi h) (by rw [hA1]; exact t4)
    rw [hA1, hpl] at hg
    have HL := Lib.hid hg
    clear hg hA1 hpl
    have q1 := DEY.out
    have q2 := DZY.out
    have q3 := DEX.out
    have q4 := DZX.out
    have na0 : ¬ ((w301.heap.size + 1) = w.heap.size + 1 + 1) := by omega
    have nb0 : ¬ (w.heap.size + 1 + 1 = (w301.heap.size + 1)) := by omega
    have na1 : ¬ ((w301.heap.size + 1) = w.heap.size + 2) := by omega
    have nb1 : ¬ (w.heap.size + 2 = (w301.heap.size + 1)) := by omega
    have na2 : ¬ (w301.heap.size = w.heap.size + 1) := by omega
    have nb2 : ¬ (w.heap.size + 1 = w301.heap.size) := by omega
    have na3 : ¬ ((w301.heap.size + 1) = w.heap.size + 1 + 1 + 1) := by omega
    have nb3 : ¬ (w.heap.size + 1 + 1 + 1 = (w301.heap.size + 1)) := by omega
    have na4 : ¬ ((w301.heap.size + 1) = w.heap.size + 3) := by omega
    have nb4 : ¬ (w.heap.size + 3 = (w301.heap.size + 1)) := by omega
    have na5 : ¬ (w301.heap.size = w.heap.size + 1 + 1) := by omega
    have nb5 : ¬ (w.heap.size + 1 + 1 = w301.heap.size) := by omega
    have na6 : ¬ (w301.heap.size = w.heap.size + 2) := by omega
    have nb6 : ¬ (w.heap.size + 2 = w301.heap.size) := by omega
    clear q1 q2 q3 q4
    generalize hWZ : (((((w304.setCell ⟨w301.heap.size, 0, none⟩ (.string xk)).setCell ⟨w301.heap.size, 1, none⟩ (.string xv)).setCell ⟨w301.heap.size, 2, none⟩ (.bool xd)).setCell ⟨w301.heap.size, 3, none⟩ (.int .i64 xq)).setCell ⟨(w301.heap.size + 1), 0, none⟩ (.int .i64 (ix : Int))) = wz at *
    have HO := Lib.hid (out2 RE_306.out RZ_306.out (by omega) (.string xk) (.string xv) (.bool xd) (.int .i64 xq) (.int .i64 (ix : Int)))
    have y0 := RE_306.out.c0
    have y1 := RE_306.out.c1
    have y2 := RE_306.out.c2
    have y3 := RE_306.out.c3
    have z0 := RE_306.out.fz 0
    have z1 := RE_306.out.fz 1
    have z2 := RE_306.out.fz 2
    have z3 := RE_306.out.fz 3
    have y4 := RZ_306.out.cell
    have z4 := RZ_306.out.frozen
    have hmo : Try.prog.follows .mixedOrders = true := by kernel_rfl
    go_wp2_with fail
    go_region
    all_goals
      go_wp2_with fail
      obtain ⟨k1, k2, k3⟩ := HO.out
      have k4 := below_drew (k3 _ _ HB306.out (by omega) (by omega))
      have k5 := row4_drew k1
      have k6 := box_drew k2
      clear k1 k2 k3
      have c0 := k5.c0
      have c1 := k5.c1
      have c2 := k5.c2
      have c3 := k5.c3
      have c4 := k6.cell
      (try simp only at c0 c1 c2 c3 c4)
      clear k5 k6
      refine bodyPost_ret (v := .tuple #[.agg #[.string xk, .string xv, .bool xd, .int .i64 xq], .agg #[.int .i64 (ix : Int)], .int .i64 0]) (by simp [results, Try.f31, go_sem, c0, c1, c2, c3, c4]) rfl ?_
      exact ⟨by rw [HL.out]; rfl, k4⟩
end Go.Proofs.Yticdechdgpfdfaa.KK
