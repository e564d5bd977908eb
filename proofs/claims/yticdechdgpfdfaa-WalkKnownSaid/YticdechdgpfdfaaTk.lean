/-
  WalkBoth: the walk.
-/
import Derived.Test.YticdechdgpfdfaaTj
namespace Go.Proofs.Yticdechdgpfdfaa.KK
open Go.ChangeShapes Go.WideShapes Go.ChangeAt Go.RowKit Go.Proofs Go.Sort

theorem cur_ok {id : Int} {xs : List El.En} {k : Nat} (h : (runE id xs).2 = 0) (g : k ≤ xs.length) : curE id xs k = 0 := curE_in h (by omega)
theorem ah_first {xs : List El.En} {k : Nat} {back : Bool} (h : 0 < ahN xs.length k back) : ([] ++ [ahX xs k back 0]) <+: ahL xs k back := by
  have := ahL_take xs k back 0 h
  simp only [List.take_zero] at this
  rw [← this]; exact List.take_prefix _ _
theorem goE_next {id : Int} {xs : List El.En} {k : Nat} (h : (runE id xs).2 = 0) (g : k < xs.length) : goE id xs k false (fun _ => true) = (entR xs k, ((k + 1 : Nat) : Int), 0) := by
  have e := goE_some (q := fun _ => true) (cur_ok h (Nat.le_of_lt g)) (ah_first (back := false) (by unfold ahN; simp; omega)) (fun y hy => by cases hy) rfl
  simpa [ahX] using e
theorem goE_nend {id : Int} {xs : List El.En} (h : (runE id xs).2 = 0) : goE id xs xs.length false (fun _ => true) = (El.none, (xs.length : Int), 12) := by
  refine goE_none (cur_ok h (Nat.le_refl _)) fun y hy => ?_
  have : ahL xs xs.length false = [] := List.eq_nil_of_length_eq_zero (by rw [ahL_length]; unfold ahN; simp)
  rw [this] at hy; cases hy
theorem goE_prev {id : Int} {xs : List El.En} {k : Nat} (h : (runE id xs).2 = 0) (g : k < xs.length) : goE id xs ((k + 1 : Nat) : Int) true (fun _ => true) = (entR xs k, (k : Int), 0) := by
  have e := goE_some (q := fun _ => true) (cur_ok h (show k + 1 ≤ xs.length from g)) (ah_first (back := true) (by unfold ahN; simp)) (fun y hy => by cases hy) rfl
  simpa [ahX] using e
theorem goE_pend {id : Int} {xs : List El.En} (h : (runE id xs).2 = 0) : goE id xs ((0 : Nat) : Int) true (fun _ => true) = (El.none, 0, 12) := by
  refine goE_none (cur_ok h (Nat.zero_le _)) fun y hy => ?_
  have : ahL xs 0 true = [] := List.eq_nil_of_length_eq_zero (by rw [ahL_length]; unfold ahN; simp)
  rw [this] at hy; cases hy
theorem other1 {W : World} {B g : Nat} {t : TypeId} {v : Value} (h : Boxed W B t v) (hne : B ≠ g) (u : Value) : Boxed (W.setCell ⟨g, 0, none⟩ u) B t v := (Below.heap_setCell _ _ _ _ (by simpa using hne)).trans h
theorem other2 {W : World} {B g : Nat} {t : TypeId} {v0 v1 : Value} (h : Row2 W B t v0 v1) (hne : B ≠ g) (u : Value) : Row2 (W.setCell ⟨g, 0, none⟩ u) B t v0 v1 := (Below.heap_setCell _ _ _ _ (by simpa using hne)).trans h
theorem other4 {W : World} {B g : Nat} {t : TypeId} {v0 v1 v2 v3 : Value} (h : Row4 W B t v0 v1 v2 v3) (hne : B ≠ g) (u : Value) : Row4 (W.setCell ⟨g, 0, none⟩ u) B t v0 v1 v2 v3 := (Below.heap_setCell _ _ _ _ (by simpa using hne)).trans h
set_option maxRecDepth 100000 in
set_option maxHeartbeats 16000000 in
theorem Both9_any (id : Int) (A : Option Addr) (c : Nat) (xs : List El.En) (w : World) (hf : EsAt w A xs) (hn : xs.length ≤ 9223372036854775807) (hs : Sized xs) :
    Calls Try.prog 6 #[.agg #[.int .i64 id, .slice A xs.length c]] w fun e w' => e = .returned (.bool true) ∧ Below w.heap.size w w' := by
  have JF := Lib.hid (fun w1 (h : Below w.heap.size w w1) => far8_any id A c xs w1 (hf.below h (Nat.le_refl _)) hn hs)
  have JW := Lib.hid (fun w => awake9_any w)
  have HB := Lib.hid (alloc_below w (.cells #[.int .i64 id, .slice A xs.length c] 24))
  have RU := Lib.hid (Row2.new w 24 (.int .i64 id) (.slice A xs.length c))
  cases hfar : farF xs with
  | true =>
    rw [hfar] at JF
    clear hfar hf hs
    generalize xs.length = n at *
    have cU0 := RU.out.c0
    have cU1 := RU.out.c1
    go_enter Try.func6, Try.ntmps6
    go_wp2_with fail
    clear cU0 cU1
    refine (JF.out _ HB.out).mono ?_
    rintro e w1 ⟨rfl, hb⟩
    have HB1 := Lib.hid (eb_of HB.out hb (by first | exact Nat.le_refl _ | exact HB.out.size))
    have RU_1 := Lib.hid (Row2.below RU.out hb (Nat.le_refl _))
    clear RU
    clear hb
    have cU0 := RU_1.out.c0
    have cU1 := RU_1.out.c1
    go_wp2_with fail
    clear cU0 cU1
    refine (JW.out _).mono ?_
    rintro e w2 ⟨rfl, hb⟩
    have HB2 := Lib.hid (eb_of HB1.out hb (by first | exact Nat.le_refl _ | exact HB1.out.size))
    have RU_2 := Lib.hid (Row2.below RU_1.out hb (Nat.le_refl _))
    clear HB1 RU_1
    clear hb
    go_wp2_with fail
    go_ret
    exact ⟨by first | rfl | (simp; done), HB2.out⟩
  | false =>
    have hl5 := far_len hfar
    rw [hfar] at JF
    clear hfar
    by_cases h80 : 80 < xs.length
    · have t1 : (80 : Int) < (xs.length : Int) := by omega
      clear hf hs hl5
      generalize xs.length = n at *
      have cU0 := RU.out.c0
      have cU1 := RU.out.c1
      go_enter Try.func6, Try.ntmps6
      go_wp2_with fail
      clear cU0 cU1
      refine (JF.out _ HB.out).mono ?_
      rintro e w1 ⟨rfl, hb⟩
      have HB1 := Lib.hid (eb_of HB.out hb (by first | exact Nat.le_refl _ | exact HB.out.size))
      have RU_1 := Lib.hid (Row2.below RU.out hb (Nat.le_refl _))
      clear RU
      clear hb
      have cU0 := RU_1.out.c0
      have cU1 := RU_1.out.c1
      go_wp2_with fail
      clear cU0 cU1
      refine (JW.out _).mono ?_
      rintro e w2 ⟨rfl, hb⟩
      have HB2 := Lib.hid (eb_of HB1.out hb (by first | exact Nat.le_refl _ | exact HB1.out.size))
      have RU_2 := Lib.hid (Row2.below RU_1.out hb (Nat.le_refl _))
      clear HB1 RU_1
      clear hb
      go_wp2_with fail
      go_ret
      exact ⟨by first | rfl | (simp; done), HB2.out⟩
    have t1 : ¬ (80 : Int) < (xs.length : Int) := by omega
    have t1' : (xs.length : Int) ≤ 80 := by omega
    have hn5 : xs.length ≤ 4294967295 := by omega
    have JI := Lib.hid (fun w1 (h : Below w.heap.size w w1) => pFirst9_any id A c xs w1 (hf.below h (Nat.le_refl _)) hn5 hs)
    have JL := Lib.hid (fun w1 (h : Below w.heap.size w w1) => pLast9_any id A c xs w1 (hf.below h (Nat.le_refl _)) hn5 hs)
    have JC := Lib.hid (fun w1 (h : Below w.heap.size w w1) => rCheck8_any id A c xs w1 (hf.below h (Nat.le_refl _)) hn5 hs)
    by_cases h0 : (runE id xs).2 = 0
    rotate_left
    · obtain ⟨n1, n2⟩ := ne_b h0
      unfold firstW at JI
      clear hf hs hl5 JL
      generalize (runE id xs).1 = r1 at *
      generalize (runE id xs).2 = r2 at *
      generalize xs.length = n at *
      have cU0 := RU.out.c0
      have cU1 := RU.out.c1
      go_enter Try.func6, Try.ntmps6
      go_wp2_with fail
      clear cU0 cU1
      refine (JF.out _ HB.out).mono ?_
      rintro e w1 ⟨rfl, hb⟩
      have HB1 := Lib.hid (eb_of HB.out hb (by first | exact Nat.le_refl _ | exact HB.out.size))
      have RU_1 := Lib.hid (Row2.below RU.out hb (Nat.le_refl _))
      clear RU
      clear hb
      have cU0 := RU_1.out.c0
      have cU1 := RU_1.out.c1
      go_wp2_with fail
      clear cU0 cU1
      refine (JI.out _ HB1.out).mono ?_
      rintro e w2 ⟨rfl, hb⟩
      have HB2 := Lib.hid (eb_of HB1.out hb (by first | exact Nat.le_refl _ | exact HB1.out.size))
      have RU_2 := Lib.hid (Row2.below RU_1.out hb (Nat.le_refl _))
      clear HB1 RU_1
      clear hb
      have LW : Hid (w.heap.size + 1 ≤ w2.heap.size) := Lib.hid (by have := RU_2.out.lt; (try simp only [World.size_alloc] at this); omega)
      have hb := alloc_below w2 (.cells #[.int .i64 0] 26)
      have HB3 := Lib.hid (eb_of HB2.out hb (by first | exact Nat.le_refl _ | exact HB2.out.size))
      have RU_3 := Lib.hid (Row2.below RU_2.out hb (Nat.le_refl _))
      clear HB2 RU_2
      clear hb
      have RW_3 : Hid (Boxed (w2.alloc (.cells #[.int .i64 0] 26)) (w2.heap.size) 26 (.int .i64 0)) := Lib.hid (heap_alloc_new _ _)
      have cU0 := RU_3.out.c0
      have cU1 := RU_3.out.c1
      go_wp2_with fail
      clear cU0 cU1
      refine (JC.out _ HB3.out).mono ?_
      rintro e w4 ⟨rfl, hb⟩
      have HB4 := Lib.hid (eb_of HB3.out hb (by first | exact Nat.le_refl _ | exact HB3.out.size))
      have RU_4 := Lib.hid (Row2.below RU_3.out hb (Nat.le_refl _))
      have RW_4 := Lib.hid (box_below RW_3.out hb (Nat.le_refl _))
      clear HB3 RU_3 RW_3
      clear hb
      have cU0 := RU_4.out.c0
      have cU1 := RU_4.out.c1
      have cW := RW_4.out.cell
      have fW := RW_4.out.frozen
      go_wp2_with fail
      clear cU0 cU1 cW fW
      refine (JW.out _).mono ?_
      rintro e w5 ⟨rfl, hb⟩
      have HB5 := Lib.hid (eb_of HB4.out hb (by first | exact Nat.le_refl _ | exact HB4.out.size))
      have RU_5 := Lib.hid (Row2.below RU_4.out hb (Nat.le_refl _))
      have RW_5 := Lib.hid (box_below RW_4.out hb (Nat.le_refl _))
      clear HB4 RU_4 RW_4
      clear hb
      go_wp2_with fail
      go_ret
      exact ⟨by first | rfl | (simp; done), HB5.out⟩
    have JN := Lib.hid (fun (k j : Nat) (x : El.En) w1 (hk : k < xs.length) (hj : k + 1 = j) (he : entR xs k = x) (h : Below w.heap.size w w1) => by
      have K := pNext9_any id A c xs (k : Int) w1 (hf.below h (Nat.le_refl _)) hn5 hs
      unfold GoOut at K; rw [goE_next h0 hk, he, hj] at K; simp only [entV] at K; exact K)
    have JP := Lib.hid (fun (k j : Nat) (x : El.En) w1 (hk : k < xs.length) (hj : k + 1 = j) (he : entR xs k = x) (h : Below w.heap.size w w1) => by
      have K := pPrev9_any id A c xs (j : Int) w1 (hf.below h (Nat.le_refl _)) hn5 hs
      unfold GoOut at K; rw [← hj, goE_prev h0 hk, he, hj] at K; simp only [entV] at K; exact K)
    have JNE := Lib.hid (fun w1 (h : Below w.heap.size w w1) => by
      have K := pNext9_any id A c xs (xs.length : Int) w1 (hf.below h (Nat.le_refl _)) hn5 hs
      unfold GoOut at K; rw [goE_nend h0] at K; simp only [entV, El.none] at K; exact K)
    have JPE := Lib.hid (fun w1 (h : Below w.heap.size w w1) => by
      have K := pPrev9_any id A c xs ((0 : Nat) : Int) w1 (hf.below h (Nat.le_refl _)) hn5 hs
      unfold GoOut at K; rw [goE_pend h0] at K; simp only [entV, El.none] at K; exact K)
    have JX := Lib.hid (fun w1 (h : Below w.heap.size w w1) => hf.below h (Nat.le_refl _))
    rw [h0] at JI JC JL
    rw [lastW_ok h0] at JL
    unfold firstW at JI
    have HE := Lib.hid (fun (k : Nat) (hk : k < xs.length) => entR_eq hk)
    clear hf hs hl5 h0
    generalize (runE id xs).1 = r1 at *
    obtain ⟨n, hnn⟩ : ∃ n, xs.length = n := ⟨_, rfl⟩
    rw [hnn] at JF JI JL JC JN JP JNE JPE HB RU t1 t1' hn ⊢
    have HNN := Lib.hid hnn
    clear hnn hn5 h80
    have cU0 := RU.out.c0
    have cU1 := RU.out.c1
    go_enter Try.func6, Try.ntmps6
    go_wp2_with fail
    clear cU0 cU1
    refine (JF.out _ HB.out).mono ?_
    rintro e w1 ⟨rfl, hb⟩
    have HB1 := Lib.hid (eb_of HB.out hb (by first | exact Nat.le_refl _ | exact HB.out.size))
    have RU_1 := Lib.hid (Row2.below RU.out hb (Nat.le_refl _))
    clear RU
    clear hb
    have cU0 := RU_1.out.c0
    have cU1 := RU_1.out.c1
    go_wp2_with fail
    clear cU0 cU1
    refine (JI.out _ HB1.out).mono ?_
    rintro e w2 ⟨rfl, hb⟩
    have HB2 := Lib.hid (eb_of HB1.out hb (by first | exact Nat.le_refl _ | exact HB1.out.size))
    have RU_2 := Lib.hid (Row2.below RU_1.out hb (Nat.le_refl _))
    clear HB1 RU_1
    clear hb
    have LW : Hid (w.heap.size + 1 ≤ w2.heap.size) := Lib.hid (by have := RU_2.out.lt; (try simp only [World.size_alloc] at this); omega)
    have hb := alloc_below w2 (.cells #[.int .i64 0] 26)
    have HB3 := Lib.hid (eb_of HB2.out hb (by first | exact Nat.le_refl _ | exact HB2.out.size))
    have RU_3 := Lib.hid (Row2.below RU_2.out hb (Nat.le_refl _))
    clear HB2 RU_2
    clear hb
    have RW_3 : Hid (Boxed (w2.alloc (.cells #[.int .i64 0] 26)) (w2.heap.size) 26 (.int .i64 0)) := Lib.hid (heap_alloc_new _ _)
    have cU0 := RU_3.out.c0
    have cU1 := RU_3.out.c1
    go_wp2_with fail
    clear cU0 cU1
    refine (JC.out _ HB3.out).mono ?_
    rintro e w4 ⟨rfl, hb⟩
    have HB4 := Lib.hid (eb_of HB3.out hb (by first | exact Nat.le_refl _ | exact HB3.out.size))
    have RU_4 := Lib.hid (Row2.below RU_3.out hb (Nat.le_refl _))
    have RW_4 := Lib.hid (box_below RW_3.out hb (Nat.le_refl _))
    clear HB3 RU_3 RW_3
    clear hb
    go_wp2_with fail
    obtain ⟨bw, hbw⟩ : ∃ b, w2.heap.size = b := ⟨_, rfl⟩
    rw [hbw] at LW RW_4 ⊢
    clear hbw
    go_loopw [7, 8, 9, 10, 11, 12, 13] (fun vi v8 v9 v10 v11 v12 v13 wr => ∃ i : Nat, vi = .int .i64 (i : Int) ∧ i ≤ n ∧ Below w.heap.size w wr ∧ Row2 wr w.heap.size 24 (.int .i64 id) (.slice A n c) ∧ Boxed wr bw 26 (.int .i64 (i : Int))) (fun vi _ _ _ _ _ _ _ => n - (intOf vi).toNat)
    case atStart => exact ⟨0, rfl, Nat.zero_le _, HB4.out, RU_4.out, RW_4.out⟩
    case round =>
      obtain ⟨i, rfl, hi, hb, hu, hw⟩ := hrel
      have HBa := Lib.hid hb
      have RUa := Lib.hid hu
      have RWa := Lib.hid hw
      have cU1 := hu.c1
      have cU0 := hu.c0
      have cW := hw.cell
      clear hb hu hw
      by_cases hin : i < n
      rotate_left
      · obtain rfl : i = n := by omega
        have t2 : ¬ (i : Int) < (i : Int) := by omega
        go_wp2_with fail
        clear cU1 cU0 cW
        refine (JNE.out _ HBa.out).mono ?_
        rintro e w201 ⟨rfl, hb⟩
        have HB201 := Lib.hid (eb_of HBa.out hb (by first | exact Nat.le_refl _ | exact HBa.out.size))
        have RU_201 := Lib.hid (Row2.below RUa.out hb (Nat.le_refl _))
        have RW_201 := Lib.hid (box_below RWa.out hb (Nat.le_refl _))
        clear HBa RUa RWa
        clear hb
        have LWS0 := Lib.hid (RW_201.out.lt)
        have LQ : Hid (w.heap.size + 1 ≤ w201.heap.size) := Lib.hid (by have := RU_201.out.lt; (try simp only [World.size_alloc] at this); omega)
        have hb := alloc_below w201 (.cells #[.string ⟨#[]⟩, .string ⟨#[]⟩, .bool false, .int .i64 0] 34)
        have HB202 := Lib.hid (eb_of HB201.out hb (by first | exact Nat.le_refl _ | exact HB201.out.size))
        have RU_202 := Lib.hid (Row2.below RU_201.out hb (Nat.le_refl _))
        have RW_202 := Lib.hid (box_below RW_201.out hb (Nat.le_refl _))
        clear HB201 RU_201 RW_201
        clear hb
        have RQ_202 : Hid (Row4 (w201.alloc (.cells #[.string ⟨#[]⟩, .string ⟨#[]⟩, .bool false, .int .i64 0] 34)) (w201.heap.size) 34 (.string ⟨#[]⟩) (.string ⟨#[]⟩) (.bool false) (.int .i64 0)) := Lib.hid (heap_alloc_new _ _)
        have LS : Hid (w.heap.size + 1 ≤ w201.heap.size + 1) := Lib.hid (by have := RU_202.out.lt; (try simp only [World.size_alloc] at this); omega)
        have hb := alloc_below (w201.alloc (.cells #[.string ⟨#[]⟩, .string ⟨#[]⟩, .bool false, .int .i64 0] 34)) (.cells #[.int .i64 (i : Int)] 26)
        have HB203 := Lib.hid (eb_of HB202.out hb (by first | exact Nat.le_refl _ | exact HB202.out.size))
        have RU_203 := Lib.hid (Row2.below RU_202.out hb (Nat.le_refl _))
        have RW_203 := Lib.hid (box_below RW_202.out hb (Nat.le_refl _))
        have RQ_203 := Lib.hid (Row4.below RQ_202.out hb (Nat.le_refl _))
        clear HB202 RU_202 RW_202 RQ_202
        clear hb
        have RS_203 : Hid (Boxed ((w201.alloc (.cells #[.string ⟨#[]⟩, .string ⟨#[]⟩, .bool false, .int .i64 0] 34)).alloc (.cells #[.int .i64 (i : Int)] 26)) (w201.heap.size + 1) 26 (.int .i64 (i : Int))) := Lib.hid (by
          have hq := heap_alloc_new (w201.alloc (.cells #[.string ⟨#[]⟩, .string ⟨#[]⟩, .bool false, .int .i64 0] 34)) (.cells #[.int .i64 (i : Int)] 26)
          simp only [World.size_alloc] at hq
          exact hq)
        have HZ0 := HB203
        have cU0 := RU_203.out.c0
        have cU1 := RU_203.out.c1
        go_wp2_with fail
        clear cU0 cU1
        refine (JL.out _ HB203.out).mono ?_
        rintro e w204 ⟨rfl, hb⟩
        have HB204 := Lib.hid (eb_of HB203.out hb (by first | exact Nat.le_refl _ | exact HB203.out.size))
        have RU_204 := Lib.hid (Row2.below RU_203.out hb (Nat.le_refl _))
        have RW_204 := Lib.hid (box_below RW_203.out hb (Nat.le_refl _))
        have RS_204 := Lib.hid (box_below RS_203.out hb (Nat.le_refl _))
        clear HB203 RU_203 RW_203 RS_203
        clear hb
        have LT : Hid (w.heap.size + 1 ≤ w204.heap.size) := Lib.hid (by have := RU_204.out.lt; (try simp only [World.size_alloc] at this); omega)
        have hb := alloc_below w204 (.cells #[.int .i64 (i : Int)] 26)
        have HB205 := Lib.hid (eb_of HB204.out hb (by first | exact Nat.le_refl _ | exact HB204.out.size))
        have RU_205 := Lib.hid (Row2.below RU_204.out hb (Nat.le_refl _))
        have RW_205 := Lib.hid (box_below RW_204.out hb (Nat.le_refl _))
        have RS_205 := Lib.hid (box_below RS_204.out hb (Nat.le_refl _))
        clear HB204 RU_204 RW_204 RS_204
        clear hb
        have RT_205 : Hid (Boxed (w204.alloc (.cells #[.int .i64 (i : Int)] 26)) (w204.heap.size) 26 (.int .i64 (i : Int))) := Lib.hid (heap_alloc_new _ _)
        have cU0 := RU_205.out.c0
        have cU1 := RU_205.out.c1
        have cW := RW_205.out.cell
        have fW := RW_205.out.frozen
        have cS := RS_205.out.cell
        have fS := RS_205.out.frozen
        have cT := RT_205.out.cell
        have fT := RT_205.out.frozen
        go_wp2_with fail
        clear cU0 cU1 cW fW cS fS cT fT
        obtain ⟨bs, hbs⟩ : ∃ b, (w201.heap.size + 1) = b := ⟨_, rfl⟩
        rw [hbs] at LS RS_205 ⊢
        have LWS : Hid (bw < bs) := Lib.hid (by rw [← hbs]; have := LWS0.out; omega)
        clear hbs LWS0
        go_loopw [18, 19, 20, 21, 22, 23, 24] (fun vi v8 v9 v10 v11 v12 v13 wr => ∃ k : Nat, vi = .int .i64 ((k : Int) - 1) ∧ k ≤ i ∧ Below w.heap.size w wr ∧ Row2 wr w.heap.size 24 (.int .i64 id) (.slice A i c) ∧ Boxed wr bw 26 (.int .i64 (k : Int)) ∧ Boxed wr bs 26 (.int .i64 (i : Int))) (fun vi _ _ _ _ _ _ _ => (intOf vi + 1).toNat)
        case atStart => exact ⟨i, rfl, Nat.le_refl _, HB205.out, RU_205.out, RW_205.out, RS_205.out⟩
        case round =>
          clear HB205 RU_205 RW_205 RS_205
          obtain ⟨k, rfl, hk, hb, hu, hw, hs⟩ := hrel
          have HBa := Lib.hid hb
          have RUa := Lib.hid hu
          have RWa := Lib.hid hw
          have RSa := Lib.hid hs
          have cU1 := hu.c1
          have cU0 := hu.c0
          have cW := hw.cell
          have cS := hs.cell
          have fS := hs.frozen
          clear hb hu hw hs
          by_cases hk0 : k = 0
          · subst hk0
            have t3 : ¬ (0 : Int) ≤ (((0 : Nat) : Int) - 1) := by decide
            go_wp2_with fail
            clear cU1 cU0 cW cS fS
            refine (JPE.out _ HBa.out).mono ?_
            rintro e w401 ⟨rfl, hb⟩
            have HB401 := Lib.hid (eb_of HBa.out hb (by first | exact Nat.le_refl _ | exact HBa.out.size))
            have RU_401 := Lib.hid (Row2.below RUa.out hb (Nat.le_refl _))
            have RW_401 := Lib.hid (box_below RWa.out hb (Nat.le_refl _))
            have RS_401 := Lib.hid (box_below RSa.out hb (Nat.le_refl _))
            clear HBa RUa RWa RSa
            clear hb
            have cS := RS_401.out.cell
            have fS := RS_401.out.frozen
            have HB402 := Lib.hid (HB401.out.setCell (p := ⟨bs, 0, none⟩) (by show _ ≤ bs; have := LS.out; omega) (.int .i64 0))
            have RU_402 := Lib.hid (other2 (g := bs) RU_401.out (by have := LS.out; have := LWS.out; omega) (.int .i64 0))
            have RW_402 := Lib.hid (other1 (g := bs) RW_401.out (by have := LS.out; have := LWS.out; omega) (.int .i64 0))
            have RS_402 := Lib.hid (RS_401.out.set (.int .i64 0))
            clear HB401 RU_401 RW_401 RS_401
            have cU0 := RU_402.out.c0
            have cU1 := RU_402.out.c1
            go_wp2_with fail
            clear cS fS cU0 cU1
            refine (JI.out _ HB402.out).mono ?_
            rintro e w403 ⟨rfl, hb⟩
            have HB403 := Lib.hid (eb_of HB402.out hb (by first | exact Nat.le_refl _ | exact HB402.out.size))
            have RU_403 := Lib.hid (Row2.below RU_402.out hb (Nat.le_refl _))
            have RW_403 := Lib.hid (box_below RW_402.out hb (Nat.le_refl _))
            have RS_403 := Lib.hid (box_below RS_402.out hb (Nat.le_refl _))
            clear HB402 RU_402 RW_402 RS_402
            clear hb
            have LV : Hid (w.heap.size + 1 ≤ w403.heap.size) := Lib.hid (by have := RU_403.out.lt; (try simp only [World.size_alloc] at this); omega)
            have hb := alloc_below w403 (.cells #[.int .i64 0] 26)
            have HB404 := Lib.hid (eb_of HB403.out hb (by first | exact Nat.le_refl _ | exact HB403.out.size))
            have RU_404 := Lib.hid (Row2.below RU_403.out hb (Nat.le_refl _))
            have RW_404 := Lib.hid (box_below RW_403.out hb (Nat.le_refl _))
            have RS_404 := Lib.hid (box_below RS_403.out hb (Nat.le_refl _))
            clear HB403 RU_403 RW_403 RS_403
            clear hb
            have RV_404 : Hid (Boxed (w403.alloc (.cells #[.int .i64 0] 26)) (w403.heap.size) 26 (.int .i64 0)) := Lib.hid (heap_alloc_new _ _)
            have cU0 := RU_404.out.c0
            have cU1 := RU_404.out.c1
            have cW := RW_404.out.cell
            have fW := RW_404.out.frozen
            have cS := RS_404.out.cell
            have fS := RS_404.out.frozen
            have cV := RV_404.out.cell
            have fV := RV_404.out.frozen
            go_wp2_with fail
            clear cU0 cU1 cW fW cS fS cV fV
            refine (JW.out _).mono ?_
            rintro e w405 ⟨rfl, hb⟩
            have HB405 := Lib.hid (eb_of HB404.out hb (by first | exact Nat.le_refl _ | exact HB404.out.size))
            have RU_405 := Lib.hid (Row2.below RU_404.out hb (Nat.le_refl _))
            have RW_405 := Lib.hid (box_below RW_404.out hb (Nat.le_refl _))
            have RS_405 := Lib.hid (box_below RS_404.out hb (Nat.le_refl _))
            have RV_405 := Lib.hid (box_below RV_404.out hb (Nat.le_refl _))
            clear HB404 RU_404 RW_404 RS_404 RV_404
            clear hb
            go_wp2_with fail
            go_ret
            exact ⟨by first | rfl | (simp; done), HB405.out⟩
          have t3 : (0 : Int) ≤ (k : Int) - 1 := by omega
          obtain ⟨j, hj⟩ : ∃ j, k = j + 1 := ⟨k - 1, by omega⟩
          have HJ := Lib.hid hj.symm
          have hjn : j < i := by omega
          have e1 : (k : Int) - 1 = (j : Int) := by omega
          have hix : j < xs.length := by rw [HNN.out]; exact hjn
          obtain ⟨⟨xk, xv, xd, xq⟩, hxi⟩ : ∃ y, xs[j] = y := ⟨_, rfl⟩
          have HXE : Hid (entR xs j = (xk, xv, xd, xq)) := Lib.hid (by rw [entR_eq hix, hxi])
          have HCL : Hid (∀ w2, Below w.heap.size w w2 → ∃ b off, A = some ⟨b, off, none⟩ ∧ w2.cell? ⟨b, off + j * 4, none⟩ = some (.string xk) ∧ w2.cell? ⟨b, off + j * 4 + 1, none⟩ = some (.string xv) ∧ w2.cell? ⟨b, off + j * 4 + 2, none⟩ = some (.bool xd) ∧ w2.cell? ⟨b, off + j * 4 + 3, none⟩ = some (.int .i64 xq)) := Lib.hid (fun w2 h => by
            rcases JX.out w2 h with h0 | ⟨b, off, e, _, hc⟩
            · rw [h0] at hix; simp at hix
            · have := hc j hix; rw [hxi] at this; exact ⟨b, off, e, this⟩)
          have HIX := Lib.hid hjn
          rw [e1] at t3 ⊢
          have HE1 := Lib.hid e1
          clear hix hxi hj e1
          go_wp2_with fail
          clear cU1 cU0 cW cS fS
          refine (JP.out j k (xk, xv, xd, xq) _ HIX.out HJ.out HXE.out HBa.out).mono ?_
          rintro e w301 ⟨rfl, hb⟩
          have HB301 := Lib.hid (eb_of HBa.out hb (by first | exact Nat.le_refl _ | exact HBa.out.size))
          have RU_301 := Lib.hid (Row2.below RUa.out hb (Nat.le_refl _))
          have RW_301 := Lib.hid (box_below RWa.out hb (Nat.le_refl _))
          have RS_301 := Lib.hid (box_below RSa.out hb (Nat.le_refl _))
          clear HBa RUa RWa RSa
          clear hb
          have LX : Hid (w.heap.size + 1 ≤ w301.heap.size) := Lib.hid (by have := RU_301.out.lt; (try simp only [World.size_alloc] at this); omega)
          have hb := alloc_below w301 (.cells #[.string xk, .string xv, .bool xd, .int .i64 xq] 34)
          have HB302 := Lib.hid (eb_of HB301.out hb (by first | exact Nat.le_refl _ | exact HB301.out.size))
          have RU_302 := Lib.hid (Row2.below RU_301.out hb (Nat.le_refl _))
          have RW_302 := Lib.hid (box_below RW_301.out hb (Nat.le_refl _))
          have RS_302 := Lib.hid (box_below RS_301.out hb (Nat.le_refl _))
          clear HB301 RU_301 RW_301 RS_301
          clear hb
          have RX_302 : Hid (Row4 (w301.alloc (.cells #[.string xk, .string xv, .bool xd, .int .i64 xq] 34)) (w301.heap.size) 34 (.string xk) (.string xv) (.bool xd) (.int .i64 xq)) := Lib.hid (heap_alloc_new _ _)
          have LN : Hid (w.heap.size + 1 ≤ w301.heap.size + 1) := Lib.hid (by have := RU_302.out.lt; (try simp only [World.size_alloc] at this); omega)
          have hb := alloc_below (w301.alloc (.cells #[.string xk, .string xv, .bool xd, .int .i64 xq] 34)) (.cells #[.int .i64 (j : Int)] 26)
          have HB303 := Lib.hid (eb_of HB302.out hb (by first | exact Nat.le_refl _ | exact HB302.out.size))
          have RU_303 := Lib.hid (Row2.below RU_302.out hb (Nat.le_refl _))
          have RW_303 := Lib.hid (box_below RW_302.out hb (Nat.le_refl _))
          have RS_303 := Lib.hid (box_below RS_302.out hb (Nat.le_refl _))
          have RX_303 := Lib.hid (Row4.below RX_302.out hb (Nat.le_refl _))
          clear HB302 RU_302 RW_302 RS_302 RX_302
          clear hb
          have RN_303 : Hid (Boxed ((w301.alloc (.cells #[.string xk, .string xv, .bool xd, .int .i64 xq] 34)).alloc (.cells #[.int .i64 (j : Int)] 26)) (w301.heap.size + 1) 26 (.int .i64 (j : Int))) := Lib.hid (by
            have hq := heap_alloc_new (w301.alloc (.cells #[.string xk, .string xv, .bool xd, .int .i64 xq] 34)) (.cells #[.int .i64 (j : Int)] 26)
            simp only [World.size_alloc] at hq
            exact hq)
          have cU0 := RU_303.out.c0
          have cU1 := RU_303.out.c1
          have cW := RW_303.out.cell
          have fW := RW_303.out.frozen
          have cX0 := RX_303.out.c0
          have cX1 := RX_303.out.c1
          have cX2 := RX_303.out.c2
          have cX3 := RX_303.out.c3
          have cN := RN_303.out.cell
          have fN := RN_303.out.frozen
          go_wp2_with fail
          clear cU0 cU1 cW fW cX0 cX1 cX2 cX3 cN fN
          refine (JN.out j k (xk, xv, xd, xq) _ HIX.out HJ.out HXE.out HB303.out).mono ?_
          rintro e w304 ⟨rfl, hb⟩
          have HB304 := Lib.hid (eb_of HB303.out hb (by first | exact Nat.le_refl _ | exact HB303.out.size))
          have RU_304 := Lib.hid (Row2.below RU_303.out hb (Nat.le_refl _))
          have RW_304 := Lib.hid (box_below RW_303.out hb (Nat.le_refl _))
          have RS_304 := Lib.hid (box_below RS_303.out hb (Nat.le_refl _))
          have RX_304 := Lib.hid (Row4.below RX_303.out hb (Nat.le_refl _))
          have RN_304 := Lib.hid (box_below RN_303.out hb (Nat.le_refl _))
          clear HB303 RU_303 RW_303 RS_303 RX_303 RN_303
          clear hb
          have LY : Hid (w.heap.size + 1 ≤ w304.heap.size) := Lib.hid (by have := RU_304.out.lt; (try simp only [World.size_alloc] at this); omega)
          have hb := alloc_below w304 (.cells #[.string xk, .string xv, .bool xd, .int .i64 xq] 34)
          have HB305 := Lib.hid (eb_of HB304.out hb (by first | exact Nat.le_refl _ | exact HB304.out.size))
          have RU_305 := Lib.hid (Row2.below RU_304.out hb (Nat.le_refl _))
          have RW_305 := Lib.hid (box_below RW_304.out hb (Nat.le_refl _))
          have RS_305 := Lib.hid (box_below RS_304.out hb (Nat.le_refl _))
          have RX_305 := Lib.hid (Row4.below RX_304.out hb (Nat.le_refl _))
          have RN_305 := Lib.hid (box_below RN_304.out hb (Nat.le_refl _))
          clear HB304 RU_304 RW_304 RS_304 RX_304 RN_304
          clear hb
          have RY_305 : Hid (Row4 (w304.alloc (.cells #[.string xk, .string xv, .bool xd, .int .i64 xq] 34)) (w304.heap.size) 34 (.string xk) (.string xv) (.bool xd) (.int .i64 xq)) := Lib.hid (heap_alloc_new _ _)
          have LM : Hid (w.heap.size + 1 ≤ w304.heap.size + 1) := Lib.hid (by have := RU_305.out.lt; (try simp only [World.size_alloc] at this); omega)
          have hb := alloc_below (w304.alloc (.cells #[.string xk, .string xv, .bool xd, .int .i64 xq] 34)) (.cells #[.int .i64 (k : Int)] 26)
          have HB306 := Lib.hid (eb_of HB305.out hb (by first | exact Nat.le_refl _ | exact HB305.out.size))
          have RU_306 := Lib.hid (Row2.below RU_305.out hb (Nat.le_refl _))
          have RW_306 := Lib.hid (box_below RW_305.out hb (Nat.le_refl _))
          have RS_306 := Lib.hid (box_below RS_305.out hb (Nat.le_refl _))
          have RX_306 := Lib.hid (Row4.below RX_305.out hb (Nat.le_refl _))
          have RN_306 := Lib.hid (box_below RN_305.out hb (Nat.le_refl _))
          have RY_306 := Lib.hid (Row4.below RY_305.out hb (Nat.le_refl _))
          clear HB305 RU_305 RW_305 RS_305 RX_305 RN_305 RY_305
          clear hb
          have RM_306 : Hid (Boxed ((w304.alloc (.cells #[.string xk, .string xv, .bool xd, .int .i64 xq] 34)).alloc (.cells #[.int .i64 (k : Int)] 26)) (w304.heap.size + 1) 26 (.int .i64 (k : Int))) := Lib.hid (by
            have hq := heap_alloc_new (w304.alloc (.cells #[.string xk, .string xv, .bool xd, .int .i64 xq] 34)) (.cells #[.int .i64 (k : Int)] 26)
            simp only [World.size_alloc] at hq
            exact hq)
          have cU0 := RU_306.out.c0
          have cU1 := RU_306.out.c1
          have cW := RW_306.out.cell
          have fW := RW_306.out.frozen
          have cX0 := RX_306.out.c0
          have cX1 := RX_306.out.c1
          have cX2 := RX_306.out.c2
          have cX3 := RX_306.out.c3
          have cN := RN_306.out.cell
          have fN := RN_306.out.frozen
          have cY0 := RY_306.out.c0
          have cY1 := RY_306.out.c1
          have cY2 := RY_306.out.c2
          have cY3 := RY_306.out.c3
          have cM := RM_306.out.cell
          have fM := RM_306.out.frozen
          obtain ⟨b, off, rfl, d0, d1, d2, d3⟩ := HCL.out _ HB306.out
          go_wp2_with fail
          go_quiet (fail)
          go_wp2_with fail
          clear cU0 cU1 cW fW cX0 cX1 cX2 cX3 cN fN cY0 cY1 cY2 cY3 cM fM d0 d1 d2 d3
          have hb := below_drewN' (w := ((w304.alloc (.cells #[.string xk, .string xv, .bool xd, .int .i64 xq] 34)).alloc (.cells #[.int .i64 (k : Int)] 26))) nq
          have HB307 := Lib.hid (eb_of HB306.out hb (by first | exact Nat.le_refl _ | exact HB306.out.size))
          have RU_307 := Lib.hid (Row2.below RU_306.out hb (Nat.le_refl _))
          have RW_307 := Lib.hid (box_below RW_306.out hb (Nat.le_refl _))
          have RS_307 := Lib.hid (box_below RS_306.out hb (Nat.le_refl _))
          have RX_307 := Lib.hid (Row4.below RX_306.out hb (Nat.le_refl _))
          have RN_307 := Lib.hid (box_below RN_306.out hb (Nat.le_refl _))
          have RY_307 := Lib.hid (Row4.below RY_306.out hb (Nat.le_refl _))
          have RM_307 := Lib.hid (box_below RM_306.out hb (Nat.le_refl _))
          clear HB306 RU_306 RW_306 RS_306 RX_306 RN_306 RY_306 RM_306
          clear hb
          have HB308 := Lib.hid (HB307.out.setCell (p := ⟨bw, 0, none⟩) (by show _ ≤ bw; have := LW.out; omega) (.int .i64 (j : Int)))
          have RU_308 := Lib.hid (other2 (g := bw) RU_307.out (by have := LW.out; have := LWS.out; omega) (.int .i64 (j : Int)))
          have RW_308 := Lib.hid (RW_307.out.set (.int .i64 (j : Int)))
          have RS_308 := Lib.hid (other1 (g := bw) RS_307.out (by have := LW.out; have := LWS.out; omega) (.int .i64 (j : Int)))
          clear HB307 RU_307 RW_307 RS_307
          exact ⟨⟨j, congrArg (Value.int IntKind.i64) (by have := HJ.out; omega), by have := HJ.out; omega, HB308.out, RU_308.out, RW_308.out, RS_308.out⟩, by have := HJ.out; first | (simp [intOf]; done) | (simp [intOf]; omega)⟩
      have t2 : (i : Int) < (n : Int) := by omega
      have hix : i < xs.length := by rw [HNN.out]; exact hin
      obtain ⟨⟨xk, xv, xd, xq⟩, hxi⟩ : ∃ y, xs[i] = y := ⟨_, rfl⟩
      have HXE : Hid (entR xs i = (xk, xv, xd, xq)) := Lib.hid (by rw [entR_eq hix, hxi])
      have HCL : Hid (∀ w2, Below w.heap.size w w2 → ∃ b off, A = some ⟨b, off, none⟩ ∧ w2.cell? ⟨b, off + i * 4, none⟩ = some (.string xk) ∧ w2.cell? ⟨b, off + i * 4 + 1, none⟩ = some (.string xv) ∧ w2.cell? ⟨b, off + i * 4 + 2, none⟩ = some (.bool xd) ∧ w2.cell? ⟨b, off + i * 4 + 3, none⟩ = some (.int .i64 xq)) := Lib.hid (fun w2 h => by
        rcases JX.out w2 h with h0 | ⟨b, off, e, _, hc⟩
        · rw [h0] at hix; simp at hix
        · have := hc i hix; rw [hxi] at this; exact ⟨b, off, e, this⟩)
      have HIX := Lib.hid hin
      obtain ⟨j, hj⟩ : ∃ j, i + 1 = j := ⟨_, rfl⟩
      have HJ := Lib.hid hj
      clear hj
      clear hix hxi
      go_wp2_with fail
      clear cU1 cU0 cW
      refine (JN.out i j (xk, xv, xd, xq) _ HIX.out HJ.out HXE.out HBa.out).mono ?_
      rintro e w101 ⟨rfl, hb⟩
      have HB101 := Lib.hid (eb_of HBa.out hb (by first | exact Nat.le_refl _ | exact HBa.out.size))
      have RU_101 := Lib.hid (Row2.below RUa.out hb (Nat.le_refl _))
      have RW_101 := Lib.hid (box_below RWa.out hb (Nat.le_refl _))
      clear HBa RUa RWa
      clear hb
      have LX : Hid (w.heap.size + 1 ≤ w101.heap.size) := Lib.hid (by have := RU_101.out.lt; (try simp only [World.size_alloc] at this); omega)
      have hb := alloc_below w101 (.cells #[.string xk, .string xv, .bool xd, .int .i64 xq] 34)
      have HB102 := Lib.hid (eb_of HB101.out hb (by first | exact Nat.le_refl _ | exact HB101.out.size))
      have RU_102 := Lib.hid (Row2.below RU_101.out hb (Nat.le_refl _))
      have RW_102 := Lib.hid (box_below RW_101.out hb (Nat.le_refl _))
      clear HB101 RU_101 RW_101
      clear hb
      have RX_102 : Hid (Row4 (w101.alloc (.cells #[.string xk, .string xv, .bool xd, .int .i64 xq] 34)) (w101.heap.size) 34 (.string xk) (.string xv) (.bool xd) (.int .i64 xq)) := Lib.hid (heap_alloc_new _ _)
      have LN : Hid (w.heap.size + 1 ≤ w101.heap.size + 1) := Lib.hid (by have := RU_102.out.lt; (try simp only [World.size_alloc] at this); omega)
      have hb := alloc_below (w101.alloc (.cells #[.string xk, .string xv, .bool xd, .int .i64 xq] 34)) (.cells #[.int .i64 (j : Int)] 26)
      have HB103 := Lib.hid (eb_of HB102.out hb (by first | exact Nat.le_refl _ | exact HB102.out.size))
      have RU_103 := Lib.hid (Row2.below RU_102.out hb (Nat.le_refl _))
      have RW_103 := Lib.hid (box_below RW_102.out hb (Nat.le_refl _))
      have RX_103 := Lib.hid (Row4.below RX_102.out hb (Nat.le_refl _))
      clear HB102 RU_102 RW_102 RX_102
      clear hb
      have RN_103 : Hid (Boxed ((w101.alloc (.cells #[.string xk, .string xv, .bool xd, .int .i64 xq] 34)).alloc (.cells #[.int .i64 (j : Int)] 26)) (w101.heap.size + 1) 26 (.int .i64 (j : Int))) := Lib.hid (by
        have hq := heap_alloc_new (w101.alloc (.cells #[.string xk, .string xv, .bool xd, .int .i64 xq] 34)) (.cells #[.int .i64 (j : Int)] 26)
        simp only [World.size_alloc] at hq
        exact hq)
      have cU0 := RU_103.out.c0
      have cU1 := RU_103.out.c1
      have cW := RW_103.out.cell
      have fW := RW_103.out.frozen
      have cX0 := RX_103.out.c0
      have cX1 := RX_103.out.c1
      have cX2 := RX_103.out.c2
      have cX3 := RX_103.out.c3
      have cN := RN_103.out.cell
      have fN := RN_103.out.frozen
      go_wp2_with fail
      clear cU0 cU1 cW fW cX0 cX1 cX2 cX3 cN fN
      refine (JP.out i j (xk, xv, xd, xq) _ HIX.out HJ.out HXE.out HB103.out).mono ?_
      rintro e w104 ⟨rfl, hb⟩
      have HB104 := Lib.hid (eb_of HB103.out hb (by first | exact Nat.le_refl _ | exact HB103.out.size))
      have RU_104 := Lib.hid (Row2.below RU_103.out hb (Nat.le_refl _))
      have RW_104 := Lib.hid (box_below RW_103.out hb (Nat.le_refl _))
      have RX_104 := Lib.hid (Row4.below RX_103.out hb (Nat.le_refl _))
      have RN_104 := Lib.hid (box_below RN_103.out hb (Nat.le_refl _))
      clear HB103 RU_103 RW_103 RX_103 RN_103
      clear hb
      have LY : Hid (w.heap.size + 1 ≤ w104.heap.size) := Lib.hid (by have := RU_104.out.lt; (try simp only [World.size_alloc] at this); omega)
      have hb := alloc_below w104 (.cells #[.string xk, .string xv, .bool xd, .int .i64 xq] 34)
      have HB105 := Lib.hid (eb_of HB104.out hb (by first | exact Nat.le_refl _ | exact HB104.out.size))
      have RU_105 := Lib.hid (Row2.below RU_104.out hb (Nat.le_refl _))
      have RW_105 := Lib.hid (box_below RW_104.out hb (Nat.le_refl _))
      have RX_105 := Lib.hid (Row4.below RX_104.out hb (Nat.le_refl _))
      have RN_105 := Lib.hid (box_below RN_104.out hb (Nat.le_refl _))
      clear HB104 RU_104 RW_104 RX_104 RN_104
      clear hb
      have RY_105 : Hid (Row4 (w104.alloc (.cells #[.string xk, .string xv, .bool xd, .int .i64 xq] 34)) (w104.heap.size) 34 (.string xk) (.string xv) (.bool xd) (.int .i64 xq)) := Lib.hid (heap_alloc_new _ _)
      have LM : Hid (w.heap.size + 1 ≤ w104.heap.size + 1) := Lib.hid (by have := RU_105.out.lt; (try simp only [World.size_alloc] at this); omega)
      have hb := alloc_below (w104.alloc (.cells #[.string xk, .string xv, .bool xd, .int .i64 xq] 34)) (.cells #[.int .i64 (i : Int)] 26)
      have HB106 := Lib.hid (eb_of HB105.out hb (by first | exact Nat.le_refl _ | exact HB105.out.size))
      have RU_106 := Lib.hid (Row2.below RU_105.out hb (Nat.le_refl _))
      have RW_106 := Lib.hid (box_below RW_105.out hb (Nat.le_refl _))
      have RX_106 := Lib.hid (Row4.below RX_105.out hb (Nat.le_refl _))
      have RN_106 := Lib.hid (box_below RN_105.out hb (Nat.le_refl _))
      have RY_106 := Lib.hid (Row4.below RY_105.out hb (Nat.le_refl _))
      clear HB105 RU_105 RW_105 RX_105 RN_105 RY_105
      clear hb
      have RM_106 : Hid (Boxed ((w104.alloc (.cells #[.string xk, .string xv, .bool xd, .int .i64 xq] 34)).alloc (.cells #[.int .i64 (i : Int)] 26)) (w104.heap.size + 1) 26 (.int .i64 (i : Int))) := Lib.hid (by
        have hq := heap_alloc_new (w104.alloc (.cells #[.string xk, .string xv, .bool xd, .int .i64 xq] 34)) (.cells #[.int .i64 (i : Int)] 26)
        simp only [World.size_alloc] at hq
        exact hq)
      have cU0 := RU_106.out.c0
      have cU1 := RU_106.out.c1
      have cW := RW_106.out.cell
      have fW := RW_106.out.frozen
      have cX0 := RX_106.out.c0
      have cX1 := RX_106.out.c1
      have cX2 := RX_106.out.c2
      have cX3 := RX_106.out.c3
      have cN := RN_106.out.cell
      have fN := RN_106.out.frozen
      have cY0 := RY_106.out.c0
      have cY1 := RY_106.out.c1
      have cY2 := RY_106.out.c2
      have cY3 := RY_106.out.c3
      have cM := RM_106.out.cell
      have fM := RM_106.out.frozen
      obtain ⟨b, off, rfl, d0, d1, d2, d3⟩ := HCL.out _ HB106.out
      go_wp2_with fail
      go_quiet (fail)
      go_wp2_with fail
      clear cU0 cU1 cW fW cX0 cX1 cX2 cX3 cN fN cY0 cY1 cY2 cY3 cM fM d0 d1 d2 d3
      have hb := below_drewN' (w := ((w104.alloc (.cells #[.string xk, .string xv, .bool xd, .int .i64 xq] 34)).alloc (.cells #[.int .i64 (i : Int)] 26))) nq
      have HB107 := Lib.hid (eb_of HB106.out hb (by first | exact Nat.le_refl _ | exact HB106.out.size))
      have RU_107 := Lib.hid (Row2.below RU_106.out hb (Nat.le_refl _))
      have RW_107 := Lib.hid (box_below RW_106.out hb (Nat.le_refl _))
      have RX_107 := Lib.hid (Row4.below RX_106.out hb (Nat.le_refl _))
      have RN_107 := Lib.hid (box_below RN_106.out hb (Nat.le_refl _))
      have RY_107 := Lib.hid (Row4.below RY_106.out hb (Nat.le_refl _))
      have RM_107 := Lib.hid (box_below RM_106.out hb (Nat.le_refl _))
      clear HB106 RU_106 RW_106 RX_106 RN_106 RY_106 RM_106
      clear hb
      have HB108 := Lib.hid (HB107.out.setCell (p := ⟨bw, 0, none⟩) (by show _ ≤ bw; have := LW.out; omega) (.int .i64 (j : Int)))
      have RU_108 := Lib.hid (other2 (g := bw) RU_107.out (by have := LW.out; omega) (.int .i64 (j : Int)))
      have RW_108 := Lib.hid (RW_107.out.set (.int .i64 (j : Int)))
      clear HB107 RU_107 RW_107
      exact ⟨⟨j, congrArg (Value.int IntKind.i64) (by have := HJ.out; omega), by have := HJ.out; omega, HB108.out, RU_108.out, RW_108.out⟩, by have := HJ.out; simp [intOf]; omega⟩
end Go.Proofs.Yticdechdgpfdfaa.KK
