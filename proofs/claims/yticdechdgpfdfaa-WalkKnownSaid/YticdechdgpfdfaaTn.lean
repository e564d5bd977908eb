/-
  WalkSkips: the walk.
-/
import Derived.Test.YticdechdgpfdfaaTm
namespace Go.Proofs.Yticdechdgpfdfaa.KK
open Go.ChangeShapes Go.WideShapes Go.ChangeAt Go.RowKit Go.Proofs Go.Sort

/-- boxes: a run, a cursor, two values -/
theorem boxUCP (id : Int) (B : Option Addr) (n d : Nat) (k : Int) (u v : Value) (t : TypeId) (w : World) : ∃ w1, ((w.alloc (.cells #[.int .i64 id, .slice B n d] 24)).alloc (.cells #[.int .i64 k] 26)).alloc (.cells #[u, v] t) = w1 ∧
    Row2 w1 w.heap.size 24 (.int .i64 id) (.slice B n d) ∧ Boxed w1 (w.heap.size + 1) 26 (.int .i64 k) ∧ Row2 w1 (w.heap.size + 2) t u v ∧ w1.heap.size = w.heap.size + 3 ∧ Below w.heap.size w w1 := by
  obtain ⟨wa, ea, r0, r1, hs, hb⟩ := boxUC id B n d k w
  rw [ea]
  have c := Row2.new wa t u v
  have hc := alloc_below wa (.cells #[u, v] t)
  exact ⟨_, rfl, r0.below hc (Nat.le_refl _), box_below r1 hc (Nat.le_refl _), by rw [show w.heap.size + 2 = wa.heap.size by omega]; exact c, by simp; omega, eb_of hb hc (by omega)⟩
theorem skip_hit {id : Int} {xs : List El.En} {k : Nat} {back : Bool} {q : El.En → Bool} (h : curE id xs k = 0) {i : Nat} (hi : i < (ahL xs k back).length) (g : ∀ j (hj : j < (ahL xs k back).length), j < i → q (ahL xs k back)[j].1 = false) (hy : q (ahL xs k back)[i].1 = true) : goE id xs k back q = ((ahL xs k back)[i].1, ((plcW k back (i + 1) : Nat) : Int), 0) := by
  have hi' := hi
  rw [ahL_length] at hi'
  have e := goE_some (q := q) (y := (ahL xs k back)[i]) (pre := (ahL xs k back).take i) h (by rw [← List.take_succ_eq_append_getElem hi]; exact List.take_prefix _ _) (fun y hy => by
    obtain ⟨j, hj, rfl⟩ := List.mem_iff_getElem.1 hy
    rw [List.getElem_take]
    rw [List.length_take] at hj
    exact g j (by omega) (by omega)) hy
  rw [e]
  have : (ahL xs k back)[i].2 = plcW k back (i + 1) := by rw [ahL_at]; exact plc_next hi'
  rw [this]
theorem skip_miss {id : Int} {xs : List El.En} {k : Nat} {back : Bool} {q : El.En → Bool} (h : curE id xs k = 0) (g : ∀ j (hj : j < (ahL xs k back).length), q (ahL xs k back)[j].1 = false) : goE id xs k back q = (El.none, (k : Int), 12) :=
  goE_none h (fun y hy => by obtain ⟨j, hj, rfl⟩ := List.mem_iff_getElem.1 hy; exact g j hj)
theorem skip_hitS {id : Int} {xs : List El.En} {k : Nat} {back : Bool} {q : El.En → Bool} {S : List (El.En × Nat)} (hS : ahL xs k back = S) (h : curE id xs k = 0) (i : Nat) (hi : i < S.length) (g : ∀ j (hj : j < S.length), j < i → q S[j].1 = false) (hy : q S[i].1 = true) : goE id xs k back q = (S[i].1, ((plcW k back (i + 1) : Nat) : Int), 0) := by
  subst hS; exact skip_hit h hi g hy
theorem skip_missS {id : Int} {xs : List El.En} {k : Nat} {back : Bool} {q : El.En → Bool} {S : List (El.En × Nat)} (hS : ahL xs k back = S) (h : curE id xs k = 0) (g : ∀ j (hj : j < S.length), q S[j].1 = false) : goE id xs k back q = (El.none, (k : Int), 12) := by
  subst hS; exact skip_miss h g
theorem take_all {id : Int} {xs : List El.En} {k : Nat} {c : Int} {back : Bool} (h : curE id xs k = 0) (hc : c = if back = true then -5000 else 5000) (hl : xs.length ≤ 5000) (hk : k ≤ xs.length) : (takE id xs k c).1 = (ahL xs k back).map (·.1) ∧ (takE id xs k c).2.2 = 0 := by
  have hd : decide (c < 0) = back := by subst hc; cases back <;> rfl
  have hn : c.natAbs = 5000 := by subst hc; cases back <;> rfl
  rw [takE_ok h (by subst hc; cases back <;> decide), hd, hn]
  refine ⟨?_, rfl⟩
  simp only
  rw [List.take_of_length_le (by rw [ahL_length]; unfold ahN; split <;> omega)]
set_option maxRecDepth 100000 in
set_option maxHeartbeats 16000000 in
theorem Skips9_any (id : Int) (A : Option Addr) (c : Nat) (xs : List El.En) (k : Int) (dead back : Bool) (w : World) (hf : EsAt w A xs) (hn : xs.length ≤ 9223372036854775807) (hs : Sized xs) :
    Calls Try.prog 9 #[.agg #[.int .i64 id, .slice A xs.length c], .agg #[.int .i64 k], .agg #[.bool dead, .bool back]] w fun e w' => e = .returned (.bool true) ∧ Below w.heap.size w w' := by
  have JF := Lib.hid (fun w1 (h : Below w.heap.size w w1) => far8_any id A c xs w1 (hf.below h (Nat.le_refl _)) hn hs)
  have JW := Lib.hid (fun w => awake9_any w)
  obtain ⟨w0, hw0, r0, b0, r2, hsz, hb⟩ := boxUCP id A xs.length c k (.bool dead) (.bool back) 57 w
  have HB := Lib.hid hb
  have RU := Lib.hid r0
  have RK := Lib.hid b0
  have RP := Lib.hid r2
  have x0 := r0.c0
  have x1 := r0.c1
  have x2 := b0.cell
  have x3 := r2.c0
  have x4 := r2.c1
  clear r0 b0 r2 hsz hb
  cases hfar : farF xs with
  | true =>
    rw [hfar] at JF
    clear hfar hf hs
    generalize xs.length = n at *
    go_enter Try.func9, Try.ntmps9
    go_wp2_with fail
    clear x0 x1 x2 x3 x4
    refine (JF.out _ HB.out).mono ?_
    rintro e w1 ⟨rfl, hb⟩
    have HB1 := Lib.hid (eb_of HB.out hb (by first | exact Nat.le_refl _ | exact HB.out.size))
    have RU_1 := Lib.hid (Row2.below RU.out hb (Nat.le_refl _))
    have RK_1 := Lib.hid (box_below RK.out hb (Nat.le_refl _))
    have RP_1 := Lib.hid (Row2.below RP.out hb (Nat.le_refl _))
    clear RU RK RP
    clear hb
    have cU0 := RU_1.out.c0
    have cU1 := RU_1.out.c1
    have cK := RK_1.out.cell
    have fK := RK_1.out.frozen
    have cP0 := RP_1.out.c0
    have cP1 := RP_1.out.c1
    go_wp2_with fail
    clear cU0 cU1 cK fK cP0 cP1
    refine (JW.out _).mono ?_
    rintro e w2 ⟨rfl, hb⟩
    have HB2 := Lib.hid (eb_of HB1.out hb (by first | exact Nat.le_refl _ | exact HB1.out.size))
    have RU_2 := Lib.hid (Row2.below RU_1.out hb (Nat.le_refl _))
    have RK_2 := Lib.hid (box_below RK_1.out hb (Nat.le_refl _))
    have RP_2 := Lib.hid (Row2.below RP_1.out hb (Nat.le_refl _))
    clear HB1 RU_1 RK_1 RP_1
    clear hb
    go_wp2_with fail
    go_ret
    exact ⟨by first | rfl | (simp; done), HB2.out⟩
  | false =>
    have hl5 := far_len hfar
    rw [hfar] at JF
    clear hfar
    by_cases h80 : 80 < xs.length
    · have t1 : (80 : Int) < (xs.length : Int) := by omega
      clear hf hs hl5
      generalize xs.length = n at *
      go_enter Try.func9, Try.ntmps9
      go_wp2_with fail
      clear x0 x1 x2 x3 x4
      refine (JF.out _ HB.out).mono ?_
      rintro e w1 ⟨rfl, hb⟩
      have HB1 := Lib.hid (eb_of HB.out hb (by first | exact Nat.le_refl _ | exact HB.out.size))
      have RU_1 := Lib.hid (Row2.below RU.out hb (Nat.le_refl _))
      have RK_1 := Lib.hid (box_below RK.out hb (Nat.le_refl _))
      have RP_1 := Lib.hid (Row2.below RP.out hb (Nat.le_refl _))
      clear RU RK RP
      clear hb
      have cU0 := RU_1.out.c0
      have cU1 := RU_1.out.c1
      have cK := RK_1.out.cell
      have fK := RK_1.out.frozen
      have cP0 := RP_1.out.c0
      have cP1 := RP_1.out.c1
      go_wp2_with fail
      clear cU0 cU1 cK fK cP0 cP1
      refine (JW.out _).mono ?_
      rintro e w2 ⟨rfl, hb⟩
      have HB2 := Lib.hid (eb_of HB1.out hb (by first | exact Nat.le_refl _ | exact HB1.out.size))
      have RU_2 := Lib.hid (Row2.below RU_1.out hb (Nat.le_refl _))
      have RK_2 := Lib.hid (box_below RK_1.out hb (Nat.le_refl _))
      have RP_2 := Lib.hid (Row2.below RP_1.out hb (Nat.le_refl _))
      clear HB1 RU_1 RK_1 RP_1
      clear hb
      go_wp2_with fail
      go_ret
      exact ⟨by first | rfl | (simp; done), HB2.out⟩
    have t1 : ¬ (80 : Int) < (xs.length : Int) := by omega
    have t1' : (xs.length : Int) ≤ 80 := by omega
    have hn5 : xs.length ≤ 4294967295 := by omega
    obtain ⟨al, hal⟩ : ∃ al : Int, al = if back = true then -5000 else 5000 := ⟨_, rfl⟩
    have JS := Lib.hid (fun w1 (h : Below w.heap.size w w1) => pSkip9_any id A c xs k dead back w1 (hf.below h (Nat.le_refl _)) hn5 hs)
    have JT := Lib.hid (fun w1 (h : Below w.heap.size w w1) => pTake9_any id A c xs k al w1 (hf.below h (Nat.le_refl _)) hn5 hs)
    unfold GoOut at JS
    unfold TakOut at JT
    by_cases h0 : curE id xs k = 0
    rotate_left
    · obtain ⟨n1, n2⟩ := ne_b h0
      rw [takE_no h0] at JT
      rw [goE_no h0] at JS
      simp only [entV, El.none, List.length_nil] at JS JT
      clear hf hs hl5 h0
      generalize curE id xs k = r2 at *
      generalize xs.length = n at *
      cases back with
      | false =>
        obtain rfl : al = 5000 := by simpa using hal
        clear hal
        go_enter Try.func9, Try.ntmps9
        go_wp2_with fail
        clear x0 x1 x2 x3 x4
        refine (JF.out _ HB.out).mono ?_
        rintro e w1 ⟨rfl, hb⟩
        have HB1 := Lib.hid (eb_of HB.out hb (by first | exact Nat.le_refl _ | exact HB.out.size))
        have RU_1 := Lib.hid (Row2.below RU.out hb (Nat.le_refl _))
        have RK_1 := Lib.hid (box_below RK.out hb (Nat.le_refl _))
        have RP_1 := Lib.hid (Row2.below RP.out hb (Nat.le_refl _))
        clear RU RK RP
        clear hb
        have cU0 := RU_1.out.c0
        have cU1 := RU_1.out.c1
        have cK := RK_1.out.cell
        have fK := RK_1.out.frozen
        have cP0 := RP_1.out.c0
        have cP1 := RP_1.out.c1
        go_wp2_with fail
        clear cU0 cU1 cK fK cP0 cP1
        refine (JS.out _ HB1.out).mono ?_
        rintro e w2 ⟨rfl, hb⟩
        have HB2 := Lib.hid (eb_of HB1.out hb (by first | exact Nat.le_refl _ | exact HB1.out.size))
        have RU_2 := Lib.hid (Row2.below RU_1.out hb (Nat.le_refl _))
        have RK_2 := Lib.hid (box_below RK_1.out hb (Nat.le_refl _))
        have RP_2 := Lib.hid (Row2.below RP_1.out hb (Nat.le_refl _))
        clear HB1 RU_1 RK_1 RP_1
        clear hb
        have LX : Hid (w.heap.size + 1 ≤ w2.heap.size) := Lib.hid (by have := RU_2.out.lt; (try simp only [World.size_alloc] at this); omega)
        have hb := alloc_below w2 (.cells #[.string ⟨#[]⟩, .string ⟨#[]⟩, .bool false, .int .i64 0] 34)
        have HB3 := Lib.hid (eb_of HB2.out hb (by first | exact Nat.le_refl _ | exact HB2.out.size))
        have RU_3 := Lib.hid (Row2.below RU_2.out hb (Nat.le_refl _))
        have RK_3 := Lib.hid (box_below RK_2.out hb (Nat.le_refl _))
        have RP_3 := Lib.hid (Row2.below RP_2.out hb (Nat.le_refl _))
        clear HB2 RU_2 RK_2 RP_2
        clear hb
        have RX_3 : Hid (Row4 (w2.alloc (.cells #[.string ⟨#[]⟩, .string ⟨#[]⟩, .bool false, .int .i64 0] 34)) (w2.heap.size) 34 (.string ⟨#[]⟩) (.string ⟨#[]⟩) (.bool false) (.int .i64 0)) := Lib.hid (heap_alloc_new _ _)
        have LT : Hid (w.heap.size + 1 ≤ w2.heap.size + 1) := Lib.hid (by have := RU_3.out.lt; (try simp only [World.size_alloc] at this); omega)
        have hb := alloc_below (w2.alloc (.cells #[.string ⟨#[]⟩, .string ⟨#[]⟩, .bool false, .int .i64 0] 34)) (.cells #[.int .i64 0] 26)
        have HB4 := Lib.hid (eb_of HB3.out hb (by first | exact Nat.le_refl _ | exact HB3.out.size))
        have RU_4 := Lib.hid (Row2.below RU_3.out hb (Nat.le_refl _))
        have RK_4 := Lib.hid (box_below RK_3.out hb (Nat.le_refl _))
        have RP_4 := Lib.hid (Row2.below RP_3.out hb (Nat.le_refl _))
        have RX_4 := Lib.hid (Row4.below RX_3.out hb (Nat.le_refl _))
        clear HB3 RU_3 RK_3 RP_3 RX_3
        clear hb
        have RT_4 : Hid (Boxed ((w2.alloc (.cells #[.string ⟨#[]⟩, .string ⟨#[]⟩, .bool false, .int .i64 0] 34)).alloc (.cells #[.int .i64 0] 26)) (w2.heap.size + 1) 26 (.int .i64 0)) := Lib.hid (by
          have hq := heap_alloc_new (w2.alloc (.cells #[.string ⟨#[]⟩, .string ⟨#[]⟩, .bool false, .int .i64 0] 34)) (.cells #[.int .i64 0] 26)
          simp only [World.size_alloc] at hq
          exact hq)
        have cU0 := RU_4.out.c0
        have cU1 := RU_4.out.c1
        have cK := RK_4.out.cell
        have fK := RK_4.out.frozen
        have cP0 := RP_4.out.c0
        have cP1 := RP_4.out.c1
        go_wp2_with fail
        clear cU0 cU1 cK fK cP0 cP1
        refine (JT.out _ HB4.out).mono ?_
        rintro e w5 ⟨A9, d9, rfl, hes, _, _, hb⟩
        have HB5 := Lib.hid (eb_of HB4.out hb (by first | exact Nat.le_refl _ | exact HB4.out.size))
        have RU_5 := Lib.hid (Row2.below RU_4.out hb (Nat.le_refl _))
        have RK_5 := Lib.hid (box_below RK_4.out hb (Nat.le_refl _))
        have RP_5 := Lib.hid (Row2.below RP_4.out hb (Nat.le_refl _))
        have RX_5 := Lib.hid (Row4.below RX_4.out hb (Nat.le_refl _))
        have RT_5 := Lib.hid (box_below RT_4.out hb (Nat.le_refl _))
        clear HB4 RU_4 RK_4 RP_4 RX_4 RT_4
        clear hb hes
        have LV : Hid (w.heap.size + 1 ≤ w5.heap.size) := Lib.hid (by have := RU_5.out.lt; (try simp only [World.size_alloc] at this); omega)
        have hb := alloc_below w5 (.cells #[.int .i64 0] 26)
        have HB6 := Lib.hid (eb_of HB5.out hb (by first | exact Nat.le_refl _ | exact HB5.out.size))
        have RU_6 := Lib.hid (Row2.below RU_5.out hb (Nat.le_refl _))
        have RK_6 := Lib.hid (box_below RK_5.out hb (Nat.le_refl _))
        have RP_6 := Lib.hid (Row2.below RP_5.out hb (Nat.le_refl _))
        have RX_6 := Lib.hid (Row4.below RX_5.out hb (Nat.le_refl _))
        have RT_6 := Lib.hid (box_below RT_5.out hb (Nat.le_refl _))
        clear HB5 RU_5 RK_5 RP_5 RX_5 RT_5
        clear hb
        have RV_6 : Hid (Boxed (w5.alloc (.cells #[.int .i64 0] 26)) (w5.heap.size) 26 (.int .i64 0)) := Lib.hid (heap_alloc_new _ _)
        have cU0 := RU_6.out.c0
        have cU1 := RU_6.out.c1
        have cK := RK_6.out.cell
        have fK := RK_6.out.frozen
        have cP0 := RP_6.out.c0
        have cP1 := RP_6.out.c1
        have cX0 := RX_6.out.c0
        have cX1 := RX_6.out.c1
        have cX2 := RX_6.out.c2
        have cX3 := RX_6.out.c3
        have cT := RT_6.out.cell
        have fT := RT_6.out.frozen
        go_wp2_with fail
        clear cU0 cU1 cK fK cP0 cP1 cX0 cX1 cX2 cX3 cT fT
        refine (JW.out _).mono ?_
        rintro e w7 ⟨rfl, hb⟩
        have HB7 := Lib.hid (eb_of HB6.out hb (by first | exact Nat.le_refl _ | exact HB6.out.size))
        have RU_7 := Lib.hid (Row2.below RU_6.out hb (Nat.le_refl _))
        have RK_7 := Lib.hid (box_below RK_6.out hb (Nat.le_refl _))
        have RP_7 := Lib.hid (Row2.below RP_6.out hb (Nat.le_refl _))
        have RX_7 := Lib.hid (Row4.below RX_6.out hb (Nat.le_refl _))
        have RT_7 := Lib.hid (box_below RT_6.out hb (Nat.le_refl _))
        have RV_7 := Lib.hid (box_below RV_6.out hb (Nat.le_refl _))
        clear HB6 RU_6 RK_6 RP_6 RX_6 RT_6 RV_6
        clear hb
        go_wp2_with fail
        go_ret
        exact ⟨by first | rfl | (simp; done), HB7.out⟩
      | true =>
        obtain rfl : al = -5000 := by simpa using hal
        clear hal
        go_enter Try.func9, Try.ntmps9
        go_wp2_with fail
        clear x0 x1 x2 x3 x4
        refine (JF.out _ HB.out).mono ?_
        rintro e w1 ⟨rfl, hb⟩
        have HB1 := Lib.hid (eb_of HB.out hb (by first | exact Nat.le_refl _ | exact HB.out.size))
        have RU_1 := Lib.hid (Row2.below RU.out hb (Nat.le_refl _))
        have RK_1 := Lib.hid (box_below RK.out hb (Nat.le_refl _))
        have RP_1 := Lib.hid (Row2.below RP.out hb (Nat.le_refl _))
        clear RU RK RP
        clear hb
        have cU0 := RU_1.out.c0
        have cU1 := RU_1.out.c1
        have cK := RK_1.out.cell
        have fK := RK_1.out.frozen
        have cP0 := RP_1.out.c0
        have cP1 := RP_1.out.c1
        go_wp2_with fail
        clear cU0 cU1 cK fK cP0 cP1
        refine (JS.out _ HB1.out).mono ?_
        rintro e w2 ⟨rfl, hb⟩
        have HB2 := Lib.hid (eb_of HB1.out hb (by first | exact Nat.le_refl _ | exact HB1.out.size))
        have RU_2 := Lib.hid (Row2.below RU_1.out hb (Nat.le_refl _))
        have RK_2 := Lib.hid (box_below RK_1.out hb (Nat.le_refl _))
        have RP_2 := Lib.hid (Row2.below RP_1.out hb (Nat.le_refl _))
        clear HB1 RU_1 RK_1 RP_1
        clear hb
        have LX : Hid (w.heap.size + 1 ≤ w2.heap.size) := Lib.hid (by have := RU_2.out.lt; (try simp only [World.size_alloc] at this); omega)
        have hb := alloc_below w2 (.cells #[.string ⟨#[]⟩, .string ⟨#[]⟩, .bool false, .int .i64 0] 34)
        have HB3 := Lib.hid (eb_of HB2.out hb (by first | exact Nat.le_refl _ | exact HB2.out.size))
        have RU_3 := Lib.hid (Row2.below RU_2.out hb (Nat.le_refl _))
        have RK_3 := Lib.hid (box_below RK_2.out hb (Nat.le_refl _))
        have RP_3 := Lib.hid (Row2.below RP_2.out hb (Nat.le_refl _))
        clear HB2 RU_2 RK_2 RP_2
        clear hb
        have RX_3 : Hid (Row4 (w2.alloc (.cells #[.string ⟨#[]⟩, .string ⟨#[]⟩, .bool false, .int .i64 0] 34)) (w2.heap.size) 34 (.string ⟨#[]⟩) (.string ⟨#[]⟩) (.bool false) (.int .i64 0)) := Lib.hid (heap_alloc_new _ _)
        have LT : Hid (w.heap.size + 1 ≤ w2.heap.size + 1) := Lib.hid (by have := RU_3.out.lt; (try simp only [World.size_alloc] at this); omega)
        have hb := alloc_below (w2.alloc (.cells #[.string ⟨#[]⟩, .string ⟨#[]⟩, .bool false, .int .i64 0] 34)) (.cells #[.int .i64 0] 26)
        have HB4 := Lib.hid (eb_of HB3.out hb (by first | exact Nat.le_refl _ | exact HB3.out.size))
        have RU_4 := Lib.hid (Row2.below RU_3.out hb (Nat.le_refl _))
        have RK_4 := Lib.hid (box_below RK_3.out hb (Nat.le_refl _))
        have RP_4 := Lib.hid (Row2.below RP_3.out hb (Nat.le_refl _))
        have RX_4 := Lib.hid (Row4.below RX_3.out hb (Nat.le_refl _))
        clear HB3 RU_3 RK_3 RP_3 RX_3
        clear hb
        have RT_4 : Hid (Boxed ((w2.alloc (.cells #[.string ⟨#[]⟩, .string ⟨#[]⟩, .bool false, .int .i64 0] 34)).alloc (.cells #[.int .i64 0] 26)) (w2.heap.size + 1) 26 (.int .i64 0)) := Lib.hid (by
          have hq := heap_alloc_new (w2.alloc (.cells #[.string ⟨#[]⟩, .string ⟨#[]⟩, .bool false, .int .i64 0] 34)) (.cells #[.int .i64 0] 26)
          simp only [World.size_alloc] at hq
          exact hq)
        have cU0 := RU_4.out.c0
        have cU1 := RU_4.out.c1
        have cK := RK_4.out.cell
        have fK := RK_4.out.frozen
        have cP0 := RP_4.out.c0
        have cP1 := RP_4.out.c1
        go_wp2_with fail
        clear cU0 cU1 cK fK cP0 cP1
        refine (JT.out _ HB4.out).mono ?_
        rintro e w5 ⟨A9, d9, rfl, hes, _, _, hb⟩
        have HB5 := Lib.hid (eb_of HB4.out hb (by first | exact Nat.le_refl _ | exact HB4.out.size))
        have RU_5 := Lib.hid (Row2.below RU_4.out hb (Nat.le_refl _))
        have RK_5 := Lib.hid (box_below RK_4.out hb (Nat.le_refl _))
        have RP_5 := Lib.hid (Row2.below RP_4.out hb (Nat.le_refl _))
        have RX_5 := Lib.hid (Row4.below RX_4.out hb (Nat.le_refl _))
        have RT_5 := Lib.hid (box_below RT_4.out hb (Nat.le_refl _))
        clear HB4 RU_4 RK_4 RP_4 RX_4 RT_4
        clear hb hes
        have LV : Hid (w.heap.size + 1 ≤ w5.heap.size) := Lib.hid (by have := RU_5.out.lt; (try simp only [World.size_alloc] at this); omega)
        have hb := alloc_below w5 (.cells #[.int .i64 0] 26)
        have HB6 := Lib.hid (eb_of HB5.out hb (by first | exact Nat.le_refl _ | exact HB5.out.size))
        have RU_6 := Lib.hid (Row2.below RU_5.out hb (Nat.le_refl _))
        have RK_6 := Lib.hid (box_below RK_5.out hb (Nat.le_refl _))
        have RP_6 := Lib.hid (Row2.below RP_5.out hb (Nat.le_refl _))
        have RX_6 := Lib.hid (Row4.below RX_5.out hb (Nat.le_refl _))
        have RT_6 := Lib.hid (box_below RT_5.out hb (Nat.le_refl _))
        clear HB5 RU_5 RK_5 RP_5 RX_5 RT_5
        clear hb
        have RV_6 : Hid (Boxed (w5.alloc (.cells #[.int .i64 0] 26)) (w5.heap.size) 26 (.int .i64 0)) := Lib.hid (heap_alloc_new _ _)
        have cU0 := RU_6.out.c0
        have cU1 := RU_6.out.c1
        have cK := RK_6.out.cell
        have fK := RK_6.out.frozen
        have cP0 := RP_6.out.c0
        have cP1 := RP_6.out.c1
        have cX0 := RX_6.out.c0
        have cX1 := RX_6.out.c1
        have cX2 := RX_6.out.c2
        have cX3 := RX_6.out.c3
        have cT := RT_6.out.cell
        have fT := RT_6.out.frozen
        go_wp2_with fail
        clear cU0 cU1 cK fK cP0 cP1 cX0 cX1 cX2 cX3 cT fT
        refine (JW.out _).mono ?_
        rintro e w7 ⟨rfl, hb⟩
        have HB7 := Lib.hid (eb_of HB6.out hb (by first | exact Nat.le_refl _ | exact HB6.out.size))
        have RU_7 := Lib.hid (Row2.below RU_6.out hb (Nat.le_refl _))
        have RK_7 := Lib.hid (box_below RK_6.out hb (Nat.le_refl _))
        have RP_7 := Lib.hid (Row2.below RP_6.out hb (Nat.le_refl _))
        have RX_7 := Lib.hid (Row4.below RX_6.out hb (Nat.le_refl _))
        have RT_7 := Lib.hid (box_below RT_6.out hb (Nat.le_refl _))
        have RV_7 := Lib.hid (box_below RV_6.out hb (Nat.le_refl _))
        clear HB6 RU_6 RK_6 RP_6 RX_6 RT_6 RV_6
        clear hb
        go_wp2_with fail
        go_ret
        exact ⟨by first | rfl | (simp; done), HB7.out⟩
    obtain ⟨hr, m, rfl, hm⟩ := curE_zero h0
    obtain ⟨hta, hte⟩ := take_all (c := al) (back := back) h0 hal (by omega) hm
    obtain ⟨tp, htp⟩ : ∃ tp, (takE id xs (m : Int) al).2.1 = tp := ⟨_, rfl⟩
    rw [hta, hte, htp] at JT
    rw [List.length_map] at JT
    obtain ⟨S, hS⟩ : ∃ S, ahL xs m back = S := ⟨_, rfl⟩
    have hSl : S.length ≤ 80 := by rw [← hS, ahL_length]; unfold ahN; split <;> omega
    have hSn : S.length = ahN xs.length m back := by rw [← hS, ahL_length]
    rw [hS] at JT
    have HGH := Lib.hid (skip_hitS (q := fun x => x.2.2.1 == dead) hS h0)
    have HGM := Lib.hid (skip_missS (q := fun x => x.2.2.1 == dead) hS h0)
    obtain ⟨ln, hln⟩ : ∃ ln, S.length = ln := ⟨_, rfl⟩
    rw [hln] at JT hSl hSn
    have HLN := Lib.hid hln
    have HSN := Lib.hid hSn
    generalize hres : goE id xs (m : Int) back (fun x => x.2.2.1 == dead) = res at *
    obtain ⟨⟨yk, yv, yd, yq⟩, yp, ye⟩ := res
    simp only [entV] at JS
    have hm80 : m ≤ 80 := by omega
    clear hf hs hl5 h0 hta hte htp hS hln hres hr hSn
    obtain ⟨n, hnn⟩ : ∃ n, xs.length = n := ⟨_, rfl⟩
    rw [hnn] at JF JS JT hw0 RU x1 t1 t1' hn hm
    rw [hnn]
    have HNN := Lib.hid hnn
    clear hnn hn5 h80
    cases back with
    | false =>
      obtain rfl : al = 5000 := by simpa using hal
      clear hal
      go_enter Try.func9, Try.ntmps9
      go_wp2_with fail
      clear x0 x1 x2 x3 x4
      refine (JF.out _ HB.out).mono ?_
      rintro e w1 ⟨rfl, hb⟩
      have HB1 := Lib.hid (eb_of HB.out hb (by first | exact Nat.le_refl _ | exact HB.out.size))
      have RU_1 := Lib.hid (Row2.below RU.out hb (Nat.le_refl _))
      have RK_1 := Lib.hid (box_below RK.out hb (Nat.le_refl _))
      have RP_1 := Lib.hid (Row2.below RP.out hb (Nat.le_refl _))
      clear RU RK RP
      clear hb
      have cU0 := RU_1.out.c0
      have cU1 := RU_1.out.c1
      have cK := RK_1.out.cell
      have fK := RK_1.out.frozen
      have cP0 := RP_1.out.c0
      have cP1 := RP_1.out.c1
      go_wp2_with fail
      clear cU0 cU1 cK fK cP0 cP1
      refine (JS.out _ HB1.out).mono ?_
      rintro e w2 ⟨rfl, hb⟩
      have HB2 := Lib.hid (eb_of HB1.out hb (by first | exact Nat.le_refl _ | exact HB1.out.size))
      have RU_2 := Lib.hid (Row2.below RU_1.out hb (Nat.le_refl _))
      have RK_2 := Lib.hid (box_below RK_1.out hb (Nat.le_refl _))
      have RP_2 := Lib.hid (Row2.below RP_1.out hb (Nat.le_refl _))
      clear HB1 RU_1 RK_1 RP_1
      clear hb
      have LX : Hid (w.heap.size + 1 ≤ w2.heap.size) := Lib.hid (by have := RU_2.out.lt; (try simp only [World.size_alloc] at this); omega)
      have hb := alloc_below w2 (.cells #[.string yk, .string yv, .bool yd, .int .i64 yq] 34)
      have HB3 := Lib.hid (eb_of HB2.out hb (by first | exact Nat.le_refl _ | exact HB2.out.size))
      have RU_3 := Lib.hid (Row2.below RU_2.out hb (Nat.le_refl _))
      have RK_3 := Lib.hid (box_below RK_2.out hb (Nat.le_refl _))
      have RP_3 := Lib.hid (Row2.below RP_2.out hb (Nat.le_refl _))
      clear HB2 RU_2 RK_2 RP_2
      clear hb
      have RX_3 : Hid (Row4 (w2.alloc (.cells #[.string yk, .string yv, .bool yd, .int .i64 yq] 34)) (w2.heap.size) 34 (.string yk) (.string yv) (.bool yd) (.int .i64 yq)) := Lib.hid (heap_alloc_new _ _)
      have LT : Hid (w.heap.size + 1 ≤ w2.heap.size + 1) := Lib.hid (by have := RU_3.out.lt; (try simp only [World.size_alloc] at this); omega)
      have hb := alloc_below (w2.alloc (.cells #[.string yk, .string yv, .bool yd, .int .i64 yq] 34)) (.cells #[.int .i64 yp] 26)
      have HB4 := Lib.hid (eb_of HB3.out hb (by first | exact Nat.le_refl _ | exact HB3.out.size))
      have RU_4 := Lib.hid (Row2.below RU_3.out hb (Nat.le_refl _))
      have RK_4 := Lib.hid (box_below RK_3.out hb (Nat.le_refl _))
      have RP_4 := Lib.hid (Row2.below RP_3.out hb (Nat.le_refl _))
      have RX_4 := Lib.hid (Row4.below RX_3.out hb (Nat.le_refl _))
      clear HB3 RU_3 RK_3 RP_3 RX_3
      clear hb
      have RT_4 : Hid (Boxed ((w2.alloc (.cells #[.string yk, .string yv, .bool yd, .int .i64 yq] 34)).alloc (.cells #[.int .i64 yp] 26)) (w2.heap.size + 1) 26 (.int .i64 yp)) := Lib.hid (by
        have hq := heap_alloc_new (w2.alloc (.cells #[.string yk, .string yv, .bool yd, .int .i64 yq] 34)) (.cells #[.int .i64 yp] 26)
        simp only [World.size_alloc] at hq
        exact hq)
      have cU0 := RU_4.out.c0
      have cU1 := RU_4.out.c1
      have cK := RK_4.out.cell
      have fK := RK_4.out.frozen
      have cP0 := RP_4.out.c0
      have cP1 := RP_4.out.c1
      go_wp2_with fail
      clear cU0 cU1 cK fK cP0 cP1
      refine (JT.out _ HB4.out).mono ?_
      rintro e w5 ⟨A9, d9, rfl, hes, _, _, hb⟩
      have HB5 := Lib.hid (eb_of HB4.out hb (by first | exact Nat.le_refl _ | exact HB4.out.size))
      have RU_5 := Lib.hid (Row2.below RU_4.out hb (Nat.le_refl _))
      have RK_5 := Lib.hid (box_below RK_4.out hb (Nat.le_refl _))
      have RP_5 := Lib.hid (Row2.below RP_4.out hb (Nat.le_refl _))
      have RX_5 := Lib.hid (Row4.below RX_4.out hb (Nat.le_refl _))
      have RT_5 := Lib.hid (box_below RT_4.out hb (Nat.le_refl _))
      clear HB4 RU_4 RK_4 RP_4 RX_4 RT_4
      clear hb
      have KE := Lib.hid hes
      clear hes
      have LV : Hid (w.heap.size + 1 ≤ w5.heap.size) := Lib.hid (by have := RU_5.out.lt; (try simp only [World.size_alloc] at this); omega)
      have hb := alloc_below w5 (.cells #[.int .i64 tp] 26)
      have HB6 := Lib.hid (eb_of HB5.out hb (by first | exact Nat.le_refl _ | exact HB5.out.size))
      have RU_6 := Lib.hid (Row2.below RU_5.out hb (Nat.le_refl _))
      have RK_6 := Lib.hid (box_below RK_5.out hb (Nat.le_refl _))
      have RP_6 := Lib.hid (Row2.below RP_5.out hb (Nat.le_refl _))
      have RX_6 := Lib.hid (Row4.below RX_5.out hb (Nat.le_refl _))
      have RT_6 := Lib.hid (box_below RT_5.out hb (Nat.le_refl _))
      have KE_6 := Lib.hid (EsAt.below KE.out hb (Nat.le_refl _))
      clear HB5 RU_5 RK_5 RP_5 RX_5 RT_5 KE
      clear hb
      have RV_6 : Hid (Boxed (w5.alloc (.cells #[.int .i64 tp] 26)) (w5.heap.size) 26 (.int .i64 tp)) := Lib.hid (heap_alloc_new _ _)
      have cU0 := RU_6.out.c0
      have cU1 := RU_6.out.c1
      have cK := RK_6.out.cell
      have fK := RK_6.out.frozen
      have cP0 := RP_6.out.c0
      have cP1 := RP_6.out.c1
      have cX0 := RX_6.out.c0
      have cX1 := RX_6.out.c1
      have cX2 := RX_6.out.c2
      have cX3 := RX_6.out.c3
      have cT := RT_6.out.cell
      have fT := RT_6.out.frozen
      go_wp2_with fail
      clear cU0 cU1 cK fK cP0 cP1 cX0 cX1 cX2 cX3 cT fT
      go_loopw [14, 15] (fun vi v15 wr => ∃ i : Nat, vi = .int .i64 (i : Int) ∧ i ≤ ln ∧ (∀ j (hj : j < S.length), j < i → (S[j].1.2.2.1 == dead) = false) ∧ Below w.heap.size w wr ∧ Row2 wr w.heap.size 24 (.int .i64 id) (.slice A n c) ∧ Boxed wr (w.heap.size + 1) 26 (.int .i64 (m : Int)) ∧ Row2 wr (w.heap.size + 2) 57 (.bool dead) (.bool false) ∧ Row4 wr w2.heap.size 34 (.string yk) (.string yv) (.bool yd) (.int .i64 yq) ∧ Boxed wr (w2.heap.size + 1) 26 (.int .i64 yp) ∧ EsAt wr A9 (S.map (·.1))) (fun vi _ _ => ln - (intOf vi).toNat)
      case atStart => exact ⟨0, rfl, Nat.zero_le _, fun j hj h => absurd h (Nat.not_lt_zero _), HB6.out, RU_6.out, RK_6.out, RP_6.out, RX_6.out, RT_6.out, KE_6.out⟩
      case round =>
        clear HB6 RU_6 RK_6 RP_6 RX_6 RT_6 KE_6 RV_6
        obtain ⟨i, rfl, hi, hq, hb, hu, hk, hp, hx, ht, he⟩ := hrel
        have HBa := Lib.hid hb
        have HQ := Lib.hid hq
        have HEA := Lib.hid he
        have RUa := Lib.hid hu
        have RKa := Lib.hid hk
        have RPa := Lib.hid hp
        have RXa := Lib.hid hx
        have RTa := Lib.hid ht
        have cK := hk.cell
        have cP0 := hp.c0
        have cP1 := hp.c1
        have cX0 := hx.c0
        have cX1 := hx.c1
        have cX2 := hx.c2
        have cX3 := hx.c3
        have cT := ht.cell
        clear hb hq hu hk hp hx ht
        by_cases hil : i < ln
        rotate_left
        · have t2 : ¬ (i : Int) < (ln : Int) := by omega
          have hg := HGM.out (fun j hj => HQ.out j hj (by rw [HLN.out] at hj; omega))
          simp only [El.none, Prod.mk.injEq] at hg
          obtain ⟨⟨rfl, rfl, rfl, rfl⟩, rfl, rfl⟩ := hg
          clear he
          go_wp2_with fail
          refine (JW.out _).mono ?_
          rintro e w9 ⟨rfl, hb⟩
          have HBz := Lib.hid (eb_of HBa.out hb (by first | exact Nat.le_refl _ | exact HBa.out.size))
          clear hb
          go_wp2_with fail
          go_ret
          exact ⟨by first | rfl | (simp; done), HBz.out⟩
        have t2 : (i : Int) < (ln : Int) := by omega
        have hix : i < S.length := by rw [HLN.out]; exact hil
        obtain ⟨⟨⟨xk, xv, xd, xq⟩, xp⟩, hxi⟩ : ∃ y, S[i] = y := ⟨_, rfl⟩
        rcases he with h0 | ⟨b9, o9, rfl, hbl, hc⟩
        · rw [List.map_eq_nil_iff] at h0; rw [h0] at hix; simp at hix
        obtain ⟨d0, d1, d2, d3⟩ := hc i (by rw [List.length_map]; exact hix)
        rw [List.getElem_map, hxi] at d0 d1 d2 d3
        simp only at d0 d1 d2 d3
        clear hc
        by_cases hd : xd = dead
        rotate_left
        · have t3 : (xd != dead) = true := by rw [bne_iff_ne]; exact hd
          have t4 : (xd == dead) = false := by rw [beq_eq_false_iff_ne]; exact hd
          have HNX : Hid (∀ j (hj : j < S.length), j < i + 1 → (S[j].1.2.2.1 == dead) = false) := Lib.hid (fun j hj h => by
            rcases Nat.lt_or_ge j i with h' | h'
            · exact HQ.out j hj h'
            · have : j = i := by omega
              subst this; rw [hxi]; exact t4)
          clear hxi hix hd
          go_wp2_with fail
          go_quiet (fail)
          go_wp2_with fail
          exact ⟨⟨i + 1, by go_num, by omega, HNX.out, eb_of HBa.out (below_drewN' _) (by first | exact Nat.le_refl _ | exact HBa.out.size), Row2.below RUa.out (below_drewN' _) (Nat.le_refl _), box_below RKa.out (below_drewN' _) (Nat.le_refl _), Row2.below RPa.out (below_drewN' _) (Nat.le_refl _), Row4.below RXa.out (below_drewN' _) (Nat.le_refl _), box_below RTa.out (below_drewN' _) (Nat.le_refl _), HEA.out.below (below_drewN' _) (Nat.le_refl _)⟩, by simp [intOf]; omega⟩
        subst hd
        have t3 : (xd != xd) = false := by simp
        have t4 : (xd == xd) = true := by simp
        have hg := HGH.out i hix (fun j hj h => HQ.out j hj h) (by rw [hxi]; exact t4)
        rw [hxi] at hg
        simp only [Prod.mk.injEq] at hg
        obtain ⟨⟨rfl, rfl, rfl, rfl⟩, rfl, rfl⟩ := hg
        have hsn := HSN.out
        have hpl : (m : Int) + (((i : Int) + 1)) = ((plcW m false (i + 1) : Nat) : Int) := by
          unfold ahN at hsn; unfold plcW; simp only [Bool.false_eq_true, if_false, if_true] at hsn ⊢; omega
        have hpb : -1 ≤ ((plcW m false (i + 1) : Nat) : Int) ∧ ((plcW m false (i + 1) : Nat) : Int) ≤ 200 := by omega
        generalize ((plcW m false (i + 1) : Nat) : Int) = pl at *
        clear hxi hix hsn HGH HGM
        go_wp2_with fail
        go_quiet (fail)
        go_wp2_with fail
        have hdr := below_drewN' (w := wr) nq
        have rX := Row4.below RXa.out hdr (Nat.le_refl _)
        have rK := box_below RKa.out hdr (Nat.le_refl _)
        have rT := box_below RTa.out hdr (Nat.le_refl _)
        have v0 := abv_c rX.c0
        have v1 := abv_c rX.c1
        have v2 := abv_c rX.c2
        have v3 := abv_c rX.c3
        have v4 := abv_c rK.cell
        have v5 := abv_c rT.cell
        have v6 := abv_c ((hdr.cell (p := ⟨b9, o9 + i * 4, none⟩) hbl).trans d0)
        have v7 := abv_c ((hdr.cell (p := ⟨b9, o9 + i * 4 + 1, none⟩) hbl).trans d1)
        have v8 := abv_c ((hdr.cell (p := ⟨b9, o9 + i * 4 + 2, none⟩) hbl).trans d2)
        have v9 := abv_c ((hdr.cell (p := ⟨b9, o9 + i * 4 + 3, none⟩) hbl).trans d3)
        have HBd := Lib.hid (eb_of HBa.out hdr (by first | exact Nat.le_refl _ | exact HBa.out.size))
        clear rX rK rT hdr d0 d1 d2 d3 cK cP0 cP1 cX0 cX1 cX2 cX3 cT
        refine wp_region_abv (by first | assumption | kernel_rfl) (by kernel_rfl) ?_
        repeat (first | go_big_quiet_step (first | exact callAbv (at_any _ _) | exact callAbv (awake9_any _)) | quiet_step (first | exact callAbv (at_any _ _) | exact callAbv (awake9_any _)))
        refine wpQuiet_nil ?_
        intro w9 hw9
        obtain ⟨p, rfl⟩ := hw9
        go_wp2_with fail
        go_ret
        exact ⟨by first | rfl | (simp; done), eb_of HBd.out p.h (by first | exact Nat.le_refl _ | exact HBd.out.size)⟩
    | true =>
      obtain rfl : al = -5000 := by simpa using hal
      clear hal
      go_enter Try.func9, Try.ntmps9
      go_wp2_with fail
      clear x0 x1 x2 x3 x4
      refine (JF.out _ HB.out).mono ?_
      rintro e w1 ⟨rfl, hb⟩
      have HB1 := Lib.hid (eb_of HB.out hb (by first | exact Nat.le_refl _ | exact HB.out.size))
      have RU_1 := Lib.hid (Row2.below RU.out hb (Nat.le_refl _))
      have RK_1 := Lib.hid (box_below RK.out hb (Nat.le_refl _))
      have RP_1 := Lib.hid (Row2.below RP.out hb (Nat.le_refl _))
      clear RU RK RP
      clear hb
      have cU0 := RU_1.out.c0
      have cU1 := RU_1.out.c1
      have cK := RK_1.out.cell
      have fK := RK_1.out.frozen
      have cP0 := RP_1.out.c0
      have cP1 := RP_1.out.c1
      go_wp2_with fail
      clear cU0 cU1 cK fK cP0 cP1
      refine (JS.out _ HB1.out).mono ?_
      rintro e w2 ⟨rfl, hb⟩
      have HB2 := Lib.hid (eb_of HB1.out hb (by first | exact Nat.le_refl _ | exact HB1.out.size))
      have RU_2 := Lib.hid (Row2.below RU_1.out hb (Nat.le_refl _))
      have RK_2 := Lib.hid (box_below RK_1.out hb (Nat.le_refl _))
      have RP_2 := Lib.hid (Row2.below RP_1.out hb (Nat.le_refl _))
      clear HB1 RU_1 RK_1 RP_1
      clear hb
      have LX : Hid (w.heap.size + 1 ≤ w2.heap.size) := Lib.hid (by have := RU_2.out.lt; (try simp only [World.size_alloc] at this); omega)
      have hb := alloc_below w2 (.cells #[.string yk, .string yv, .bool yd, .int .i64 yq] 34)
      have HB3 := Lib.hid (eb_of HB2.out hb (by first | exact Nat.le_refl _ | exact HB2.out.size))
      have RU_3 := Lib.hid (Row2.below RU_2.out hb (Nat.le_refl _))
      have RK_3 := Lib.hid (box_below RK_2.out hb (Nat.le_refl _))
      have RP_3 := Lib.hid (Row2.below RP_2.out hb (Nat.le_refl _))
      clear HB2 RU_2 RK_2 RP_2
      clear hb
      have RX_3 : Hid (Row4 (w2.alloc (.cells #[.string yk, .string yv, .bool yd, .int .i64 yq] 34)) (w2.heap.size) 34 (.string yk) (.string yv) (.bool yd) (.int .i64 yq)) := Lib.hid (heap_alloc_new _ _)
      have LT : Hid (w.heap.size + 1 ≤ w2.heap.size + 1) := Lib.hid (by have := RU_3.out.lt; (try simp only [World.size_alloc] at this); omega)
      have hb := alloc_below (w2.alloc (.cells #[.string yk, .string yv, .bool yd, .int .i64 yq] 34)) (.cells #[.int .i64 yp] 26)
      have HB4 := Lib.hid (eb_of HB3.out hb (by first | exact Nat.le_refl _ | exact HB3.out.size))
      have RU_4 := Lib.hid (Row2.below RU_3.out hb (Nat.le_refl _))
      have RK_4 := Lib.hid (box_below RK_3.out hb (Nat.le_refl _))
      have RP_4 := Lib.hid (Row2.below RP_3.out hb (Nat.le_refl _))
      have RX_4 := Lib.hid (Row4.below RX_3.out hb (Nat.le_refl _))
      clear HB3 RU_3 RK_3 RP_3 RX_3
      clear hb
      have RT_4 : Hid (Boxed ((w2.alloc (.cells #[.string yk, .string yv, .bool yd, .int .i64 yq] 34)).alloc (.cells #[.int .i64 yp] 26)) (w2.heap.size + 1) 26 (.int .i64 yp)) := Lib.hid (by
        have hq := heap_alloc_new (w2.alloc (.cells #[.string yk, .string yv, .bool yd, .int .i64 yq] 34)) (.cells #[.int .i64 yp] 26)
        simp only [World.size_alloc] at hq
        exact hq)
      have cU0 := RU_4.out.c0
      have cU1 := RU_4.out.c1
      have cK := RK_4.out.cell
      have fK := RK_4.out.frozen
      have cP0 := RP_4.out.c0
      have cP1 := RP_4.out.c1
      go_wp2_with fail
      clear cU0 cU1 cK fK cP0 cP1
      refine (JT.out _ HB4.out).mono ?_
      rintro e w5 ⟨A9, d9, rfl, hes, _, _, hb⟩
      have HB5 := Lib.hid (eb_of HB4.out hb (by first | exact Nat.le_refl _ | exact HB4.out.size))
      have RU_5 := Lib.hid (Row2.below RU_4.out hb (Nat.le_refl _))
      have RK_5 := Lib.hid (box_below RK_4.out hb (Nat.le_refl _))
      have RP_5 := Lib.hid (Row2.below RP_4.out hb (Nat.le_refl _))
      have RX_5 := Lib.hid (Row4.below RX_4.out hb (Nat.le_refl _))
      have RT_5 := Lib.hid (box_below RT_4.out hb (Nat.le_refl _))
      clear HB4 RU_4 RK_4 RP_4 RX_4 RT_4
      clear hb
      have KE := Lib.hid hes
      clear hes
      have LV : Hid (w.heap.size + 1 ≤ w5.heap.size) := Lib.hid (by have := RU_5.out.lt; (try simp only [World.size_alloc] at this); omega)
      have hb := alloc_below w5 (.cells #[.int .i64 tp] 26)
      have HB6 := Lib.hid (eb_of HB5.out hb (by first | exact Nat.le_refl _ | exact HB5.out.size))
      have RU_6 := Lib.hid (Row2.below RU_5.out hb (Nat.le_refl _))
      have RK_6 := Lib.hid (box_below RK_5.out hb (Nat.le_refl _))
      have RP_6 := Lib.hid (Row2.below RP_5.out hb (Nat.le_refl _))
      have RX_6 := Lib.hid (Row4.below RX_5.out hb (Nat.le_refl _))
      have RT_6 := Lib.hid (box_below RT_5.out hb (Nat.le_refl _))
      have KE_6 := Lib.hid (EsAt.below KE.out hb (Nat.le_refl _))
      clear HB5 RU_5 RK_5 RP_5 RX_5 RT_5 KE
      clear hb
      have RV_6 : Hid (Boxed (w5.alloc (.cells #[.int .i64 tp] 26)) (w5.heap.size) 26 (.int .i64 tp)) := Lib.hid (heap_alloc_new _ _)
      have cU0 := RU_6.out.c0
      have cU1 := RU_6.out.c1
      have cK := RK_6.out.cell
      have fK := RK_6.out.frozen
      have cP0 := RP_6.out.c0
      have cP1 := RP_6.out.c1
      have cX0 := RX_6.out.c0
      have cX1 := RX_6.out.c1
      have cX2 := RX_6.out.c2
      have cX3 := RX_6.out.c3
      have cT := RT_6.out.cell
      have fT := RT_6.out.frozen
      go_wp2_with fail
      clear cU0 cU1 cK fK cP0 cP1 cX0 cX1 cX2 cX3 cT fT
      go_loopw [14, 15] (fun vi v15 wr => ∃ i : Nat, vi = .int .i64 (i : Int) ∧ i ≤ ln ∧ (∀ j (hj : j < S.length), j < i → (S[j].1.2.2.1 == dead) = false) ∧ Below w.heap.size w wr ∧ Row2 wr w.heap.size 24 (.int .i64 id) (.slice A n c) ∧ Boxed wr (w.heap.size + 1) 26 (.int .i64 (m : Int)) ∧ Row2 wr (w.heap.size + 2) 57 (.bool dead) (.bool true) ∧ Row4 wr w2.heap.size 34 (.string yk) (.string yv) (.bool yd) (.int .i64 yq) ∧ Boxed wr (w2.heap.size + 1) 26 (.int .i64 yp) ∧ EsAt wr A9 (S.map (·.1))) (fun vi _ _ => ln - (intOf vi).toNat)
      case atStart => exact ⟨0, rfl, Nat.zero_le _, fun j hj h => absurd h (Nat.not_lt_zero _), HB6.out, RU_6.out, RK_6.out, RP_6.out, RX_6.out, RT_6.out, KE_6.out⟩
      case round =>
        clear HB6 RU_6 RK_6 RP_6 RX_6 RT_6 KE_6 RV_6
        obtain ⟨i, rfl, hi, hq, hb, hu, hk, hp, hx, ht, he⟩ := hrel
        have HBa := Lib.hid hb
        have HQ := Lib.hid hq
        have HEA := Lib.hid he
        have RUa := Lib.hid hu
        have RKa := Lib.hid hk
        have RPa := Lib.hid hp
        have RXa := Lib.hid hx
        have RTa := Lib.hid ht
        have cK := hk.cell
        have cP0 := hp.c0
        have cP1 := hp.c1
        have cX0 := hx.c0
        have cX1 := hx.c1
        have cX2 := hx.c2
        have cX3 := hx.c3
        have cT := ht.cell
        clear hb hq hu hk hp hx ht
        by_cases hil : i < ln
        rotate_left
        · have t2 : ¬ (i : Int) < (ln : Int) := by omega
          have hg := HGM.out (fun j hj => HQ.out j hj (by rw [HLN.out] at hj; omega))
          simp only [El.none, Prod.mk.injEq] at hg
          obtain ⟨⟨rfl, rfl, rfl, rfl⟩, rfl, rfl⟩ := hg
          clear he
          go_wp2_with fail
          refine (JW.out _).mono ?_
          rintro e w9 ⟨rfl, hb⟩
          have HBz := Lib.hid (eb_of HBa.out hb (by first | exact Nat.le_refl _ | exact HBa.out.size))
          clear hb
          go_wp2_with fail
          go_ret
          exact ⟨by first | rfl | (simp; done), HBz.out⟩
        have t2 : (i : Int) < (ln : Int) := by omega
        have hix : i < S.length := by rw [HLN.out]; exact hil
        obtain ⟨⟨⟨xk, xv, xd, xq⟩, xp⟩, hxi⟩ : ∃ y, S[i] = y := ⟨_, rfl⟩
        rcases he with h0 | ⟨b9, o9, rfl, hbl, hc⟩
        · rw [List.map_eq_nil_iff] at h0; rw [h0] at hix; simp at hix
        obtain ⟨d0, d1, d2, d3⟩ := hc i (by rw [List.length_map]; exact hix)
        rw [List.getElem_map, hxi] at d0 d1 d2 d3
        simp only at d0 d1 d2 d3
        clear hc
        by_cases hd : xd = dead
        rotate_left
        · have t3 : (xd != dead) = true := by rw [bne_iff_ne]; exact hd
          have t4 : (xd == dead) = false := by rw [beq_eq_false_iff_ne]; exact hd
          have HNX : Hid (∀ j (hj : j < S.length), j < i + 1 → (S[j].1.2.2.1 == dead) = false) := Lib.hid (fun j hj h => by
            rcases Nat.lt_or_ge j i with h' | h'
            · exact HQ.out j hj h'
            · have : j = i := by omega
              subst this; rw [hxi]; exact t4)
          clear hxi hix hd
          go_wp2_with fail
          go_quiet (fail)
          go_wp2_with fail
          exact ⟨⟨i + 1, by go_num, by omega, HNX.out, eb_of HBa.out (below_drewN' _) (by first | exact Nat.le_refl _ | exact HBa.out.size), Row2.below RUa.out (below_drewN' _) (Nat.le_refl _), box_below RKa.out (below_drewN' _) (Nat.le_refl _), Row2.below RPa.out (below_drewN' _) (Nat.le_refl _), Row4.below RXa.out (below_drewN' _) (Nat.le_refl _), box_below RTa.out (below_drewN' _) (Nat.le_refl _), HEA.out.below (below_drewN' _) (Nat.le_refl _)⟩, by simp [intOf]; omega⟩
        subst hd
        have t3 : (xd != xd) = false := by simp
        have t4 : (xd == xd) = true := by simp
        have hg := HGH.out i hix (fun j hj h => HQ.out j hj h) (by rw [hxi]; exact t4)
        rw [hxi] at hg
        simp only [Prod.mk.injEq] at hg
        obtain ⟨⟨rfl, rfl, rfl, rfl⟩, rfl, rfl⟩ := hg
        have hsn := HSN.out
        have hpl : (m : Int) + (-((i : Int) + 1)) = ((plcW m true (i + 1) : Nat) : Int) := by
          unfold ahN at hsn; unfold plcW; simp only [if_true, Bool.false_eq_true, if_false, if_true] at hsn ⊢; omega
        have hpb : -1 ≤ ((plcW m true (i + 1) : Nat) : Int) ∧ ((plcW m true (i + 1) : Nat) : Int) ≤ 200 := by omega
        generalize ((plcW m true (i + 1) : Nat) : Int) = pl at *
        clear hxi hix hsn HGH HGM
        go_wp2_with fail
        go_quiet (fail)
        go_wp2_with fail
        have hdr := below_drewN' (w := wr) nq
        have rX := Row4.below RXa.out hdr (Nat.le_refl _)
        have rK := box_below RKa.out hdr (Nat.le_refl _)
        have rT := box_below RTa.out hdr (Nat.le_refl _)
        have v0 := abv_c rX.c0
        have v1 := abv_c rX.c1
        have v2 := abv_c rX.c2
        have v3 := abv_c rX.c3
        have v4 := abv_c rK.cell
        have v5 := abv_c rT.cell
        have v6 := abv_c ((hdr.cell (p := ⟨b9, o9 + i * 4, none⟩) hbl).trans d0)
        have v7 := abv_c ((hdr.cell (p := ⟨b9, o9 + i * 4 + 1, none⟩) hbl).trans d1)
        have v8 := abv_c ((hdr.cell (p := ⟨b9, o9 + i * 4 + 2, none⟩) hbl).trans d2)
        have v9 := abv_c ((hdr.cell (p := ⟨b9, o9 + i * 4 + 3, none⟩) hbl).trans d3)
        have HBd := Lib.hid (eb_of HBa.out hdr (by first | exact Nat.le_refl _ | exact HBa.out.size))
        clear rX rK rT hdr d0 d1 d2 d3 cK cP0 cP1 cX0 cX1 cX2 cX3 cT
        refine wp_region_abv (by first | assumption | kernel_rfl) (by kernel_rfl) ?_
        repeat (first | go_big_quiet_step (first | exact callAbv (at_any _ _) | exact callAbv (awake9_any _)) | quiet_step (first | exact callAbv (at_any _ _) | exact callAbv (awake9_any _)))
        refine wpQuiet_nil ?_
        intro w9 hw9
        obtain ⟨p, rfl⟩ := hw9
        go_wp2_with fail
        go_ret
        exact ⟨by first | rfl | (simp; done), eb_of HBd.out p.h (by first | exact Nat.le_refl _ | exact HBd.out.size)⟩
end Go.Proofs.Yticdechdgpfdfaa.KK
