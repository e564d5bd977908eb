/-
  WalkSought: the walk.
-/
import Derived.Test.YtndmmajhhjohhaaTn
namespace Go.Proofs.Ytndmmajhhjohhaa.KK
open Go.ChangeShapes Go.WideShapes Go.ChangeAt Go.RowKit Go.Proofs Go.Sort

theorem ah_mem {xs : List El.En} {k : Nat} {back : Bool} (hk : k ≤ xs.length) {x : El.En} (h : x ∈ (ahL xs k back).map (·.1)) : ∃ (i : Nat) (hi : i < xs.length), x = xs[i] ∧ (if back = true then i < k else k ≤ i) := by
  obtain ⟨y, hy, rfl⟩ := List.mem_map.1 h
  obtain ⟨j, hj, rfl⟩ := List.mem_iff_getElem.1 hy
  rw [ahL_at]
  rw [ahL_length] at hj
  unfold ahX
  unfold ahN at hj
  cases back with
  | true =>
    simp only [if_true] at hj ⊢
    exact ⟨k - 1 - j, by omega, entR_eq (by omega), by omega⟩
  | false =>
    simp only [Bool.false_eq_true, if_false] at hj ⊢
    exact ⟨k + j, by omega, entR_eq (by omega), by omega⟩
theorem behind_ok {xs : List El.En} (hs : SK xs) {key : ByteArray} {x : El.En} (h : x ∈ (ahL xs (befN xs key false) false).map (·.1)) : x ∈ xs ∧ ¬ Kl.ord (Kl.L x.1) (Kl.L key) < 0 := by
  obtain ⟨i, hi, rfl, hk⟩ := ah_mem (befN_le xs key false) h
  simp only [Bool.false_eq_true, if_false] at hk
  refine ⟨List.getElem_mem hi, fun hn => ?_⟩
  have := (bef_is hs key false).2 i hi hk
  rw [lowB_less (Kl.ord_neg.1 hn)] at this
  cases this
theorem before_ok {xs : List El.En} (hs : SK xs) {key : ByteArray} {x : El.En} (h : x ∈ (ahL xs (befN xs key false) true).map (·.1)) : x ∈ xs ∧ Kl.ord (Kl.L x.1) (Kl.L key) < 0 := by
  obtain ⟨i, hi, rfl, hk⟩ := ah_mem (befN_le xs key false) h
  simp only [if_true] at hk
  refine ⟨List.getElem_mem hi, ?_⟩
  have := (bef_is hs key false).1 i hi hk
  unfold lowB at this
  have q : ltK xs[i].1 key = true := by simpa using this
  exact Kl.ord_neg.2 q
theorem past_ok {xs : List El.En} (hs : SK xs) {key : ByteArray} {x : El.En} (h : x ∈ (ahL xs (befN xs key true) false).map (·.1)) : x ∈ xs ∧ 0 < Kl.ord (Kl.L x.1) (Kl.L key) := by
  obtain ⟨i, hi, rfl, hk⟩ := ah_mem (befN_le xs key true) h
  simp only [Bool.false_eq_true, if_false] at hk
  refine ⟨List.getElem_mem hi, ?_⟩
  have := (bef_is hs key true).2 i hi hk
  unfold lowB at this
  have q : ltK key xs[i].1 = true := by simpa using this
  exact Kl.ord_pos.2 q
set_option maxRecDepth 100000 in
set_option maxHeartbeats 16000000 in
theorem Sought9_any (id : Int) (A : Option Addr) (c : Nat) (xs : List El.En) (key : ByteArray) (w : World) (hf : EsAt w A xs) (hn : xs.length ≤ 9223372036854775807) (hs : Sized xs) (hcap : xs.length ≤ c) (hnil : A = none → c = 0) (hks : key.size ≤ 9223372036854775807) :
    Calls Try.prog 7 #[.agg #[.int .i64 id, .slice A xs.length c], .string key] w fun e w' => e = .returned (.bool true) ∧ Below w.heap.size w w' := by
  have JF := Lib.hid (fun w1 (h : Below w.heap.size w w1) => far8_any id A c xs w1 (hf.below h (Nat.le_refl _)) hn hs)
  have JW := Lib.hid (fun w => awake9_any w)
  have HB := Lib.hid (alloc_below w (.cells #[.int .i64 id, .slice A xs.length c] 24))
  have RU := Lib.hid (Row2.new w 24 (.int .i64 id) (.slice A xs.length c))
  cases hfar : farF xs with
  | true =>
    rw [hfar] at JF
    clear hfar hf hs hcap hnil
    generalize xs.length = n at *
    have cU0 := RU.out.c0
    have cU1 := RU.out.c1
    go_enter Try.func7, Try.ntmps7
    go_wp2_with fail
    clear cU0 cU1
    refine (JF.out _ HB.out).mono ?_
    rintro e w1 ⟨rfl, hb⟩
    have HB1 := Lib.hid (eb_of HB.out hb (by first | exact Nat.le_refl _ | exact HB.out.size))
    have RU_1 := Lib.hid (Row2.below RU.out hb (Nat.le_refl _))
    clear RU
    clear hb
    have cU0 := RU_1.out.c0
    have cU1 := RU_1.out.c1
    go_wp2_with fail
    clear cU0 cU1
    refine (JW.out _).mono ?_
    rintro e w2 ⟨rfl, hb⟩
    have HB2 := Lib.hid (eb_of HB1.out hb (by first | exact Nat.le_refl _ | exact HB1.out.size))
    have RU_2 := Lib.hid (Row2.below RU_1.out hb (Nat.le_refl _))
    clear HB1 RU_1
    clear hb
    go_wp2_with fail
    go_ret
    exact ⟨by first | rfl | (simp; done), HB2.out⟩
  | false =>
    have hl5 := far_len hfar
    rw [hfar] at JF
    clear hfar
    by_cases h80 : 80 < xs.length
    · have t1 : (80 : Int) < (xs.length : Int) := by omega
      clear hf hs hl5 hcap hnil
      generalize xs.length = n at *
      have cU0 := RU.out.c0
      have cU1 := RU.out.c1
      go_enter Try.func7, Try.ntmps7
      go_wp2_with fail
      clear cU0 cU1
      refine (JF.out _ HB.out).mono ?_
      rintro e w1 ⟨rfl, hb⟩
      have HB1 := Lib.hid (eb_of HB.out hb (by first | exact Nat.le_refl _ | exact HB.out.size))
      have RU_1 := Lib.hid (Row2.below RU.out hb (Nat.le_refl _))
      clear RU
      clear hb
      have cU0 := RU_1.out.c0
      have cU1 := RU_1.out.c1
      go_wp2_with fail
      clear cU0 cU1
      refine (JW.out _).mono ?_
      rintro e w2 ⟨rfl, hb⟩
      have HB2 := Lib.hid (eb_of HB1.out hb (by first | exact Nat.le_refl _ | exact HB1.out.size))
      have RU_2 := Lib.hid (Row2.below RU_1.out hb (Nat.le_refl _))
      clear HB1 RU_1
      clear hb
      go_wp2_with fail
      go_ret
      exact ⟨by first | rfl | (simp; done), HB2.out⟩
    have t1 : ¬ (80 : Int) < (xs.length : Int) := by omega
    by_cases hkk : 100 < key.size
    · have t0 : (100 : Int) < (key.size : Int) := by omega
      clear hf hs hl5 hcap hnil
      generalize xs.length = n at *
      have cU0 := RU.out.c0
      have cU1 := RU.out.c1
      go_enter Try.func7, Try.ntmps7
      go_wp2_with fail
      clear cU0 cU1
      refine (JF.out _ HB.out).mono ?_
      rintro e w1 ⟨rfl, hb⟩
      have HB1 := Lib.hid (eb_of HB.out hb (by first | exact Nat.le_refl _ | exact HB.out.size))
      have RU_1 := Lib.hid (Row2.below RU.out hb (Nat.le_refl _))
      clear RU
      clear hb
      have cU0 := RU_1.out.c0
      have cU1 := RU_1.out.c1
      go_wp2_with fail
      clear cU0 cU1
      refine (JW.out _).mono ?_
      rintro e w2 ⟨rfl, hb⟩
      have HB2 := Lib.hid (eb_of HB1.out hb (by first | exact Nat.le_refl _ | exact HB1.out.size))
      have RU_2 := Lib.hid (Row2.below RU_1.out hb (Nat.le_refl _))
      clear HB1 RU_1
      clear hb
      go_wp2_with fail
      go_ret
      exact ⟨by first | rfl | (simp; done), HB2.out⟩
    have t0 : ¬ (100 : Int) < (key.size : Int) := by omega
    have hn5 : xs.length ≤ 4294967295 := by omega
    have J1 := Lib.hid (fun p w1 (h : Below w.heap.size w w1) => pSeek9_any id A c xs key p w1 (hf.below h (Nat.le_refl _)) hn5 hs hcap hnil hks)
    by_cases h1 : askR id xs key = 0
    rotate_left
    · obtain ⟨n1, n2⟩ := ne_b h1
      have J1f := Lib.hid (fun w1 h => J1.out false w1 h)
      have J1t := Lib.hid (fun w1 h => J1.out true w1 h)
      rw [sekE_no h1] at J1f J1t
      clear hf hs hl5 hcap hnil h1 J1
      generalize askR id xs key = r2 at *
      generalize xs.length = n at *
      have cU0 := RU.out.c0
      have cU1 := RU.out.c1
      go_enter Try.func7, Try.ntmps7
      go_wp2_with fail
      clear cU0 cU1
      refine (JF.out _ HB.out).mono ?_
      rintro e w1 ⟨rfl, hb⟩
      have HB1 := Lib.hid (eb_of HB.out hb (by first | exact Nat.le_refl _ | exact HB.out.size))
      have RU_1 := Lib.hid (Row2.below RU.out hb (Nat.le_refl _))
      clear RU
      clear hb
      have cU0 := RU_1.out.c0
      have cU1 := RU_1.out.c1
      go_wp2_with fail
      clear cU0 cU1
      refine (J1f.out _ HB1.out).mono ?_
      rintro e w2 ⟨rfl, hb⟩
      have HB2 := Lib.hid (eb_of HB1.out hb (by first | exact Nat.le_refl _ | exact HB1.out.size))
      have RU_2 := Lib.hid (Row2.below RU_1.out hb (Nat.le_refl _))
      clear HB1 RU_1
      clear hb
      have LA : Hid (w.heap.size + 1 ≤ w2.heap.size) := Lib.hid (by have := RU_2.out.lt; (try simp only [World.size_alloc] at this); omega)
      have hb := alloc_below w2 (.cells #[.int .i64 0] 26)
      have HB3 := Lib.hid (eb_of HB2.out hb (by first | exact Nat.le_refl _ | exact HB2.out.size))
      have RU_3 := Lib.hid (Row2.below RU_2.out hb (Nat.le_refl _))
      clear HB2 RU_2
      clear hb
      have RA_3 : Hid (Boxed (w2.alloc (.cells #[.int .i64 0] 26)) (w2.heap.size) 26 (.int .i64 0)) := Lib.hid (heap_alloc_new _ _)
      have cU0 := RU_3.out.c0
      have cU1 := RU_3.out.c1
      go_wp2_with fail
      clear cU0 cU1
      refine (J1t.out _ HB3.out).mono ?_
      rintro e w4 ⟨rfl, hb⟩
      have HB4 := Lib.hid (eb_of HB3.out hb (by first | exact Nat.le_refl _ | exact HB3.out.size))
      have RU_4 := Lib.hid (Row2.below RU_3.out hb (Nat.le_refl _))
      have RA_4 := Lib.hid (box_below RA_3.out hb (Nat.le_refl _))
      clear HB3 RU_3 RA_3
      clear hb
      have LB : Hid (w.heap.size + 1 ≤ w4.heap.size) := Lib.hid (by have := RU_4.out.lt; (try simp only [World.size_alloc] at this); omega)
      have hb := alloc_below w4 (.cells #[.int .i64 0] 26)
      have HB5 := Lib.hid (eb_of HB4.out hb (by first | exact Nat.le_refl _ | exact HB4.out.size))
      have RU_5 := Lib.hid (Row2.below RU_4.out hb (Nat.le_refl _))
      have RA_5 := Lib.hid (box_below RA_4.out hb (Nat.le_refl _))
      clear HB4 RU_4 RA_4
      clear hb
      have RB_5 : Hid (Boxed (w4.alloc (.cells #[.int .i64 0] 26)) (w4.heap.size) 26 (.int .i64 0)) := Lib.hid (heap_alloc_new _ _)
      have cU0 := RU_5.out.c0
      have cU1 := RU_5.out.c1
      have cA := RA_5.out.cell
      have fA := RA_5.out.frozen
      have cB := RB_5.out.cell
      have fB := RB_5.out.frozen
      go_wp2_with fail
      clear cU0 cU1 cA fA cB fB
      refine (JW.out _).mono ?_
      rintro e w6 ⟨rfl, hb⟩
      have HB6 := Lib.hid (eb_of HB5.out hb (by first | exact Nat.le_refl _ | exact HB5.out.size))
      have RU_6 := Lib.hid (Row2.below RU_5.out hb (Nat.le_refl _))
      have RA_6 := Lib.hid (box_below RA_5.out hb (Nat.le_refl _))
      have RB_6 := Lib.hid (box_below RB_5.out hb (Nat.le_refl _))
      clear HB5 RU_5 RA_5 RB_5
      clear hb
      go_wp2_with fail
      go_ret
      exact ⟨by first | rfl | (simp; done), HB6.out⟩
    obtain ⟨hr, hk32⟩ := askR_zero h1
    obtain ⟨_, _, hsk⟩ := run_ok hr
    have J1f := Lib.hid (fun w1 h => J1.out false w1 h)
    have J1t := Lib.hid (fun w1 h => J1.out true w1 h)
    rw [sekE_ok h1] at J1f J1t
    have hfn : ∀ w1, Below w.heap.size w w1 → EsAt w1 A xs := fun w1 h => hf.below h (Nat.le_refl _)
    have la := befN_le xs key false
    have lb := befN_le xs key true
    have JT := Lib.hid (fun (k al : Nat) (c2 : Int) (bk : Bool) (hk : k ≤ xs.length) (hc : c2 = if bk = true then -5000 else 5000) w1 (h : Below w.heap.size w w1) (L : List El.En) (hL : (ahL xs k bk).map (·.1) = L) (hl : L.length = al) => show Calls Try.prog 27 #[.agg #[.int .i64 id, .slice A xs.length c], .agg #[.int .i64 (k : Int)], .int .i64 c2] w1 fun e w' => ∃ A9 d9 tp, e = .returned (.tuple #[.slice A9 al d9, .agg #[.int .i64 tp], .int .i64 0]) ∧ EsAt w' A9 L ∧ Below w1.heap.size w1 w' by
      have K := pTake9_any id A c xs (k : Int) c2 w1 (hfn w1 h) hn5 hs
      obtain ⟨q1, q2⟩ := take_all (back := bk) (cur_ok hr hk) hc (by omega) hk
      refine K.mono ?_
      rintro e w' ⟨A9, d9, he, hes, _, _, hb⟩
      rw [q1, hL] at he hes
      rw [q2, hl] at he
      exact ⟨A9, d9, _, he, hes, hb⟩)
    have HO := Lib.hid (fun (x : El.En) (hx : x ∈ xs) w2 => Order_any x.1 key w2 (hs x hx).1 hks)
    have HA := Lib.hid (around hsk key)
    have P1 := Lib.hid (fun x hx => behind_ok (key := key) (x := x) hsk hx)
    have P2 := Lib.hid (fun x hx => before_ok (key := key) (x := x) hsk hx)
    have P3 := Lib.hid (fun x hx => past_ok (key := key) (x := x) hsk hx)
    have l1 : ((ahL xs (befN xs key false) false).map (·.1)).length = xs.length - befN xs key false := by rw [List.length_map, ahL_length]; rfl
    have l2 : ((ahL xs (befN xs key false) true).map (·.1)).length = befN xs key false := by rw [List.length_map, ahL_length]; rfl
    have l3 : ((ahL xs (befN xs key true) false).map (·.1)).length = xs.length - befN xs key true := by rw [List.length_map, ahL_length]; rfl
    have HH : Hid (befN xs key true = befN xs key false ∨ (befN xs key true = befN xs key false + 1 ∧ ∃ x, ((ahL xs (befN xs key false) false).map (·.1))[0]? = some x ∧ x.1 = key)) := Lib.hid (by
      rcases HA.out with ⟨hh, e1, e2⟩ | ⟨e1, _⟩
      · have hz : 0 < (ahL xs (befN xs key false) false).length := by rw [ahL_length]; unfold ahN; simp only [Bool.false_eq_true, if_false]; omega
        refine .inr ⟨e2, (ahL xs (befN xs key false) false)[0].1, by rw [List.getElem?_map, List.getElem?_eq_getElem hz]; rfl, ?_⟩
        rw [ahL_at]
        unfold ahX
        simp only [Bool.false_eq_true, if_false, Nat.add_zero]
        rw [entR_eq hh]; exact e1
      · exact .inl e1)
    obtain ⟨L1, hL1⟩ : ∃ L, (ahL xs (befN xs key false) false).map (·.1) = L := ⟨_, rfl⟩
    obtain ⟨L2, hL2⟩ : ∃ L, (ahL xs (befN xs key false) true).map (·.1) = L := ⟨_, rfl⟩
    obtain ⟨L3, hL3⟩ : ∃ L, (ahL xs (befN xs key true) false).map (·.1) = L := ⟨_, rfl⟩
    have T1 := Lib.hid (fun w1 h => JT.out _ _ 5000 false la rfl w1 h L1 hL1 rfl)
    have T2 := Lib.hid (fun w1 h => JT.out _ _ (-5000) true la rfl w1 h L2 hL2 rfl)
    have T3 := Lib.hid (fun w1 h => JT.out _ _ 5000 false lb rfl w1 h L3 hL3 rfl)
    rw [hL1] at P1 l1
    rw [hL2] at P2 l2
    rw [hL3] at P3 l3
    rw [hL1] at HH
    clear hL1 hL2 hL3 JT HA J1 hf hfn hl5 hcap hnil h1 hr
    generalize befN xs key false = a at *
    generalize befN xs key true = b at *
    have HS := Lib.hid hs
    obtain ⟨n, hnn⟩ : ∃ n, xs.length = n := ⟨_, rfl⟩
    rw [hnn] at JF J1f J1t T1 T2 T3 RU HB l1 l3 la lb t1 hn
    rw [hnn]
    clear hnn hn5 h80 hsk hs
    obtain ⟨n1, hn1⟩ : ∃ k, L1.length = k := ⟨_, rfl⟩
    obtain ⟨n2, hn2⟩ : ∃ k, L2.length = k := ⟨_, rfl⟩
    obtain ⟨n3, hn3⟩ : ∃ k, L3.length = k := ⟨_, rfl⟩
    rw [hn1] at T1 l1
    rw [hn2] at T2 l2
    rw [hn3] at T3 l3
    have HN1 := Lib.hid hn1
    have HN2 := Lib.hid hn2
    have HN3 := Lib.hid hn3
    clear hn1 hn2 hn3
    have hn80 : n ≤ 80 := by omega
    have u1 : ((n1 : Int) + (n2 : Int)) = (n : Int) := by omega
    have u2 : ¬ (1 : Int) < (n1 : Int) - (n3 : Int) := by rcases HH.out with h | ⟨h, _⟩ <;> omega
    have u3 : ¬ (n1 : Int) < (n3 : Int) := by rcases HH.out with h | ⟨h, _⟩ <;> omega
    have v1 : decide ((80 : Int) < (n : Int)) = false := by rw [decide_eq_false_iff_not]; omega
    have v0 : decide ((100 : Int) < (key.size : Int)) = false := by rw [decide_eq_false_iff_not]; omega
    have v2 : decide ((1 : Int) < (n1 : Int) - (n3 : Int)) = false := by rw [decide_eq_false_iff_not]; omega
    have v3 : decide ((n1 : Int) < (n3 : Int)) = false := by rw [decide_eq_false_iff_not]; omega
    have v4 : decide (n1 < n3) = false := by rw [decide_eq_false_iff_not]; omega
    have v5 : decide (80 < n) = false := by rw [decide_eq_false_iff_not]; omega
    have v6 : decide (100 < key.size) = false := by rw [decide_eq_false_iff_not]; omega
    have u4 : n1 ≤ 80 := by omega
    have u5 : n3 ≤ 80 := by omega
    have u6 : n2 ≤ 80 := by omega
    have HC : Hid (n1 = n3 ∨ ((n1 : Int) == (n3 : Int)) = false ∧ ∃ x, L1[0]? = some x ∧ x.1 = key) := Lib.hid (by
      rcases HH.out with h | ⟨h, hh, e⟩
      · exact .inl (by omega)
      · refine .inr ⟨?_, hh, e⟩
        obtain ⟨hx, _⟩ := e
        have := (List.getElem?_eq_some_iff.1 hx).1
        rw [beq_eq_false_iff_ne]; rw [HN1.out] at this; omega)
    clear HH l1 l2 l3 la lb
    have cU0 := RU.out.c0
    have cU1 := RU.out.c1
    go_enter Try.func7, Try.ntmps7
    go_wp2_with fail
    clear cU0 cU1
    refine (JF.out _ HB.out).mono ?_
    rintro e w1 ⟨rfl, hb⟩
    have HB1 := Lib.hid (eb_of HB.out hb (by first | exact Nat.le_refl _ | exact HB.out.size))
    have RU_1 := Lib.hid (Row2.below RU.out hb (Nat.le_refl _))
    clear RU
    clear hb
    have cU0 := RU_1.out.c0
    have cU1 := RU_1.out.c1
    go_wp2_with fail
    clear cU0 cU1
    refine (J1f.out _ HB1.out).mono ?_
    rintro e w2 ⟨rfl, hb⟩
    have HB2 := Lib.hid (eb_of HB1.out hb (by first | exact Nat.le_refl _ | exact HB1.out.size))
    have RU_2 := Lib.hid (Row2.below RU_1.out hb (Nat.le_refl _))
    clear HB1 RU_1
    clear hb
    have LA : Hid (w.heap.size + 1 ≤ w2.heap.size) := Lib.hid (by have := RU_2.out.lt; (try simp only [World.size_alloc] at this); omega)
    have hb := alloc_below w2 (.cells #[.int .i64 (a : Int)] 26)
    have HB3 := Lib.hid (eb_of HB2.out hb (by first | exact Nat.le_refl _ | exact HB2.out.size))
    have RU_3 := Lib.hid (Row2.below RU_2.out hb (Nat.le_refl _))
    clear HB2 RU_2
    clear hb
    have RA_3 : Hid (Boxed (w2.alloc (.cells #[.int .i64 (a : Int)] 26)) (w2.heap.size) 26 (.int .i64 (a : Int))) := Lib.hid (heap_alloc_new _ _)
    have cU0 := RU_3.out.c0
    have cU1 := RU_3.out.c1
    go_wp2_with fail
    clear cU0 cU1
    refine (J1t.out _ HB3.out).mono ?_
    rintro e w4 ⟨rfl, hb⟩
    have HB4 := Lib.hid (eb_of HB3.out hb (by first | exact Nat.le_refl _ | exact HB3.out.size))
    have RU_4 := Lib.hid (Row2.below RU_3.out hb (Nat.le_refl _))
    have RA_4 := Lib.hid (box_below RA_3.out hb (Nat.le_refl _))
    clear HB3 RU_3 RA_3
    clear hb
    have LB : Hid (w.heap.size + 1 ≤ w4.heap.size) := Lib.hid (by have := RU_4.out.lt; (try simp only [World.size_alloc] at this); omega)
    have hb := alloc_below w4 (.cells #[.int .i64 (b : Int)] 26)
    have HB5 := Lib.hid (eb_of HB4.out hb (by first | exact Nat.le_refl _ | exact HB4.out.size))
    have RU_5 := Lib.hid (Row2.below RU_4.out hb (Nat.le_refl _))
    have RA_5 := Lib.hid (box_below RA_4.out hb (Nat.le_refl _))
    clear HB4 RU_4 RA_4
    clear hb
    have RB_5 : Hid (Boxed (w4.alloc (.cells #[.int .i64 (b : Int)] 26)) (w4.heap.size) 26 (.int .i64 (b : Int))) := Lib.hid (heap_alloc_new _ _)
    have cU0 := RU_5.out.c0
    have cU1 := RU_5.out.c1
    have cA := RA_5.out.cell
    have fA := RA_5.out.frozen
    go_wp2_with fail
    clear cU0 cU1 cA fA
    refine (T1.out _ HB5.out).mono ?_
    rintro e w6 ⟨A1, d1, tp1, rfl, hes, hb⟩
    have HB6 := Lib.hid (eb_of HB5.out hb (by first | exact Nat.le_refl _ | exact HB5.out.size))
    have RU_6 := Lib.hid (Row2.below RU_5.out hb (Nat.le_refl _))
    have RA_6 := Lib.hid (box_below RA_5.out hb (Nat.le_refl _))
    have RB_6 := Lib.hid (box_below RB_5.out hb (Nat.le_refl _))
    clear HB5 RU_5 RA_5 RB_5
    clear hb
    have KE1 := Lib.hid hes
    clear hes
    have LV1 : Hid (w.heap.size + 1 ≤ w6.heap.size) := Lib.hid (by have := RU_6.out.lt; (try simp only [World.size_alloc] at this); omega)
    have hb := alloc_below w6 (.cells #[.int .i64 tp1] 26)
    have HB7 := Lib.hid (eb_of HB6.out hb (by first | exact Nat.le_refl _ | exact HB6.out.size))
    have RU_7 := Lib.hid (Row2.below RU_6.out hb (Nat.le_refl _))
    have RA_7 := Lib.hid (box_below RA_6.out hb (Nat.le_refl _))
    have RB_7 := Lib.hid (box_below RB_6.out hb (Nat.le_refl _))
    have K1_7 := Lib.hid (EsAt.below KE1.out hb (Nat.le_refl _))
    clear HB6 RU_6 RA_6 RB_6 KE1
    clear hb
    have RV1_7 : Hid (Boxed (w6.alloc (.cells #[.int .i64 tp1] 26)) (w6.heap.size) 26 (.int .i64 tp1)) := Lib.hid (heap_alloc_new _ _)
    have cU0 := RU_7.out.c0
    have cU1 := RU_7.out.c1
    have cB := RB_7.out.cell
    have fB := RB_7.out.frozen
    go_wp2_with fail
    clear cU0 cU1 cB fB
    refine (T3.out _ HB7.out).mono ?_
    rintro e w8 ⟨A3, d3, tp3, rfl, hes, hb⟩
    have HB8 := Lib.hid (eb_of HB7.out hb (by first | exact Nat.le_refl _ | exact HB7.out.size))
    have RU_8 := Lib.hid (Row2.below RU_7.out hb (Nat.le_refl _))
    have RA_8 := Lib.hid (box_below RA_7.out hb (Nat.le_refl _))
    have RB_8 := Lib.hid (box_below RB_7.out hb (Nat.le_refl _))
    have RV1_8 := Lib.hid (box_below RV1_7.out hb (Nat.le_refl _))
    have K1_8 := Lib.hid (EsAt.below K1_7.out hb (Nat.le_refl _))
    clear HB7 RU_7 RA_7 RB_7 RV1_7 K1_7
    clear hb
    have KE3 := Lib.hid hes
    clear hes
    have LV3 : Hid (w.heap.size + 1 ≤ w8.heap.size) := Lib.hid (by have := RU_8.out.lt; (try simp only [World.size_alloc] at this); omega)
    have hb := alloc_below w8 (.cells #[.int .i64 tp3] 26)
    have HB9 := Lib.hid (eb_of HB8.out hb (by first | exact Nat.le_refl _ | exact HB8.out.size))
    have RU_9 := Lib.hid (Row2.below RU_8.out hb (Nat.le_refl _))
    have RA_9 := Lib.hid (box_below RA_8.out hb (Nat.le_refl _))
    have RB_9 := Lib.hid (box_below RB_8.out hb (Nat.le_refl _))
    have RV1_9 := Lib.hid (box_below RV1_8.out hb (Nat.le_refl _))
    have K1_9 := Lib.hid (EsAt.below K1_8.out hb (Nat.le_refl _))
    have K3_9 := Lib.hid (EsAt.below KE3.out hb (Nat.le_refl _))
    clear HB8 RU_8 RA_8 RB_8 RV1_8 K1_8 KE3
    clear hb
    have RV3_9 : Hid (Boxed (w8.alloc (.cells #[.int .i64 tp3] 26)) (w8.heap.size) 26 (.int .i64 tp3)) := Lib.hid (heap_alloc_new _ _)
    have cU0 := RU_9.out.c0
    have cU1 := RU_9.out.c1
    have cA := RA_9.out.cell
    have fA := RA_9.out.frozen
    go_wp2_with fail
    clear cU0 cU1 cA fA
    refine (T2.out _ HB9.out).mono ?_
    rintro e w10 ⟨A2, d2, tp2, rfl, hes, hb⟩
    have HB10 := Lib.hid (eb_of HB9.out hb (by first | exact Nat.le_refl _ | exact HB9.out.size))
    have RU_10 := Lib.hid (Row2.below RU_9.out hb (Nat.le_refl _))
    have RA_10 := Lib.hid (box_below RA_9.out hb (Nat.le_refl _))
    have RB_10 := Lib.hid (box_below RB_9.out hb (Nat.le_refl _))
    have RV1_10 := Lib.hid (box_below RV1_9.out hb (Nat.le_refl _))
    have RV3_10 := Lib.hid (box_below RV3_9.out hb (Nat.le_refl _))
    have K1_10 := Lib.hid (EsAt.below K1_9.out hb (Nat.le_refl _))
    have K3_10 := Lib.hid (EsAt.below K3_9.out hb (Nat.le_refl _))
    clear HB9 RU_9 RA_9 RB_9 RV1_9 RV3_9 K1_9 K3_9
    clear hb
    have KE2 := Lib.hid hes
    clear hes
    have LV2 : Hid (w.heap.size + 1 ≤ w10.heap.size) := Lib.hid (by have := RU_10.out.lt; (try simp only [World.size_alloc] at this); omega)
    have hb := alloc_below w10 (.cells #[.int .i64 tp2] 26)
    have HB11 := Lib.hid (eb_of HB10.out hb (by first | exact Nat.le_refl _ | exact HB10.out.size))
    have RU_11 := Lib.hid (Row2.below RU_10.out hb (Nat.le_refl _))
    have RA_11 := Lib.hid (box_below RA_10.out hb (Nat.le_refl _))
    have RB_11 := Lib.hid (box_below RB_10.out hb (Nat.le_refl _))
    have RV1_11 := Lib.hid (box_below RV1_10.out hb (Nat.le_refl _))
    have RV3_11 := Lib.hid (box_below RV3_10.out hb (Nat.le_refl _))
    have K1_11 := Lib.hid (EsAt.below K1_10.out hb (Nat.le_refl _))
    have K3_11 := Lib.hid (EsAt.below K3_10.out hb (Nat.le_refl _))
    have K2_11 := Lib.hid (EsAt.below KE2.out hb (Nat.le_refl _))
    clear HB10 RU_10 RA_10 RB_10 RV1_10 RV3_10 K1_10 K3_10 KE2
    clear hb
    have RV2_11 : Hid (Boxed (w10.alloc (.cells #[.int .i64 tp2] 26)) (w10.heap.size) 26 (.int .i64 tp2)) := Lib.hid (heap_alloc_new _ _)
    have cU0 := RU_11.out.c0
    have cU1 := RU_11.out.c1
    go_wp2_with fail
    clear cU0 cU1
    go_loopw [16] (fun vi wr => ∃ i : Nat, vi = .int .i64 (i : Int) ∧ i ≤ n1 ∧ Below w.heap.size w wr ∧ EsAt wr A1 L1 ∧ EsAt wr A2 L2 ∧ EsAt wr A3 L3) (fun vi _ => n1 - (intOf vi).toNat)
    case atStart => exact ⟨0, rfl, Nat.zero_le _, HB11.out, K1_11.out, K2_11.out, K3_11.out⟩
    case round =>
      clear HB11 K1_11 K2_11 K3_11
      obtain ⟨i, rfl, hi, hb, he1, he2, he3⟩ := hrel
      have HBa := Lib.hid hb
      have HE1 := Lib.hid he1
      have HE2 := Lib.hid he2
      have HE3 := Lib.hid he3
      clear hb he1 he2 he3
      by_cases hil : i < n1
      rotate_left
      · have t2 : ¬ (i : Int) < (n1 : Int) := by omega
        have hz := hil
        clear hi hil
        go_wp2_with fail
        go_loopw [17] (fun vi wr => ∃ i : Nat, vi = .int .i64 (i : Int) ∧ i ≤ n2 ∧ Below w.heap.size w wr ∧ EsAt wr A1 L1 ∧ EsAt wr A2 L2 ∧ EsAt wr A3 L3) (fun vi _ => n2 - (intOf vi).toNat)
        case atStart => exact ⟨0, rfl, Nat.zero_le _, HBa.out, HE1.out, HE2.out, HE3.out⟩
        case round =>
          clear HBa HE1 HE2 HE3
          obtain ⟨i, rfl, hi, hb, he1, he2, he3⟩ := hrel
          have HBa := Lib.hid hb
          have HE1 := Lib.hid he1
          have HE2 := Lib.hid he2
          have HE3 := Lib.hid he3
          clear hb he1 he2 he3
          by_cases hil : i < n2
          rotate_left
          · have t2 : ¬ (i : Int) < (n2 : Int) := by omega
            have hz := hil
            clear hi hil
            go_wp2_with fail
            go_loopw [18] (fun vi wr => ∃ i : Nat, vi = .int .i64 (i : Int) ∧ i ≤ n3 ∧ Below w.heap.size w wr ∧ EsAt wr A1 L1 ∧ EsAt wr A2 L2 ∧ EsAt wr A3 L3) (fun vi _ => n3 - (intOf vi).toNat)
            case atStart => exact ⟨0, rfl, Nat.zero_le _, HBa.out, HE1.out, HE2.out, HE3.out⟩
            case round =>
              clear HBa HE1 HE2 HE3
              obtain ⟨i, rfl, hi, hb, he1, he2, he3⟩ := hrel
              have HBa := Lib.hid hb
              have HE1 := Lib.hid he1
              have HE2 := Lib.hid he2
              have HE3 := Lib.hid he3
              clear hb he1 he2 he3
              by_cases hil : i < n3
              rotate_left
              · have t2 : ¬ (i : Int) < (n3 : Int) := by omega
                have hz := hil
                clear hi hil
                rcases HC.out with hc1 | ⟨hc1, x0, hx0, hk0⟩
                · subst hc1
                  go_wp2_with fail
                  refine (JW.out _).mono ?_
                  rintro e w9 ⟨rfl, hb⟩
                  have HBz := Lib.hid (eb_of HBa.out hb (by first | exact Nat.le_refl _ | exact HBa.out.size))
                  clear hb
                  go_wp2_with fail
                  go_ret
                  exact ⟨by first | rfl | (simp; done), HBz.out⟩
                · obtain ⟨h0, hx1⟩ := List.getElem?_eq_some_iff.1 hx0
                  have t6 : ((n1 : Int) == (n3 : Int)) = false := hc1
                  rcases HE1.out with hz0 | ⟨b9, o9, e9, hbl, hc⟩
                  · rw [hz0] at h0; simp at h0
                  have d0 := (hc 0 h0).1
                  rw [hx1, hk0] at d0
                  simp only [Nat.zero_mul, Nat.add_zero] at d0
                  have hn0 : 0 < n1 := by rw [← HN1.out]; exact h0
                  have hn0' : (0 : Int) < (n1 : Int) := by omega
                  have t5 := str_beq_eq (rfl : key = key)
                  clear hc hk0 hx0 hx1 h0
                  subst e9
                  go_wp2_with fail
                  refine (JW.out _).mono ?_
                  rintro e w9 ⟨rfl, hb⟩
                  have HBz := Lib.hid (eb_of HBa.out hb (by first | exact Nat.le_refl _ | exact HBa.out.size))
                  clear hb
                  go_wp2_with fail
                  go_ret
                  exact ⟨by first | rfl | (simp; done), HBz.out⟩
              have t2 : (i : Int) < (n3 : Int) := by omega
              have hix : i < L3.length := by rw [HN3.out]; exact hil
              rcases HE3.out with h0 | ⟨b9, o9, e9, hbl, hc⟩
              · rw [h0] at hix; simp at hix
              have d0 := (hc i hix).1
              obtain ⟨hm, hp⟩ := P3.out _ (List.getElem_mem hix)
              have J1 := Lib.hid (fun w2 => HO.out L3[i] hm w2)
              generalize L3[i] = x at *
              obtain ⟨xk, xv, xd, xq⟩ := x
              simp only at d0 J1 hp
              generalize Kl.ord (Kl.L xk) (Kl.L key) = od at *
              have t3 : ¬ od ≤ 0 := by omega
              clear hc hix hm
              subst e9
              go_wp2_with fail
              refine (J1.out _).mono ?_
              rintro e w8 ⟨rfl, hb⟩
              have HBb := Lib.hid (eb_of HBa.out hb (by first | exact Nat.le_refl _ | exact HBa.out.size))
              have HF1 := Lib.hid (HE1.out.below hb (Nat.le_refl _))
              have HF2 := Lib.hid (HE2.out.below hb (Nat.le_refl _))
              have HF3 := Lib.hid (HE3.out.below hb (Nat.le_refl _))
              clear hb d0
              go_wp2_with fail
              exact ⟨⟨i + 1, by first | rfl | go_num, by omega, HBb.out, HF1.out, HF2.out, HF3.out⟩, by simp [intOf]; omega⟩
          have t2 : (i : Int) < (n2 : Int) := by omega
          have hix : i < L2.length := by rw [HN2.out]; exact hil
          rcases HE2.out with h0 | ⟨b9, o9, e9, hbl, hc⟩
          · rw [h0] at hix; simp at hix
          have d0 := (hc i hix).1
          obtain ⟨hm, hp⟩ := P2.out _ (List.getElem_mem hix)
          have J1 := Lib.hid (fun w2 => HO.out L2[i] hm w2)
          generalize L2[i] = x at *
          obtain ⟨xk, xv, xd, xq⟩ := x
          simp only at d0 J1 hp
          generalize Kl.ord (Kl.L xk) (Kl.L key) = od at *
          have t3 : ¬ 0 ≤ od := by omega
          clear hc hix hm
          subst e9
          go_wp2_with fail
          refine (J1.out _).mono ?_
          rintro e w8 ⟨rfl, hb⟩
          have HBb := Lib.hid (eb_of HBa.out hb (by first | exact Nat.le_refl _ | exact HBa.out.size))
          have HF1 := Lib.hid (HE1.out.below hb (Nat.le_refl _))
          have HF2 := Lib.hid (HE2.out.below hb (Nat.le_refl _))
          have HF3 := Lib.hid (HE3.out.below hb (Nat.le_refl _))
          clear hb d0
          go_wp2_with fail
          exact ⟨⟨i + 1, by first | rfl | go_num, by omega, HBb.out, HF1.out, HF2.out, HF3.out⟩, by simp [intOf]; omega⟩
      have t2 : (i : Int) < (n1 : Int) := by omega
      have hix : i < L1.length := by rw [HN1.out]; exact hil
      rcases HE1.out with h0 | ⟨b9, o9, e9, hbl, hc⟩
      · rw [h0] at hix; simp at hix
      have d0 := (hc i hix).1
      obtain ⟨hm, hp⟩ := P1.out _ (List.getElem_mem hix)
      have J1 := Lib.hid (fun w2 => HO.out L1[i] hm w2)
      generalize L1[i] = x at *
      obtain ⟨xk, xv, xd, xq⟩ := x
      simp only at d0 J1 hp
      generalize Kl.ord (Kl.L xk) (Kl.L key) = od at *
      have t3 : ¬ od < 0 := by omega
      clear hc hix hm
      subst e9
      go_wp2_with fail
      refine (J1.out _).mono ?_
      rintro e w8 ⟨rfl, hb⟩
      have HBb := Lib.hid (eb_of HBa.out hb (by first | exact Nat.le_refl _ | exact HBa.out.size))
      have HF1 := Lib.hid (HE1.out.below hb (Nat.le_refl _))
      have HF2 := Lib.hid (HE2.out.below hb (Nat.le_refl _))
      have HF3 := Lib.hid (HE3.out.below hb (Nat.le_refl _))
      clear hb d0
      go_wp2_with fail
      exact ⟨⟨i + 1, by first | rfl | go_num, by omega, HBb.out, HF1.out, HF2.out, HF3.out⟩, by simp [intOf]; omega⟩
end Go.Proofs.Ytndmmajhhjohhaa.KK
