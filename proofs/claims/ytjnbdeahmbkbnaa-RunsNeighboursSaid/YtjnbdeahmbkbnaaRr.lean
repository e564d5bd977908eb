/-
  RunsNeighbours: the walk.
-/
import Derived.Test.YtjnbdeahmbkbnaaRp
import Derived.Test.YtjnbdeahmbkbnaaRq
namespace Go.Proofs.Ytjnbdeahmbkbnaa.KK
open Go.ChangeShapes Go.WideShapes Go.ChangeAt Go.RowKit Go.Proofs

set_option maxRecDepth 100000 in
set_option maxHeartbeats 8000000 in
theorem nb_err (id : Int) (A : Option Addr) (c n : Nat) (key : ByteArray) (w : World) (r : Int) (h0 : r ≠ 0) (h4 : r ≠ 4) (hn : n ≤ 9223372036854775807) (hk : ¬ 100 < key.size)
    (JF : Hid (∀ w1, Below w.heap.size w w1 → Calls Try.prog 9 #[.agg #[.int .i64 id, .slice A n c]] w1 fun e w' => e = .returned (.bool false) ∧ Below w1.heap.size w1 w'))
    (JG : Hid (∀ w1, Below w.heap.size w w1 → Calls Try.prog 13 #[.agg #[.int .i64 id, .slice A n c], .string key] w1 fun e w' => e = .returned (.tuple #[.agg #[.string ⟨#[]⟩, .string ⟨#[]⟩, .bool false, .int .i64 0], .int .i64 r]) ∧ Below w1.heap.size w1 w'))
    (JL : Hid (∀ w1, Below w.heap.size w w1 → Calls Try.prog 15 #[.agg #[.int .i64 id, .slice A n c], .string key, .bool true] w1 fun e w' => e = .returned (.tuple #[.agg #[.string ⟨#[]⟩, .string ⟨#[]⟩, .bool false, .int .i64 0], .int .i64 r]) ∧ Below w1.heap.size w1 w'))
    (JH : Hid (∀ w1, Below w.heap.size w w1 → Calls Try.prog 17 #[.agg #[.int .i64 id, .slice A n c], .string key, .bool true] w1 fun e w' => e = .returned (.tuple #[.agg #[.string ⟨#[]⟩, .string ⟨#[]⟩, .bool false, .int .i64 0], .int .i64 r]) ∧ Below w1.heap.size w1 w'))
    (JA : Hid (∀ w1, Below w.heap.size w w1 → Calls Try.prog 15 #[.agg #[.int .i64 id, .slice A n c], .string key, .bool false] w1 fun e w' => e = .returned (.tuple #[.agg #[.string ⟨#[]⟩, .string ⟨#[]⟩, .bool false, .int .i64 0], .int .i64 r]) ∧ Below w1.heap.size w1 w'))
    (JB : Hid (∀ w1, Below w.heap.size w w1 → Calls Try.prog 17 #[.agg #[.int .i64 id, .slice A n c], .string key, .bool false] w1 fun e w' => e = .returned (.tuple #[.agg #[.string ⟨#[]⟩, .string ⟨#[]⟩, .bool false, .int .i64 0], .int .i64 r]) ∧ Below w1.heap.size w1 w')) :
    Calls Try.prog 5 #[.agg #[.int .i64 id, .slice A n c], .string key] w fun e w' => e = .returned (.bool true) ∧ Below w.heap.size w w' := by
  have HX := boxU id A n c w
  obtain ⟨x0, x1, x2, x3⟩ := HX.out _ (Below.refl _ _)
  have HB := Lib.hid x3
  have JW := Lib.hid (fun w => awake8_any w)
  clear x2 x3
  have hk' : ¬ (100 : Int) < (key.size : Int) := by omega
  obtain ⟨b1, b2⟩ := ne_b h0
  have b3 : (r == 4) = false := by rw [beq_eq_false_iff_ne]; exact h4
  have b4 : (r != 4) = true := by rw [bne_iff_ne]; exact h4
  clear h0 h4
  go_enter Try.func5, Try.ntmps5
  go_wp2_with fail
  refine (JF.out _ HB.out).mono ?_
  rintro e w0 ⟨rfl, hb⟩
  have HC0 := Lib.hid hb
  obtain ⟨y0, y1, y2, y3⟩ := HX.out _ hb
  have HB0 := Lib.hid y3
  clear hb x0 x1 y3
  go_wp2_with fail
  refine (JG.out _ HB0.out).mono ?_
  rintro e w1 ⟨rfl, hb⟩
  have HC1 := Lib.hid (eb_of (eb_of HC0.out hb (Nat.le_refl _)) (alloc_below w1 (.cells #[.string ⟨#[]⟩, .string ⟨#[]⟩, .bool false, .int .i64 0] 31)) (Nat.le_refl _))
  clear hb y0 y1 y2
  obtain ⟨y0, y1, y2, y3⟩ := HX.out _ HC1.out
  have HB1 := Lib.hid y3
  clear y3
  go_wp2_with fail
  refine (JL.out _ HB1.out).mono ?_
  rintro e w2 ⟨rfl, hb⟩
  have HC2 := Lib.hid (eb_of (eb_of HC1.out hb (Nat.le_refl _)) (alloc_below w2 (.cells #[.string ⟨#[]⟩, .string ⟨#[]⟩, .bool false, .int .i64 0] 31)) (Nat.le_refl _))
  clear hb y0 y1 y2
  obtain ⟨y0, y1, y2, y3⟩ := HX.out _ HC2.out
  have HB2 := Lib.hid y3
  clear y3
  go_wp2_with fail
  refine (JH.out _ HB2.out).mono ?_
  rintro e w3 ⟨rfl, hb⟩
  have HC3 := Lib.hid (eb_of (eb_of HC2.out hb (Nat.le_refl _)) (alloc_below w3 (.cells #[.string ⟨#[]⟩, .string ⟨#[]⟩, .bool false, .int .i64 0] 31)) (Nat.le_refl _))
  clear hb y0 y1 y2
  obtain ⟨y0, y1, y2, y3⟩ := HX.out _ HC3.out
  have HB3 := Lib.hid y3
  clear y3
  go_wp2_with fail
  refine (JA.out _ HB3.out).mono ?_
  rintro e w4 ⟨rfl, hb⟩
  have HC4 := Lib.hid (eb_of (eb_of HC3.out hb (Nat.le_refl _)) (alloc_below w4 (.cells #[.string ⟨#[]⟩, .string ⟨#[]⟩, .bool false, .int .i64 0] 31)) (Nat.le_refl _))
  clear hb y0 y1 y2
  obtain ⟨y0, y1, y2, y3⟩ := HX.out _ HC4.out
  have HB4 := Lib.hid y3
  clear y3
  go_wp2_with fail
  refine (JB.out _ HB4.out).mono ?_
  rintro e w5 ⟨rfl, hb⟩
  have HC5 := Lib.hid (eb_of (eb_of HC4.out hb (Nat.le_refl _)) (alloc_below w5 (.cells #[.string ⟨#[]⟩, .string ⟨#[]⟩, .bool false, .int .i64 0] 31)) (Nat.le_refl _))
  clear hb y0 y1 y2
  obtain ⟨y0, y1, y2, y3⟩ := HX.out _ HC5.out
  have HB5 := Lib.hid y3
  clear y3
  go_wp2_with fail
  refine (JW.out _).mono ?_
  rintro e w9 ⟨rfl, hb⟩
  have HB9 := Lib.hid (eb_of HB5.out hb (Nat.le_refl _))
  clear hb
  go_wp2_with fail
  go_ret
  exact ⟨by first | rfl | simp, HB9.out⟩
set_option maxRecDepth 100000 in
set_option maxHeartbeats 8000000 in
theorem nb_far (id : Int) (A : Option Addr) (c n : Nat) (key : ByteArray) (w : World) (v : Bool) (h : v = true ∨ 100 < key.size)
    (JF : Hid (∀ w1, Below w.heap.size w w1 → Calls Try.prog 9 #[.agg #[.int .i64 id, .slice A n c]] w1 fun e w' => e = .returned (.bool v) ∧ Below w1.heap.size w1 w')) :
    Calls Try.prog 5 #[.agg #[.int .i64 id, .slice A n c], .string key] w fun e w' => e = .returned (.bool true) ∧ Below w.heap.size w w' := by
  have HX := boxU id A n c w
  obtain ⟨x0, x1, x2, x3⟩ := HX.out _ (Below.refl _ _)
  have HB := Lib.hid x3
  have JW := Lib.hid (fun w => awake8_any w)
  clear x2 x3
  cases v with
  | true =>
    clear h
    go_enter Try.func5, Try.ntmps5
    go_wp2_with fail
    refine (JF.out _ HB.out).mono ?_
    rintro e w0 ⟨rfl, hb⟩
    have HC0 := Lib.hid hb
    obtain ⟨y0, y1, y2, y3⟩ := HX.out _ hb
    have HB0 := Lib.hid y3
    clear hb x0 x1 y3
    go_wp2_with fail
    refine (JW.out _).mono ?_
    rintro e w9 ⟨rfl, hb⟩
    have HB9 := Lib.hid (eb_of HB0.out hb (Nat.le_refl _))
    clear hb
    go_wp2_with fail
    go_ret
    exact ⟨by first | rfl | simp, HB9.out⟩
  | false =>
    have hk' : (100 : Int) < (key.size : Int) := by have := h.resolve_left (by simp); omega
    clear h
    go_enter Try.func5, Try.ntmps5
    go_wp2_with fail
    refine (JF.out _ HB.out).mono ?_
    rintro e w0 ⟨rfl, hb⟩
    have HC0 := Lib.hid hb
    obtain ⟨y0, y1, y2, y3⟩ := HX.out _ hb
    have HB0 := Lib.hid y3
    clear hb x0 x1 y3
    go_wp2_with fail
    refine (JW.out _).mono ?_
    rintro e w9 ⟨rfl, hb⟩
    have HB9 := Lib.hid (eb_of HB0.out hb (Nat.le_refl _))
    clear hb
    go_wp2_with fail
    go_ret
    exact ⟨by first | rfl | simp, HB9.out⟩
theorem entN : Ending.returned (entV (El.none, 4)) = .returned (.tuple #[.agg #[.string ⟨#[]⟩, .string ⟨#[]⟩, .bool false, .int .i64 0], .int .i64 4]) := rfl
set_option maxRecDepth 100000 in
set_option maxHeartbeats 8000000 in
theorem Neighbours8_any (id : Int) (A : Option Addr) (c : Nat) (xs : List El.En) (key : ByteArray) (w : World) (hf : EsAt w A xs) (hn : xs.length ≤ 9223372036854775807) (hs : Sized xs) (hcap : xs.length ≤ c) (hnil : A = none → c = 0) (hz : key.size ≤ 9223372036854775807) :
    Calls Try.prog 5 #[.agg #[.int .i64 id, .slice A xs.length c], .string key] w fun e w' => e = .returned (.bool true) ∧ Below w.heap.size w w' := by
  have JF := Lib.hid (fun w1 (h : Below w.heap.size w w1) => far8_any id A c xs w1 (hf.below h (Nat.le_refl _)) hn hs)
  cases hfar : farF xs with
  | true =>
    rw [hfar] at JF
    exact nb_far id A c xs.length key w true (.inl rfl) JF
  | false =>
  rw [hfar] at JF
  by_cases hk : 100 < key.size
  · exact nb_far id A c xs.length key w false (.inr hk) JF
  have hl5 := far_len hfar
  have hn5 : xs.length ≤ 4294967295 := by omega
  have JG := fun w1 (h : Below w.heap.size w w1) => pGet8_any id A c xs key w1 (hf.below h (Nat.le_refl _)) hn5 hs hcap hnil hz
  have JL := fun w1 (h : Below w.heap.size w w1) => pFloor8_any id A c xs key true w1 (hf.below h (Nat.le_refl _)) hn5 hs hcap hnil hz
  have JH := fun w1 (h : Below w.heap.size w w1) => pCeil8_any id A c xs key true w1 (hf.below h (Nat.le_refl _)) hn5 hs hcap hnil hz
  have JA := fun w1 (h : Below w.heap.size w w1) => pFloor8_any id A c xs key false w1 (hf.below h (Nat.le_refl _)) hn5 hs hcap hnil hz
  have JB := fun w1 (h : Below w.heap.size w w1) => pCeil8_any id A c xs key false w1 (hf.below h (Nat.le_refl _)) hn5 hs hcap hnil hz
  by_cases ha : askR id xs key = 0
  rotate_left
  · rw [(get_no ha).1] at JG
    rw [floorR_no ha] at JL JA
    rw [ceilR_no ha] at JH JB
    exact nb_err id A c xs.length key w (askR id xs key) ha (askR_ne4 id xs key) hn hk JF (Lib.hid JG) (Lib.hid JL) (Lib.hid JH) (Lib.hid JA) (Lib.hid JB)
  obtain ⟨hr, hk32⟩ := askR_zero ha
  obtain ⟨hl, hck, hasc⟩ := run_ok hr
  obtain ⟨l1, l2⟩ := bef_is hasc key false
  have hle := befN_le xs key false
  have HO : ∀ (b off : Nat) (hA : A = some ⟨b, off, none⟩), ∀ k, k < xs.length → ∃ kk r, (∀ w', Below w.heap.size w w' → w'.cell? ⟨b, off + k * 4, none⟩ = some (.string kk)) ∧ (r < 0 ↔ k < befN xs key false) ∧ ∀ w1, Calls Try.prog 27 #[.string kk, .string key] w1 fun e w' => e = .returned (.int .i64 r) ∧ Below w1.heap.size w1 w' := fun b off hA k hkn => by
    refine ⟨xs[k].1, Kl.ord (Kl.L xs[k].1) (Kl.L key), fun w' h => ?_, ?_, fun w1 => Order_any _ _ w1 (by have := (El.chk_of (hck _ (List.getElem_mem hkn))).1; omega) hz⟩
    · rcases hf.below h (Nat.le_refl _) with h0 | ⟨b', off', hA', _, hc⟩
      · subst h0; simp at hkn
      · rw [hA] at hA'
        obtain ⟨rfl, rfl⟩ : b = b' ∧ off = off' := by simpa using hA'
        exact (hc k hkn).1
    · rw [Kl.ord_neg]
      constructor
      · intro g
        by_cases h : k < befN xs key false
        · exact h
        · have h3 := l2 k hkn (by omega)
          rw [lowB_less (key := key) (x := xs[k]) g false] at h3; cases h3
      · intro g
        have h3 := l1 k hkn g
        unfold lowB at h3; simp at h3; exact h3
  have HC : ∀ (b off : Nat) (hA : A = some ⟨b, off, none⟩) (k : Nat) (hkn : k < xs.length), ∀ w', Below w.heap.size w w' → w'.cell? ⟨b, off + k * 4, none⟩ = some (.string xs[k].1) ∧ w'.cell? ⟨b, off + k * 4 + 1, none⟩ = some (.string xs[k].2.1) ∧ w'.cell? ⟨b, off + k * 4 + 2, none⟩ = some (.bool xs[k].2.2.1) ∧ w'.cell? ⟨b, off + k * 4 + 3, none⟩ = some (.int .i64 xs[k].2.2.2) := fun b off hA k hkn w' h => by
    rcases hf.below h (Nat.le_refl _) with h0 | ⟨b', off', hA', _, hc⟩
    · subst h0; simp at hkn
    · rw [hA] at hA'
      obtain ⟨rfl, rfl⟩ : b = b' ∧ off = off' := by simpa using hA'
      exact hc k hkn
  have HS : 0 < xs.length → ∃ b off, A = some ⟨b, off, none⟩ := fun h => by
    rcases hf with h0 | ⟨b, off, hA, _⟩
    · subst h0; simp at h
    · exact ⟨b, off, hA⟩
  clear hf hs hcap hnil hck l1 l2 hfar hr hk32
  rcases around hasc key with ⟨hp, hpk, hpe⟩ | ⟨hpe, hpn⟩
  · obtain ⟨e1, e2, e3⟩ := nb_found ha hp hpk hpe
    rw [e1] at JG
    rw [e2] at JA
    rw [e3] at JB
    obtain ⟨b, off, rfl⟩ := HS (by omega)
    have HO := HO b off rfl
    have HM := HC b off rfl (befN xs key false) hp
    have hhi : ∀ q, befN xs key true = q → (if h : q < xs.length then ceilR id xs key true = (xs[q], 0) else ceilR id xs key true = (El.none, 4)) := fun q hq => by
      by_cases h : q < xs.length
      · rw [dif_pos h]; exact high_some ha hq h
      · rw [dif_neg h]; exact ceilR_none ha (by have := befN_le xs key true; omega)
    obtain ⟨m, hm⟩ : ∃ m, xs[befN xs key false] = m := ⟨_, rfl⟩
    rw [hm] at HM JG JA JB hpk
    subst hpk
    have hlo : ∀ p, befN xs m.1 false = p → (p = 0 → floorR id xs m.1 true = (El.none, 4)) ∧ (∀ j, p = j + 1 → ∃ g : j < xs.length, floorR id xs m.1 true = (xs[j], 0)) := fun p hq => ⟨fun h => low_none ha (by simp; omega), fun j hj => low_some ha (by simp; omega)⟩
    rw [hpe] at hhi
    obtain ⟨p, hpp⟩ : ∃ p, befN xs m.1 false = p := ⟨_, rfl⟩
    have hlo := hlo p hpp
    have hhi := hhi (p + 1) (by rw [hpp])
    simp only [hpp] at HO HM hp
    clear hpe hpp e1 e2 e3 hm
    cases p with
    | zero =>
      rw [hlo.1 rfl] at JL
      by_cases hq : 0 + 1 < xs.length
      · rw [dif_pos hq] at hhi
        rw [hhi] at JH
        have HV := HC b off rfl (0 + 1) hq
        simp only [Nat.zero_mul, Nat.add_zero, Nat.zero_add, Nat.one_mul] at HM HV
        obtain ⟨v, hv⟩ : ∃ v, xs[0 + 1] = v := ⟨_, rfl⟩
        rw [hv] at JH
        simp only [Nat.zero_add] at hv
        rw [hv] at HV
        exact nb_101 id b off c xs.length m.1 w m.2.1 m.2.2.1 m.2.2.2 v.1 v.2.1 v.2.2.1 v.2.2.2 hl hk hq JF (Lib.hid JG) (Lib.hid JL) (Lib.hid JH) (Lib.hid JA) (Lib.hid JB) (Lib.hid (fun w' h => ⟨HM w' h, HV w' h⟩)) (Lib.hid HO)
      · rw [dif_neg hq] at hhi
        rw [hhi] at JH
        simp only [Nat.zero_mul, Nat.add_zero] at HM
        exact nb_100 id b off c xs.length m.1 w m.2.1 m.2.2.1 m.2.2.2 hl hk (by omega) JF (Lib.hid JG) (Lib.hid JL) (Lib.hid JH) (Lib.hid JA) (Lib.hid JB) (Lib.hid (fun w' h => HM w' h)) (Lib.hid HO)
    | succ j =>
      obtain ⟨gj, ej⟩ := hlo.2 j rfl
      rw [ej] at JL
      have HU := HC b off rfl j gj
      generalize xs[j] = u at *
      by_cases hq : j + 1 + 1 < xs.length
      · rw [dif_pos hq] at hhi
        rw [hhi] at JH
        have HV := HC b off rfl (j + 1 + 1) hq
        generalize xs[j + 1 + 1] = v at *
        exact nb_111 id b off c xs.length m.1 w j m.2.1 m.2.2.1 m.2.2.2 u.1 u.2.1 u.2.2.1 u.2.2.2 v.1 v.2.1 v.2.2.1 v.2.2.2 hl hk hq JF (Lib.hid JG) (Lib.hid JL) (Lib.hid JH) (Lib.hid JA) (Lib.hid JB) (Lib.hid (fun w' h => ⟨HM w' h, HU w' h, HV w' h⟩)) (Lib.hid HO)
      · rw [dif_neg hq] at hhi
        rw [hhi] at JH
        exact nb_110 id b off c xs.length m.1 w j m.2.1 m.2.2.1 m.2.2.2 u.1 u.2.1 u.2.2.1 u.2.2.2 hl hk (by omega) JF (Lib.hid JG) (Lib.hid JL) (Lib.hid JH) (Lib.hid JA) (Lib.hid JB) (Lib.hid (fun w' h => ⟨HM w' h, HU w' h⟩)) (Lib.hid HO)
  · obtain ⟨e1, e2, e3⟩ := nb_not ha hpe hpn
    rw [e1] at JG
    rw [e2] at JA
    rw [e3] at JB
    have hhi : ∀ q, befN xs key true = q → (if h : q < xs.length then ceilR id xs key true = (xs[q], 0) else ceilR id xs key true = (El.none, 4)) := fun q hq => by
      by_cases h : q < xs.length
      · rw [dif_pos h]; exact high_some ha hq h
      · rw [dif_neg h]; exact ceilR_none ha (by have := befN_le xs key true; omega)
    have hlo : ∀ p, befN xs key false = p → (p = 0 → floorR id xs key true = (El.none, 4)) ∧ (∀ j, p = j + 1 → ∃ g : j < xs.length, floorR id xs key true = (xs[j], 0)) := fun p hq => ⟨fun h => low_none ha (by simp; omega), fun j hj => low_some ha (by simp; omega)⟩
    rw [hpe] at hhi
    obtain ⟨p, hpp⟩ : ∃ p, befN xs key false = p := ⟨_, rfl⟩
    have hlo := hlo p hpp
    have hhi := hhi p hpp
    simp only [hpp] at HO hle
    clear hpe hpp e1 e2 e3
    cases p with
    | zero =>
      rw [hlo.1 rfl] at JL JA
      by_cases hq : 0 < xs.length
      · rw [dif_pos hq] at hhi
        rw [hhi] at JH JB
        obtain ⟨b, off, rfl⟩ := HS hq
        have HO := HO b off rfl
        have HV := HC b off rfl 0 hq
        simp only [Nat.zero_mul, Nat.add_zero] at HV
        generalize xs[0] = v at *
        exact nb_001 id b off c xs.length key w v.1 v.2.1 v.2.2.1 v.2.2.2 hl hk hq JF (Lib.hid JG) (Lib.hid JL) (Lib.hid JH) (Lib.hid JA) (Lib.hid JB) (Lib.hid (fun w' h => HV w' h)) (Lib.hid HO)
      · rw [dif_neg hq] at hhi
        rw [hhi] at JH JB
        exact nb_000 id A c xs.length key w hl hk (by omega) JF (Lib.hid JG) (Lib.hid JL) (Lib.hid JH) (Lib.hid JA) (Lib.hid JB)
    | succ j =>
      obtain ⟨gj, ej⟩ := hlo.2 j rfl
      rw [ej] at JL JA
      obtain ⟨b, off, rfl⟩ := HS (by omega)
      have HO := HO b off rfl
      have HU := HC b off rfl j gj
      generalize xs[j] = u at *
      by_cases hq : j + 1 < xs.length
      · rw [dif_pos hq] at hhi
        rw [hhi] at JH JB
        have HV := HC b off rfl (j + 1) hq
        generalize xs[j + 1] = v at *
        exact nb_011 id b off c xs.length key w j u.1 u.2.1 u.2.2.1 u.2.2.2 v.1 v.2.1 v.2.2.1 v.2.2.2 hl hk hq JF (Lib.hid JG) (Lib.hid JL) (Lib.hid JH) (Lib.hid JA) (Lib.hid JB) (Lib.hid (fun w' h => ⟨HU w' h, HV w' h⟩)) (Lib.hid HO)
      · rw [dif_neg hq] at hhi
        rw [hhi] at JH JB
        exact nb_010 id b off c xs.length key w j u.1 u.2.1 u.2.2.1 u.2.2.2 hl hk (by omega) JF (Lib.hid JG) (Lib.hid JL) (Lib.hid JH) (Lib.hid JA) (Lib.hid JB) (Lib.hid (fun w' h => HU w' h)) (Lib.hid HO)
end Go.Proofs.Ytjnbdeahmbkbnaa.KK
