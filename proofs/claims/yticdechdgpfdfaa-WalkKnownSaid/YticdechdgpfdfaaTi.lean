/-
  Walk: Take, Seek, Clip of the program; the law's own at, example.
-/
import Derived.Test.YticdechdgpfdfaaTh
namespace Go.Proofs.Yticdechdgpfdfaa.KK
open Go.ChangeShapes Go.WideShapes Go.ChangeAt Go.RowKit Go.Proofs Go.Sort

theorem pTake9_any (id : Int) (B : Option Addr) (d : Nat) (xs : List El.En) (k c : Int) (w : World) (hf : EsAt w B xs) (hn : xs.length ≤ 4294967295) (hs : Sized xs) :
    Calls Try.prog 27 #[.agg #[.int .i64 id, .slice B xs.length d], .agg #[.int .i64 k], .int .i64 c] w (TakOut id xs k c w) := by
  by_cases h1 : curE id xs k = 0
  · obtain ⟨hr, m, rfl, hm⟩ := curE_zero h1
    by_cases h2 : c < -5000
    · exact take_lo id B d xs m c w hf hn hs h1 h2
    by_cases h3 : 5000 < c
    · exact take_hi id B d xs m c w hf hn hs h1 h2 h3
    exact take_main id B d xs m c c.natAbs (decide (c < 0)) w hf hn hs h1 h2 h3 rfl rfl
  · exact take_bad id B d xs k c w hf hn hs h1
theorem run_ok {id : Int} {xs : List El.En} (h : (runE id xs).2 = 0) : xs.length ≤ 5000 ∧ (∀ x ∈ xs, El.chk x = 0) ∧ SK xs := list_ok (run_list h)
/-- where the key is, or would be -/
theorem around {xs : List El.En} (hs : SK xs) (key : ByteArray) :
    (∃ h : befN xs key false < xs.length, (xs[befN xs key false]'h).1 = key ∧ befN xs key true = befN xs key false + 1) ∨ (befN xs key true = befN xs key false ∧ ∀ x ∈ xs, x.1 ≠ key) := by
  obtain ⟨a1, a2⟩ := bef_is hs key false
  have hle := befN_le xs key false
  by_cases he : ∃ j, ∃ g : j < xs.length, xs[j].1 = key
  · obtain ⟨j, hj, hjk⟩ := he
    have e1 : befN xs key false = j := by
      refine bef_cut (by omega) (fun i hi hr => ?_) fun i hi hr => ?_
      · have := keyAt_lt hs hr hj
        rw [keyAt_eq hj, keyAt_eq hi, hjk] at this
        exact lowB_less this false
      · have := keyAt_le hs hr hi
        rw [keyAt_eq hj, keyAt_eq hi, hjk] at this
        unfold lowB; simpa using this
    have e2 : befN xs key true = j + 1 := by
      refine bef_cut (by omega) (fun i hi hr => ?_) fun i hi hr => ?_
      · have := keyAt_le hs (show i ≤ j by omega) hj
        rw [keyAt_eq hj, keyAt_eq hi, hjk] at this
        unfold lowB; simpa using this
      · have := keyAt_lt hs (show j < i by omega) hi
        rw [keyAt_eq hj, keyAt_eq hi, hjk] at this
        exact lowB_more this true
    refine .inl ⟨by omega, ?_, by omega⟩
    simp only [e1]; exact hjk
  · refine .inr ⟨?_, fun x hx e => ?_⟩
    · refine bef_cut hle (fun i hi hr => ?_) fun i hi hr => ?_
      · have h1 := a1 i hi hr
        unfold lowB at h1 ⊢
        simp at h1 ⊢
        exact ltK_asymm h1
      · have h1 := a2 i hi hr
        unfold lowB at h1 ⊢
        simp at h1 ⊢
        cases g : ltK key xs[i].1 with
        | true => rfl
        | false => exact absurd ⟨i, hi, ltK_total h1 g⟩ he
    · obtain ⟨j, hj, rfl⟩ := List.getElem_of_mem hx
      exact he ⟨j, hj, e⟩

/-- Seek's answer -/
def sekE (id : Int) (xs : List El.En) (key : ByteArray) (past : Bool) : Int × Int := if askR id xs key ≠ 0 then (0, askR id xs key) else (((befN xs key past : Nat) : Int), 0)
theorem sekE_no {id : Int} {xs : List El.En} {key : ByteArray} {past : Bool} (h : askR id xs key ≠ 0) : sekE id xs key past = (0, askR id xs key) := if_pos h
theorem sekE_ok {id : Int} {xs : List El.En} {key : ByteArray} {past : Bool} (h : askR id xs key = 0) : sekE id xs key past = (((befN xs key past : Nat) : Int), 0) := if_neg (by rw [h]; simp)
/-- Clip's answer -/
def clpE (id : Int) (xs : List El.En) (k : Int) (lo hi : ByteArray) (b : Bool) : Int × Int :=
  if curE id xs k ≠ 0 then (0, curE id xs k) else if chkR lo hi b ≠ 0 then (0, chkR lo hi b) else (min (max k (inN xs lo : Nat)) (toN xs lo hi b : Nat), 0)
theorem clpE_no {id : Int} {xs : List El.En} {k : Int} {lo hi : ByteArray} {b : Bool} (h : curE id xs k ≠ 0) : clpE id xs k lo hi b = (0, curE id xs k) := if_pos h
theorem clpE_form {id : Int} {xs : List El.En} {k : Int} {lo hi : ByteArray} {b : Bool} (h : curE id xs k = 0) (g : chkR lo hi b ≠ 0) : clpE id xs k lo hi b = (0, chkR lo hi b) := by
  unfold clpE; rw [if_neg (by rw [h]; simp), if_pos g]
theorem clpE_ok {id : Int} {xs : List El.En} {k : Int} {lo hi : ByteArray} {b : Bool} (h : curE id xs k = 0) (g : chkR lo hi b = 0) : clpE id xs k lo hi b = (min (max k (inN xs lo : Nat)) (toN xs lo hi b : Nat), 0) := by
  unfold clpE; rw [if_neg (by rw [h]; simp), if_neg (by rw [g]; simp)]
theorem at_any (n : Int) (w : World) : Calls Try.prog 34 #[.int .i64 n] w fun e w' => e = .returned (.agg #[.int .i64 n]) ∧ Below w.heap.size w w' := by
  go_enter Try.func34, Try.ntmps34
  have HZ := Lib.hid (Boxed.new w 26 (.int .i64 n))
  go_wp2
  have c0 := HZ.out.cell
  refine bodyPost_ret (v := .agg #[.int .i64 n]) (by simp [results, Try.f34, go_sem, c0]) rfl ?_
  exact ⟨rfl, alloc_below _ _⟩
set_option maxRecDepth 100000 in
set_option maxHeartbeats 4000000 in
theorem rx9_any (w : World) : Calls Try.prog 35 #[] w (RxOut w) := by
  go_enter Try.func35, Try.ntmps35
  go_wp2_with fail
  have hb1 := alloc_below w (.cells #[.int .i64 7, .slice (some ⟨w.heap.size + 1, 0, none⟩) 3 3] 24)
  have hb2 := alloc_below (w.alloc (.cells #[.int .i64 7, .slice (some ⟨w.heap.size + 1, 0, none⟩) 3 3] 24)) (.cells #[.string ⟨#[97]⟩, .string ⟨#[49]⟩, .bool false, .int .i64 1, .string ⟨#[99]⟩, .string ⟨#[]⟩, .bool true, .int .i64 2, .string ⟨#[101]⟩, .string ⟨#[50]⟩, .bool false, .int .i64 3] 34)
  have hr := (hb2.block w.heap.size (by simp)).trans (heap_alloc_new w (.cells #[.int .i64 7, .slice (some ⟨w.heap.size + 1, 0, none⟩) 3 3] 24))
  have k0 := cell_of_row _ w.heap.size 0 _ _ _ hr
  have k1 := cell_of_row _ w.heap.size 1 _ _ _ hr
  have he := heap_alloc_new (w.alloc (.cells #[.int .i64 7, .slice (some ⟨w.heap.size + 1, 0, none⟩) 3 3] 24)) (.cells #[.string ⟨#[97]⟩, .string ⟨#[49]⟩, .bool false, .int .i64 1, .string ⟨#[99]⟩, .string ⟨#[]⟩, .bool true, .int .i64 2, .string ⟨#[101]⟩, .string ⟨#[50]⟩, .bool false, .int .i64 3] 34)
  rw [show (w.alloc (.cells #[.int .i64 7, .slice (some ⟨w.heap.size + 1, 0, none⟩) 3 3] 24)).heap.size = w.heap.size + 1 by simp] at he
  refine bodyPost_ret (v := .agg #[.int .i64 7, .slice (some ⟨w.heap.size + 1, 0, none⟩) 3 3]) (by simp [results, Try.results35, go_sem]) rfl ⟨⟨w.heap.size + 1, 0, none⟩, rfl, .inr ⟨w.heap.size + 1, 0, rfl, by simp, fun i hi => ?_⟩, hb1.trans (hb2.mono (by simp))⟩
  have hk : i = 0 ∨ i = 1 ∨ i = 2 := by simp [rxL] at hi; omega
  rcases hk with rfl | rfl | rfl <;> exact ⟨cell_of_row _ (w.heap.size + 1) _ _ _ _ he, cell_of_row _ (w.heap.size + 1) _ _ _ _ he, cell_of_row _ (w.heap.size + 1) _ _ _ _ he, cell_of_row _ (w.heap.size + 1) _ _ _ _ he⟩
set_option maxRecDepth 100000 in
set_option maxHeartbeats 2000000 in
theorem pSeek9_bad (id : Int) (B : Option Addr) (d : Nat) (xs : List El.En) (key : ByteArray) (past : Bool) (w : World) (hf : EsAt w B xs) (hn : xs.length ≤ 4294967295) (hs : Sized xs) (hk : key.size ≤ 9223372036854775807) (h1 : askR id xs key ≠ 0) :
    Calls Try.prog 23 #[.agg #[.int .i64 id, .slice B xs.length d], .string key, .bool past] w fun e w' => e = .returned (.tuple #[.agg #[.int .i64 (sekE id xs key past).1], .int .i64 (sekE id xs key past).2]) ∧ Below w.heap.size w w' := by
  obtain ⟨w1, hw1, r0, b0, hsz, hb⟩ := boxUC0 id B xs.length d w
  have J := Lib.hid (fun w2 (h : Below w.heap.size w w2) => pCheck8_any id B d xs w2 (hf.below h (Nat.le_refl _)) hn hs)
  have JK := Lib.hid (fun w2 => kCheck_any key w2 hk)
  have HL := Lib.hid (sekE_no (past := past) h1)
  have HB := Lib.hid hb
  have HR := Lib.hid r0
  have HK := Lib.hid b0
  have x0 := r0.c0
  have x1 := r0.c1
  have x2 := b0.cell
  by_cases h2 : (runE id xs).2 = 0
  · rw [askR_ok h2] at h1 HL
    obtain ⟨n1, n2⟩ := ne_b h1
    rw [h2] at J
    clear hf hs r0 b0 hb hsz h1 h2
    generalize sekE id xs key past = res at *
    generalize chk1 key.size = r3 at *
    generalize (runE id xs).1 = r1 at *
    generalize xs.length = n at *
    go_enter Try.func23, Try.ntmps23
    go_wp2_with fail
    refine (J.out _ HB.out).mono ?_
    rintro e w2 ⟨rfl, hb⟩
    have HK2 := Lib.hid (box_below HK.out hb (Nat.le_refl _))
    have HB2 := Lib.hid (eb_of HB.out hb (by first | exact Nat.le_refl _ | exact HB.out.size))
    clear hb x0 x1 x2
    go_wp2_with fail
    refine (JK.out _).mono ?_
    rintro e w3 ⟨rfl, rfl⟩
    have hk3 := HK2.out
    have HB3 := Lib.hid (HB2.out.setCell (p := ⟨w.heap.size + 1, 0, none⟩) (by simp) (.int .i64 0))
    have HZ := Lib.hid (hk3.set (.int .i64 0))
    have y2 := hk3.cell
    have y3 := hk3.frozen
    clear hk3
    go_wp2_with fail
    have z0 := HZ.out.cell
    refine bodyPost_ret (v := .tuple #[.agg #[.int .i64 0], .int .i64 r3]) (by simp [results, Try.f23, go_sem, z0]) rfl ?_
    exact ⟨by rw [HL.out], HB3.out⟩
  · rw [askR_no h2] at h1 HL
    obtain ⟨n1, n2⟩ := ne_b h1
    clear hf hs r0 b0 hb hsz h1 h2
    generalize sekE id xs key past = res at *
    generalize (runE id xs).1 = r1 at *
    generalize (runE id xs).2 = r2 at *
    generalize xs.length = n at *
    go_enter Try.func23, Try.ntmps23
    go_wp2_with fail
    refine (J.out _ HB.out).mono ?_
    rintro e w2 ⟨rfl, hb⟩
    have hk3 := box_below HK.out hb (Nat.le_refl _)
    have HB3 := Lib.hid ((eb_of HB.out hb (by first | exact Nat.le_refl _ | exact HB.out.size)).setCell (p := ⟨w.heap.size + 1, 0, none⟩) (by simp) (.int .i64 0))
    have HZ := Lib.hid (hk3.set (.int .i64 0))
    have y2 := hk3.cell
    have y3 := hk3.frozen
    clear hb hk3 x0 x1 x2
    go_wp2_with fail
    have z0 := HZ.out.cell
    refine bodyPost_ret (v := .tuple #[.agg #[.int .i64 0], .int .i64 r2]) (by simp [results, Try.f23, go_sem, z0]) rfl ?_
    exact ⟨by rw [HL.out], HB3.out⟩
set_option maxRecDepth 100000 in
set_option maxHeartbeats 4000000 in
theorem pSeek9_ok (id : Int) (B : Option Addr) (d : Nat) (xs : List El.En) (key : ByteArray) (past : Bool) (w : World) (hf : EsAt w B xs) (hn : xs.length ≤ 4294967295) (hs : Sized xs) (hcap : xs.length ≤ d) (hnil : B = none → d = 0) (hk : key.size ≤ 9223372036854775807) (h1 : askR id xs key = 0) :
    Calls Try.prog 23 #[.agg #[.int .i64 id, .slice B xs.length d], .string key, .bool past] w fun e w' => e = .returned (.tuple #[.agg #[.int .i64 (sekE id xs key past).1], .int .i64 (sekE id xs key past).2]) ∧ Below w.heap.size w w' := by
  obtain ⟨w1, hw1, r0, b0, hsz, hb⟩ := boxUC0 id B xs.length d w
  obtain ⟨hr, hks⟩ := askR_zero h1
  obtain ⟨h5, _, hsk⟩ := run_ok hr
  have J := Lib.hid (fun w2 (h : Below w.heap.size w w2) => by have K := pCheck8_any id B d xs w2 (hf.below h (Nat.le_refl _)) hn hs; rw [hr] at K; exact K)
  have JK := Lib.hid (fun w2 => by have K := kCheck_any key w2 hk; rw [chk1_ok hks] at K; exact K)
  have hcr : chkR key ⟨#[]⟩ false = 0 := by unfold chkR; rw [if_neg (by rw [Classical.not_not]; exact ⟨hks, by decide⟩), if_neg (by simp [ByteArray.size])]
  have JP := Lib.hid (fun w2 (h : Below w.heap.size w w2) => by have K := pPart8_any id B d xs key ⟨#[]⟩ false w2 (hf.below h (Nat.le_refl _)) hn hs hcap hnil hk (by decide); rw [partR_ok hr hcr] at K; exact K)
  have HF := Lib.hid (fun w2 (h : Below w.heap.size w w2) => hf.below h (Nat.le_refl _))
  have HA := Lib.hid (around hsk key)
  have HL := Lib.hid (sekE_ok (past := past) h1)
  have hle := befN_le xs key false
  have HT : Hid (toN xs key ⟨#[]⟩ false = xs.length) := Lib.hid (by unfold toN; simp)
  rw [HT.out, ← befN_less] at JP
  have HB := Lib.hid hb
  have HR := Lib.hid r0
  have HK := Lib.hid b0
  have x0 := r0.c0
  have x1 := r0.c1
  have x2 := b0.cell
  clear hf hs r0 b0 hb hsz h1 hr hsk hcr HT hcap hnil
  generalize sekE id xs key past = res at *
  generalize (runE id xs).1 = r1 at *
  obtain ⟨n, hn'⟩ : ∃ n, xs.length = n := ⟨_, rfl⟩
  rw [hn'] at J JP x1 hw1 hle hn h5 HR ⊢
  have HN := Lib.hid hn'
  clear hn'
  obtain ⟨p, hp⟩ : ∃ p, befN xs key false = p := ⟨_, rfl⟩
  rw [hp] at JP hle
  have HP := Lib.hid hp
  clear hp
  cases past with
  | false =>
    rw [HP.out] at HL
    go_enter Try.func23, Try.ntmps23
    go_wp2_with fail
    refine (J.out _ HB.out).mono ?_
    rintro e w2 ⟨rfl, hb⟩
    have HK2 := Lib.hid (box_below HK.out hb (Nat.le_refl _))
    have HR2 := Lib.hid (HR.out.below hb (Nat.le_refl _))
    have HB2 := Lib.hid (eb_of HB.out hb (by first | exact Nat.le_refl _ | exact HB.out.size))
    clear hb x0 x1 x2
    go_wp2_with fail
    refine (JK.out _).mono ?_
    rintro e w3 ⟨rfl, rfl⟩
    have HK3 := HK2
    have HR3 := HR2
    have HB3 := HB2
    have x0 := HR3.out.c0
    have x1 := HR3.out.c1
    go_wp2_with fail
    refine (JP.out _ HB3.out).mono ?_
    rintro e w4 ⟨rfl, hb⟩
    have hk4 := box_below HK3.out hb (Nat.le_refl _)
    have HR4 := Lib.hid (HR3.out.below hb (Nat.le_refl _))
    have HB4 := Lib.hid (eb_of HB3.out hb (Nat.le_refl _))
    clear hb x0 x1
    have x0 := HR4.out.c0
    have x1 := HR4.out.c1
    have y2 := hk4.cell
    have y3 := hk4.frozen
    have HZ := Lib.hid (hk4.set (.int .i64 (p : Int)))
    have HB5 := Lib.hid (HB4.out.setCell (p := ⟨w.heap.size + 1, 0, none⟩) (by simp) (.int .i64 (p : Int)))
    clear hk4
    go_wp2_with fail
    have z0 := HZ.out.cell
    refine bodyPost_ret (v := .tuple #[.agg #[.int .i64 (p : Int)], .int .i64 0]) (by simp [results, Try.f23, go_sem, z0]) rfl ?_
    exact ⟨by first | (rw [HL.out]; done) | (rw [HL.out]; first | rfl | (simp; done) | (push_cast; rfl)), HB5.out⟩
  | true =>
    by_cases hpn : p < n
    rotate_left
    · have HE : Hid (befN xs key true = p) := Lib.hid (by
        rcases HA.out with ⟨hh, _, _⟩ | ⟨hh, _⟩
        · rw [HP.out, HN.out] at hh; exact absurd hh hpn
        · rw [hh, HP.out])
      rw [HE.out] at HL
      have t1 : decide ((p : Int) < (n : Int)) = false := by rw [decide_eq_false_iff_not]; omega
      have t2 : decide (p < n) = false := by rw [decide_eq_false_iff_not]; omega
      go_enter Try.func23, Try.ntmps23
      go_wp2_with fail
      refine (J.out _ HB.out).mono ?_
      rintro e w2 ⟨rfl, hb⟩
      have HK2 := Lib.hid (box_below HK.out hb (Nat.le_refl _))
      have HR2 := Lib.hid (HR.out.below hb (Nat.le_refl _))
      have HB2 := Lib.hid (eb_of HB.out hb (by first | exact Nat.le_refl _ | exact HB.out.size))
      clear hb x0 x1 x2
      go_wp2_with fail
      refine (JK.out _).mono ?_
      rintro e w3 ⟨rfl, rfl⟩
      have HK3 := HK2
      have HR3 := HR2
      have HB3 := HB2
      have x0 := HR3.out.c0
      have x1 := HR3.out.c1
      go_wp2_with fail
      refine (JP.out _ HB3.out).mono ?_
      rintro e w4 ⟨rfl, hb⟩
      have hk4 := box_below HK3.out hb (Nat.le_refl _)
      have HR4 := Lib.hid (HR3.out.below hb (Nat.le_refl _))
      have HB4 := Lib.hid (eb_of HB3.out hb (Nat.le_refl _))
      clear hb x0 x1
      have x0 := HR4.out.c0
      have x1 := HR4.out.c1
      have y2 := hk4.cell
      have y3 := hk4.frozen
      have HZ := Lib.hid (hk4.set (.int .i64 (p : Int)))
      have HB5 := Lib.hid (HB4.out.setCell (p := ⟨w.heap.size + 1, 0, none⟩) (by simp) (.int .i64 (p : Int)))
      clear hk4
      go_wp2_with fail
      have z0 := HZ.out.cell
      refine bodyPost_ret (v := .tuple #[.agg #[.int .i64 (p : Int)], .int .i64 0]) (by simp [results, Try.f23, go_sem, z0]) rfl ?_
      exact ⟨by first | (rw [HL.out]; done) | (rw [HL.out]; first | rfl | (simp; done) | (push_cast; rfl)), HB5.out⟩
    have t1 : decide ((p : Int) < (n : Int)) = true := by rw [decide_eq_true_eq]; omega
    have t2 : decide (p < n) = true := by rw [decide_eq_true_eq]; omega
    have hpx : p < xs.length := by rw [HN.out]; exact hpn
    obtain ⟨⟨yk, yv, yd, yq⟩, hy⟩ : ∃ y, xs[p] = y := ⟨_, rfl⟩
    have HCL : Hid (∀ w2, Below w.heap.size w w2 → ∃ b off, B = some ⟨b, off, none⟩ ∧ w2.cell? ⟨b, off + p * 4, none⟩ = some (.string yk)) := Lib.hid (fun w2 h => by
      rcases HF.out w2 h with h0 | ⟨b, off, e, _, hc⟩
      · rw [h0] at hpx; simp at hpx
      · have := (hc p hpx).1; rw [hy] at this; exact ⟨b, off, e, this⟩)
    by_cases hyk : yk = key
    · have HE : Hid (befN xs key true = p + 1) := Lib.hid (by
        rcases HA.out with ⟨_, _, hh⟩ | ⟨_, hh⟩
        · rw [hh, HP.out]
        · exact absurd (by rw [hy]; exact hyk) (hh xs[p] (List.getElem_mem hpx)))
      rw [HE.out] at HL
      have t3 := str_beq_eq hyk
      clear hy hyk hpx
      go_enter Try.func23, Try.ntmps23
      go_wp2_with fail
      refine (J.out _ HB.out).mono ?_
      rintro e w2 ⟨rfl, hb⟩
      have HK2 := Lib.hid (box_below HK.out hb (Nat.le_refl _))
      have HR2 := Lib.hid (HR.out.below hb (Nat.le_refl _))
      have HB2 := Lib.hid (eb_of HB.out hb (by first | exact Nat.le_refl _ | exact HB.out.size))
      clear hb x0 x1 x2
      go_wp2_with fail
      refine (JK.out _).mono ?_
      rintro e w3 ⟨rfl, rfl⟩
      have HK3 := HK2
      have HR3 := HR2
      have HB3 := HB2
      have x0 := HR3.out.c0
      have x1 := HR3.out.c1
      go_wp2_with fail
      refine (JP.out _ HB3.out).mono ?_
      rintro e w4 ⟨rfl, hb⟩
      have hk4 := box_below HK3.out hb (Nat.le_refl _)
      have HR4 := Lib.hid (HR3.out.below hb (Nat.le_refl _))
      have HB4 := Lib.hid (eb_of HB3.out hb (Nat.le_refl _))
      clear hb x0 x1
      have x0 := HR4.out.c0
      have x1 := HR4.out.c1
      have y2 := hk4.cell
      have y3 := hk4.frozen
      have HZ := Lib.hid (hk4.set (.int .i64 ((p : Int) + 1)))
      have HB5 := Lib.hid (HB4.out.setCell (p := ⟨w.heap.size + 1, 0, none⟩) (by simp) (.int .i64 ((p : Int) + 1)))
      clear hk4
      obtain ⟨b, off, rfl, g0⟩ := HCL.out _ HB4.out
      go_wp2_with fail
      have z0 := HZ.out.cell
      refine bodyPost_ret (v := .tuple #[.agg #[.int .i64 ((p : Int) + 1)], .int .i64 0]) (by simp [results, Try.f23, go_sem, z0]) rfl ?_
      exact ⟨by first | (rw [HL.out]; done) | (rw [HL.out]; first | rfl | (simp; done) | (push_cast; rfl)), HB5.out⟩
    · have HE : Hid (befN xs key true = p) := Lib.hid (by
        rcases HA.out with ⟨_, hh, _⟩ | ⟨hh, _⟩
        · refine absurd ?_ hyk
          have e : xs[befN xs key false]'(by rw [HP.out]; exact hpx) = xs[p] := by congr 1
          rw [← hh, e, hy]
        · rw [hh, HP.out])
      rw [HE.out] at HL
      have t3 := str_beq_ne hyk
      clear hy hyk hpx
      go_enter Try.func23, Try.ntmps23
      go_wp2_with fail
      refine (J.out _ HB.out).mono ?_
      rintro e w2 ⟨rfl, hb⟩
      have HK2 := Lib.hid (box_below HK.out hb (Nat.le_refl _))
      have HR2 := Lib.hid (HR.out.below hb (Nat.le_refl _))
      have HB2 := Lib.hid (eb_of HB.out hb (by first | exact Nat.le_refl _ | exact HB.out.size))
      clear hb x0 x1 x2
      go_wp2_with fail
      refine (JK.out _).mono ?_
      rintro e w3 ⟨rfl, rfl⟩
      have HK3 := HK2
      have HR3 := HR2
      have HB3 := HB2
      have x0 := HR3.out.c0
      have x1 := HR3.out.c1
      go_wp2_with fail
      refine (JP.out _ HB3.out).mono ?_
      rintro e w4 ⟨rfl, hb⟩
      have hk4 := box_below HK3.out hb (Nat.le_refl _)
      have HR4 := Lib.hid (HR3.out.below hb (Nat.le_refl _))
      have HB4 := Lib.hid (eb_of HB3.out hb (Nat.le_refl _))
      clear hb x0 x1
      have x0 := HR4.out.c0
      have x1 := HR4.out.c1
      have y2 := hk4.cell
      have y3 := hk4.frozen
      have HZ := Lib.hid (hk4.set (.int .i64 (p : Int)))
      have HB5 := Lib.hid (HB4.out.setCell (p := ⟨w.heap.size + 1, 0, none⟩) (by simp) (.int .i64 (p : Int)))
      clear hk4
      obtain ⟨b, off, rfl, g0⟩ := HCL.out _ HB4.out
      go_wp2_with fail
      have z0 := HZ.out.cell
      refine bodyPost_ret (v := .tuple #[.agg #[.int .i64 (p : Int)], .int .i64 0]) (by simp [results, Try.f23, go_sem, z0]) rfl ?_
      exact ⟨by first | (rw [HL.out]; done) | (rw [HL.out]; first | rfl | (simp; done) | (push_cast; rfl)), HB5.out⟩
end Go.Proofs.Yticdechdgpfdfaa.KK
