/-
  Trees of losers: the law LoserGames.
-/
import Derived.Test.YthmipjlmmgdpmaaLu
namespace Go.Proofs.Ythmipjlmmgdpmaa.KK
open Go.ChangeShapes Go.WideShapes Go.ChangeAt Go.RowKit Go.Proofs

/-- how many of the first i losers differ -/
def cntD (A B : List Int) (i : Nat) : Nat := Lo.ham i A B
theorem cntD_succ (A B : List Int) (i : Nat) : cntD A B (i + 1) = cntD A B i + (if A.getD i 0 = B.getD i 0 then 0 else 1) := by
  unfold cntD Lo.ham
  rw [List.range_succ, List.countP_append, List.countP_cons, List.countP_nil]
  by_cases h : A.getD i 0 = B.getD i 0 <;> simp [h]
theorem cntD_le (A B : List Int) : ∀ i, cntD A B i ≤ i
  | 0 => by simp [cntD, Lo.ham]
  | i + 1 => by rw [cntD_succ]; have := cntD_le A B i; split <;> omega
theorem ham_games {ks : List LK} (h : keysE ks = 0) (k : LK) : cntD (loL ks) (loL (ks.set (wnr ks) k)) ks.length ≤ Lo.gm ((ks.length + wnr ks) / 2) := by
  obtain ⟨L', hE, hr, hh⟩ := Lo.climb_again' (wn_tot (ks.set (wnr ks) k)) (wnr_lt h) (wn_set (ks := ks) (k := k)) rfl (loL_row ks) 0
  have hr2 := loL_row (ks.set (wnr ks) k)
  rw [List.length_set] at hr2
  rw [Row_eq hr hr2] at hh
  exact hh
theorem gm_facts {n p : Nat} (hp : p < n) (hn : n ≤ 32) : Lo.gm ((n + p) / 2) ≤ 5 ∧ (1 ≤ Lo.gm ((n + p) / 2) → 2 ^ (Lo.gm ((n + p) / 2) - 1) < n) := by
  refine ⟨Lo.gm_five (by omega), fun h => ?_⟩
  rcases Nat.eq_zero_or_pos ((n + p) / 2) with e | e
  · rw [e, Lo.gm_zero] at h; omega
  · have := Lo.gm_pow _ e; omega
set_option maxRecDepth 100000 in
set_option maxHeartbeats 4000000 in
theorem Games_any (A : Option Addr) (c : Nat) (ks : List LK) (k : ByteArray) (kd : Bool) (w : World) (hf : KsAt w A ks) (hn : ks.length ≤ 9223372036854775807) (hs : SizedL ks) (hkz : k.size ≤ 9223372036854775807) :
    Calls Try.prog 6 #[.slice A ks.length c, .agg #[.string k, .bool kd]] w fun e w' => e = .returned (.bool true) ∧ Below w.heap.size w w' := by
  have HX := boxK k kd w
  obtain ⟨x0, x1, x2, x3⟩ := HX.out _ (Below.refl _ _)
  have HB0 := Lib.hid x3
  have J := Lib.hid (far10_any A c ks _ (hf.below x3 (Nat.le_refl _)) hn hs)
  have JW := Lib.hid (fun w => awake10_any w)
  clear x2 x3
  cases hfar : farK ks with
  | true =>
    rw [hfar] at J
    clear hf hs hfar
    generalize ks.length = n at *
    go_enter Try.func6, Try.ntmps6
    go_wp2_with fail
    refine J.out.mono ?_
    rintro e w1 ⟨rfl, hb⟩
    have HB1 := Lib.hid (eb_of HB0.out hb (by simp))
    clear hb
    go_wp2_with fail
    refine (JW.out _).mono ?_
    rintro e w2 ⟨rfl, hb⟩
    have HB2 := Lib.hid (eb_of HB1.out hb (Nat.le_refl _))
    clear hb
    go_wp2_with fail
    go_ret
    exact ⟨rfl, HB2.out⟩
  | false =>
  rw [hfar] at J
  obtain ⟨hn40, _⟩ := farK_len hfar
  by_cases h100 : 100 < k.size
  · clear hf hs hfar
    generalize ks.length = n at *
    go_enter Try.func6, Try.ntmps6
    go_wp2_with fail
    refine J.out.mono ?_
    rintro e w1 ⟨rfl, hb⟩
    obtain ⟨x0, x1, x2, x3⟩ := HX.out _ hb
    have HB1 := Lib.hid x3
    clear hb x3
    go_wp2_with fail
    refine (JW.out _).mono ?_
    rintro e w2 ⟨rfl, hb⟩
    have HB2 := Lib.hid (eb_of HB1.out hb (Nat.le_refl _))
    clear hb
    go_wp2_with fail
    go_ret
    exact ⟨rfl, HB2.out⟩
  by_cases hk : keysE ks = 0
  rotate_left
  · have JB := Lib.hid (fun w' (hb : Below w.heap.size w w') => build_no A c ks w' (hf.below hb (Nat.le_refl _)) (by omega) hk)
    obtain ⟨b1, b2⟩ := ne_b hk
    clear hf hs hfar hk
    generalize keysE ks = r at *
    generalize ks.length = n at *
    go_enter Try.func6, Try.ntmps6
    go_wp2_with fail
    refine J.out.mono ?_
    rintro e w1 ⟨rfl, hb⟩
    obtain ⟨x0, x1, x2, x3⟩ := HX.out _ hb
    have HB1 := Lib.hid x3
    clear hb x3
    go_wp2_with fail
    refine (JB.out _ HB1.out).mono ?_
    rintro e w2 ⟨rfl, hb⟩
    have HB2 := Lib.hid (eb_of HB1.out hb (Nat.le_refl _))
    clear hb x0 x1 x2
    go_wp2_with fail
    refine (JW.out _).mono ?_
    rintro e w3 ⟨rfl, hb⟩
    have HB3 := Lib.hid (eb_of (eb_of HB2.out (alloc_below _ _) (Nat.le_refl _)) hb (Nat.le_refl _))
    clear hb
    go_wp2_with fail
    go_ret
    exact ⟨rfl, HB3.out⟩
  obtain ⟨h1, h32, hall⟩ := keysE_ok hk
  have JB := Lib.hid (fun w' (hb : Below w.heap.size w w') => build_ok A c ks w' (hf.below hb (Nat.le_refl _)) hk)
  by_cases hre : repE ks (k, kd) = 0
  rotate_left
  · have JR := Lib.hid (fun (B D : Option Addr) (e d : Nat) (w' : World) (h1 : KsAt w' B ks) (h2 : IsAt w' D (loL ks)) => replace_no B D e d ks k kd w' h1 h2 hk hre)
    obtain ⟨b1, b2⟩ := ne_b hre
    clear hf hs hfar hk hre hall
    generalize repE ks (k, kd) = r at *
    obtain ⟨n, hnn⟩ : ∃ n, ks.length = n := ⟨_, rfl⟩
    obtain ⟨LL, hLL⟩ : ∃ LL, loL ks = LL := ⟨_, rfl⟩
    obtain ⟨ww, hww⟩ : ∃ ww, wnr ks = ww := ⟨_, rfl⟩
    rw [hnn] at J h1 h32 hn40 hn ⊢
    rw [hnn, hLL, hww] at JB JR
    clear hnn hLL hww
    go_enter Try.func6, Try.ntmps6
    go_wp2_with fail
    refine J.out.mono ?_
    rintro e w1 ⟨rfl, hb⟩
    obtain ⟨x0, x1, x2, x3⟩ := HX.out _ hb
    have HB1 := Lib.hid x3
    have HB1' := Lib.hid hb
    clear hb x3
    go_wp2_with fail
    refine (JB.out _ HB1.out).mono ?_
    rintro e w2 ⟨kb, lb, cp, cl, rfl, ht⟩
    have HT := boxTree (n := n) (cp := cp) (cl := cl) (win := (ww : Int)) (eb_of HB1.out ht.below (Nat.le_refl _)) ht.keys ht.lose
    have HB2' := Lib.hid (eb_of HB1'.out ht.below (Nat.le_refl _))
    clear ht HB1 HB1' JB x0 x1 x2
    obtain ⟨w3, hw3⟩ : ∃ w3, w3 = w2.alloc (.cells #[.slice (some ⟨kb, 0, none⟩) n cp, .slice (some ⟨lb, 0, none⟩) n cl, .int .i64 (ww : Int)] 27) := ⟨_, rfl⟩
    have HB3' : Hid (Below (w.alloc (.cells #[.string k, .bool kd] 39)).heap.size (w.alloc (.cells #[.string k, .bool kd] 39)) w3) := Lib.hid (hw3 ▸ eb_of HB2'.out (alloc_below _ _) (Nat.le_refl _))
    obtain ⟨x0, x1, x2, x3⟩ := HX.out _ HB3'.out
    rw [hw3] at x0 x1
    go_wp2_with fail
    rw [← hw3]
    rw [← hw3] at HT
    clear hw3 x0 x1 x2 x3
    obtain ⟨q0, q1, q2, q3, q4⟩ := HT.out w3 (Below.refl _ _)
    refine (JR.out _ _ cp cl w3 q1 q2).mono ?_
    rintro e w4 ⟨rfl, hb4⟩
    have HB4 := Lib.hid (eb_of q3 hb4 (Nat.le_refl _))
    clear q0 q1 q2 q3 q4 hb4
    go_wp2_with fail
    refine (JW.out _).mono ?_
    rintro e w5 ⟨rfl, hb⟩
    have HB5 := Lib.hid (eb_of (eb_of HB4.out (alloc_below _ _) (Nat.le_refl _)) hb (Nat.le_refl _))
    clear hb
    go_wp2_with fail
    go_ret
    exact ⟨rfl, HB5.out⟩
  obtain ⟨_, hke, _⟩ := repE_ok hre
  have hkV := keyAll_set (p := wnr ks) hk hke
  have hp := wnr_lt hk
  have HGM := Lib.hid (gm_facts hp h32)
  have HHM := Lib.hid (ham_games hk (k, kd))
  have JR := Lib.hid (fun (B D : Option Addr) (e d : Nat) (w' : World) (h1 : KsAt w' B ks) (h2 : IsAt w' D (loL ks)) => replace_ok B D e d ks k kd w' h1 h2 hk hre)
  have JV := Lib.hid (fun (B : Option Addr) (e : Nat) (w' : World) (h1 : KsAt w' B (ks.set (wnr ks) (k, kd))) => by
    have K := build_ok B e (ks.set (wnr ks) (k, kd)) w' h1 hkV
    rw [List.length_set] at K; exact K)
  have JS := Lib.hid (fun (B B' D D' : Option Addr) (e e' d d' : Nat) (w' : World) (h1 : KsAt w' B (ks.set (wnr ks) (k, kd))) (h2 : KsAt w' B' (ks.set (wnr ks) (k, kd))) (h3 : IsAt w' D (loL (ks.set (wnr ks) (k, kd)))) (h4 : IsAt w' D' (loL (ks.set (wnr ks) (k, kd)))) => by
    have K := same_eq B B' D D' e e' d d' (ks.set (wnr ks) (k, kd)) (loL (ks.set (wnr ks) (k, kd))) (wnr (ks.set (wnr ks) (k, kd)) : Nat) w' h1 h2 h3 h4 (by rw [List.length_set]; omega) (by rw [loL_len, List.length_set]; omega)
    rw [loL_len, List.length_set] at K; exact K)
  have HLV : Hid ((loL (ks.set (wnr ks) (k, kd))).length = ks.length) := Lib.hid (by rw [loL_len, List.length_set])
  have HKV : Hid ((∀ i, i ≠ wnr ks → kAt (ks.set (wnr ks) (k, kd)) i = kAt ks i) ∧ kAt (ks.set (wnr ks) (k, kd)) (wnr ks) = (k, kd)) := Lib.hid ⟨fun i h => kAt_set h, kAt_set_self hp⟩
  have HKL : Hid ((ks.set (wnr ks) (k, kd)).length = ks.length) := Lib.hid (List.length_set ..)
  have HLLn := Lib.hid (loL_len ks)
  clear hf hs hfar hk hre hall hke hkV
  obtain ⟨n, hnn⟩ : ∃ n, ks.length = n := ⟨_, rfl⟩
  have HN := Lib.hid hnn
  obtain ⟨LL, hLL⟩ : ∃ LL, loL ks = LL := ⟨_, rfl⟩
  obtain ⟨ww, hww⟩ : ∃ ww, wnr ks = ww := ⟨_, rfl⟩
  rw [hnn] at J h1 h32 hn40 hn hp ⊢
  rw [hnn, hLL, hww] at JB JR HHM
  rw [hnn, hww] at JV JS HLV HKL HGM
  rw [hww] at HKV
  rw [hnn, hLL] at HLLn
  rw [hww] at hp
  generalize hg : Lo.gm ((n + ww) / 2) = gg at *
  generalize hKV : ks.set ww (k, kd) = KV at *
  generalize hLVe : loL KV = LV at *
  generalize wnr KV = wv at *
  clear hnn hLL hww hg hKV hLVe
  go_enter Try.func6, Try.ntmps6
  go_wp2_with fail
  refine J.out.mono ?_
  rintro e w1 ⟨rfl, hb⟩
  obtain ⟨x0, x1, x2, x3⟩ := HX.out _ hb
  have HB1 := Lib.hid x3
  have HB1' := Lib.hid hb
  clear hb x3 J
  go_wp2_with fail
  refine (JB.out _ HB1.out).mono ?_
  rintro e w2 ⟨kb, lb, cp, cl, rfl, ht⟩
  have HT := boxTree (n := n) (cp := cp) (cl := cl) (win := (ww : Int)) (eb_of HB1.out ht.below (Nat.le_refl _)) ht.keys ht.lose
  have HB2' := Lib.hid (eb_of HB1'.out ht.below (Nat.le_refl _))
  clear ht HB1 HB1' JB x0 x1 x2
  obtain ⟨w3, hw3⟩ : ∃ w3, w3 = w2.alloc (.cells #[.slice (some ⟨kb, 0, none⟩) n cp, .slice (some ⟨lb, 0, none⟩) n cl, .int .i64 (ww : Int)] 27) := ⟨_, rfl⟩
  have HB3' : Hid (Below (w.alloc (.cells #[.string k, .bool kd] 39)).heap.size (w.alloc (.cells #[.string k, .bool kd] 39)) w3) := Lib.hid (hw3 ▸ eb_of HB2'.out (alloc_below _ _) (Nat.le_refl _))
  obtain ⟨x0, x1, x2, x3⟩ := HX.out _ HB3'.out
  rw [hw3] at x0 x1
  go_wp2_with fail
  rw [← hw3]
  rw [← hw3] at HT
  clear hw3 x0 x1 x2 x3
  obtain ⟨q0, q1, q2, q3, q4⟩ := HT.out w3 (Below.refl _ _)
  refine (JR.out _ _ cp cl w3 q1 q2).mono ?_
  rintro e w5 ⟨kb5, lb5, cp5, cl5, rfl, ht5⟩
  have HU := boxTree (n := n) (cp := cp5) (cl := cl5) (win := (wv : Int)) (eb_of q3 ht5.below (Nat.le_refl _)) ht5.keys ht5.lose
  have HB5 := Lib.hid ht5.below
  clear q0 q1 q2 q3 q4 ht5 JR HB2'
  obtain ⟨w6, hw6⟩ : ∃ w6, w6 = w5.alloc (.cells #[.slice (some ⟨kb5, 0, none⟩) n cp5, .slice (some ⟨lb5, 0, none⟩) n cl5, .int .i64 (wv : Int)] 27) := ⟨_, rfl⟩
  rw [← hw6] at HU
  have HB6 : Hid (Below w3.heap.size w3 w6) := Lib.hid (hw6 ▸ eb_of HB5.out (alloc_below _ _) (Nat.le_refl _))
  have HZ : Hid (∀ w', Below w6.heap.size w6 w' → Row3 w' w2.heap.size 27 (.slice (some ⟨kb, 0, none⟩) n cp) (.slice (some ⟨lb, 0, none⟩) n cl) (.int .i64 (ww : Int)) ∧ KsAt w' (some ⟨kb, 0, none⟩) ks ∧ IsAt w' (some ⟨lb, 0, none⟩) LL ∧
      Row3 w' w5.heap.size 27 (.slice (some ⟨kb5, 0, none⟩) n cp5) (.slice (some ⟨lb5, 0, none⟩) n cl5) (.int .i64 (wv : Int)) ∧ KsAt w' (some ⟨kb5, 0, none⟩) KV ∧ IsAt w' (some ⟨lb5, 0, none⟩) LV ∧
      w'.cell? ⟨w.heap.size, 0, none⟩ = some (.string k) ∧ w'.cell? ⟨w.heap.size, 1, none⟩ = some (.bool kd) ∧ Below w.heap.size w w') := Lib.hid (fun w' h => by
    have h3 := eb_of HB6.out h (Nat.le_refl _)
    obtain ⟨q0, q1, q2, q3, q4⟩ := HT.out w' h3
    obtain ⟨v0, v1, v2, v3, v4⟩ := HU.out w' h
    obtain ⟨x0, x1, x2, x3⟩ := HX.out w' (eb_of HB3'.out h3 (Nat.le_refl _))
    exact ⟨q0, q1, q2, v0, v1, v2, x0, x1, x3⟩)
  clear HT HU HB3' HB6 HB5 HX
  go_upto_region 9 with fail
  rw [← hw6]
  clear hw6
  go_cut [99] (fun v wx => v = .bool false ∧ Below w6.heap.size w6 wx)
  case first =>
    obtain ⟨q0, q1, q2, v0, v1, v2, x0, x1, x3⟩ := HZ.out w6 (Below.refl _ _)
    have c0 := q0.c0
    have c1 := q0.c1
    have c2 := q0.c2
    have d0 := v0.c0
    have d1 := v0.c1
    have d2 := v0.c2
    have hwn : (ww : Int) < (n : Int) := by omega
    obtain ⟨hg5, hg2⟩ := HGM.out
    have hgs : gg = 0 ∨ gg = 1 ∨ gg = 2 ∨ gg = 3 ∨ gg = 4 ∨ gg = 5 := by omega
    clear q0 q1 q2 v0 v1 v2 x0 x1 x3
    rcases hgs with rfl | rfl | rfl | rfl | rfl | rfl
    all_goals
      simp at hg2
      go_wp2_with fail
      go_meet
      case rel => exact ⟨congrArg Value.bool (by simp only [Bool.or_eq_false_iff, decide_eq_false_iff_not]; omega), Below.refl _ _⟩
  case rest =>
    obtain ⟨rfl, hb6⟩ := hcut
    have HBC := Lib.hid hb6
    clear hb6
    go_wp2_with fail
    go_loopw [10, 11] (fun cv iv wr => ∃ i : Nat, i ≤ n ∧ iv = .int .i64 i ∧ cv = .int .i64 (cntD LL LV i : Nat) ∧ Below w6.heap.size w6 wr) (fun _ iv _ => n - (intOf iv).toNat)
    case atStart => exact ⟨0, Nat.zero_le _, rfl, by first | rfl | (simp [cntD, Lo.ham]; done), HBC.out⟩
    case round =>
      obtain ⟨i, hin, rfl, rfl, hb⟩ := hrel
      have HBw := Lib.hid hb
      have hcl := cntD_le LL LV i
      obtain ⟨q0, q1, q2, v0, v1, v2, x0, x1, x3⟩ := HZ.out wr hb
      have hsz := hb.size
      clear hb
      by_cases hlt : i < n
      · have c0 := q0.c0
        have c1 := q0.c1
        have c2 := q0.c2
        have d0 := v0.c0
        have d1 := v0.c1
        have hik : i < ks.length := by rw [HN.out]; exact hlt
        have hiv : i < KV.length := by rw [HKL.out]; exact hlt
        have hil : i < LL.length := by rw [HLLn.out]; exact hlt
        have hjl : i < LV.length := by rw [HLV.out]; exact hlt
        rcases q1 with h0 | ⟨b, off, hb0, hbl, hc⟩
        · subst h0; simp at hik
        obtain ⟨rfl, rfl⟩ : b = kb ∧ off = 0 := by simpa [eq_comm] using hb0
        obtain ⟨g0, g1⟩ := hc i hik
        rw [Nat.zero_add] at g0 g1
        rw [← kAt_lt hik] at g0 g1
        rcases v1 with h0 | ⟨b5, off, hb5, hbl5, hc5⟩
        · subst h0; simp at hiv
        obtain ⟨rfl, rfl⟩ : b5 = kb5 ∧ off = 0 := by simpa [eq_comm] using hb5
        obtain ⟨f0, f1⟩ := hc5 i hiv
        rw [Nat.zero_add] at f0 f1
        rw [← kAt_lt hiv] at f0 f1
        rcases q2 with h0 | ⟨bl, off, hb1, hbll, hcl1⟩
        · subst h0; simp at hil
        obtain ⟨rfl, rfl⟩ : bl = lb ∧ off = 0 := by simpa [eq_comm] using hb1
        have e0 := hcl1 i hil
        rw [Nat.zero_add] at e0
        rcases v2 with h0 | ⟨bl5, off, hb2, hbl2, hcl2⟩
        · subst h0; simp at hjl
        obtain ⟨rfl, rfl⟩ : bl5 = lb5 ∧ off = 0 := by simpa [eq_comm] using hb2
        have e1 := hcl2 i hjl
        rw [Nat.zero_add] at e1
        have hkv : (i = ww ∧ kAt KV i = (k, kd)) ∨ (i ≠ ww ∧ kAt KV i = kAt ks i) := by
          by_cases e : i = ww
          · exact .inl ⟨e, by rw [e]; exact HKV.out.2⟩
          · exact .inr ⟨e, HKV.out.1 i e⟩
        have HCN : Hid (cntD LL LV (i + 1) = cntD LL LV i + (if LL[i] = LV[i] then 0 else 1)) := Lib.hid (by rw [cntD_succ]; simp [hil, hjl])
        generalize LL[i] = a1 at *
        generalize LV[i] = a2 at *
        clear q0 hc hb0 hb5 hc5 hb1 hcl1 hb2 hcl2 v0
        generalize hcg : cntD LL LV i = cc at *
        have HCG := Lib.hid hcg
        clear hcg
        generalize kAt ks i = m1 at *
        obtain ⟨m1, m2⟩ := m1
        rcases hkv with ⟨hi, hk⟩ | ⟨hi, hk⟩
        · rw [hk] at f0 f1
          subst hi
          by_cases he : a1 = a2
          · have HX1 : Hid (cntD LL LV (i + 1) = cc) := Lib.hid (by rw [HCN.out, if_pos he]; rfl)
            subst he
            clear HCN
            go_wp2_with fail
            go_quiet (fail)
            go_wp2_with fail
            go_quiet (fail)
            go_wp2_with fail
            go_roundw
            case rel => exact ⟨i + 1, by omega, by go_num, by rw [HX1.out], HBw.out.trans ((below_drewN' _).mono hsz)⟩
            case measure => simp [intOf]; omega
          · have HX1 : Hid (cntD LL LV (i + 1) = cc + 1) := Lib.hid (by rw [HCN.out, if_neg he])
            have hb1 : (a2 == a1) = false := by rw [beq_eq_false_iff_ne]; exact Ne.symm he
            have hb2 : (a2 != a1) = true := by rw [bne_iff_ne]; exact Ne.symm he
            clear HCN he
            go_wp2_with fail
            go_quiet (fail)
            go_wp2_with fail
            go_quiet (fail)
            go_wp2_with fail
            go_roundw
            case rel => exact ⟨i + 1, by omega, by go_num, by rw [HX1.out]; go_num, HBw.out.trans ((below_drewN' _).mono hsz)⟩
            case measure => simp [intOf]; omega
        · rw [hk] at f0 f1
          have hi1 : ((i : Int) == (ww : Int)) = false := by rw [beq_eq_false_iff_ne]; omega
          have hi2 : ((i : Int) != (ww : Int)) = true := by rw [bne_iff_ne]; omega
          by_cases he : a1 = a2
          · have HX1 : Hid (cntD LL LV (i + 1) = cc) := Lib.hid (by rw [HCN.out, if_pos he]; rfl)
            subst he
            clear HCN
            go_wp2_with fail
            go_quiet (fail)
            go_wp2_with fail
            go_quiet (fail)
            go_wp2_with fail
            go_roundw
            case rel => exact ⟨i + 1, by omega, by go_num, by rw [HX1.out], HBw.out.trans ((below_drewN' _).mono hsz)⟩
            case measure => simp [intOf]; omega
          · have HX1 : Hid (cntD LL LV (i + 1) = cc + 1) := Lib.hid (by rw [HCN.out, if_neg he])
            have hb1 : (a2 == a1) = false := by rw [beq_eq_false_iff_ne]; exact Ne.symm he
            have hb2 : (a2 != a1) = true := by rw [bne_iff_ne]; exact Ne.symm he
            clear HCN he
            go_wp2_with fail
            go_quiet (fail)
            go_wp2_with fail
            go_quiet (fail)
            go_wp2_with fail
            go_roundw
            case rel => exact ⟨i + 1, by omega, by go_num, by rw [HX1.out]; go_num, HBw.out.trans ((below_drewN' _).mono hsz)⟩
            case measure => simp [intOf]; omega
      · obtain rfl : i = n := by omega
        have hcg := HHM.out
        generalize cntD LL LV i = cc at *
        have hcg1 : (cc : Int) ≤ (gg : Int) := by omega
        have d0 := v0.c0
        have c0 := q0.c0
        clear q0 q1 q2 x0 x1 x3
        go_wp2_with fail
        clear c0
        refine (JV.out _ cp5 wr v1).mono ?_
        rintro e w7 ⟨kb7, lb7, cp7, cl7, rfl, ht7⟩
        have HB7 := Lib.hid (eb_of HBw.out ht7.below (Nat.le_refl _))
        have HT7 := boxTree (n := i) (cp := cp7) (cl := cl7) (win := (wv : Int)) ht7.below ht7.keys ht7.lose
        obtain ⟨w8, hw8⟩ : ∃ w8, w8 = w7.alloc (.cells #[.slice (some ⟨kb7, 0, none⟩) i cp7, .slice (some ⟨lb7, 0, none⟩) i cl7, .int .i64 (wv : Int)] 27) := ⟨_, rfl⟩
        have HB8 : Hid (Below w6.heap.size w6 w8) := Lib.hid (hw8 ▸ eb_of HB7.out (alloc_below _ _) (Nat.le_refl _))
        rw [← hw8] at HT7
        obtain ⟨_, _, _, u0, u1, u2, _, _, u3⟩ := HZ.out w8 HB8.out
        obtain ⟨r0, r1, r2, _, _⟩ := HT7.out w8 (Below.refl _ _)
        have JX := Lib.hid (JS.out _ _ _ _ cp5 cp7 cl5 cl7 w8 u1 r1 u2 r2)
        have HQ := Lib.hid u3
        have e0 := u0.c0
        have e1 := u0.c1
        have e2 := u0.c2
        rw [hw8] at e0 e1 e2
        clear ht7 u0 u1 u2 u3 r0 r1 r2 d0 v0 v1 v2 HT7 HB7
        go_wp2_with fail
        rw [← hw8]
        clear hw8 e0 e1 e2
        refine JX.out.mono ?_
        rintro e w9 ⟨rfl, hb⟩
        have HB9 := Lib.hid (eb_of HQ.out hb (Nat.le_refl _))
        clear hb
        go_wp2_with fail
        refine (JW.out _).mono ?_
        rintro e w10 ⟨rfl, hb⟩
        have HB10 := Lib.hid (eb_of HB9.out hb (Nat.le_refl _))
        clear hb
        go_wp2_with fail
        go_ret
        exact ⟨rfl, HB10.out⟩
end Go.Proofs.Ythmipjlmmgdpmaa.KK
