/-
  The walk of BuilderBuilds.
-/
import Derived.Test.YtkphadkmmjcmnaaBn
namespace Go.Proofs.Ytkphadkmmjcmnaa.KK
open Go.ChangeShapes Go.WideShapes Go.ChangeAt Go.RowKit Go.Proofs

set_option maxRecDepth 100000 in
set_option maxHeartbeats 4000000 in
theorem Builds_law (mo : Int) (A : Option Addr) (c : Nat) (zs : List El.En) (id : Int) (w : World) (hmo : 0 ≤ mo ∧ mo ≤ 255) (hid : -9223372036854775808 ≤ id ∧ id ≤ 9223372036854775807) (hf : EsAt w A zs) (hn : zs.length ≤ 9223372036854775807) (hs : Sized zs) :
    Calls Try.prog 6 #[.int .u8 mo, .slice A zs.length c, .int .i64 id] w fun e w' => e = .returned (.bool true) ∧ Below w.heap.size w w' := by
  have JW := Lib.hid awake_any
  obtain ⟨n, hnn⟩ : ∃ n, zs.length = n := ⟨_, rfl⟩
  by_cases hfar : 60 < n
  · rw [hnn] at hn ⊢
    clear hf hs hnn
    go_enter Try.func6, Try.ntmps6
    go_wp2_with fail
    refine (JW.out _).mono ?_
    rintro e w1 ⟨rfl, hb⟩
    go_wp2_with fail
    go_ret
    exact ⟨rfl, hb⟩
  have HN := Lib.hid hnn
  rw [hnn] at hn ⊢
  have HF := Lib.hid hf
  have HS := Lib.hid hs
  clear hf hs hnn
  obtain ⟨i0, hi, hz0, hz1, hz2⟩ := info_parts infoE
  obtain ⟨m, hm, hm1, hm2⟩ : ∃ m : Nat, (m : Int) = mo % 70 + 1 ∧ 1 ≤ m ∧ m ≤ 70 := ⟨(mo % 70 + 1).toNat, by omega, by omega, by omega⟩
  have JN := Lib.hid (fun (w1 : World) => New_ok (mo % 70 + 1) m w1 hm.symm hm1 (by omega))
  go_enter Try.func6, Try.ntmps6
  go_wp2_with fail
  refine (JN.out _).mono ?_
  rintro e w1 ⟨M, rfl, hM, hd, hb⟩
  have HB1 := Lib.hid hb
  have HS1 := Lib.hid (Side.mk (ys := []) (Hold.mk hd (Rv.nil w1 w.heap.size) hM hb.size) (World.ownsRow_nil w1 w.heap.size 36 4) (fun g hg => by cases hg))
  clear hb hd
  go_wp2_with fail
  go_loopw [9, 10] (fun tv iv wr => ∃ (k : Nat) (xs : List El.En) (v : Value) (wb : Option Nat), k ≤ n ∧ iv = .int .i64 k ∧ Below w.heap.size w wr ∧ OkL m xs ∧ GL xs ∧ Side w.heap.size M m 1 xs wr v wb tv xs.length xs) (fun _ iv _ => n - (intOf iv).toNat)
  case atStart => exact ⟨0, [], _, _, Nat.zero_le _, rfl, HB1.out, OkL.nil (by omega), GL.nil, HS1.out⟩
  case round =>
    obtain ⟨k, xs, v, wb, hk, rfl, hb, hok, hgl, hside⟩ := hrel
    obtain ⟨Au, cu, rfl, hun, hub⟩ := own_slice hside.o
    have HB := Lib.hid hb
    have HOK := Lib.hid hok
    have HGL := Lib.hid hgl
    have HSD := Lib.hid hside
    have hxl : xs.length ≤ m := hok.1
    clear hb hok hgl hside HS1 HB1
    by_cases hlt : k < n
    · have hkx : k < zs.length := by rw [HN.out]; exact hlt
      rcases HF.out with h0 | ⟨b, off, rfl, hbl, hc⟩
      · rw [h0] at hkx; simp at hkx
      obtain ⟨s0, s1⟩ := HS.out.at hkx
      have hI : (k : Int) < (n : Int) := by omega
      obtain ⟨⟨kk, vv, dd, qq⟩, hx⟩ : ∃ x, zs[k] = x := ⟨_, rfl⟩
      have hcx := hc k hkx
      rw [hx] at hcx s0 s1
      simp only at hcx s0 s1
      have HC := Lib.hid (fun (w' : World) (h : Below w.heap.size w w') => show w'.cell? ⟨b, off + k * 4, none⟩ = some (.string kk) ∧ w'.cell? ⟨b, off + k * 4 + 1, none⟩ = some (.string vv) ∧ w'.cell? ⟨b, off + k * 4 + 2, none⟩ = some (.bool dd) ∧ w'.cell? ⟨b, off + k * 4 + 3, none⟩ = some (.int .i64 qq) ∧ b < w'.heap.size from
        ⟨(h.cell (p := ⟨b, _, none⟩) hbl).trans hcx.1, (h.cell (p := ⟨b, _, none⟩) hbl).trans hcx.2.1, (h.cell (p := ⟨b, _, none⟩) hbl).trans hcx.2.2.1, (h.cell (p := ⟨b, _, none⟩) hbl).trans hcx.2.2.2, Nat.lt_of_lt_of_le hbl h.size⟩)
      obtain ⟨g0, g1, -, -, -⟩ := HC.out _ HB.out
      clear hc hcx hx
      by_cases h1 : 100 < kk.size
      · go_wp2_with fail
        refine (JW.out _).mono ?_
        rintro e w1 ⟨rfl, hb⟩
        go_wp2_with fail
        go_ret
        exact ⟨rfl, eb_of HB.out hb (Nat.le_refl _)⟩
      by_cases h2 : 100 < vv.size
      · go_wp2_with fail
        refine (JW.out _).mono ?_
        rintro e w1 ⟨rfl, hb⟩
        go_wp2_with fail
        go_ret
        exact ⟨rfl, eb_of HB.out hb (Nat.le_refl _)⟩
      obtain ⟨A3, c3, hv, hcap3, hnil3, hes3⟩ := HSD.out.h.r.form
      have JR := Lib.hid (by have K := HSD.out.h.d; rw [hv] at K; exact Room_open K (by omega) hxl)
      clear hes3 hcap3 hnil3
      go_wp2_with fail
      refine JR.out.mono ?_
      rintro e w2 ⟨rfl, hb⟩
      have HB2 := Lib.hid (eb_of HB.out hb (Nat.le_refl _))
      have HSD2 := Lib.hid (HSD.out.below hb)
      obtain ⟨g0, g1, g2, g3, gb⟩ := HC.out _ HB2.out
      clear hb JR hv
      have JA := Lib.hid (Add_any w.heap.size M m v wb xs (kk, vv, dd, qq) w2 HSD2.out.h.d HSD2.out.h.r HOK.out HSD2.out.h.s ⟨s0, s1⟩)
      have HOK3 := Lib.hid (HOK.out.add (kk, vv, dd, qq))
      have HGL3 := Lib.hid (HGL.out.add (by omega : m ≤ 5000) (kk, vv, dd, qq))
      by_cases he : addE m xs (kk, vv, dd, qq) = 0
      · have hlt2 := (addE_zero he).2.1
        have hL : addL m xs (kk, vv, dd, qq) = xs ++ [(kk, vv, dd, qq)] := if_pos he
        rw [he, hL] at JA
        rw [hL] at HOK3 HGL3
        obtain ⟨r0, hr0⟩ : ∃ r : Int, ((m - xs.length : Nat) : Int) = r := ⟨_, rfl⟩
        have q0 : (r0 == 0) = false := by rw [beq_eq_false_iff_ne]; omega
        rw [hr0]
        clear he hL hr0
        go_wp2_with fail
        refine JA.out.mono ?_
        rintro e w3 ⟨rfl, ho⟩
        have HB3 := Lib.hid (HB2.out.trans (ho.below hM HSD2.out.h.r HSD2.out.h.s))
        obtain ⟨v3, wb3, hs3⟩ := ho.side HSD2.out
        have HSA := Lib.hid (hs3.below (alloc_below w3 (.cells #[.string kk, .string vv, .bool dd, .int .i64 qq] 36)))
        have HBA := Lib.hid (HB3.out.alloc HB3.out.size (.cells #[.string kk, .string vv, .bool dd, .int .i64 qq] 36))
        obtain ⟨g0, g1, g2, g3, gb⟩ := HC.out _ HB3.out
        have hsz3 := HB3.out.size
        clear ho JA hs3
        go_wp2_with (at_builtin; go_loud (refine wpList_append_own_at _ rfl (.tmp 63) (.tmp 68) 41 rfl w.heap.size 36 i0 (.agg #[.string ⟨#[]⟩, .string ⟨#[]⟩, .bool false, .int .i64 0]) 4 48 Try.underlying41 hi hz0 hz1 hz2 rfl (by decide) _ xs.length _ rfl HSA.out.o ⟨w3.heap.size, 0, none⟩ 1 1 [.string kk, .string vv, .bool dd, .int .i64 qq] rfl rfl (new4 w3 (kk, vv, dd, qq)) (by simp [Value.oneCell']) (by unfold maxLen; omega) (by omega) (by simp; omega) ?_; intro v4 w4 hown hg hn4 hat; have HS4 := Lib.hid (HSA.out.grown (zs := xs ++ [(kk, vv, dd, qq)]) hg (own_snoc hown) hat); have HB4 := Lib.hid (HBA.out.grown hg HBA.out.size (fun g hg => (HSA.out.o.lt g hg).1)); obtain ⟨A4, c4, hv4, hn4', hb4'⟩ := own_slice hown; subst hv4; clear hown hg hn4 hat))
        obtain ⟨A5, c5, hv5, -, -, -⟩ := HS4.out.h.r.form
        rw [List.length_append, List.length_singleton] at hv5
        have JL := Lib.hid (by have K := HS4.out.h.d; rw [hv5] at K; exact len_any K (by decide) (by omega))
        refine JL.out.mono ?_
        rintro e w5 ⟨rfl, hb⟩
        have HB5 := Lib.hid (eb_of HB4.out hb (Nat.le_refl _))
        have HS5 := Lib.hid (HS4.out.below hb)
        clear hb JL
        have JR := Lib.hid (by have K := HS5.out.h.d; rw [hv5] at K; exact Room_open K (by omega) (by omega))
        clear hv5
        go_wp2_with fail
        refine JR.out.mono ?_
        rintro e w6 ⟨rfl, hb⟩
        have HB6 := Lib.hid (eb_of HB5.out hb (Nat.le_refl _))
        have HS6 := Lib.hid (HS5.out.below hb)
        clear hb JR
        go_wp2_with fail
        go_roundw
        case rel => exact ⟨k + 1, xs ++ [(kk, vv, dd, qq)], v3, wb3, by omega, by go_num, HB6.out, HOK3.out, HGL3.out, by rw [List.length_append]; exact HS6.out⟩
        case measure => simp [intOf]; omega
      · have hL : addL m xs (kk, vv, dd, qq) = xs := if_neg he
        rw [hL] at JA HOK3 HGL3
        obtain ⟨b1, b2⟩ := ne_b he
        obtain ⟨r, hr⟩ : ∃ r : Int, addE m xs (kk, vv, dd, qq) = r := ⟨_, rfl⟩
        rw [hr] at JA b1 b2
        obtain ⟨r0, hr0⟩ : ∃ r : Int, ((m - xs.length : Nat) : Int) = r := ⟨_, rfl⟩
        rw [hr0]
        clear he hL hr0 hr
        go_wp2_with fail
        refine JA.out.mono ?_
        rintro e w3 ⟨rfl, ho⟩
        have HB3 := Lib.hid (HB2.out.trans (ho.below hM HSD2.out.h.r HSD2.out.h.s))
        obtain ⟨v3, wb3, hs3⟩ := ho.side HSD2.out
        have HS4 := Lib.hid hs3
        clear ho JA hs3
        go_wp2_with fail
        obtain ⟨A5, c5, hv5, -, -, -⟩ := HS4.out.h.r.form
        have JL := Lib.hid (by have K := HS4.out.h.d; rw [hv5] at K; exact len_any K (by decide) (by omega))
        refine JL.out.mono ?_
        rintro e w5 ⟨rfl, hb⟩
        have HB5 := Lib.hid (eb_of HB3.out hb (Nat.le_refl _))
        have HS5 := Lib.hid (HS4.out.below hb)
        clear hb JL
        have JR := Lib.hid (by have K := HS5.out.h.d; rw [hv5] at K; exact Room_open K (by omega) (by omega))
        clear hv5
        go_wp2_with fail
        refine JR.out.mono ?_
        rintro e w6 ⟨rfl, hb⟩
        have HB6 := Lib.hid (eb_of HB5.out hb (Nat.le_refl _))
        have HS6 := Lib.hid (HS5.out.below hb)
        clear hb JR
        go_wp2_with fail
        go_roundw
        case rel => exact ⟨k + 1, xs, v3, wb3, by omega, by go_num, HB6.out, HOK3.out, HGL3.out, HS6.out⟩
        case measure => simp [intOf]; omega
    · have hoff := HSD.out.h.off
      have hsz := HOK.out.sized
      have JS := Lib.hid (Seal_any w.heap.size M m v wb xs id wr HSD.out.h.d HSD.out.h.r HOK.out hoff hsz hid)
      have hx5 : xs.length ≤ 4294967295 := by omega
      have JF := Lib.hid (fun (w' : World) (h : EsAt w' (Au) xs) => Of_any id Au cu xs w' h hx5 hsz hid)
      have hgl := HGL.out.ofE (id := id)
      by_cases hr : ofE id xs = 0
      · obtain ⟨e1, e2⟩ := ofE_nil' hr
        have JS : Hid (Calls Try.prog 17 #[.pointer (some ⟨M, 0, none⟩), .int .i64 id] wr fun e w' => ∃ A9 c9, e = .returned (.tuple #[.agg #[.int .i64 id, .slice A9 xs.length c9], .int .i64 0]) ∧ EsAt w' A9 xs ∧ EsAt w' Au xs ∧ Bd w' M 2 m v ∧ Below w.heap.size wr w') := Lib.hid (JS.out.mono fun e w' ho => by
          have hb := ho.below hM HSD.out.h.s
          obtain ⟨A9, c9, h1, h2, h3, h4, h5, h6, h7⟩ := ho
          rw [e1, e2, hr] at h1
          rw [e2] at h2
          rw [if_pos hr] at h5
          exact ⟨A9, c9, h1, h2, EsAt.of_own (h7.own HSD.out.o (fun g hg => own_notM HSD.out.o HSD.out.h.d g hg)), h5, hb⟩)
        unfold RunOut runV at JF
        rw [e1, e2, hr] at JF
        have JC := Lib.hid (fun (w' : World) (A' : Option Addr) (c' : Nat) (h : EsAt w' A' xs) => by have K := fList_any A' c' xs w' h hx5 hsz; rw [show (listE xs).2 = 0 from HGL.out] at K; exact K)
        clear e1 e2 hr hgl hsz hoff
        generalize (listE xs).1 = r1 at *
        go_wp2_with fail
        refine JS.out.mono ?_
        rintro e w2 ⟨A9, c9, rfl, he9, heu, hd, hb⟩
        have hbb := alloc_below w2 (.cells #[.int .i64 id, .slice A9 xs.length c9] 43)
        have HB2 := Lib.hid ((HB.out.trans hb).trans (hbb.mono (HB.out.trans hb).size))
        have HR := Row2.new w2 43 (.int .i64 id) (.slice A9 xs.length c9)
        have HE9 := Lib.hid (he9.below hbb (Nat.le_refl _))
        have HEU := Lib.hid (heu.below hbb (Nat.le_refl _))
        have HD := Lib.hid (hd.below hbb)
        clear hb hbb he9 heu hd JS
        go_wp2_with fail
        generalize w2.alloc (.cells #[.int .i64 id, .slice A9 xs.length c9] 43) = wx at *
        generalize w2.heap.size = bx at *
        refine (JF.out _ HEU.out).mono ?_
        rintro e w3 ⟨A7, c7, rfl, he7, -, -, hb⟩
        have hbb := alloc_below w3 (.cells #[.int .i64 id, .slice A7 xs.length c7] 43)
        have hb2 := hb.trans (hbb.mono hb.size)
        have HB3 := Lib.hid (eb_of HB2.out hb2 (Nat.le_refl _))
        have HR := HR.below hb2 (Nat.le_refl _)
        have HR7 := Row2.new w3 43 (.int .i64 id) (.slice A7 xs.length c7)
        have HE9 := Lib.hid (HE9.out.below hb2 (Nat.le_refl _))
        have HEU := Lib.hid (HEU.out.below hb2 (Nat.le_refl _))
        have HE7 := Lib.hid (he7.below hbb (Nat.le_refl _))
        have HD := Lib.hid (HD.out.below hb2)
        clear hb hbb hb2 he7 JF
        have x0 := HR.c0
        have x1 := HR.c1
        have y0 := HR7.c0
        have y1 := HR7.c1
        go_wp2_with fail
        generalize w3.alloc (.cells #[.int .i64 id, .slice A7 xs.length c7] 43) = wy at *
        generalize w3.heap.size = by' at *
        refine (RSame_any id id A9 A7 c9 c7 xs xs wy HE9.out HE7.out (by omega) (by omega)).mono ?_
        rintro e w4 ⟨rfl, hb⟩
        rw [show decide (id = id ∧ xs = xs) = true by simp]
        have HB4 := Lib.hid (eb_of HB3.out hb (Nat.le_refl _))
        have HR4 := HR.below hb (Nat.le_refl _)
        have HE9 := Lib.hid (HE9.out.below hb (Nat.le_refl _))
        have HEU := Lib.hid (HEU.out.below hb (Nat.le_refl _))
        have HD := Lib.hid (HD.out.below hb)
        clear hb HR HR7 x0 x1 y0 y1 HE7
        have x1 := HR4.c1
        go_wp2_with fail
        refine (JC.out _ A9 c9 HE9.out).mono ?_
        rintro e w5 ⟨rfl, hb⟩
        have HB5 := Lib.hid (eb_of HB4.out hb (Nat.le_refl _))
        have HR5 := HR4.below hb (Nat.le_refl _)
        have HE9 := Lib.hid (HE9.out.below hb (Nat.le_refl _))
        have HEU := Lib.hid (HEU.out.below hb (Nat.le_refl _))
        have HD := Lib.hid (HD.out.below hb)
        clear hb HR4 x1
        have x0 := HR5.c0
        have x1 := HR5.c1
        go_wp2_with fail
        refine (Same_any A9 Au c9 cu xs xs w5 HE9.out HEU.out (by omega) (by omega)).mono ?_
        rintro e w6 ⟨rfl, hb⟩
        rw [show decide (xs = xs) = true by simp]
        have HB6 := Lib.hid (eb_of HB5.out hb (Nat.le_refl _))
        have HD := Lib.hid (HD.out.below hb)
        clear hb HR5 x0 x1 HE9 HEU
        go_wp2_with fail
        refine (Room_sealed HD.out).mono ?_
        rintro e w7 ⟨rfl, hb⟩
        have HB7 := Lib.hid (eb_of HB6.out hb (Nat.le_refl _))
        have HD := Lib.hid (HD.out.below hb)
        clear hb
        obtain ⟨A5, c5, hv5, -, -, -⟩ := HSD.out.h.r.form
        have JL := Lib.hid (by have K := HD.out; rw [hv5] at K; exact len_any K (by decide) (by omega))
        clear hv5
        go_wp2_with fail
        refine JL.out.mono ?_
        rintro e w8 ⟨rfl, hb⟩
        have HB8 := Lib.hid (eb_of HB7.out hb (Nat.le_refl _))
        clear hb
        go_wp2_with fail
        refine (JW.out _).mono ?_
        rintro e w9 ⟨rfl, hb⟩
        go_wp2_with fail
        go_ret
        exact ⟨rfl, eb_of HB8.out hb (Nat.le_refl _)⟩
      · obtain ⟨e1, e2⟩ := ofE_pos hr
        obtain ⟨b1, b2⟩ := ne_b hr
        have hcase : (ofE id xs = 7 ∧ (id < 1 ∨ (¬ id < 1 ∧ 1000000 < id))) ∨ (ofE id xs = 4 ∧ xs.length = 0) := by
          by_cases h1 : id < 1 ∨ 1000000 < id
          · rw [if_pos h1] at hgl; exact .inl ⟨hgl, by omega⟩
          · rw [if_neg h1] at hgl
            by_cases h2 : xs = []
            · rw [if_pos h2] at hgl; exact .inr ⟨hgl, by rw [h2]; rfl⟩
            · rw [if_neg h2] at hgl; exact absurd hgl hr
        have JS : Hid (Calls Try.prog 17 #[.pointer (some ⟨M, 0, none⟩), .int .i64 id] wr fun e w' => ∃ A9 c9, e = .returned (.tuple #[.agg #[.int .i64 0, .slice A9 0 c9], .int .i64 (ofE id xs)]) ∧ EsAt w' Au xs ∧ Below w.heap.size wr w') := Lib.hid (JS.out.mono fun e w' ho => by
          have hb := ho.below hM HSD.out.h.s
          obtain ⟨A9, c9, h1, h2, h3, h4, h5, h6, h7⟩ := ho
          rw [e1, e2] at h1
          exact ⟨A9, c9, h1, EsAt.of_own (h7.own HSD.out.o (fun g hg => own_notM HSD.out.o HSD.out.h.d g hg)), hb⟩)
        unfold RunOut runV at JF
        rw [e1, e2] at JF
        clear e1 e2 hr hgl hsz hoff
        generalize ofE id xs = r at *
        obtain ⟨q, hq⟩ : ∃ q : Nat, ([] : List El.En).length = q ∧ q = 0 := ⟨_, rfl, rfl⟩
        rcases hcase with ⟨rfl, h1 | ⟨h0, h1⟩⟩ | ⟨rfl, h1⟩
        all_goals
          have H1 := Lib.hid h1
          clear h1
          go_wp2_with fail
          refine JS.out.mono ?_
          rintro e w2 ⟨A9, c9, rfl, heu, hb⟩
          have hbb := alloc_below w2 (.cells #[.int .i64 0, .slice A9 0 c9] 43)
          have HB2 := Lib.hid ((HB.out.trans hb).trans (hbb.mono (HB.out.trans hb).size))
          have HR := Row2.new w2 43 (.int .i64 0) (.slice A9 0 c9)
          have HEU := Lib.hid (heu.below hbb (Nat.le_refl _))
          clear hb hbb heu JS
          go_wp2_with fail
          generalize w2.alloc (.cells #[.int .i64 0, .slice A9 0 c9] 43) = wx at *
          generalize w2.heap.size = bx at *
          refine (JF.out _ HEU.out).mono ?_
          rintro e w3 ⟨A7, c7, rfl, he7, -, -, hb⟩
          have hbb := alloc_below w3 (.cells #[.int .i64 0, .slice A7 0 c7] 43)
          have hb2 := hb.trans (hbb.mono hb.size)
          have HB3 := Lib.hid (eb_of HB2.out hb2 (Nat.le_refl _))
          have HR := HR.below hb2 (Nat.le_refl _)
          have HR7 := Row2.new w3 43 (.int .i64 0) (.slice A7 0 c7)
          clear hb hbb hb2 he7 JF HEU
          have x0 := HR.c0
          have x1 := HR.c1
          have y0 := HR7.c0
          have y1 := HR7.c1
          go_wp2_with fail
          generalize w3.alloc (.cells #[.int .i64 0, .slice A7 0 c7] 43) = wy at *
          generalize w3.heap.size = by' at *
          refine (RSame_any 0 0 A9 A7 c9 c7 [] [] wy (.inl rfl) (.inl rfl) (by decide) (by decide)).mono ?_
          rintro e w4 ⟨rfl, hb⟩
          rw [show decide ((0 : Int) = 0 ∧ ([] : List El.En) = []) = true by simp]
          have HB4 := Lib.hid (eb_of HB3.out hb (Nat.le_refl _))
          clear hb HR HR7 x0 x1 y0 y1
          have h1 := H1.out
          go_wp2_with fail
          refine (JW.out _).mono ?_
          rintro e w9 ⟨rfl, hb⟩
          go_wp2_with fail
          go_ret
          exact ⟨rfl, eb_of HB4.out hb (Nat.le_refl _)⟩
end Go.Proofs.Ytkphadkmmjcmnaa.KK
