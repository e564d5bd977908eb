/-
  Part of a plain map, of the reference.
-/
import Derived.Test.YtbgpcmpbfenplaaUq
namespace Go.Proofs.Ytbgpcmpbfenplaa.KK
open Go.ChangeShapes Go.WideShapes Go.ChangeAt Go.RowKit Go.Proofs

set_option maxRecDepth 100000 in
set_option maxHeartbeats 4000000 in
theorem rPart_any (A : Option Addr) (c : Nat) (xs : List Pr) (lo hi : ByteArray) (b : Bool) (w : World) (hf : PsAt w A xs) (hn : xs.length ≤ 4294967295) (hs : SizedP xs) (h1 : lo.size ≤ 9223372036854775807) (h2 : hi.size ≤ 9223372036854775807) :
    Calls Try.prog 18 #[.slice A xs.length c, .agg #[.string lo, .string hi, .bool b]] w (POut xs lo hi b w) := by
  have HX := boxRm lo hi b w
  obtain ⟨x0, x1, x2, x3, x4⟩ := HX.out _ (Below.refl _ _)
  have HB := Lib.hid x4
  have J1 := Lib.hid (fun w1 (h : Below w.heap.size w w1) => rfCheck_any A c xs w1 (hf.below h (Nat.le_refl _)) hn hs)
  have JR := Lib.hid (fun w => rCheckRange_any lo hi b w h1 h2)
  have HC := Lib.hid (Below.refl (w.alloc (.cells #[.string lo, .string hi, .bool b] 24)).heap.size (w.alloc (.cells #[.string lo, .string hi, .bool b] 24)))
  clear x3 x4
  by_cases hm : (mapE xs).2 = 0
  rotate_left
  · have HL := Lib.hid (partE_no (lo := lo) (hi := hi) (b := b) hm)
    obtain ⟨b1, b2⟩ := ne_b hm
    clear hf hs
    generalize (mapE xs).1 = r0 at *
    generalize (mapE xs).2 = r at *
    go_enter Try.func18, Try.ntmps18
    go_wp2_with fail
    refine (J1.out _ HB.out).mono ?_
    rintro e w1 ⟨rfl, hb⟩
    have HB1 := Lib.hid (eb_of HB.out hb (by simp))
    clear hb
    go_wp2_with fail
    go_ret2
    exact POut.no HL.out hm HB1.out
  rw [hm] at J1
  by_cases hc : chkR lo hi b = 0
  rotate_left
  · have HL := Lib.hid ((partE_ok (lo := lo) (hi := hi) (b := b) hm))
    obtain ⟨b1, b2⟩ := ne_b hc
    clear hf hs hm
    generalize (mapE xs).1 = r0 at *
    generalize chkR lo hi b = r at *
    go_enter Try.func18, Try.ntmps18
    go_wp2_with fail
    refine (J1.out _ HB.out).mono ?_
    rintro e w1 ⟨rfl, hb⟩
    clear x0 x1 x2
    obtain ⟨x0, x1, x2, x3, x4⟩ := HX.out _ hb
    have HB1 := Lib.hid x4
    clear hb x3 x4
    go_wp2_with fail
    refine (JR.out _).mono ?_
    rintro e w2 ⟨rfl, hb⟩
    have HB2 := Lib.hid (eb_of HB1.out hb (Nat.le_refl _))
    clear hb
    go_wp2_with fail
    go_ret2
    exact POut.no HL.out hc HB2.out
  have HL : Hid (partE xs lo hi b = 0) := Lib.hid (by rw [partE_ok hm]; exact hc)
  rw [hc] at JR
  obtain ⟨m1, m2, _⟩ := map_ok hm
  obtain ⟨i0, hi0, hz0, hz1, hz2⟩ := info_parts infoP
  have HF := Lib.hid hf
  clear hf hm
  generalize (mapE xs).1 = r0 at *
  go_enter Try.func18, Try.ntmps18
  go_wp2_with fail
  refine (J1.out _ HB.out).mono ?_
  rintro e w1 ⟨rfl, hb⟩
  have HC := Lib.hid (eb_of HC.out hb (Nat.le_refl _))
  clear hb x0 x1 x2
  obtain ⟨x0, x1, x2, x3, x4⟩ := HX.out _ HC.out
  clear x3 x4
  go_wp2_with fail
  refine (JR.out _).mono ?_
  rintro e w2 ⟨rfl, hb⟩
  have HC := Lib.hid (eb_of HC.out hb (Nat.le_refl _))
  clear hb x0 x1 x2
  go_wp2_with fail
  go_loopw [8, 9] (fun v i wr => ∃ (k n c' : Nat) (B : Option Addr), k ≤ xs.length ∧ i = .int .i64 k ∧ v = .slice B n c' ∧ n = (partP lo hi b (xs.take k)).length ∧ wr.ownsRow (w.heap.size + 1) 31 2 (.slice B n c') n (cellsP (partP lo hi b (xs.take k))) ∧ Below (w.alloc (.cells #[.string lo, .string hi, .bool b] 24)).heap.size (w.alloc (.cells #[.string lo, .string hi, .bool b] 24)) wr) (fun _ i _ => xs.length - (intOf i).toNat)
  case atStart => exact ⟨0, 0, 0, none, Nat.zero_le _, rfl, rfl, rfl, World.ownsRow_nil _ _ _ _, HC.out⟩
  case round =>
    obtain ⟨k, n, c', B, hk, rfl, rfl, hnn, hown, hb⟩ := hrel
    have HN := Lib.hid hnn
    have hnk : n ≤ k := by rw [hnn]; exact partP_le lo hi b xs k
    clear hnn
    obtain ⟨x0, x1, x2, x3, x4⟩ := HX.out _ hb
    have HD := Lib.hid hb
    have HW := Lib.hid x4
    clear hb
    by_cases hlt : k < xs.length
    rotate_left
    · have hke : xs.take k = xs := List.take_of_length_le (by omega)
      rw [hke] at hown HN
      have HE := Lib.hid (PsAt.of_own hown)
      clear hown
      go_wp2_with fail
      go_ret2
      exact POut.ok HL.out HN.out HE.out HW.out
    have hsk := hs.at hlt
    have hz := (szE_of (m2 _ (List.getElem_mem hlt))).1
    rcases HF.out.below HW.out (Nat.le_refl _) with h0 | ⟨bb, off, rfl, hbl, hcl⟩
    · subst h0; simp at hlt
    obtain ⟨g0, g1⟩ := hcl k hlt
    clear hcl
    have HY := Lib.hid (partP_yes (lo := lo) (hi := hi) (b := b) hlt)
    have HNo := Lib.hid (partP_no (lo := lo) (hi := hi) (b := b) hlt)
    clear hz hsk
    obtain ⟨kk, hkk⟩ : ∃ kk, xs[k].1 = kk := ⟨_, rfl⟩
    obtain ⟨vv, hvv⟩ : ∃ vv, xs[k].2 = vv := ⟨_, rfl⟩
    have HKV : Hid (xs[k] = (kk, vv)) := Lib.hid (by rw [← hkk, ← hvv])
    rw [hkk] at HY HNo g0
    rw [hvv] at g1
    clear hkk hvv
    have s1 : Op.bytesLess kk.toList lo.toList = Kl.lt (Kl.L kk) (Kl.L lo) := by rw [bytesLess_lt, toList_L, toList_L]
    have s2 : Op.bytesLess kk.toList hi.toList = Kl.lt (Kl.L kk) (Kl.L hi) := by rw [bytesLess_lt, toList_L, toList_L]
    have hh : hasB lo hi b kk = (!Kl.lt (Kl.L kk) (Kl.L lo) && (!b || Kl.lt (Kl.L kk) (Kl.L hi))) := rfl
    rw [hh] at HY HNo
    clear hh
    generalize Kl.lt (Kl.L kk) (Kl.L lo) = o1 at *
    generalize Kl.lt (Kl.L kk) (Kl.L hi) = o2 at *
    cases o1 with
    | true =>
      have HT := Lib.hid (HNo.out rfl)
      clear HY HNo
      go_wp2_with fail
      go_quiet (fail)
      have hb4 : Below wr.heap.size wr (wr.drewN nq) := Below.refl wr.heap.size wr |>.trans ⟨rfl, rfl, rfl, Nat.le_refl _, fun _ _ => rfl⟩
      have HD4 := Lib.hid (eb_of HD.out hb4 (Nat.le_refl _))
      have HO4 := Lib.hid (own_bel hown hb4)
      clear hb4
      go_wp2_with fail
      go_roundw
      case rel => exact ⟨k + 1, n, c', B, by omega, by go_num, rfl, by rw [HT.out]; exact HN.out, by rw [HT.out]; exact HO4.out, HD4.out⟩
      case measure => simp [intOf]; omega
    | false =>
      cases b with
      | false =>
        have HT := Lib.hid (HY.out rfl)
        rw [HKV.out] at HT
        clear HY HNo
        go_wp2_with fail
        go_quiet (fail)
        have hb4 : Below wr.heap.size wr (wr.drewN nq) := Below.refl wr.heap.size wr |>.trans ⟨rfl, rfl, rfl, Nat.le_refl _, fun _ _ => rfl⟩
        have HD4 := Lib.hid (eb_of HD.out hb4 (Nat.le_refl _))
        have hown := own_bel hown hb4
        have hl4 := HD4.out.size
        simp at hl4
        clear hb4
        go_wp2_with (at_builtin; go_loud (refine wpList_append_own _ rfl (.tmp 51) (.tmp 56) 22 rfl (w.heap.size + 1) 31 i0 (.agg #[.string ⟨#[]⟩, .string ⟨#[]⟩]) 2 32 Try.underlying22 hi0 hz0 hz1 hz2 rfl (by decide) _ n _ rfl (hown.alloc _) ⟨(wr.drewN nq).heap.size, 0, none⟩ 1 1 [.string kk, .string vv] rfl rfl (newP (wr.drewN nq) kk vv) (by simp [Value.oneCell']) (by unfold maxLen; omega) (by omega) (by simp; omega) ?_; intro v5 w5 hown5 hg5 _; obtain ⟨A5, c5, hv5, _, _⟩ := own_cap2 hown5; subst hv5; have hb5 := (HD4.out.alloc HD4.out.size (.cells #[.string kk, .string vv] 31)).grown hg5 (by simp; omega) (fun g hg => by have := (hown.lt g hg).1; simp; omega); have HD5 := Lib.hid hb5; have HO5 := Lib.hid (own_snocP hown5); clear hg5 hb5 hown5))
        go_roundw
        case rel => exact ⟨k + 1, n + 1, c5, A5, by omega, by go_num, rfl, by rw [HT.out, List.length_append, ← HN.out]; rfl, by rw [HT.out]; exact HO5.out, HD5.out⟩
        case measure => simp [intOf]; omega
      | true =>
        cases o2 with
        | true =>
          have HT := Lib.hid (HY.out rfl)
          rw [HKV.out] at HT
          clear HY HNo
          go_wp2_with fail
          go_quiet (fail)
          have hb4 : Below wr.heap.size wr (wr.drewN nq) := Below.refl wr.heap.size wr |>.trans ⟨rfl, rfl, rfl, Nat.le_refl _, fun _ _ => rfl⟩
          have HD4 := Lib.hid (eb_of HD.out hb4 (Nat.le_refl _))
          have hown := own_bel hown hb4
          have hl4 := HD4.out.size
          simp at hl4
          clear hb4
          go_wp2_with (at_builtin; go_loud (refine wpList_append_own _ rfl (.tmp 51) (.tmp 56) 22 rfl (w.heap.size + 1) 31 i0 (.agg #[.string ⟨#[]⟩, .string ⟨#[]⟩]) 2 32 Try.underlying22 hi0 hz0 hz1 hz2 rfl (by decide) _ n _ rfl (hown.alloc _) ⟨(wr.drewN nq).heap.size, 0, none⟩ 1 1 [.string kk, .string vv] rfl rfl (newP (wr.drewN nq) kk vv) (by simp [Value.oneCell']) (by unfold maxLen; omega) (by omega) (by simp; omega) ?_; intro v5 w5 hown5 hg5 _; obtain ⟨A5, c5, hv5, _, _⟩ := own_cap2 hown5; subst hv5; have hb5 := (HD4.out.alloc HD4.out.size (.cells #[.string kk, .string vv] 31)).grown hg5 (by simp; omega) (fun g hg => by have := (hown.lt g hg).1; simp; omega); have HD5 := Lib.hid hb5; have HO5 := Lib.hid (own_snocP hown5); clear hg5 hb5 hown5))
          go_roundw
          case rel => exact ⟨k + 1, n + 1, c5, A5, by omega, by go_num, rfl, by rw [HT.out, List.length_append, ← HN.out]; rfl, by rw [HT.out]; exact HO5.out, HD5.out⟩
          case measure => simp [intOf]; omega
        | false =>
          have HT := Lib.hid (HNo.out rfl)
          clear HY HNo
          go_wp2_with fail
          go_quiet (fail)
          have hb4 : Below wr.heap.size wr (wr.drewN nq) := Below.refl wr.heap.size wr |>.trans ⟨rfl, rfl, rfl, Nat.le_refl _, fun _ _ => rfl⟩
          have HD4 := Lib.hid (eb_of HD.out hb4 (Nat.le_refl _))
          have HO4 := Lib.hid (own_bel hown hb4)
          clear hb4
          go_wp2_with fail
          go_roundw
          case rel => exact ⟨k + 1, n, c', B, by omega, by go_num, rfl, by rw [HT.out]; exact HN.out, by rw [HT.out]; exact HO4.out, HD4.out⟩
          case measure => simp [intOf]; omega
end Go.Proofs.Ytbgpcmpbfenplaa.KK
