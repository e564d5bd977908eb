/-
  EntriesNewest: the walk.
-/
import Derived.Test.YtchgmpmlbncmbaaDoorGi
import Derived.Test.YtchgmpmlbncmbaaDoorFc
namespace Go.Proofs.YtchgmpmlbncmbaaDoor.KK
open Go.ChangeShapes Go.WideShapes Go.ChangeAt Go.RowKit Go.Proofs Go.Sort

theorem any_succ {xs : List El.En} {k : Nat} (h : k < xs.length) (p : El.En → Bool) : (xs.take (k + 1)).any p = ((xs.take k).any p || p xs[k]) := by
  rw [List.take_succ_eq_append_getElem h, List.any_append]; simp
theorem sized_of {xs ys : List El.En} (h : Sized xs) (g : ∀ y ∈ ys, y ∈ xs) : Sized ys := fun y hy => h y (g y hy)
set_option maxRecDepth 100000 in
set_option maxHeartbeats 4000000 in
theorem newest_far (A : Option Addr) (c : Nat) (xs : List El.En) (w : World) (he : EnvE w) (hf : EsAt w A xs) (hn : xs.length ≤ 9223372036854775807) (hs : Sized xs) (h1 : farE xs = true) :
    Calls Tryd.prog 6 #[.slice A xs.length c] w fun e w' => e = .returned (.bool true) ∧ Below w.heap.size w w' := by
  have HE := Lib.hid he
  have J := Lib.hid (far_any A c xs w hf hn hs)
  rw [h1] at J
  clear he hf hs h1
  go_enter Tryd.func6, Tryd.ntmps6
  go_wp2_with fail
  refine J.out.mono ?_
  rintro e w1 ⟨rfl, hb⟩
  have HB := Lib.hid hb
  clear hb J
  go_wp2_with fail
  refine (awake_any _ (HE.out.below HB.out)).mono ?_
  rintro e w2 ⟨rfl, hb⟩
  have HB := Lib.hid (eb_of HB.out hb (Nat.le_refl _))
  clear hb
  go_wp2_with fail
  go_ret
  exact ⟨rfl, HB.out⟩
set_option maxRecDepth 100000 in
set_option maxHeartbeats 4000000 in
theorem newest_bad (A : Option Addr) (c : Nat) (xs : List El.En) (w : World) (he : EnvE w) (hf : EsAt w A xs) (hs : Sized xs) (h1 : farE xs = false) (h2 : allE xs ≠ 0) :
    Calls Tryd.prog 6 #[.slice A xs.length c] w fun e w' => e = .returned (.bool true) ∧ Below w.heap.size w w' := by
  have hn := farE_len h1
  have HE := Lib.hid he
  have J := Lib.hid (far_any A c xs w hf (by omega) hs)
  rw [h1] at J
  have J1 := Lib.hid (fun w1 (h : Below w.heap.size w w1) => newest_err A c xs w1 (hf.below h (Nat.le_refl _)) (by omega) hs h2)
  obtain ⟨b1, b2⟩ := ne_b h2
  clear he hf hs h1 h2
  generalize allE xs = r at *
  go_enter Tryd.func6, Tryd.ntmps6
  go_wp2_with fail
  refine J.out.mono ?_
  rintro e w1 ⟨rfl, hb⟩
  have HB := Lib.hid hb
  clear hb J
  go_wp2_with fail
  refine (J1.out _ HB.out).mono ?_
  rintro e w2 ⟨rfl, hb⟩
  have HB := Lib.hid (eb_of HB.out hb (Nat.le_refl _))
  clear hb J1
  go_wp2_with fail
  refine (awake_any _ (HE.out.below HB.out)).mono ?_
  rintro e w3 ⟨rfl, hb⟩
  have HB := Lib.hid (eb_of HB.out hb (Nat.le_refl _))
  clear hb
  go_wp2_with fail
  go_ret
  exact ⟨by first | rfl | simp, HB.out⟩
set_option maxRecDepth 100000 in
set_option maxHeartbeats 8000000 in
theorem newest_good (A : Option Addr) (c : Nat) (xs : List El.En) (w : World) (he : EnvE w) (hf : EsAt w A xs) (hs : Sized xs) (h1 : farE xs = false) (h2 : allE xs = 0) :
    Calls Tryd.prog 6 #[.slice A xs.length c] w fun e w' => e = .returned (.bool true) ∧ Below w.heap.size w w' := by
  have hn := farE_len h1
  have HE := Lib.hid he
  have J := Lib.hid (far_any A c xs w hf (by omega) hs)
  rw [h1] at J
  have J1 := Lib.hid (fun w1 (h : Below w.heap.size w w1) => by
    have K := Newest_full A c xs w1 (hf.below h (Nat.le_refl _)) (by omega) hs
    rw [h2] at K
    exact K)
  have HF := Lib.hid hf
  have HS := Lib.hid hs
  have H2 := Lib.hid h2
  clear he hf hs h1 h2
  obtain ⟨n, hnn⟩ : ∃ n, xs.length = n := ⟨_, rfl⟩
  rw [hnn] at J J1 hn ⊢
  have HN := Lib.hid hnn
  clear hnn
  go_enter Tryd.func6, Tryd.ntmps6
  go_wp2_with fail
  refine J.out.mono ?_
  rintro e w1 ⟨rfl, hb⟩
  have HB := Lib.hid hb
  clear hb J
  go_wp2_with fail
  refine (J1.out _ HB.out).mono ?_
  rintro e w2 ⟨A2, c2, ys, rfl, hno, hy2, hb⟩
  have HB := Lib.hid (eb_of HB.out hb (Nat.le_refl _))
  obtain ⟨f1, f2, f3, f4, f5, f6, f7⟩ := newest_facts hno H2.out
  have HY2 := Lib.hid hy2
  have hsy := sized_of HS.out f6
  have K1 := Lib.hid (fun w1 (h : Below w2.heap.size w2 w1) => by
    have K := eList_any A2 c2 ys w1 (hy2.below h (Nat.le_refl _)) (by omega) hsy
    rw [f3] at K
    exact K)
  have K2 : Hid (∀ w1, Below w2.heap.size w2 w1 → Calls Tryd.prog 26 #[.slice A2 ys.length c2] w1 fun e w' => ∃ A' c', e = .returned (.tuple #[.slice A' ys.length c', .int .i64 0]) ∧ EsAt w' A' ys ∧ Below w1.heap.size w1 w') := Lib.hid (fun w1 h => by
    have K := Sort_full A2 c2 ys w1 (hy2.below h (Nat.le_refl _)) (by omega) hsy
    rw [f2] at K
    refine K.mono ?_
    rintro e w' ⟨A', c', zs, g1, g2, g3, g4⟩
    have := f4 zs g2
    subst this
    exact ⟨A', c', g1, g3, g4⟩)
  have K3 : Hid (∀ w1, Below w2.heap.size w2 w1 → Calls Tryd.prog 28 #[.slice A2 ys.length c2] w1 fun e w' => ∃ A' c', e = .returned (.tuple #[.slice A' ys.length c', .int .i64 0]) ∧ EsAt w' A' ys ∧ Below w1.heap.size w1 w') := Lib.hid (fun w1 h => by
    have K := Newest_full A2 c2 ys w1 (hy2.below h (Nat.le_refl _)) (by omega) hsy
    rw [f2] at K
    refine K.mono ?_
    rintro e w' ⟨A', c', zs, g1, g2, g3, g4⟩
    have := f5 zs g2
    subst this
    exact ⟨A', c', g1, g3, g4⟩)
  have K4 := Lib.hid (fun w1 (h : Below w2.heap.size w2 w1) (k : Nat) (hk : k < xs.length) => by
    have K := eFind_any A2 c2 ys xs[k].1 w1 (hy2.below h (Nat.le_refl _)) (by omega) hsy (HS.out.at hk).1
    exact K)
  have F6 := Lib.hid f6
  have F7 := Lib.hid f7
  obtain ⟨m, hm⟩ : ∃ m, ys.length = m := ⟨_, rfl⟩
  rw [hm] at f1 K1 K2 K3 K4
  rw [hm]
  have HM := Lib.hid hm
  have KS := Lib.hid (fun (A' : Option Addr) (c' : Nat) (w1 : World) (g1 : EsAt w1 A' ys) (g2 : EsAt w1 A2 ys) => by
    have K := Same_any A' A2 c' c2 ys ys w1 g1 g2 (by omega) (by omega)
    rw [decide_eq_true rfl, hm] at K
    exact K)
  have HG := Lib.hid (Below.refl w2.heap.size w2)
  clear hb J1 hno hy2 f2 f3 f4 f5 f6 f7 hsy hm
  go_wp2_with fail
  refine (K1.out _ HG.out).mono ?_
  rintro e w3 ⟨rfl, hb⟩
  have HG := Lib.hid (eb_of HG.out hb (Nat.le_refl _))
  clear hb
  go_wp2_with fail
  refine (K2.out _ HG.out).mono ?_
  rintro e w4 ⟨A4, c4, rfl, h4, hb⟩
  have HG := Lib.hid (eb_of HG.out hb (Nat.le_refl _))
  have H4 := Lib.hid h4
  clear hb h4
  go_wp2_with fail
  refine (K3.out _ HG.out).mono ?_
  rintro e w5 ⟨A5, c5, rfl, h5, hb⟩
  have HG := Lib.hid (eb_of HG.out hb (Nat.le_refl _))
  have H4 := Lib.hid (H4.out.below hb (Nat.le_refl _))
  have H5 := Lib.hid h5
  clear hb h5
  go_wp2_with fail
  refine (KS.out A4 c4 _ H4.out (HY2.out.below HG.out (Nat.le_refl _))).mono ?_
  rintro e w6 ⟨rfl, hb⟩
  have HG := Lib.hid (eb_of HG.out hb (Nat.le_refl _))
  have H5 := Lib.hid (H5.out.below hb (Nat.le_refl _))
  clear hb
  go_wp2_with fail
  refine (KS.out A5 c5 _ H5.out (HY2.out.below HG.out (Nat.le_refl _))).mono ?_
  rintro e w7 ⟨rfl, hb⟩
  have HG := Lib.hid (eb_of HG.out hb (Nat.le_refl _))
  clear hb K1 K2 K3 KS
  go_wp2_with fail
  go_loopw [9] (fun vi wr => ∃ i : Nat, vi = .int .i64 i ∧ i ≤ m ∧ Below w2.heap.size w2 wr) (fun vi _ => m - (intOf vi).toNat)
  case atStart => exact ⟨0, by first | rfl | go_num, Nat.zero_le _, HG.out⟩
  case round =>
    obtain ⟨i, rfl, him, hb⟩ := hrel
    have HBI := Lib.hid hb
    clear hb
    by_cases hlt : i < m
    · have hf1 : (i : Int) < (m : Int) := by omega
      generalize hwo : wr = wo at *
      clear hwo
      have hiy : i < ys.length := by rw [HM.out]; exact hlt
      obtain ⟨y, hy⟩ : ∃ y, ys[i] = y := ⟨_, rfl⟩
      have HIN := Lib.hid (show y ∈ xs by rw [← hy]; exact F6.out _ (List.getElem_mem hiy))
      go_wp2_with fail
      go_loopw [10, 11] (fun vin vk wr => ∃ (inb : Bool) (k : Nat), vin = .bool inb ∧ vk = .int .i64 k ∧ k ≤ n ∧ inb = (xs.take k).any (fun x => decide (x = y)) ∧ Below w2.heap.size w2 wr) (fun _ vk _ => n - (intOf vk).toNat)
      case atStart => exact ⟨false, 0, by first | rfl | go_num, by first | rfl | go_num, Nat.zero_le _, rfl, HBI.out⟩
      case round =>
        obtain ⟨inb, k, rfl, rfl, hkn, hin, hb⟩ := hrel
        have HB2 := Lib.hid hb
        have HI := Lib.hid hin
        have hsz := hb.size
        clear hb hin
        by_cases hk : k < n
        rotate_left
        · have g1 : ¬ (k : Int) < (n : Int) := by omega
          have hit : inb = true := by
            rw [HI.out, List.take_of_length_le (by rw [HN.out]; omega)]
            exact List.any_eq_true.2 ⟨y, HIN.out, by simp⟩
          subst hit
          go_wp2_with fail
          go_roundw
          case rel => exact ⟨i + 1, by go_num, by omega, HB2.out⟩
          case measure => simp [intOf]; omega
        have g1 : (k : Int) < (n : Int) := by omega
        have hkx : k < xs.length := by rw [HN.out]; exact hk
        have hnx := any_succ hkx (fun x => decide (x = y))
        rw [← HI.out] at hnx
        cases inb with
        | true =>
          have HNX := Lib.hid hnx
          clear hnx
          go_wp2_with fail
          go_quiet (fail)
          go_wp2_with fail
          go_roundw
          case rel => exact ⟨true, k + 1, rfl, by go_num, by omega, by rw [HNX.out]; rfl, HB2.out.trans ((below_drewN' _).mono hsz)⟩
          case measure => simp [intOf]; omega
        | false =>
          have hfx := (HF.out.below HB.out (Nat.le_refl _)).below HB2.out (Nat.le_refl _)
          have hfy := HY2.out.below HB2.out (Nat.le_refl _)
          rcases hfx with h0 | ⟨b, off, rfl, hbl, hc⟩
          · rw [h0] at hkx; simp at hkx
          rcases hfy with h0 | ⟨b', off', rfl, hbl', hc'⟩
          · rw [h0] at hiy; simp at hiy
          obtain ⟨g0, gg1, g2, g3⟩ := hc k hkx
          obtain ⟨k0, k1, k2, k3⟩ := hc' i hiy
          rw [hy] at k0 k1 k2 k3
          obtain ⟨x, hx⟩ : ∃ x, xs[k] = x := ⟨_, rfl⟩
          rw [hx] at g0 gg1 g2 g3 hnx
          clear hc hc' hx
          by_cases heq : x = y
          · rw [← heq] at k0 k1 k2 k3
            have HNX := Lib.hid (show (xs.take (k + 1)).any (fun x => decide (x = y)) = true by rw [hnx, decide_eq_true heq]; rfl)
            clear hnx heq
            go_wp2_with fail
            go_quiet (fail)
            go_wp2_with fail
            go_roundw
            case rel => exact ⟨true, k + 1, by first | rfl | simp, by go_num, by omega, HNX.out.symm, HB2.out.trans ((below_drewN' _).mono hsz)⟩
            case measure => simp [intOf]; omega
          · have HNX := Lib.hid (show (xs.take (k + 1)).any (fun x => decide (x = y)) = false by rw [hnx, decide_eq_false heq]; rfl)
            clear hnx
            by_cases e0 : x.1 = y.1
            · rw [← e0] at k0
              by_cases e1 : x.2.1 = y.2.1
              · rw [← e1] at k1
                by_cases e2 : x.2.2.1 = y.2.2.1
                · rw [← e2] at k2
                  have e3 : (x.2.2.2 == y.2.2.2) = false := by
                    rw [beq_eq_false_iff_ne]; intro e3; exact heq (Prod.ext e0 (Prod.ext e1 (Prod.ext e2 e3)))
                  clear heq e0 e1 e2
                  go_wp2_with fail
                  go_quiet (fail)
                  go_wp2_with fail
                  go_roundw
                  case rel => exact ⟨false, k + 1, by first | rfl | simp, by go_num, by omega, HNX.out.symm, HB2.out.trans ((below_drewN' _).mono hsz)⟩
                  case measure => simp [intOf]; omega
                · have e3 : (x.2.2.1 == y.2.2.1) = false := by rw [beq_eq_false_iff_ne]; exact e2
                  clear heq e0 e1 e2
                  go_wp2_with fail
                  go_quiet (fail)
                  go_wp2_with fail
                  go_roundw
                  case rel => exact ⟨false, k + 1, by first | rfl | simp, by go_num, by omega, HNX.out.symm, HB2.out.trans ((below_drewN' _).mono hsz)⟩
                  case measure => simp [intOf]; omega
              · have e3 := str_beq_ne e1
                clear heq e0 e1
                go_wp2_with fail
                go_quiet (fail)
                go_wp2_with fail
                go_roundw
                case rel => exact ⟨false, k + 1, by first | rfl | simp, by go_num, by omega, HNX.out.symm, HB2.out.trans ((below_drewN' _).mono hsz)⟩
                case measure => simp [intOf]; omega
            · have e3 := str_beq_ne e0
              clear heq e0
              go_wp2_with fail
              go_quiet (fail)
              go_wp2_with fail
              go_roundw
              case rel => exact ⟨false, k + 1, by first | rfl | simp, by go_num, by omega, HNX.out.symm, HB2.out.trans ((below_drewN' _).mono hsz)⟩
              case measure => simp [intOf]; omega
    · have hf1 : ¬ (i : Int) < (m : Int) := by omega
      generalize hwo : wr = wo at *
      clear hwo
      go_wp2_with fail
      go_loopw [12] (fun vk wr => ∃ k : Nat, vk = .int .i64 k ∧ k ≤ n ∧ Below w2.heap.size w2 wr) (fun vk _ => n - (intOf vk).toNat)
      case atStart => exact ⟨0, by first | rfl | go_num, Nat.zero_le _, HBI.out⟩
      case round =>
        obtain ⟨k, rfl, hkn, hb⟩ := hrel
        have HB2 := Lib.hid hb
        have hsz := hb.size
        clear hb
        by_cases hk : k < n
        rotate_left
        · have g1 : ¬ (k : Int) < (n : Int) := by omega
          go_wp2_with fail
          refine (awake_any _ (HE.out.below (HB.out.trans (HB2.out.mono HB.out.size)))).mono ?_
          rintro e w9 ⟨rfl, hb⟩
          have HB3 := Lib.hid (eb_of (HB.out.trans (HB2.out.mono HB.out.size)) hb (Nat.le_refl _))
          clear hb
          go_wp2_with fail
          go_ret
          exact ⟨rfl, HB3.out⟩
        have g1 : (k : Int) < (n : Int) := by omega
        have hkx : k < xs.length := by rw [HN.out]; exact hk
        have J5 := Lib.hid (K4.out wr HB2.out k hkx)
        obtain ⟨t, ht, hfd, hseq⟩ := F7.out xs[k] (List.getElem_mem hkx)
        rw [hfd] at J5
        have hfx := (HF.out.below HB.out (Nat.le_refl _)).below HB2.out (Nat.le_refl _)
        have HFX := Lib.hid hfx
        rcases hfx with h0 | ⟨b, off, rfl, hbl, hc⟩
        · rw [h0] at hkx; simp at hkx
        obtain ⟨g0, -, -, g3⟩ := hc k hkx
        obtain ⟨x, hx⟩ : ∃ x, xs[k] = x := ⟨_, rfl⟩
        have htm : t < m := by rw [HM.out] at ht; exact ht
        clear hc hfd
        rw [hx] at g0 g3 J5 hseq
        go_wp2_with fail
        refine J5.out.mono ?_
        rintro e w8 ⟨rfl, hb⟩
        have HB3 := Lib.hid (eb_of HB2.out hb (Nat.le_refl _))
        have q3 : w8.cell? ⟨b, off + k * 4 + 3, none⟩ = some (.int .i64 x.2.2.2) := (hb.cell (p := ⟨b, off + k * 4 + 3, none⟩) hbl).trans g3
        have hsz8 := HB3.out.size
        have hfy := HY2.out.below HB3.out (Nat.le_refl _)
        rcases hfy with h0 | ⟨b', off', rfl, hbl', hc'⟩
        · rw [h0] at ht; simp at ht
        obtain ⟨-, -, -, k3⟩ := hc' t ht
        obtain ⟨y, hy⟩ : ∃ y, ys[t] = y := ⟨_, rfl⟩
        rw [hy] at k3 hseq
        have s1 : ¬ ((t : Int) < 0) := by omega
        have s1d : decide ((t : Int) < 0) = false := by rw [decide_eq_false_iff_not]; omega
        have s2 : ¬ ((m : Int) ≤ (t : Int)) := by omega
        have s2d : decide ((m : Int) ≤ (t : Int)) = false := by rw [decide_eq_false_iff_not]; omega
        have s2n : decide (m ≤ t) = false := by rw [decide_eq_false_iff_not]; omega
        have s3 : (t : Int) < (m : Int) := by omega
        have s4 : ¬ (y.2.2.2 < x.2.2.2) := by omega
        have s4d : decide (y.2.2.2 < x.2.2.2) = false := by rw [decide_eq_false_iff_not]; omega
        clear hb hc' J5 g0 g3
        go_wp2_with fail
        go_quiet (fail)
        go_wp2_with fail
        go_roundw
        case rel => exact ⟨k + 1, by go_num, by omega, HB3.out.trans ((below_drewN' _).mono hsz8)⟩
        case measure => simp [intOf]; omega
theorem EntriesNewest_any (A : Option Addr) (c : Nat) (xs : List El.En) (w : World) (he : EnvE w) (hf : EsAt w A xs) (hn : xs.length ≤ 9223372036854775807) (hs : Sized xs) :
    Calls Tryd.prog 6 #[.slice A xs.length c] w fun e w' => e = .returned (.bool true) ∧ Below w.heap.size w w' := by
  by_cases h1 : farE xs = true
  · exact newest_far A c xs w he hf hn hs h1
  have h1 : farE xs = false := by simpa using h1
  by_cases h2 : allE xs = 0
  · exact newest_good A c xs w he hf hs h1 h2
  · exact newest_bad A c xs w he hf hs h1 h2
end Go.Proofs.YtchgmpmlbncmbaaDoor.KK
