/-
  The reference's Sort and Newest: the walks.
-/
import Derived.Test.YtmobjpmkenpckaaDoorIh
namespace Go.Proofs.YtmobjpmkenpckaaDoor.KK
open Go.ChangeShapes Go.WideShapes Go.ChangeAt Go.RowKit Go.Proofs Go.Sort

theorem sortOut_one {xs ys zs : List El.En} (h : SortOut xs ys) (g : SortOut xs zs) : ys = zs := by
  rcases h with ⟨h, rfl⟩ | ⟨h, l, l', h1, rfl, h3⟩ <;> rcases g with ⟨g, rfl⟩ | ⟨g, k, k', g1, rfl, g3⟩
  · rfl
  · exact absurd g h
  · exact absurd h g
  · have := map_inj (h1.trans g1.symm)
    subst this
    rw [Stb.Stab.unique preV h3 g3]
theorem newOut_one {xs ys zs : List El.En} (h : NewOut xs ys) (g : NewOut xs zs) : ys = zs := by
  rcases h with ⟨h, rfl⟩ | ⟨h, l, l', h1, rfl, h3⟩ <;> rcases g with ⟨g, rfl⟩ | ⟨g, k, k', g1, rfl, g3⟩
  · rfl
  · exact absurd g h
  · exact absurd h g
  · have := map_inj (h1.trans g1.symm)
    subst this
    rw [Stb.Stab.unique preV h3 g3]
theorem fSort_full (A : Option Addr) (c : Nat) (xs : List El.En) (w : World) (hf : EsAt w A xs) (hn : xs.length ≤ 4294967295) (hs : Sized xs) :
    Calls Tryd.prog 9 #[.slice A xs.length c] w fun e w' => ∃ A' c' ys, e = .returned (.tuple #[.slice A' ys.length c', .int .i64 (allE xs)]) ∧ SortOut xs ys ∧ EsAt w' A' ys ∧ Below w.heap.size w w' := by
  have J := Lib.hid (fAll_any A c xs w hf hn hs)
  by_cases he : allE xs = 0
  · obtain ⟨a1, a2⟩ := allE_ok he
    obtain ⟨l, rfl⟩ := to_V xs a2
    rw [he] at J ⊢
    have HF := Lib.hid hf
    have HE := Lib.hid he
    obtain ⟨n, hnn⟩ : ∃ n, (l.map (·.1)).length = n := ⟨_, rfl⟩
    have hln : l.length = n := by rw [← hnn, List.length_map]
    have JS := Lib.hid (fun w1 (h : Below w.heap.size w w1) => fsorted_any A c l w1 (hf.below h (Nat.le_refl _)) (by simp at a1; omega))
    rw [hnn] at J ⊢
    rw [hln] at JS
    clear hf hs he a1 a2 hnn hln hn
    go_enter Tryd.func9, Tryd.ntmps9
    go_wp2_with fail
    refine J.out.mono ?_
    rintro e w1 ⟨rfl, hb⟩
    have HB := Lib.hid hb
    clear hb
    go_wp2_with fail
    refine (JS.out _ HB.out).mono ?_
    rintro e w2 ⟨A', c', m, rfl, hst, hes, hb⟩
    have HB := Lib.hid (eb_of HB.out hb (Nat.le_refl _))
    have HST := Lib.hid hst
    have HES := Lib.hid hes
    clear hb hst hes
    go_wp2_with fail
    go_ret2
    exact ⟨A', c', m.map (·.1), by rw [List.length_map]; rfl, .inr ⟨HE.out, l, m, rfl, rfl, HST.out⟩, HES.out, HB.out⟩
  · have HE := Lib.hid he
    obtain ⟨b1, b2⟩ := ne_b he
    clear hf hs he
    generalize hr : allE xs = r at *
    have HR := Lib.hid hr
    clear hr
    go_enter Tryd.func9, Tryd.ntmps9
    go_wp2_with fail
    refine J.out.mono ?_
    rintro e w1 ⟨rfl, hb⟩
    have HB := Lib.hid hb
    clear hb
    go_wp2_with fail
    go_ret2
    exact ⟨none, 0, [], rfl, .inl ⟨by rw [HR.out]; exact HE.out, rfl⟩, .inl rfl, HB.out⟩
theorem cpt_one {m : List V} (h : 0 < m.length) : cpt (m.take 1) = [m[0]] := by
  cases m with
  | nil => simp at h
  | cons x t => simp [cpt, cgo]
set_option maxRecDepth 100000 in
set_option maxHeartbeats 4000000 in
theorem fNewest_full (A : Option Addr) (c : Nat) (xs : List El.En) (w : World) (hf : EsAt w A xs) (hn : xs.length ≤ 4294967295) (hs : Sized xs) :
    Calls Tryd.prog 12 #[.slice A xs.length c] w fun e w' => ∃ A' c' ys, e = .returned (.tuple #[.slice A' ys.length c', .int .i64 (allE xs)]) ∧ NewOut xs ys ∧ EsAt w' A' ys ∧ Below w.heap.size w w' := by
  have J := Lib.hid (fSort_full A c xs w hf hn hs)
  by_cases he : allE xs = 0
  rotate_left
  · have HE := Lib.hid he
    obtain ⟨b1, b2⟩ := ne_b he
    clear hf hs he
    generalize hr : allE xs = r at *
    have HR := Lib.hid hr
    clear hr
    go_enter Tryd.func12, Tryd.ntmps12
    go_wp2_with fail
    refine J.out.mono ?_
    rintro e w1 ⟨A', c', ys, rfl, hso, hes, hb⟩
    have HB := Lib.hid hb
    clear hb hso hes
    generalize ys.length = ny at *
    go_wp2_with fail
    go_ret2
    exact ⟨none, 0, [], rfl, .inl ⟨by rw [HR.out]; exact HE.out, rfl⟩, .inl rfl, HB.out⟩
  obtain ⟨i0, hi, hz0, hz1, hz2⟩ := info_parts infoE
  have ha5 := (allE_ok he).1
  rw [he] at J ⊢
  have HE := Lib.hid he
  clear hf hs he
  generalize xs.length = n0 at *
  go_enter Tryd.func12, Tryd.ntmps12
  go_wp2_with fail
  refine J.out.mono ?_
  rintro e w1 ⟨A', c', ys, rfl, hso, hes, hb⟩
  have HB := Lib.hid hb
  have HES := Lib.hid hes
  rcases hso with ⟨h, _⟩ | ⟨_, l, m, hl, rfl, hst⟩
  · exact absurd HE.out h
  have HST := Lib.hid hst
  have HL := Lib.hid hl
  obtain ⟨n, hnn⟩ : ∃ n, (m.map (·.1)).length = n := ⟨_, rfl⟩
  have hn5 : n ≤ 5000 := by
    have h1 := Stb.stab_length preV hst
    have h2 := (allE_ok HE.out).1
    rw [← hl] at h2
    simp at h2 hnn; omega
  rw [hnn]
  have HN := Lib.hid hnn
  clear hb hes hst hl hnn J
  go_wp2_with fail
  go_loopw [6, 7] (fun vo vi wr => ∃ (i : Nat) (zs : List El.En), vi = .int .i64 i ∧ i ≤ n ∧ zs = (cpt (m.take i)).map (·.1) ∧ zs.length ≤ i ∧ wr.ownsRow w1.heap.size 33 4 vo zs.length (cellsE zs) ∧ Below w1.heap.size w1 wr) (fun _ vi _ => n - (intOf vi).toNat)
  case atStart => exact ⟨0, [], by first | rfl | go_num, Nat.zero_le _, rfl, Nat.le_refl _, World.ownsRow_nil _ _ _ _, Below.refl _ _⟩
  case round =>
    obtain ⟨i, zs, rfl, him, hzs, hzl, hown, hb⟩ := hrel
    have HZS := Lib.hid hzs
    have HO := Lib.hid hown
    have HBL := Lib.hid hb
    have hsz := hb.size
    clear hzs hown hb
    by_cases hlt : i < n
    rotate_left
    · have hf1 : ¬ (i : Int) < (n : Int) := by omega
      obtain ⟨A3, c3, rfl⟩ := own_slice HO.out
      have HE3 := Lib.hid (EsAt.of_own HO.out)
      have hfull : zs = (cpt m).map (·.1) := by rw [HZS.out, List.take_of_length_le (by have := HN.out; rw [List.length_map] at this; omega)]
      have HFU := Lib.hid hfull
      clear hfull
      go_wp2_with fail
      go_ret2
      exact ⟨A3, c3, zs, rfl, .inr ⟨HE.out, l, m, HL.out, HFU.out.symm, HST.out⟩, HE3.out, eb_of HB.out HBL.out (Nat.le_refl _)⟩
    have hf1 : (i : Int) < (n : Int) := by omega
    have hix : i < (m.map (·.1)).length := by rw [HN.out]; exact hlt
    have him' : i < m.length := by rw [List.length_map] at hix; exact hix
    rcases HES.out.below HBL.out (Nat.le_refl _) with h0 | ⟨b, off, rfl, hbl, hc⟩
    · rw [h0] at hix; simp at hix
    obtain ⟨g0, g1, g2, g3⟩ := hc i hix
    rw [List.getElem_map] at g0 g1 g2 g3
    have HXC : Hid (∀ W', Below wr.heap.size wr W' → W'.cell? ⟨b, off + i * 4, none⟩ = some (.string m[i].1.1) ∧ W'.cell? ⟨b, off + i * 4 + 1, none⟩ = some (.string m[i].1.2.1) ∧ W'.cell? ⟨b, off + i * 4 + 2, none⟩ = some (.bool m[i].1.2.2.1) ∧ W'.cell? ⟨b, off + i * 4 + 3, none⟩ = some (.int .i64 m[i].1.2.2.2)) := Lib.hid fun W' h =>
      ⟨(h.cell (p := ⟨b, _, none⟩) hbl).trans g0, (h.cell (p := ⟨b, _, none⟩) hbl).trans g1, (h.cell (p := ⟨b, _, none⟩) hbl).trans g2, (h.cell (p := ⟨b, _, none⟩) hbl).trans g3⟩
    by_cases hi0 : i = 0
    · subst hi0
      have d1 : (((0 : Nat) : Int) == 0) = true := by simp
      simp only [Nat.zero_mul, Nat.add_zero] at g0 g1 g2 g3
      go_wp2_with fail
      go_quiet (fail)
      obtain ⟨⟨xk, xv, xd, xq⟩, hx⟩ : ∃ x, m[0].1 = x := ⟨_, rfl⟩
      have HXX := Lib.hid hx
      rw [hx] at g0 g1 g2 g3
      clear hx HXC
      have HBQ := Lib.hid (HBL.out.trans ((below_drewN' nq).mono hsz))
      have HOQ := Lib.hid (own_base' (row := none) HO.out (grown_of_below' (below_drewN' nq)) (fun r e => by cases e))
      have hsq : w1.heap.size ≤ (wr.drewN nq).heap.size := HBQ.out.size
      go_wp2_with (at_builtin; refine wpList_append_es rfl (.tmp 38) (.tmp 43) rfl w1.heap.size _ zs.length zs rfl (HOQ.out.alloc _) (some ⟨wr.heap.size, 0, none⟩) 1 1 [(xk, xv, xd, xq)] rfl rfl (esAt_one (wr.drewN nq) (xk, xv, xd, xq)) (fun e => by cases e) (by simp; omega) (by simp; omega) ?_; intro v2 W2 hown2 hg2; have hb2 := (HBQ.out.alloc hsq (.cells #[.string xk, .string xv, .bool xd, .int .i64 xq] 33)).grown hg2 (by simp; omega) (fun g hg => (HOQ.out.lt g hg).1); have HB2 := Lib.hid hb2; have HO2 := Lib.hid hown2; clear hb2 hg2 hown2)
      go_roundw
      case rel => exact ⟨0 + 1, zs ++ [(xk, xv, xd, xq)], by go_num, by omega, by rw [cpt_one him', show ([m[0]] : List V) = cpt (m.take 0) ++ [m[0]] by simp [cpt], List.map_append, ← HZS.out, List.map_cons, List.map_nil, HXX.out], by rw [List.length_append, List.length_cons, List.length_nil]; omega, by rw [List.length_append]; exact HO2.out, HB2.out⟩
      case measure => simp [intOf]; omega

    · obtain ⟨k, rfl⟩ : ∃ k, i = k + 1 := ⟨i - 1, by omega⟩
      have d1 : (((k + 1 : Nat) : Int) == 0) = false := by rw [beq_eq_false_iff_ne]; omega
      have d2 : ((k : Int) + 1 == 0) = false := by rw [beq_eq_false_iff_ne]; omega
      have d3 : IntKind.i64.wrap (((k + 1 : Nat) : Int) - 1) = (k : Int) := by rw [IntKind.wrap_i64]; omega
      have hk1 : (k : Int) < (n : Int) := by omega
      have hk2 : k < n := by omega
      have hkm : k < m.length := by omega
      obtain ⟨f0, _, _, _⟩ := hc k (by rw [List.length_map]; exact hkm)
      rw [List.getElem_map] at f0
      clear hc
      have hnx := cpt_next him'
      by_cases hq : m[k + 1].1.1 = m[k].1.1
      · rw [if_pos hq] at hnx
        have HNX := Lib.hid hnx
        rw [← hq] at f0
        have e3 := str_beq_eq hq
        generalize m[k + 1].1.1 = key at *
        clear hnx hq
        go_wp2_with fail
        go_quiet (fail)
        go_wp2_with fail
        go_roundw
        case rel => exact ⟨k + 1 + 1, zs, by go_num, by omega, by rw [HNX.out]; exact HZS.out, by omega, own_base' (row := none) HO.out (grown_of_below' (below_drewN' _)) (fun r e => by cases e), HBL.out.trans ((below_drewN' _).mono hsz)⟩
        case measure => simp [intOf]; omega
      · rw [if_neg hq] at hnx
        have HNX := Lib.hid hnx
        have e3 := str_beq_ne hq
        have e4 := str_ne hq
        obtain ⟨key2, hkey2⟩ : ∃ key, m[k].1.1 = key := ⟨_, rfl⟩
        rw [hkey2] at f0 e3 e4
        clear hnx hq hkey2
        rw [show m[k + 1].1.1 = (m[k + 1].1).1 from rfl] at e3 e4
        obtain ⟨⟨xk, xv, xd, xq⟩, hx⟩ : ∃ x, m[k + 1].1 = x := ⟨_, rfl⟩
        have HXX := Lib.hid hx
        rw [hx] at g0 g1 g2 g3 e3 e4
        clear hx HXC
        simp only at g0 g1 g2 g3 e3 e4
        go_wp2_with fail
        go_quiet (fail)
        have HBQ := Lib.hid (HBL.out.trans ((below_drewN' nq).mono hsz))
        have HOQ := Lib.hid (own_base' (row := none) HO.out (grown_of_below' (below_drewN' nq)) (fun r e => by cases e))
        have hsq : w1.heap.size ≤ (wr.drewN nq).heap.size := HBQ.out.size
        go_wp2_with (at_builtin; refine wpList_append_es rfl (.tmp 38) (.tmp 43) rfl w1.heap.size _ zs.length zs rfl (HOQ.out.alloc _) (some ⟨wr.heap.size, 0, none⟩) 1 1 [(xk, xv, xd, xq)] rfl rfl (esAt_one (wr.drewN nq) (xk, xv, xd, xq)) (fun e => by cases e) (by simp; omega) (by simp; omega) ?_; intro v2 W2 hown2 hg2; have hb2 := (HBQ.out.alloc hsq (.cells #[.string xk, .string xv, .bool xd, .int .i64 xq] 33)).grown hg2 (by simp; omega) (fun g hg => (HOQ.out.lt g hg).1); have HB2 := Lib.hid hb2; have HO2 := Lib.hid hown2; clear hb2 hg2 hown2)
        go_roundw
        case rel => exact ⟨k + 1 + 1, zs ++ [(xk, xv, xd, xq)], by go_num, by omega, by rw [HNX.out, List.map_append, ← HZS.out, List.map_cons, List.map_nil, HXX.out], by rw [List.length_append, List.length_cons, List.length_nil]; omega, by rw [List.length_append]; exact HO2.out, HB2.out⟩
        case measure => simp [intOf]; omega

end Go.Proofs.YtmobjpmkenpckaaDoor.KK
