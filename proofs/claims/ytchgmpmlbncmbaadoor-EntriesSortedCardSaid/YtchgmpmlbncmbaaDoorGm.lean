/-
  EntriesSorted: the walk.
-/
import Derived.Test.YtchgmpmlbncmbaaDoorGl
namespace Go.Proofs.YtchgmpmlbncmbaaDoor.KK
open Go.ChangeShapes Go.WideShapes Go.ChangeAt Go.RowKit Go.Proofs Go.Sort

/-- the search for one's like among the others -/
def Srch (xs ss : List El.En) (us : List Bool) (i k : Nat) (fo : Bool) : Prop :=
  us.length = ss.length ∧ ((fo = true ∧ Used xs ss us (i + 1)) ∨ (fo = false ∧ Used xs ss us i ∧ ∀ j, j < k → us[j]? = some false → ss[j]? = xs[i]? → False))
theorem Srch.start {xs ss : List El.En} {us : List Bool} {i : Nat} (h : Used xs ss us i) : Srch xs ss us i 0 false :=
  ⟨h.1, .inr ⟨rfl, h, fun j hj => absurd hj (Nat.not_lt_zero j)⟩⟩
theorem Srch.skip {xs ss : List El.En} {us : List Bool} {i k : Nat} (h : Srch xs ss us i k false) (g : us[k]? = some false → ss[k]? = xs[i]? → False) : Srch xs ss us i (k + 1) false := by
  obtain ⟨h0, h | ⟨_, h1, h2⟩⟩ := h
  · cases h.1
  refine ⟨h0, .inr ⟨rfl, h1, fun j hj a b => ?_⟩⟩
  by_cases e : j = k
  · subst e; exact g a b
  · exact h2 j (by omega) a b
theorem Srch.hit {xs ss : List El.En} {us : List Bool} {i k : Nat} (h : Srch xs ss us i k false) (hi : i < xs.length) (g1 : us[k]? = some false) (g2 : ss[k]? = some xs[i]) : Srch xs ss (us.set k true) i (k + 1) true := by
  obtain ⟨h0, h | ⟨_, h1, h2⟩⟩ := h
  · cases h.1
  exact ⟨by rw [List.length_set]; exact h0, .inl ⟨rfl, h1.next hi g1 g2⟩⟩
theorem Srch.used {xs ss : List El.En} {us : List Bool} {i k : Nat} (h : Srch xs ss us i k true) : Used xs ss us (i + 1) := by
  obtain ⟨_, h | h⟩ := h
  · exact h.2
  · cases h.1
theorem Srch.fin {xs ss : List El.En} {us : List Bool} {i : Nat} (h : Srch xs ss us i ss.length false) (hi : i < xs.length) (hc : ∀ v, cnt v ss = cnt v xs) : False := by
  obtain ⟨h0, h | ⟨_, h1, h2⟩⟩ := h
  · cases h.1
  obtain ⟨j, a, b⟩ := h1.more hi hc
  exact h2 j (List.getElem?_eq_some_iff.1 b).1 a (b.trans (List.getElem?_eq_getElem hi).symm)
theorem Used.start {xs ss : List El.En} {n : Nat} (h : ss.length = n) : Used xs ss (List.replicate n false) 0 :=
  ⟨by rw [List.length_replicate, h], fun v => by rw [used_none]; rfl⟩
theorem new_len {xs ys : List El.En} (h : NewOut xs ys) : ys.length ≤ xs.length := by
  rcases h with ⟨_, rfl⟩ | ⟨_, l, l', rfl, rfl, hst⟩
  · simp
  · have := cpt_len l'
    rw [Stb.stab_length preV hst] at this
    simpa using this
theorem sized_of2 {xs ss : List El.En} {n : Nat} (h : Sized xs) (_ : xs.length = n) (hs : SortOut xs ss) (he : allE xs = 0) : Sized ss := by
  rcases hs with ⟨g, _⟩ | ⟨_, l, l', rfl, rfl, hst⟩
  · exact absurd he g
  intro x hx
  obtain ⟨y, hy, rfl⟩ := List.mem_map.1 hx
  have : y ∈ l := by
    have h1 : y ∈ l'.filter (Stb.eqv leV y) := List.mem_filter.2 ⟨hy, Stb.eqv_self preV y⟩
    rw [hst.2 y] at h1
    exact (List.mem_filter.1 h1).1
  exact h _ (List.mem_map.2 ⟨y, this, rfl⟩)
set_option maxRecDepth 100000 in
set_option maxHeartbeats 16000000 in
theorem sorted_good (A : Option Addr) (c : Nat) (xs : List El.En) (w : World) (he : EnvE w) (hf : EsAt w A xs) (hs : Sized xs) (h1 : farE xs = false) (h2 : allE xs = 0) :
    Calls Tryd.prog 7 #[.slice A xs.length c] w fun e w' => e = .returned (.bool true) ∧ Below w.heap.size w w' := by
  have hn := farE_len h1
  obtain ⟨i0, hi, hz0, hz1, hz2⟩ := info_parts infoE
  have HE := Lib.hid he
  have J := Lib.hid (far_any A c xs w hf (by omega) hs)
  rw [h1] at J
  have J1 := Lib.hid (fun w1 (h : Below w.heap.size w w1) => by
    have K := Sort_full A c xs w1 (hf.below h (Nat.le_refl _)) (by omega) hs
    rw [h2] at K
    exact K)
  have J2 := Lib.hid (fun w1 (h : Below w.heap.size w w1) => by
    have K := Newest_full A c xs w1 (hf.below h (Nat.le_refl _)) (by omega) hs
    rw [h2] at K
    exact K)
  have HF := Lib.hid hf
  have HS := Lib.hid hs
  have H2 := Lib.hid h2
  clear he hf hs h1 h2
  obtain ⟨n, hnn⟩ : ∃ n, xs.length = n := ⟨_, rfl⟩
  rw [hnn] at J J1 J2 hn ⊢
  have HN := Lib.hid hnn
  clear hnn
  go_enter Tryd.func7, Tryd.ntmps7
  go_wp2_with fail
  refine J.out.mono ?_
  rintro e w1 ⟨rfl, hb⟩
  have HB := Lib.hid hb
  clear hb J
  go_wp2_with fail
  refine (J1.out _ HB.out).mono ?_
  rintro e w2 ⟨A2, c2, ss, rfl, hso, hy2, hb⟩
  have HB := Lib.hid (eb_of HB.out hb (Nat.le_refl _))
  obtain ⟨f1, f2, f3, f4⟩ := sorted_facts hso H2.out
  have HSS := Lib.hid (show ss.length = n by rw [f1, HN.out])
  have hsn : ss.length = n := HSS.out
  rw [hsn]
  have HSO := Lib.hid hso
  have HY2 := Lib.hid hy2
  have F2 := Lib.hid f2
  have F3 := Lib.hid f3
  have F4 := Lib.hid f4
  clear hb J1 hso hy2 f1 f2 f3 f4 hsn
  obtain ⟨w3, hmk, hbr, hb3, hlt3⟩ := make_bools n w2 (by omega)
  have HB3 := Lib.hid hb3
  have HBR := Lib.hid hbr
  have HL3 := Lib.hid hlt3
  clear hb3 hbr hlt3
  go_wp2_with fail
  go_loopw [6] (fun vi wr => ∃ (i : Nat) (us : List Bool), vi = .int .i64 i ∧ i ≤ n ∧ Used xs ss us i ∧ BRow wr w2.heap.size us ∧ Below w2.heap.size w2 wr ∧ w2.heap.size < wr.heap.size) (fun vi _ => n - (intOf vi).toNat)
  case atStart => exact ⟨0, _, by first | rfl | go_num, Nat.zero_le _, Used.start HSS.out, HBR.out, HB3.out, HL3.out⟩
  case round =>
    obtain ⟨i, us, rfl, him, hus, hbr, hb, hlt⟩ := hrel
    have HBI := Lib.hid hb
    have HUS := Lib.hid hus
    have HBR2 := Lib.hid hbr
    have HLI := Lib.hid hlt
    clear hb hus hbr hlt HBR HB3 HL3 hmk
    by_cases hlt : i < n
    · have hf1 : (i : Int) < (n : Int) := by omega
      have hix : i < xs.length := by rw [HN.out]; exact hlt
      go_wp2_with fail
      go_loopw [7, 8] (fun vfo vk wr => ∃ (fo : Bool) (k : Nat) (us : List Bool), vfo = .bool fo ∧ vk = .int .i64 k ∧ k ≤ n ∧ Srch xs ss us i k fo ∧ BRow wr w2.heap.size us ∧ Below w2.heap.size w2 wr ∧ w2.heap.size < wr.heap.size) (fun _ vk _ => n - (intOf vk).toNat)
      case atStart => exact ⟨false, 0, us, by first | rfl | go_num, by first | rfl | go_num, Nat.zero_le _, Srch.start HUS.out, HBR2.out, HBI.out, HLI.out⟩
      case round =>
        clear HBI HUS HBR2 HLI us
        obtain ⟨fo, k, us, rfl, rfl, hkn, hsr, hbr, hb, hlw⟩ := hrel
        have HB2 := Lib.hid hb
        have HSR := Lib.hid hsr
        have HBR := Lib.hid hbr
        have HLW := Lib.hid hlw
        have hsz := hb.size
        clear hb hsr hbr
        cases fo with
        | true =>
          by_cases hk : k < n
          · have g1 : (k : Int) < (n : Int) := by omega
            go_wp2_with fail
            go_roundw
            case rel => exact ⟨i + 1, us, by go_num, by omega, HSR.out.used, HBR.out, HB2.out, HLW.out⟩
            case measure => simp [intOf]; omega
          · have g1 : ¬ (k : Int) < (n : Int) := by omega
            go_wp2_with fail
            go_roundw
            case rel => exact ⟨i + 1, us, by go_num, by omega, HSR.out.used, HBR.out, HB2.out, HLW.out⟩
            case measure => simp [intOf]; omega
        | false =>
          by_cases hk : k < n
          rotate_left
          · have hkn' : k = ss.length := by rw [HSS.out]; omega
            have := HSR.out
            rw [hkn'] at this
            exact (this.fin hix F2.out).elim
          have g1 : (k : Int) < (n : Int) := by omega
          have hks : k < ss.length := by rw [HSS.out]; exact hk
          have hku : k < us.length := by rw [HSR.out.1]; exact hks
          obtain ⟨u, hu⟩ : ∃ u, us[k]? = some u := ⟨_, List.getElem?_eq_getElem hku⟩
          obtain ⟨r1, r2⟩ := HBR.out.at hu
          have HU := Lib.hid hu
          clear hu
          cases u with
          | true =>
            have HNX := Lib.hid (HSR.out.skip (fun a _ => by rw [HU.out] at a; cases a))
            go_wp2_with fail
            go_quiet (fail)
            go_wp2_with fail
            go_roundw
            case rel => exact ⟨false, k + 1, us, rfl, by go_num, by omega, HNX.out, HBR.out.below ((below_drewN' _)) HLW.out, HB2.out.trans ((below_drewN' _).mono hsz), HLW.out⟩
            case measure => simp [intOf]; omega
          | false =>
            have hfx := HF.out.below (HB.out.trans (HB2.out.mono HB.out.size)) (Nat.le_refl _)
            have hfy := HY2.out.below HB2.out (Nat.le_refl _)
            rcases hfx with h0 | ⟨b, off, rfl, hbl, hc⟩
            · rw [h0] at hix; simp at hix
            rcases hfy with h0 | ⟨b', off', rfl, hbl', hc'⟩
            · rw [h0] at hks; simp at hks
            obtain ⟨g0, gg1, g2, g3⟩ := hc i hix
            obtain ⟨k0, k1, k2, k3⟩ := hc' k hks
            obtain ⟨y, hy⟩ : ∃ y, xs[i] = y := ⟨_, rfl⟩
            obtain ⟨x, hx⟩ : ∃ x, ss[k] = x := ⟨_, rfl⟩
            rw [hy] at g0 gg1 g2 g3
            rw [hx] at k0 k1 k2 k3
            have hx? : ss[k]? = some x := by rw [← hx]; exact List.getElem?_eq_getElem hks
            have hy? : xs[i]? = some y := by rw [← hy]; exact List.getElem?_eq_getElem hix
            clear hc hc'
            by_cases heq : x = y
            · rw [← heq] at g0 gg1 g2 g3
              have HNX := Lib.hid (HSR.out.hit hix HU.out (by rw [hx?, heq, hy]))
              clear heq hx hy hx? hy?
              have hbl3 := HLW.out
              go_wp2_with fail
              go_quiet (fail)
              go_wp2_with fail
              go_roundw
              case rel => exact ⟨true, k + 1, us.set k true, by first | rfl | simp, by go_num, by omega, HNX.out, (HBR.out.below ((below_drewN' _)) HLW.out).set hku, (HB2.out.trans ((below_drewN' _).mono hsz)).setCell (Nat.le_refl _) _, by have := HLW.out; simpa [World.setCell] using this⟩
              case measure => simp [intOf]; omega
            · have HNX := Lib.hid (HSR.out.skip (fun _ b => by rw [hx?, hy?] at b; exact heq (Option.some.inj b)))
              clear hx hy hx? hy?
              by_cases e0 : x.1 = y.1
              · rw [← e0] at g0
                by_cases e1 : x.2.1 = y.2.1
                · rw [← e1] at gg1
                  by_cases e2 : x.2.2.1 = y.2.2.1
                  · rw [← e2] at g2
                    have e3 : (x.2.2.2 == y.2.2.2) = false := by
                      rw [beq_eq_false_iff_ne]; intro e3; exact heq (Prod.ext e0 (Prod.ext e1 (Prod.ext e2 e3)))
                    clear heq e0 e1 e2
                    go_wp2_with fail
                    go_quiet (fail)
                    go_wp2_with fail
                    go_roundw
                    case rel => exact ⟨false, k + 1, us, by first | rfl | simp, by go_num, by omega, HNX.out, HBR.out.below ((below_drewN' _)) HLW.out, HB2.out.trans ((below_drewN' _).mono hsz), HLW.out⟩
                    case measure => simp [intOf]; omega
                  · have e3 : (x.2.2.1 == y.2.2.1) = false := by rw [beq_eq_false_iff_ne]; exact e2
                    clear heq e0 e1 e2
                    go_wp2_with fail
                    go_quiet (fail)
                    go_wp2_with fail
                    go_roundw
                    case rel => exact ⟨false, k + 1, us, by first | rfl | simp, by go_num, by omega, HNX.out, HBR.out.below ((below_drewN' _)) HLW.out, HB2.out.trans ((below_drewN' _).mono hsz), HLW.out⟩
                    case measure => simp [intOf]; omega
                · have e3 := str_beq_ne e1
                  clear heq e0 e1
                  go_wp2_with fail
                  go_quiet (fail)
                  go_wp2_with fail
                  go_roundw
                  case rel => exact ⟨false, k + 1, us, by first | rfl | simp, by go_num, by omega, HNX.out, HBR.out.below ((below_drewN' _)) HLW.out, HB2.out.trans ((below_drewN' _).mono hsz), HLW.out⟩
                  case measure => simp [intOf]; omega
              · have e3 := str_beq_ne e0
                clear heq e0
                go_wp2_with fail
                go_quiet (fail)
                go_wp2_with fail
                go_roundw
                case rel => exact ⟨false, k + 1, us, by first | rfl | simp, by go_num, by omega, HNX.out, HBR.out.below ((below_drewN' _)) HLW.out, HB2.out.trans ((below_drewN' _).mono hsz), HLW.out⟩
                case measure => simp [intOf]; omega
    · have hf1 : ¬ (i : Int) < (n : Int) := by omega
      go_wp2_with fail
      go_loopw [9, 10] (fun vsame vk wr => ∃ (same : Bool) (k : Nat), vsame = .bool same ∧ vk = .int .i64 k ∧ 1 ≤ k ∧ k ≤ n + 1 ∧ (same = false → ∀ (j : Nat) (x y : El.En), j + 1 < k → ss[j]? = some x → ss[j + 1]? = some y → El.ord x y ≠ 0) ∧ Below w2.heap.size w2 wr) (fun _ vk _ => n - (intOf vk).toNat)
      case atStart => exact ⟨false, 1, by first | rfl | go_num, by first | rfl | go_num, Nat.le_refl _, by omega, fun _ j x y hj => absurd hj (by omega), HBI.out⟩
      case round =>
        obtain ⟨same, k, rfl, rfl, hk1, hkn, hne, hb⟩ := hrel
        have HB2 := Lib.hid hb
        have HNE := Lib.hid hne
        have hsz := hb.size
        clear hb hne HBI HUS HBR2 HLI us
        by_cases hk : k < n
        rotate_left
        · have g1 : ¬ (k : Int) < (n : Int) := by omega
          have HST : Hid (same = false → ∀ (j : Nat) (x y : El.En), ss[j]? = some x → ss[j + 1]? = some y → El.ord x y ≠ 0) := Lib.hid (fun e j x y hx hy => HNE.out e j x y (by
            have := (List.getElem?_eq_some_iff.1 hy).1
            rw [HSS.out] at this; omega) hx hy)
          clear HNE
          have HBW := Lib.hid (HB.out.trans (HB2.out.mono HB.out.size))
          clear HB2
          go_wp2_with fail
          generalize hwo : wr = wo at *
          clear hwo
          go_loopw [13, 14] (fun tv iv wr => ∃ (q : Nat) (ys : List El.En) (iI : Int), iv = .int .i64 iI ∧ iI + q + 1 = n ∧ q ≤ n ∧ ys = xs.reverse.take q ∧ wr.ownsRow wo.heap.size 23 4 tv ys.length (cellsE ys) ∧ Below wo.heap.size wo wr) (fun _ iv _ => (intOf iv + 1).toNat)
          case atStart => exact ⟨0, [], (n : Int) - 1, by first | rfl | go_num, by omega, Nat.zero_le _, by simp, World.ownsRow_nil _ _ _ _, Below.refl _ _⟩
          case round =>
            obtain ⟨q, ys, iI, rfl, hiI, hqn, hy, hown, hb⟩ := hrel
            have hsz := hb.size
            have HB2 := Lib.hid hb
            have HY := Lib.hid hy
            have HO := Lib.hid hown
            have hyl : ys.length ≤ 5010 := by
              rw [hy, List.length_take]; omega
            clear hb hy hown
            by_cases hlt4 : q < n
            rotate_left
            · have hyy := Lib.hid (show ys = xs.reverse by rw [HY.out, List.take_of_length_le (by rw [List.length_reverse, HN.out]; omega)])
              obtain ⟨A', c', rfl⟩ := own_slice HO.out
              have hfin := Lib.hid (EsAt.of_own HO.out)
              have HBF := Lib.hid (HBW.out.trans (HB2.out.mono HBW.out.size))
              have hm1 : iI = -1 := by omega
              subst hm1
              clear HO
              have hsy : Sized xs.reverse := fun x hx => HS.out x (by simpa using hx)
              have hal := allE_reverse H2.out
              have hfr := Lib.hid (show EsAt wr A' xs.reverse by rw [← hyy.out]; exact hfin.out)
              have J3 := Lib.hid (fun w1 (h : Below wr.heap.size wr w1) => by
                have K := Newest_full A' c' xs.reverse w1 (hfr.out.below h (Nat.le_refl _)) (by rw [List.length_reverse, HN.out]; omega) hsy
                rw [hal, List.length_reverse, HN.out] at K
                exact K)
              have hyl2 : ys.length = n := by rw [hyy.out, List.length_reverse, HN.out]
              rw [hyl2]
              clear hsy hal hyl hyl2
              go_wp2_with fail
              refine (J2.out _ HBF.out).mono ?_
              rintro e w5 ⟨A5, c5, ns, rfl, hn5, h5, hb⟩
              have HG := Lib.hid hb
              have HBF := Lib.hid (eb_of HBF.out hb (Nat.le_refl _))
              have H5 := Lib.hid h5
              have HN5 := Lib.hid hn5
              clear hb h5 hn5
              go_wp2_with fail
              refine (J3.out _ HG.out).mono ?_
              rintro e w6 ⟨A6, c6, ms, rfl, hn6, h6, hb⟩
              have HBF := Lib.hid (eb_of HBF.out hb (Nat.le_refl _))
              have H5 := Lib.hid (H5.out.below hb (Nat.le_refl _))
              have H6 := Lib.hid h6
              have HN6 := Lib.hid hn6
              clear hb h6 hn6
              cases same with
              | true =>
                go_wp2_with fail
                refine (awake_any _ (HE.out.below HBF.out)).mono ?_
                rintro e w9 ⟨rfl, hb⟩
                have HB3 := Lib.hid (eb_of HBF.out hb (Nat.le_refl _))
                clear hb
                go_wp2_with fail
                go_ret
                exact ⟨rfl, HB3.out⟩
              | false =>
                have hnm := newest_turn HSO.out H2.out (HST.out rfl) HN5.out HN6.out
                subst hnm
                have KS := Same_any A5 A6 c5 c6 ns ns w6 H5.out H6.out (by have := new_len HN5.out; rw [HN.out] at this; omega) (by have := new_len HN5.out; rw [HN.out] at this; omega)
                rw [decide_eq_true rfl] at KS
                have KS := Lib.hid KS
                go_wp2_with fail
                refine KS.out.mono ?_
                rintro e w7 ⟨rfl, hb⟩
                have HBF := Lib.hid (eb_of HBF.out hb (Nat.le_refl _))
                clear hb KS
                go_wp2_with fail
                refine (awake_any _ (HE.out.below HBF.out)).mono ?_
                rintro e w9 ⟨rfl, hb⟩
                have HB3 := Lib.hid (eb_of HBF.out hb (Nat.le_refl _))
                clear hb
                go_wp2_with fail
                go_ret
                exact ⟨rfl, HB3.out⟩
            obtain ⟨i9, rfl⟩ : ∃ i9 : Nat, iI = (i9 : Int) := ⟨iI.toNat, by omega⟩
            have hin : i9 < n := by omega
            have hlx : i9 < xs.length := by rw [HN.out]; exact hin
            have hinI : (i9 : Int) < (n : Int) := by omega
            have hge0 : (0 : Int) ≤ (i9 : Int) := by omega
            have hge1 : decide ((0 : Int) ≤ (i9 : Int)) = true := by rw [decide_eq_true_eq]; omega
            have hge2 : decide ((i9 : Int) ≥ 0) = true := by rw [decide_eq_true_eq]; omega
            have hlt9 : ¬ ((i9 : Int) < 0) := by omega
            have hf' := (HF.out.below HBW.out (Nat.le_refl _)).below HB2.out (Nat.le_refl _)
            rcases hf' with h0 | ⟨b, off, rfl, hbl, hc⟩
            · rw [h0] at hlx; simp at hlx
            obtain ⟨g0, g1', g2, g3⟩ := hc i9 hlx
            have hnx : xs.reverse.take (q + 1) = ys ++ [xs[i9]] := by
              rw [List.take_succ_eq_append_getElem (by rw [List.length_reverse, HN.out]; exact hlt4), HY.out, List.getElem_reverse]
              congr 3
              rw [HN.out]; omega
            clear hc
            obtain ⟨⟨xk, xv, xd, xq⟩, hx⟩ : ∃ x, xs[i9] = x := ⟨_, rfl⟩
            rw [hx] at g0 g1' g2 g3 hnx
            simp only at g0 g1' g2 g3 hnx
            clear hx
            have HNX := Lib.hid hnx
            clear hnx
            go_wp2_with (at_builtin; go_loud (refine wpList_append_own _ rfl (.tmp 116) (.tmp 121) 33 rfl wo.heap.size 23 i0 (.agg #[.string ⟨#[]⟩, .string ⟨#[]⟩, .bool false, .int .i64 0]) 4 48 Tryd.underlying33 hi hz0 hz1 hz2 rfl (by decide) _ ys.length _ rfl (HO.out.alloc _) ⟨wr.heap.size, 0, none⟩ 1 1 [.string xk, .string xv, .bool xd, .int .i64 xq] rfl rfl (new4 wr (xk, xv, xd, xq)) (by simp [Value.oneCell']) (by unfold maxLen; omega) (by omega) (by simp; omega) ?_; intro v3 w3 hown3 hg3 _; have hb3 := (HB2.out.alloc hsz (.cells #[.string xk, .string xv, .bool xd, .int .i64 xq] 23)).grown hg3 (by simp; omega) (fun g hg => (HO.out.lt g hg).1); have HB3 := Lib.hid hb3; have HO3 := Lib.hid (own_snoc (x := (xk, xv, xd, xq)) hown3); clear hg3 hb3 hown3))
            go_roundw
            case rel => exact ⟨q + 1, ys ++ [(xk, xv, xd, xq)], (i9 : Int) - 1, by go_num, by omega, by omega, HNX.out.symm, by rw [List.length_append]; exact HO3.out, HB3.out⟩
            case measure => simp [intOf]
        · have g1 : (k : Int) < (n : Int) := by omega
          have hks : k < ss.length := by rw [HSS.out]; exact hk
          obtain ⟨j, rfl⟩ : ∃ j, k = j + 1 := ⟨k - 1, by omega⟩
          have hj : j < ss.length := by omega
          have hsub : ((j + 1 : Nat) : Int) - 1 = (j : Int) := by omega
          have hsw : IntKind.i64.wrap (((j + 1 : Nat) : Int) - 1) = (j : Int) := by rw [IntKind.wrap_i64]; omega
          have hjb : (j : Int) < (n : Int) := by omega
          have hss := sized_of2 HS.out HN.out HSO.out H2.out
          have hfy := HY2.out.below HB2.out (Nat.le_refl _)
          rcases hfy with h0 | ⟨b', off', rfl, hbl', hc'⟩
          · rw [h0] at hks; simp at hks
          obtain ⟨q0, q1, q2, q3⟩ := hc' j hj
          obtain ⟨k0, k1, k2, k3⟩ := hc' (j + 1) hks
          have q0 := abv_cell hbl' q0
          have q1 := abv_cell hbl' q1
          have q2 := abv_cell hbl' q2
          have q3 := abv_cell hbl' q3
          have k0 := abv_cell hbl' k0
          have k1 := abv_cell hbl' k1
          have k2 := abv_cell hbl' k2
          have k3 := abv_cell hbl' k3
          have JC := fun w' => eCompare_any ss[j].1 ss[j].2.1 ss[j].2.2.1 ss[j].2.2.2 ss[j+1].1 ss[j+1].2.1 ss[j+1].2.2.1 ss[j+1].2.2.2 w' (hss.at hj).1 (hss.at hj).2 (hss.at hks).1 (hss.at hks).2
          have t1 : El.two ss[j] ss[j+1] = 0 := by rw [El.two_ok (F3.out _ (List.getElem_mem hj))]; exact F3.out _ (List.getElem_mem hks)
          have t2 : El.cmp ss[j] ss[j+1] = El.ord ss[j] ss[j+1] := if_pos t1
          have t3 := F4.out j _ _ (List.getElem?_eq_getElem hj) (List.getElem?_eq_getElem hks)
          have JC : ∀ w', Calls Tryd.prog 12 #[.agg #[.string ss[j].1, .string ss[j].2.1, .bool ss[j].2.2.1, .int .i64 ss[j].2.2.2], .agg #[.string ss[j+1].1, .string ss[j+1].2.1, .bool ss[j+1].2.2.1, .int .i64 ss[j+1].2.2.2]] w' fun e w'' => e = .returned (.tuple #[.int .i64 (El.ord ss[j] ss[j+1]), .int .i64 0]) ∧ Below w'.heap.size w' w'' := fun w' => by
            have K := JC w'
            have e1 : El.cmp (ss[j].1, ss[j].2.1, ss[j].2.2.1, ss[j].2.2.2) (ss[j+1].1, ss[j+1].2.1, ss[j+1].2.2.1, ss[j+1].2.2.2) = El.ord ss[j] ss[j+1] := t2
            have e2 : El.two (ss[j].1, ss[j].2.1, ss[j].2.2.1, ss[j].2.2.2) (ss[j+1].1, ss[j+1].2.1, ss[j+1].2.2.1, ss[j+1].2.2.2) = 0 := t1
            rw [e1, e2] at K
            exact K
          have JK := Lib.hid JC
          have hd0 : decide (0 < El.ord ss[j] ss[j+1]) = false := by rw [decide_eq_false_iff_not]; omega
          have hd1 : ¬ 0 < El.ord ss[j] ss[j+1] := by omega
          have HNX : Hid ((same || (El.ord ss[j] ss[j+1] == 0)) = false → ∀ (i : Nat) (x y : El.En), i + 1 < j + 1 + 1 → ss[i]? = some x → ss[i + 1]? = some y → El.ord x y ≠ 0) := Lib.hid (fun e i x y hi hx hy => by
            simp at e
            by_cases hij : i = j
            · subst hij
              rw [List.getElem?_eq_getElem hj] at hx
              rw [List.getElem?_eq_getElem hks] at hy
              cases hx; cases hy
              exact e.2
            · exact HNE.out e.1 i x y (by omega) hx hy)
          clear t1 t2 t3 JC hc'
          generalize ss[j].1 = x0 at *
          generalize ss[j].2.1 = x1 at *
          generalize ss[j].2.2.1 = x2 at *
          generalize ss[j].2.2.2 = x3 at *
          generalize ss[j+1].1 = y0 at *
          generalize ss[j+1].2.1 = y1 at *
          generalize ss[j+1].2.2.1 = y2 at *
          generalize ss[j+1].2.2.2 = y3 at *
          generalize El.ord ss[j] ss[j+1] = r at *
          go_wp2_with fail
          refine wp_region_abv (by first | assumption | kernel_rfl) (by kernel_rfl) ?_
          repeat (first | go_big_quiet_step (exact callAbv (JK.out _)) | quiet_step (exact callAbv (JK.out _)))
          refine wpQuiet_nil ?_
          intro w9 hw9
          obtain ⟨p, rfl⟩ := hw9
          go_wp2_with fail
          · rename_i hst
            go_roundw
            case rel => exact ⟨true, j + 1 + 1, by first | rfl | simp, by go_num, by omega, by omega, fun h => (by cases h), eb_of HB2.out p.h (Nat.le_refl _)⟩
            case measure => simp [intOf]; omega
          · rename_i hst
            have hst : same = false := by simpa using hst
            subst hst
            go_roundw
            case rel => exact ⟨(r == 0), j + 1 + 1, by first | rfl | simp, by go_num, by omega, by omega, fun h => HNX.out (by simpa using h), eb_of HB2.out p.h (Nat.le_refl _)⟩
            case measure => simp [intOf]; omega
theorem EntriesSorted_any (A : Option Addr) (c : Nat) (xs : List El.En) (w : World) (he : EnvE w) (hf : EsAt w A xs) (hn : xs.length ≤ 9223372036854775807) (hs : Sized xs) :
    Calls Tryd.prog 7 #[.slice A xs.length c] w fun e w' => e = .returned (.bool true) ∧ Below w.heap.size w w' := by
  by_cases h1 : farE xs = true
  · exact sorted_far A c xs w he hf hn hs h1
  have h1 : farE xs = false := by simpa using h1
  by_cases h2 : allE xs = 0
  · exact sorted_good A c xs w he hf hs h1 h2
  · exact sorted_bad A c xs w he hf hs h1 h2
end Go.Proofs.YtchgmpmlbncmbaaDoor.KK
