/-
  The contract of the reference's ParseList.
-/
import Derived.Test.YthifbihmogjjpaaGreatDoorAb
import Derived.Test.YthifbihmogjjpaaGreatDoorAc
import Derived.Test.YthifbihmogjjpaaGreatDoorWu
import Derived.Maps.AppendAt
namespace Go.Proofs.YthifbihmogjjpaaGreatDoor
open Go.ChangeShapes Go.WideShapes Go.ChangeAt Go.RowKit Go.Proofs

theorem own_other {w w' : World} {B e size n : Nat} {v : Value} {xs : List Value} {row : Option Nat} (h : w.ownsRow B e size v n xs) (hg : w.grownBy w' row) (hr : ∀ g, v.ownBlock = some g → row ≠ some g) : w'.ownsRow B e size v n xs := by
  refine ⟨h.1, ?_⟩
  rcases h.2 with hn | ⟨g, cap, cur, rfl, hg', hgg, rest⟩
  · exact .inl hn
  · exact .inr ⟨g, cap, cur, rfl, hg', by rw [hg.block g (Array.getElem?_eq_some_iff.1 hgg).1 (fun e => hr g rfl e.symm)]; exact hgg, rest⟩
theorem keep1 {w w1 : World} {a : Addr} {u : Value} (hb : Below w.heap.size w w1) (h : w.cell? a = some u) : w1.cell? a = some u := (hb.cell (p := a) (cellw_lt h)).trans h
/-- two rows of their own do not lie in one block -/
def Apart (v u : Value) : Prop := ∀ g, v.ownBlock = some g → u.ownBlock ≠ some g
theorem apart_left {w : World} {B e s n : Nat} {v u v3 : Value} {xs : List Value} {o : Obj} (h : Apart v u) (hu : w.ownsRow B e s u n xs) (hb : v3.ownBlock = v.ownBlock ∨ v3.ownBlock = some (w.alloc o).heap.size) : Apart v3 u := by
  intro g hg hu2
  rcases hb with hb | hb
  · exact h g (hb.symm.trans hg) hu2
  · rw [hb] at hg
    injection hg with hg
    have := (hu.lt g hu2).2
    simp at hg
    omega
theorem apart_right {w : World} {B e s n : Nat} {v u u3 : Value} {xs : List Value} {o : Obj} (h : Apart v u) (hv : w.ownsRow B e s v n xs) (hb : u3.ownBlock = u.ownBlock ∨ u3.ownBlock = some (w.alloc o).heap.size) : Apart v u3 := by
  intro g hg hu2
  rcases hb with hb | hb
  · exact h g hg (hb.symm.trans hu2)
  · rw [hb] at hu2
    injection hu2 with hu2
    have := (hv.lt g hg).2
    simp at hu2
    omega
theorem dec_f (t : List UInt8) (w : World) (hs : t.length ≤ 4294967295) (hn : ∀ x ∈ t, x ≠ 45) :
    Calls Tryz.prog 23 #[.string ⟨t.toArray⟩] w fun e w' => e = .returned (.bool (Pl.nat t)) ∧ w' = w := by
  have := decimal_any ⟨t.toArray⟩ w (by rw [size_mk]; exact hs)
  rw [L_mk, Pl.dec_no hn] at this
  exact this.mono fun e w' ⟨h1, h2⟩ => ⟨h1, h2.symm⟩
theorem rless_f (a b : List UInt8) (w : World) (ha : a.length ≤ 4294967295) (hb : b.length ≤ 4294967295) :
    Calls Tryz.prog 24 #[.string ⟨a.toArray⟩, .string ⟨b.toArray⟩] w fun e w' => e = .returned (.bool (Pl.lessB a b)) ∧ w' = w := by
  have := rless_any ⟨a.toArray⟩ ⟨b.toArray⟩ w (by rw [size_mk]; omega) (by rw [size_mk]; omega)
  rw [L_mk, L_mk] at this
  exact this.mono fun e w' ⟨h1, h2⟩ => ⟨h1, h2.symm⟩
theorem rparts_f (t : List UInt8) (c : UInt8) (w : World) (hs : t.length ≤ 4000000000) :
    Calls Tryz.prog 22 #[.string ⟨t.toArray⟩, .int .u8 (c.toNat : Int)] w (StrsOut (Pl.segs c t) w) := by
  have := rparts_any ⟨t.toArray⟩ c w (by rw [size_mk]; exact hs)
  rwa [L_mk] at this
theorem rnext_f (t : List UInt8) (w : World) (hs : t.length ≤ 4000000000) (hn : Pl.nat t = true) :
    Calls Tryz.prog 25 #[.string ⟨t.toArray⟩] w fun e w' => e = .returned (.string ⟨(Pl.suc t).toArray⟩) ∧ Below w.heap.size w w' := by
  have hd := nat_digs hn
  have := rnext_any ⟨t.toArray⟩ w (by rw [size_mk]; exact hs) (fun j hj => hd j (by rw [size_mk] at hj; exact hj))
  rwa [L_mk] at this
theorem rInt_f (t : List UInt8) (w : World) (hs : t.length ≤ 4294967295) :
    Calls Tryz.prog 26 #[.string ⟨t.toArray⟩, .int .i64 0, .int .i64 1000000000] w fun e w' => e = .returned (.tuple #[.int .i64 (Pl.iv t), .int .i64 (Pl.intE t 0 1000000000).1]) ∧ w = w' := by
  have := rInt_any ⟨t.toArray⟩ 0 1000000000 w (by rw [size_mk]; exact hs) (by decide) (by decide) (by decide) (by decide)
  rwa [L_mk] at this
theorem itoa_top : Lib.itoa 1000000000 = Pl.top := by
  rw [show (1000000000 : Int) = ((1000000000 : Nat) : Int) from rfl, Lib.itoa_nonneg]
  decide +kernel
/-- the last number so far -/
def lastOf (xs : List (List UInt8 × List UInt8)) : List UInt8 := match xs.getLast? with | none => [] | some x => x.2
theorem lastOf_snoc (xs : List (List UInt8 × List UInt8)) (x : List UInt8 × List UInt8) : lastOf (xs ++ [x]) = x.2 := by unfold lastOf; simp

set_option maxRecDepth 100000 in
set_option maxHeartbeats 8000000 in
theorem rParseList_any (t : List UInt8) (w : World) (hs : t.length ≤ 1000000000) :
    Calls Tryz.prog 8 #[.string ⟨t.toArray⟩] w (IntsOut (Pl.plist t) w) := by
  by_cases ht : t = [45]
  · subst ht
    go_enter Tryz.func8, Tryz.ntmps8
    go_wp2_with fail
    go_ret2
    exact intsG w w none 0 rfl (.inl rfl) (Below.refl _ _) _ rfl
  have ht2 : (t == [45]) = false := by simpa using ht
  have HSN : Hid (Pl.spans t = none → Pl.plist t = (6, [])) := Lib.hid (fun h => by unfold Pl.plist; rw [if_neg ht, h])
  have HSS : Hid (∀ xs x, Pl.spans t = some (xs ++ [x]) → Pl.plist t = if (Pl.intE x.2 0 1000000000).1 = 0 then Pl.numsF [] (xs ++ [x]) else ((Pl.intE x.2 0 1000000000).1, [])) := Lib.hid (fun xs x h => by
    unfold Pl.plist; rw [if_neg ht, h]; simp)
  have HSL : Hid (∀ xs, Pl.spans t = some xs → xs ≠ [] ∧ ∀ x ∈ xs, x.1.length ≤ t.length ∧ x.2.length ≤ t.length ∧ Pl.nat x.1 = true ∧ Pl.nat x.2 = true) := Lib.hid (fun xs h => ⟨Pl.spans_ne h, (spans_len h).2⟩)
  have K1 := fun w => rparts_f t 44 w (by omega)
  have hpl := Pl.segs_len 44 t
  have hpm := Pl.segs_mem_len 44 t
  have HSP : Hid (Pl.spans t = Pl.spansFrom none (Pl.segs 44 t)) := Lib.hid rfl
  obtain ⟨ps, hps⟩ : ∃ ps, Pl.segs 44 t = ps := ⟨_, rfl⟩
  rw [hps] at K1 hpl hpm HSP
  unfold StrsOut at K1
  have J1 := Lib.hid K1
  have HPM := Lib.hid hpm
  clear hps K1 hpm ht
  obtain ⟨i0, hi, hz0, hz1, hz2⟩ := info_parts infoSt
  obtain ⟨i1, hi1, hy0, hy1, hy2⟩ := info_parts infoI
  go_enter Tryz.func8, Tryz.ntmps8
  go_wp2_with fail
  refine (J1.out _).mono ?_
  rintro e w1 ⟨A, c, rfl, hst, hb1⟩
  have HST := Lib.hid hst
  have HB1 := Lib.hid hb1
  clear hst hb1
  go_wp2_with fail
  go_loopw [4, 5, 6, 8] (fun s1 v u i wr => ∃ (k : Nat) (xs : List (List UInt8 × List UInt8)), k ≤ ps.length ∧ i = .int .i64 k ∧ s1 = .string ⟨(lastOf xs).toArray⟩ ∧ wr.ownsRow w1.heap.size 9 1 v xs.length (strV (xs.map (·.1))) ∧ wr.ownsRow w1.heap.size 9 1 u xs.length (strV (xs.map (·.2))) ∧ Hid (Apart v u) ∧ Below w1.heap.size w1 wr ∧ Hid (Read ps k xs)) (fun _ _ _ i _ => ps.length - (intOf i).toNat)
  case atStart => exact ⟨0, [], Nat.zero_le _, rfl, rfl, World.ownsRow_nil _ _ _ _, World.ownsRow_nil _ _ _ _, Lib.hid (fun g h => by simp [Value.ownBlock] at h), Below.refl _ _, Lib.hid (Read.start ps)⟩
  case round =>
    obtain ⟨k, xs, hk, rfl, rfl, hov, hou, HAP, hb, HR⟩ := hrel
    have hsz := hb.size
    have HB := Lib.hid hb
    have hst := HST.out.below hb (Nat.le_refl _)
    have hxk : xs.length = k := HR.out.2.1
    clear hb
    by_cases hlt : k < ps.length
    · rcases hst with h0 | ⟨bp, offp, rfl, hbl, hc⟩
      · subst h0; simp at hlt
      have g0 := hc k hlt
      have l1 : (k : Int) < (ps.length : Int) := by omega
      have hpl2 := HPM.out _ (List.getElem_mem hlt)
      clear hc
      obtain ⟨p, hp⟩ : ∃ p, ps[k] = p := ⟨_, rfl⟩
      rw [hp] at g0 hpl2
      have HP := Lib.hid hp
      have K2 := fun w => rparts_f p 45 w (by omega)
      have hrs := Pl.rs_segs p
      have hno := Pl.segs_no 45 p
      have hml := Pl.segs_mem_len 45 p
      have hne := Pl.segs_ne 45 p
      obtain ⟨es, hes⟩ : ∃ es, Pl.segs 45 p = es := ⟨_, rfl⟩
      rw [hes] at K2 hrs hno hml hne
      unfold StrsOut at K2
      have J2 := Lib.hid K2
      have HRS := Lib.hid hrs
      clear hp K2 hes hrs
      have fin : Hid (Pl.rs p = none → Pl.plist t = (6, [])) := Lib.hid (fun h => HSN.out (HSP.out.trans (HR.out.none_ hlt (by rw [HP.out]; exact h))))
      go_wp2_with fail
      refine (J2.out _).mono ?_
      rintro e w2 ⟨A2, c2, rfl, hse, hb2⟩
      have hov2 := own_below hov hb2
      have hou2 := own_below hou hb2
      have HSE := Lib.hid hse
      have HB2 := Lib.hid (below_of HB.out hb2 (Nat.le_refl _))
      have hsz2 := hb2.size
      clear hse hb2 hov hou
      match es, hne, hno, hml, HRS, HSE, J2 with
      | [], hne, _, _, _, _, _ => exact absurd rfl hne
      | e0 :: e1 :: e2 :: er, _, hno, hml, HRS, HSE, _ =>
        have HF := Lib.hid (fin.out HRS.out)
        have hlen : (2 : Int) < ((e0 :: e1 :: e2 :: er).length : Int) := by simp; omega
        have hd : decide ((2 : Int) < ((e0 :: e1 :: e2 :: er).length : Int)) = true := by simpa using hlen
        obtain ⟨m, hm⟩ : ∃ m, (e0 :: e1 :: e2 :: er).length = m := ⟨_, rfl⟩
        rw [hm] at hlen hd
        rw [hm]
        clear hm
        go_wp2_with fail
        go_quiet (fail)
        go_wp2_with fail
        go_ret2
        exact intsG w _ none 0 HF.out (.inl rfl) (below_of HB1.out (below_drewN HB2.out _) (Nat.le_refl _)) _ rfl
      | [f], _, hno, hml, HRS, HSE, _ =>
        rcases HSE.out with h | ⟨be, offe, rfl, hel, hce⟩
        · cases h
        have c0 := hce 0 (by simp)
        replace c0 : w2.cell? ⟨be, offe, none⟩ = some (.string ⟨f.toArray⟩) := c0
        have hfl := hml f (by simp)
        have DF0 := fun w => dec_f f w (by omega) (hno f (by simp))
        clear hce
        cases hnf : Pl.nat f with
        | false =>
          have HF := Lib.hid (fin.out (HRS.out.trans (by show (if Pl.nat f = true then some (f, f) else none) = none; rw [hnf]; rfl)))
          rw [hnf] at DF0
          have DF := Lib.hid DF0
          clear DF0 hnf
          go_wp2_with fail
          go_quiet ((go_at_call 23; exact Calls.quiet_of_same (DF.out _)))
          go_wp2_with fail
          go_ret2
          exact intsG w _ none 0 HF.out (.inl rfl) (below_of HB1.out (below_drewN HB2.out _) (Nat.le_refl _)) _ rfl
        | true =>
          have HRX : Hid (Pl.rs p = some (f, f)) := Lib.hid (HRS.out.trans (by show (if Pl.nat f = true then some (f, f) else none) = _; rw [hnf]; rfl))
          rw [hnf] at DF0
          have DF := Lib.hid DF0
          clear DF0 hnf
          go_wp2_with fail
          go_quiet ((go_at_call 23; exact Calls.quiet_of_same (DF.out _)))
          go_wp2_with fail
          generalize hwz : World.drewN w2 _ = wz
          have hbz : Below w2.heap.size w2 wz := by rw [← hwz]; exact below_drewN' _
          have HVZ := Lib.hid (own_below hov2 hbz)
          have HUZ := Lib.hid (own_below hou2 hbz)
          have HBZ := Lib.hid (below_of HB2.out hbz (Nat.le_refl _))
          have c0 := keep1 hbz c0
          have hszz := HBZ.out.size
          clear hwz hbz hov2 hou2
          rcases snoc_or xs with hx0 | ⟨ys, y, hxy⟩
          · have hk0 : k = 0 := by rw [← hxk, hx0]; rfl
            have HNX : Hid (Read ps (k + 1) (xs ++ [(f, f)])) := Lib.hid (by have h := HR.out; rw [hx0] at h ⊢; exact h.first hlt (by rw [HP.out]; exact HRX.out) (by rw [HP.out]; omega))
            have hd0 : decide ((0 : Int) < (k : Int)) = false := by rw [decide_eq_false_iff_not]; omega
            have hd1 : ¬ (0 : Int) < (k : Int) := by omega
            have hd2 : ¬ 0 < k := by omega
            have hd3 : decide (0 < k) = false := by simpa using hd2
            clear hx0 hk0
            go_quiet (fail)
            skip
            generalize hwy : World.drewN wz _ = wy
            have hby : Below wz.heap.size wz wy := by rw [← hwy]; exact below_drewN' _
            have HVY := Lib.hid (own_below HVZ.out hby)
            have HUY := Lib.hid (own_below HUZ.out hby)
            have HBY := Lib.hid (below_of HBZ.out hby (Nat.le_refl _))
            have c0 := keep1 hby c0
            clear hwy hby
            have N1 := Lib.hid (cell_one_str wy (.string ⟨f.toArray⟩))
            have hsy := HBY.out.size
            go_wp2_with (first
              | (at_builtin; refine wpList_append_own_at _ rfl (.tmp 81) (.tmp 85) 42 rfl w1.heap.size 9 i0 (.string ⟨#[]⟩) 1 16 Tryz.underlying42 hi hz0 hz1 hz2 rfl (by decide) _ xs.length _ rfl (HVY.out.alloc _) ⟨wy.heap.size, 0, none⟩ 1 1 [.string ⟨f.toArray⟩] rfl rfl N1.out (by simp [Value.oneCell']) (by unfold maxLen; omega) (by omega) (by simp; omega) ?_; intro v3 w3 hown3 hg3 _ hblk; have hu3 := own_other (HUY.out.alloc (.cells #[.string ⟨f.toArray⟩] 9)) hg3 (fun g hg e => HAP.out g e hg); have hap3 := apart_left HAP.out HUY.out hblk; have hb3 := (HBY.out.alloc hsy (.cells #[.string ⟨f.toArray⟩] 9)).grown hg3 (by simp; omega) (fun g hg => (HVY.out.lt g hg).1); have HB3 := Lib.hid hb3; have HV3 := Lib.hid hown3; have HU3 := Lib.hid hu3; have HAP3 := Lib.hid hap3; have hs3 := hb3.size; have N2 := Lib.hid (cell_one_str w3 (.string ⟨f.toArray⟩)); clear hg3 hb3 hown3 hu3 hap3 hblk)
              | (at_builtin; refine wpList_append_own_at _ rfl (.tmp 87) (.tmp 89) 42 rfl w1.heap.size 9 i0 (.string ⟨#[]⟩) 1 16 Tryz.underlying42 hi hz0 hz1 hz2 rfl (by decide) _ xs.length _ rfl (HU3.out.alloc _) ⟨w3.heap.size, 0, none⟩ 1 1 [.string ⟨f.toArray⟩] rfl rfl N2.out (by simp [Value.oneCell']) (by unfold maxLen; omega) (by omega) (by simp; omega) ?_; intro u3 w4 hown4 hg4 _ hblk; have hv4 := own_other (HV3.out.alloc (.cells #[.string ⟨f.toArray⟩] 9)) hg4 (fun g hg e => HAP3.out g hg e); have hap4 := apart_right HAP3.out HV3.out hblk; have hb4 := (HB3.out.alloc hs3 (.cells #[.string ⟨f.toArray⟩] 9)).grown hg4 (by simp; omega) (fun g hg => (HU3.out.lt g hg).1); have HB4 := Lib.hid hb4; have HU4 := Lib.hid hown4; have HV4 := Lib.hid hv4; have HAP4 := Lib.hid hap4; clear hg4 hb4 hown4 hv4 hap4 hblk))
            go_roundw
            case rel => exact ⟨k + 1, xs ++ [(f, f)], by omega, by go_num, by rw [lastOf_snoc], by rw [List.map_append, List.length_append, List.map_cons, List.map_nil, strV_snoc]; exact HV4.out, by rw [List.map_append, List.length_append, List.map_cons, List.map_nil, strV_snoc]; exact HU4.out, HAP4, HB4.out, HNX⟩
            case measure => simp [intOf]; omega
          · obtain ⟨y1, y2⟩ := y
            have hlo : lastOf xs = y2 := by rw [hxy, lastOf_snoc]
            have hyy := HR.out.2.2 (y1, y2) (by rw [hxy]; simp)
            have hkp : 0 < k := by rw [← hxk, hxy]; simp
            have hd0 : decide ((0 : Int) < (k : Int)) = true := by rw [decide_eq_true_eq]; omega
            have hd1 : (0 : Int) < (k : Int) := by omega
            have hd2 : 0 < k := hkp
            have hd3 : decide (0 < k) = true := by simpa using hd2
            have JN := Lib.hid (fun w => rnext_f y2 w (by have := hyy.2.2.1; simp only at this; omega) hyy.1)
            have hsl : (Pl.suc y2).length ≤ 4000000000 := by have := Pl.suc_len y2; have := hyy.2.2.1; simp only at this; omega
            rw [hlo]
            cases hle : Pl.lessB (Pl.suc y2) f with
            | false =>
              have K4 : ∀ w, Calls Tryz.prog 24 #[.string ⟨(Pl.suc y2).toArray⟩, .string ⟨f.toArray⟩] w fun e w' => e = .returned (.bool false) ∧ w = w' := fun w => by
                have h := rless_f (Pl.suc y2) f w (by omega) (by omega)
                rw [hle] at h
                exact h.mono fun e w' ⟨h1, h2⟩ => ⟨h1, h2.symm⟩
              have J4 := Lib.hid K4
              have HF : Hid (Pl.plist t = (6, [])) := Lib.hid (HSN.out (HSP.out.trans (by have h := HR.out; rw [hxy] at h; exact h.bad hlt (by rw [HP.out]; exact HRX.out) hle)))
              clear K4 hle hlo hyy hxy hkp
              go_region_held3 (fun w' => w'.cell? ⟨be, offe, none⟩ = some (.string ⟨f.toArray⟩))
                (first | go_keep | (exact keep1 (undrew (by assumption)) c0) | (exact keep1 (by assumption) (by assumption)))
                (first | (go_at_call 25; refine (JN.out _).mono ?_; rintro e w5 ⟨rfl, hb5⟩) | (go_at_call 24; refine (J4.out _).mono ?_; rintro e w6 ⟨rfl, rfl⟩))
              all_goals
                go_wp2_with fail
                go_ret2
                first | exact intsG w _ none 0 HF.out (.inl rfl) (below_of HB1.out (below_of HBZ.out (undrew hb5) (Nat.le_refl _)) (Nat.le_refl _)) _ rfl | exact intsG w _ none 0 HF.out (.inl rfl) (below_of HB1.out (below_of HBZ.out hb5 (Nat.le_refl _)) (Nat.le_refl _)) _ rfl | exact intsG w _ none 0 HF.out (.inl rfl) (below_of HB1.out (redrew (below_of HBZ.out hb5 (Nat.le_refl _))) (Nat.le_refl _)) _ rfl
            | true =>
              have K4 : ∀ w, Calls Tryz.prog 24 #[.string ⟨(Pl.suc y2).toArray⟩, .string ⟨f.toArray⟩] w fun e w' => e = .returned (.bool true) ∧ w = w' := fun w => by
                have h := rless_f (Pl.suc y2) f w (by omega) (by omega)
                rw [hle] at h
                exact h.mono fun e w' ⟨h1, h2⟩ => ⟨h1, h2.symm⟩
              have J4 := Lib.hid K4
              have HNX : Hid (Read ps (k + 1) (xs ++ [(f, f)])) := Lib.hid (by have h := HR.out; rw [hxy] at h ⊢; exact h.next hlt (by rw [HP.out]; exact HRX.out) hle (by rw [HP.out]; omega))
              clear K4 hle hlo hyy hxy hkp
              go_region_held3 (fun w' => w'.cell? ⟨be, offe, none⟩ = some (.string ⟨f.toArray⟩))
                (first | go_keep | (exact keep1 (undrew (by assumption)) c0) | (exact keep1 (by assumption) (by assumption)))
                (first | (go_at_call 25; refine (JN.out _).mono ?_; rintro e w5 ⟨rfl, hb5⟩) | (go_at_call 24; refine (J4.out _).mono ?_; rintro e w6 ⟨rfl, rfl⟩))
              all_goals
                have hb5' := undrew hb5
                generalize hwy : w5 = wy at *
                have HVY := Lib.hid (own_below HVZ.out hb5')
                have HUY := Lib.hid (own_below HUZ.out hb5')
                have HBY := Lib.hid (below_of HBZ.out hb5' (Nat.le_refl _))
                have c0 := keep1 hb5' c0
                clear hb5 hb5' hwy
                have N1 := Lib.hid (cell_one_str wy (.string ⟨f.toArray⟩))
                have hsy := HBY.out.size
                go_wp2_with (first
                  | (at_builtin; refine wpList_append_own_at _ rfl (.tmp 81) (.tmp 85) 42 rfl w1.heap.size 9 i0 (.string ⟨#[]⟩) 1 16 Tryz.underlying42 hi hz0 hz1 hz2 rfl (by decide) _ xs.length _ rfl (HVY.out.alloc _) ⟨wy.heap.size, 0, none⟩ 1 1 [.string ⟨f.toArray⟩] rfl rfl N1.out (by simp [Value.oneCell']) (by unfold maxLen; omega) (by omega) (by simp; omega) ?_; intro v3 w3 hown3 hg3 _ hblk; have hu3 := own_other (HUY.out.alloc (.cells #[.string ⟨f.toArray⟩] 9)) hg3 (fun g hg e => HAP.out g e hg); have hap3 := apart_left HAP.out HUY.out hblk; have hb3 := (HBY.out.alloc hsy (.cells #[.string ⟨f.toArray⟩] 9)).grown hg3 (by simp; omega) (fun g hg => (HVY.out.lt g hg).1); have HB3 := Lib.hid hb3; have HV3 := Lib.hid hown3; have HU3 := Lib.hid hu3; have HAP3 := Lib.hid hap3; have hs3 := hb3.size; have N2 := Lib.hid (cell_one_str w3 (.string ⟨f.toArray⟩)); clear hg3 hb3 hown3 hu3 hap3 hblk)
                  | (at_builtin; refine wpList_append_own_at _ rfl (.tmp 87) (.tmp 89) 42 rfl w1.heap.size 9 i0 (.string ⟨#[]⟩) 1 16 Tryz.underlying42 hi hz0 hz1 hz2 rfl (by decide) _ xs.length _ rfl (HU3.out.alloc _) ⟨w3.heap.size, 0, none⟩ 1 1 [.string ⟨f.toArray⟩] rfl rfl N2.out (by simp [Value.oneCell']) (by unfold maxLen; omega) (by omega) (by simp; omega) ?_; intro u3 w4 hown4 hg4 _ hblk; have hv4 := own_other (HV3.out.alloc (.cells #[.string ⟨f.toArray⟩] 9)) hg4 (fun g hg e => HAP3.out g hg e); have hap4 := apart_right HAP3.out HV3.out hblk; have hb4 := (HB3.out.alloc hs3 (.cells #[.string ⟨f.toArray⟩] 9)).grown hg4 (by simp; omega) (fun g hg => (HU3.out.lt g hg).1); have HB4 := Lib.hid hb4; have HU4 := Lib.hid hown4; have HV4 := Lib.hid hv4; have HAP4 := Lib.hid hap4; clear hg4 hb4 hown4 hv4 hap4 hblk))
                go_roundw
                case rel => exact ⟨k + 1, xs ++ [(f, f)], by omega, by go_num, by rw [lastOf_snoc], by rw [List.map_append, List.length_append, List.map_cons, List.map_nil, strV_snoc]; exact HV4.out, by rw [List.map_append, List.length_append, List.map_cons, List.map_nil, strV_snoc]; exact HU4.out, HAP4, HB4.out, HNX⟩
                case measure => simp [intOf]; omega
      | [f, g], _, hno, hml, HRS, HSE, _ =>
        rcases HSE.out with h | ⟨be, offe, rfl, hel, hce⟩
        · cases h
        have c0 := hce 0 (by simp)
        replace c0 : w2.cell? ⟨be, offe, none⟩ = some (.string ⟨f.toArray⟩) := c0
        have c1 := hce 1 (by simp)
        replace c1 : w2.cell? ⟨be, offe + 1, none⟩ = some (.string ⟨g.toArray⟩) := c1
        have hfl := hml f (by simp)
        have hgl := hml g (by simp)
        have DF0 := fun w => dec_f f w (by omega) (hno f (by simp))
        have DG0 := fun w => dec_f g w (by omega) (hno g (by simp))
        have LE0 := fun w => rless_f f g w (by omega) (by omega)
        clear hce
        cases hnf : Pl.nat f with
        | false =>
          have HF := Lib.hid (fin.out (HRS.out.trans (by show (if Pl.nat f = true ∧ Pl.nat g = true ∧ Pl.lessB f g = true then some (f, g) else none) = _; rw [if_neg (by rw [hnf]; exact fun h => by cases h.1)])))
          rw [hnf] at DF0
          have DF := Lib.hid DF0
          have DG := Lib.hid DG0
          clear DF0 DG0 LE0 hnf
          go_wp2_with fail
          go_quiet ((first | (go_at_call_of 23 (Value.string ⟨f.toArray⟩); exact Calls.quiet_of_same (DF.out _)) | (go_at_call_of 23 (Value.string ⟨g.toArray⟩); exact Calls.quiet_of_same (DG.out _))))
          go_wp2_with fail
          go_ret2
          exact intsG w _ none 0 HF.out (.inl rfl) (below_of HB1.out (below_drewN HB2.out _) (Nat.le_refl _)) _ rfl
        | true =>
          cases hng : Pl.nat g with
          | false =>
            have HF := Lib.hid (fin.out (HRS.out.trans (by show (if Pl.nat f = true ∧ Pl.nat g = true ∧ Pl.lessB f g = true then some (f, g) else none) = _; rw [if_neg (by rw [hng]; exact fun h => by cases h.2.1)])))
            rw [hnf] at DF0
            rw [hng] at DG0
            have DF := Lib.hid DF0
            have DG := Lib.hid DG0
            clear DF0 DG0 LE0 hnf hng
            go_wp2_with fail
            go_quiet ((first | (go_at_call_of 23 (Value.string ⟨f.toArray⟩); exact Calls.quiet_of_same (DF.out _)) | (go_at_call_of 23 (Value.string ⟨g.toArray⟩); exact Calls.quiet_of_same (DG.out _))))
            go_wp2_with fail
            go_ret2
            exact intsG w _ none 0 HF.out (.inl rfl) (below_of HB1.out (below_drewN HB2.out _) (Nat.le_refl _)) _ rfl
          | true =>
            cases hlf : Pl.lessB f g with
            | false =>
              have HF := Lib.hid (fin.out (HRS.out.trans (by show (if Pl.nat f = true ∧ Pl.nat g = true ∧ Pl.lessB f g = true then some (f, g) else none) = _; rw [if_neg (by rw [hlf]; exact fun h => by cases h.2.2)])))
              rw [hnf] at DF0
              rw [hng] at DG0
              rw [hlf] at LE0
              have DF := Lib.hid DF0
              have DG := Lib.hid DG0
              have LE := Lib.hid LE0
              clear DF0 DG0 LE0 hnf hng hlf
              go_wp2_with fail
              go_quiet ((first | (go_at_call_of 23 (Value.string ⟨f.toArray⟩); exact Calls.quiet_of_same (DF.out _)) | (go_at_call_of 23 (Value.string ⟨g.toArray⟩); exact Calls.quiet_of_same (DG.out _)) | (go_at_call 24; exact Calls.quiet_of_same (LE.out _))))
              go_wp2_with fail
              go_ret2
              exact intsG w _ none 0 HF.out (.inl rfl) (below_of HB1.out (below_drewN HB2.out _) (Nat.le_refl _)) _ rfl
            | true =>
              have HRX : Hid (Pl.rs p = some (f, g)) := Lib.hid (HRS.out.trans (by show (if Pl.nat f = true ∧ Pl.nat g = true ∧ Pl.lessB f g = true then some (f, g) else none) = _; rw [if_pos ⟨hnf, hng, hlf⟩]))
              rw [hnf] at DF0
              rw [hng] at DG0
              rw [hlf] at LE0
              have DF := Lib.hid DF0
              have DG := Lib.hid DG0
              have LE := Lib.hid LE0
              clear DF0 DG0 LE0 hnf hng hlf
              go_wp2_with fail
              go_quiet ((first | (go_at_call_of 23 (Value.string ⟨f.toArray⟩); exact Calls.quiet_of_same (DF.out _)) | (go_at_call_of 23 (Value.string ⟨g.toArray⟩); exact Calls.quiet_of_same (DG.out _)) | (go_at_call 24; exact Calls.quiet_of_same (LE.out _))))
              go_wp2_with fail
              generalize hwz : World.drewN w2 _ = wz
              have hbz : Below w2.heap.size w2 wz := by rw [← hwz]; exact below_drewN' _
              have HVZ := Lib.hid (own_below hov2 hbz)
              have HUZ := Lib.hid (own_below hou2 hbz)
              have HBZ := Lib.hid (below_of HB2.out hbz (Nat.le_refl _))
              have c0 := keep1 hbz c0
              have c1 := keep1 hbz c1
              have hszz := HBZ.out.size
              clear hwz hbz hov2 hou2
              rcases snoc_or xs with hx0 | ⟨ys, y, hxy⟩
              · have hk0 : k = 0 := by rw [← hxk, hx0]; rfl
                have HNX : Hid (Read ps (k + 1) (xs ++ [(f, g)])) := Lib.hid (by have h := HR.out; rw [hx0] at h ⊢; exact h.first hlt (by rw [HP.out]; exact HRX.out) (by rw [HP.out]; omega))
                have hd0 : decide ((0 : Int) < (k : Int)) = false := by rw [decide_eq_false_iff_not]; omega
                have hd1 : ¬ (0 : Int) < (k : Int) := by omega
                have hd2 : ¬ 0 < k := by omega
                have hd3 : decide (0 < k) = false := by simpa using hd2
                clear hx0 hk0
                go_quiet (fail)
                skip
                generalize hwy : World.drewN wz _ = wy
                have hby : Below wz.heap.size wz wy := by rw [← hwy]; exact below_drewN' _
                have HVY := Lib.hid (own_below HVZ.out hby)
                have HUY := Lib.hid (own_below HUZ.out hby)
                have HBY := Lib.hid (below_of HBZ.out hby (Nat.le_refl _))
                have c0 := keep1 hby c0
                have c1 := keep1 hby c1
                clear hwy hby
                have N1 := Lib.hid (cell_one_str wy (.string ⟨f.toArray⟩))
                have hsy := HBY.out.size
                go_wp2_with (first
                  | (at_builtin; refine wpList_append_own_at _ rfl (.tmp 81) (.tmp 85) 42 rfl w1.heap.size 9 i0 (.string ⟨#[]⟩) 1 16 Tryz.underlying42 hi hz0 hz1 hz2 rfl (by decide) _ xs.length _ rfl (HVY.out.alloc _) ⟨wy.heap.size, 0, none⟩ 1 1 [.string ⟨f.toArray⟩] rfl rfl N1.out (by simp [Value.oneCell']) (by unfold maxLen; omega) (by omega) (by simp; omega) ?_; intro v3 w3 hown3 hg3 _ hblk; have hu3 := own_other (HUY.out.alloc (.cells #[.string ⟨f.toArray⟩] 9)) hg3 (fun g hg e => HAP.out g e hg); have hap3 := apart_left HAP.out HUY.out hblk; have hb3 := (HBY.out.alloc hsy (.cells #[.string ⟨f.toArray⟩] 9)).grown hg3 (by simp; omega) (fun g hg => (HVY.out.lt g hg).1); have HB3 := Lib.hid hb3; have HV3 := Lib.hid hown3; have HU3 := Lib.hid hu3; have HAP3 := Lib.hid hap3; have hs3 := hb3.size; have N2 := Lib.hid (cell_one_str w3 (.string ⟨g.toArray⟩)); clear hg3 hb3 hown3 hu3 hap3 hblk)
                  | (at_builtin; refine wpList_append_own_at _ rfl (.tmp 87) (.tmp 89) 42 rfl w1.heap.size 9 i0 (.string ⟨#[]⟩) 1 16 Tryz.underlying42 hi hz0 hz1 hz2 rfl (by decide) _ xs.length _ rfl (HU3.out.alloc _) ⟨w3.heap.size, 0, none⟩ 1 1 [.string ⟨g.toArray⟩] rfl rfl N2.out (by simp [Value.oneCell']) (by unfold maxLen; omega) (by omega) (by simp; omega) ?_; intro u3 w4 hown4 hg4 _ hblk; have hv4 := own_other (HV3.out.alloc (.cells #[.string ⟨g.toArray⟩] 9)) hg4 (fun g hg e => HAP3.out g hg e); have hap4 := apart_right HAP3.out HV3.out hblk; have hb4 := (HB3.out.alloc hs3 (.cells #[.string ⟨g.toArray⟩] 9)).grown hg4 (by simp; omega) (fun g hg => (HU3.out.lt g hg).1); have HB4 := Lib.hid hb4; have HU4 := Lib.hid hown4; have HV4 := Lib.hid hv4; have HAP4 := Lib.hid hap4; clear hg4 hb4 hown4 hv4 hap4 hblk))
                go_roundw
                case rel => exact ⟨k + 1, xs ++ [(f, g)], by omega, by go_num, by rw [lastOf_snoc], by rw [List.map_append, List.length_append, List.map_cons, List.map_nil, strV_snoc]; exact HV4.out, by rw [List.map_append, List.length_append, List.map_cons, List.map_nil, strV_snoc]; exact HU4.out, HAP4, HB4.out, HNX⟩
                case measure => simp [intOf]; omega
              · obtain ⟨y1, y2⟩ := y
                have hlo : lastOf xs = y2 := by rw [hxy, lastOf_snoc]
                have hyy := HR.out.2.2 (y1, y2) (by rw [hxy]; simp)
                have hkp : 0 < k := by rw [← hxk, hxy]; simp
                have hd0 : decide ((0 : Int) < (k : Int)) = true := by rw [decide_eq_true_eq]; omega
                have hd1 : (0 : Int) < (k : Int) := by omega
                have hd2 : 0 < k := hkp
                have hd3 : decide (0 < k) = true := by simpa using hd2
                have JN := Lib.hid (fun w => rnext_f y2 w (by have := hyy.2.2.1; simp only at this; omega) hyy.1)
                have hsl : (Pl.suc y2).length ≤ 4000000000 := by have := Pl.suc_len y2; have := hyy.2.2.1; simp only at this; omega
                rw [hlo]
                cases hle : Pl.lessB (Pl.suc y2) f with
                | false =>
                  have K4 : ∀ w, Calls Tryz.prog 24 #[.string ⟨(Pl.suc y2).toArray⟩, .string ⟨f.toArray⟩] w fun e w' => e = .returned (.bool false) ∧ w = w' := fun w => by
                    have h := rless_f (Pl.suc y2) f w (by omega) (by omega)
                    rw [hle] at h
                    exact h.mono fun e w' ⟨h1, h2⟩ => ⟨h1, h2.symm⟩
                  have J4 := Lib.hid K4
                  have HF : Hid (Pl.plist t = (6, [])) := Lib.hid (HSN.out (HSP.out.trans (by have h := HR.out; rw [hxy] at h; exact h.bad hlt (by rw [HP.out]; exact HRX.out) hle)))
                  clear K4 hle hlo hyy hxy hkp
                  go_region_held3 (fun w' => w'.cell? ⟨be, offe, none⟩ = some (.string ⟨f.toArray⟩))
                    (first | go_keep | (exact keep1 (undrew (by assumption)) c0) | (exact keep1 (by assumption) (by assumption)))
                    (first | (go_at_call 25; refine (JN.out _).mono ?_; rintro e w5 ⟨rfl, hb5⟩) | (go_at_call 24; refine (J4.out _).mono ?_; rintro e w6 ⟨rfl, rfl⟩))
                  all_goals
                    go_wp2_with fail
                    go_ret2
                    first | exact intsG w _ none 0 HF.out (.inl rfl) (below_of HB1.out (below_of HBZ.out (undrew hb5) (Nat.le_refl _)) (Nat.le_refl _)) _ rfl | exact intsG w _ none 0 HF.out (.inl rfl) (below_of HB1.out (below_of HBZ.out hb5 (Nat.le_refl _)) (Nat.le_refl _)) _ rfl | exact intsG w _ none 0 HF.out (.inl rfl) (below_of HB1.out (redrew (below_of HBZ.out hb5 (Nat.le_refl _))) (Nat.le_refl _)) _ rfl
                | true =>
                  have K4 : ∀ w, Calls Tryz.prog 24 #[.string ⟨(Pl.suc y2).toArray⟩, .string ⟨f.toArray⟩] w fun e w' => e = .returned (.bool true) ∧ w = w' := fun w => by
                    have h := rless_f (Pl.suc y2) f w (by omega) (by omega)
                    rw [hle] at h
                    exact h.mono fun e w' ⟨h1, h2⟩ => ⟨h1, h2.symm⟩
                  have J4 := Lib.hid K4
                  have HNX : Hid (Read ps (k + 1) (xs ++ [(f, g)])) := Lib.hid (by have h := HR.out; rw [hxy] at h ⊢; exact h.next hlt (by rw [HP.out]; exact HRX.out) hle (by rw [HP.out]; omega))
                  clear K4 hle hlo hyy hxy hkp
                  go_region_held3 (fun w' => w'.cell? ⟨be, offe, none⟩ = some (.string ⟨f.toArray⟩))
                    (first | go_keep | (exact keep1 (undrew (by assumption)) c0) | (exact keep1 (by assumption) (by assumption)))
                    (first | (go_at_call 25; refine (JN.out _).mono ?_; rintro e w5 ⟨rfl, hb5⟩) | (go_at_call 24; refine (J4.out _).mono ?_; rintro e w6 ⟨rfl, rfl⟩))
                  all_goals
                    have hb5' := undrew hb5
                    generalize hwy : w5 = wy at *
                    have HVY := Lib.hid (own_below HVZ.out hb5')
                    have HUY := Lib.hid (own_below HUZ.out hb5')
                    have HBY := Lib.hid (below_of HBZ.out hb5' (Nat.le_refl _))
                    have c0 := keep1 hb5' c0
                    have c1 := keep1 hb5' c1
                    clear hb5 hb5' hwy
                    have N1 := Lib.hid (cell_one_str wy (.string ⟨f.toArray⟩))
                    have hsy := HBY.out.size
                    go_wp2_with (first
                      | (at_builtin; refine wpList_append_own_at _ rfl (.tmp 81) (.tmp 85) 42 rfl w1.heap.size 9 i0 (.string ⟨#[]⟩) 1 16 Tryz.underlying42 hi hz0 hz1 hz2 rfl (by decide) _ xs.length _ rfl (HVY.out.alloc _) ⟨wy.heap.size, 0, none⟩ 1 1 [.string ⟨f.toArray⟩] rfl rfl N1.out (by simp [Value.oneCell']) (by unfold maxLen; omega) (by omega) (by simp; omega) ?_; intro v3 w3 hown3 hg3 _ hblk; have hu3 := own_other (HUY.out.alloc (.cells #[.string ⟨f.toArray⟩] 9)) hg3 (fun g hg e => HAP.out g e hg); have hap3 := apart_left HAP.out HUY.out hblk; have hb3 := (HBY.out.alloc hsy (.cells #[.string ⟨f.toArray⟩] 9)).grown hg3 (by simp; omega) (fun g hg => (HVY.out.lt g hg).1); have HB3 := Lib.hid hb3; have HV3 := Lib.hid hown3; have HU3 := Lib.hid hu3; have HAP3 := Lib.hid hap3; have hs3 := hb3.size; have N2 := Lib.hid (cell_one_str w3 (.string ⟨g.toArray⟩)); clear hg3 hb3 hown3 hu3 hap3 hblk)
                      | (at_builtin; refine wpList_append_own_at _ rfl (.tmp 87) (.tmp 89) 42 rfl w1.heap.size 9 i0 (.string ⟨#[]⟩) 1 16 Tryz.underlying42 hi hz0 hz1 hz2 rfl (by decide) _ xs.length _ rfl (HU3.out.alloc _) ⟨w3.heap.size, 0, none⟩ 1 1 [.string ⟨g.toArray⟩] rfl rfl N2.out (by simp [Value.oneCell']) (by unfold maxLen; omega) (by omega) (by simp; omega) ?_; intro u3 w4 hown4 hg4 _ hblk; have hv4 := own_other (HV3.out.alloc (.cells #[.string ⟨g.toArray⟩] 9)) hg4 (fun g hg e => HAP3.out g hg e); have hap4 := apart_right HAP3.out HV3.out hblk; have hb4 := (HB3.out.alloc hs3 (.cells #[.string ⟨g.toArray⟩] 9)).grown hg4 (by simp; omega) (fun g hg => (HU3.out.lt g hg).1); have HB4 := Lib.hid hb4; have HU4 := Lib.hid hown4; have HV4 := Lib.hid hv4; have HAP4 := Lib.hid hap4; clear hg4 hb4 hown4 hv4 hap4 hblk))
                    go_roundw
                    case rel => exact ⟨k + 1, xs ++ [(f, g)], by omega, by go_num, by rw [lastOf_snoc], by rw [List.map_append, List.length_append, List.map_cons, List.map_nil, strV_snoc]; exact HV4.out, by rw [List.map_append, List.length_append, List.map_cons, List.map_nil, strV_snoc]; exact HU4.out, HAP4, HB4.out, HNX⟩
                    case measure => simp [intOf]; omega
    · have hdn := HR.out.done (by omega)
      have hspan := HSP.out.trans hdn
      obtain ⟨hne, hall⟩ := HSL.out xs hspan
      rcases snoc_or xs with h | ⟨ys, y, hxy⟩
      · exact absurd h hne
      have hpl3 := HSS.out ys y (by rw [← hxy]; exact hspan)
      rw [← hxy] at hpl3
      have hlo : lastOf xs = y.2 := by rw [hxy, lastOf_snoc]
      have hyy := hall y (by rw [hxy]; simp)
      obtain ⟨y1, y2⟩ := y
      replace hyy : y1.length ≤ t.length ∧ y2.length ≤ t.length ∧ Pl.nat y1 = true ∧ Pl.nat y2 = true := hyy
      replace hlo : lastOf xs = y2 := hlo
      replace hpl3 : Pl.plist t = if (Pl.intE y2 0 1000000000).1 = 0 then Pl.numsF [] xs else ((Pl.intE y2 0 1000000000).1, []) := hpl3
      have hie := Pl.intE_nat hyy.2.2.2
      rw [hlo]
      have HXL : Hid (∀ x ∈ xs, x.1.length ≤ 1000000000 ∧ x.2.length ≤ 1000000000) := Lib.hid fun x hx => by have := hall x hx; exact ⟨by omega, by omega⟩
      have JD := Lib.hid (fun w => by have h := rDigits_any 1000000000 w (by decide) (by decide); rw [itoa_top] at h; exact h)
      obtain ⟨tp, htp⟩ : ∃ tp, Pl.top = tp := ⟨_, rfl⟩
      have hlt9 := Pl.less_top hyy.2.2.2
      have htl : Pl.top.length ≤ 4294967295 := by decide
      rw [htp] at JD hlt9 htl
      clear htp hdn hspan hall hne hst hxy hlo
      by_cases hbig : 1000000000 < Pl.dval 0 y2
      · rw [decide_eq_true hbig] at hlt9
        rw [if_neg (by omega)] at hie
        have HF : Hid (Pl.plist t = (7, [])) := Lib.hid (by rw [hpl3, hie]; rfl)
        have K4 : ∀ w, Calls Tryz.prog 24 #[.string ⟨tp.toArray⟩, .string ⟨y2.toArray⟩] w fun e w' => e = .returned (.bool true) ∧ w = w' := fun w => by
          have h := rless_f tp y2 w htl (by omega)
          rw [hlt9] at h
          exact h.mono fun e w' ⟨h1, h2⟩ => ⟨h1, h2.symm⟩
        have J4 := Lib.hid K4
        clear K4 hlt9 hpl3 hie hbig hyy
        go_wp2_with fail
        refine (JD.out _).mono ?_
        rintro e w2 ⟨rfl, hb2⟩
        have HB2 := Lib.hid (below_of HB.out hb2 (Nat.le_refl _))
        clear hb2
        go_wp2_with fail
        refine (J4.out _).mono ?_
        rintro e w' ⟨rfl, rfl⟩
        go_wp2_with fail
        go_ret2
        exact intsG w _ none 0 HF.out (.inl rfl) (below_of HB1.out HB2.out (Nat.le_refl _)) _ rfl
      · rw [decide_eq_false hbig] at hlt9
        rw [if_pos (by omega)] at hie
        have HF : Hid (Pl.plist t = Pl.numsF [] xs) := Lib.hid (by rw [hpl3, hie]; rfl)
        have K4 : ∀ w, Calls Tryz.prog 24 #[.string ⟨tp.toArray⟩, .string ⟨y2.toArray⟩] w fun e w' => e = .returned (.bool false) ∧ w = w' := fun w => by
          have h := rless_f tp y2 w htl (by omega)
          rw [hlt9] at h
          exact h.mono fun e w' ⟨h1, h2⟩ => ⟨h1, h2.symm⟩
        have J4 := Lib.hid K4
        clear K4 hlt9 hpl3 hie hbig hyy
        go_wp2_with fail
        refine (JD.out _).mono ?_
        rintro e w2 ⟨rfl, hb2⟩
        have hv2 := own_below hov hb2
        have hu2 := own_below hou hb2
        have HB2 := Lib.hid (below_of HB1.out (below_of HB.out hb2 (Nat.le_refl _)) (Nat.le_refl _))
        clear hb2 hov hou
        have ea : xs.length = (xs.map (·.1)).length := by simp
        have eb : xs.length = (xs.map (·.2)).length := by simp
        obtain ⟨Av, cv, hvv⟩ := own_slice hv2
        obtain ⟨Au, cu, huu⟩ := own_slice hu2
        subst hvv huu
        have HSV : Hid (StrsAt w2 Av (xs.map (·.1))) := Lib.hid (StrsAt.of_own (c := cv) (by rw [← ea]; exact hv2))
        have HSU : Hid (StrsAt w2 Au (xs.map (·.2))) := Lib.hid (StrsAt.of_own (c := cu) (by rw [← eb]; exact hu2))
        clear ea eb hv2 hu2
        go_wp2_with fail
        refine (J4.out _).mono ?_
        rintro e w' ⟨rfl, rfl⟩
        go_wp2_with fail
        have hkp : k = ps.length := by omega
        have HKP := Lib.hid hkp
        clear hkp
        go_loopw [10, 11] (fun v i wx => ∃ (j : Nat) (acc : List Int), j ≤ ps.length ∧ i = .int .i64 j ∧ acc.length ≤ 500 ∧ wx.ownsRow w2.heap.size 3 1 v acc.length (intV acc) ∧ Below w2.heap.size w2 wx ∧ Hid (Pl.numsF [] xs = Pl.numsF acc (xs.drop j))) (fun _ i _ => ps.length - (intOf i).toNat)
        case atStart => exact ⟨0, [], Nat.zero_le _, rfl, Nat.zero_le _, World.ownsRow_nil _ _ _ _, Below.refl _ _, Lib.hid rfl⟩
        case round =>
          obtain ⟨j, acc, hj, rfl, hacc, hown, hb, HN⟩ := hrel
          have hsz5 := hb.size
          have HB5 := Lib.hid hb
          have hsv := HSV.out.below hb (Nat.le_refl _)
          have hsu := HSU.out.below hb (Nat.le_refl _)
          clear hb
          by_cases hjl : j < ps.length
          · have hjx : j < xs.length := by have := HKP.out; omega
            rcases hsv with h0 | ⟨bv, ofv, rfl, hbv, hcv⟩
            · exfalso
              rw [List.map_eq_nil_iff] at h0
              subst h0; simp at hjx
            rcases hsu with h0 | ⟨bu, ofu, rfl, hbu, hcu⟩
            · exfalso
              rw [List.map_eq_nil_iff] at h0
              subst h0; simp at hjx
            have g0 := hcv j (by simpa using hjx)
            have g1 := hcu j (by simpa using hjx)
            rw [List.getElem_map] at g0 g1
            have hxx := HXL.out xs[j] (List.getElem_mem hjx)
            obtain ⟨⟨x1, x2⟩, hx⟩ : ∃ y, xs[j] = y := ⟨_, rfl⟩
            rw [hx] at g0 g1 hxx
            replace hxx : x1.length ≤ 1000000000 ∧ x2.length ≤ 1000000000 := hxx
            replace g0 : wr.cell? ⟨bv, ofv + j, none⟩ = some (.string ⟨x1.toArray⟩) := g0
            replace g1 : wr.cell? ⟨bu, ofu + j, none⟩ = some (.string ⟨x2.toArray⟩) := g1
            have HN2 : Hid (Pl.numsF [] xs = if (500 : Int) - acc.length ≤ Pl.iv x2 - Pl.iv x1 then (3, []) else Pl.numsF (acc ++ Pl.from_ (Pl.iv x1) (Pl.cnt (x1, x2))) (xs.drop (j + 1))) := Lib.hid (by
              rw [HN.out, List.drop_eq_getElem_cons hjx, hx, Pl.numsF])
            have l1 : (j : Int) < (ps.length : Int) := by omega
            have l2 : (j : Int) < (k : Int) := by omega
            have b1 := Pl.iv_b x1
            have b2 := Pl.iv_b x2
            have JA := Lib.hid (fun w => rInt_f x1 w (by omega))
            have JB := Lib.hid (fun w => rInt_f x2 w (by omega))
            have HCN : Hid (Pl.cnt (x1, x2) = (Pl.iv x2 - Pl.iv x1 + 1).toNat) := Lib.hid rfl
            obtain ⟨f, hf⟩ : ∃ f, Pl.iv x1 = f := ⟨_, rfl⟩
            obtain ⟨l, hl⟩ : ∃ l, Pl.iv x2 = l := ⟨_, rfl⟩
            obtain ⟨q, hq⟩ : ∃ q, Pl.cnt (x1, x2) = q := ⟨_, rfl⟩
            obtain ⟨r1, hr1⟩ : ∃ r, (Pl.intE x1 0 1000000000).1 = r := ⟨_, rfl⟩
            obtain ⟨r2, hr2⟩ : ∃ r, (Pl.intE x2 0 1000000000).1 = r := ⟨_, rfl⟩
            rw [hf, hl, hq] at HN2
            rw [hf, hl, hq] at HCN
            rw [hf, hr1] at JA
            rw [hl, hr2] at JB
            rw [hf] at b1
            rw [hl] at b2
            have hcq := HCN.out
            clear hcv hcu hx hf hl hq hr1 hr2 HCN
            obtain ⟨A0, q0, hv0, _⟩ := IntsAt.of_own hown
            subst hv0
            go_wp2_with fail
            refine (JA.out _).mono ?_
            rintro e w' ⟨rfl, rfl⟩
            go_wp2_with fail
            refine (JB.out _).mono ?_
            rintro e w' ⟨rfl, rfl⟩
            have HH0 : Hid (wr.ownsRow w2.heap.size 3 1 (.slice A0 acc.length q0) (acc.length + 0) (intV (acc ++ Pl.from_ f 0))) := Lib.hid (by
              rw [show Pl.from_ f 0 = [] from rfl, List.append_nil]; exact hown)
            clear hown
            go_wp2_with fail
            go_loopw [10, 16] (fun v n wx => ∃ m : Nat, n = .int .i64 (f + (m : Int)) ∧ m ≤ q ∧ acc.length + m ≤ 500 ∧ wx.ownsRow w2.heap.size 3 1 v (acc.length + m) (intV (acc ++ Pl.from_ f m)) ∧ Below w2.heap.size w2 wx) (fun _ n _ => (l + 1 - intOf n).toNat)
            case atStart => exact ⟨0, by simp, Nat.zero_le _, by omega, HH0.out, HB5.out⟩
            case round =>
              obtain ⟨m, rfl, hm, hm5, howx, hbx⟩ := hrel
              have HBX := Lib.hid hbx
              have hsx := hbx.size
              clear hbx
              obtain ⟨A1, q1, hv1⟩ := own_slice howx
              subst hv1
              by_cases hgo : f + (m : Int) ≤ l
              · have hx0 : (0 : Int) ≤ f + m := by omega
                have hx1 : f + (m : Int) ≤ 1000000000 := by omega
                by_cases hfull : acc.length + m = 500
                · have hr := HN2.out
                  rw [if_pos (by omega)] at hr
                  have HR2 := Lib.hid (HF.out.trans hr)
                  have z1 : (((acc.length + m : Nat) : Int) == 500) = true := by rw [beq_iff_eq]; omega
                  have z2 : (((acc.length : Nat) : Int) + (m : Int) == 500) = true := by rw [beq_iff_eq]; omega
                  clear hr hfull
                  go_wp2_with fail
                  go_ret2
                  exact intsG w _ none 0 HR2.out (.inl rfl) (below_of HB2.out HBX.out (Nat.le_refl _)) _ rfl
                · have z1 : (((acc.length + m : Nat) : Int) == 500) = false := by rw [beq_eq_false_iff_ne]; omega
                  have z2 : (((acc.length : Nat) : Int) + (m : Int) == 500) = false := by rw [beq_eq_false_iff_ne]; omega
                  go_wp2_with (at_builtin; go_loud (refine wpList_append_own _ rfl (.tmp 125) (.tmp 127) 22 rfl w2.heap.size 3 i1 (.int .i64 0) 1 8 Tryz.underlying22 hi1 hy0 hy1 hy2 rfl (by decide) _ (acc.length + m) _ rfl (howx.alloc _) ⟨wr.heap.size, 0, none⟩ 1 1 [.int .i64 (f + (m : Int))] rfl rfl (cell_one_int wr _) (by simp [Value.oneCell']) (by unfold maxLen; omega) (by omega) (by simp; omega) ?_; intro v3 w3 hown3 hg3 _; have hb3 := (HBX.out.alloc hsx (.cells #[.int .i64 (f + (m : Int))] 3)).grown hg3 (by simp; omega) (fun g hg => (howx.lt g hg).1); have HB3 := Lib.hid hb3; have HO3 := Lib.hid hown3; clear hg3 hb3 hown3))
                  go_roundw
                  case rel => exact ⟨m + 1, congrArg (Value.int .i64) (by omega), by omega, by omega, by rw [Pl.from_succ, ← List.append_assoc, intV_snoc]; exact HO3.out, HB3.out⟩
                  case measure => simp [intOf]; omega
              · have hmq : m = q := by omega
                subst hmq
                have hr := HN2.out
                rw [if_neg (by omega)] at hr
                have HR2 := Lib.hid hr
                have HO4 := Lib.hid howx
                clear hr
                go_wp2_with fail
                go_roundw
                case rel => exact ⟨j + 1, acc ++ Pl.from_ f m, by omega, by go_num, by rw [List.length_append, Pl.from_len]; omega, by rw [List.length_append, Pl.from_len]; exact HO4.out, HBX.out, HR2⟩
                case measure => simp [intOf]; omega
          · have HR2 : Hid (Pl.plist t = (0, acc)) := Lib.hid (by
              have hxk2 : xs.length = ps.length := by have := HKP.out; omega
              rw [HF.out, HN.out, List.drop_of_length_le (by omega)]; rfl)
            obtain ⟨A3, c3, hv, hsp⟩ := IntsAt.of_own hown
            subst hv
            have HSA := Lib.hid hsp
            clear hsp hsv hsu
            go_wp2_with fail
            go_ret2
            exact intsG w _ _ _ HR2.out HSA.out (below_of HB2.out HB5.out (Nat.le_refl _)) _ rfl
end Go.Proofs.YthifbihmogjjpaaGreatDoor
