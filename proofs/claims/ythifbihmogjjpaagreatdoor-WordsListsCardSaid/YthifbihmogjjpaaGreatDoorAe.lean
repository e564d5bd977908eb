/-
  The walk of WordsLists, and an argument that is a slice of integers: opened, and read again.
-/
import Derived.Test.YthifbihmogjjpaaGreatDoorAd
import Derived.Test.YthifbihmogjjpaaGreatDoorYa
import Derived.OpenShut
namespace Go.Proofs.YthifbihmogjjpaaGreatDoor
open Go.ChangeShapes Go.ChangeMaps Go.WideShapes Go.ChangeAt Go.RowKit Go.Proofs Go.Deep

theorem ycInt : Tryz.prog.cellsOf 3 = 1 := by kernel_rfl
theorem add_at (b off j : Nat) : (⟨b, off, none⟩ : Addr).add j = ⟨b, off + j, none⟩ := by unfold Addr.add; split <;> simp_all
theorem el_take (zs : List Int) (n i : Nat) (h : i < n) : Pl.el (zs.take n) i = zs.getD i 0 := by
  unfold Pl.el
  rw [List.getElem?_take_of_lt h, List.getD_eq_getElem?_getD]
theorem ints_open {H : Type} {enc : TypeId × Value → H} {W : World} {v0 : Value} {d0 : DataW H} {p0 : List MemPlace} (h0 : DataW.Trod enc Tryz.prog W 0 (fun _ => true) true 22 v0 d0 p0) (hv : ∃ A l c, v0 = .slice A l c) :
    ∃ A c ns, v0 = .slice A ns.length c ∧ IntsAt W A ns ∧ Fits ns ∧ ns.length ≤ maxLen ∧
      ∀ (W' : World) (sp : Nat → Bool), Below W.heap.size W W' → (∀ x ∈ p0, sp x.block = true) → DataW.Trod enc Tryz.prog W' 0 sp true 22 v0 d0 p0 := by
  obtain ⟨A0, l0, c0, rfl⟩ := hv
  obtain ⟨n, h0⟩ := h0
  rcases open_ints Tryz.underlying22 Tryz.underlying3 ycInt h0 with ⟨hc, hx⟩ | ⟨a, len, cap, zs, hc, _, hl, hm, hz, hx, hcell, hwf⟩
  · have hc : [Value.slice A0 l0 c0] = [.slice none 0 0] := hc
    simp only [List.cons.injEq, and_true, Value.slice.injEq] at hc
    obtain ⟨rfl, rfl, rfl⟩ := hc
    simp only [Prod.mk.injEq] at hx
    obtain ⟨rfl, rfl⟩ := hx
    exact ⟨none, 0, [], rfl, .inl rfl, fun i => by simp [Pl.el], by simp, fun W' sp _ _ => ⟨1, by simp [DataW.trod, Tryz.underlying22, Value.cells]⟩⟩
  · have hc : [Value.slice A0 l0 c0] = [.slice (some a) len cap] := hc
    simp only [List.cons.injEq, and_true, Value.slice.injEq] at hc
    obtain ⟨rfl, rfl, rfl⟩ := hc
    simp only [if_true] at hz
    simp only [Prod.mk.injEq] at hx
    obtain ⟨rfl, rfl⟩ := hx
    have hlen : (zs.take l0).length = l0 := by rw [List.length_take]; omega
    refine ⟨some a, c0, zs.take l0, by rw [hlen], ?_, ?_, by rw [hlen]; omega, ?_⟩
    · by_cases hl0 : l0 = 0
      · subst hl0; exact .inl (by simp)
      · have hs := World.cell?_spot (hcell 0 (by omega))
        have hlt := cellw_lt (hcell 0 (by omega))
        obtain ⟨b, off, spot⟩ := a
        have hspot : spot = none := by simpa [Addr.add] using hs
        subst hspot
        rw [add_at] at hlt
        refine .inr ⟨b, off, rfl, hlt, fun i hi => ?_⟩
        rw [hlen] at hi
        have h1 := hcell i (by omega)
        rw [add_at] at h1
        rw [el_take zs l0 i hi]; exact h1
    · intro i
      by_cases hi : i < l0
      · rw [el_take zs l0 i hi, List.getD_eq_getElem?_getD, List.getElem?_eq_getElem (by omega)]
        have := hwf _ (List.getElem_mem (l := zs) (n := i) (by omega))
        simpa [Lit.wf, IntKind.min, IntKind.max, IntKind.signed, IntKind.bits] using this
      · unfold Pl.el
        rw [List.getElem?_eq_none (by rw [hlen]; omega)]
        exact ⟨by decide, by decide⟩
    · intro W' sp hb hsp
      refine ⟨0 + 2, shut_ints 0 Tryz.underlying22 Tryz.underlying3 ycInt (Nat.zero_le _) hl hm ?_ (fun i hi => ?_) hwf⟩
      · cases hs : sp a.block with
        | true => rw [if_pos rfl]; exact hz
        | false =>
          rw [if_neg (by simp)]
          rcases Nat.eq_zero_or_pos zs.length with h | h
          · omega
          · exfalso
            have := hsp (.cell a.block (a.off + 0)) (by simp only [MemPlace.row, List.mem_map, List.mem_range]; exact ⟨0, h, rfl⟩)
            have e : (MemPlace.cell a.block (a.off + 0)).block = a.block := rfl
            rw [e, hs] at this
            cases this
      · have h1 := hcell i hi
        rw [hb.cell (p := a.add i) (cellw_lt h1)]; exact h1

set_option maxRecDepth 100000 in
set_option maxHeartbeats 1000000 in
theorem lists_same (A B : Option Addr) (c d : Nat) (ts : List Int) (w : World) (hf : IntsAt w A ts) (hg : IntsAt w B ts) (hn : ts.length ≤ 4294967295) :
    Calls Tryz.prog 9 #[.slice A ts.length c, .slice B ts.length d] w fun e w' => e = .returned (.bool true) ∧ Below w.heap.size w w' := by
  go_enter Tryz.func9, Tryz.ntmps9
  go_wp2_with fail
  go_loopw [5] (fun i wr => ∃ k : Nat, k ≤ ts.length ∧ i = .int .i64 k ∧ Below w.heap.size w wr) (fun i _ => ts.length - (intOf i).toNat)
  case atStart => exact ⟨0, Nat.zero_le _, rfl, Below.refl _ _⟩
  case round =>
    obtain ⟨k, hk, rfl, hb⟩ := hrel
    have HBR := Lib.hid hb
    have hsr := hb.size
    have hf := hf.below hb (Nat.le_refl _)
    have hg := hg.below hb (Nat.le_refl _)
    clear hb
    by_cases hlt : k < ts.length
    · rcases hf with h0 | ⟨b, off, rfl, hbl, hc⟩
      · subst h0; simp at hlt
      rcases hg with h0 | ⟨b', off', rfl, hbl', hc'⟩
      · subst h0; simp at hlt
      have g0 := hc k hlt
      have g1 := hc' k hlt
      have l1 : (k : Int) < (ts.length : Int) := by omega
      clear hc hc'
      go_wp2_with fail
      go_quiet (fail)
      go_wp2_with fail
      go_roundw
      case rel => exact ⟨k + 1, by omega, by go_num, HBR.out.trans ((below_drewN' _).mono hsr)⟩
      case measure => simp [intOf]; omega
    · go_wp2_with fail
      go_ret
      exact ⟨retB rfl, HBR.out⟩
theorem plist_fits (t : List UInt8) : (Pl.plist t).2.length ≤ 500 := Pl.plist_few t

set_option maxRecDepth 100000 in
set_option maxHeartbeats 1000000 in
theorem wlists_any (A : Option Addr) (c : Nat) (l : List Int) (s : ByteArray) (w : World) (he : Env w) (h4 : C4 w) (hf : IntsAt w A l) (hfit : Fits l) (hn : l.length ≤ 9223372036854775807) (hs : s.size ≤ 9223372036854775807) :
    Calls Tryz.prog 3 #[.slice A l.length c, .string s] w fun e w' => e = .returned (.bool true) ∧ Below w.heap.size w w' := by
  have HE := Lib.hid he
  have H4 := Lib.hid h4
  have HF := Lib.hid hf
  by_cases hbig : 510 < l.length ∨ 2000 < s.size
  · clear he h4 hf
    by_cases h1 : 510 < l.length
    all_goals
      (try have h2 : 2000 < s.size := by omega)
      clear hbig
      go_enter Tryz.func3, Tryz.ntmps3
      go_wp2_with fail
      refine (shown_any _ HE.out).mono ?_
      rintro e w9 ⟨rfl, hb⟩
      have HB := Lib.hid hb
      clear hb
      go_wp2_with fail
      go_ret
      exact ⟨by simp [Array.getD], HB.out⟩
  · have h1 : ¬ 510 < l.length := by omega
    have h2 : ¬ 2000 < s.size := by omega
    obtain ⟨⟨e1, z⟩, hj⟩ : ∃ y, Pl.listE l = y := ⟨_, rfl⟩
    have hsl : (⟨(Pl.L s).toArray⟩ : ByteArray) = s := by unfold Pl.L; simp
    have K1 := fun w he h9 hf => List_any A c l w he h9 hf hfit (by omega)
    have K2 := fun w hf => rList_any A c l w hf hfit (by omega)
    have K3 := fun w he h4 => ParseList_any (Pl.L s) w he h4 (by rw [Pl.L_length]; omega)
    have K5 := fun w => rParseList_any (Pl.L s) w (by rw [Pl.L_length]; omega)
    have hfew := Pl.plist_few (Pl.L s)
    rw [hj] at K1 K2
    rw [hsl] at K3 K5
    obtain ⟨⟨e2, ns⟩, hj2⟩ : ∃ y, Pl.plist (Pl.L s) = y := ⟨_, rfl⟩
    rw [hj2] at K3 K5 hfew
    replace hfew : ns.length ≤ 500 := hfew
    unfold IntsOut at K3 K5
    have J1 := Lib.hid K1
    have J2 := Lib.hid K2
    have J3 := Lib.hid K3
    have J5 := Lib.hid K5
    clear K1 K2 K3 K5 hj hj2 hsl he h4 hf hbig
    go_enter Tryz.func3, Tryz.ntmps3
    go_wp2_with fail
    refine (J1.out _ HE.out.2.1 HE.out.2.2 HF.out).mono ?_
    rintro e w1 ⟨rfl, hb⟩
    have HB := Lib.hid hb
    have H4 := Lib.hid (H4.out.below HE.out hb)
    have HE := Lib.hid (HE.out.below hb)
    have HF := Lib.hid (HF.out.below hb (Nat.le_refl _))
    clear hb
    go_wp2_with fail
    refine (J2.out _ HF.out).mono ?_
    rintro e w2 ⟨rfl, hb⟩
    have HB := Lib.hid (below_of HB.out hb (Nat.le_refl _))
    have H4 := Lib.hid (H4.out.below HE.out hb)
    have HE := Lib.hid (HE.out.below hb)
    clear hb
    go_wp2_with fail
    refine (J3.out _ HE.out H4.out).mono ?_
    rintro e w3 ⟨A3, c3, rfl, hi3, hb⟩
    have HB := Lib.hid (below_of HB.out hb (Nat.le_refl _))
    have HE := Lib.hid (HE.out.below hb)
    have HI3 := Lib.hid hi3
    clear hb hi3
    go_wp2_with fail
    refine (J5.out _).mono ?_
    rintro e w4 ⟨A5, c5, rfl, hi5, hb⟩
    have HB := Lib.hid (below_of HB.out hb (Nat.le_refl _))
    have HE := Lib.hid (HE.out.below hb)
    have HI3 := Lib.hid (HI3.out.below hb (Nat.le_refl _))
    have HI5 := Lib.hid hi5
    clear hb hi5
    go_wp2_with fail
    refine (lists_same A3 A5 c3 c5 ns w4 HI3.out HI5.out (by omega)).mono ?_
    rintro e w5 ⟨rfl, hb⟩
    have HB := Lib.hid (below_of HB.out hb (Nat.le_refl _))
    have HE := Lib.hid (HE.out.below hb)
    clear hb
    go_wp2_with fail
    refine (shown_any _ HE.out).mono ?_
    rintro e w9 ⟨rfl, hb⟩
    have HB := Lib.hid (below_of HB.out hb (Nat.le_refl _))
    clear hb
    go_wp2_with fail
    go_ret
    exact ⟨by simp [Array.getD], HB.out⟩
end Go.Proofs.YthifbihmogjjpaaGreatDoor
