/-
  The contract of the reference's List.
-/
import Derived.Test.YthifbihmogjjpaaGreatDoorAa
namespace Go.Proofs.YthifbihmogjjpaaGreatDoor
open Go.ChangeShapes Go.WideShapes Go.ChangeAt Go.RowKit Go.Proofs

/-- what has been written so far -/
def Wrote (l : List Int) (a : Nat) (d : List (List UInt8)) : Prop := Pl.parts l = d ++ Pl.parts (l.drop a)
theorem itoa_ne (n : Int) : Lib.itoa n ≠ [] := by
  have h : ∀ u : Nat, Lib.decDigits u ≠ [] := fun u => by
    rw [Lib.decDigits]; split <;> simp
  unfold Lib.itoa
  split
  · simp
  · exact h _
theorem wr2_ne (a b : Int) : Pl.wr2 a b ≠ [] := by
  unfold Pl.wr2
  split
  · exact itoa_ne a
  · simp [itoa_ne a]
def outB (d : List (List UInt8)) : List UInt8 := Lib.join d [44]
theorem out_one (t : List UInt8) : outB [t] = t := Pl.join_one' t [44]
theorem out_snoc (x : List UInt8) (r : List (List UInt8)) (t : List UInt8) : outB ((x :: r) ++ [t]) = outB (x :: r) ++ [44] ++ t := Pl.join_snoc x r [44] t
theorem itoa_few {n : Int} (h0 : 0 ≤ n) (h1 : n ≤ 1000000000) : (Lib.itoa n).length ≤ 21 := Lib.itoa_length_le n (by omega) (by omega)
/-- the text so far, the parts in it, and whether there are any -/
def Text (l : List Int) (a : Nat) (z : List UInt8) : Prop := ∃ d, Wrote l a d ∧ z = outB d ∧ (z = [] ↔ d = []) ∧ z.length ≤ a * 50
theorem Text.start (l : List Int) : Text l 0 [] := ⟨[], rfl, rfl, by simp, by simp⟩
theorem Text.step {l : List Int} {a e : Nat} {z t : List UInt8} (h : Text l a z) (ha : a < l.length) (he : Pl.spanE l a = e) (ht : t = Pl.wr2 (Pl.el l a) (Pl.el l (e - 1))) (htl : t.length ≤ 43) (hae : a < e) :
    Text l e (if z = [] then t else z ++ [44] ++ t) := by
  obtain ⟨d, hw, hz, hn, hl⟩ := h
  have hp := Pl.parts_at l a ha
  rw [he, ← ht] at hp
  have htn : t ≠ [] := by rw [ht]; exact wr2_ne _ _
  refine ⟨d ++ [t], ?_, ?_, ?_, ?_⟩
  · unfold Wrote at hw ⊢
    rw [hw, hp]; simp
  · by_cases h0 : z = []
    · rw [if_pos h0, hn.1 h0]; exact (out_one t).symm
    · rw [if_neg h0]
      cases d with
      | nil => exact absurd (hn.2 rfl) h0
      | cons x r => rw [hz, out_snoc]
  · constructor
    · intro h'
      split at h'
      · exact absurd h' htn
      · simp at h'
    · intro h'; simp at h'
  · have hm : (a + 1) * 50 ≤ e * 50 := Nat.mul_le_mul_right _ (by omega)
    split
    · omega
    · simp; omega
theorem Text.done {l : List Int} {a : Nat} {z : List UInt8} (h : Text l a z) (ha : l.length ≤ a) (hc : Pl.chk l = 0) (hl : l ≠ []) : Pl.listE l = (0, z) := by
  obtain ⟨d, hw, hz, _, _⟩ := h
  unfold Wrote at hw
  rw [List.drop_of_length_le ha] at hw
  unfold Pl.listE
  rw [if_pos hc, if_neg hl, hz, hw]
  show _ = (0, Lib.join d [44])
  rw [show Pl.parts [] = [] from rfl, List.append_nil]
theorem listG {l : List Int} {e : Int} {z : List UInt8} (w w' : World) (h : Pl.listE l = (e, z)) (hb : Below w.heap.size w w') (E : Ending) (hE : E = .returned (.tuple #[.string ⟨z.toArray⟩, .int .i64 e])) :
    E = .returned (.tuple #[.string ⟨(Pl.listE l).2.toArray⟩, .int .i64 (Pl.listE l).1]) ∧ Below w.heap.size w w' := by rw [h]; exact ⟨hE, hb⟩
theorem listE_no {l : List Int} {e : Int} (h : Pl.chk l = e) (he : e ≠ 0) : Pl.listE l = (e, []) := by
  unfold Pl.listE; rw [h, if_neg he]

set_option maxRecDepth 100000 in
set_option maxHeartbeats 4000000 in
theorem rList_any (A : Option Addr) (c : Nat) (l : List Int) (w : World) (hl : IntsAt w A l) (hf : Fits l) (hn : l.length ≤ 4294967295) :
    Calls Tryz.prog 6 #[.slice A l.length c] w fun e w' => e = .returned (.tuple #[.string ⟨(Pl.listE l).2.toArray⟩, .int .i64 (Pl.listE l).1]) ∧ Below w.heap.size w w' := by
  have HL0 := Lib.hid hl
  by_cases h5 : 500 < l.length
  · have H := Lib.hid (listE_no (l := l) (e := 3) (by unfold Pl.chk; rw [if_pos h5]) (by decide))
    go_enter Tryz.func6, Tryz.ntmps6
    go_wp2_with fail
    go_ret2
    exact listG w w H.out (Below.refl _ _) _ rfl
  go_enter Tryz.func6, Tryz.ntmps6
  go_wp2_with fail
  go_loop [4] (fun i => ∃ k : Nat, k ≤ l.length ∧ i = .int .i64 k ∧ (l.take k).any Pl.outR = false) (fun i => l.length - (intOf i).toNat)
  case atStart => exact ⟨0, Nat.zero_le _, rfl, by simp⟩
  case round =>
    obtain ⟨k, hk, rfl, ha⟩ := hrel
    have HA := Lib.hid ha
    clear ha
    by_cases hlt : k < l.length
    · rcases hl with h0 | ⟨b, off, rfl, hbl, hc⟩
      · subst h0; simp at hlt
      have g0 := hc k hlt
      clear hc
      have l1 : (k : Int) < (l.length : Int) := by omega
      obtain ⟨x, hx⟩ : ∃ x, Pl.el l k = x := ⟨_, rfl⟩
      rw [hx] at g0
      have HX := Lib.hid hx
      clear hx
      by_cases h1 : x < 0
      · have H := Lib.hid (listE_no (l := l) (e := 7) (by unfold Pl.chk; rw [if_neg (by omega), if_pos (Pl.any_el l k hlt (by rw [HX.out]; simp [Pl.outR, h1]))]) (by decide))
        go_wp2_with fail
        go_ret2
        exact listG w w H.out (Below.refl _ _) _ rfl
      by_cases h2 : 1000000000 < x
      · have H := Lib.hid (listE_no (l := l) (e := 7) (by unfold Pl.chk; rw [if_neg (by omega), if_pos (Pl.any_el l k hlt (by rw [HX.out]; simp [Pl.outR, h2]))]) (by decide))
        go_wp2_with fail
        go_ret2
        exact listG w w H.out (Below.refl _ _) _ rfl
      go_wp2_with fail
      go_round
      case rel => exact ⟨k + 1, by omega, by go_num, by rw [Pl.any_take l k hlt, HA.out, HX.out]; simp [Pl.outR]; omega⟩
      case measure => simp [intOf]; omega
    · have HN : Hid (l.any Pl.outR = false) := Lib.hid (by have := HA.out; rwa [List.take_of_length_le (by omega)] at this)
      clear hk HA
      go_wp2_with fail
      go_loopw [5] (fun i wr => ∃ k : Nat, 1 ≤ k ∧ (k ≤ l.length ∨ k = 1) ∧ i = .int .i64 k ∧ Below w.heap.size w wr ∧ ∀ j, j + 1 < k → Pl.el l j < Pl.el l (j + 1)) (fun i _ => l.length - (intOf i).toNat)
      case atStart => exact ⟨1, Nat.le_refl _, .inr rfl, rfl, Below.refl _ _, fun j hj => by omega⟩
      case round =>
        obtain ⟨k, hk1, hk, rfl, hb, ha⟩ := hrel
        have HA := Lib.hid ha
        have HB := Lib.hid hb
        have hsz := hb.size
        have hl' := hl.below hb (Nat.le_refl _)
        have HL' := Lib.hid hl'
        clear ha hb hl
        by_cases hlt : k < l.length
        · rcases hl' with h0 | ⟨b, off, rfl, hbl, hc⟩
          · subst h0; simp at hlt
          obtain ⟨m, rfl⟩ : ∃ m, k = m + 1 := ⟨k - 1, by omega⟩
          have g0 := hc m (by omega)
          have g1 := hc (m + 1) hlt
          clear hc HL'
          obtain ⟨x, hx⟩ : ∃ x, Pl.el l m = x := ⟨_, rfl⟩
          obtain ⟨y, hy⟩ : ∃ y, Pl.el l (m + 1) = y := ⟨_, rfl⟩
          rw [hx] at g0
          rw [hy] at g1
          have HX := Lib.hid hx
          have HY := Lib.hid hy
          clear hx hy
          have e1 : (m : Int) < (l.length : Int) := by omega
          have e2 : (m : Int) + 1 < (l.length : Int) := by omega
          by_cases hxy : x < y
          · have hyx : ¬ y ≤ x := by omega
            go_wp2_with fail
            go_quiet (fail)
            go_wp2_with fail
            go_roundw
            case rel =>
              refine ⟨m + 1 + 1, by omega, by omega, by go_num, HB.out.trans ((below_drewN' _).mono hsz), fun j hj => ?_⟩
              by_cases hjm : j = m
              · subst hjm; rw [HX.out, HY.out]; exact hxy
              · exact HA.out j (by omega)
            case measure => simp [intOf]; omega
          · have H := Lib.hid (listE_no (l := l) (e := 6) (by
              unfold Pl.chk; rw [if_neg (by omega), HN.out]
              have : Pl.ascB l = false := by
                unfold Pl.ascB; rw [decide_eq_false_iff_not]; intro h
                have := h m (by omega)
                rw [HX.out, HY.out] at this; exact hxy this
              rw [this]; simp) (by decide))
            have hyx : y ≤ x := by omega
            go_wp2_with fail
            go_quiet (fail)
            go_wp2_with fail
            go_ret2
            exact listG w _ H.out (HB.out.trans ((below_drewN' _).mono hsz)) _ rfl
        · have HC : Hid (Pl.chk l = 0) := Lib.hid (by
            unfold Pl.chk; rw [if_neg (by omega), HN.out]
            have : Pl.ascB l = true := by
              unfold Pl.ascB; rw [decide_eq_true_iff]; intro j hj
              exact HA.out j (by omega)
            rw [this]; simp)
          clear hl' HA
          by_cases h0 : l.length = 0
          · have hl0 : l = [] := List.eq_nil_of_length_eq_zero h0
            have H : Hid (Pl.listE l = (0, [45])) := Lib.hid (by unfold Pl.listE; rw [if_pos HC.out, if_pos hl0])
            have z1 : ((l.length : Int) == 0) = true := by rw [beq_iff_eq]; omega
            clear hl0 h0
            go_wp2_with fail
            go_ret2
            exact listG w _ H.out HB.out _ rfl
          · have z1 : ((l.length : Int) == 0) = false := by rw [beq_eq_false_iff_ne]; omega
            have HN0 : Hid (l ≠ []) := Lib.hid (fun e => h0 (by rw [e]; rfl))
            clear h0
            go_wp2_with fail
            go_loopw [6, 7] (fun o i wy => ∃ (a : Nat) (z : List UInt8), a ≤ l.length ∧ i = .int .i64 a ∧ o = .string ⟨z.toArray⟩ ∧ Hid (Text l a z) ∧ Below w.heap.size w wy) (fun _ i _ => l.length - (intOf i).toNat)
            case atStart => exact ⟨0, [], Nat.zero_le _, rfl, rfl, Lib.hid (Text.start l), HB.out⟩
            case round =>
              obtain ⟨a, z, ha, rfl, rfl, HT, hby⟩ := hrel
              have HBY := Lib.hid hby
              have hsy := hby.size
              have hly := HL0.out.below hby (Nat.le_refl _)
              have HLY := Lib.hid hly
              clear hby
              by_cases hlt2 : a < l.length
              · have ra := Pl.outR_el l HN.out a
                have rb := fun k => Pl.outR_el l HN.out k
                have RB := Lib.hid rb
                obtain ⟨x, hx⟩ : ∃ x, Pl.el l a = x := ⟨_, rfl⟩
                rw [hx] at ra
                have HX := Lib.hid hx
                clear hx rb hly
                go_wp2_with fail
                go_loopw [8] (fun i wz => ∃ (k : Nat), a ≤ k ∧ k < l.length ∧ i = .int .i64 k ∧ Below w.heap.size w wz ∧ Hid (Pl.spanE l a = (k + 1) + Pl.goOn (Pl.el l k) (l.drop (k + 1)) ∧ Pl.el l k = x + ((k - a : Nat) : Int))) (fun i _ => l.length - (intOf i).toNat)
                case atStart => exact ⟨a, Nat.le_refl _, hlt2, rfl, HBY.out, Lib.hid ⟨rfl, by rw [HX.out]; simp⟩⟩
                case round =>
                  obtain ⟨k, hak, hkl, rfl, hbz, HS⟩ := hrel
                  have HBZ := Lib.hid hbz
                  have hsz2 := hbz.size
                  have hlz := HL0.out.below hbz (Nat.le_refl _)
                  clear hbz
                  rcases hlz with h0 | ⟨b, off, hA, hbl, hc⟩
                  · subst h0; simp at hkl
                  have hvk := HS.out.2
                  have rk := RB.out k
                  have e1 : (k : Int) < (l.length : Int) := by omega
                  have g0 := hc k hkl
                  have ga := hc a hlt2
                  rw [HX.out] at ga
                  by_cases hgo : k + 1 < l.length ∧ Pl.el l (k + 1) = Pl.el l k + 1
                  · obtain ⟨hk1l, hstep⟩ := hgo
                    have g1 := hc (k + 1) hk1l
                    have H2 : Hid (Pl.spanE l a = (k + 1 + 1) + Pl.goOn (Pl.el l (k + 1)) (l.drop (k + 1 + 1)) ∧ Pl.el l (k + 1) = x + ((k + 1 - a : Nat) : Int)) := Lib.hid ⟨by
                      rw [HS.out.1]
                      have := Pl.goOn_step l (k + 1) hk1l (by omega) (by rw [Nat.add_sub_cancel]; exact hstep)
                      rw [Nat.add_sub_cancel] at this
                      rw [this]; omega, by rw [hstep, hvk]; omega⟩
                    have rk1 := RB.out (k + 1)
                    obtain ⟨u, hu⟩ : ∃ u, Pl.el l k = u := ⟨_, rfl⟩
                    obtain ⟨v, hv⟩ : ∃ v, Pl.el l (k + 1) = v := ⟨_, rfl⟩
                    rw [hu] at g0 hstep rk
                    rw [hv] at g1 hstep rk1
                    have q : (v == u + 1) = true := by rw [beq_iff_eq]; exact hstep
                    have e2 : (k : Int) + 1 < (l.length : Int) := by omega
                    have d1 : decide ((k : Int) + 1 < (l.length : Int)) = true := by simp; omega
                    subst hA
                    clear hc hu hv hstep hvk ga
                    go_wp2_with fail
                    go_quiet (fail)
                    go_wp2_with fail
                    go_roundw
                    case rel => exact ⟨k + 1, by omega, hk1l, by go_num, HBZ.out.trans ((below_drewN' _).mono hsz2), H2⟩
                    case measure => simp [intOf]; omega
                  · have HSE : Hid (Pl.spanE l a = k + 1) := Lib.hid (by
                      rw [HS.out.1]
                      rcases Nat.lt_or_ge (k + 1) l.length with h | h
                      · have := Pl.goOn_stop l (k + 1) h (by rw [Nat.add_sub_cancel]; exact fun e => hgo ⟨h, e⟩)
                        rw [Nat.add_sub_cancel] at this
                        omega
                      · have := Pl.goOn_end l (k + 1) h (Pl.el l k)
                        omega)
                    have D1 := Lib.hid (fun w => rDigits_any x w (by omega) (by omega))
                    have il := itoa_few ra.1 ra.2
                    obtain ⟨p, hp⟩ : ∃ p, Lib.itoa x = p := ⟨_, rfl⟩
                    rw [hp] at D1 il
                    have HP := Lib.hid hp
                    have hpl := size_mk p
                    have hzl := size_mk z
                    have hzb : z.length ≤ a * 50 := by obtain ⟨_, _, _, _, h⟩ := HT.out; exact h
                    clear hp
                    obtain ⟨v, hv⟩ : ∃ v, Pl.el l k = v := ⟨_, rfl⟩
                    rw [hv] at g0 rk hvk
                    have HV := Lib.hid hv
                    clear hv
                    have D2 := Lib.hid (fun w => rDigits_any v w (by omega) (by omega))
                    have il2 := itoa_few rk.1 rk.2
                    obtain ⟨q, hq⟩ : ∃ q, Lib.itoa v = q := ⟨_, rfl⟩
                    rw [hq] at D2 il2
                    have HQ := Lib.hid hq
                    have hql := size_mk q
                    clear hq
                    subst hA
                    have HCC := Lib.hid hc
                    have bl : ∀ {w' : World}, Below wr.heap.size wr w' → w'.cell? ⟨b, off + k, none⟩ = some (.int .i64 v) := fun h => (h.cell (p := ⟨b, off + k, none⟩) (by simp; omega)).trans g0
                    have hov1 : ¬ 9223372036854775807 < z.length + 1 := by omega
                    have hov2 : ¬ 9223372036854775807 < z.length + p.length := by omega
                    have hov3 : ¬ 9223372036854775807 < z.length + 1 + p.length := by omega
                    clear hc
                    have e1' : ¬ (l.length : Int) ≤ (k : Int) := by omega
                    by_cases hk1 : k + 1 < l.length
                    · have g1 := HCC.out (k + 1) hk1
                      have rk1 := RB.out (k + 1)
                      have hne : Pl.el l (k + 1) ≠ v + 1 := fun e => hgo ⟨hk1, by rw [HV.out]; exact e⟩
                      obtain ⟨y, hy⟩ : ∃ y, Pl.el l (k + 1) = y := ⟨_, rfl⟩
                      rw [hy] at g1 rk1 hne
                      have q1 : (y == v + 1) = false := by rw [beq_eq_false_iff_ne]; exact hne
                      have e2 : (k : Int) + 1 < (l.length : Int) := by omega
                      have d1 : decide ((k : Int) + 1 < (l.length : Int)) = true := by simp; omega
                      clear hy hne hgo
                      by_cases hka : k = a
                      · have hvx : v = x := by rw [hvk, hka]; simp
                        have hw : p = Pl.wr2 (Pl.el l a) (Pl.el l (k + 1 - 1)) := by rw [Nat.add_sub_cancel, HX.out, HV.out, hvx]; unfold Pl.wr2; rw [if_pos rfl, HP.out]
                        have htl : p.length ≤ 43 := by omega
                        have hnk : ¬ (a : Int) < (k : Int) := by omega
                        have hstep := HT.out.step hlt2 HSE.out hw htl (by omega)
                        have hzl2 : z.length ≤ 25000 := by omega
                        by_cases hz : z = []
                        · rw [if_pos hz] at hstep
                          have HTX := Lib.hid hstep
                          subst hz
                          clear hstep hw htl hvk hvx hka
                          go_wp2_with fail
                          go_quiet (fail)
                          go_wp2_with fail
                          refine (D1.out _).mono ?_
                          rintro e w1 ⟨rfl, hb1⟩
                          have hb1' := below_of (below_drewN' (w := wr) _) hb1 (Nat.le_refl _)
                          have HB1 := Lib.hid (below_of HBZ.out hb1' (Nat.le_refl _))
                          clear hb1 hb1'
                          go_wp2_with fail
                          go_roundw
                          case rel => exact ⟨k + 1, p, by omega, by go_num, congrArg Value.string (by first | rfl | (simp only [show (⟨#[44]⟩ : ByteArray) = ⟨[44].toArray⟩ from rfl, show (⟨#[45]⟩ : ByteArray) = ⟨[45].toArray⟩ from rfl, bytes_app]; simp) | simp [bytes_app]), HTX, HB1.out⟩
                          case measure => simp [intOf]; omega
                        · rw [if_neg hz] at hstep
                          have HTX := Lib.hid hstep
                          have hz2 : (z == []) = false := by simpa using hz
                          clear hstep hw htl hvk hvx hka
                          go_wp2_with fail
                          go_quiet (fail)
                          go_wp2_with fail
                          refine (D1.out _).mono ?_
                          rintro e w1 ⟨rfl, hb1⟩
                          have hb1' := below_of (below_drewN' (w := wr) _) hb1 (Nat.le_refl _)
                          have HB1 := Lib.hid (below_of HBZ.out hb1' (Nat.le_refl _))
                          clear hb1 hb1'
                          go_wp2_with fail
                          go_roundw
                          case rel => exact ⟨k + 1, z ++ [44] ++ (p), by omega, by go_num, congrArg Value.string (by first | rfl | (simp only [show (⟨#[44]⟩ : ByteArray) = ⟨[44].toArray⟩ from rfl, show (⟨#[45]⟩ : ByteArray) = ⟨[45].toArray⟩ from rfl, bytes_app]; simp) | simp [bytes_app]), HTX, HB1.out⟩
                          case measure => simp [intOf]; omega
                      · have hlt3 : (a : Int) < (k : Int) := by omega
                        have hw : p ++ [45] ++ q = Pl.wr2 (Pl.el l a) (Pl.el l (k + 1 - 1)) := by rw [Nat.add_sub_cancel, HX.out, HV.out]; unfold Pl.wr2; rw [if_neg (by omega), HP.out, HQ.out]
                        have htl : (p ++ [45] ++ q).length ≤ 43 := by simp; omega
                        have hstep := HT.out.step hlt2 HSE.out hw htl (by omega)
                        have hzl2 : z.length ≤ 25000 := by omega
                        by_cases hz : z = []
                        · rw [if_pos hz] at hstep
                          have HTX := Lib.hid hstep
                          subst hz
                          clear hstep hw htl hvk hka
                          go_wp2_with fail
                          go_quiet (fail)
                          go_wp2_with fail
                          refine (D1.out _).mono ?_
                          rintro e w1 ⟨rfl, hb1⟩
                          have hb1' := below_of (below_drewN' (w := wr) _) hb1 (Nat.le_refl _)
                          have HB1 := Lib.hid (below_of HBZ.out hb1' (Nat.le_refl _))
                          have gk1 := bl hb1'
                          clear hb1 hb1'
                          go_wp2_with fail
                          refine (D2.out _).mono ?_
                          rintro e w2 ⟨rfl, hb2⟩
                          have HB1 := Lib.hid (below_of HB1.out hb2 (Nat.le_refl _))
                          clear hb2
                          go_wp2_with fail
                          go_roundw
                          case rel => exact ⟨k + 1, p ++ [45] ++ q, by omega, by go_num, congrArg Value.string (by first | rfl | (simp only [show (⟨#[44]⟩ : ByteArray) = ⟨[44].toArray⟩ from rfl, show (⟨#[45]⟩ : ByteArray) = ⟨[45].toArray⟩ from rfl, bytes_app]; simp) | simp [bytes_app]), HTX, HB1.out⟩
                          case measure => simp [intOf]; omega
                        · rw [if_neg hz] at hstep
                          have HTX := Lib.hid hstep
                          have hz2 : (z == []) = false := by simpa using hz
                          clear hstep hw htl hvk hka
                          go_wp2_with fail
                          go_quiet (fail)
                          go_wp2_with fail
                          refine (D1.out _).mono ?_
                          rintro e w1 ⟨rfl, hb1⟩
                          have hb1' := below_of (below_drewN' (w := wr) _) hb1 (Nat.le_refl _)
                          have HB1 := Lib.hid (below_of HBZ.out hb1' (Nat.le_refl _))
                          have gk1 := bl hb1'
                          clear hb1 hb1'
                          go_wp2_with fail
                          refine (D2.out _).mono ?_
                          rintro e w2 ⟨rfl, hb2⟩
                          have HB1 := Lib.hid (below_of HB1.out hb2 (Nat.le_refl _))
                          clear hb2
                          go_wp2_with fail
                          go_roundw
                          case rel => exact ⟨k + 1, z ++ [44] ++ (p ++ [45] ++ q), by omega, by go_num, congrArg Value.string (by first | rfl | (simp only [show (⟨#[44]⟩ : ByteArray) = ⟨[44].toArray⟩ from rfl, show (⟨#[45]⟩ : ByteArray) = ⟨[45].toArray⟩ from rfl, bytes_app]; simp) | simp [bytes_app]), HTX, HB1.out⟩
                          case measure => simp [intOf]; omega
                    · have e2 : ¬ (k : Int) + 1 < (l.length : Int) := by omega
                      have d1 : decide ((k : Int) + 1 < (l.length : Int)) = false := by simp; omega
                      clear hgo
                      by_cases hka : k = a
                      · have hvx : v = x := by rw [hvk, hka]; simp
                        have hw : p = Pl.wr2 (Pl.el l a) (Pl.el l (k + 1 - 1)) := by rw [Nat.add_sub_cancel, HX.out, HV.out, hvx]; unfold Pl.wr2; rw [if_pos rfl, HP.out]
                        have htl : p.length ≤ 43 := by omega
                        have hnk : ¬ (a : Int) < (k : Int) := by omega
                        have hstep := HT.out.step hlt2 HSE.out hw htl (by omega)
                        have hzl2 : z.length ≤ 25000 := by omega
                        by_cases hz : z = []
                        · rw [if_pos hz] at hstep
                          have HTX := Lib.hid hstep
                          subst hz
                          clear hstep hw htl hvk hvx hka
                          go_wp2_with fail
                          go_quiet (fail)
                          go_wp2_with fail
                          refine (D1.out _).mono ?_
                          rintro e w1 ⟨rfl, hb1⟩
                          have hb1' := below_of (below_drewN' (w := wr) _) hb1 (Nat.le_refl _)
                          have HB1 := Lib.hid (below_of HBZ.out hb1' (Nat.le_refl _))
                          clear hb1 hb1'
                          go_wp2_with fail
                          go_roundw
                          case rel => exact ⟨k + 1, p, by omega, by go_num, congrArg Value.string (by first | rfl | (simp only [show (⟨#[44]⟩ : ByteArray) = ⟨[44].toArray⟩ from rfl, show (⟨#[45]⟩ : ByteArray) = ⟨[45].toArray⟩ from rfl, bytes_app]; simp) | simp [bytes_app]), HTX, HB1.out⟩
                          case measure => simp [intOf]; omega
                        · rw [if_neg hz] at hstep
                          have HTX := Lib.hid hstep
                          have hz2 : (z == []) = false := by simpa using hz
                          clear hstep hw htl hvk hvx hka
                          go_wp2_with fail
                          go_quiet (fail)
                          go_wp2_with fail
                          refine (D1.out _).mono ?_
                          rintro e w1 ⟨rfl, hb1⟩
                          have hb1' := below_of (below_drewN' (w := wr) _) hb1 (Nat.le_refl _)
                          have HB1 := Lib.hid (below_of HBZ.out hb1' (Nat.le_refl _))
                          clear hb1 hb1'
                          go_wp2_with fail
                          go_roundw
                          case rel => exact ⟨k + 1, z ++ [44] ++ (p), by omega, by go_num, congrArg Value.string (by first | rfl | (simp only [show (⟨#[44]⟩ : ByteArray) = ⟨[44].toArray⟩ from rfl, show (⟨#[45]⟩ : ByteArray) = ⟨[45].toArray⟩ from rfl, bytes_app]; simp) | simp [bytes_app]), HTX, HB1.out⟩
                          case measure => simp [intOf]; omega
                      · have hlt3 : (a : Int) < (k : Int) := by omega
                        have hw : p ++ [45] ++ q = Pl.wr2 (Pl.el l a) (Pl.el l (k + 1 - 1)) := by rw [Nat.add_sub_cancel, HX.out, HV.out]; unfold Pl.wr2; rw [if_neg (by omega), HP.out, HQ.out]
                        have htl : (p ++ [45] ++ q).length ≤ 43 := by simp; omega
                        have hstep := HT.out.step hlt2 HSE.out hw htl (by omega)
                        have hzl2 : z.length ≤ 25000 := by omega
                        by_cases hz : z = []
                        · rw [if_pos hz] at hstep
                          have HTX := Lib.hid hstep
                          subst hz
                          clear hstep hw htl hvk hka
                          go_wp2_with fail
                          go_quiet (fail)
                          go_wp2_with fail
                          refine (D1.out _).mono ?_
                          rintro e w1 ⟨rfl, hb1⟩
                          have hb1' := below_of (below_drewN' (w := wr) _) hb1 (Nat.le_refl _)
                          have HB1 := Lib.hid (below_of HBZ.out hb1' (Nat.le_refl _))
                          have gk1 := bl hb1'
                          clear hb1 hb1'
                          go_wp2_with fail
                          refine (D2.out _).mono ?_
                          rintro e w2 ⟨rfl, hb2⟩
                          have HB1 := Lib.hid (below_of HB1.out hb2 (Nat.le_refl _))
                          clear hb2
                          go_wp2_with fail
                          go_roundw
                          case rel => exact ⟨k + 1, p ++ [45] ++ q, by omega, by go_num, congrArg Value.string (by first | rfl | (simp only [show (⟨#[44]⟩ : ByteArray) = ⟨[44].toArray⟩ from rfl, show (⟨#[45]⟩ : ByteArray) = ⟨[45].toArray⟩ from rfl, bytes_app]; simp) | simp [bytes_app]), HTX, HB1.out⟩
                          case measure => simp [intOf]; omega
                        · rw [if_neg hz] at hstep
                          have HTX := Lib.hid hstep
                          have hz2 : (z == []) = false := by simpa using hz
                          clear hstep hw htl hvk hka
                          go_wp2_with fail
                          go_quiet (fail)
                          go_wp2_with fail
                          refine (D1.out _).mono ?_
                          rintro e w1 ⟨rfl, hb1⟩
                          have hb1' := below_of (below_drewN' (w := wr) _) hb1 (Nat.le_refl _)
                          have HB1 := Lib.hid (below_of HBZ.out hb1' (Nat.le_refl _))
                          have gk1 := bl hb1'
                          clear hb1 hb1'
                          go_wp2_with fail
                          refine (D2.out _).mono ?_
                          rintro e w2 ⟨rfl, hb2⟩
                          have HB1 := Lib.hid (below_of HB1.out hb2 (Nat.le_refl _))
                          clear hb2
                          go_wp2_with fail
                          go_roundw
                          case rel => exact ⟨k + 1, z ++ [44] ++ (p ++ [45] ++ q), by omega, by go_num, congrArg Value.string (by first | rfl | (simp only [show (⟨#[44]⟩ : ByteArray) = ⟨[44].toArray⟩ from rfl, show (⟨#[45]⟩ : ByteArray) = ⟨[45].toArray⟩ from rfl, bytes_app]; simp) | simp [bytes_app]), HTX, HB1.out⟩
                          case measure => simp [intOf]; omega
              · have HF := Lib.hid (HT.out.done (by omega) HC.out HN0.out)
                clear hly
                go_wp2_with fail
                go_ret2
                exact listG w _ HF.out HBY.out _ rfl
end Go.Proofs.YthifbihmogjjpaaGreatDoor
