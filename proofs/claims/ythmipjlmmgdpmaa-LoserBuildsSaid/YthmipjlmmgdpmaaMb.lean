/-
  The reference's trees: the player of a node; right.
-/
import Derived.Test.YthmipjlmmgdpmaaMa
namespace Go.Proofs.Ythmipjlmmgdpmaa.KK
open Go.ChangeShapes Go.WideShapes Go.ChangeAt Go.RowKit Go.Proofs

set_option maxRecDepth 100000 in
set_option maxHeartbeats 2000000 in
theorem player_any (A : Option Addr) (c : Nat) (ks : List LK) (n : Nat) (hks : ks.length = n) (hn : n ≤ 32) (hall : ∀ k ∈ ks, keyE k = 0) : ∀ (f i : Nat), 2 * n - i ≤ f → 1 ≤ i → i < 2 * n → ∀ (w : World), KsAt w A ks →
    Calls Try.prog 58 #[.slice A n c, .int .i64 i] w fun e w' => e = .returned (.tuple #[.int .i64 (Lo.pl (wn ks) n i : Nat), .int .i64 ((if n ≤ i then 0 else Lo.lo (wn ks) n i : Nat) : Int)]) ∧ Below w.heap.size w w'
  | f, i, hf, h1, h2, w, hk => by
    by_cases hni : n ≤ i
    · have HP : Hid (Lo.pl (wn ks) n i = i - n) := Lib.hid (by rw [Lo.pl, dif_pos (.inl hni)])
      have hsub : (i : Int) - (n : Int) = ((i - n : Nat) : Int) := by omega
      rw [if_pos hni, HP.out]
      have hl : (n : Int) ≤ (i : Int) := by omega
      generalize i - n = d at *
      clear hk hall hf
      go_enter Try.func58, Try.ntmps58
      go_wp2_with fail
      go_ret2
      exact ⟨rfl, Below.refl _ _⟩
    · cases f with
      | zero => omega
      | succ f =>
        have hp1 := Lo.pl_lt (W := wn ks) (n := n) (i := 2 * i) (by omega) (by omega)
        have hp2 := Lo.pl_lt (W := wn ks) (n := n) (i := 2 * i + 1) (by omega) (by omega)
        have J1 := Lib.hid (player_any A c ks n hks hn hall f (2 * i) (by omega) (by omega) (by omega))
        have J2 := Lib.hid (player_any A c ks n hks hn hall f (2 * i + 1) (by omega) (by omega) (by omega))
        have JW := Lib.hid (fun (w' : World) (h : KsAt w' A ks) => by
          have K := wins_any A c ks (Lo.pl (wn ks) n (2 * i)) (Lo.pl (wn ks) n (2 * i + 1)) (by omega) (by omega) w' h (by omega)
          rw [rw10_wn (by rw [kAt_lt (by omega)]; exact hall _ (List.getElem_mem _)) (by rw [kAt_lt (by omega)]; exact hall _ (List.getElem_mem _)), hks] at K
          exact K)
        have HE : Hid (Lo.pl (wn ks) n i = (if wn ks (Lo.pl (wn ks) n (2 * i)) (Lo.pl (wn ks) n (2 * i + 1)) then Lo.pl (wn ks) n (2 * i) else Lo.pl (wn ks) n (2 * i + 1)) ∧ Lo.lo (wn ks) n i = (if wn ks (Lo.pl (wn ks) n (2 * i)) (Lo.pl (wn ks) n (2 * i + 1)) then Lo.pl (wn ks) n (2 * i + 1) else Lo.pl (wn ks) n (2 * i))) :=
          Lib.hid ⟨Lo.pl_node h1 (by omega), rfl⟩
        rw [if_neg hni, HE.out.1, HE.out.2]
        have hl : ¬ (n : Int) ≤ (i : Int) := by omega
        have hl2 : (i : Int) < (n : Int) := by omega
        have HK := Lib.hid hk
        clear hk HE hall hf hni
        obtain ⟨i2, hi2⟩ : ∃ i2, 2 * i = i2 := ⟨_, rfl⟩
        have hi3 : (2 : Int) * (i : Int) = (i2 : Int) := by omega
        have hi4 : i2 ≤ 64 := by omega
        rw [hi2] at J1 J2 JW hp1 hp2 ⊢
        clear hi2
        generalize (if n ≤ i2 then 0 else Lo.lo (wn ks) n i2) = s1 at *
        generalize (if n ≤ i2 + 1 then 0 else Lo.lo (wn ks) n (i2 + 1)) = s2 at *
        generalize Lo.pl (wn ks) n i2 = a at *
        generalize Lo.pl (wn ks) n (i2 + 1) = b at *
        generalize wn ks a b = r at *
        cases r with
        | true =>
          simp only [if_true]
          have JJ1 := Lib.hid (J1.out w HK.out)
          go_enter Try.func58, Try.ntmps58
          go_wp2_with fail
          refine JJ1.out.mono ?_
          rintro e w1 ⟨rfl, hb⟩
          have HB1 := Lib.hid hb
          have HK1 := Lib.hid (HK.out.below hb (Nat.le_refl _))
          clear hb JJ1
          go_wp2_with fail
          refine (J2.out w1 HK1.out).mono ?_
          rintro e w2 ⟨rfl, hb⟩
          have HB2 := Lib.hid (eb_of HB1.out hb (Nat.le_refl _))
          have HK2 := Lib.hid (HK1.out.below hb (Nat.le_refl _))
          clear hb
          go_wp2_with fail
          refine (JW.out w2 HK2.out).mono ?_
          rintro e w3 ⟨rfl, hb⟩
          have HB3 := Lib.hid (eb_of HB2.out hb (Nat.le_refl _))
          clear hb
          go_wp2_with fail
          go_ret2
          exact ⟨rfl, HB3.out⟩
        | false =>
          simp only [Bool.false_eq_true, if_false]
          have JJ1 := Lib.hid (J1.out w HK.out)
          go_enter Try.func58, Try.ntmps58
          go_wp2_with fail
          refine JJ1.out.mono ?_
          rintro e w1 ⟨rfl, hb⟩
          have HB1 := Lib.hid hb
          have HK1 := Lib.hid (HK.out.below hb (Nat.le_refl _))
          clear hb JJ1
          go_wp2_with fail
          refine (J2.out w1 HK1.out).mono ?_
          rintro e w2 ⟨rfl, hb⟩
          have HB2 := Lib.hid (eb_of HB1.out hb (Nat.le_refl _))
          have HK2 := Lib.hid (HK1.out.below hb (Nat.le_refl _))
          clear hb
          go_wp2_with fail
          refine (JW.out w2 HK2.out).mono ?_
          rintro e w3 ⟨rfl, hb⟩
          have HB3 := Lib.hid (eb_of HB2.out hb (Nat.le_refl _))
          clear hb
          go_wp2_with fail
          go_ret2
          exact ⟨rfl, HB3.out⟩
set_option maxHeartbeats 1000000 in
theorem right_any (A : Option Addr) (c : Nat) (ks : List LK) (w : World) (hf : KsAt w A ks) (hn : ks.length ≤ 4294967295) :
    Calls Try.prog 40 #[.slice A ks.length c] w fun e w' => e = .returned (.int .i64 (keysE ks)) ∧ Below w.heap.size w w' := by
  by_cases h0 : ks.length = 0
  · have H : Hid (keysE ks = 6) := Lib.hid (if_pos h0)
    rw [h0]
    clear h0 hf
    go_enter Try.func40, Try.ntmps40
    go_wp2_with fail
    go_ret
    exact ⟨retI (by rw [H.out]), Below.refl _ _⟩
  by_cases h32 : 32 < ks.length
  · have H : Hid (keysE ks = 3) := Lib.hid (by unfold keysE; rw [if_neg h0, if_pos h32])
    clear hf
    have hz : ((ks.length : Int) == 0) = false := by rw [beq_eq_false_iff_ne]; omega
    go_enter Try.func40, Try.ntmps40
    go_wp2_with fail
    go_ret
    exact ⟨retI (by rw [H.out]), Below.refl _ _⟩
  have HAL : Hid (keysE ks = firstK ks) := Lib.hid (by unfold keysE; rw [if_neg h0, if_neg h32])
  have HF := Lib.hid hf
  obtain ⟨n, hnn⟩ : ∃ n, ks.length = n := ⟨_, rfl⟩
  rw [hnn] at hn h0 h32 ⊢
  have HN := Lib.hid hnn
  have hz : ((n : Int) == 0) = false := by rw [beq_eq_false_iff_ne]; omega
  clear hf hnn
  go_enter Try.func40, Try.ntmps40
  go_wp2_with fail
  go_loopw [3] (fun i wr => ∃ k : Nat, k ≤ n ∧ i = .int .i64 k ∧ Below w.heap.size w wr ∧ firstK ks = firstK (ks.drop k)) (fun i _ => n - (intOf i).toNat)
  case atStart => exact ⟨0, Nat.zero_le _, rfl, Below.refl _ _, rfl⟩
  case round =>
    obtain ⟨k, hk, rfl, hb, ha⟩ := hrel
    have hsz := hb.size
    have HA := Lib.hid ha
    have HB := Lib.hid hb
    have hf' := HF.out.below hb (Nat.le_refl _)
    clear ha hb
    by_cases hlt : k < n
    · have hl' : k < ks.length := by rw [HN.out]; exact hlt
      rcases hf' with h0 | ⟨b, off, rfl, hbl, hc⟩
      · subst h0; simp at hl'
      obtain ⟨g0, g1⟩ := hc k hl'
      have l1 : (k : Int) < (n : Int) := by omega
      clear hc
      cases hd : ks[k].2 with
      | false =>
        have HL := Lib.hid (firstK_ok hl' (show keyE ks[k] = 0 by unfold keyE; rw [hd]; simp))
        rw [hd] at g1
        clear hd
        generalize ks[k] = m at *
        go_wp2_with fail
        go_roundw
        case rel => exact ⟨k + 1, by omega, by go_num, HB.out, HA.out.trans HL.out⟩
        case measure => simp [intOf]; omega
      | true =>
        by_cases hz : ks[k].1.size = 0
        · have HL := Lib.hid (firstK_ok hl' (show keyE ks[k] = 0 by unfold keyE; rw [if_neg (by simp [hz])]))
          have z1 := str_empty _ hz
          rw [hd] at g1
          clear hd hz
          generalize ks[k] = m at *
          go_wp2_with fail
          go_roundw
          case rel => exact ⟨k + 1, by omega, by go_num, HB.out, HA.out.trans HL.out⟩
          case measure => simp [intOf]; omega
        · have hke : keyE ks[k] = 2 := by unfold keyE; rw [if_pos ⟨hd, hz⟩]
          have HL := Lib.hid (show firstK (ks.drop k) = 2 by rw [firstK_no hl' (by rw [hke]; decide), hke])
          obtain ⟨z1, z2⟩ := str_full _ hz
          rw [hd] at g1
          clear hd hz hke
          generalize ks[k] = m at *
          go_wp2_with fail
          go_ret
          exact ⟨retI (by rw [HAL.out, HA.out, HL.out]), HB.out⟩
    · have HL := Lib.hid (firstK_end (xs := ks) (k := k) (by rw [HN.out]; omega))
      go_wp2_with fail
      go_ret
      exact ⟨retI (by rw [HAL.out, HA.out, HL.out]), HB.out⟩
end Go.Proofs.Ythmipjlmmgdpmaa.KK
