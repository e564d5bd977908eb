/-
  Contract of the reference's Between.
-/
import Derived.Test.YtpgngiegpigfiaaKf
namespace Go.Proofs.Ytpgngiegpigfiaa.KK
open Go.ChangeShapes Go.WideShapes Go.ChangeAt Go.RowKit Go.Proofs

theorem L_app (a b : ByteArray) : Kl.L (a ++ b) = Kl.L a ++ Kl.L b := by simp [Kl.L]
theorem L_ext (s : ByteArray) (n : Nat) : Kl.L (s.extract 0 n) = (Kl.L s).take n := by rw [ext_take]; rfl

set_option maxRecDepth 100000 in
set_option maxHeartbeats 2000000 in
theorem rBetween_any (a b : ByteArray) (w : World) (ha : a.size ≤ 9223372036854775807) (hb : b.size ≤ 9223372036854775807) :
    Calls Try.prog 41 #[.string a, .string b] w fun e w' => e = .returned (strE (btwE (Kl.L a) (Kl.L b))) ∧ Below w.heap.size w w' := by
  have K1 := fun w => two_any a b w ha hb
  have K2 := fun w => Order_any a b w ha hb
  have K3 := fun w => rcommon_any a b w ha hb
  by_cases h : a.size ≤ 32 ∧ b.size ≤ 32
  rotate_left
  · rw [chk2_no h] at K1
    have J1 := Lib.hid K1
    have H : Hid (btwE (Kl.L a) (Kl.L b) = (3, [])) := Lib.hid (by unfold btwE; rw [Kl.L_length, Kl.L_length, if_pos h])
    clear K1 K2 K3 h
    go_enter Try.func41, Try.ntmps41
    go_wp2_with fail
    refine (J1.out _).mono ?_
    rintro e w' ⟨rfl, rfl⟩
    go_wp2_with fail
    go_ret2
    exact ⟨by rw [H.out]; rfl, Below.refl _ _⟩
  rw [chk2_ok h.1 h.2] at K1
  have J1 := Lib.hid K1
  clear K1
  have hbt : btwE (Kl.L a) (Kl.L b) = if Kl.lt (Kl.L a) (Kl.L b) then (0, Kl.btw (Kl.L a) (Kl.L b)) else (6, []) := by unfold btwE; rw [Kl.L_length, Kl.L_length, if_neg (by simpa using h)]
  obtain ⟨o, ho⟩ : ∃ o, Kl.ord (Kl.L a) (Kl.L b) = o := ⟨_, rfl⟩
  rw [ho] at K2
  have J2 := Lib.hid K2
  clear K2
  by_cases hl : Kl.lt (Kl.L a) (Kl.L b) = true
  rotate_left
  · rw [if_neg hl] at hbt
    have H := Lib.hid hbt
    have h0 : 0 ≤ o := by rw [← ho]; exact Kl.ord_nonneg.2 (by simpa using hl)
    clear hbt hl ho K3
    go_enter Try.func41, Try.ntmps41
    go_wp2_with fail
    refine (J1.out _).mono ?_
    rintro e w' ⟨rfl, rfl⟩
    go_wp2_with fail
    refine (J2.out _).mono ?_
    rintro e w1 ⟨rfl, hb1⟩
    have HB := Lib.hid hb1
    clear hb1
    go_wp2_with fail
    go_ret2
    exact ⟨by rw [H.out]; rfl, HB.out⟩
  rw [if_pos hl] at hbt
  have h0 : o < 0 := by rw [← ho]; exact Kl.ord_neg.2 hl
  obtain ⟨t0, t1, t2, t3, t4⟩ := Kl.btw_tries hl
  obtain ⟨T, hT⟩ : ∃ T, Kl.btwC (Kl.L a) (Kl.L b) = T := ⟨_, rfl⟩
  have hcl := Kl.cm_le (Kl.L a) (Kl.L b)
  obtain ⟨c, hc⟩ : ∃ c, Kl.cm (Kl.L a) (Kl.L b) = c := ⟨_, rfl⟩
  rw [hc, Kl.L_length, Kl.L_length] at hcl
  obtain ⟨hca, hcb⟩ := hcl
  rw [hT] at t0 t1 t2 t3 t4
  rw [hc] at t1 t2 t3 t4 K3
  rw [t1] at hbt
  have J3 := Lib.hid K3
  have HBT := Lib.hid hbt
  have HA4 := Lib.hid t4
  have HA2 := Lib.hid t2
  have HA3 := Lib.hid t3
  have hS := h
  clear hbt t1 t2 t3 t4 K3 hc hT ho hl h
  obtain ⟨hs1, hs2⟩ := hS
  go_enter Try.func41, Try.ntmps41
  go_wp2_with fail
  refine (J1.out _).mono ?_
  rintro e w' ⟨rfl, rfl⟩
  go_wp2_with fail
  refine (J2.out _).mono ?_
  rintro e w1 ⟨rfl, hb1⟩
  have HB := Lib.hid hb1
  clear hb1
  go_wp2_with fail
  refine (J3.out _).mono ?_
  rintro e w2 ⟨rfl, hb1⟩
  have HB := Lib.hid (below_of HB.out hb1 (Nat.le_refl _))
  clear hb1
  go_wp2_with fail
  go_loopw [8] (fun i wr => ∃ k : Nat, k ≤ T ∧ i = .int .i64 k ∧ Below w.heap.size w wr) (fun i _ => T + 1 - (intOf i).toNat)
  case atStart => exact ⟨0, Nat.zero_le _, rfl, HB.out⟩
  case round =>
    obtain ⟨k, hk, rfl, hbl⟩ := hrel
    have hsz := hbl.size
    have HB := Lib.hid hbl
    clear hbl
    have hk2 : k < 256 := by omega
    have hkn : (UInt8.ofNat k).toNat = k := UInt8.toNat_ofNat_of_lt' (by show _ < 256; omega)
    have lw : IntKind.u8.wrap (k : Int) = (k : Int) := IntWalk.u8_in _ (by omega)
    have hcv := fun (w : World) (B : Nat) => conv_at w B (k : Int) (UInt8.ofNat k) (by rw [hkn])
    obtain ⟨u, hu⟩ : ∃ u, UInt8.ofNat k = u := ⟨_, rfl⟩
    have hl2 : ¬ 9223372036854775807 < c + 1 := by omega
    have hcb' : ¬ b.size < c := by omega
    have hSL : Kl.L (b.extract 0 c ++ ⟨#[u]⟩) = (Kl.L b).take c ++ [u] := by rw [L_app, L_ext]; rfl
    have hSS : (b.extract 0 c ++ ⟨#[u]⟩).size ≤ 9223372036854775807 := by rw [← Kl.L_length, hSL, List.length_append, List.length_take, Kl.L_length]; simp; omega
    have Ka := fun w => Order_any (b.extract 0 c ++ ⟨#[u]⟩) a w hSS ha
    have Kb := fun w => Order_any (b.extract 0 c ++ ⟨#[u]⟩) b w hSS hb
    rw [hSL] at Ka Kb
    by_cases hkT : k = T
    · subst hkT
      have pa : 0 < Kl.ord ((Kl.L b).take c ++ [u]) (Kl.L a) := by rw [← hu]; exact Kl.ord_pos.2 HA2.out
      have pb : Kl.ord ((Kl.L b).take c ++ [u]) (Kl.L b) ≤ 0 := by rw [← hu]; exact Kl.ord_nonpos.2 HA3.out
      obtain ⟨oa, hoa⟩ : ∃ oa, Kl.ord ((Kl.L b).take c ++ [u]) (Kl.L a) = oa := ⟨_, rfl⟩
      obtain ⟨ob, hob⟩ : ∃ ob, Kl.ord ((Kl.L b).take c ++ [u]) (Kl.L b) = ob := ⟨_, rfl⟩
      rw [hoa] at Ka pa
      rw [hob] at Kb pb
      have HR : Hid ((⟨((Kl.L b).take c ++ [UInt8.ofNat k]).toArray⟩ : ByteArray) = b.extract 0 c ++ ⟨#[u]⟩) := Lib.hid (by rw [hu, mk_L (b.extract 0 c ++ ⟨#[u]⟩), hSL])
      have JA := Lib.hid Ka
      have JB := Lib.hid Kb
      rw [hu] at hcv
      clear Ka Kb hoa hob hSL hSS hu hkn HA4
      go_wp2_with fail
      have z1 := hcv (wr.alloc (.cells #[.int .u8 (k : Int)] 5)) wr.heap.size (cell_new wr _ _)
      have z2 := hcv (wr.drew.alloc (.cells #[.int .u8 (k : Int)] 5)) wr.heap.size (cell_new wr _ _)
      have z3 := hcv (wr.alloc (.cells #[.int .u8 (k : Int)] 5)).drew wr.heap.size (cell_new wr _ _)
      go_region_with (fail)
      all_goals
        go_wp2_with fail
        refine (JA.out _).mono ?_
        rintro e w3 ⟨rfl, hb3⟩
        have HB3 := Lib.hid hb3
        clear hb3
        go_wp2_with fail
        refine (JB.out _).mono ?_
        rintro e w4 ⟨rfl, hb4⟩
        have HB4 := Lib.hid hb4
        clear hb4
        go_wp2_with fail
        go_ret2
        refine ⟨by rw [HBT.out]; unfold strE; dsimp only; rw [HR.out]; rfl, ?_⟩
        have q := HB3.out
        have q4 := HB4.out
        first
          | exact below_of (below_of (HB.out.alloc hsz _) q (by first | (simp; done) | (simp; omega))) q4 (Nat.le_refl _)
          | exact below_of (below_of (below_drewN (HB.out.alloc hsz _) 1) q (by first | (simp; done) | (simp; omega))) q4 (Nat.le_refl _)
    · have hlt : k < T := by omega
      have pa : ¬ 0 < Kl.ord ((Kl.L b).take c ++ [u]) (Kl.L a) := by
        have := Kl.ord_nonpos.2 (HA4.out k hlt)
        rw [hu] at this; omega
      obtain ⟨oa, hoa⟩ : ∃ oa, Kl.ord ((Kl.L b).take c ++ [u]) (Kl.L a) = oa := ⟨_, rfl⟩
      rw [hoa] at Ka pa
      have pa' : decide ((0 : Int) < oa) = false := by simpa using pa
      have JA := Lib.hid Ka
      rw [hu] at hcv
      clear Ka Kb hoa hSL hSS hu hkn HA4 pa hkT
      go_wp2_with fail
      have z1 := hcv (wr.alloc (.cells #[.int .u8 (k : Int)] 5)) wr.heap.size (cell_new wr _ _)
      have z2 := hcv (wr.drew.alloc (.cells #[.int .u8 (k : Int)] 5)) wr.heap.size (cell_new wr _ _)
      have z3 := hcv (wr.alloc (.cells #[.int .u8 (k : Int)] 5)).drew wr.heap.size (cell_new wr _ _)
      go_region_with (fail)
      all_goals
        go_wp2_with fail
        refine (JA.out _).mono ?_
        rintro e w3 ⟨rfl, hb3⟩
        have HB3 := Lib.hid hb3
        clear hb3
        go_wp2_with fail
        go_roundw
        case rel =>
          refine ⟨k + 1, by omega, by go_num, ?_⟩
          have q := HB3.out
          first
            | exact below_of (HB.out.alloc hsz _) q (by first | (simp; done) | (simp; omega))
            | exact below_of (below_drewN (HB.out.alloc hsz _) 1) q (by first | (simp; done) | (simp; omega))
        case measure => simp [intOf]; omega
end Go.Proofs.Ytpgngiegpigfiaa.KK
