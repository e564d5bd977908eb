/-
  The first slot of a table that is free (pins).
-/
import Derived.Test.YtbgpcmpbfenplaaVy
namespace Go.Proofs.Ytbgpcmpbfenplaa.KK
open Go.ChangeShapes Go.WideShapes Go.ChangeAt Go.RowKit Go.Proofs
def freeI : Nat → List Sl → Int
  | _, [] => -1
  | i, s :: l => if s.2.1 = true then freeI (i + 1) l else i
theorem freeI_held {ss : List Sl} {k : Nat} (h : k < ss.length) (g : ss[k].2.1 = true) : freeI k (ss.drop k) = freeI (k + 1) (ss.drop (k + 1)) := by
  rw [List.drop_eq_getElem_cons h, freeI, if_pos g]
theorem freeI_free {ss : List Sl} {k : Nat} (h : k < ss.length) (g : ss[k].2.1 = false) : freeI k (ss.drop k) = k := by
  rw [List.drop_eq_getElem_cons h, freeI, if_neg (by rw [g]; simp)]
theorem freeI_none {ss : List Sl} {k : Nat} (h : ¬ k < ss.length) : freeI k (ss.drop k) = -1 := by
  rw [List.drop_eq_nil_of_le (by omega)]; rfl
set_option maxRecDepth 100000 in
theorem isfree_any (g : Int) (h : Bool) (a : Option Addr) (m d : Nat) (w : World) : Calls Try.prog 98 #[.agg #[.int .i64 g, .bool h, .slice a m d]] w fun e w' => e = .returned (.bool (!h)) ∧ Below w.heap.size w w' := by
  go_enter Try.func98, Try.ntmps98
  go_wp2_with fail
  go_ret
  exact ⟨rfl, alloc_below w _⟩
set_option maxRecDepth 100000 in
set_option maxHeartbeats 4000000 in
theorem free_any (S : Option Addr) (c : Nat) (ss : List Sl) (w : World) (hss : SlAt w S ss) (hn : ss.length ≤ 100) (hv : ∀ s ∈ ss, ∃ a m d, s.2.2 = .slice a m d) :
    Calls Try.prog 97 #[.slice S ss.length c, .func (.func 98) #[] #[]] w fun e w' => e = .returned (.int .i64 (freeI 0 ss)) ∧ Below w.heap.size w w' := by
  have HF := Lib.hid hss
  have HV := Lib.hid hv
  obtain ⟨n, hnn⟩ : ∃ n, ss.length = n := ⟨_, rfl⟩
  rw [hnn] at hn ⊢
  have HN := Lib.hid hnn
  clear hss hv hnn
  go_enter Try.func97, Try.ntmps97
  go_wp2_with fail
  go_loopw [8] (fun i wr => ∃ k : Nat, k ≤ n ∧ i = .int .i64 k ∧ Below w.heap.size w wr ∧ freeI 0 ss = freeI k (ss.drop k)) (fun i _ => n - (intOf i).toNat)
  case atStart => exact ⟨0, Nat.zero_le _, rfl, Below.refl _ _, rfl⟩
  case round =>
    obtain ⟨k, hk, rfl, hb, ha⟩ := hrel
    have HA := Lib.hid ha
    have HB := Lib.hid hb
    clear ha hb
    by_cases hlt : k < n
    rotate_left
    · have hf1 : ¬ (k : Int) < (n : Int) := by omega
      go_wp2_with fail
      go_ret
      exact ⟨retI (by rw [HA.out, freeI_none (by rw [HN.out]; exact hlt)]), HB.out⟩
    have hf1 : (k : Int) < (n : Int) := by omega
    have hlx : k < ss.length := by rw [HN.out]; exact hlt
    rcases HF.out.below HB.out (Nat.le_refl _) with h0 | ⟨b, off, rfl, hbl, hc⟩
    · rw [h0] at hlx; simp at hlx
    obtain ⟨g0, g1, g2⟩ := hc k hlx
    obtain ⟨sa, sm, sd, hsv⟩ := HV.out _ (List.getElem_mem hlx)
    have HH := Lib.hid (freeI_held hlx)
    have HFR := Lib.hid (freeI_free hlx)
    obtain ⟨⟨sg, sh, sw⟩, hs⟩ : ∃ s, ss[k] = s := ⟨_, rfl⟩
    rw [hs] at g0 g1 g2 hsv HH HFR
    simp only at g0 g1 g2 hsv
    subst hsv
    clear hc hs
    have J := Lib.hid (isfree_any sg sh sa sm sd wr)
    cases sh with
    | false =>
      have HE := Lib.hid (HFR.out rfl)
      clear HH HFR
      go_wp2_with fail
      refine J.out.mono ?_
      rintro e w1 ⟨rfl, hb⟩
      have HB1 := Lib.hid (eb_of HB.out hb (Nat.le_refl _))
      clear hb
      go_wp2_with fail
      go_ret
      exact ⟨retI (by rw [HA.out, HE.out]), HB1.out⟩
    | true =>
      have HE := Lib.hid (HH.out rfl)
      clear HH HFR
      go_wp2_with fail
      refine J.out.mono ?_
      rintro e w1 ⟨rfl, hb⟩
      have HB1 := Lib.hid (eb_of HB.out hb (Nat.le_refl _))
      clear hb
      go_wp2_with fail
      go_roundw
      case rel => exact ⟨k + 1, by omega, by go_num, HB1.out, HA.out.trans HE.out⟩
      case measure => simp [intOf]; omega
end Go.Proofs.Ytbgpcmpbfenplaa.KK
