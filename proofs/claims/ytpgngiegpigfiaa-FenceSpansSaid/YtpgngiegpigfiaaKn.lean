/-
  Contracts of In and Empty, on both sides.
-/
import Derived.Test.YtpgngiegpigfiaaKm
namespace Go.Proofs.Ytpgngiegpigfiaa.KK
open Go.ChangeShapes Go.WideShapes Go.ChangeAt Go.RowKit Go.Proofs

def inE (lo hi : ByteArray) (b : Bool) (k : ByteArray) : Int := if chkR lo hi b ≠ 0 then chkR lo hi b else chk1 k.size
def inV (lo hi : ByteArray) (b : Bool) (k : ByteArray) : Bool := decide (inE lo hi b k = 0) && hasB lo hi b k
def emptyV (lo hi : ByteArray) (b : Bool) : Bool := decide (chkR lo hi b = 0) && (b && !Kl.lt (Kl.L lo) (Kl.L hi))
theorem emptyV_has {lo hi : ByteArray} {b : Bool} (h : chkR lo hi b = 0) : emptyV lo hi b = !hasB lo hi b lo := by
  unfold emptyV hasB
  rw [decide_eq_true h, Kl.lt_irrefl]
  cases b <;> simp
theorem chkR_ne {lo hi : ByteArray} {b : Bool} (h : ¬ chkR lo hi b = 0) : chkR lo hi b = 3 ∨ chkR lo hi b = 6 := by
  unfold chkR at h ⊢
  split
  · exact .inl rfl
  · split
    · exact .inr rfl
    · rename_i h1 h2; rw [if_neg h1, if_neg h2] at h; exact absurd rfl h
theorem cells3 {w w1 : World} {o : Obj} (hb : Below (w.alloc o).heap.size (w.alloc o) w1) : (∀ i, w1.cell? ⟨w.heap.size, i, none⟩ = (w.alloc o).cell? ⟨w.heap.size, i, none⟩) :=
  fun i => hb.cell (p := ⟨w.heap.size, i, none⟩) (by simp)

set_option maxRecDepth 100000 in
set_option maxHeartbeats 1000000 in
theorem kEmpty_any (lo hi : ByteArray) (b : Bool) (w : World) (h1 : lo.size ≤ 9223372036854775807) (h2 : hi.size ≤ 9223372036854775807) :
    Calls Try.prog 51 #[.agg #[.string lo, .string hi, .bool b]] w fun e w' => e = .returned (.tuple #[.bool (emptyV lo hi b), .int .i64 (chkR lo hi b)]) ∧ Below w.heap.size w w' := by
  have K1 := fun w => kCheckRange_any lo hi b w h1 h2
  have K3 := fun w => has_any lo hi b lo w
  by_cases hc : chkR lo hi b = 0
  · have HV := Lib.hid (emptyV_has hc)
    rw [hc] at K1 ⊢
    have J1 := Lib.hid K1
    obtain ⟨hv, hhv⟩ : ∃ v, hasB lo hi b lo = v := ⟨_, rfl⟩
    rw [hhv] at K3 HV
    have J3 := Lib.hid K3
    clear K1 K3 hhv hc
    go_enter Try.func51, Try.ntmps51
    go_wp2_with fail
    refine (J1.out _).mono ?_
    rintro e w1 ⟨rfl, hb⟩
    have q0 := cells3 hb 0
    have q1 := cells3 hb 1
    have q2 := cells3 hb 2
    have HB := Lib.hid (((Below.refl w.heap.size w).alloc (Nat.le_refl _) _).trans (hb.mono (by simp)))
    clear hb
    go_wp2_with fail
    refine (J3.out _).mono ?_
    rintro e w2 ⟨rfl, hb⟩
    have HB := Lib.hid (below_of HB.out hb (Nat.le_refl _))
    clear hb
    go_wp2_with fail
    go_ret2
    exact ⟨by rw [HV.out]; rfl, HB.out⟩
  · have HV : Hid (emptyV lo hi b = false) := Lib.hid (by unfold emptyV; rw [decide_eq_false hc, Bool.false_and])
    rcases chkR_ne hc with h36 | h36
    all_goals
      rw [h36] at K1 ⊢
      have J1 := Lib.hid K1
      clear K1 K3 hc h36
      go_enter Try.func51, Try.ntmps51
      go_wp2_with fail
      refine (J1.out _).mono ?_
      rintro e w1 ⟨rfl, hb⟩
      have HB := Lib.hid (((Below.refl w.heap.size w).alloc (Nat.le_refl _) _).trans (hb.mono (by simp)))
      clear hb
      go_wp2_with fail
      go_ret2
      exact ⟨by rw [HV.out]; rfl, HB.out⟩
set_option maxRecDepth 100000 in
set_option maxHeartbeats 1000000 in
theorem rEmpty_any (lo hi : ByteArray) (b : Bool) (w : World) (h1 : lo.size ≤ 9223372036854775807) (h2 : hi.size ≤ 9223372036854775807) :
    Calls Try.prog 31 #[.agg #[.string lo, .string hi, .bool b]] w fun e w' => e = .returned (.tuple #[.bool (emptyV lo hi b), .int .i64 (chkR lo hi b)]) ∧ Below w.heap.size w w' := by
  have K1 := fun w => rCheckRange_any lo hi b w h1 h2
  have K3 := fun w => Order_any hi lo w h2 h1
  by_cases hc : chkR lo hi b = 0
  · rw [hc] at K1
    have J1 := Lib.hid K1
    cases b with
    | false =>
      have HV : Hid (emptyV lo hi false = false) := Lib.hid (by unfold emptyV; simp)
      rw [hc]
      clear K1 K3 hc
      go_enter Try.func31, Try.ntmps31
      go_wp2_with fail
      refine (J1.out _).mono ?_
      rintro e w1 ⟨rfl, hb⟩
      have q0 := cells3 hb 0
      have q1 := cells3 hb 1
      have q2 := cells3 hb 2
      have HB := Lib.hid (((Below.refl w.heap.size w).alloc (Nat.le_refl _) _).trans (hb.mono (by simp)))
      clear hb
      go_wp2_with fail
      go_ret2
      exact ⟨by rw [HV.out]; rfl, HB.out⟩
    | true =>
      have hn := Kl.ord_nonpos (a := Kl.L hi) (b := Kl.L lo)
      obtain ⟨o, ho⟩ : ∃ o, Kl.ord (Kl.L hi) (Kl.L lo) = o := ⟨_, rfl⟩
      rw [ho] at K3 hn
      have HV : Hid (emptyV lo hi true = decide (o ≤ 0)) := Lib.hid (by
        unfold emptyV
        rw [decide_eq_true hc]
        cases hl : Kl.lt (Kl.L lo) (Kl.L hi)
        · rw [decide_eq_true (hn.2 hl)]; rfl
        · rw [decide_eq_false (fun h => by rw [hn.1 h] at hl; cases hl)]; rfl)
      have J3 := Lib.hid K3
      rw [hc]
      clear K1 K3 hc ho hn
      go_enter Try.func31, Try.ntmps31
      go_wp2_with fail
      refine (J1.out _).mono ?_
      rintro e w1 ⟨rfl, hb⟩
      have q0 := cells3 hb 0
      have q1 := cells3 hb 1
      have q2 := cells3 hb 2
      have HB := Lib.hid (((Below.refl w.heap.size w).alloc (Nat.le_refl _) _).trans (hb.mono (by simp)))
      clear hb
      go_wp2_with fail
      refine (J3.out _).mono ?_
      rintro e w2 ⟨rfl, hb⟩
      have HB := Lib.hid (below_of HB.out hb (Nat.le_refl _))
      clear hb
      go_wp2_with fail
      go_ret2
      exact ⟨by rw [HV.out]; rfl, HB.out⟩
  · have HV : Hid (emptyV lo hi b = false) := Lib.hid (by unfold emptyV; rw [decide_eq_false hc, Bool.false_and])
    rcases chkR_ne hc with h36 | h36
    all_goals
      rw [h36] at K1 ⊢
      have J1 := Lib.hid K1
      clear K1 K3 hc h36
      go_enter Try.func31, Try.ntmps31
      go_wp2_with fail
      refine (J1.out _).mono ?_
      rintro e w1 ⟨rfl, hb⟩
      have HB := Lib.hid (((Below.refl w.heap.size w).alloc (Nat.le_refl _) _).trans (hb.mono (by simp)))
      clear hb
      go_wp2_with fail
      go_ret2
      exact ⟨by rw [HV.out]; rfl, HB.out⟩
end Go.Proofs.Ytpgngiegpigfiaa.KK
