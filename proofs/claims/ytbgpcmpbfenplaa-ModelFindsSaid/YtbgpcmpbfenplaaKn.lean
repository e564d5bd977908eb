/-
  Contracts of In and Empty, on both sides.
-/
import Derived.Test.YtbgpcmpbfenplaaKm
namespace Go.Proofs.Ytbgpcmpbfenplaa.KK
open Go.ChangeShapes Go.WideShapes Go.ChangeAt Go.RowKit Go.Proofs

def inE (lo hi : ByteArray) (b : Bool) (k : ByteArray) : Int := if chkR lo hi b ≠ 0 then chkR lo hi b else chk1 k.size
def inV (lo hi : ByteArray) (b : Bool) (k : ByteArray) : Bool := decide (inE lo hi b k = 0) && hasB lo hi b k
def emptyV (lo hi : ByteArray) (b : Bool) : Bool := decide (chkR lo hi b = 0) && (b && !Kl.lt (Kl.L lo) (Kl.L hi))
theorem emptyV_has {lo hi : ByteArray} {b : Bool} (h : chkR lo hi b = 0) : emptyV lo hi b = !hasB lo hi b lo := by
  unfold emptyV hasB
  rw [decide_eq_true h, Kl.lt_irrefl]
  cases b <;> simp
theorem chkR_ne {lo hi : ByteArray} {b : Bool} (h : ¬ chkR lo hi b = 0) : chkR lo hi b = 3 ∨ chkR lo hi b = 6 := by
  unfold chkR at h ⊢
  split
  · exact .inl rfl
  · split
    · exact .inr rfl
    · rename_i h1 h2; rw [if_neg h1, if_neg h2] at h; exact absurd rfl h
theorem cells3k {w w1 : World} {o : Obj} (hb : Below (w.alloc o).heap.size (w.alloc o) w1) : (∀ i, w1.cell? ⟨w.heap.size, i, none⟩ = (w.alloc o).cell? ⟨w.heap.size, i, none⟩) :=
  fun i => hb.cell (p := ⟨w.heap.size, i, none⟩) (by simp)

set_option maxRecDepth 100000 in
set_option maxHeartbeats 1000000 in
theorem kIn_any (lo hi : ByteArray) (b : Bool) (k : ByteArray) (w : World) (h1 : lo.size ≤ 9223372036854775807) (h2 : hi.size ≤ 9223372036854775807) (h3 : k.size ≤ 9223372036854775807) :
    Calls Try.prog 51 #[.agg #[.string lo, .string hi, .bool b], .string k] w fun e w' => e = .returned (.tuple #[.bool (inV lo hi b k), .int .i64 (inE lo hi b k)]) ∧ Below w.heap.size w w' := by
  have K1 := fun w => kCheckRange_any lo hi b w h1 h2
  have K2 := fun w => kCheck_any k w h3
  have K3 := fun w => has_any lo hi b k w 
  by_cases hc : chkR lo hi b = 0
  · rw [hc] at K1
    have J1 := Lib.hid K1
    have J2 := Lib.hid K2
    clear K1 K2
    by_cases hk : k.size ≤ 32
    · have HV : Hid (inV lo hi b k = hasB lo hi b k) := Lib.hid (by unfold inV inE; rw [hc, if_neg (by simp), chk1_ok hk]; simp)
      have HE : Hid (inE lo hi b k = 0) := Lib.hid (by unfold inE; rw [hc, if_neg (by simp), chk1_ok hk])
      obtain ⟨hv, hhv⟩ : ∃ v, hasB lo hi b k = v := ⟨_, rfl⟩
      rw [hhv] at K3 HV
      have J3 := Lib.hid K3
      rw [chk1_ok hk] at J2
      clear K3 hhv hk hc
      go_enter Try.func51, Try.ntmps51
      go_wp2_with fail
      refine (J1.out _).mono ?_
      rintro e w1 ⟨rfl, hb⟩
      have q0 := cells3k hb 0
      have q1 := cells3k hb 1
      have q2 := cells3k hb 2
      have HB := Lib.hid (((Below.refl w.heap.size w).alloc (Nat.le_refl _) _).trans (hb.mono (by simp)))
      clear hb
      go_wp2_with fail
      refine (J2.out _).mono ?_
      rintro e w' ⟨rfl, rfl⟩
      go_wp2_with fail
      refine (J3.out _).mono ?_
      rintro e w2 ⟨rfl, hb⟩
      have HB := Lib.hid (below_of HB.out hb (Nat.le_refl _))
      clear hb
      go_wp2_with fail
      go_ret2
      exact ⟨by rw [HV.out, HE.out]; rfl, HB.out⟩
    · have HV : Hid (inV lo hi b k = false) := Lib.hid (by unfold inV inE; rw [hc, if_neg (by simp), chk1_no hk]; simp)
      have HE : Hid (inE lo hi b k = 3) := Lib.hid (by unfold inE; rw [hc, if_neg (by simp), chk1_no hk])
      rw [chk1_no hk] at J2
      clear K3 hk hc
      go_enter Try.func51, Try.ntmps51
      go_wp2_with fail
      refine (J1.out _).mono ?_
      rintro e w1 ⟨rfl, hb⟩
      have HB := Lib.hid (((Below.refl w.heap.size w).alloc (Nat.le_refl _) _).trans (hb.mono (by simp)))
      clear hb
      go_wp2_with fail
      refine (J2.out _).mono ?_
      rintro e w' ⟨rfl, rfl⟩
      go_wp2_with fail
      go_ret2
      exact ⟨by rw [HV.out, HE.out]; rfl, HB.out⟩
  · have HV : Hid (inV lo hi b k = false) := Lib.hid (by unfold inV inE; rw [if_pos hc, decide_eq_false hc, Bool.false_and])
    have HE : Hid (inE lo hi b k = chkR lo hi b) := Lib.hid (by unfold inE; rw [if_pos hc])
    rcases chkR_ne hc with h36 | h36
    all_goals
      rw [h36] at K1 HE
      have J1 := Lib.hid K1
      clear K1 K2 K3 hc h36
      go_enter Try.func51, Try.ntmps51
      go_wp2_with fail
      refine (J1.out _).mono ?_
      rintro e w1 ⟨rfl, hb⟩
      have HB := Lib.hid (((Below.refl w.heap.size w).alloc (Nat.le_refl _) _).trans (hb.mono (by simp)))
      clear hb
      go_wp2_with fail
      go_ret2
      exact ⟨by rw [HV.out, HE.out]; rfl, HB.out⟩

end Go.Proofs.Ytbgpcmpbfenplaa.KK
