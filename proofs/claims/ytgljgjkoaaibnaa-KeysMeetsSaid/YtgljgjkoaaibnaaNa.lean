/-
  The walk of KeysMeets.
-/
import Derived.Test.YtgljgjkoaaibnaaKy
import Derived.Test.YtgljgjkoaaibnaaLa
import Derived.StillTailTactics
namespace Go.Proofs.Ytgljgjkoaaibnaa.KK
open Go.ChangeShapes Go.WideShapes Go.ChangeAt Go.RowKit Go.Proofs

theorem chkR_zero {lo hi : ByteArray} {b : Bool} (h : chkR lo hi b = 0) : lo.size ≤ 32 ∧ hi.size ≤ 32 ∧ (b = false → hi.size = 0) := by
  unfold chkR at h
  split at h
  · cases h
  · rename_i h1
    split at h
    · cases h
    · rename_i h2
      have h1' : lo.size ≤ 32 ∧ hi.size ≤ 32 := by simpa using h1
      refine ⟨h1'.1, h1'.2, fun hb => ?_⟩
      rcases Nat.eq_zero_or_pos hi.size with h | h
      · exact h
      · exact absurd ⟨hb, by omega⟩ h2
theorem chkR_mk {lo hi : ByteArray} {b : Bool} (h1 : lo.size ≤ 32) (h2 : hi.size ≤ 32) (h3 : b = false → hi.size = 0) : chkR lo hi b = 0 := by
  unfold chkR
  rw [if_neg (by simpa using And.intro h1 h2), if_neg (by rintro ⟨hb, h⟩; exact h (h3 hb))]
theorem meet_chk {lo hi lo2 hi2 : ByteArray} {b b2 : Bool} (h : chkR lo hi b = 0) (g : chkR lo2 hi2 b2 = 0) : chkR (mLo lo lo2) (mHi hi b hi2 b2) (mB hi b hi2 b2) = 0 := by
  obtain ⟨h1, h2, h3⟩ := chkR_zero h
  obtain ⟨g1, g2, g3⟩ := chkR_zero g
  refine chkR_mk ?_ ?_ ?_
  · unfold mLo; split <;> assumption
  · unfold mHi; split <;> assumption
  · unfold mB mHi
    split
    · intro hb; cases hb
    · exact h3
theorem lt_hi_min {k h1 h2 : List UInt8} (h : Kl.lt h2 h1 = true) (g : Kl.lt k h2 = true) : Kl.lt k h1 = true := Kl.lt_trans g h
theorem meet_has (lo hi lo2 hi2 k : ByteArray) (b b2 : Bool) (h : chkR lo hi b = 0) (g : chkR lo2 hi2 b2 = 0) :
    hasB (mLo lo lo2) (mHi hi b hi2 b2) (mB hi b hi2 b2) k = (hasB lo hi b k && hasB lo2 hi2 b2 k) := by
  have hL : (!Kl.lt (Kl.L k) (Kl.L (mLo lo lo2))) = (!Kl.lt (Kl.L k) (Kl.L lo) && !Kl.lt (Kl.L k) (Kl.L lo2)) := by
    unfold mLo
    cases e : Kl.lt (Kl.L lo) (Kl.L lo2)
    · rw [if_neg (by simp)]
      cases e1 : Kl.lt (Kl.L k) (Kl.L lo)
      · cases e2 : Kl.lt (Kl.L k) (Kl.L lo2)
        · rfl
        · have := Kl.lt_le e2 e
          rw [this] at e1; cases e1
      · rfl
    · rw [if_pos rfl]
      cases e2 : Kl.lt (Kl.L k) (Kl.L lo2)
      · cases e1 : Kl.lt (Kl.L k) (Kl.L lo)
        · rfl
        · have := Kl.lt_trans e1 e
          rw [this] at e2; cases e2
      · simp
  have hH : (!mB hi b hi2 b2 || Kl.lt (Kl.L k) (Kl.L (mHi hi b hi2 b2))) = ((!b || Kl.lt (Kl.L k) (Kl.L hi)) && (!b2 || Kl.lt (Kl.L k) (Kl.L hi2))) := by
    unfold mB mHi mTake
    cases b <;> cases b2
    · simp
    · simp
    · simp
    · cases e : Kl.lt (Kl.L hi2) (Kl.L hi)
      · cases e1 : Kl.lt (Kl.L k) (Kl.L hi)
        · simp [e1]
        · have := Kl.lt_le e1 e
          simp [e1, this]
      · cases e2 : Kl.lt (Kl.L k) (Kl.L hi2)
        · simp [e2]
        · have := Kl.lt_trans e2 e
          simp [e2, this]
  unfold hasB
  rw [hL, hH]
  cases Kl.lt (Kl.L k) (Kl.L lo) <;> cases Kl.lt (Kl.L k) (Kl.L lo2) <;> simp
theorem empty_none {lo hi k : ByteArray} {b : Bool} (h : hasB lo hi b lo = false) : hasB lo hi b k = false := by
  unfold hasB at *
  rw [Kl.lt_irrefl] at h
  cases b
  · simp at h
  · have h' : Kl.lt (Kl.L lo) (Kl.L hi) = false := by simpa using h
    cases e1 : Kl.lt (Kl.L k) (Kl.L lo)
    · cases e2 : Kl.lt (Kl.L k) (Kl.L hi)
      · rfl
      · have := Kl.le_lt e1 e2
        rw [this] at h'; cases h'
    · rfl
theorem of_chk {lo : ByteArray} (h : lo.size ≤ 32) : chkR lo ⟨(ofHi (Kl.L lo)).toArray⟩ (ofB (Kl.L lo)) = 0 := by
  refine chkR_mk h ?_ ?_
  · rw [size_mk]
    unfold ofHi
    rw [Kl.L_length, if_pos h]
    cases hr : Kl.rai (Kl.L lo) with
    | none => simp
    | some p =>
      have := (Kl.rai_length hr).1
      rw [Kl.L_length] at this
      simp; omega
  · rw [size_mk]
    unfold ofHi ofB
    rw [Kl.L_length, if_pos h, if_pos h]
    cases hr : Kl.rai (Kl.L lo) with
    | none => intro _; rfl
    | some p => intro h; cases h
theorem of_has {lo : ByteArray} (k : ByteArray) (h : lo.size ≤ 32) : hasB lo ⟨(ofHi (Kl.L lo)).toArray⟩ (ofB (Kl.L lo)) k = (Kl.L lo).isPrefixOf (Kl.L k) := by
  unfold hasB
  have e1 : Kl.L ⟨(ofHi (Kl.L lo)).toArray⟩ = ofHi (Kl.L lo) := rfl
  rw [e1]
  unfold ofHi ofB
  rw [Kl.L_length, if_pos h, if_pos h]
  cases hr : Kl.rai (Kl.L lo) with
  | none => exact (pre_bool (by rw [Kl.rai_none hr]; simp)).symm
  | some p => exact (pre_bool (by rw [Kl.rai_some hr]; simp)).symm
theorem in_key (lo hi : ByteArray) (b : Bool) (k : ByteArray) (w : World) (v : Bool) (hc : chkR lo hi b = 0) (hk : k.size ≤ 32) (hv : hasB lo hi b k = v) :
    Calls Try.prog 25 #[.agg #[.string lo, .string hi, .bool b], .string k] w fun e w' => e = .returned (.tuple #[.bool v, .int .i64 0]) ∧ Below w.heap.size w w' := by
  obtain ⟨h1, h2, _⟩ := chkR_zero hc
  have := kIn_any lo hi b k w (by omega) (by omega) (by omega)
  have e : inE lo hi b k = 0 := by unfold inE; rw [hc, if_neg (by simp), chk1_ok hk]
  have e2 : inV lo hi b k = v := by unfold inV; rw [e, hv]; simp
  rwa [e, e2] at this
theorem in_long (lo hi : ByteArray) (b : Bool) (k : ByteArray) (w : World) (hc : chkR lo hi b = 0) (hk : ¬ k.size ≤ 32) (hm : k.size ≤ 9223372036854775807) :
    Calls Try.prog 25 #[.agg #[.string lo, .string hi, .bool b], .string k] w fun e w' => e = .returned (.tuple #[.bool false, .int .i64 3]) ∧ Below w.heap.size w w' := by
  obtain ⟨h1, h2, _⟩ := chkR_zero hc
  have := kIn_any lo hi b k w (by omega) (by omega) hm
  have e : inE lo hi b k = 3 := by unfold inE; rw [hc, if_neg (by simp), chk1_no hk]
  have e2 : inV lo hi b k = false := by unfold inV; rw [e]; simp
  rwa [e, e2] at this

end Go.Proofs.Ytgljgjkoaaibnaa.KK
