/-
  Runs: covers that overlap, plainly.
-/
import Derived.Test.YtjnbdeahmbkbnaaRx
import Derived.Test.YtjnbdeahmbkbnaaSb
namespace Go.Proofs.Ytjnbdeahmbkbnaa.KK
open Go.ChangeShapes Go.WideShapes Go.ChangeAt Go.RowKit Go.Proofs

theorem chkR_zero {lo hi : ByteArray} {b : Bool} (h : chkR lo hi b = 0) : lo.size ≤ 32 ∧ hi.size ≤ 32 ∧ (b = false → hi.size = 0) := by
  unfold chkR at h
  split at h
  · cases h
  · rename_i h1
    split at h
    · cases h
    · rename_i h2
      have h1' : lo.size ≤ 32 ∧ hi.size ≤ 32 := by simpa using h1
      refine ⟨h1'.1, h1'.2, fun hb => ?_⟩
      rcases Nat.eq_zero_or_pos hi.size with h | h
      · exact h
      · exact absurd ⟨hb, by omega⟩ h2
theorem chkR_mk {lo hi : ByteArray} {b : Bool} (h1 : lo.size ≤ 32) (h2 : hi.size ≤ 32) (h3 : b = false → hi.size = 0) : chkR lo hi b = 0 := by
  unfold chkR
  rw [if_neg (by simpa using And.intro h1 h2), if_neg (by rintro ⟨hb, h⟩; exact h (h3 hb))]
theorem meet_chk {lo hi lo2 hi2 : ByteArray} {b b2 : Bool} (h : chkR lo hi b = 0) (g : chkR lo2 hi2 b2 = 0) : chkR (mLo lo lo2) (mHi hi b hi2 b2) (mB hi b hi2 b2) = 0 := by
  obtain ⟨h1, h2, h3⟩ := chkR_zero h
  obtain ⟨g1, g2, g3⟩ := chkR_zero g
  refine chkR_mk ?_ ?_ ?_
  · unfold mLo; split <;> assumption
  · unfold mHi; split <;> assumption
  · unfold mB mHi
    split
    · intro hb; cases hb
    · exact h3
theorem lt_hi_min {k h1 h2 : List UInt8} (h : Kl.lt h2 h1 = true) (g : Kl.lt k h2 = true) : Kl.lt k h1 = true := Kl.lt_trans g h
theorem meet_has (lo hi lo2 hi2 k : ByteArray) (b b2 : Bool) (h : chkR lo hi b = 0) (g : chkR lo2 hi2 b2 = 0) :
    hasB (mLo lo lo2) (mHi hi b hi2 b2) (mB hi b hi2 b2) k = (hasB lo hi b k && hasB lo2 hi2 b2 k) := by
  have hL : (!Kl.lt (Kl.L k) (Kl.L (mLo lo lo2))) = (!Kl.lt (Kl.L k) (Kl.L lo) && !Kl.lt (Kl.L k) (Kl.L lo2)) := by
    unfold mLo
    cases e : Kl.lt (Kl.L lo) (Kl.L lo2)
    · rw [if_neg (by simp)]
      cases e1 : Kl.lt (Kl.L k) (Kl.L lo)
      · cases e2 : Kl.lt (Kl.L k) (Kl.L lo2)
        · rfl
        · have := Kl.lt_le e2 e
          rw [this] at e1; cases e1
      · rfl
    · rw [if_pos rfl]
      cases e2 : Kl.lt (Kl.L k) (Kl.L lo2)
      · cases e1 : Kl.lt (Kl.L k) (Kl.L lo)
        · rfl
        · have := Kl.lt_trans e1 e
          rw [this] at e2; cases e2
      · simp
  have hH : (!mB hi b hi2 b2 || Kl.lt (Kl.L k) (Kl.L (mHi hi b hi2 b2))) = ((!b || Kl.lt (Kl.L k) (Kl.L hi)) && (!b2 || Kl.lt (Kl.L k) (Kl.L hi2))) := by
    unfold mB mHi mTake
    cases b <;> cases b2
    · simp
    · simp
    · simp
    · cases e : Kl.lt (Kl.L hi2) (Kl.L hi)
      · cases e1 : Kl.lt (Kl.L k) (Kl.L hi)
        · simp [e1]
        · have := Kl.lt_le e1 e
          simp [e1, this]
      · cases e2 : Kl.lt (Kl.L k) (Kl.L hi2)
        · simp [e2]
        · have := Kl.lt_trans e2 e
          simp [e2, this]
  unfold hasB
  rw [hL, hH]
  cases Kl.lt (Kl.L k) (Kl.L lo) <;> cases Kl.lt (Kl.L k) (Kl.L lo2) <;> simp
theorem empty_none {lo hi k : ByteArray} {b : Bool} (h : hasB lo hi b lo = false) : hasB lo hi b k = false := by
  unfold hasB at *
  rw [Kl.lt_irrefl] at h
  cases b
  · simp at h
  · have h' : Kl.lt (Kl.L lo) (Kl.L hi) = false := by simpa using h
    cases e1 : Kl.lt (Kl.L k) (Kl.L lo)
    · cases e2 : Kl.lt (Kl.L k) (Kl.L hi)
      · rfl
      · have := Kl.le_lt e1 e2
        rw [this] at h'; cases h'
    · rfl

theorem cov_chk {xs : List El.En} (h0 : 0 < xs.length) (hk : ∀ x ∈ xs, x.1.size ≤ 32) : chkR (covL xs) (covH xs) (covB xs) = 0 := by
  obtain ⟨a, b⟩ := cov_sizes h0 hk
  refine chkR_mk a b fun h => ?_
  unfold covB at h
  rw [decide_eq_false_iff_not] at h
  rw [(cov_no h).1]; rfl
theorem covZ_size {xs : List El.En} (h0 : 0 < xs.length) (hk : ∀ x ∈ xs, x.1.size ≤ 32) : (covZ xs).size ≤ 32 := by
  unfold covZ; rw [keyAt_eq (by omega)]; exact hk _ (List.getElem_mem _)
theorem cov_has {xs : List El.En} (h0 : 0 < xs.length) (hk : ∀ x ∈ xs, x.1.size ≤ 32) {k : ByteArray} (hs : k.size ≤ 32) : hasB (covL xs) (covH xs) (covB xs) k = (!ltK k (covL xs) && !ltK (covZ xs) k) := by
  have hz := covZ_size h0 hk
  unfold hasB
  show (!ltK k (covL xs) && (!covB xs || ltK k (covH xs))) = _
  congr 1
  rcases nx_case hz with ⟨h9, _⟩ | ⟨h1, _, h2⟩
  · have hb : covB xs = false := by unfold covB; rw [h9]; rfl
    rw [hb]
    -- nothing is above the last key
    have : ltK (covZ xs) k = false := by
      unfold nxE nextE at h9
      rw [if_neg (by rw [Kl.L_length]; omega)] at h9
      by_cases g : (Kl.L (covZ xs)).length < 32
      · rw [if_pos g] at h9; cases h9
      · rw [if_neg g] at h9
        cases hr : Kl.rai (Kl.L (covZ xs)) with
        | none => exact Kl.rai_greatest hr (by simp only [Kl.L_length] at g ⊢; omega)
        | some p => rw [hr] at h9; cases h9
    rw [this]; rfl
  · obtain ⟨e1, e2⟩ := cov_yes h1
    rw [e1, e2, h2 k hs]; simp
theorem cov_ends {xs : List El.En} (hs : SK xs) {i : Nat} (h : i < xs.length) : ltK xs[i].1 (covL xs) = false ∧ ltK (covZ xs) xs[i].1 = false := by
  unfold covL covZ
  have a := keyAt_le hs (show 0 ≤ i by omega) h
  have b := keyAt_le hs (show i ≤ xs.length - 1 by omega) (by omega)
  rw [keyAt_eq h] at a b
  exact ⟨a, b⟩
theorem cov_le {xs : List El.En} (hs : SK xs) (h0 : 0 < xs.length) : ltK (covZ xs) (covL xs) = false := by
  have := (cov_ends hs h0).2
  have e : covL xs = xs[0].1 := by unfold covL; exact keyAt_eq h0
  rw [e]; exact this
/-- a good run that has entries -/
structure Rn (xs : List El.En) : Prop where
  pos : 0 < xs.length
  key : ∀ x ∈ xs, x.1.size ≤ 32
  asc : SK xs
theorem met_is {xs ys : List El.En} (X : Rn xs) (Y : Rn ys) : metV xs ys = (mLo (covL xs) (covL ys), mHi (covH xs) (covB xs) (covH ys) (covB ys), mB (covH xs) (covB xs) (covH ys) (covB ys)) := by
  unfold metV meetV
  rw [if_pos (by unfold mErr; rw [if_neg (by rw [cov_chk X.pos X.key]; simp)]; exact cov_chk Y.pos Y.key)]
theorem ov_eq {xs ys : List El.En} (X : Rn xs) (Y : Rn ys) : ovV xs ys = (!ltK (covZ xs) (covL ys) && !ltK (covZ ys) (covL xs)) := by
  have hm := met_is X Y
  have c1 := cov_chk X.pos X.key
  have c2 := cov_chk Y.pos Y.key
  have s1 := (cov_sizes X.pos X.key).1
  have s2 := (cov_sizes Y.pos Y.key).1
  unfold ovV
  rw [hm]
  dsimp only
  rw [emptyV_has (meet_chk c1 c2), Bool.not_not, meet_has _ _ _ _ _ _ _ c1 c2]
  have l1 := cov_le X.asc X.pos
  have l2 := cov_le Y.asc Y.pos
  unfold mLo
  cases h : Kl.lt (Kl.L (covL xs)) (Kl.L (covL ys)) with
  | true =>
    rw [if_pos rfl, cov_has X.pos X.key s2, cov_has Y.pos Y.key s2]
    have h' : ltK (covL xs) (covL ys) = true := h
    have a := ltK_asymm h'
    have b : ltK (covZ ys) (covL xs) = false := by
      cases g : ltK (covZ ys) (covL xs) with
      | false => rfl
      | true => have := ltK_trans g h'; rw [l2] at this; cases this
    rw [a, b, l2, ltK_irr]; simp
  | false =>
    rw [if_neg (by simp), cov_has X.pos X.key s1, cov_has Y.pos Y.key s1]
    have h' : ltK (covL xs) (covL ys) = false := h
    have b : ltK (covZ xs) (covL ys) = false := by
      cases g : ltK (covZ xs) (covL ys) with
      | false => rfl
      | true => have := ltK_le g h'; rw [l1] at this; cases this
    rw [h', b, l1, ltK_irr]; simp
theorem ov_symm {xs ys : List El.En} (X : Rn xs) (Y : Rn ys) : ovV ys xs = ovV xs ys := by
  rw [ov_eq X Y, ov_eq Y X, Bool.and_comm]
theorem part_cov {id : Int} {xs : List El.En} (hr : (runE id xs).2 = 0) (X : Rn xs) : partR id xs (covL xs) (covH xs) (covB xs) = (0, (xs.length : Int), 0) := by
  rw [partR_ok hr (cov_chk X.pos X.key)]
  have h0 : inN xs (covL xs) = 0 := by
    unfold inN
    refine List.countP_eq_zero.2 fun x hx => ?_
    obtain ⟨i, hi, rfl⟩ := List.getElem_of_mem hx
    rw [(cov_ends X.asc hi).1]; simp
  have h1 : toN xs (covL xs) (covH xs) (covB xs) = xs.length := by
    have hl := X.pos
    have hh := has_at X.asc (covL xs) (covH xs) (covB xs) (i := xs.length - 1) (by omega)
    rw [cov_has X.pos X.key (X.key _ (List.getElem_mem _)), (cov_ends X.asc (by omega)).1, (cov_ends X.asc (by omega)).2] at hh
    have := (toN_le xs (covL xs) (covH xs) (covB xs)).2
    simp at hh
    omega
  rw [h0, h1]; rfl
theorem part_none {id : Int} {xs : List El.En} {lo hi : ByteArray} {b : Bool} (X : Rn xs) (hc : chkR lo hi b = 0)
    (he : emptyV (meetV (covL xs) (covH xs) (covB xs) lo hi b).1 (meetV (covL xs) (covH xs) (covB xs) lo hi b).2.1 (meetV (covL xs) (covH xs) (covB xs) lo hi b).2.2 = true) : inN xs lo = toN xs lo hi b := by
  have c1 := cov_chk X.pos X.key
  have hm : meetV (covL xs) (covH xs) (covB xs) lo hi b = (mLo (covL xs) lo, mHi (covH xs) (covB xs) hi b, mB (covH xs) (covB xs) hi b) := by
    unfold meetV; rw [if_pos (by unfold mErr; rw [if_neg (by rw [c1]; simp)]; exact hc)]
  rw [hm] at he
  dsimp only at he
  rw [emptyV_has (meet_chk c1 hc), Bool.not_eq_true'] at he
  obtain ⟨t1, t2⟩ := toN_le xs lo hi b
  by_cases g : inN xs lo < toN xs lo hi b
  · have hi' : inN xs lo < xs.length := by omega
    have e := empty_none (k := xs[inN xs lo].1) he
    rw [meet_has _ _ _ _ _ _ _ c1 hc, has_at X.asc lo hi b hi', cov_has X.pos X.key (X.key _ (List.getElem_mem _)), (cov_ends X.asc hi').1, (cov_ends X.asc hi').2] at e
    simp at e
    omega
  · omega
def anyC (l : List El.En) (lo hi : ByteArray) (b : Bool) : Bool := l.any fun x => hasB lo hi b x.1
theorem anyC_next {xs : List El.En} {k : Nat} (h : k < xs.length) (lo hi : ByteArray) (b : Bool) : anyC (xs.take (k + 1)) lo hi b = (anyC (xs.take k) lo hi b || hasB lo hi b xs[k].1) := by
  unfold anyC; rw [List.take_succ_eq_append_getElem h, List.any_append]; simp
theorem some_is {xs ys : List El.En} (X : Rn xs) (Y : Rn ys) : (anyC xs (covL ys) (covH ys) (covB ys) || anyC ys (covL xs) (covH xs) (covB xs)) = ovV xs ys := by
  rw [ov_eq X Y, Bool.eq_iff_iff]
  have l1 := cov_le X.asc X.pos
  have l2 := cov_le Y.asc Y.pos
  have e1 : covL xs = (xs[0]'X.pos).1 := by unfold covL; exact keyAt_eq X.pos
  have e2 : covL ys = (ys[0]'Y.pos).1 := by unfold covL; exact keyAt_eq Y.pos
  constructor
  · intro h
    rw [Bool.or_eq_true] at h
    rcases h with h | h
    · obtain ⟨x, hx, hb⟩ := List.any_eq_true.1 h
      obtain ⟨i, hi, rfl⟩ := List.getElem_of_mem hx
      rw [cov_has Y.pos Y.key (X.key _ hx)] at hb
      obtain ⟨a, b⟩ := cov_ends X.asc hi
      simp at hb
      rw [Bool.and_eq_true, Bool.not_eq_true', Bool.not_eq_true']
      exact ⟨leK_le hb.1 b, leK_le a hb.2⟩
    · obtain ⟨x, hx, hb⟩ := List.any_eq_true.1 h
      obtain ⟨i, hi, rfl⟩ := List.getElem_of_mem hx
      rw [cov_has X.pos X.key (Y.key _ hx)] at hb
      obtain ⟨a, b⟩ := cov_ends Y.asc hi
      simp at hb
      rw [Bool.and_eq_true, Bool.not_eq_true', Bool.not_eq_true']
      exact ⟨leK_le a hb.2, leK_le hb.1 b⟩
  · intro h
    rw [Bool.and_eq_true, Bool.not_eq_true', Bool.not_eq_true'] at h
    rw [Bool.or_eq_true]
    cases g : ltK (covL xs) (covL ys) with
    | false =>
      refine .inl (List.any_eq_true.2 ⟨xs[0]'X.pos, List.getElem_mem _, ?_⟩)
      rw [cov_has Y.pos Y.key (X.key _ (List.getElem_mem _)), ← e1, g, h.2]; rfl
    | true =>
      refine .inr (List.any_eq_true.2 ⟨ys[0]'Y.pos, List.getElem_mem _, ?_⟩)
      rw [cov_has X.pos X.key (Y.key _ (List.getElem_mem _)), ← e2, ltK_asymm g, h.1]; rfl
end Go.Proofs.Ytjnbdeahmbkbnaa.KK
