/-
  The differences, written one by one, lead from one map to the other (plain).
-/
import Derived.Test.YtbgpcmpbfenplaaWd
namespace Go.Proofs.Ytbgpcmpbfenplaa.KK
open Go.ChangeShapes Go.WideShapes Go.ChangeAt Go.RowKit Go.Proofs

/-- the write that a difference asks for -/
def itW (x : It) : Wr := (x.2.1, x.2.2.2, decide (x.1 = 2))
theorem diffP_keys : ∀ (xs ys : List Pr) {i : It}, i ∈ diffP xs ys → (∃ x ∈ xs, x.1 = i.2.1) ∨ (∃ y ∈ ys, y.1 = i.2.1)
  | [], [], i, h => by rw [dq_nn] at h; cases h
  | x :: xs, [], i, h => by
    rw [dq_cn] at h
    rcases List.mem_cons.1 h with rfl | h
    · exact .inl ⟨x, by simp, rfl⟩
    · rcases diffP_keys xs [] h with ⟨z, hz, e⟩ | ⟨z, hz, e⟩
      · exact .inl ⟨z, by simp [hz], e⟩
      · cases hz
  | [], y :: ys, i, h => by
    rw [dq_nc] at h
    rcases List.mem_cons.1 h with rfl | h
    · exact .inr ⟨y, by simp, rfl⟩
    · rcases diffP_keys [] ys h with ⟨z, hz, e⟩ | ⟨z, hz, e⟩
      · cases hz
      · exact .inr ⟨z, by simp [hz], e⟩
  | x :: xs, y :: ys, i, h => by
    cases h1 : Kl.lt (Kl.L x.1) (Kl.L y.1) with
    | true =>
      rw [dq_lt h1] at h
      rcases List.mem_cons.1 h with rfl | h
      · exact .inl ⟨x, by simp, rfl⟩
      · rcases diffP_keys xs (y :: ys) h with ⟨z, hz, e⟩ | ⟨z, hz, e⟩
        · exact .inl ⟨z, by simp [hz], e⟩
        · exact .inr ⟨z, hz, e⟩
    | false =>
      cases h2 : Kl.lt (Kl.L y.1) (Kl.L x.1) with
      | true =>
        rw [dq_gt h1 h2] at h
        rcases List.mem_cons.1 h with rfl | h
        · exact .inr ⟨y, by simp, rfl⟩
        · rcases diffP_keys (x :: xs) ys h with ⟨z, hz, e⟩ | ⟨z, hz, e⟩
          · exact .inl ⟨z, hz, e⟩
          · exact .inr ⟨z, by simp [hz], e⟩
      | false =>
        rw [dq_eq h1 h2] at h
        rcases List.mem_append.1 h with h | h
        · split at h
          · cases h
          · rw [List.mem_singleton] at h; subst h; exact .inl ⟨x, by simp, rfl⟩
        · rcases diffP_keys xs ys h with ⟨z, hz, e⟩ | ⟨z, hz, e⟩
          · exact .inl ⟨z, by simp [hz], e⟩
          · exact .inr ⟨z, by simp [hz], e⟩
termination_by xs ys => xs.length + ys.length
theorem fold_past : ∀ {ws : List Wr} {y : Pr} {l : List Pr}, (∀ x ∈ ws, lk x.1 y = true) → putAll (y :: l) ws = y :: putAll l ws
  | [], _, _, _ => rfl
  | x :: ws, y, l, h => by
    have e : putP (y :: l) x = y :: putP l x := putP_lk (k := x.1) (v := x.2.1) (d := x.2.2) (h x (by simp))
    show putAll (putP (y :: l) x) ws = y :: putAll (putP l x) ws
    rw [e]
    exact fold_past (fun z hz => h z (by simp [hz]))
theorem lk_irr {k : ByteArray} {x : Pr} (e : x.1 = k) : lk k x = false := by unfold lk; rw [e]; exact Kl.lt_irrefl _
theorem sp_tail {x : Pr} {l : List Pr} (h : SP (x :: l)) : SP l := (List.pairwise_cons.1 h).2
theorem sp_head {x : Pr} {l : List Pr} (h : SP (x :: l)) {z : Pr} (hz : z ∈ l) : kp x z = true := (List.pairwise_cons.1 h).1 z hz
theorem past_of {y : Pr} {ps qs : List Pr} (h1 : ∀ z ∈ ps, kp y z = true) (h2 : ∀ z ∈ qs, kp y z = true) : ∀ x ∈ (diffP ps qs).map itW, lk x.1 y = true := by
  intro x hx
  obtain ⟨i, hi, rfl⟩ := List.mem_map.1 hx
  show lk i.2.1 y = true
  rcases diffP_keys ps qs hi with ⟨z, hz, e⟩ | ⟨z, hz, e⟩
  · rw [← e]; exact h1 z hz
  · rw [← e]; exact h2 z hz
end Go.Proofs.Ytbgpcmpbfenplaa.KK
