/-
  Trees of losers: the winner is the least one; beats.
-/
import Derived.Test.YtebjhjmlpodkgaaLs
namespace Go.Proofs.Ytebjhjmlpodkgaa.Lo

theorem pl_least {W : Nat → Nat → Bool} (hT : Tot W) (hR : ∀ a b c, W a b = true → W b c = true → W a c = true) {n : Nat} : ∀ (f i : Nat), 2 * n - i ≤ f → 1 ≤ i → i < 2 * n → ∀ q, q < n → under i (n + q) → q = pl W n i ∨ W (pl W n i) q = true
  | f, i, hf, h1, h2, q, hq, hu => by
    by_cases hn : n ≤ i
    · left
      obtain ⟨k, hk⟩ := hu
      cases k with
      | zero => simp at hk; rw [pl, dif_pos (.inl hn)]; omega
      | succ k =>
        have : i ≤ (n + q) / 2 := by rw [← hk, Nat.pow_succ, Nat.mul_comm, ← Nat.div_div_eq_div_mul]; exact Nat.div_le_self _ _
        omega
    · cases f with
      | zero => omega
      | succ f =>
        have a := pl_least hT hR f (2 * i) (by omega) (by omega) (by omega) q hq
        have b := pl_least hT hR f (2 * i + 1) (by omega) (by omega) (by omega) q hq
        rw [pl_node h1 (by omega)]
        generalize pl W n (2 * i) = x at *
        generalize pl W n (2 * i + 1) = y at *
        have hxy : W x y = false → x = y ∨ W y x = true := fun h => by
          by_cases e : x = y
          · exact .inl e
          · right; have := hT y x (Ne.symm e); rw [h] at this; exact this
        rcases under_child hu (by omega) with g | g
        · by_cases hw : W x y = true
          · rw [if_pos hw]; exact a g
          · rw [if_neg hw]
            rcases hxy (by simpa using hw) with e | e
            · rw [← e]; exact a g
            · rcases a g with h | h
              · right; rw [h]; exact e
              · right; exact hR _ _ _ e h
        · by_cases hw : W x y = true
          · rw [if_pos hw]
            rcases b g with h | h
            · right; rw [h]; exact hw
            · right; exact hR _ _ _ hw h
          · rw [if_neg hw]; exact b g
end Go.Proofs.Ytebjhjmlpodkgaa.Lo
namespace Go.Proofs.Ytebjhjmlpodkgaa.KK
open Go.ChangeShapes Go.WideShapes Go.ChangeAt Go.RowKit Go.Proofs

theorem wnr_least {ks : List LK} (h : keysE ks = 0) : ∀ q, q < ks.length → q = wnr ks ∨ wn ks (wnr ks) q = true := fun q hq =>
  Lo.pl_least (wn_tot ks) (fun _ _ _ => wn_trans) _ 1 (Nat.le_refl _) (Nat.le_refl _) (by omega) q hq (Lo.under_one _ (by omega))
theorem Ord.len {ks : List LK} {L : List Nat} (h : Ord ks L) : L.length = ks.length := by rw [h.perm.length_eq, List.length_range]
theorem Ord.lt {ks : List LK} {L : List Nat} (h : Ord ks L) : ∀ q ∈ L, q < ks.length := fun q hq => List.mem_range.1 (h.perm.mem_iff.1 hq)
theorem Ord.nodup {ks : List LK} {L : List Nat} (h : Ord ks L) : L.Nodup := h.perm.nodup_iff.2 List.nodup_range
theorem Ord.head {ks : List LK} {L : List Nat} (h : Ord ks L) (hk : keysE ks = 0) (hl : 0 < L.length) : L[0] = wnr ks := by
  have hm : wnr ks ∈ L := h.perm.mem_iff.2 (List.mem_range.2 (wnr_lt hk))
  obtain ⟨j, hj, hjm⟩ := List.getElem_of_mem hm
  by_cases e : j = 0
  · subst e; exact hjm
  · have := List.pairwise_iff_getElem.1 h.asc 0 j hl hj (by omega)
    rw [hjm] at this
    rcases wnr_least hk L[0] (h.lt _ (List.getElem_mem hl)) with g | g
    · exact g
    · rw [g] at this; cases this
theorem Ord.next {ks : List LK} {L : List Nat} (h : Ord ks L) {i : Nat} (hi : i + 1 < L.length) : wn ks L[i] L[i + 1] = true := by
  have a := List.pairwise_iff_getElem.1 h.asc i (i + 1) (by omega) hi (by omega)
  have hne : L[i] ≠ L[i + 1] := fun e => by
    have := List.pairwise_iff_getElem.1 h.nodup i (i + 1) (by omega) hi (by omega)
    exact this e
  have := wn_tot ks _ _ hne
  rw [a] at this; simpa using this
/-- one of four ways to win -/
def Beat (a b : LK) (p q : Nat) : Prop :=
  (a.2 = false ∧ b.2 = true) ∨ (a.2 = false ∧ b.2 = false ∧ Kl.lt (Kl.L a.1) (Kl.L b.1) = true) ∨ (a.2 = false ∧ b.2 = false ∧ a.1 = b.1 ∧ p < q) ∨ (a.2 = true ∧ b.2 = true ∧ a.1 = b.1 ∧ p < q)
theorem L_inj' {a b : ByteArray} (h : Kl.L a = Kl.L b) : a = b := ByteArray.ext (Array.toList_inj.1 h)
theorem wn_beat {ks : List LK} {p q : Nat} (hp : keyE (kAt ks p) = 0) (hq : keyE (kAt ks q) = 0) (h : wn ks p q = true) : Beat (kAt ks p) (kAt ks q) p q := by
  rw [wn_iff] at h
  generalize kAt ks p = a at *
  generalize kAt ks q = b at *
  rcases h with ⟨hd, h⟩ | ⟨h1, h2⟩
  · cases ha : a.2 with
    | false =>
      rw [ha] at hd
      rcases h with h | ⟨h, g⟩
      · exact .inr (.inl ⟨ha, hd.symm, h⟩)
      · exact .inr (.inr (.inl ⟨ha, hd.symm, L_inj' h, g⟩))
    | true =>
      rw [ha] at hd
      rcases h with h | ⟨h, g⟩
      · exfalso
        have hb : b.1.size = 0 := by
          unfold keyE at hq
          split at hq
          · cases hq
          · rename_i hn; exact Decidable.not_not.1 fun e => hn ⟨hd.symm, e⟩
        have : Kl.L b.1 = [] := List.eq_nil_of_length_eq_zero (by rw [Kl.L_length]; exact hb)
        rw [this, Kl.lt_nil] at h; cases h
      · exact .inr (.inr (.inr ⟨ha, hd.symm, L_inj' h, g⟩))
  · exact .inl ⟨h1, h2⟩
end Go.Proofs.Ytebjhjmlpodkgaa.KK
