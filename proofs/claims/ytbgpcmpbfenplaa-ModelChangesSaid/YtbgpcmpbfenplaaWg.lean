/-
  The differences, written one by one, lead from one map to the other (plain), each step without a fault.
-/
import Derived.Test.YtbgpcmpbfenplaaWf
namespace Go.Proofs.Ytbgpcmpbfenplaa.KK
open Go.ChangeShapes Go.WideShapes Go.ChangeAt Go.RowKit Go.Proofs

theorem diffP_leads : ∀ (xs ys : List Pr), SP xs → SP ys → putAll xs ((diffP xs ys).map itW) = ys
  | [], [], _, _ => by rw [dq_nn]; rfl
  | x :: t, [], hx, hy => by
    rw [dq_cn]
    show putAll (putP (x :: t) (x.1, ⟨#[]⟩, true)) ((diffP t []).map itW) = []
    rw [putP_ge (lk_irr rfl), if_pos rfl, if_pos rfl, List.nil_append]
    exact diffP_leads t [] (sp_tail hx) hy
  | [], y :: u, hx, hy => by
    rw [dq_nc]
    show putAll (putP [] (y.1, y.2, false)) ((diffP [] u).map itW) = y :: u
    rw [putP_nil, if_neg (by simp)]
    show putAll [y] _ = _
    rw [fold_past (past_of (fun z hz => by cases hz) (fun z hz => sp_head hy hz)), diffP_leads [] u hx (sp_tail hy)]
  | x :: t, y :: u, hx, hy => by
    cases h1 : Kl.lt (Kl.L x.1) (Kl.L y.1) with
    | true =>
      rw [dq_lt h1]
      show putAll (putP (x :: t) (x.1, ⟨#[]⟩, true)) ((diffP t (y :: u)).map itW) = y :: u
      rw [putP_ge (lk_irr rfl), if_pos rfl, if_pos rfl, List.nil_append]
      exact diffP_leads t (y :: u) (sp_tail hx) hy
    | false =>
      cases h2 : Kl.lt (Kl.L y.1) (Kl.L x.1) with
      | true =>
        rw [dq_gt h1 h2]
        show putAll (putP (x :: t) (y.1, y.2, false)) ((diffP (x :: t) u).map itW) = y :: u
        have hne : ¬ x.1 = y.1 := fun e => by rw [e, Kl.lt_irrefl] at h2; cases h2
        rw [putP_ge (show lk y.1 x = false from h1), if_neg (by simp), if_neg hne]
        show putAll (y :: x :: t) _ = _
        rw [fold_past (past_of (fun z hz => ?_) (fun z hz => sp_head hy hz)), diffP_leads (x :: t) u hx (sp_tail hy)]
        rcases List.mem_cons.1 hz with rfl | hz
        · exact h2
        · exact kp_trans (x := y) (y := x) (z := z) h2 (sp_head hx hz)
      | false =>
        have hk : x.1 = y.1 := kl_same h1 h2
        have hu : ∀ z ∈ u, kp x z = true := fun z hz => by have := sp_head hy hz; unfold kp at this ⊢; rw [hk]; exact this
        rw [dq_eq h1 h2]
        by_cases hv : x.2 = y.2
        · rw [if_pos hv, List.nil_append, fold_past (past_of (fun z hz => sp_head hx hz) hu), diffP_leads t u (sp_tail hx) (sp_tail hy)]
          rw [show x = y from Prod.ext hk hv]
        · rw [if_neg hv]
          show putAll (putP (x :: t) (x.1, y.2, false)) ((diffP t u).map itW) = y :: u
          rw [putP_ge (lk_irr rfl), if_neg (by simp), if_pos rfl, hk]
          show putAll (y :: t) _ = _
          have e : ∀ z, kp y z = kp x z := fun z => by unfold kp; rw [hk]
          rw [fold_past (past_of (fun z hz => by rw [e]; exact sp_head hx hz) (fun z hz => sp_head hy hz)), diffP_leads t u (sp_tail hx) (sp_tail hy)]
termination_by xs ys => xs.length + ys.length
theorem diffP_same : ∀ (xs : List Pr), diffP xs xs = []
  | [] => dq_nn
  | x :: t => by rw [dq_eq (Kl.lt_irrefl _) (Kl.lt_irrefl _), if_pos rfl, List.nil_append]; exact diffP_same t
theorem diffP_nil {xs ys : List Pr} (hx : SP xs) (hy : SP ys) : diffP xs ys = [] ↔ xs = ys := by
  refine ⟨fun h => ?_, fun h => by rw [h]; exact diffP_same ys⟩
  have := diffP_leads xs ys hx hy
  rw [h] at this
  exact this
theorem diffP_item : ∀ (xs ys : List Pr) {i : It}, i ∈ diffP xs ys → (∃ x ∈ xs, i = (2, x.1, x.2, ⟨#[]⟩)) ∨ (∃ y ∈ ys, ∃ k o, k ≠ 2 ∧ i = (k, y.1, o, y.2))
  | [], [], i, h => by rw [dq_nn] at h; cases h
  | x :: xs, [], i, h => by
    rw [dq_cn] at h
    rcases List.mem_cons.1 h with rfl | h
    · exact .inl ⟨x, by simp, rfl⟩
    · rcases diffP_item xs [] h with ⟨z, hz, e⟩ | ⟨z, hz, e⟩
      · exact .inl ⟨z, by simp [hz], e⟩
      · cases hz
  | [], y :: ys, i, h => by
    rw [dq_nc] at h
    rcases List.mem_cons.1 h with rfl | h
    · exact .inr ⟨y, by simp, 1, _, by decide, rfl⟩
    · rcases diffP_item [] ys h with ⟨z, hz, e⟩ | ⟨z, hz, e⟩
      · cases hz
      · exact .inr ⟨z, by simp [hz], e⟩
  | x :: xs, y :: ys, i, h => by
    cases h1 : Kl.lt (Kl.L x.1) (Kl.L y.1) with
    | true =>
      rw [dq_lt h1] at h
      rcases List.mem_cons.1 h with rfl | h
      · exact .inl ⟨x, by simp, rfl⟩
      · rcases diffP_item xs (y :: ys) h with ⟨z, hz, e⟩ | ⟨z, hz, e⟩
        · exact .inl ⟨z, by simp [hz], e⟩
        · exact .inr ⟨z, hz, e⟩
    | false =>
      cases h2 : Kl.lt (Kl.L y.1) (Kl.L x.1) with
      | true =>
        rw [dq_gt h1 h2] at h
        rcases List.mem_cons.1 h with rfl | h
        · exact .inr ⟨y, by simp, 1, _, by decide, rfl⟩
        · rcases diffP_item (x :: xs) ys h with ⟨z, hz, e⟩ | ⟨z, hz, e⟩
          · exact .inl ⟨z, hz, e⟩
          · exact .inr ⟨z, by simp [hz], e⟩
      | false =>
        rw [dq_eq h1 h2] at h
        rcases List.mem_append.1 h with h | h
        · split at h
          · cases h
          · rw [List.mem_singleton] at h; subst h; exact .inr ⟨y, by simp, 3, x.2, by decide, by rw [kl_same h1 h2]⟩
        · rcases diffP_item xs ys h with ⟨z, hz, e⟩ | ⟨z, hz, e⟩
          · exact .inl ⟨z, by simp [hz], e⟩
          · exact .inr ⟨z, by simp [hz], e⟩
termination_by xs ys => xs.length + ys.length
theorem szE_mk {k v : ByteArray} (h : k.size ≤ 32) (g : v.size ≤ 64) : szE k v = 0 := by
  unfold szE; rw [if_neg (by omega), if_neg (by omega)]
theorem item_write {xs ys : List Pr} {i : It} (h1 : ∀ x ∈ xs, szE x.1 x.2 = 0) (h2 : ∀ x ∈ ys, szE x.1 x.2 = 0) (h : i ∈ diffP xs ys) : wrE (itW i) = 0 := by
  rcases diffP_item xs ys h with ⟨x, hx, rfl⟩ | ⟨y, hy, k, o, hk, rfl⟩
  · have hs := szE_of (h1 x hx)
    unfold wrE itW
    rw [if_pos (szE_mk hs.1 (by show (0 : Nat) ≤ 64; omega)), if_neg (fun e => e.2 rfl)]
  · unfold wrE itW
    rw [if_pos (h2 y hy), if_neg (fun e => hk (by simpa using e.1))]
theorem scanP_mk : ∀ {xs : List Pr} {i : Nat} {p : Option Pr}, (∀ x ∈ xs, szE x.1 x.2 = 0) → SP xs → (∀ y, p = some y → ∀ z ∈ xs, kp y z = true) → (scanP i p xs).2 = 0
  | [], _, _, _, _, _ => rfl
  | x :: t, i, p, h1, h2, h3 => by
    have hw : wrongP p x = 0 := by
      cases p with
      | none => unfold wrongP; rw [if_pos (h1 x (by simp))]
      | some y => exact wrongP_up (h1 x (by simp)) (by have := Kl.ord_neg.2 (h3 y rfl x (by simp)); omega)
    rw [scanP, if_pos hw]
    exact scanP_mk (fun z hz => h1 z (by simp [hz])) (sp_tail h2) (fun y e z hz => by cases e; exact sp_head h2 hz)
theorem mapE_mk {xs : List Pr} (h : xs.length ≤ 4000) (h1 : ∀ x ∈ xs, szE x.1 x.2 = 0) (h2 : SP xs) : (mapE xs).2 = 0 := by
  unfold mapE
  rw [if_neg (by omega)]
  exact scanP_mk h1 h2 (fun y e => by cases e)
theorem wrE_sz0 {x : Wr} (h : wrE x = 0) : szE x.1 x.2.1 = 0 := Classical.byContradiction fun n => by rw [wrE_sz n] at h; exact n h
/-- one write -/
theorem step_ok {m : List Pr} {x : Wr} (h : (mapE m).2 = 0) (hl : m.length ≤ 3999) (hx : wrE x = 0) : writeE m [x] = 0 ∧ writeM m [x] = putP m x ∧ (mapE (putP m x)).2 = 0 := by
  obtain ⟨_, a2, a3⟩ := map_ok h
  have hlen : (putP m x).length ≤ m.length + 1 := @putP_len x.1 x.2.1 x.2.2 m
  have hb : batchE [x] = 0 := by
    unfold batchE
    rw [if_neg (by simp), if_neg (by simp)]
    show (if wrE x = 0 then scanW [] else wrE x) = 0
    rw [if_pos hx]; rfl
  have he : writeE m [x] = 0 := writeE_ok h hb (by show ¬ 4000 < (putP m x).length; omega)
  refine ⟨he, by unfold writeM; rw [if_pos he]; rfl, mapE_mk (by omega) (fun y hy => ?_) (putP_SP (k := x.1) (v := x.2.1) (d := x.2.2) a3)⟩
  rcases putP_mem (k := x.1) (v := x.2.1) (d := x.2.2) hy with g | g
  · exact a2 y g
  · rw [g]; exact wrE_sz0 hx
/-- the map behind the first k writes -/
def upTo (xs : List Pr) (ws : List Wr) (k : Nat) : List Pr := putAll xs (ws.take k)
theorem upTo_succ {xs : List Pr} {ws : List Wr} {k : Nat} (h : k < ws.length) : upTo xs ws (k + 1) = putP (upTo xs ws k) ws[k] := by
  unfold upTo putAll; rw [List.take_succ_eq_append_getElem h, List.foldl_append]; rfl
theorem upTo_len {xs : List Pr} {ws : List Wr} {k : Nat} : (upTo xs ws k).length ≤ xs.length + k := by
  have := putAll_len (ws.take k) xs
  have h2 := List.length_take_le k ws
  unfold upTo; omega
theorem upTo_ok {xs : List Pr} {ws : List Wr} (h : (mapE xs).2 = 0) (hl : xs.length + ws.length ≤ 3999) (hw : ∀ x ∈ ws, wrE x = 0) : ∀ (k : Nat), k ≤ ws.length → (mapE (upTo xs ws k)).2 = 0
  | 0, _ => by unfold upTo; rw [List.take_zero]; exact h
  | k + 1, hk => by
    rw [upTo_succ (by omega)]
    have := @upTo_len xs ws k
    exact (step_ok (upTo_ok h hl hw k (by omega)) (by omega) (hw _ (List.getElem_mem _))).2.2
end Go.Proofs.Ytbgpcmpbfenplaa.KK
