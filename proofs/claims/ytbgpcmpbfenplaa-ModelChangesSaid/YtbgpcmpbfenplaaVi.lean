/-
  slices.Delete of one pair, in a row of the call's own.
-/
import Derived.Test.YtbgpcmpbfenplaaVh
namespace Go.Proofs.Ytbgpcmpbfenplaa.KK
open Go.ChangeShapes Go.WideShapes Go.ChangeAt Go.RowKit Go.Proofs

theorem step_append_runP {Pg : Program} {ops : Array Oper} {o : Oper} {a : Act} {w : World} {K : Act → World → Prop} {Q : Exit → Act → World → Prop} {E : Prop}
    (hg : o.guard = none) (d x : Operand) (dT sT : TypeId) (hop : o.op = Op.call { callee := Callee.builtin Builtin.append, args := #[d, x], argTypes := #[dT, sT] })
    (v u : Value) (hd : a.eval d = v) (hx : a.eval x = u) {v' : Value} {w' : World} (hr : (Builtin.append_ #[dT, sT] o.type #[v, u]).run Pg w = .ok v' w') (hK : K (a.put o.dst v') w') :
    if Region.wanted o (yielded ops a.tmps) = true then Oper.wp Pg o a w K Q else E := by
  have hw : Region.wanted o (yielded ops a.tmps) = true := by simp [Region.wanted, hg]
  rw [if_pos hw]
  unfold Oper.wp
  simp [execOp, hop, resolve, invoke, builtin, hd, hx, hr, Result.andThen]
  exact hK
theorem run_clearP (w : World) (ty : TypeId) (g o c : Nat) (cur : Array Value) (t : TypeId) (hg : w.heap[g]? = some (.cells cur t (0, 0))) (hfit : o + 2 ≤ cur.size) :
    (Builtin.clear_ #[22] ty #[.slice (some ⟨g, o, none⟩) 1 c]).run Try.prog w = .ok (.tuple #[]) (w.setRow g (row2 cur.toList [.string ⟨#[]⟩, .string ⟨#[]⟩] o).toArray) := by
  have hv : ∀ w, (zeroValue 31).run Try.prog w = .ok (.agg #[.string ⟨#[]⟩, .string ⟨#[]⟩]) w := fun w => by kernel_rfl
  have hst := run_storeCells_at Try.prog g o t [.string ⟨#[]⟩, .string ⟨#[]⟩] 0 cur w hg (by simpa using hfit) (by simp [Value.oneCell'])
  have hcs : (Value.agg #[.string ⟨#[]⟩, .string ⟨#[]⟩]).cells = #[.string ⟨#[]⟩, .string ⟨#[]⟩] := rfl
  have hz : (Builtin.zeroCells #[.string ⟨#[]⟩, .string ⟨#[]⟩] 1).toList = [.string ⟨#[]⟩, .string ⟨#[]⟩] := by
    first
      | decide
      | (simp [Builtin.zeroCells, List.range_succ]; done)
      | (unfold Builtin.zeroCells; simp [List.range_succ])
      | rfl
  simp only [Nat.add_zero] at hst
  simp [Builtin.clear_, run_underlying Try.underlying22, hv, hcs, hz, hst, row2]
set_option maxRecDepth 100000 in
set_option maxHeartbeats 4000000 in
theorem del_any (g cap n i base : Nat) (xs : List Pr) (w : World) (cur : Array Value) (hg : w.heap[g]? = some (.cells cur 31 (0, 0))) (hcs : cur.size = cap * 2) (htk : cur.toList.take (n * 2) = cellsP xs) (hcm : cap ≤ 9223372036854775807) (hi : i < n) (hn : n ≤ 100000) (hnc : n ≤ cap) (hb : base ≤ g) :
    Calls Try.prog 95 #[.slice (some ⟨g, 0, none⟩) n cap, .int .i64 (i : Nat), .int .i64 (i + 1 : Nat)] w fun e w' => ∃ v', e = .returned v' ∧ w'.ownsRow base 31 2 v' (n - 1) (cellsP (xs.take i ++ xs.drop (i + 1))) ∧ Below base w w' := by
  obtain ⟨i0, hi0, hz0, hz1, hz2'⟩ := info_parts infoP
  have hxl : xs.length = n := by
    have := congrArg List.length htk
    rw [cellsP_len, List.length_take, Array.length_toList] at this; omega
  have hcell : ∀ j u, (cellsP xs)[j]? = some u → w.cell? ⟨g, j, none⟩ = some u := fun j u hj => by
    rw [← htk, List.getElem?_take] at hj
    split at hj
    · rw [cell_of_row w g j _ _ _ hg]; simpa using hj
    · cases hj
  obtain ⟨cs1, hcs1⟩ : ∃ cs1, cellsP (xs.drop (i + 1)) = cs1 := ⟨_, rfl⟩
  have hcl : cs1.length = (n - (i + 1)) * 2 := by rw [← hcs1, cellsP_len, List.length_drop, hxl]
  have hc1 : ∀ v ∈ cs1, v.oneCell' = true := by rw [← hcs1]; exact cellsP_one _
  have hsrc : ∀ j u, cs1[j]? = some u → w.cell? ⟨g, (i + 1) * 2 + j, none⟩ = some u := fun j u hj => by
    rw [← hcs1, ← cellsP_drop (by omega), List.getElem?_drop] at hj
    exact hcell _ _ hj
  obtain ⟨R1, hR1⟩ : ∃ R1, cur.toList.take (i * 2) ++ cs1 ++ cur.toList.drop (i * 2 + cs1.length) = R1 := ⟨_, rfl⟩
  have hLl : cur.toList.length = cap * 2 := by rw [Array.length_toList]; exact hcs
  have hR1l : R1.length = cap * 2 := by rw [← hR1]; simp; omega
  have htl : (cellsP (xs.take i)).length = i * 2 := by rw [cellsP_len, List.length_take]; omega
  have e1 : cur.toList.take (i * 2) = cellsP (xs.take i) := by
    have h1 : cur.toList.take (i * 2) = (cellsP xs).take (i * 2) := by rw [← htk, List.take_take, Nat.min_eq_left (by omega)]
    rw [h1]; exact cellsP_take (by omega)
  have hap : ∀ ty a c, (cs1 ≠ [] → a = ⟨g, (i + 1) * 2, none⟩) → (Builtin.append_ #[22, 22] ty #[.slice (some ⟨g, 0, none⟩) i cap, .slice (some a) (n - (i + 1)) c]).run Try.prog w.drew = .ok (.slice (some ⟨g, 0, none⟩) (i + (n - (i + 1))) cap) (w.drew.setRow g R1.toArray) := fun ty a c ha => by
    have h := run_append_room (P := Try.prog) w.drew 22 ty 31 i0 Try.underlying22 hi0 g i cap cur hg a (n - (i + 1)) c cs1 (by rw [hcl, hz1]) (fun j u hj => by
      have hne : cs1 ≠ [] := fun e => by rw [e] at hj; simp at hj
      rw [ha hne, add_at']; exact hsrc j u hj) hc1 (by omega) (by rw [hz1, hcl, hcs]; omega)
    rw [hz1, hR1] at h
    exact h
  have hlen : i + (n - (i + 1)) = n - 1 := by omega
  rw [hlen] at hap
  have hfin : (row2 R1 [.string ⟨#[]⟩, .string ⟨#[]⟩] ((n - 1) * 2)).take ((n - 1) * 2) = cellsP (xs.take i ++ xs.drop (i + 1)) := by
    unfold row2
    rw [List.append_assoc, List.take_left' (by rw [List.length_take, hR1l]; omega), ← hR1, e1, List.take_left' (by rw [List.length_append, htl, hcl]; omega), cellsP_app, hcs1]
  have hr2l : (row2 R1 [.string ⟨#[]⟩, .string ⟨#[]⟩] ((n - 1) * 2)).length = cap * 2 := by rw [row2_len (by show (n - 1) * 2 + 2 ≤ _; rw [hR1l]; omega), hR1l]
  have hfl : (cellsP (xs.take i ++ xs.drop (i + 1))).length = (n - 1) * 2 := by
    rw [cellsP_len, List.length_append, List.length_take, List.length_drop]; omega
  have hW1 : (w.drew.setRow g R1.toArray).heap[g]? = some (.cells R1.toArray 31 (0, 0)) := setRow_heap w.drew g cur _ 31 _ hg
  have hB1 : Below base w (w.drew.setRow g R1.toArray) := below_setRow (below_drew1 (Below.refl base w)) hb _
  obtain ⟨W1, hWW⟩ : ∃ W1, w.drew.setRow g R1.toArray = W1 := ⟨_, rfl⟩
  rw [hWW] at hap hW1 hB1
  have hclr : ∀ ty c, (Builtin.clear_ #[22] ty #[.slice (some ⟨g, (n - 1) * 2, none⟩) 1 c]).run Try.prog W1 = .ok (.tuple #[]) (W1.setRow g (row2 R1 [.string ⟨#[]⟩, .string ⟨#[]⟩] ((n - 1) * 2)).toArray) := fun ty c => by
    have h := run_clearP W1 ty g ((n - 1) * 2) c R1.toArray 31 hW1 (by rw [List.size_toArray, hR1l]; omega)
    exact h
  have HFIN := Lib.hid hfin
  have HR2L := Lib.hid hr2l
  have HFL := Lib.hid hfl
  have HAP := Lib.hid hap
  have HCLR := Lib.hid hclr
  have HW1 := Lib.hid hW1
  have HB1 := Lib.hid hB1
  have HCL := Lib.hid hcl
  obtain ⟨m, rfl⟩ : ∃ m, n = m + 1 := ⟨n - 1, by omega⟩
  simp only [Nat.add_sub_cancel] at HFIN HR2L HFL HAP HCLR ⊢
  clear hfin hr2l hfl hap hclr hW1 hB1 hWW hR1 hR1l hLl htl e1 hsrc hc1 hcl hcs1 hcell hxl htk hcs hg hlen
  have hz2 : ¬ ((i : Int) = ((i + 1 : Nat) : Int)) := by omega
  have hz3 : ((i : Int) == ((i + 1 : Nat) : Int)) = false := by rw [beq_eq_false_iff_ne]; omega
  have hz4 : ((i : Int) == (i : Int) + 1) = false := by rw [beq_eq_false_iff_ne]; omega
  have hb1 : (0 : Int) ≤ (i : Int) + 1 := by omega
  have htn : ((i : Int) + 1).toNat = i + 1 := by omega
  have hb3 : (i : Int) ≤ (m : Int) := by omega
  have hb4 : (i : Int) + 1 ≤ (m : Int) + 1 := by omega
  have hic : i ≤ cap := by omega
  have hmm : (m : Int) ≤ (m : Int) + 1 := by omega
  rw [show m + 1 - (i + 1) = m - i by omega] at HAP HCL
  have hcne : cap = i + 1 → cs1 = [] := fun e => List.eq_nil_of_length_eq_zero (by rw [HCL.out]; omega)
  go_enter Try.func95, Try.ntmps95
  go_wp2_with fail
  by_cases hck : cap = i + 1
  · have HA0 : Hid (∀ a : Addr, cs1 ≠ [] → a = ⟨g, (i + 1) * 2, none⟩) := Lib.hid (fun _ h => absurd (hcne hck) h)
    have hmi : m = i := by omega
    subst hck
    subst hmi
    rw [Nat.sub_self] at HAP
    go_region_law (refine step_append_runP rfl (.tmp 22) (.tmp 25) 22 22 rfl (.slice (some ⟨g, 0, none⟩) m (m + 1)) (.slice (some ⟨g, 0, none⟩) 0 0) (by simp [Act.eval, Act.put]) (by simp [Act.eval, Act.put]) (HAP.out _ _ _ (HA0.out _)) ?_)
    go_wp2_with (simp only [HCLR.out, Result.andThen])
    go_ret
    refine ⟨.slice (some ⟨g, 0, none⟩) m (m + 1), rfl, ⟨HFL.out, .inr ⟨g, (m + 1), _, rfl, hb, setRow_heap W1 g _ _ 31 _ HW1.out, by omega, by unfold maxLen; omega, by rw [List.size_toArray]; exact HR2L.out, ?_⟩⟩, below_setRow HB1.out hb _⟩
    rw [List.toList_toArray, HFIN.out]
  · have hck2 : ¬ cap - (i + 1) = 0 := by omega
    go_region_law (refine step_append_runP rfl (.tmp 22) (.tmp 25) 22 22 rfl (.slice (some ⟨g, 0, none⟩) i cap) (.slice (some ⟨g, (i + 1) * 2, none⟩) (m - i) (cap - (i + 1))) (by simp [Act.eval, Act.put]) (by simp [Act.eval, Act.put]) (HAP.out _ _ _ (fun _ => rfl)) ?_)
    go_wp2_with (simp only [HCLR.out, Result.andThen])
    go_ret
    refine ⟨.slice (some ⟨g, 0, none⟩) m cap, rfl, ⟨HFL.out, .inr ⟨g, cap, _, rfl, hb, setRow_heap W1 g _ _ 31 _ HW1.out, by omega, by unfold maxLen; omega, by rw [List.size_toArray]; exact HR2L.out, ?_⟩⟩, below_setRow HB1.out hb _⟩
    rw [List.toList_toArray, HFIN.out]
theorem dele_any (v0 : Value) (n base i : Nat) (xs : List Pr) (w : World) (hown : w.ownsRow base 31 2 v0 n (cellsP xs)) (hn : n ≤ 100000) (hi : i < n) :
    Calls Try.prog 95 #[v0, .int .i64 (i : Nat), .int .i64 (i + 1 : Nat)] w fun e w' => ∃ v', e = .returned v' ∧ w'.ownsRow base 31 2 v' (n - 1) (cellsP (xs.take i ++ xs.drop (i + 1))) ∧ Below base w w' := by
  rcases hown.2 with ⟨_, h0⟩ | ⟨g, cap, cur, rfl, hbg, hg, hnc, hcm, hcs, htk⟩
  · omega
  · have hl := hown.1
    exact del_any g cap n i base xs w cur hg hcs htk (by unfold maxLen at hcm; omega) hi hn hnc hbg
end Go.Proofs.Ytbgpcmpbfenplaa.KK
