/-
  slices.Insert of one pair where there is no room: a new row; slices.Insert of one pair, whatever the row.
-/
import Derived.Test.YtbgpcmpbfenplaaVg
namespace Go.Proofs.Ytbgpcmpbfenplaa.KK
open Go.ChangeShapes Go.WideShapes Go.ChangeAt Go.RowKit Go.Proofs

theorem row_grow {L cs ys : List Value} {a : Nat} (h : a ≤ L.length) (hy : ys.length = 2) : row1 (row2 L ys a) cs a = L.take a ++ ys ++ (cs ++ (row2 L ys a).drop (a + 2 + cs.length)) := by
  unfold row1
  have e1 : (row2 L ys a).take (a + 2) = L.take a ++ ys := by
    unfold row2
    exact List.take_left' (by rw [List.length_append, List.length_take, Nat.min_eq_left h, hy])
  rw [e1]; simp
theorem row2_len {L ys : List Value} {a : Nat} (h : a + ys.length ≤ L.length) : (row2 L ys a).length = L.length := by
  unfold row2; simp; omega
set_option maxRecDepth 100000 in
set_option maxHeartbeats 4000000 in
theorem ins_grow (g cap n i : Nat) (xs : List Pr) (w : World) (cur : Array Value) (hg : w.heap[g]? = some (.cells cur 31 (0, 0))) (hcs : cur.size = cap * 2) (htk : cur.toList.take (n * 2) = cellsP xs) (hi : i < n) (hn : n ≤ 100000) (hnc : n ≤ cap) (hroom : cap < n + 1)
    (vb : Nat) (x : Pr) (hv : w.heap[vb]? = some (.cells #[.string x.1, .string x.2] 31 (0, 0))) (base : Nat) (hb : base ≤ w.heap.size) :
    Calls Try.prog 96 #[.slice (some ⟨g, 0, none⟩) n cap, .int .i64 (i : Nat), .slice (some ⟨vb, 0, none⟩) 1 1] w fun e w' => ∃ v', e = .returned v' ∧ w'.ownsRow base 31 2 v' (n + 1) (cellsP (xs.take i ++ x :: xs.drop i)) ∧ Below base w w' := by
  obtain ⟨i0, hi0, hz0, hz1, hz2'⟩ := info_parts infoP
  have hxl : xs.length = n := by
    have := congrArg List.length htk
    rw [cellsP_len, List.length_take, Array.length_toList] at this; omega
  have hz2 : ¬ ((i : Int) = (n : Int)) := by omega
  have hz3 : ((i : Int) == (n : Int)) = false := by rw [beq_eq_false_iff_ne]; omega
  have hz4 : (cap : Int) < (n : Int) + 1 := by omega
  have hci : ¬ (cap = i) := by omega
  have hkk : (n : Int) + 1 - (i : Int) = ((n + 1 - i : Nat) : Int) := by omega
  have hik : i + (n + 1 - i) = n + 1 := by omega
  have hvb : vb < w.heap.size := (Array.getElem?_eq_some_iff.1 hv).1
  have hgb : g < w.heap.size := (Array.getElem?_eq_some_iff.1 hg).1
  have hcell : ∀ j u, (cellsP xs)[j]? = some u → w.cell? ⟨g, j, none⟩ = some u := fun j u hj => by
    rw [← htk, List.getElem?_take] at hj
    split at hj
    · rw [cell_of_row w g j _ _ _ hg]; simpa using hj
    · cases hj
  have hold : (Builtin.firstCells i0.size i (.slice (some ⟨g, 0, none⟩) i cap)).run Try.prog w.drew = .ok (cellsP (xs.take i)).toArray w.drew := by
    rw [hz1]
    exact run_firstCells_some w.drew 2 i ⟨g, 0, none⟩ i cap (cellsP (xs.take i)) (by rw [cellsP_len, List.length_take]; omega) (fun j v hj => by
      rw [add_at', Nat.zero_add]
      rw [← cellsP_take (by omega), List.getElem?_take] at hj
      split at hj
      · exact hcell j v hj
      · cases hj)
  have hrz : ∀ ty, (Builtin.append_ #[22, 3] ty #[.slice (some ⟨g, 0, none⟩) i cap, .int .i64 ((n : Int) + 1 - (i : Int))]).run Try.prog w =
      .ok (.slice (some ⟨w.heap.size, 0, none⟩) (n + 1) (grownCap w (n + 1) cap 31)) (w.drew.alloc (.cells ((cellsP (xs.take i)).toArray ++ Builtin.zeroCells (Value.agg #[.string ⟨#[]⟩, .string ⟨#[]⟩]).cells (n + 1 - i) ++ Builtin.zeroCells (Value.agg #[.string ⟨#[]⟩, .string ⟨#[]⟩]).cells (grownCap w (n + 1) cap 31 - (n + 1))) 31)) := fun ty => by
    have h := Lib.run_append_grow_zeros w 22 3 ty 31 i0 _ .i64 .i64 Try.underlying22 Try.underlying3 hi0 hz0 (some ⟨g, 0, none⟩) i cap (cellsP (xs.take i)) hold (n + 1 - i) (by omega) (by rw [hz1]; decide) (by omega) (by omega) (by rw [hz2']; omega) (by rw [hz2', hik]; exact growslice_fits hroom (by omega))
    rw [hik] at h
    rw [hkk]
    exact h
  obtain ⟨G, hG⟩ : ∃ G, G = grownCap w (n + 1) cap 31 := ⟨_, rfl⟩
  have hGn : n + 1 ≤ G := by rw [hG]; exact grownCap_ge w _ _ _
  have hGm : G ≤ maxLen := by rw [hG]; exact grownCap_le_maxLen w (n + 1) cap 31 (by unfold maxLen; omega)
  obtain ⟨ROW, hROW⟩ : ∃ ROW : Array Value, ROW = (cellsP (xs.take i)).toArray ++ Builtin.zeroCells (Value.agg #[.string ⟨#[]⟩, .string ⟨#[]⟩]).cells (n + 1 - i) ++ Builtin.zeroCells (Value.agg #[.string ⟨#[]⟩, .string ⟨#[]⟩]).cells (G - (n + 1)) := ⟨_, rfl⟩
  rw [← hG, ← hROW] at hrz
  have htl : (cellsP (xs.take i)).length = i * 2 := by rw [cellsP_len, List.length_take]; omega
  have hRl : ROW.toList.length = G * 2 := by
    rw [hROW]
    simp [Builtin.zeroCells, Value.cells, htl]
    omega
  have hRt : ROW.toList.take (i * 2) = cellsP (xs.take i) := by
    rw [hROW]
    simp only [Array.toList_append, List.append_assoc]
    exact List.take_left' htl
  obtain ⟨cs1, hcs1⟩ : ∃ cs1, cellsP (xs.drop i) = cs1 := ⟨_, rfl⟩
  have hcl : cs1.length = (n - i) * 2 := by rw [← hcs1, cellsP_len, List.length_drop, hxl]
  have hc1 : ∀ v ∈ cs1, v.oneCell' = true := by rw [← hcs1]; exact cellsP_one _
  have hsrc : ∀ j u, cs1[j]? = some u → w.cell? ⟨g, i * 2 + j, none⟩ = some u := fun j u hj => by
    rw [← hcs1, ← cellsP_drop (by omega), List.getElem?_drop] at hj
    exact hcell _ _ hj
  have hR1l : (row2 ROW.toList [.string x.1, .string x.2] (i * 2)).length = G * 2 := by rw [row2_len (by show i * 2 + 2 ≤ _; rw [hRl]; omega), hRl]
  have hfin : row1 (row2 ROW.toList [.string x.1, .string x.2] (i * 2)) cs1 (i * 2) = (cellsP (xs.take i ++ x :: xs.drop i)) ++ (row2 ROW.toList [.string x.1, .string x.2] (i * 2)).drop (i * 2 + 2 + cs1.length) := by
    rw [row_grow (by omega) rfl, hRt, cellsP_app, cellsP_cons, hcs1]; simp
  have hfl : (cellsP (xs.take i ++ x :: xs.drop i)).length = (n + 1) * 2 := by
    rw [cellsP_len, List.length_append, List.length_cons, List.length_take, List.length_drop]; omega
  obtain ⟨R1, hR1⟩ : ∃ R1, row2 ROW.toList [.string x.1, .string x.2] (i * 2) = R1 := ⟨_, rfl⟩
  have hcp1 : ∀ (W : World), W.heap[w.heap.size]? = some (.cells ROW 31 (0, 0)) → W.heap[vb]? = some (.cells #[.string x.1, .string x.2] 31 (0, 0)) → ∀ ty dc, (Builtin.copy_ #[22, 22] ty #[.slice (some ⟨w.heap.size, i * 2, none⟩) (n + 1 - i) dc, .slice (some ⟨vb, 0, none⟩) 1 1]).run Try.prog W = .ok (goInt (Nat.min 1 (n + 1 - i) : Nat)) (W.setRow w.heap.size R1.toArray) := fun W h1 h2 ty dc => by
    have h := run_copy_rowS (P := Try.prog) 2 W 22 22 ty 31 w.heap.size (i * 2) (n + 1 - i) dc ⟨vb, 0, none⟩ 1 1 ROW 31 [.string x.1, .string x.2] Try.underlying22 szP h1 (by simp only [Nat.min_def]; rw [if_pos (by omega)]; rfl) (fun j u hj => by rw [add_at', Nat.zero_add, cell_of_row W vb j _ _ _ h2]; simpa using hj) (by have := hRl; rw [Array.length_toList] at this; simp; omega) (by simp [Value.oneCell'])
    rw [← hR1]; exact h
  rw [hR1] at hR1l hfin
  have hr2l : (row1 R1 cs1 (i * 2)).length = G * 2 := by rw [row1_len (by rw [hcl, hR1l]; omega), hR1l]
  have hcp2 : ∀ (W : World), W.heap[w.heap.size]? = some (.cells R1.toArray 31 (0, 0)) → (∀ j u, cs1[j]? = some u → W.cell? ⟨g, i * 2 + j, none⟩ = some u) → ∀ ty dc sc, (Builtin.copy_ #[22, 22] ty #[.slice (some ⟨w.heap.size, (i + 1) * 2, none⟩) (n - i) dc, .slice (some ⟨g, i * 2, none⟩) (n - i) sc]).run Try.prog W = .ok (goInt (Nat.min (n - i) (n - i) : Nat)) (W.setRow w.heap.size (row1 R1 cs1 (i * 2)).toArray) := fun W h1 h2 ty dc sc => by
    have h := run_copy_rowS (P := Try.prog) 2 W 22 22 ty 31 w.heap.size ((i + 1) * 2) (n - i) dc ⟨g, i * 2, none⟩ (n - i) sc R1.toArray 31 cs1 Try.underlying22 szP h1 (by rw [hcl]; congr 1; exact (Nat.min_self _).symm) (fun j u hj => by rw [add_at']; exact h2 j u hj) (by rw [hcl, List.size_toArray, hR1l]; omega) hc1
    rw [show (i + 1) * 2 = i * 2 + 2 by omega] at h ⊢
    exact h
  have HFIN := Lib.hid hfin
  have HFL := Lib.hid hfl
  have HR2L := Lib.hid hr2l
  have HV := Lib.hid hv
  have HSRC := Lib.hid hsrc
  have HCP1 := Lib.hid hcp1
  have HCP2 := Lib.hid hcp2
  have HRZ := Lib.hid hrz
  have HGM := Lib.hid hGm
  have hG63 : G ≤ 9223372036854775807 := by unfold maxLen at hGm; omega
  have hGi : ¬ (G = i) := by omega
  have hGi1 : ¬ (G = i + 1) := by omega
  have hw1 : IntKind.i64.wrap ((i : Int) + 1) = (i : Int) + 1 := by rw [IntKind.wrap_i64]; omega
  have hb1 : (0 : Int) ≤ (i : Int) + 1 := by omega
  have htn : ((i : Int) + 1).toNat = i + 1 := by omega
  have hin : i ≤ n := by omega
  have hb3 : (i : Int) ≤ (n : Int) := by omega
  have hb5 : (i : Int) ≤ (n : Int) + 1 := by omega
  clear hfin hfl hr2l hg hv hcp1 hcp2 hsrc hcs1 hcl hc1 hR1 hR1l htk hcs hxl hrz hGm hG hROW hRl hRt htl hold hcell hkk hik
  have hA1 : ((w.alloc (.cells ROW 31)).drew).heap[w.heap.size]? = some (.cells ROW 31 (0, 0)) := heap_alloc_new w _
  have hA2 : ((w.alloc (.cells ROW 31)).drew).heap[vb]? = some (.cells #[.string x.1, .string x.2] 31 (0, 0)) := (heap_alloc_old w _ hvb).trans HV.out
  have HCPA := Lib.hid (HCP1.out _ hA1 hA2)
  have hB1 : ((w.alloc (.cells ROW 31)).drew.setRow w.heap.size R1.toArray).heap[w.heap.size]? = some (.cells R1.toArray 31 (0, 0)) := setRow_heap _ w.heap.size ROW _ 31 _ hA1
  have hB2 : ∀ j u, cs1[j]? = some u → ((w.alloc (.cells ROW 31)).drew.setRow w.heap.size R1.toArray).cell? ⟨g, i * 2 + j, none⟩ = some u := fun j u hj =>
    (World.cell?_of_block (a := ⟨g, i * 2 + j, none⟩) ((setRow_other _ w.heap.size g _ (by omega)).trans (heap_alloc_old w _ hgb))).trans (HSRC.out j u hj)
  have hB3 : Below base w ((w.alloc (.cells ROW 31)).drew.setRow w.heap.size R1.toArray) := below_setRow (below_drew1 ((Below.refl base w).alloc hb _)) hb _
  obtain ⟨W2, hW2⟩ : ∃ W2, (w.alloc (.cells ROW 31)).drew.setRow w.heap.size R1.toArray = W2 := ⟨_, rfl⟩
  rw [hW2] at HCPA hB1 hB2 hB3
  have HCPB := Lib.hid (HCP2.out W2.drew hB1 hB2)
  have HB1 := Lib.hid hB1
  have HB3 := Lib.hid hB3
  clear hA1 hA2 hB1 hB2 hB3 hW2 HCP1 HCP2 HSRC HV
  go_enter Try.func96, Try.ntmps96
  go_wp2_with (first | (at_builtin; refine wpList_append_runP _ rfl (.tmp 34) (.tmp 39) 22 3 rfl _ _ rfl rfl (HRZ.out _) ?_) | (refine wpList_copy_runP _ rfl (.tmp 43) (.tmp 44) 22 22 rfl _ _ rfl rfl (HCPA.out _ _) ?_))
  go_region_law (refine step_copy_runP rfl (.tmp 50) (.tmp 53) 22 22 rfl (.slice (some ⟨w.heap.size, (i + 1) * 2, none⟩) (n - i) (G - (i + 1))) (.slice (some ⟨g, i * 2, none⟩) (n - i) (cap - i)) (by simp [Act.eval, Act.put]) (by simp [Act.eval, Act.put]) (HCPB.out _ _ _) ?_)
  go_wp2_with fail
  go_ret
  refine ⟨.slice (some ⟨w.heap.size, 0, none⟩) (n + 1) G, rfl, ⟨HFL.out, .inr ⟨w.heap.size, G, _, rfl, hb, setRow_heap W2.drew w.heap.size _ _ 31 _ HB1.out, hGn, HGM.out, by rw [List.size_toArray]; exact HR2L.out, ?_⟩⟩, below_setRow (below_drew1 HB3.out) hb _⟩
  rw [List.toList_toArray, HFIN.out, ← HFL.out, List.take_left]
/-- slices.Insert of one pair, into whatever row of the call's own -/
theorem ins_any (v0 : Value) (n base i : Nat) (xs : List Pr) (w : World) (hown : w.ownsRow base 31 2 v0 n (cellsP xs)) (hn : n ≤ 100000) (hi : i ≤ n) (vb : Nat) (x : Pr) (hv : w.heap[vb]? = some (.cells #[.string x.1, .string x.2] 31 (0, 0))) (hne : v0.ownBlock ≠ some vb) (hb : base ≤ w.heap.size) :
    Calls Try.prog 96 #[v0, .int .i64 (i : Nat), .slice (some ⟨vb, 0, none⟩) 1 1] w fun e w' => ∃ v', e = .returned v' ∧ w'.ownsRow base 31 2 v' (n + 1) (cellsP (xs.take i ++ x :: xs.drop i)) ∧ Below base w w' := by
  have hxl : xs.length = n := by have := hown.1; rw [cellsP_len] at this; omega
  by_cases hin : i = n
  · subst hin
    obtain ⟨A, c, rfl, _, _⟩ := own_cap2 hown
    rw [List.take_of_length_le (by omega), List.drop_eq_nil_of_le (by omega)]
    exact ins_end A c i base xs w hown hn vb x hv hb
  · rcases hown.2 with ⟨_, h0⟩ | ⟨g, cap, cur, rfl, hbg, hg, hnc, hcm, hcs, htk⟩
    · omega
    · by_cases hroom : n + 1 ≤ cap
      · exact ins_shift g cap n i xs w cur hg hcs htk (by unfold maxLen at hcm; omega) (by omega) hn hroom vb x hv (fun e => hne (by rw [e]; rfl)) base hbg
      · exact ins_grow g cap n i xs w cur hg hcs htk (by omega) hn hnc (by omega) vb x hv base hb
end Go.Proofs.Ytbgpcmpbfenplaa.KK
