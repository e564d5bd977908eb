/-
  slices.Insert of one pair in the midst of a row of the call's own.
-/
import Derived.Test.YtbgpcmpbfenplaaVf
import Derived.Laws.CopyOwn
namespace Go.Proofs.Ytbgpcmpbfenplaa.KK
open Go.ChangeShapes Go.WideShapes Go.ChangeAt Go.RowKit Go.Proofs

def row1 (L cs : List Value) (a : Nat) : List Value := L.take (a + 2) ++ cs ++ L.drop (a + 2 + cs.length)
def row2 (L ys : List Value) (a : Nat) : List Value := L.take a ++ ys ++ L.drop (a + ys.length)
theorem row_shift {L cs ys : List Value} {a : Nat} (h : a + 2 ≤ L.length) (hy : ys.length = 2) : row2 (row1 L cs a) ys a = L.take a ++ ys ++ (cs ++ L.drop (a + 2 + cs.length)) := by
  unfold row2 row1
  rw [hy]
  have e1 : (L.take (a + 2) ++ cs ++ L.drop (a + 2 + cs.length)).take a = L.take a := by
    rw [List.append_assoc, List.take_append_of_le_length (by rw [List.length_take]; omega), List.take_take, Nat.min_eq_left (by omega)]
  have e2 : (L.take (a + 2) ++ cs ++ L.drop (a + 2 + cs.length)).drop (a + 2) = cs ++ L.drop (a + 2 + cs.length) := by
    rw [List.append_assoc, List.drop_append_of_le_length (by rw [List.length_take]; omega), List.drop_eq_nil_of_le (by rw [List.length_take]; omega), List.nil_append]
  rw [e1, e2]
theorem row1_len {L cs : List Value} {a : Nat} (h : a + 2 + cs.length ≤ L.length) : (row1 L cs a).length = L.length := by
  unfold row1; simp; omega
theorem below_drew1 {B : Nat} {w0 w : World} (h : Below B w0 w) : Below B w0 w.drew := ⟨h.os, h.tape, h.output, h.size, h.block⟩
theorem cellsP_drop {xs : List Pr} {i : Nat} (h : i ≤ xs.length) : (cellsP xs).drop (i * 2) = cellsP (xs.drop i) := by
  conv => lhs; rw [← List.take_append_drop i xs]
  rw [cellsP_app]; exact List.drop_left' (by rw [cellsP_len, List.length_take, Nat.min_eq_left h])
theorem cellsP_take {xs : List Pr} {i : Nat} (h : i ≤ xs.length) : (cellsP xs).take (i * 2) = cellsP (xs.take i) := by
  conv => lhs; rw [← List.take_append_drop i xs]
  rw [cellsP_app]; exact List.take_left' (by rw [cellsP_len, List.length_take, Nat.min_eq_left h])
theorem szE2 : ∀ w, (Go.sizeOf 31).run Try.prog w = .ok 2 w := fun w => by kernel_rfl
set_option maxRecDepth 100000 in
set_option maxHeartbeats 4000000 in
theorem ins_shift (g cap n i : Nat) (xs : List Pr) (w : World) (cur : Array Value) (hg : w.heap[g]? = some (.cells cur 31 (0, 0))) (hcs : cur.size = cap * 2) (htk : cur.toList.take (n * 2) = cellsP xs) (hcm : cap ≤ 9223372036854775807) (hi : i < n) (hn : n ≤ 100000) (hroom : n + 1 ≤ cap)
    (vb : Nat) (x : Pr) (hv : w.heap[vb]? = some (.cells #[.string x.1, .string x.2] 31 (0, 0))) (hne : vb ≠ g) (base : Nat) (hb : base ≤ g) :
    Calls Try.prog 96 #[.slice (some ⟨g, 0, none⟩) n cap, .int .i64 (i : Nat), .slice (some ⟨vb, 0, none⟩) 1 1] w fun e w' => ∃ v', e = .returned v' ∧ w'.ownsRow base 31 2 v' (n + 1) (cellsP (xs.take i ++ x :: xs.drop i)) ∧ Below base w w' := by
  have hxl : xs.length = n := by
    have := congrArg List.length htk
    rw [cellsP_len, List.length_take, Array.length_toList] at this; omega
  have hov : ∀ lb cb, (callFunc 103 #[.slice (some ⟨vb, 0, none⟩) 1 1, .slice (some ⟨g, (i + 1) * 2, none⟩) lb cb]).run Try.prog w = .ok (.value (.bool false)) w := fun lb cb => by
    rw [run_callFunc_extern Try.func103 (by kernel_rfl) (by kernel_rfl) (by kernel_rfl) (e := Extern.SlicesOverlaps.overlaps #[22, 22] #[4]) (by kernel_rfl),
      Lib.run_overlaps_apart w 22 4 31 Try.underlying22 2 szE2 ⟨vb, 0, none⟩ ⟨g, (i + 1) * 2, none⟩ 1 1 lb cb hne 31 31 2 (cap * 2) (by simp [World.shape?, hv]) (by simp [World.shape?, hg, hcs]) (by omega) (by simp [World.frozen?, hv]) (by simp [World.frozen?, hv])]
    rfl
  have hb2 : ¬ (cap = i + 1) := by omega
  have hb4 : ¬ (cap = i) := by omega
  have hb3 : (i : Int) ≤ (n : Int) + 1 := by omega
  have hb5 : (i : Int) ≤ (n : Int) := by omega
  have hz2 : ¬ ((i : Int) = (n : Int)) := by omega
  have hz3 : ((i : Int) == (n : Int)) = false := by rw [beq_eq_false_iff_ne]; omega
  have hw1 : IntKind.i64.wrap ((i : Int) + 1) = (i : Int) + 1 := by rw [IntKind.wrap_i64]; omega
  have hb6 : (0 : Int) ≤ (i : Int) + 1 := by omega
  have htn : ((i : Int) + 1).toNat = i + 1 := by omega
  have hin : i ≤ n := by omega
  have hvb : vb < w.heap.size := (Array.getElem?_eq_some_iff.1 hv).1
  have hgb : g < w.heap.size := (Array.getElem?_eq_some_iff.1 hg).1
  obtain ⟨cs1, hcs1⟩ : ∃ cs1, cellsP (xs.drop i) = cs1 := ⟨_, rfl⟩
  have hcl : cs1.length = (n - i) * 2 := by rw [← hcs1, cellsP_len, List.length_drop, hxl]
  have hc1 : ∀ v ∈ cs1, v.oneCell' = true := by rw [← hcs1]; exact cellsP_one _
  have hLl : cur.toList.length = cap * 2 := by rw [Array.length_toList]; exact hcs
  have hsrc : ∀ j u, cs1[j]? = some u → w.cell? ⟨g, i * 2 + j, none⟩ = some u := fun j u hj => by
    have hdrop : cs1 = (cellsP xs).drop (i * 2) := by
      rw [← hcs1]; exact (cellsP_drop (by omega)).symm
    rw [hdrop, ← htk, List.getElem?_drop, List.getElem?_take] at hj
    split at hj
    · rw [cell_of_row w g (i * 2 + j) _ _ _ hg]; simpa using hj
    · cases hj
  have hcp1 : ∀ ty dc sc, (Builtin.copy_ #[22, 22] ty #[.slice (some ⟨g, (i + 1) * 2, none⟩) (n - i) dc, .slice (some ⟨g, i * 2, none⟩) (n + 1 - i) sc]).run Try.prog w.drew = .ok (goInt (Nat.min (n + 1 - i) (n - i) : Nat)) (w.drew.setRow g (row1 cur.toList cs1 (i * 2)).toArray) := fun ty dc sc => by
    have h := run_copy_rowS (P := Try.prog) 2 w.drew 22 22 ty 31 g ((i + 1) * 2) (n - i) dc ⟨g, i * 2, none⟩ (n + 1 - i) sc cur 31 cs1 Try.underlying22 szP hg (by rw [hcl]; congr 1; simp only [Nat.min_def]; split <;> omega) (fun j u hj => by rw [add_at']; exact hsrc j u hj) (by rw [hcl, hcs]; omega) hc1
    rw [show (i + 1) * 2 = i * 2 + 2 by omega] at h
    rw [show (i + 1) * 2 = i * 2 + 2 by omega]
    exact h
  obtain ⟨R1, hR1⟩ : ∃ R1, (row1 cur.toList cs1 (i * 2)) = R1 := ⟨_, rfl⟩
  have hR1l : R1.length = cap * 2 := by rw [← hR1, row1_len (by rw [hcl, hLl]; omega), hLl]
  rw [hR1] at hcp1
  have hcp2 : ∀ (W : World), W.heap[g]? = some (.cells R1.toArray 31 (0, 0)) → W.heap[vb]? = some (.cells #[.string x.1, .string x.2] 31 (0, 0)) → ∀ ty dc, (Builtin.copy_ #[22, 22] ty #[.slice (some ⟨g, i * 2, none⟩) (n + 1 - i) dc, .slice (some ⟨vb, 0, none⟩) 1 1]).run Try.prog W = .ok (goInt (Nat.min 1 (n + 1 - i) : Nat)) (W.setRow g (row2 R1 [.string x.1, .string x.2] (i * 2)).toArray) := fun W h1 h2 ty dc => by
    have h := run_copy_rowS (P := Try.prog) 2 W 22 22 ty 31 g (i * 2) (n + 1 - i) dc ⟨vb, 0, none⟩ 1 1 R1.toArray 31 [.string x.1, .string x.2] Try.underlying22 szP h1 (by simp only [Nat.min_def]; rw [if_pos (by omega)]; rfl) (fun j u hj => by rw [add_at', Nat.zero_add, cell_of_row W vb j _ _ _ h2]; simpa using hj) (by simp; omega) (by simp [Value.oneCell'])
    exact h
  have hfin : row2 R1 [.string x.1, .string x.2] (i * 2) = (cellsP (xs.take i ++ x :: xs.drop i)) ++ cur.toList.drop (i * 2 + 2 + cs1.length) := by
    rw [← hR1, row_shift (by rw [hLl]; omega) rfl]
    have e1 : cur.toList.take (i * 2) = cellsP (xs.take i) := by
      have h1 : cur.toList.take (i * 2) = (cellsP xs).take (i * 2) := by rw [← htk, List.take_take, Nat.min_eq_left (by omega)]
      rw [h1]; exact cellsP_take (by omega)
    rw [e1, cellsP_app, cellsP_cons, hcs1]; simp
  have hfl : (cellsP (xs.take i ++ x :: xs.drop i)).length = (n + 1) * 2 := by
    rw [cellsP_len, List.length_append, List.length_cons, List.length_take, List.length_drop]; omega
  have hr2l : (row2 R1 [.string x.1, .string x.2] (i * 2)).length = cap * 2 := by
    unfold row2; simp; omega
  have HFIN := Lib.hid hfin
  have HFL := Lib.hid hfl
  have HR2L := Lib.hid hr2l
  have HG := Lib.hid hg
  have HV := Lib.hid hv
  have HCP1 := Lib.hid hcp1
  have HCP2 := Lib.hid hcp2
  clear hfin hfl hr2l hg hv hcp1 hcp2 hsrc hcs1 hcl hc1 hLl hR1 hR1l htk hcs hxl
  go_enter Try.func96, Try.ntmps96
  go_wp2_with (simp only [hov])
  clear hov
  go_region_law (refine step_copy_runP rfl (.tmp 73) (.tmp 76) 22 22 rfl (.slice (some ⟨g, (i + 1) * 2, none⟩) (n - i) (cap - (i + 1))) (.slice (some ⟨g, i * 2, none⟩) (n + 1 - i) (cap - i)) (by simp [Act.eval, Act.put]) (by simp [Act.eval, Act.put]) (HCP1.out _ _ _) ?_)
  have H1 : Hid ((w.drew.setRow g R1.toArray).heap[g]? = some (.cells R1.toArray 31 (0, 0))) := Lib.hid (setRow_heap w.drew g cur _ 31 _ HG.out)
  have H2 : Hid ((w.drew.setRow g R1.toArray).heap[vb]? = some (.cells #[.string x.1, .string x.2] 31 (0, 0))) := Lib.hid ((setRow_other w.drew g vb _ hne).trans HV.out)
  obtain ⟨W1, hW1⟩ : ∃ W1, w.drew.setRow g R1.toArray = W1 := ⟨_, rfl⟩
  have HB1 : Hid (Below base w W1) := Lib.hid (by rw [← hW1]; exact below_setRow ((below_drew1 (Below.refl base w))) hb _)
  rw [hW1] at H1 H2 ⊢
  clear hW1
  go_wp2_with (refine wpList_copy_runP _ rfl (.tmp 80) (.tmp 81) 22 22 rfl _ _ rfl rfl (HCP2.out _ H1.out H2.out _ _) ?_)
  go_ret
  refine ⟨.slice (some ⟨g, 0, none⟩) (n + 1) cap, rfl, ⟨HFL.out, .inr ⟨g, cap, _, rfl, hb, setRow_heap W1 g _ _ 31 _ H1.out, hroom, by unfold maxLen; omega, by rw [List.size_toArray]; exact HR2L.out, ?_⟩⟩, below_setRow HB1.out hb _⟩
  rw [List.toList_toArray, HFIN.out, ← HFL.out, List.take_left]
end Go.Proofs.Ytbgpcmpbfenplaa.KK
