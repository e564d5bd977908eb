/-
  Contract of the plain map's written.
-/
import Derived.Test.YtbgpcmpbfenplaaVi
import Derived.Test.YtbgpcmpbfenplaaVj
namespace Go.Proofs.Ytbgpcmpbfenplaa.KK
open Go.ChangeShapes Go.WideShapes Go.ChangeAt Go.RowKit Go.Proofs

/-- the map after one write -/
def putP (xs : List Pr) (x : Wr) : List Pr :=
  if x.2.2 = true then (if hasP x.1 xs = true then xs.take (posP x.1 xs) ++ xs.drop (posP x.1 xs + 1) else xs)
  else if hasP x.1 xs = true then xs.take (posP x.1 xs) ++ (x.1, x.2.1) :: xs.drop (posP x.1 xs + 1)
  else xs.take (posP x.1 xs) ++ (x.1, x.2.1) :: xs.drop (posP x.1 xs)
theorem hasP_key {key : ByteArray} {xs : List Pr} (h : hasP key xs = true) (g : posP key xs < xs.length) : xs[posP key xs].1 = key := by
  unfold hasP at h
  rw [List.getElem?_eq_getElem g] at h
  simpa using h
theorem own_len {w : World} {base n : Nat} {e : TypeId} {v : Value} {ys : List Pr} (h : w.ownsRow base e 2 v n (cellsP ys)) : ys.length = n := by
  have := h.1; rw [cellsP_len] at this; omega
theorem own_put {base n : Nat} {xs : List Pr} {w : World} {g cap : Nat} (hown : w.ownsRow base 31 2 (.slice (some ⟨g, 0, none⟩) n cap) n (cellsP xs)) {i : Nat} (hi : i < xs.length) (val : ByteArray) :
    (w.setCell ⟨g, i * 2 + 1, none⟩ (.string val)).ownsRow base 31 2 (.slice (some ⟨g, 0, none⟩) n cap) n (cellsP (xs.take i ++ (xs[i].1, val) :: xs.drop (i + 1))) ∧ Below base w (w.setCell ⟨g, i * 2 + 1, none⟩ (.string val)) := by
  have hl := own_len hown
  rcases hown.2 with ⟨h0, _⟩ | ⟨g1, cap1, cur, h0, hbg, hg, hnc, hcm, hcs, htk⟩
  · cases h0
  cases h0
  have hcl : (w.setCell ⟨g, i * 2 + 1, none⟩ (.string val)).heap[g]? = some (.cells (cur.setIfInBounds (i * 2 + 1) (.string val)) 31 (0, 0)) := by
    simp [World.setCell, Array.getElem?_modify, hg]
  refine ⟨⟨?_, .inr ⟨g, cap, _, rfl, hbg, hcl, hnc, hcm, by simpa using hcs, ?_⟩⟩, (Below.refl base w).setCell (p := ⟨g, i * 2 + 1, none⟩) hbg _⟩
  · rw [cellsP_len, List.length_append, List.length_take, List.length_cons, List.length_drop]; omega
  · rw [Array.toList_setIfInBounds, List.take_set, htk]
    have e1 : cellsP xs = cellsP (xs.take i) ++ ([.string xs[i].1, .string xs[i].2] ++ cellsP (xs.drop (i + 1))) := by
      rw [← cellsP_cons, ← cellsP_app]; congr 1; rw [List.getElem_cons_drop, List.take_append_drop]
    have e2 : (cellsP (xs.take i)).length = i * 2 := by rw [cellsP_len, List.length_take]; omega
    rw [cellsP_app, cellsP_cons, e1, List.set_append_right _ _ (by omega), e2]
    rw [show i * 2 + 1 - i * 2 = 1 by omega]
    rfl
theorem own_ne {w : World} {base n size : Nat} {e : TypeId} {v : Value} {ys : List Value} (h : w.ownsRow base e size v n ys) : v.ownBlock ≠ some w.heap.size := fun q => by
  rcases h.2 with ⟨rfl, _⟩ | ⟨g, cap, cur, rfl, _, hg, _⟩
  · cases q
  · have := (Array.getElem?_eq_some_iff.1 hg).1
    simp [Value.ownBlock] at q; omega
theorem putP_dead {xs : List Pr} {k v : ByteArray} {p : Nat} (h : hasP k xs = true) (g : posP k xs = p) : putP xs (k, v, true) = xs.take p ++ xs.drop (p + 1) := by
  unfold putP; rw [if_pos rfl, if_pos h, g]
theorem putP_none {xs : List Pr} {k v : ByteArray} (h : hasP k xs = false) : putP xs (k, v, true) = xs := by
  unfold putP; rw [if_pos rfl, if_neg (by rw [h]; simp)]
theorem putP_old {xs : List Pr} {k v : ByteArray} {p : Nat} (h : hasP k xs = true) (g : posP k xs = p) : putP xs (k, v, false) = xs.take p ++ (k, v) :: xs.drop (p + 1) := by
  unfold putP; rw [if_neg (by simp), if_pos h, g]
theorem putP_new {xs : List Pr} {k v : ByteArray} {p : Nat} (h : hasP k xs = false) (g : posP k xs = p) : putP xs (k, v, false) = xs.take p ++ (k, v) :: xs.drop p := by
  unfold putP; rw [if_neg (by simp), if_neg (by rw [h]; simp), g]
set_option maxRecDepth 100000 in
set_option maxHeartbeats 4000000 in
theorem written_any (v0 : Value) (xs : List Pr) (k v : ByteArray) (d : Bool) (base : Nat) (w : World) (hown : w.ownsRow base 31 2 v0 xs.length (cellsP xs)) (hn : xs.length ≤ 5000) (hz : ∀ x ∈ xs, szE x.1 x.2 = 0) (hs : SP xs) (hk : k.size ≤ 32) (hb : base ≤ w.heap.size) :
    Calls Try.prog 76 #[v0, .agg #[.string k, .string v, .bool d]] w fun e w' => ∃ v', e = .returned v' ∧ w'.ownsRow base 31 2 v' (putP xs (k, v, d)).length (cellsP (putP xs (k, v, d))) ∧ Below base w w' := by
  obtain ⟨A, c, rfl, _, _⟩ := own_cap2 hown
  have J := Lib.hid (fun w1 (h : Below w.heap.size w w1) => place_any A c xs k w1 ((PsAt.of_own hown).below h (Nat.le_refl _)) hn hz hs hk)
  have hple := posP_le k xs
  obtain ⟨n, hnn⟩ : ∃ n, xs.length = n := ⟨_, rfl⟩
  obtain ⟨p, hpp⟩ : ∃ p, posP k xs = p := ⟨_, rfl⟩
  have hlt0 : hasP k xs = true → p < n := fun h => by rw [← hpp, ← hnn]; exact hasP_lt h
  rw [hnn, hpp] at J
  rw [hnn, hpp] at hple
  rw [hnn] at hown hn ⊢
  have HOW := Lib.hid hown
  have HNN := Lib.hid hnn
  have HPP := Lib.hid hpp
  clear hz hs hk hown hnn hpp
  cases hq : hasP k xs
  all_goals cases d
  all_goals rw [hq] at J hlt0
  all_goals have HQ := Lib.hid hq
  all_goals clear hq
  all_goals go_enter Try.func76, Try.ntmps76
  all_goals go_wp2_with fail
  all_goals refine (J.out _ (alloc_below _ _)).mono ?_
  all_goals rintro e w1 ⟨rfl, hb1⟩
  all_goals have HB := Lib.hid ((alloc_below w _).trans (hb1.mono (by simp)))
  all_goals have HO := Lib.hid (own_base' (row := none) HOW.out (grown_of_below' HB.out) (fun r h => by cases h))
  all_goals have hsz1 := hb1.size
  all_goals have r0 := (hb1.cell (p := ⟨w.heap.size, 0, none⟩) (by simp)).trans ((cell_of_row _ w.heap.size 0 _ _ _ (heap_alloc_new w _)).trans rfl)
  all_goals have r1 := (hb1.cell (p := ⟨w.heap.size, 1, none⟩) (by simp)).trans ((cell_of_row _ w.heap.size 1 _ _ _ (heap_alloc_new w _)).trans rfl)
  all_goals have r2 := (hb1.cell (p := ⟨w.heap.size, 2, none⟩) (by simp)).trans ((cell_of_row _ w.heap.size 2 _ _ _ (heap_alloc_new w _)).trans rfl)
  all_goals clear hb1
  · go_wp2_with fail
    have HO1 := Lib.hid (own_base' (row := none) HO.out (grown_of_below' (alloc_below w1 (.cells #[.string k, .string v] 31))) (fun r h => by cases h))
    have HI := Lib.hid (ins_any (.slice A n c) n base p xs _ HO1.out (by omega) hple w1.heap.size (k, v) (heap_alloc_new w1 _) (own_ne HO.out) (by have := HB.out.size; simp; omega))
    refine HI.out.mono ?_
    rintro e w2 ⟨v', rfl, ho2, hb2⟩
    have HO2 := Lib.hid ho2
    have HB2 := Lib.hid hb2
    clear ho2 hb2
    go_wp2_with fail
    go_ret
    refine ⟨v', rfl, ?_, ?_⟩
    · rw [putP_new HQ.out HPP.out, show (xs.take p ++ (k, v) :: xs.drop p).length = n + 1 by rw [List.length_append, List.length_take, List.length_cons, List.length_drop, HNN.out]; omega]
      exact HO2.out
    · exact ((HB.out.mono hb).trans ((alloc_below w1 _).mono (by have := HB.out.size; omega))).trans HB2.out
  · go_wp2_with fail
    go_ret
    refine ⟨_, rfl, ?_, HB.out.mono hb⟩
    rw [putP_none HQ.out, HNN.out]
    exact HO.out
  · have hpn := hlt0 trivial
    have hix : p < xs.length := by rw [HNN.out]; exact hpn
    rcases HO.out.2 with ⟨h0, h1⟩ | ⟨g, cap, cur, h0, hbg, hg, hnc, hcm, hcs, htk⟩
    · omega
    cases h0
    have hcs2 : p * 2 + 1 < cur.size := by omega
    have s1 : w1.cell? ⟨g, p * 2 + 1, none⟩ = some cur[p * 2 + 1] := (cell_of_row w1 g _ _ _ _ hg).trans (Array.getElem?_eq_getElem hcs2)
    have s2 : w1.frozen? ⟨g, p * 2 + 1, none⟩ = false := by simp [World.frozen?, hg]
    have hI : (p : Int) < (n : Int) := by omega
    obtain ⟨hp1, hp2⟩ := own_put HO.out hix v
    rw [show xs[p].1 = k by have h := hasP_key HQ.out (by rw [HPP.out]; exact hix); simp only [HPP.out] at h; exact h] at hp1
    have HP1 := Lib.hid hp1
    have HP2 := Lib.hid hp2
    clear hp1 hp2 hg hcs htk hnc hcm hlt0
    generalize cur[p * 2 + 1] = u at s1
    clear hcs2
    go_wp2_with fail
    go_ret
    refine ⟨_, rfl, ?_, (HB.out.mono hb).trans HP2.out⟩
    rw [putP_old HQ.out HPP.out, show (xs.take p ++ (k, v) :: xs.drop (p + 1)).length = n by rw [List.length_append, List.length_take, List.length_cons, List.length_drop, HNN.out]; omega]
    exact HP1.out
  · go_wp2_with fail
    have HD := Lib.hid (dele_any (.slice A n c) n base p xs w1 HO.out (by omega) (hlt0 trivial))
    refine HD.out.mono ?_
    rintro e w2 ⟨v', rfl, ho2, hb2⟩
    have HO2 := Lib.hid ho2
    have HB2 := Lib.hid hb2
    clear ho2 hb2
    go_wp2_with fail
    go_ret
    refine ⟨v', rfl, ?_, (HB.out.mono hb).trans HB2.out⟩
    have hpn := hlt0 trivial
    rw [putP_dead HQ.out HPP.out, show (xs.take p ++ xs.drop (p + 1)).length = n - 1 by rw [List.length_append, List.length_take, List.length_drop, HNN.out]; omega]
    exact HO2.out
end Go.Proofs.Ytbgpcmpbfenplaa.KK
