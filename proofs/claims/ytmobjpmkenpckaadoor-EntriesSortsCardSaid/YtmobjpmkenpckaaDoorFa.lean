/-
  Live, on both sides: the entries of a list that are no tombstones.
-/
import Derived.Test.YtmobjpmkenpckaaDoorQe
namespace Go.Proofs.YtmobjpmkenpckaaDoor.KK
open Go.ChangeShapes Go.WideShapes Go.ChangeAt Go.RowKit Go.Proofs Go.Sort

theorem new4 (w : World) (x : El.En) : ∀ (j : Nat) (u : Value), ([.string x.1, .string x.2.1, .bool x.2.2.1, .int .i64 x.2.2.2] : List Value)[j]? = some u → (w.alloc (.cells #[.string x.1, .string x.2.1, .bool x.2.2.1, .int .i64 x.2.2.2] 33)).cell? ((⟨w.heap.size, 0, none⟩ : Addr).add j) = some u :=
  World.news_of_block (cs := #[.string x.1, .string x.2.1, .bool x.2.2.1, .int .i64 x.2.2.2]) (t := 33) (fr := (0, 0)) (heap_alloc_new w _)
theorem own_snoc {w : World} {base n : Nat} {v : Value} {ys : List El.En} {x : El.En} (h : w.ownsRow base 33 4 v (n + 1) (cellsE ys ++ [.string x.1, .string x.2.1, .bool x.2.2.1, .int .i64 x.2.2.2])) : w.ownsRow base 33 4 v (n + 1) (cellsE (ys ++ [x])) := by
  rw [cellsE_snoc]; exact h
theorem EsAt.of_own {w : World} {base n : Nat} {A : Option Addr} {c : Nat} {ys : List El.En} (h : w.ownsRow base 33 4 (.slice A n c) n (cellsE ys)) : EsAt w A ys := by
  have hn : n = ys.length := by have := h.1; rw [cellsE_len] at this; omega
  by_cases h0 : ys = []
  · exact .inl h0
  · have hpos : 0 < ys.length := List.length_pos_iff.2 h0
    have hform : ∃ g cap, Value.slice A n c = .slice (some ⟨g, 0, none⟩) n cap ∧ g < w.heap.size := by
      rcases h.2 with ⟨_, h1⟩ | ⟨g, cap, cur, hv, _, hh, _⟩
      · omega
      · exact ⟨g, cap, hv, (Array.getElem?_eq_some_iff.1 hh).1⟩
    obtain ⟨g, cap, hv, hlt⟩ := hform
    have hA : A = some ⟨g, 0, none⟩ := by injection hv
    refine .inr ⟨g, 0, hA, hlt, fun i hi => ?_⟩
    have hcell := h.cells (g := g) (by rw [hv]; rfl)
    have hc := fun c (hc : c < 4) => cellsE_get ys i c hi hc
    have b0 := hcell _ _ ((hc 0 (by omega)).trans rfl)
    have b1 := hcell _ _ ((hc 1 (by omega)).trans rfl)
    have b2 := hcell _ _ ((hc 2 (by omega)).trans rfl)
    have b3 := hcell _ _ ((hc 3 (by omega)).trans rfl)
    rw [add_at'] at b0 b1 b2 b3
    exact ⟨b0, by rw [Nat.add_assoc]; exact b1, by rw [Nat.add_assoc]; exact b2, by rw [Nat.add_assoc]; exact b3⟩
/-- what is no tombstone -/
def aliveE (xs : List El.En) : List El.En := xs.filter fun x => !x.2.2.1
def liveE (xs : List El.En) : List El.En := if (listE xs).2 = 0 then aliveE xs else []
theorem alive_next {xs : List El.En} {k : Nat} (h : k < xs.length) : aliveE (xs.take (k + 1)) = if xs[k].2.2.1 = true then aliveE (xs.take k) else aliveE (xs.take k) ++ [xs[k]] := by
  unfold aliveE
  rw [List.take_succ_eq_append_getElem h, List.filter_append]
  cases hd : xs[k].2.2.1 <;> simp [hd]
theorem alive_le (xs : List El.En) (k : Nat) : (aliveE (xs.take k)).length ≤ k := by
  unfold aliveE
  exact Nat.le_trans (List.length_filter_le _ _) (by rw [List.length_take]; omega)

set_option maxRecDepth 100000 in
set_option maxHeartbeats 2000000 in
theorem eLive_any (A : Option Addr) (c : Nat) (xs : List El.En) (w : World) (hf : EsAt w A xs) (hn : xs.length ≤ 4294967295) (hs : Sized xs) :
    Calls Tryd.prog 20 #[.slice A xs.length c] w fun e w' => ∃ A' c', e = .returned (.tuple #[.slice A' (liveE xs).length c', .int .i64 (listE xs).2]) ∧ EsAt w' A' (liveE xs) ∧ Below w.heap.size w w' := by
  obtain ⟨i0, hi, hz0, hz1, hz2⟩ := info_parts infoE
  have J := Lib.hid (eList_any A c xs w hf hn hs)
  have HF := Lib.hid hf
  by_cases he : (listE xs).2 = 0
  rotate_left
  · have HL : Hid (liveE xs = []) := Lib.hid (if_neg he)
    obtain ⟨b1, b2⟩ := ne_b he
    clear he hf hs
    generalize (listE xs).2 = r at *
    generalize (listE xs).1 = r1 at *
    go_enter Tryd.func20, Tryd.ntmps20
    go_wp2_with fail
    refine J.out.mono ?_
    rintro e w1 ⟨rfl, hb⟩
    have HB := Lib.hid hb
    clear hb J
    go_wp2_with fail
    go_ret2
    exact ⟨none, 0, by rw [HL.out]; rfl, by rw [HL.out]; exact .inl rfl, HB.out⟩
  have HL : Hid (liveE xs = aliveE xs) := Lib.hid (if_pos he)
  rw [he] at J
  have HHE := Lib.hid he
  clear he hf hs
  generalize (listE xs).1 = r1 at *
  obtain ⟨n, hnn⟩ : ∃ n, xs.length = n := ⟨_, rfl⟩
  rw [hnn] at J hn ⊢
  have HN := Lib.hid hnn
  clear hnn
  go_enter Tryd.func20, Tryd.ntmps20
  go_wp2_with fail
  refine J.out.mono ?_
  rintro e w1 ⟨rfl, hb⟩
  have HB := Lib.hid hb
  clear hb J
  go_wp2_with fail
  go_loopw [6, 19] (fun tv iv wr => ∃ (k : Nat) (ys : List El.En), k ≤ n ∧ iv = .int .i64 k ∧ ys = aliveE (xs.take k) ∧ wr.ownsRow w1.heap.size 33 4 tv ys.length (cellsE ys) ∧ Below w1.heap.size w1 wr) (fun _ iv _ => n - (intOf iv).toNat)
  case atStart => exact ⟨0, [], Nat.zero_le _, rfl, rfl, World.ownsRow_nil _ _ _ _, Below.refl _ _⟩
  case round =>
    obtain ⟨k, ys, hk, rfl, hy, hown, hb⟩ := hrel
    have hsz := hb.size
    have HB2 := Lib.hid hb
    have HY := Lib.hid hy
    have HO := Lib.hid hown
    have hyl : ys.length ≤ 4294967295 := by
      rw [hy]; have := alive_le xs k; omega
    clear hb hy hown
    by_cases hlt : k < n
    rotate_left
    · have hyy := Lib.hid (show ys = aliveE xs by rw [HY.out, List.take_of_length_le (by rw [HN.out]; omega)])
      obtain ⟨A', c', rfl⟩ := own_slice HO.out
      have hfin := Lib.hid (EsAt.of_own HO.out)
      have HBF := Lib.hid (HB.out.trans (HB2.out.mono HB.out.size))
      clear HO
      go_wp2_with fail
      go_ret2
      exact ⟨A', c', by rw [HL.out, HHE.out, ← hyy.out]; rfl, by rw [HL.out, ← hyy.out]; exact hfin.out, HBF.out⟩
    have hlx : k < xs.length := by rw [HN.out]; exact hlt
    have hf' := (HF.out.below HB.out (Nat.le_refl _)).below HB2.out (Nat.le_refl _)
    rcases hf' with h0 | ⟨b, off, rfl, hbl, hc⟩
    · rw [h0] at hlx; simp at hlx
    obtain ⟨g0, g1, g2, g3⟩ := hc k hlx
    have hnx := alive_next hlx
    rw [← HY.out] at hnx
    clear hc
    obtain ⟨⟨xk, xv, xd, xq⟩, hx⟩ : ∃ x, xs[k] = x := ⟨_, rfl⟩
    rw [hx] at g0 g1 g2 g3 hnx
    simp only at g0 g1 g2 g3 hnx
    clear hx
    cases xd with
    | true =>
      have HNX := Lib.hid hnx
      clear hnx
      go_wp2_with fail
      go_roundw
      case rel => exact ⟨k + 1, ys, by omega, by go_num, by rw [HNX.out]; rfl, HO.out.alloc _, HB2.out.alloc hsz _⟩
      case measure => simp [intOf]; omega
    | false =>
      have HNX := Lib.hid hnx
      clear hnx
      have HXX := Lib.hid (HB2.out.alloc hsz (.cells #[.string xk, .string xv, .bool false, .int .i64 xq] 33))
      have HOX := Lib.hid (HO.out.alloc (.cells #[.string xk, .string xv, .bool false, .int .i64 xq] 33))
      have hszx : w1.heap.size ≤ (wr.alloc (.cells #[.string xk, .string xv, .bool false, .int .i64 xq] 33)).heap.size := HXX.out.size
      go_wp2_with (at_builtin; go_loud (refine wpList_append_own _ rfl (.tmp 26) (.tmp 28) 22 rfl w1.heap.size 33 i0 (.agg #[.string ⟨#[]⟩, .string ⟨#[]⟩, .bool false, .int .i64 0]) 4 48 Tryd.underlying22 hi hz0 hz1 hz2 rfl (by decide) _ ys.length _ rfl (HOX.out.alloc _) ⟨wr.heap.size + 1, 0, none⟩ 1 1 [.string xk, .string xv, .bool false, .int .i64 xq] rfl rfl (fun j u hj => by have h := new4 (wr.alloc (.cells #[.string xk, .string xv, .bool false, .int .i64 xq] 33)) (xk, xv, false, xq) j u hj; rwa [show (wr.alloc (.cells #[.string xk, .string xv, .bool false, .int .i64 xq] 33)).heap.size = wr.heap.size + 1 by simp] at h) (by simp [Value.oneCell']) (by unfold maxLen; omega) (by omega) (by simp; omega) ?_; intro v3 w3 hown3 hg3 _; have hb3 := (HXX.out.alloc hszx (.cells #[.string xk, .string xv, .bool false, .int .i64 xq] 33)).grown hg3 (by simp; omega) (fun g hg => (HOX.out.lt g hg).1); have HB3 := Lib.hid hb3; have HO3 := Lib.hid (own_snoc (x := (xk, xv, false, xq)) hown3); clear hg3 hb3 hown3))
      go_roundw
      case rel => exact ⟨k + 1, ys ++ [(xk, xv, false, xq)], by omega, by go_num, by rw [HNX.out]; rfl, by rw [List.length_append]; exact HO3.out, HB3.out⟩
      case measure => simp [intOf]; omega

end Go.Proofs.YtmobjpmkenpckaaDoor.KK
