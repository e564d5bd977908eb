/-
  The reference's Check, writes, place.
-/
import Derived.Test.YtbgpcmpbfenplaaUh
namespace Go.Proofs.Ytbgpcmpbfenplaa.KK
open Go.ChangeShapes Go.WideShapes Go.ChangeAt Go.RowKit Go.Proofs

theorem bytesLess_lt : ∀ a b : List UInt8, Op.bytesLess a b = Kl.lt a b
  | _, [] => by simp [Op.bytesLess, Kl.lt]
  | [], _ :: _ => by simp [Op.bytesLess, Kl.lt]
  | x :: a, y :: b => by
    unfold Op.bytesLess Kl.lt
    rw [bytesLess_lt a b]
    by_cases h : x = y
    · subst h; simp
    · have h1 : (x == y) = false := by simpa using h
      rw [h1, if_neg h, Bool.false_and, Bool.or_false]
      exact decide_eq_decide.2 UInt8.lt_iff_toNat_lt
theorem toList_L (s : ByteArray) : s.toList = Kl.L s := by rw [Lib.toList_data]; rfl
theorem less_L (a b : ByteArray) : Op.bytesLess a.toList b.toList = Kl.lt (Kl.L a) (Kl.L b) := by rw [bytesLess_lt, toList_L, toList_L]
theorem szE_k {k v : ByteArray} (h : 32 < k.size) : szE k v = 3 := if_pos h
theorem szE_v {k v : ByteArray} (h : 64 < v.size) : szE k v = 3 := by
  unfold szE
  split
  · rfl
  · first | rfl | rw [if_pos h]
theorem szE_ok {k v : ByteArray} (h : ¬ 32 < k.size) (g : ¬ 64 < v.size) : szE k v = 0 := by unfold szE; rw [if_neg h, if_neg g]
set_option maxRecDepth 100000 in
set_option maxHeartbeats 1000000 in
theorem rWrites_any (A : Option Addr) (c : Nat) (xs : List Wr) (w : World) (hf : WsAt w A xs) (hn : xs.length ≤ 4294967295) (hs : SizedW xs) :
    Calls Try.prog 101 #[.slice A xs.length c] w fun e w' => e = .returned (.int .i64 (batchE xs)) ∧ Below w.heap.size w w' := by
  by_cases h0 : xs.length = 0
  · have H := Lib.hid (show batchE xs = 6 from if_pos h0)
    rw [h0]
    clear h0 hf hs
    go_enter Try.func101, Try.ntmps101
    go_wp2_with fail
    go_ret
    exact ⟨retI (by rw [H.out]), Below.refl _ _⟩
  by_cases h8 : 8 < xs.length
  · have H := Lib.hid (show batchE xs = 3 by unfold batchE; rw [if_neg h0, if_pos h8])
    clear hf hs
    have hz : ((xs.length : Int) == 0) = false := by rw [beq_eq_false_iff_ne]; omega
    go_enter Try.func101, Try.ntmps101
    go_wp2_with fail
    go_ret
    exact ⟨retI (by rw [H.out]), Below.refl _ _⟩
  have HAL : Hid (batchE xs = scanW xs) := Lib.hid (by unfold batchE; rw [if_neg h0, if_neg h8])
  have HF := Lib.hid hf
  have HS := Lib.hid hs
  obtain ⟨n, hnn⟩ : ∃ n, xs.length = n := ⟨_, rfl⟩
  rw [hnn] at hn h0 h8 ⊢
  have HN := Lib.hid hnn
  have hz : ((n : Int) == 0) = false := by rw [beq_eq_false_iff_ne]; omega
  clear hf hs hnn
  go_enter Try.func101, Try.ntmps101
  go_wp2_with fail
  go_loopw [3] (fun i wr => ∃ k : Nat, k ≤ n ∧ i = .int .i64 k ∧ Below w.heap.size w wr ∧ scanW xs = scanW (xs.drop k)) (fun i _ => n - (intOf i).toNat)
  case atStart => exact ⟨0, Nat.zero_le _, rfl, Below.refl _ _, rfl⟩
  case round =>
    obtain ⟨k, hk, rfl, hb, ha⟩ := hrel
    have hsz := hb.size
    have HA := Lib.hid ha
    have HB := Lib.hid hb
    clear ha hb
    by_cases hlt : k < n
    rotate_left
    · have hf1 : ¬ (k : Int) < (n : Int) := by omega
      go_wp2_with fail
      go_ret
      exact ⟨retI (by rw [HAL.out, HA.out, scanW_end (by rw [HN.out]; exact hlt)]), HB.out⟩
    have hf1 : (k : Int) < (n : Int) := by omega
    have hlx : k < xs.length := by rw [HN.out]; exact hlt
    rcases HF.out.below HB.out (Nat.le_refl _) with h0 | ⟨b, off, rfl, hbl, hc⟩
    · rw [h0] at hlx; simp at hlx
    obtain ⟨g0, g1, g2⟩ := hc k hlx
    clear hc
    obtain ⟨sk, sv⟩ := HS.out.at hlx
    have HOK := Lib.hid (scanW_ok hlx)
    have HNO := Lib.hid (scanW_no hlx)
    obtain ⟨⟨xk, xv, xd⟩, hx⟩ : ∃ x, xs[k] = x := ⟨_, rfl⟩
    rw [hx] at g0 g1 g2 sk sv HOK HNO
    clear hx
    simp only at g0 g1 g2 sk sv
    by_cases k1 : 32 < xk.size
    · have hw : wrE (xk, xv, xd) = 3 := (wrE_sz (by rw [szE_k k1]; decide)).trans (szE_k k1)
      have HL := Lib.hid (HNO.out (by rw [hw]; decide))
      rw [hw] at HL
      clear hw HOK HNO
      go_wp2_with fail
      go_ret
      exact ⟨retI (by rw [HAL.out, HA.out, HL.out]), HB.out⟩
    by_cases k2 : 64 < xv.size
    · have hw : wrE (xk, xv, xd) = 3 := (wrE_sz (by rw [szE_v k2]; decide)).trans (szE_v k2)
      have HL := Lib.hid (HNO.out (by rw [hw]; decide))
      rw [hw] at HL
      clear hw HOK HNO
      go_wp2_with fail
      go_ret
      exact ⟨retI (by rw [HAL.out, HA.out, HL.out]), HB.out⟩
    have hl : szE xk xv = 0 := szE_ok k1 k2
    by_cases hbad : xd = true ∧ xv ≠ ⟨#[]⟩
    · have hw : wrE (xk, xv, xd) = 6 := wrE_bad hl hbad
      have HL := Lib.hid (HNO.out (by rw [hw]; decide))
      rw [hw] at HL
      obtain ⟨rfl, hne⟩ := hbad
      have hn1 := str_ne hne
      have hn2 := str_beq_ne hne
      have hn3 : xv.toList.isEmpty = false := by cases hq : xv.toList.isEmpty with | false => rfl | true => exact absurd (by simpa using hq) hn1
      have hn4 : (!xv.toList.isEmpty) = true := by rw [hn3]; rfl
      clear hl hw HOK HNO hne
      go_wp2_with fail
      go_ret
      exact ⟨retI (by rw [HAL.out, HA.out, HL.out]), HB.out⟩
    · have hw : wrE (xk, xv, xd) = 0 := wrE_good hl hbad
      have HL := Lib.hid (HOK.out hw)
      clear hl hw HOK HNO
      cases xd with
      | false =>
        clear hbad
        go_wp2_with fail
        exact ⟨⟨k + 1, by omega, by go_num, HB.out, HA.out.trans HL.out⟩, by simp [intOf]; omega⟩
      | true =>
        have hv : xv = ⟨#[]⟩ := Decidable.of_not_not fun h => hbad ⟨rfl, h⟩
        clear hbad
        subst hv
        go_wp2_with fail
        exact ⟨⟨k + 1, by omega, by go_num, HB.out, HA.out.trans HL.out⟩, by simp [intOf]; omega⟩
set_option maxRecDepth 100000 in
set_option maxHeartbeats 1000000 in
/-- place: how many keys are less, of those at the head -/
theorem rPlace_any (A : Option Addr) (c : Nat) (xs : List Pr) (key : ByteArray) (w : World) (hf : PsAt w A xs) (hn : xs.length ≤ 4294967295) :
    Calls Try.prog 48 #[.slice A xs.length c, .string key] w fun e w' => ∃ k : Nat, e = .returned (.int .i64 k) ∧ k ≤ xs.length ∧ (∀ y ∈ xs.take k, Kl.lt (Kl.L y.1) (Kl.L key) = true) ∧ (∀ h : k < xs.length, Kl.lt (Kl.L xs[k].1) (Kl.L key) = false) ∧ Below w.heap.size w w' := by
  have HF := Lib.hid hf
  obtain ⟨n, hnn⟩ : ∃ n, xs.length = n := ⟨_, rfl⟩
  have HN := Lib.hid hnn
  have hn' := hn
  rw [hnn] at hn'
  have HQ := Lib.hid (fun (k : Nat) (w' : World) (h1 : k ≤ xs.length) (h2 : ∀ y ∈ xs.take k, Kl.lt (Kl.L y.1) (Kl.L key) = true) (h3 : ∀ h : k < xs.length, Kl.lt (Kl.L xs[k].1) (Kl.L key) = false) (h4 : Below w.heap.size w w') => show (fun (e : Ending) (w' : World) => ∃ k : Nat, e = .returned (.int .i64 k) ∧ k ≤ xs.length ∧ (∀ y ∈ xs.take k, Kl.lt (Kl.L y.1) (Kl.L key) = true) ∧ (∀ h : k < xs.length, Kl.lt (Kl.L xs[k].1) (Kl.L key) = false) ∧ Below w.heap.size w w') (.returned (.int .i64 k)) w' from ⟨k, rfl, h1, h2, h3, h4⟩)
  revert HQ
  generalize (fun (e : Ending) (w' : World) => ∃ k : Nat, e = .returned (.int .i64 k) ∧ k ≤ xs.length ∧ (∀ y ∈ xs.take k, Kl.lt (Kl.L y.1) (Kl.L key) = true) ∧ (∀ h : k < xs.length, Kl.lt (Kl.L xs[k].1) (Kl.L key) = false) ∧ Below w.heap.size w w') = Q
  intro HQ
  rw [hnn]
  clear hf hnn hn
  go_enter Try.func48, Try.ntmps48
  go_wp2_with fail
  go_loopw [5] (fun i wr => ∃ k : Nat, k ≤ n ∧ i = .int .i64 k ∧ Below w.heap.size w wr ∧ ∀ y ∈ xs.take k, Kl.lt (Kl.L y.1) (Kl.L key) = true) (fun i _ => n - (intOf i).toNat)
  case atStart => exact ⟨0, Nat.zero_le _, rfl, Below.refl _ _, fun y hy => by simp at hy⟩
  case round =>
    obtain ⟨k, hk, rfl, hb, ha⟩ := hrel
    have HA := Lib.hid ha
    have HB := Lib.hid hb
    clear ha hb
    by_cases hlt : k < n
    rotate_left
    · have hf1 : ¬ (k : Int) < (n : Int) := by omega
      go_wp2_with fail
      exact HQ.out k _ (by rw [HN.out]; omega) HA.out (fun h => absurd (by rw [← HN.out]; exact h) hlt) HB.out
    have hf1 : (k : Int) < (n : Int) := by omega
    have hlx : k < xs.length := by rw [HN.out]; exact hlt
    rcases HF.out.below HB.out (Nat.le_refl _) with h0 | ⟨b, off, rfl, hbl, hc⟩
    · rw [h0] at hlx; simp at hlx
    obtain ⟨g0, _⟩ := hc k hlx
    clear hc
    have e1 := less_L xs[k].1 key
    cases hq : Kl.lt (Kl.L xs[k].1) (Kl.L key) with
    | false =>
      rw [hq] at e1
      have HX := Lib.hid hq
      clear hq
      generalize hxk : xs[k].1 = xk at *
      have HXK := Lib.hid hxk
      clear hxk
      go_wp2_with fail
      exact HQ.out k _ (by rw [HN.out]; omega) HA.out (fun h => by rw [HXK.out]; exact HX.out) (by first | exact HB.out | exact eb_of HB.out (below_drewN' 1) (Nat.le_refl _))
    | true =>
      rw [hq] at e1
      have HX := Lib.hid (show ∀ y ∈ xs.take (k + 1), Kl.lt (Kl.L y.1) (Kl.L key) = true from fun y hy => by
        rw [List.take_succ_eq_append_getElem hlx, List.mem_append, List.mem_singleton] at hy
        rcases hy with hy | rfl
        · exact HA.out y hy
        · exact hq)
      clear hq
      generalize xs[k].1 = xk at *
      go_wp2_with fail
      exact ⟨⟨k + 1, by omega, by go_num, (by first | exact HB.out | exact eb_of HB.out (below_drewN' 1) (Nat.le_refl _)), HX.out⟩, by simp [intOf]; omega⟩
end Go.Proofs.Ytbgpcmpbfenplaa.KK
