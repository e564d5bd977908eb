/-
  Contract of the plain map's checkBatch.
-/
import Derived.Test.YtbgpcmpbfenplaaVd
namespace Go.Proofs.Ytbgpcmpbfenplaa.KK
open Go.ChangeShapes Go.WideShapes Go.ChangeAt Go.RowKit Go.Proofs

abbrev Wr := ByteArray × ByteArray × Bool
def WsAt (w : World) (A : Option Addr) (xs : List Wr) : Prop :=
  xs = [] ∨ ∃ b off, A = some ⟨b, off, none⟩ ∧ b < w.heap.size ∧ ∀ (i : Nat) (h : i < xs.length),
    w.cell? ⟨b, off + i * 3, none⟩ = some (.string xs[i].1) ∧ w.cell? ⟨b, off + i * 3 + 1, none⟩ = some (.string xs[i].2.1) ∧ w.cell? ⟨b, off + i * 3 + 2, none⟩ = some (.bool xs[i].2.2)
theorem WsAt.below {B : Nat} {w w' : World} {A : Option Addr} {xs : List Wr} (h : WsAt w A xs) (hb : Below B w w') (hB : w.heap.size ≤ B) : WsAt w' A xs := by
  rcases h with h | ⟨b, off, hA, hlt, hc⟩
  · exact .inl h
  · refine .inr ⟨b, off, hA, Nat.lt_of_lt_of_le hlt hb.size, fun i hi => ?_⟩
    have e : ∀ o, w'.cell? ⟨b, o, none⟩ = w.cell? ⟨b, o, none⟩ := fun o => hb.cell (p := ⟨b, o, none⟩) (by simp; omega)
    rw [e, e, e]; exact hc i hi
def SizedW (xs : List Wr) : Prop := ∀ x ∈ xs, x.1.size ≤ 9223372036854775807 ∧ x.2.1.size ≤ 9223372036854775807
theorem SizedW.at {xs : List Wr} (h : SizedW xs) {k : Nat} (hk : k < xs.length) : xs[k].1.size ≤ 9223372036854775807 ∧ xs[k].2.1.size ≤ 9223372036854775807 := h _ (List.getElem_mem hk)
/-- what is wrong with one write -/
def wrE (x : Wr) : Int := if szE x.1 x.2.1 = 0 then (if x.2.2 = true ∧ x.2.1 ≠ ⟨#[]⟩ then 6 else 0) else szE x.1 x.2.1
def scanW : List Wr → Int
  | [] => 0
  | x :: l => if wrE x = 0 then scanW l else wrE x
/-- what is wrong with a batch -/
def batchE (xs : List Wr) : Int := if xs.length = 0 then 6 else if 8 < xs.length then 3 else scanW xs
theorem scanW_ok {xs : List Wr} {k : Nat} (h : k < xs.length) (g : wrE xs[k] = 0) : scanW (xs.drop k) = scanW (xs.drop (k + 1)) := by
  rw [List.drop_eq_getElem_cons h]; exact if_pos g
theorem scanW_no {xs : List Wr} {k : Nat} (h : k < xs.length) (g : wrE xs[k] ≠ 0) : scanW (xs.drop k) = wrE xs[k] := by
  rw [List.drop_eq_getElem_cons h]; exact if_neg g
theorem scanW_end {xs : List Wr} {k : Nat} (h : ¬ k < xs.length) : scanW (xs.drop k) = 0 := by
  rw [List.drop_eq_nil_of_le (by omega)]; rfl
theorem wrE_sz {x : Wr} (h : szE x.1 x.2.1 ≠ 0) : wrE x = szE x.1 x.2.1 := if_neg h
theorem wrE_bad {x : Wr} (h : szE x.1 x.2.1 = 0) (g : x.2.2 = true ∧ x.2.1 ≠ ⟨#[]⟩) : wrE x = 6 := by unfold wrE; rw [if_pos h, if_pos g]
theorem wrE_good {x : Wr} (h : szE x.1 x.2.1 = 0) (g : ¬ (x.2.2 = true ∧ x.2.1 ≠ ⟨#[]⟩)) : wrE x = 0 := by unfold wrE; rw [if_pos h, if_neg g]
theorem wrE_zero {x : Wr} (h : wrE x = 0) : szE x.1 x.2.1 = 0 ∧ ¬ (x.2.2 = true ∧ x.2.1 ≠ ⟨#[]⟩) := by
  unfold wrE at h
  split at h
  · rename_i h1
    split at h
    · cases h
    · rename_i h2; exact ⟨h1, h2⟩
  · rename_i h1; exact absurd h h1
theorem scanW_zero : ∀ {xs : List Wr}, scanW xs = 0 → ∀ x ∈ xs, wrE x = 0
  | [], _ => fun x hx => by cases hx
  | y :: l, h => fun x hx => by
    unfold scanW at h
    split at h
    · rename_i h1
      rcases List.mem_cons.1 hx with rfl | h2
      · exact h1
      · exact scanW_zero h x h2
    · rename_i h1; exact absurd h h1
theorem batch_ok {xs : List Wr} (h : batchE xs = 0) : 0 < xs.length ∧ xs.length ≤ 8 ∧ ∀ x ∈ xs, wrE x = 0 := by
  unfold batchE at h
  split at h
  · cases h
  split at h
  · cases h
  exact ⟨by omega, by omega, scanW_zero h⟩
set_option maxRecDepth 100000 in
set_option maxHeartbeats 4000000 in
theorem batch_any (A : Option Addr) (c : Nat) (xs : List Wr) (w : World) (hf : WsAt w A xs) (hn : xs.length ≤ 4294967295) (hs : SizedW xs) :
    Calls Try.prog 75 #[.slice A xs.length c] w fun e w' => e = .returned (.int .i64 (batchE xs)) ∧ Below w.heap.size w w' := by
  by_cases h0 : xs.length = 0
  · have H := Lib.hid (show batchE xs = 6 from if_pos h0)
    rw [h0]
    clear h0 hf hs
    go_enter Try.func75, Try.ntmps75
    go_wp2_with fail
    go_ret
    exact ⟨retI (by rw [H.out]), Below.refl _ _⟩
  by_cases h8 : 8 < xs.length
  · have H := Lib.hid (show batchE xs = 3 by unfold batchE; rw [if_neg h0, if_pos h8])
    clear hf hs
    have hz : ((xs.length : Int) == 0) = false := by rw [beq_eq_false_iff_ne]; omega
    go_enter Try.func75, Try.ntmps75
    go_wp2_with fail
    go_ret
    exact ⟨retI (by rw [H.out]), Below.refl _ _⟩
  have HAL : Hid (batchE xs = scanW xs) := Lib.hid (by unfold batchE; rw [if_neg h0, if_neg h8])
  have HF := Lib.hid hf
  have HS := Lib.hid hs
  obtain ⟨n, hnn⟩ : ∃ n, xs.length = n := ⟨_, rfl⟩
  rw [hnn] at hn h0 h8 ⊢
  have HN := Lib.hid hnn
  have hz : ((n : Int) == 0) = false := by rw [beq_eq_false_iff_ne]; omega
  clear hf hs hnn
  go_enter Try.func75, Try.ntmps75
  go_wp2_with fail
  go_loopw [16] (fun i wr => ∃ k : Nat, k ≤ n ∧ i = .int .i64 k ∧ Below w.heap.size w wr ∧ scanW xs = scanW (xs.drop k)) (fun i _ => n - (intOf i).toNat)
  case atStart => exact ⟨0, Nat.zero_le _, rfl, Below.refl _ _, rfl⟩
  case round =>
    obtain ⟨k, hk, rfl, hb, ha⟩ := hrel
    have hsz := hb.size
    have HA := Lib.hid ha
    have HB := Lib.hid hb
    clear ha hb
    by_cases hlt : k < n
    rotate_left
    · have hf1 : ¬ (k : Int) < (n : Int) := by omega
      go_wp2_with fail
      go_ret
      exact ⟨retI (by rw [HAL.out, HA.out, scanW_end (by rw [HN.out]; exact hlt)]), HB.out⟩
    have hf1 : (k : Int) < (n : Int) := by omega
    have hlx : k < xs.length := by rw [HN.out]; exact hlt
    rcases HF.out.below HB.out (Nat.le_refl _) with h0 | ⟨b, off, rfl, hbl, hc⟩
    · rw [h0] at hlx; simp at hlx
    obtain ⟨g0, g1, g2⟩ := hc k hlx
    clear hc
    obtain ⟨sk, sv⟩ := HS.out.at hlx
    have HOK := Lib.hid (scanW_ok hlx)
    have HNO := Lib.hid (scanW_no hlx)
    obtain ⟨⟨xk, xv, xd⟩, hx⟩ : ∃ x, xs[k] = x := ⟨_, rfl⟩
    rw [hx] at g0 g1 g2 sk sv HOK HNO
    clear hx
    simp only at g0 g1 g2 sk sv
    have J := Lib.hid (fun w => sizes_any xk xv w sk sv)
    have HB1 := Lib.hid (HB.out.alloc hsz (.cells #[.string xk, .string xv, .bool xd] 76))
    by_cases hl : szE xk xv = 0
    rotate_left
    · have hw : wrE (xk, xv, xd) = szE xk xv := wrE_sz hl
      have HL := Lib.hid (HNO.out (by rw [hw]; exact hl))
      rw [hw] at HL
      obtain ⟨b1, b2⟩ := ne_b hl
      clear hl hw HOK HNO
      generalize szE xk xv = r at *
      go_wp2_with fail
      refine (J.out _).mono ?_
      rintro e w1 ⟨rfl, rfl⟩
      go_wp2_with fail
      go_ret
      exact ⟨retI (by rw [HAL.out, HA.out, HL.out]), HB1.out⟩
    rw [hl] at J
    by_cases hbad : xd = true ∧ xv ≠ ⟨#[]⟩
    · have hw : wrE (xk, xv, xd) = 6 := wrE_bad hl hbad
      have HL := Lib.hid (HNO.out (by rw [hw]; decide))
      rw [hw] at HL
      obtain ⟨rfl, hne⟩ := hbad
      have hn1 := str_ne hne
      have hn2 := str_beq_ne hne
      have hn3 : xv.toList.isEmpty = false := by cases hq : xv.toList.isEmpty with | false => rfl | true => exact absurd (by simpa using hq) hn1
      have hn4 : (!xv.toList.isEmpty) = true := by rw [hn3]; rfl
      clear hl hw HOK HNO hne
      go_wp2_with fail
      refine (J.out _).mono ?_
      rintro e w1 ⟨rfl, rfl⟩
      go_wp2_with fail
      go_ret
      exact ⟨retI (by rw [HAL.out, HA.out, HL.out]), HB1.out⟩
    · have hw : wrE (xk, xv, xd) = 0 := wrE_good hl hbad
      have HL := Lib.hid (HOK.out hw)
      clear hl hw HOK HNO
      have close : ∀ wr', wr' = wr.alloc (.cells #[.string xk, .string xv, .bool xd] 76) → (∃ k_1 : Nat, k_1 ≤ n ∧ (Value.int .i64 ((k : Int) + 1)) = .int .i64 k_1 ∧ Below w.heap.size w wr' ∧ scanW xs = scanW (xs.drop k_1)) ∧ n - (intOf (Value.int .i64 ((k : Int) + 1))).toNat < n - (intOf (Value.int .i64 k)).toNat := fun wr' h => by
        subst h
        exact ⟨⟨k + 1, by omega, by go_num, HB1.out, HA.out.trans HL.out⟩, by simp [intOf]; omega⟩
      have CL := Lib.hid close
      clear close
      cases xd with
      | false =>
        clear hbad
        go_wp2_with fail
        refine (J.out _).mono ?_
        rintro e w1 ⟨rfl, rfl⟩
        go_wp2_with fail
        exact CL.out _ rfl
      | true =>
        have hv : xv = ⟨#[]⟩ := Decidable.of_not_not fun h => hbad ⟨rfl, h⟩
        clear hbad
        subst hv
        go_wp2_with fail
        refine (J.out _).mono ?_
        rintro e w1 ⟨rfl, rfl⟩
        go_wp2_with fail
        exact CL.out _ rfl
end Go.Proofs.Ytbgpcmpbfenplaa.KK
