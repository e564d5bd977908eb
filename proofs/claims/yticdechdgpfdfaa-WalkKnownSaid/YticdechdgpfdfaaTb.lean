/-
  Walk: ahead, and its iterator.
-/
import Derived.Test.YticdechdgpfdfaaTa
import Derived.RangeFuncNested
import Derived.RangeFuncBound
import Derived.RangeFuncCalls
import Derived.RangeFuncLeaves
import Derived.RangeFuncBox
import Derived.Maps.OwnIn
import Derived.Shelf.Abstract
import Derived.OwnWalkIn
import Derived.TacticsInMore
import Derived.LoopNIn
import Derived.LoopIn
namespace Go.Proofs.Yticdechdgpfdfaa.KK
open Go.ChangeShapes Go.WideShapes Go.ChangeAt Go.RowKit Go.Proofs Go.Sort
attribute [local go_sem] Oper.semAt_some

/-- what ahead leaves -/
def AhAt (A : Option Addr) (n c : Nat) (k : Int) (back : Bool) (Bl Bw Bd : Nat) (W : World) : Prop :=
  Boxed W Bl 22 (.slice A n c) ∧ Boxed W Bw 26 (.int .i64 k) ∧ Row2 W Bd 82 (fLeft back) (fPass back)
theorem AhAt.below {A : Option Addr} {n c : Nat} {k : Int} {back : Bool} {Bl Bw Bd N : Nat} {W W' : World} (h : AhAt A n c k back Bl Bw Bd W) (hb : Below N W W') (hn : W.heap.size ≤ N) : AhAt A n c k back Bl Bw Bd W' :=
  ⟨(hb.block _ (Nat.lt_of_lt_of_le h.1.lt hn)).trans h.1, (hb.block _ (Nat.lt_of_lt_of_le h.2.1.lt hn)).trans h.2.1, h.2.2.below hb hn⟩
set_option maxRecDepth 100000 in
set_option maxHeartbeats 1000000 in
theorem ahead_any (A : Option Addr) (n c : Nat) (k : Int) (back : Bool) (w : World) :
    Calls Try.prog 44 #[.slice A n c, .agg #[.int .i64 k], .bool back] w fun e w' => ∃ Bd, e = .returned (.func (.func 54) #[] #[.pointer (some ⟨w.heap.size + 1, 0, none⟩), .pointer (some ⟨Bd, 0, none⟩), .pointer (some ⟨w.heap.size, 0, none⟩)]) ∧
      w.heap.size + 2 ≤ Bd ∧ AhAt A n c k back w.heap.size (w.heap.size + 1) Bd w' ∧ Below w.heap.size w w' := by
  obtain ⟨w1, hw1⟩ : ∃ w1, (w.alloc (.cells #[.slice A n c] 22)).alloc (.cells #[.int .i64 k] 26) = w1 := ⟨_, rfl⟩
  have b0 : Boxed w1 w.heap.size 22 (.slice A n c) := by rw [← hw1]; exact (Boxed.new w _ _).alloc _
  have b1 : Boxed w1 (w.heap.size + 1) 26 (.int .i64 k) := by
    rw [← hw1]
    have := Boxed.new (w.alloc (.cells #[.slice A n c] 22)) 26 (.int .i64 k)
    rwa [World.size_alloc] at this
  have hb : Below w.heap.size w w1 := by rw [← hw1]; exact eb_of (alloc_below w _) (alloc_below _ _) (Nat.le_refl _)
  have hs : w1.heap.size = w.heap.size + 2 := by rw [← hw1]; simp
  obtain ⟨gl, hgl⟩ : ∃ gl, fLeft back = .func (.func gl) #[] #[] := ⟨_, rfl⟩
  obtain ⟨gp, hgp⟩ : ∃ gp, fPass back = .func (.func gp) #[] #[] := ⟨_, rfl⟩
  have J := Lib.hid (fun w => dirOf_any back w)
  unfold AhAt
  rw [hgl, hgp] at J ⊢
  clear hgl hgp
  have HB := Lib.hid hb
  have HS := Lib.hid hs
  have HB0 := Lib.hid b0
  have HB1 := Lib.hid b1
  have HW := Lib.hid hw1
  clear hb hs b0 b1
  go_enter Try.func44, Try.ntmps44
  go_wp2_with fail
  refine (J.out _).mono ?_
  rintro e w2 ⟨rfl, hb2⟩
  have HB2 := Lib.hid hb2
  have HR : Hid (Row2 (w2.alloc (.cells #[.func (.func gl) #[] #[], .func (.func gp) #[] #[]] 82)) w2.heap.size 82 (.func (.func gl) #[] #[]) (.func (.func gp) #[] #[])) := Lib.hid (Row2.new _ _ _ _)
  have HC : Hid (Below w1.heap.size w1 (w2.alloc (.cells #[.func (.func gl) #[] #[], .func (.func gp) #[] #[]] 82))) := Lib.hid (eb_of hb2 (alloc_below _ _) (Nat.le_refl _))
  have HZ := Lib.hid hb2.size
  clear hb2
  go_wp2
  go_ret
  exact ⟨w2.heap.size, rfl, by have := HS.out; have := HZ.out; omega, ⟨(HC.out.block _ HB0.out.lt).trans HB0.out, (HC.out.block _ HB1.out.lt).trans HB1.out, HR.out⟩, HB.out.trans (HC.out.mono (by have := HS.out; omega))⟩
/-- what a round answers -/
def AhY (n l : Nat) (S : List (El.En × Nat)) (J Jx : List (El.En × Nat) → World → Prop) : Prop :=
  ∀ pre x W1, J pre W1 → (pre ++ [x]) <+: S → YieldAt Fence.wide (n - 1) Try.prog l (encW x) W1 fun e W' =>
      (e = .returned (.bool true) ∧ J (pre ++ [x]) W') ∨ (e = .returned (.bool false) ∧ Jx (pre ++ [x]) W')
/-- what the iterator reads -/
def AhR (A : Option Addr) (xs : List El.En) (c : Nat) (k : Nat) (back : Bool) (Bl Bw Bd : Nat) (W : World) : Prop :=
  AhAt A xs.length c k back Bl Bw Bd W ∧ EsAt W A xs
set_option maxRecDepth 100000 in
set_option maxHeartbeats 4000000 in
theorem ahead1_f (n Bl Bw Bd : Nat) (xs : List El.En) (A : Option Addr) (c k l : Nat) (w : World) (hk : k ≤ xs.length) (hn : xs.length ≤ 5000)
    (J Jx : List (El.En × Nat) → World → Prop) (hJ : ∀ pre A A', J pre A → Below A.heap.size A A' → J pre A') (hJR : ∀ pre W, J pre W → AhR A xs c k false Bl Bw Bd W)
    (hY : AhY n l (ahL xs k false) J Jx) (h0 : J [] w) :
    CallsIn Fence.wide n Try.prog 54 #[.func (.yield l) #[] #[], .pointer (some ⟨Bw, 0, none⟩), .pointer (some ⟨Bd, 0, none⟩), .pointer (some ⟨Bl, 0, none⟩)] w fun e W' => (∃ v, e = .returned v) ∧ (J (ahL xs k false) W' ∨ ∃ pre, pre <+: ahL xs k false ∧ Jx pre W') := by
  have HJ := Lib.hid hJ
  have HJR := Lib.hid hJR
  have HY := Lib.hid hY
  have H0 := Lib.hid h0
  obtain ⟨⟨g0, g1, g2⟩, hf⟩ := hJR _ _ h0
  have x0 := g0.cell
  have x1 := g1.cell
  have x2 := g2.c0
  have x3 := g2.c1
  obtain ⟨nx, hnx⟩ : ∃ nx, xs.length = nx := ⟨_, rfl⟩
  have HNX := Lib.hid hnx
  rw [hnx] at x0 hk hn
  obtain ⟨m, hm⟩ : ∃ m, m = nx - k := ⟨_, rfl⟩
  have HL : Hid (∀ w, Calls Try.prog 64 #[.int .i64 (k : Int), .int .i64 (nx : Int)] w fun e w' => e = .returned (.int .i64 (m : Int)) ∧ Below w.heap.size w w') := Lib.hid (fun w => by rw [hm]; exact left_f k nx w (by omega) (by omega))
  have HN : Hid (ahN xs.length k false = m) := Lib.hid (by rw [hnx, hm]; rfl)
  clear hJ hJR hY h0 g0 g1 g2 hf hnx
  simp only [fLeft, fPass] at x2 x3
  have HM := Lib.hid hm
  have hm5 : m ≤ 5000 := by omega
  clear hm
  refine callsIn_of_wp Try.func54 rfl trivial ?_ rfl
  simp only [Try.ntmps54, List.size_toArray, List.length_cons, List.length_nil, Nat.reduceAdd, Nat.reduceSub, Array.replicate_succ, Array.replicate_zero, List.push_toArray, List.append_toArray, List.nil_append, List.cons_append]
  gi_wp2_with fail
  refine ⟨trivial, (fun h => by cases h), ?_⟩
  refine (callsIn_wide.2 (HL.out _)).mono ?_
  rintro e w1 ⟨rfl, hb⟩
  have HJ0 := Lib.hid (HJ.out _ _ _ H0.out hb)
  clear x0 x1 x2 x3 H0 hb
  gi_wp2_with fail
  gi_loopw [5, 6, 7, 16, 18, 22] (fun va ve vb vi vp vc wr => ∃ j : Nat, va = .int .i64 ((k + j : Nat) : Int) ∧ vi = .int .i64 (j : Int) ∧ j ≤ m ∧ J ((ahL xs k false).take j) wr) (fun _ _ _ vi _ _ _ => m - (intOf vi).toNat)
  case atStart => exact ⟨0, by first | rfl | simp, by first | rfl | simp, Nat.zero_le _, by simpa using HJ0.out⟩
  case round =>
    obtain ⟨j, rfl, rfl, hj, hjj⟩ := hrel
    have HJ1 := Lib.hid hjj
    obtain ⟨⟨g0, g1, g2⟩, hf⟩ := HJR.out _ _ hjj
    have x0 := g0.cell
    have x2 := g2.c0
    have x3 := g2.c1
    rw [HNX.out] at x0
    simp only [fLeft, fPass] at x2 x3
    have HF := Lib.hid hf
    clear hjj g0 g1 g2 hf HJ0
    by_cases hjm : j < m
    rotate_left
    · have h1 : ¬ (j : Int) < (m : Int) := by omega
      have HE : Hid ((ahL xs k false).take j = ahL xs k false) := Lib.hid (List.take_of_length_le (by rw [ahL_length, HN.out]; omega))
      gi_wp2_with fail
      go_end0
      exact ⟨⟨_, rfl⟩, .inl (by rw [← HE.out]; exact HJ1.out)⟩
    have hm := HM.out
    have h1 : (j : Int) < (m : Int) := by omega
    have HP : Hid (∀ w, Calls Try.prog 65 #[.int .i64 ((k + j : Nat) : Int)] w fun e w' => e = .returned (.tuple #[.int .i64 ((k + j : Nat) : Int), .int .i64 ((k + j + 1 : Nat) : Int)]) ∧ Below w.heap.size w w') := Lib.hid (fun w => by have K := pass_f (k + j) w (by omega); exact K)
    have hxa : k + j < xs.length := by rw [HNX.out]; omega
    have HX : Hid (ahX xs k false j = (entR xs (k + j), k + j + 1)) := Lib.hid rfl
    have HT := Lib.hid (ahL_take xs k false j (by rw [HN.out]; exact hjm))
    have hix : k + j < nx := by omega
    have hrest : k + j + 1 = k + (j + 1) := by omega
    have HRE := Lib.hid hrest
    clear hm hrest
    obtain ⟨a0, ha0⟩ : ∃ a0 : Nat, k + j = a0 := ⟨_, rfl⟩
    obtain ⟨a1, ha1⟩ : ∃ a1 : Nat, k + j = a1 := ⟨_, rfl⟩
    obtain ⟨a2, ha2⟩ : ∃ a2 : Nat, k + j + 1 = a2 := ⟨_, rfl⟩
    have HA1 := Lib.hid ha1
    have HA2 := Lib.hid ha2
    have HA0 := Lib.hid ha0
    simp only [ha2] at *
    simp only [ha1] at *
    obtain rfl : a0 = a1 := by omega
    clear ha0 ha1 ha2
    gi_wp2_with fail
    refine ⟨trivial, (fun h => by cases h), ?_⟩
    refine (callsIn_wide.2 (HP.out _)).mono ?_
    rintro e w2 ⟨rfl, hb⟩
    have HJ2 := Lib.hid (HJ.out _ _ _ HJ1.out hb)
    obtain ⟨⟨g0, g1, g2⟩, hf⟩ := HJR.out _ _ HJ2.out
    clear x0 x2 x3 hb HF
    have x0 := g0.cell
    rw [HNX.out] at x0
    rcases hf with h0 | ⟨b, off, rfl, hbl, hc⟩
    · rw [h0] at hxa; simp at hxa
    obtain ⟨c0, c1, c2, c3⟩ := hc a0 hxa
    obtain ⟨⟨xk, xv, xd, xq⟩, hxi⟩ : ∃ y, xs[a0] = y := ⟨_, rfl⟩
    rw [entR_eq hxa, hxi] at HX
    rw [hxi] at c0 c1 c2 c3
    rw [HX.out] at HT
    clear hc hxi g0 g1 g2
    simp only at c0 c1 c2 c3
    obtain ⟨fn, tmps, assign, body, hy, hR⟩ := HY.out ((ahL xs k false).take j) ((xk, xv, xd, xq), a2) w2 HJ2.out (by rw [← HT.out]; exact List.take_prefix _ _)
    dsimp only [encW] at hy
    gi_wp2
    refine ⟨(fun h => by cases h), hR.mono ?_⟩
    rintro e W3 (⟨rfl, hJ3⟩ | ⟨rfl, hx3⟩)
    · have HJ3 := Lib.hid hJ3
      clear hJ3 hy hR c0 c1 c2 c3 x0
      gi_wp2
      go_roundw
      case rel => exact ⟨j + 1, by rw [← HRE.out], by go_num, by omega, by rw [HT.out]; exact HJ3.out⟩
      case measure => simp [intOf]; omega
    · have HX3 := Lib.hid hx3
      clear hx3 hy hR
      gi_wp2
      refine bodyPost_ret (v := .tuple #[]) (by simp [results, Try.f54, go_sem]) rfl ?_
      exact ⟨⟨_, rfl⟩, .inr ⟨(ahL xs k false).take (j + 1), List.take_prefix _ _, by rw [HT.out]; exact HX3.out⟩⟩
set_option maxRecDepth 100000 in
set_option maxHeartbeats 4000000 in
theorem ahead1_b (n Bl Bw Bd : Nat) (xs : List El.En) (A : Option Addr) (c k l : Nat) (w : World) (hk : k ≤ xs.length) (hn : xs.length ≤ 5000)
    (J Jx : List (El.En × Nat) → World → Prop) (hJ : ∀ pre A A', J pre A → Below A.heap.size A A' → J pre A') (hJR : ∀ pre W, J pre W → AhR A xs c k true Bl Bw Bd W)
    (hY : AhY n l (ahL xs k true) J Jx) (h0 : J [] w) :
    CallsIn Fence.wide n Try.prog 54 #[.func (.yield l) #[] #[], .pointer (some ⟨Bw, 0, none⟩), .pointer (some ⟨Bd, 0, none⟩), .pointer (some ⟨Bl, 0, none⟩)] w fun e W' => (∃ v, e = .returned v) ∧ (J (ahL xs k true) W' ∨ ∃ pre, pre <+: ahL xs k true ∧ Jx pre W') := by
  have HJ := Lib.hid hJ
  have HJR := Lib.hid hJR
  have HY := Lib.hid hY
  have H0 := Lib.hid h0
  obtain ⟨⟨g0, g1, g2⟩, hf⟩ := hJR _ _ h0
  have x0 := g0.cell
  have x1 := g1.cell
  have x2 := g2.c0
  have x3 := g2.c1
  obtain ⟨nx, hnx⟩ : ∃ nx, xs.length = nx := ⟨_, rfl⟩
  have HNX := Lib.hid hnx
  rw [hnx] at x0 hk hn
  obtain ⟨m, hm⟩ : ∃ m, m = k := ⟨_, rfl⟩
  have HL : Hid (∀ w, Calls Try.prog 66 #[.int .i64 (k : Int), .int .i64 (nx : Int)] w fun e w' => e = .returned (.int .i64 (m : Int)) ∧ Below w.heap.size w w') := Lib.hid (fun w => by rw [hm]; exact left_b k nx w)
  have HN : Hid (ahN xs.length k true = m) := Lib.hid (by rw [hnx, hm]; rfl)
  clear hJ hJR hY h0 g0 g1 g2 hf hnx
  simp only [fLeft, fPass] at x2 x3
  have HM := Lib.hid hm
  have hm5 : m ≤ 5000 := by omega
  clear hm
  refine callsIn_of_wp Try.func54 rfl trivial ?_ rfl
  simp only [Try.ntmps54, List.size_toArray, List.length_cons, List.length_nil, Nat.reduceAdd, Nat.reduceSub, Array.replicate_succ, Array.replicate_zero, List.push_toArray, List.append_toArray, List.nil_append, List.cons_append]
  gi_wp2_with fail
  refine ⟨trivial, (fun h => by cases h), ?_⟩
  refine (callsIn_wide.2 (HL.out _)).mono ?_
  rintro e w1 ⟨rfl, hb⟩
  have HJ0 := Lib.hid (HJ.out _ _ _ H0.out hb)
  clear x0 x1 x2 x3 H0 hb
  gi_wp2_with fail
  gi_loopw [5, 6, 7, 16, 18, 22] (fun va ve vb vi vp vc wr => ∃ j : Nat, va = .int .i64 ((k - j : Nat) : Int) ∧ vi = .int .i64 (j : Int) ∧ j ≤ m ∧ J ((ahL xs k true).take j) wr) (fun _ _ _ vi _ _ _ => m - (intOf vi).toNat)
  case atStart => exact ⟨0, by first | rfl | simp, by first | rfl | simp, Nat.zero_le _, by simpa using HJ0.out⟩
  case round =>
    obtain ⟨j, rfl, rfl, hj, hjj⟩ := hrel
    have HJ1 := Lib.hid hjj
    obtain ⟨⟨g0, g1, g2⟩, hf⟩ := HJR.out _ _ hjj
    have x0 := g0.cell
    have x2 := g2.c0
    have x3 := g2.c1
    rw [HNX.out] at x0
    simp only [fLeft, fPass] at x2 x3
    have HF := Lib.hid hf
    clear hjj g0 g1 g2 hf HJ0
    by_cases hjm : j < m
    rotate_left
    · have h1 : ¬ (j : Int) < (m : Int) := by omega
      have HE : Hid ((ahL xs k true).take j = ahL xs k true) := Lib.hid (List.take_of_length_le (by rw [ahL_length, HN.out]; omega))
      gi_wp2_with fail
      go_end0
      exact ⟨⟨_, rfl⟩, .inl (by rw [← HE.out]; exact HJ1.out)⟩
    have hm := HM.out
    have h1 : (j : Int) < (m : Int) := by omega
    have HP : Hid (∀ w, Calls Try.prog 67 #[.int .i64 ((k - j : Nat) : Int)] w fun e w' => e = .returned (.tuple #[.int .i64 ((k - 1 - j : Nat) : Int), .int .i64 ((k - 1 - j : Nat) : Int)]) ∧ Below w.heap.size w w') := Lib.hid (fun w => by have K := pass_b (k - j) w (by omega) (by omega); rw [show k - j - 1 = k - 1 - j by omega] at K; exact K)
    have hxa : k - 1 - j < xs.length := by rw [HNX.out]; omega
    have HX : Hid (ahX xs k true j = (entR xs (k - 1 - j), k - 1 - j)) := Lib.hid rfl
    have HT := Lib.hid (ahL_take xs k true j (by rw [HN.out]; exact hjm))
    have hix : k - 1 - j < nx := by omega
    have hrest : k - 1 - j = k - (j + 1) := by omega
    have HRE := Lib.hid hrest
    clear hm hrest
    obtain ⟨a0, ha0⟩ : ∃ a0 : Nat, k - j = a0 := ⟨_, rfl⟩
    obtain ⟨a1, ha1⟩ : ∃ a1 : Nat, k - 1 - j = a1 := ⟨_, rfl⟩
    obtain ⟨a2, ha2⟩ : ∃ a2 : Nat, k - 1 - j = a2 := ⟨_, rfl⟩
    have HA1 := Lib.hid ha1
    have HA2 := Lib.hid ha2
    have HA0 := Lib.hid ha0
    simp only [ha0, ha1, ha2] at *
    clear ha0 ha1 ha2
    gi_wp2_with fail
    refine ⟨trivial, (fun h => by cases h), ?_⟩
    refine (callsIn_wide.2 (HP.out _)).mono ?_
    rintro e w2 ⟨rfl, hb⟩
    have HJ2 := Lib.hid (HJ.out _ _ _ HJ1.out hb)
    obtain ⟨⟨g0, g1, g2⟩, hf⟩ := HJR.out _ _ HJ2.out
    clear x0 x2 x3 hb HF
    have x0 := g0.cell
    rw [HNX.out] at x0
    rcases hf with h0 | ⟨b, off, rfl, hbl, hc⟩
    · rw [h0] at hxa; simp at hxa
    obtain ⟨c0, c1, c2, c3⟩ := hc a1 hxa
    obtain ⟨⟨xk, xv, xd, xq⟩, hxi⟩ : ∃ y, xs[a1] = y := ⟨_, rfl⟩
    rw [entR_eq hxa, hxi] at HX
    rw [hxi] at c0 c1 c2 c3
    rw [HX.out] at HT
    clear hc hxi g0 g1 g2
    simp only at c0 c1 c2 c3
    obtain ⟨fn, tmps, assign, body, hy, hR⟩ := HY.out ((ahL xs k true).take j) ((xk, xv, xd, xq), a1) w2 HJ2.out (by rw [← HT.out]; exact List.take_prefix _ _)
    dsimp only [encW] at hy
    gi_wp2
    refine ⟨(fun h => by cases h), hR.mono ?_⟩
    rintro e W3 (⟨rfl, hJ3⟩ | ⟨rfl, hx3⟩)
    · have HJ3 := Lib.hid hJ3
      clear hJ3 hy hR c0 c1 c2 c3 x0
      gi_wp2
      go_roundw
      case rel => exact ⟨j + 1, by rw [← HRE.out], by go_num, by omega, by rw [HT.out]; exact HJ3.out⟩
      case measure => simp [intOf]; omega
    · have HX3 := Lib.hid hx3
      clear hx3 hy hR
      gi_wp2
      refine bodyPost_ret (v := .tuple #[]) (by simp [results, Try.f54, go_sem]) rfl ?_
      exact ⟨⟨_, rfl⟩, .inr ⟨(ahL xs k true).take (j + 1), List.take_prefix _ _, by rw [HT.out]; exact HX3.out⟩⟩
end Go.Proofs.Yticdechdgpfdfaa.KK
