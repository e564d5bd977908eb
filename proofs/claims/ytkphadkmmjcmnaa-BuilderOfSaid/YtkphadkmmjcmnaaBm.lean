/-
  The walk of BuilderOf.
-/
import Derived.Test.YtkphadkmmjcmnaaBl
namespace Go.Proofs.Ytkphadkmmjcmnaa.KK
open Go.ChangeShapes Go.WideShapes Go.ChangeAt Go.RowKit Go.Proofs

set_option maxRecDepth 100000 in
set_option maxHeartbeats 4000000 in
theorem Of_law (id : Int) (A : Option Addr) (c : Nat) (xs : List El.En) (w : World) (hid : -9223372036854775808 ≤ id ∧ id ≤ 9223372036854775807) (hf : EsAt w A xs) (hn : xs.length ≤ 9223372036854775807) (hs : Sized xs) (hcap : xs.length ≤ c) (hnil : A = none → c = 0) :
    Calls Try.prog 4 #[.int .i64 id, .slice A xs.length c] w fun e w' => e = .returned (.bool true) ∧ Below w.heap.size w w' := by
  have JW := Lib.hid awake_any
  obtain ⟨n, hnn⟩ : ∃ n, xs.length = n := ⟨_, rfl⟩
  have HN := Lib.hid hnn
  by_cases hfar : (60 < n ∧ n ≤ 5000) ∨ 5010 < n
  · rw [hnn]
    have hn2 : n ≤ 9223372036854775807 := by omega
    clear hf hs hcap hnil hnn hn
    by_cases h1 : 5010 < n
    · have h2 : ¬ n ≤ 5000 := by omega
      have h3 : 60 < n := by omega
      clear hfar
      go_enter Try.func4, Try.ntmps4
      go_wp2_with fail
      refine (JW.out _).mono ?_
      rintro e w1 ⟨rfl, hb⟩
      go_wp2_with fail
      go_ret
      exact ⟨rfl, hb⟩
    · have h2 : n ≤ 5000 := by omega
      have h3 : 60 < n := by omega
      clear hfar
      go_enter Try.func4, Try.ntmps4
      go_wp2_with fail
      refine (JW.out _).mono ?_
      rintro e w1 ⟨rfl, hb⟩
      go_wp2_with fail
      go_ret
      exact ⟨rfl, hb⟩
  have hn : xs.length ≤ 4294967295 := by omega
  have JOf := Lib.hid (fun (w' : World) (hb : Below w.heap.size w w') => Of_any id A c xs w' (hf.below hb (Nat.le_refl _)) hn hs hid)
  have JRf := Lib.hid (fun (w' : World) (hb : Below w.heap.size w w') => ROf_any id A c xs w' (hf.below hb (Nat.le_refl _)) hnil hn hs hid)
  have HL5 : Hid ((ofL id xs).length ≤ 9223372036854775807) := Lib.hid (by unfold ofL; split <;> first | omega | exact Nat.zero_le _)
  unfold RunOut at JOf JRf
  rw [hnn] at JOf JRf ⊢
  have HF := Lib.hid hf
  have HS := Lib.hid hs
  clear hf hs hcap hnil hnn hn
  have hn2 : n ≤ 4294967295 := by omega
  have q1 : (60 < n ∧ 5000 < n) ∨ n ≤ 60 := by omega
  have q2 : n ≤ 5010 := by omega
  clear hfar
  generalize ofE id xs = r at *
  generalize ofId id xs = rid at *
  generalize ofL id xs = ys at *
  go_enter Try.func4, Try.ntmps4
  rcases q1 with ⟨q3, q4⟩ | q3
  all_goals
    go_wp2_with fail
    go_loopw [5] (fun i wr => ∃ k : Nat, k ≤ n ∧ i = .int .i64 k ∧ Below w.heap.size w wr) (fun i _ => n - (intOf i).toNat)
    case atStart => exact ⟨0, by omega, rfl, Below.refl _ _⟩
    case round =>
      obtain ⟨k, hk, rfl, hb⟩ := hrel
      have HB := Lib.hid hb
      clear hb
      by_cases hlt : k < n ∧ k < 100
      · obtain ⟨hlt1, hlt2⟩ := hlt
        have hkx : k < xs.length := by rw [HN.out]; exact hlt1
        rcases HF.out.below HB.out (Nat.le_refl _) with h0 | ⟨b, off, rfl, hbl, hc⟩
        · rw [h0] at hkx; simp at hkx
        obtain ⟨g0, g1, g2, g3⟩ := hc k hkx
        obtain ⟨s0, s1⟩ := HS.out.at hkx
        have hI : (k : Int) < (n : Int) := by omega
        clear hc g2 g3
        generalize xs[k].1 = kk at *
        generalize xs[k].2.1 = vv at *
        by_cases h1 : 100 < kk.size
        · go_wp2_with fail
          refine (JW.out _).mono ?_
          rintro e w1 ⟨rfl, hb⟩
          go_wp2_with fail
          go_ret
          exact ⟨rfl, eb_of HB.out hb (Nat.le_refl _)⟩
        · by_cases h2 : 100 < vv.size
          · go_wp2_with fail
            refine (JW.out _).mono ?_
            rintro e w1 ⟨rfl, hb⟩
            go_wp2_with fail
            go_ret
            exact ⟨rfl, eb_of HB.out hb (Nat.le_refl _)⟩
          · go_wp2_with fail
            go_roundw
            case rel => exact ⟨k + 1, by omega, by go_num, HB.out⟩
            case measure => simp [intOf]; omega
      · have hq : ¬ k < n ∨ (k < n ∧ ¬ k < 100) := by omega
        clear hlt
        rcases hq with hq | ⟨hq, hq2⟩
        all_goals (try (exfalso; omega))
        all_goals
          go_wp2_with fail
          refine (JOf.out _ HB.out).mono ?_
          rintro e w1 ⟨A1, c1, rfl, he1, -, -, hb⟩
          unfold runV
          have HB1 := Lib.hid (eb_of HB.out hb (Nat.le_refl _))
          have hb2 := alloc_below w1 (.cells #[.int .i64 rid, .slice A1 ys.length c1] 43)
          have HR1 := Row2.new w1 43 (.int .i64 rid) (.slice A1 ys.length c1)
          have HE1 := Lib.hid (he1.below hb2 (Nat.le_refl _))
          have HB2 := Lib.hid (eb_of HB1.out hb2 (Nat.le_refl _))
          clear hb hb2 he1
          go_wp2_with fail
          generalize w1.alloc (.cells #[.int .i64 rid, .slice A1 ys.length c1] 43) = wx at *
          generalize w1.heap.size = b1 at *
          refine (JRf.out _ HB2.out).mono ?_
          rintro e w2 ⟨A2, c2, rfl, he2, -, -, hb⟩
          unfold runV
          have HB3 := Lib.hid (eb_of HB2.out hb (Nat.le_refl _))
          have HR2 := HR1.below hb (Nat.le_refl _)
          have HE2 := Lib.hid (HE1.out.below hb (Nat.le_refl _))
          have hb2 := alloc_below w2 (.cells #[.int .i64 rid, .slice A2 ys.length c2] 43)
          have HRb := Row2.new w2 43 (.int .i64 rid) (.slice A2 ys.length c2)
          have HRa := HR2.below hb2 (Nat.le_refl _)
          have HEa := Lib.hid (HE2.out.below hb2 (Nat.le_refl _))
          have HEb := Lib.hid (he2.below hb2 (Nat.le_refl _))
          have HB4 := Lib.hid (eb_of HB3.out hb2 (Nat.le_refl _))
          clear hb hb2 he2 HR1 HR2
          have x0 := HRa.c0
          have x1 := HRa.c1
          have y0 := HRb.c0
          have y1 := HRb.c1
          go_wp2_with fail
          generalize w2.alloc (.cells #[.int .i64 rid, .slice A2 ys.length c2] 43) = wz at *
          generalize w2.heap.size = b2 at *
          refine (RSame_any rid rid A1 A2 c1 c2 ys ys wz HEa.out HEb.out HL5.out HL5.out).mono ?_
          rintro e w3 ⟨rfl, hb⟩
          have HB5 := Lib.hid (eb_of HB4.out hb (Nat.le_refl _))
          clear hb
          rw [show decide (rid = rid ∧ ys = ys) = true by simp]
          go_wp2_with fail
          refine (JW.out _).mono ?_
          rintro e w4 ⟨rfl, hb⟩
          go_wp2_with fail
          go_ret
          exact ⟨rfl, eb_of HB5.out hb (Nat.le_refl _)⟩
end Go.Proofs.Ytkphadkmmjcmnaa.KK
