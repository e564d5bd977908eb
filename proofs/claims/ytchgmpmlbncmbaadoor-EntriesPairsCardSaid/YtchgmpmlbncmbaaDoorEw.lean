/-
  EntriesPairs: the walk.
-/
import Derived.Test.YtchgmpmlbncmbaaDoorQe
namespace Go.Proofs.YtchgmpmlbncmbaaDoor.KK
open Go.ChangeShapes Go.WideShapes Go.ChangeAt Go.RowKit Go.Proofs Go.Sort

set_option maxRecDepth 100000 in
set_option maxHeartbeats 4000000 in
theorem pairs_far (k v : ByteArray) (d : Bool) (q : Int) (k2 v2 : ByteArray) (d2 : Bool) (q2 : Int) (w : World) (hk : k.size ≤ 9223372036854775807) (hv : v.size ≤ 9223372036854775807) (hk2 : k2.size ≤ 9223372036854775807) (hv2 : v2.size ≤ 9223372036854775807) (he : EnvE w) (hl : largeE (k, v, d, q) = true ∨ largeE (k2, v2, d2, q2) = true) :
    Calls Tryd.prog 3 #[.agg #[.string k, .string v, .bool d, .int .i64 q], .agg #[.string k2, .string v2, .bool d2, .int .i64 q2]] w fun e w' => e = .returned (.bool true) ∧ Below w.heap.size w w' := by
  have HA := box2_below k v d q k2 v2 d2 q2 w
  have HC := box2 k v d q k2 v2 d2 q2 w
  have HE := Lib.hid he
  have J1 := Lib.hid (fun w => large_any k v d q w hk hv)
  have J2 := Lib.hid (fun w => large_any k2 v2 d2 q2 w hk2 hv2)
  clear he
  by_cases h1 : largeE (k, v, d, q) = true
  · rw [h1] at J1
    clear hl h1
    go_enter Tryd.func3, Tryd.ntmps3
    go_wp2_with fail
    refine (J1.out _).mono ?_
    rintro e w1 ⟨rfl, hb1⟩
    have HB := Lib.hid (eb_of HA.out hb1 (Nat.le_refl _))
    clear hb1
    go_wp2_with fail
    refine (awake_any _ (HE.out.below HB.out)).mono ?_
    rintro e w2 ⟨rfl, hb2⟩
    have HB := Lib.hid (eb_of HB.out hb2 (Nat.le_refl _))
    clear hb2
    go_wp2_with fail
    go_ret
    exact ⟨rfl, HB.out⟩
  · have h2 : largeE (k2, v2, d2, q2) = true := by rcases hl with h | h; exact absurd h h1; exact h
    have h1 : largeE (k, v, d, q) = false := by simpa using h1
    rw [h1] at J1
    rw [h2] at J2
    clear hl h1 h2
    go_enter Tryd.func3, Tryd.ntmps3
    go_wp2_with fail
    refine (J1.out _).mono ?_
    rintro e w1 ⟨rfl, hb1⟩
    have HB := Lib.hid (eb_of HA.out hb1 (Nat.le_refl _))
    obtain ⟨⟨a0, a1, a2, a3⟩, c0, c1, c2, c3⟩ := HC.out _ hb1
    clear hb1
    go_wp2_with fail
    refine (J2.out _).mono ?_
    rintro e w2 ⟨rfl, hb2⟩
    have HB := Lib.hid (eb_of HB.out hb2 (Nat.le_refl _))
    clear hb2
    go_wp2_with fail
    refine (awake_any _ (HE.out.below HB.out)).mono ?_
    rintro e w3 ⟨rfl, hb3⟩
    have HB := Lib.hid (eb_of HB.out hb3 (Nat.le_refl _))
    clear hb3
    go_wp2_with fail
    go_ret
    exact ⟨rfl, HB.out⟩
set_option maxRecDepth 100000 in
set_option maxHeartbeats 8000000 in
theorem pairs_near (k v : ByteArray) (d : Bool) (q : Int) (k2 v2 : ByteArray) (d2 : Bool) (q2 : Int) (w : World) (hk : k.size ≤ 9223372036854775807) (hv : v.size ≤ 9223372036854775807) (hk2 : k2.size ≤ 9223372036854775807) (hv2 : v2.size ≤ 9223372036854775807) (he : EnvE w) (h1 : largeE (k, v, d, q) = false) (h2 : largeE (k2, v2, d2, q2) = false) :
    Calls Tryd.prog 3 #[.agg #[.string k, .string v, .bool d, .int .i64 q], .agg #[.string k2, .string v2, .bool d2, .int .i64 q2]] w fun e w' => e = .returned (.bool true) ∧ Below w.heap.size w w' := by
  have HA := box2_below k v d q k2 v2 d2 q2 w
  have HC := box2 k v d q k2 v2 d2 q2 w
  have HE := Lib.hid he
  have J1 := Lib.hid (fun w => by have K := large_any k v d q w hk hv; rw [h1] at K; exact K)
  have J2 := Lib.hid (fun w => by have K := large_any k2 v2 d2 q2 w hk2 hv2; rw [h2] at K; exact K)
  have J3 := Lib.hid (fun w => eCompare_any k v d q k2 v2 d2 q2 w hk hv hk2 hv2)
  have J4 := Lib.hid (fun w => fCompare_any k v d q k2 v2 d2 q2 w hk hv hk2 hv2)
  have J5 := Lib.hid (fun w => eWins_any k v d q k2 v2 d2 q2 w hk hv hk2 hv2)
  have J6 := Lib.hid (fun w => fWins_any k v d q k2 v2 d2 q2 w hk hv hk2 hv2)
  have J7 := Lib.hid (fun w => eCheck_any k v d q w hk hv)
  have J8 := Lib.hid (fun w => fCheck_any k v d q w hk hv)
  clear he h1 h2
  generalize El.chk (k, v, d, q) = r1 at *
  generalize El.cmp (k, v, d, q) (k2, v2, d2, q2) = r2 at *
  generalize El.two (k, v, d, q) (k2, v2, d2, q2) = r3 at *
  obtain ⟨⟨r4, pk, pv, pd, pq⟩, hw⟩ : ∃ p, El.wins (k, v, d, q) (k2, v2, d2, q2) = p := ⟨_, rfl⟩
  rw [hw] at J5 J6
  unfold agE at J5 J6
  simp only at J5 J6
  clear hw
  go_enter Tryd.func3, Tryd.ntmps3
  have HG : Hid (Below ((w.alloc (.cells #[.string k, .string v, .bool d, .int .i64 q] 23)).alloc (.cells #[.string k2, .string v2, .bool d2, .int .i64 q2] 23)).heap.size ((w.alloc (.cells #[.string k, .string v, .bool d, .int .i64 q] 23)).alloc (.cells #[.string k2, .string v2, .bool d2, .int .i64 q2] 23)) ((w.alloc (.cells #[.string k, .string v, .bool d, .int .i64 q] 23)).alloc (.cells #[.string k2, .string v2, .bool d2, .int .i64 q2] 23))) := Lib.hid (Below.refl _ _)
  go_wp2_with fail
  refine (J1.out _).mono ?_
  rintro e w1 ⟨rfl, hb⟩
  have HG := Lib.hid (eb_of HG.out hb (by first | exact Nat.le_refl _ | exact HG.out.size))
  obtain ⟨⟨a0, a1, a2, a3⟩, c0, c1, c2, c3⟩ := HC.out _ HG.out
  clear hb
  go_wp2_with fail
  refine (J2.out _).mono ?_
  rintro e w2 ⟨rfl, hb⟩
  have HG := Lib.hid (eb_of HG.out hb (by first | exact Nat.le_refl _ | exact HG.out.size))
  obtain ⟨⟨a0, a1, a2, a3⟩, c0, c1, c2, c3⟩ := HC.out _ HG.out
  clear hb
  go_wp2_with fail
  refine (J3.out _).mono ?_
  rintro e w3 ⟨rfl, hb⟩
  have HG := Lib.hid (eb_of HG.out hb (by first | exact Nat.le_refl _ | exact HG.out.size))
  obtain ⟨⟨a0, a1, a2, a3⟩, c0, c1, c2, c3⟩ := HC.out _ HG.out
  clear hb
  go_wp2_with fail
  refine (J4.out _).mono ?_
  rintro e w4 ⟨rfl, hb⟩
  have HG := Lib.hid (eb_of HG.out hb (by first | exact Nat.le_refl _ | exact HG.out.size))
  obtain ⟨⟨a0, a1, a2, a3⟩, c0, c1, c2, c3⟩ := HC.out _ HG.out
  clear hb
  go_wp2_with fail
  refine (J5.out _).mono ?_
  rintro e w5 ⟨rfl, hb⟩
  have HG := Lib.hid (eb_of HG.out hb (by first | exact Nat.le_refl _ | exact HG.out.size))
  obtain ⟨⟨a0, a1, a2, a3⟩, c0, c1, c2, c3⟩ := HC.out _ HG.out
  clear hb
  have HP := box1 pk pv pd pq w5
  have HG := Lib.hid (HG.out.alloc HG.out.size (.cells #[.string pk, .string pv, .bool pd, .int .i64 pq] 23))
  obtain ⟨⟨a0, a1, a2, a3⟩, c0, c1, c2, c3⟩ := HC.out _ HG.out
  go_wp2_with fail
  refine (J6.out _).mono ?_
  rintro e w6 ⟨rfl, hb⟩
  have HG := Lib.hid (eb_of HG.out hb (by first | exact Nat.le_refl _ | exact HG.out.size))
  have hz6 := hb.size
  have HPB := Lib.hid (hb.alloc hb.size (.cells #[.string pk, .string pv, .bool pd, .int .i64 pq] 23))
  have HQ := box1 pk pv pd pq w6
  have HG := Lib.hid (HG.out.alloc HG.out.size (.cells #[.string pk, .string pv, .bool pd, .int .i64 pq] 23))
  clear hb
  obtain ⟨⟨a0, a1, a2, a3⟩, -⟩ := HC.out _ HG.out
  obtain ⟨p0, p1, p2, p3, hp⟩ := HP.out _ HPB.out
  obtain ⟨q0, q1, q2, q3, hq⟩ := HQ.out _ (Below.refl _ _)
  have hz : w.heap.size < (w6.alloc (.cells #[.string pk, .string pv, .bool pd, .int .i64 pq] 23)).heap.size := by have := HG.out.size; simp at this ⊢; omega
  have HBW := Lib.hid (HA.out.trans (HG.out.mono HA.out.size))
  have x0 := abv_cell hz a0
  have x1 := abv_cell hz a1
  have x2 := abv_cell hz a2
  have x3 := abv_cell hz a3
  have y0 := abv_cell hp p0
  have y1 := abv_cell hp p1
  have y2 := abv_cell hp p2
  have y3 := abv_cell hp p3
  have z0 := abv_cell hq q0
  have z1 := abv_cell hq q1
  have z2 := abv_cell hq q2
  have z3 := abv_cell hq q3
  clear a0 a1 a2 a3 p0 p1 p2 p3 q0 q1 q2 q3 c0 c1 c2 c3
  go_wp2_with fail
  refine wp_region_abv (by first | assumption | kernel_rfl) (by kernel_rfl) ?_
  repeat (first | go_big_quiet_step (first | exact callAbv (J7.out _) | exact callAbv (J8.out _) | exact callAbv (awake_any _ (HE.out.below (below_abv HBW.out (Nat.le_refl _) _)))) | quiet_step (first | exact callAbv (J7.out _) | exact callAbv (J8.out _) | exact callAbv (awake_any _ (HE.out.below (below_abv HBW.out (Nat.le_refl _) _)))))
  refine wpQuiet_nil ?_
  intro w9 hw9
  obtain ⟨pw, rfl⟩ := hw9
  have HF := Lib.hid (below_abv HBW.out (Nat.le_refl _) pw)
  go_wp2_with fail
  go_ret
  exact ⟨by first | rfl | simp, HF.out⟩
theorem EntriesPairs_any (k v : ByteArray) (d : Bool) (q : Int) (k2 v2 : ByteArray) (d2 : Bool) (q2 : Int) (w : World) (hk : k.size ≤ 9223372036854775807) (hv : v.size ≤ 9223372036854775807) (hk2 : k2.size ≤ 9223372036854775807) (hv2 : v2.size ≤ 9223372036854775807) (he : EnvE w) :
    Calls Tryd.prog 3 #[.agg #[.string k, .string v, .bool d, .int .i64 q], .agg #[.string k2, .string v2, .bool d2, .int .i64 q2]] w fun e w' => e = .returned (.bool true) ∧ Below w.heap.size w w' := by
  by_cases h1 : largeE (k, v, d, q) = true
  · exact pairs_far k v d q k2 v2 d2 q2 w hk hv hk2 hv2 he (.inl h1)
  by_cases h2 : largeE (k2, v2, d2, q2) = true
  · exact pairs_far k v d q k2 v2 d2 q2 w hk hv hk2 hv2 he (.inr h2)
  exact pairs_near k v d q k2 v2 d2 q2 w hk hv hk2 hv2 he (by simpa using h1) (by simpa using h2)
end Go.Proofs.YtchgmpmlbncmbaaDoor.KK
