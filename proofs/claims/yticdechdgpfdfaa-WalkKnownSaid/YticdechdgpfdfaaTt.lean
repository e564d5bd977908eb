/-
  Walk: the reference's Take.
-/
import Derived.Test.YticdechdgpfdfaaTs
namespace Go.Proofs.Yticdechdgpfdfaa.KK
open Go.ChangeShapes Go.WideShapes Go.ChangeAt Go.RowKit Go.Proofs Go.Sort

/-- the j entries taken -/
def tkL (xs : List El.En) (m : Nat) (back : Bool) (j : Nat) : List El.En := ((ahL xs m back).take j).map (·.1)
theorem tkL_next {xs : List El.En} {m : Nat} {back : Bool} {j : Nat} (h : j < ahN xs.length m back) : tkL xs m back (j + 1) = tkL xs m back j ++ [(ahX xs m back j).1] := by
  unfold tkL; rw [ahL_take xs m back j h, List.map_append]; rfl
theorem tkL_len {xs : List El.En} {m : Nat} {back : Bool} {j : Nat} (h : j ≤ ahN xs.length m back) : (tkL xs m back j).length = j := by
  unfold tkL; rw [List.length_map, List.length_take, ahL_length]; omega
theorem rt_round {w wr w1 : World} {A : Option Addr} {n c : Nat} {id : Int} {p : Int} {v v' : Value} {T : List El.En} {x : El.En} {j : Nat} (ho : wr.ownsRow (w.heap.size + 3) 34 4 v j (cellsE T)) (hb : Below w.heap.size w wr)
    (hu : Row2 wr w.heap.size 24 (.int .i64 id) (.slice A n c)) (hk : Boxed wr (w.heap.size + 1) 26 (.int .i64 p)) (hz : Boxed wr (w.heap.size + 2) 26 (.int .i64 0))
    (hg : wr.grownBy w1 v.ownBlock) (ho' : w1.ownsRow (w.heap.size + 3) 34 4 v' (j + 1) (cellsE T ++ [.string x.1, .string x.2.1, .bool x.2.2.1, .int .i64 x.2.2.2])) :
    w1.ownsRow (w.heap.size + 3) 34 4 v' (j + 1) (cellsE (T ++ [x])) ∧ Below w.heap.size w w1 ∧ Row2 w1 w.heap.size 24 (.int .i64 id) (.slice A n c) ∧ Boxed w1 (w.heap.size + 1) 26 (.int .i64 p) ∧ Boxed w1 (w.heap.size + 2) 26 (.int .i64 0) := by
  have hrow : ∀ r, v.ownBlock = some r → w.heap.size + 3 ≤ r := fun r e => (ho.lt r e).1
  have ne : ∀ k, k < w.heap.size + 3 → some k ≠ v.ownBlock := fun k hk e => by have := hrow k e.symm; omega
  exact ⟨own_snoc ho', hb.grown hg hb.size (fun k e => by have := hrow k e; omega), row2_kept hu hg (ne _ (by omega)), hk.kept hg (ne _ (by omega)), hz.kept hg (ne _ (by omega))⟩
theorem rt_set {w wr : World} {A : Option Addr} {n c : Nat} {id : Int} {p : Int} {v : Value} {T : List El.En} {j : Nat} (z : Int) (ho : wr.ownsRow (w.heap.size + 3) 34 4 v j (cellsE T)) (hb : Below w.heap.size w wr)
    (hu : Row2 wr w.heap.size 24 (.int .i64 id) (.slice A n c)) (hk : Boxed wr (w.heap.size + 1) 26 (.int .i64 p)) (hz : Boxed wr (w.heap.size + 2) 26 (.int .i64 0)) :
    (wr.setCell ⟨w.heap.size + 1, 0, none⟩ (.int .i64 z)).ownsRow (w.heap.size + 3) 34 4 v j (cellsE T) ∧ Below w.heap.size w (wr.setCell ⟨w.heap.size + 1, 0, none⟩ (.int .i64 z)) ∧ Row2 (wr.setCell ⟨w.heap.size + 1, 0, none⟩ (.int .i64 z)) w.heap.size 24 (.int .i64 id) (.slice A n c) ∧ Boxed (wr.setCell ⟨w.heap.size + 1, 0, none⟩ (.int .i64 z)) (w.heap.size + 1) 26 (.int .i64 z) ∧ Boxed (wr.setCell ⟨w.heap.size + 1, 0, none⟩ (.int .i64 z)) (w.heap.size + 2) 26 (.int .i64 0) :=
  ⟨ownsRow_setCell_below ho (a := ⟨w.heap.size + 1, 0, none⟩) (by first | (simp; done) | (simp; omega)) _, hb.setCell (p := ⟨w.heap.size + 1, 0, none⟩) (by simp) _, off2 (g := w.heap.size + 1) (o := 0) hu (by omega) _, Boxed.set _ hk, off1 (g := w.heap.size + 1) (o := 0) hz (by omega) _⟩
theorem rt_end {w wr : World} {v1 : Option Addr} {v2 : Nat} {T : List El.En} {j : Nat} (z : Int) (hj : T.length = j) (ho : wr.ownsRow (w.heap.size + 3) 34 4 (.slice v1 j v2) j (cellsE T)) (hb : Below w.heap.size w wr) (hz : Boxed wr (w.heap.size + 2) 26 (.int .i64 0)) :
    (wr.setCell ⟨w.heap.size + 2, 0, none⟩ (.int .i64 z)).drew.cell? ⟨w.heap.size + 2, 0, none⟩ = some (.int .i64 z) ∧ EsAt (wr.setCell ⟨w.heap.size + 2, 0, none⟩ (.int .i64 z)).drew v1 T ∧ Below w.heap.size w (wr.setCell ⟨w.heap.size + 2, 0, none⟩ (.int .i64 z)).drew := by
  have h1 := ownsRow_setCell_below ho (a := ⟨w.heap.size + 2, 0, none⟩) (by first | (simp; done) | (simp; omega)) (.int .i64 z)
  subst hj
  exact ⟨(box_drew (Boxed.set _ hz)).cell, EsAt.of_own (own_drew h1), below_drew (hb.setCell (p := ⟨w.heap.size + 2, 0, none⟩) (by simp) _)⟩
set_option maxRecDepth 100000 in
set_option maxHeartbeats 8000000 in
theorem rTake_bad (id : Int) (A : Option Addr) (d : Nat) (xs : List El.En) (K : Int) (c : Int) (w : World) (hf : EsAt w A xs) (hn : xs.length ≤ 4294967295) (hs : Sized xs) (h1 : curE id xs K ≠ 0) :
    Calls Try.prog 28 #[.agg #[.int .i64 id, .slice A xs.length d], .agg #[.int .i64 K], .int .i64 c] w (TakOut id xs K c w) := by
  obtain ⟨w0, hw0, r0, b0, b2, hsz, hb⟩ := boxTk id A xs.length d K w
  have J := Lib.hid (fun w2 (h : Below w.heap.size w w2) => rCur_any id A d xs K w2 (hf.below h (Nat.le_refl _)) hn hs)
  have HB := Lib.hid hb
  have RU := Lib.hid r0
  have RK := Lib.hid b0
  have RZ := Lib.hid b2
  have LZ : Hid (w.heap.size + 1 ≤ w.heap.size + 2) := Lib.hid (by omega)
  have x0 := r0.c0
  have x1 := r0.c1
  have x2 := b0.cell
  clear r0 b0 b2 hsz hb
  have HL := Lib.hid (takE_no (c := c) h1)
  obtain ⟨n1, n2⟩ := ne_b h1
  clear h1
  unfold TakOut
  clear hf hs
  generalize takE id xs K c = res at *
  generalize curE id xs K = r2 at *
  generalize xs.length = n at *
  go_enter Try.func28, Try.ntmps28
  go_wp2_with fail
  clear x0 x1 x2
  refine (J.out _ HB.out).mono ?_
  rintro e w1 ⟨rfl, hb⟩
  have HB1 := Lib.hid (eb_of HB.out hb (by first | exact Nat.le_refl _ | exact HB.out.size))
  have RU_1 := Lib.hid (Row2.below RU.out hb (Nat.le_refl _))
  have RK_1 := Lib.hid (box_below RK.out hb (Nat.le_refl _))
  have RZ_1 := Lib.hid (box_below RZ.out hb (Nat.le_refl _))
  clear RU RK RZ
  clear hb
  have cU0 := RU_1.out.c0
  have cU1 := RU_1.out.c1
  have cK := RK_1.out.cell
  have fK := RK_1.out.frozen
  have cZ := RZ_1.out.cell
  have fZ := RZ_1.out.frozen
  have HB2 := Lib.hid (HB1.out.setCell (p := ⟨(w.heap.size + 2), 0, none⟩) (by show w.heap.size ≤ (w.heap.size + 2); have := LZ.out; omega) (.int .i64 0))
  have RZ_2 := Lib.hid (Boxed.set (.int .i64 0) RZ_1.out)
  clear HB1 RZ_1
  go_wp2_with fail
  have z0 := RZ_2.out.cell
  refine bodyPost_ret (v := .tuple #[.slice none 0 0, .agg #[.int .i64 0], .int .i64 r2]) (by simp [results, Try.f28, go_sem, z0]) rfl ?_
  exact ⟨none, 0, by rw [HL.out]; rfl, by rw [HL.out]; exact .inl rfl, by rw [HL.out]; exact Nat.le_refl _, fun _ => rfl, HB2.out⟩
set_option maxRecDepth 100000 in
set_option maxHeartbeats 8000000 in
theorem rTake_lo (id : Int) (A : Option Addr) (d : Nat) (xs : List El.En) (K : Int) (c : Int) (w : World) (hf : EsAt w A xs) (hn : xs.length ≤ 4294967295) (hs : Sized xs) (h1 : curE id xs K = 0) (h2 : c < -5000) :
    Calls Try.prog 28 #[.agg #[.int .i64 id, .slice A xs.length d], .agg #[.int .i64 K], .int .i64 c] w (TakOut id xs K c w) := by
  obtain ⟨w0, hw0, r0, b0, b2, hsz, hb⟩ := boxTk id A xs.length d K w
  have J := Lib.hid (fun w2 (h : Below w.heap.size w w2) => rCur_any id A d xs K w2 (hf.below h (Nat.le_refl _)) hn hs)
  have HB := Lib.hid hb
  have RU := Lib.hid r0
  have RK := Lib.hid b0
  have RZ := Lib.hid b2
  have LZ : Hid (w.heap.size + 1 ≤ w.heap.size + 2) := Lib.hid (by omega)
  have x0 := r0.c0
  have x1 := r0.c1
  have x2 := b0.cell
  clear r0 b0 b2 hsz hb
  have HL := Lib.hid (takE_out h1 (.inl h2))
  rw [h1] at J
  clear h1
  unfold TakOut
  clear hf hs
  generalize takE id xs K c = res at *
  generalize curE id xs K = r2 at *
  generalize xs.length = n at *
  go_enter Try.func28, Try.ntmps28
  go_wp2_with fail
  clear x0 x1 x2
  refine (J.out _ HB.out).mono ?_
  rintro e w1 ⟨rfl, hb⟩
  have HB1 := Lib.hid (eb_of HB.out hb (by first | exact Nat.le_refl _ | exact HB.out.size))
  have RU_1 := Lib.hid (Row2.below RU.out hb (Nat.le_refl _))
  have RK_1 := Lib.hid (box_below RK.out hb (Nat.le_refl _))
  have RZ_1 := Lib.hid (box_below RZ.out hb (Nat.le_refl _))
  clear RU RK RZ
  clear hb
  have cU0 := RU_1.out.c0
  have cU1 := RU_1.out.c1
  have cK := RK_1.out.cell
  have fK := RK_1.out.frozen
  have cZ := RZ_1.out.cell
  have fZ := RZ_1.out.frozen
  have HB2 := Lib.hid (HB1.out.setCell (p := ⟨(w.heap.size + 2), 0, none⟩) (by show w.heap.size ≤ (w.heap.size + 2); have := LZ.out; omega) (.int .i64 0))
  have RZ_2 := Lib.hid (Boxed.set (.int .i64 0) RZ_1.out)
  clear HB1 RZ_1
  go_wp2_with fail
  have z0 := RZ_2.out.cell
  refine bodyPost_ret (v := .tuple #[.slice none 0 0, .agg #[.int .i64 0], .int .i64 7]) (by simp [results, Try.f28, go_sem, z0]) rfl ?_
  exact ⟨none, 0, by rw [HL.out]; rfl, by rw [HL.out]; exact .inl rfl, by rw [HL.out]; exact Nat.le_refl _, fun _ => rfl, HB2.out⟩
set_option maxRecDepth 100000 in
set_option maxHeartbeats 8000000 in
theorem rTake_hi (id : Int) (A : Option Addr) (d : Nat) (xs : List El.En) (K : Int) (c : Int) (w : World) (hf : EsAt w A xs) (hn : xs.length ≤ 4294967295) (hs : Sized xs) (h1 : curE id xs K = 0) (h2 : ¬ c < -5000) (h3 : 5000 < c) :
    Calls Try.prog 28 #[.agg #[.int .i64 id, .slice A xs.length d], .agg #[.int .i64 K], .int .i64 c] w (TakOut id xs K c w) := by
  obtain ⟨w0, hw0, r0, b0, b2, hsz, hb⟩ := boxTk id A xs.length d K w
  have J := Lib.hid (fun w2 (h : Below w.heap.size w w2) => rCur_any id A d xs K w2 (hf.below h (Nat.le_refl _)) hn hs)
  have HB := Lib.hid hb
  have RU := Lib.hid r0
  have RK := Lib.hid b0
  have RZ := Lib.hid b2
  have LZ : Hid (w.heap.size + 1 ≤ w.heap.size + 2) := Lib.hid (by omega)
  have x0 := r0.c0
  have x1 := r0.c1
  have x2 := b0.cell
  clear r0 b0 b2 hsz hb
  have HL := Lib.hid (takE_out h1 (.inr h3))
  rw [h1] at J
  have h2' : -5000 ≤ c := by omega
  clear h1
  unfold TakOut
  clear hf hs
  generalize takE id xs K c = res at *
  generalize curE id xs K = r2 at *
  generalize xs.length = n at *
  go_enter Try.func28, Try.ntmps28
  go_wp2_with fail
  clear x0 x1 x2
  refine (J.out _ HB.out).mono ?_
  rintro e w1 ⟨rfl, hb⟩
  have HB1 := Lib.hid (eb_of HB.out hb (by first | exact Nat.le_refl _ | exact HB.out.size))
  have RU_1 := Lib.hid (Row2.below RU.out hb (Nat.le_refl _))
  have RK_1 := Lib.hid (box_below RK.out hb (Nat.le_refl _))
  have RZ_1 := Lib.hid (box_below RZ.out hb (Nat.le_refl _))
  clear RU RK RZ
  clear hb
  have cU0 := RU_1.out.c0
  have cU1 := RU_1.out.c1
  have cK := RK_1.out.cell
  have fK := RK_1.out.frozen
  have cZ := RZ_1.out.cell
  have fZ := RZ_1.out.frozen
  have HB2 := Lib.hid (HB1.out.setCell (p := ⟨(w.heap.size + 2), 0, none⟩) (by show w.heap.size ≤ (w.heap.size + 2); have := LZ.out; omega) (.int .i64 0))
  have RZ_2 := Lib.hid (Boxed.set (.int .i64 0) RZ_1.out)
  clear HB1 RZ_1
  go_wp2_with fail
  have z0 := RZ_2.out.cell
  refine bodyPost_ret (v := .tuple #[.slice none 0 0, .agg #[.int .i64 0], .int .i64 7]) (by simp [results, Try.f28, go_sem, z0]) rfl ?_
  exact ⟨none, 0, by rw [HL.out]; rfl, by rw [HL.out]; exact .inl rfl, by rw [HL.out]; exact Nat.le_refl _, fun _ => rfl, HB2.out⟩
set_option maxRecDepth 100000 in
set_option maxHeartbeats 8000000 in
theorem rTake_f (id : Int) (A : Option Addr) (d : Nat) (xs : List El.En) (K : Int) (c : Int) (w : World) (hf : EsAt w A xs) (hn : xs.length ≤ 4294967295) (hs : Sized xs) (m : Nat) (hm : K = (m : Int)) (h1 : curE id xs m = 0) (h2 : ¬ c < -5000) (h3 : ¬ 5000 < c) (hc : ¬ c < 0) :
    Calls Try.prog 28 #[.agg #[.int .i64 id, .slice A xs.length d], .agg #[.int .i64 K], .int .i64 c] w (TakOut id xs K c w) := by
  obtain ⟨w0, hw0, r0, b0, b2, hsz, hb⟩ := boxTk id A xs.length d K w
  have J := Lib.hid (fun w2 (h : Below w.heap.size w w2) => rCur_any id A d xs K w2 (hf.below h (Nat.le_refl _)) hn hs)
  have HB := Lib.hid hb
  have RU := Lib.hid r0
  have RK := Lib.hid b0
  have RZ := Lib.hid b2
  have LZ : Hid (w.heap.size + 1 ≤ w.heap.size + 2) := Lib.hid (by omega)
  have x0 := r0.c0
  have x1 := r0.c1
  have x2 := b0.cell
  clear r0 b0 b2 hsz hb
  subst hm
  obtain ⟨hr, m', hm', hml'⟩ := curE_zero h1
  have hml : m ≤ xs.length := by omega
  have h5 : xs.length ≤ 5000 := (list_ok (run_list hr)).1
  clear hml' hm' m' hr
  obtain ⟨most, hmo⟩ : ∃ k : Nat, c.natAbs = k := ⟨_, rfl⟩
  have hmc : c = (most : Int) := by omega
  have hm5 : most ≤ 5000 := by omega
  rw [h1] at J
  have HE : Hid (takE id xs m c = (tkL xs m false (min most (ahN xs.length m false)), ((plcW m false (min most (ahN xs.length m false)) : Nat) : Int), 0)) := Lib.hid (by
    rw [takE_ok h1 (by omega)]
    have hd : decide (c < 0) = false := by simp; omega
    unfold tknW; rw [hd, hmo]; unfold tkL
    congr 2
    rcases Nat.le_total most (ahN xs.length m false) with h | h
    · rw [Nat.min_eq_left h]
    · rw [Nat.min_eq_right h, List.take_of_length_le (by rw [ahL_length]; exact h), List.take_of_length_le (by rw [ahL_length]; exact Nat.le_refl _)])
  have HF := Lib.hid (fun w2 (h : Below w.heap.size w w2) => hf.below h (Nat.le_refl _))
  have t1 : decide (c < -5000) = false := by simpa using h2
  have t2 : decide (5000 < c) = false := by simpa using h3
  obtain ⟨i0, hi, hz0, hz1, hz2⟩ := info_parts infoE
  unfold TakOut
  clear hf hs h1 hmo
  obtain ⟨n, hnn⟩ : ∃ n, xs.length = n := ⟨_, rfl⟩
  have HTN := Lib.hid (fun j h => tkL_next (xs := xs) (m := m) (back := false) (j := j) h)
  have HTL := Lib.hid (fun j h => tkL_len (xs := xs) (m := m) (back := false) (j := j) h)
  rw [hnn] at J HE HTN HTL hml h5 RU hw0 x1 hn
  rw [hnn]
  have HNN := Lib.hid hnn
  clear hnn
  have hN : ahN n m false = n - m := rfl
  rw [hN] at HE HTN HTL
  clear hN
  go_enter Try.func28, Try.ntmps28
  go_wp2_with fail
  clear x0 x1 x2
  refine (J.out _ HB.out).mono ?_
  rintro e w1 ⟨rfl, hb⟩
  have HB1 := Lib.hid (eb_of HB.out hb (by first | exact Nat.le_refl _ | exact HB.out.size))
  have RU_1 := Lib.hid (Row2.below RU.out hb (Nat.le_refl _))
  have RK_1 := Lib.hid (box_below RK.out hb (Nat.le_refl _))
  have RZ_1 := Lib.hid (box_below RZ.out hb (Nat.le_refl _))
  clear RU RK RZ
  clear hb
  have cU0 := RU_1.out.c0
  have cU1 := RU_1.out.c1
  have cK := RK_1.out.cell
  have fK := RK_1.out.frozen
  have cZ := RZ_1.out.cell
  have fZ := RZ_1.out.frozen
  go_wp2_with fail
  clear cU0 cU1 cK fK cZ fZ
  have HSZ : Hid (w.heap.size + 3 ≤ w1.heap.size) := Lib.hid (by have := RZ_1.out.lt; omega)
  have hc6 : -6000 ≤ c := by omega
  have hc7 : c ≤ 6000 := by omega
  have HMC := Lib.hid hmc
  have hc0 : 0 ≤ c := by omega
  clear hc hmc t1 t2 h2 h3
  go_loopw [10, 11] (fun v10 vi wr => ∃ (j p : Nat), vi = .int .i64 (j : Int) ∧ p = m + j ∧ j ≤ most ∧ j ≤ n - m ∧ wr.ownsRow (w.heap.size + 3) 34 4 v10 j (cellsE (tkL xs m false j)) ∧ Below w.heap.size w wr ∧ Row2 wr w.heap.size 24 (.int .i64 id) (.slice A n d) ∧ Boxed wr (w.heap.size + 1) 26 (.int .i64 (p : Int)) ∧ Boxed wr (w.heap.size + 2) 26 (.int .i64 0) ∧ w.heap.size + 3 ≤ wr.heap.size) (fun _ vi _ => most - (intOf vi).toNat)
  case atStart => exact ⟨0, m, rfl, by simp, Nat.zero_le _, Nat.zero_le _, (by
    have e0 : tkL xs m false 0 = [] := by unfold tkL; simp
    rw [e0]; exact World.ownsRow_nil _ _ _ _), HB1.out, RU_1.out, RK_1.out, RZ_1.out, HSZ.out⟩
  case round =>
    obtain ⟨j, p, rfl, hp, hjm, hjn, ho, hb, hu, hk, hz, hsz⟩ := hrel
    obtain ⟨v1, v2, rfl, hcap, hnil⟩ := own_cap ho
    have HO := Lib.hid ho
    have HBa := Lib.hid hb
    have RUa := Lib.hid hu
    have RKa := Lib.hid hk
    have RZa := Lib.hid hz
    have HPP := Lib.hid hp
    clear hp
    have cK := hk.cell
    have fK := hk.frozen
    have cU0 := hu.c0
    have cU1 := hu.c1
    clear ho hb hu hk hz HB1 RU_1 RK_1 RZ_1
    by_cases hgo : j < most ∧ p < n
    rotate_left
    · have hpn : p < n ∨ p = n := by have := HPP.out; omega
      have hpj : p = n → j = n - m := by have := HPP.out; omega
      by_cases hs1 : j < most
      · have a1 : (j : Int) < c := by have := HMC.out; omega
        have a2 : ¬ (p : Int) < (n : Int) := by omega
        have HJX := Lib.hid (hpj (by omega))
        clear hpn hpj hgo
        obtain ⟨wo, rfl⟩ : ∃ wo : World, wo = wr := ⟨_, rfl⟩
        go_wp2_with fail
        go_loopw [10, 12] (fun v10 vi wr => v10 = .slice v1 j v2 ∧ vi = .int .i64 0 ∧ wr = wo) (fun _ _ _ => 0)
        case atStart => exact ⟨rfl, rfl, rfl⟩
        case round =>
          obtain ⟨rfl, rfl, rfl⟩ := hrel
          have q1 : ¬ (0 : Int) < -c := by omega
          have q2 : decide ((0 : Int) < -c) = false := by rw [decide_eq_false_iff_not]; omega
          have HR := Lib.hid (rt_end (p : Int) (HTL.out j hjn) HO.out HBa.out RZa.out)
          have HEND : Hid (takE id xs m c = (tkL xs m false j, (p : Int), 0)) := Lib.hid (by
            rw [HE.out]
            have hp := HPP.out
            have e1 : min most (n - m) = j := by first | omega | (have := HJX.out; omega)
            rw [e1]
            have e2 : plcW m false j = p := by unfold plcW; simp only [Bool.false_eq_true, if_false]; omega
            rw [e2])
          have HLEN := Lib.hid (HTL.out j hjn)
          have cK := RKa.out.cell
          have cZ := RZa.out.cell
          have fZ := RZa.out.frozen
          have HCAP := Lib.hid hcap
          have HNIL := Lib.hid hnil
          have hmo : Try.prog.follows .mixedOrders = true := by kernel_rfl
          clear hcap hnil
          go_wp2_with fail
          go_region
          all_goals
            go_wp2_with fail
            obtain ⟨k1, k2, k3⟩ := HR.out
            refine bodyPost_ret (v := .tuple #[.slice v1 j v2, .agg #[.int .i64 (p : Int)], .int .i64 0]) (by simp [results, Try.f28, go_sem, k1]) rfl ?_
            exact ⟨v1, v2, by rw [HEND.out]; simp only []; rw [HLEN.out], by rw [HEND.out]; exact k2, by rw [HEND.out]; simp only []; rw [HLEN.out]; exact HCAP.out, HNIL.out, k3⟩
      · have a1 : ¬ (j : Int) < c := by have := HMC.out; omega
        clear hpn hpj hgo
        obtain ⟨wo, rfl⟩ : ∃ wo : World, wo = wr := ⟨_, rfl⟩
        go_wp2_with fail
        go_loopw [10, 12] (fun v10 vi wr => v10 = .slice v1 j v2 ∧ vi = .int .i64 0 ∧ wr = wo) (fun _ _ _ => 0)
        case atStart => exact ⟨rfl, rfl, rfl⟩
        case round =>
          obtain ⟨rfl, rfl, rfl⟩ := hrel
          have q1 : ¬ (0 : Int) < -c := by omega
          have q2 : decide ((0 : Int) < -c) = false := by rw [decide_eq_false_iff_not]; omega
          have HR := Lib.hid (rt_end (p : Int) (HTL.out j hjn) HO.out HBa.out RZa.out)
          have HEND : Hid (takE id xs m c = (tkL xs m false j, (p : Int), 0)) := Lib.hid (by
            rw [HE.out]
            have hp := HPP.out
            have e1 : min most (n - m) = j := by first | omega | (have := HJX.out; omega)
            rw [e1]
            have e2 : plcW m false j = p := by unfold plcW; simp only [Bool.false_eq_true, if_false]; omega
            rw [e2])
          have HLEN := Lib.hid (HTL.out j hjn)
          have cK := RKa.out.cell
          have cZ := RZa.out.cell
          have fZ := RZa.out.frozen
          have HCAP := Lib.hid hcap
          have HNIL := Lib.hid hnil
          have hmo : Try.prog.follows .mixedOrders = true := by kernel_rfl
          clear hcap hnil
          go_wp2_with fail
          go_region
          all_goals
            go_wp2_with fail
            obtain ⟨k1, k2, k3⟩ := HR.out
            refine bodyPost_ret (v := .tuple #[.slice v1 j v2, .agg #[.int .i64 (p : Int)], .int .i64 0]) (by simp [results, Try.f28, go_sem, k1]) rfl ?_
            exact ⟨v1, v2, by rw [HEND.out]; simp only []; rw [HLEN.out], by rw [HEND.out]; exact k2, by rw [HEND.out]; simp only []; rw [HLEN.out]; exact HCAP.out, HNIL.out, k3⟩
    obtain ⟨g1, g2⟩ := hgo
    have g1' : (j : Int) < c := by have := HMC.out; omega
    have g2' : (p : Int) < (n : Int) := by omega
    have hjN : j < n - m := by have := HPP.out; omega
    obtain ⟨ix, hix⟩ : ∃ ix, m + j = ix := ⟨_, rfl⟩
    have hxl : ix < xs.length := by rw [HNN.out]; have := HPP.out; omega
    rcases HF.out _ HBa.out with h0 | ⟨b9, o9, rfl, hbl, hcc⟩
    · rw [h0] at hxl; simp at hxl
    obtain ⟨d0, d1, d2, d3⟩ := hcc ix hxl
    obtain ⟨⟨xk, xv, xd, xq⟩, hx⟩ : ∃ y, xs[ix] = y := ⟨_, rfl⟩
    rw [hx] at d0 d1 d2 d3
    simp only at d0 d1 d2 d3
    have HTX : Hid (tkL xs m false (j + 1) = tkL xs m false j ++ [(xk, xv, xd, xq)]) := Lib.hid (by rw [HTN.out j hjN]; unfold ahX; simp only [Bool.false_eq_true, if_false]; rw [hix, entR_eq hxl, hx])
    clear hcc hx
    have hpx : ix = p := by have := HPP.out; omega
    subst hpx
    clear hix
    have HO2 := HO
    have HB2 := HBa
    have RU2 := RUa
    have RK2 := RKa
    have RZ2 := RZa
    go_wp2_with (at_builtin; refine wpList_append_own_at _ rfl (.tmp 43) (.tmp 50) 22 rfl (w.heap.size + 3) 34 i0 (.agg #[.string ⟨#[]⟩, .string ⟨#[]⟩, .bool false, .int .i64 0]) 4 48 Try.underlying22 hi hz0 hz1 hz2 rfl (by decide) _ j (cellsE (tkL xs m false j)) rfl (HO2.out.alloc _) ⟨wr.heap.size, 0, none⟩ 1 1 [.string xk, .string xv, .bool xd, .int .i64 xq] rfl rfl (new4 wr (xk, xv, xd, xq)) (by simp [Value.oneCell']) (by unfold maxLen; omega) (by omega) (by simp; omega) ?_; intro v' w1 hown' hgrow _ _; have hgr := (World.grownBy_alloc wr (.cells #[.string xk, .string xv, .bool xd, .int .i64 xq] 34) _).trans hgrow; have HRR := Lib.hid (rt_round (x := (xk, xv, xd, xq)) HO2.out HB2.out RU2.out RK2.out RZ2.out hgr hown'); have hsz1 := hgr.size; clear hown' hgrow hgr; have c1 := HRR.out.2.2.2.1.cell; have c2 := HRR.out.2.2.2.1.frozen)
    obtain ⟨k1, k2, k3, k4, k5⟩ := HRR.out
    have hs := rt_set ((ix : Int) + 1) k1 k2 k3 k4 k5
    rw [← HTX.out] at hs
    exact ⟨⟨j + 1, ix + 1, by first | rfl | go_num, by have := HPP.out; omega, by omega, by omega, hs.1, hs.2.1, hs.2.2.1, (by have := hs.2.2.2.1; push_cast; exact this), hs.2.2.2.2, by show _ ≤ (World.heap _).size; simp only [World.setCell, Array.size_modify]; omega⟩, by simp [intOf]; omega⟩
set_option maxRecDepth 100000 in
set_option maxHeartbeats 8000000 in
theorem rTake_b (id : Int) (A : Option Addr) (d : Nat) (xs : List El.En) (K : Int) (c : Int) (w : World) (hf : EsAt w A xs) (hn : xs.length ≤ 4294967295) (hs : Sized xs) (m : Nat) (hm : K = (m : Int)) (h1 : curE id xs m = 0) (h2 : ¬ c < -5000) (h3 : ¬ 5000 < c) (hc : c < 0) :
    Calls Try.prog 28 #[.agg #[.int .i64 id, .slice A xs.length d], .agg #[.int .i64 K], .int .i64 c] w (TakOut id xs K c w) := by
  obtain ⟨w0, hw0, r0, b0, b2, hsz, hb⟩ := boxTk id A xs.length d K w
  have J := Lib.hid (fun w2 (h : Below w.heap.size w w2) => rCur_any id A d xs K w2 (hf.below h (Nat.le_refl _)) hn hs)
  have HB := Lib.hid hb
  have RU := Lib.hid r0
  have RK := Lib.hid b0
  have RZ := Lib.hid b2
  have LZ : Hid (w.heap.size + 1 ≤ w.heap.size + 2) := Lib.hid (by omega)
  have x0 := r0.c0
  have x1 := r0.c1
  have x2 := b0.cell
  clear r0 b0 b2 hsz hb
  subst hm
  obtain ⟨hr, m', hm', hml'⟩ := curE_zero h1
  have hml : m ≤ xs.length := by omega
  have h5 : xs.length ≤ 5000 := (list_ok (run_list hr)).1
  clear hml' hm' m' hr
  obtain ⟨most, hmo⟩ : ∃ k : Nat, c.natAbs = k := ⟨_, rfl⟩
  have hmc : -c = (most : Int) := by omega
  have hm5 : most ≤ 5000 := by omega
  rw [h1] at J
  have HE : Hid (takE id xs m c = (tkL xs m true (min most (ahN xs.length m true)), ((plcW m true (min most (ahN xs.length m true)) : Nat) : Int), 0)) := Lib.hid (by
    rw [takE_ok h1 (by omega)]
    have hd : decide (c < 0) = true := by simp; omega
    unfold tknW; rw [hd, hmo]; unfold tkL
    congr 2
    rcases Nat.le_total most (ahN xs.length m true) with h | h
    · rw [Nat.min_eq_left h]
    · rw [Nat.min_eq_right h, List.take_of_length_le (by rw [ahL_length]; exact h), List.take_of_length_le (by rw [ahL_length]; exact Nat.le_refl _)])
  have HF := Lib.hid (fun w2 (h : Below w.heap.size w w2) => hf.below h (Nat.le_refl _))
  have t1 : decide (c < -5000) = false := by simpa using h2
  have t2 : decide (5000 < c) = false := by simpa using h3
  obtain ⟨i0, hi, hz0, hz1, hz2⟩ := info_parts infoE
  unfold TakOut
  clear hf hs h1 hmo
  obtain ⟨n, hnn⟩ : ∃ n, xs.length = n := ⟨_, rfl⟩
  have HTN := Lib.hid (fun j h => tkL_next (xs := xs) (m := m) (back := true) (j := j) h)
  have HTL := Lib.hid (fun j h => tkL_len (xs := xs) (m := m) (back := true) (j := j) h)
  rw [hnn] at J HE HTN HTL hml h5 RU hw0 x1 hn
  rw [hnn]
  have HNN := Lib.hid hnn
  clear hnn
  have hN : ahN n m true = m := rfl
  rw [hN] at HE HTN HTL
  clear hN
  go_enter Try.func28, Try.ntmps28
  go_wp2_with fail
  clear x0 x1 x2
  refine (J.out _ HB.out).mono ?_
  rintro e w1 ⟨rfl, hb⟩
  have HB1 := Lib.hid (eb_of HB.out hb (by first | exact Nat.le_refl _ | exact HB.out.size))
  have RU_1 := Lib.hid (Row2.below RU.out hb (Nat.le_refl _))
  have RK_1 := Lib.hid (box_below RK.out hb (Nat.le_refl _))
  have RZ_1 := Lib.hid (box_below RZ.out hb (Nat.le_refl _))
  clear RU RK RZ
  clear hb
  have cU0 := RU_1.out.c0
  have cU1 := RU_1.out.c1
  have cK := RK_1.out.cell
  have fK := RK_1.out.frozen
  have cZ := RZ_1.out.cell
  have fZ := RZ_1.out.frozen
  go_wp2_with fail
  clear cU0 cU1 cK fK cZ fZ
  have HSZ : Hid (w.heap.size + 3 ≤ w1.heap.size) := Lib.hid (by have := RZ_1.out.lt; omega)
  have hc6 : -6000 ≤ c := by omega
  have hc7 : c ≤ 6000 := by omega
  have HMC := Lib.hid hmc
  have q1 : ¬ (0 : Int) < c := by omega
  have q2 : decide ((0 : Int) < c) = false := by rw [decide_eq_false_iff_not]; omega
  clear hc hmc t1 t2 h2 h3
  go_loopw [10, 11] (fun v10 vi wr => v10 = .slice none 0 0 ∧ vi = .int .i64 0 ∧ wr = w1) (fun _ _ _ => 0)
  case atStart => exact ⟨rfl, rfl, rfl⟩
  case round =>
    obtain ⟨rfl, rfl, rfl⟩ := hrel
    go_wp2_with fail
    go_loopw [10, 12] (fun v10 vi wr => ∃ (j p : Nat), vi = .int .i64 (j : Int) ∧ p = m - j ∧ j ≤ most ∧ j ≤ m ∧ wr.ownsRow (w.heap.size + 3) 34 4 v10 j (cellsE (tkL xs m true j)) ∧ Below w.heap.size w wr ∧ Row2 wr w.heap.size 24 (.int .i64 id) (.slice A n d) ∧ Boxed wr (w.heap.size + 1) 26 (.int .i64 (p : Int)) ∧ Boxed wr (w.heap.size + 2) 26 (.int .i64 0) ∧ w.heap.size + 3 ≤ wr.heap.size) (fun _ vi _ => most - (intOf vi).toNat)
    case atStart => exact ⟨0, m, rfl, by simp, Nat.zero_le _, Nat.zero_le _, (by
      have e0 : tkL xs m true 0 = [] := by unfold tkL; simp
      rw [e0]; exact World.ownsRow_nil _ _ _ _), HB1.out, RU_1.out, RK_1.out, RZ_1.out, HSZ.out⟩
    case round =>
      obtain ⟨j, p, rfl, hp, hjm, hjn, ho, hb, hu, hk, hz, hsz⟩ := hrel
      obtain ⟨v1, v2, rfl, hcap, hnil⟩ := own_cap ho
      have HO := Lib.hid ho
      have HBa := Lib.hid hb
      have RUa := Lib.hid hu
      have RKa := Lib.hid hk
      have RZa := Lib.hid hz
      have HPP := Lib.hid hp
      clear hp
      have cK := hk.cell
      have fK := hk.frozen
      have cU0 := hu.c0
      have cU1 := hu.c1
      by_cases hgo : j < most ∧ 0 < p
      rotate_left
      · have hpj : p = 0 → j = m := by have := HPP.out; omega
        clear ho hb hu hk hz
        by_cases hs1 : j < most
        · have a1 : (j : Int) < -c := by have := HMC.out; omega
          have a2 : ¬ (0 : Int) < (p : Int) := by omega
          have HJX := Lib.hid (hpj (by omega))
          clear hpj hgo
          have HR := Lib.hid (rt_end (p : Int) (HTL.out j hjn) HO.out HBa.out RZa.out)
          have HEND : Hid (takE id xs m c = (tkL xs m true j, (p : Int), 0)) := Lib.hid (by
            rw [HE.out]
            have hp := HPP.out
            have e1 : min most (m) = j := by first | omega | (have := HJX.out; omega)
            rw [e1]
            have e2 : plcW m true j = p := by unfold plcW; simp only [if_true]; omega
            rw [e2])
          have HLEN := Lib.hid (HTL.out j hjn)
          have cK := RKa.out.cell
          have cZ := RZa.out.cell
          have fZ := RZa.out.frozen
          have HCAP := Lib.hid hcap
          have HNIL := Lib.hid hnil
          have hmo : Try.prog.follows .mixedOrders = true := by kernel_rfl
          clear hcap hnil
          go_wp2_with fail
          go_region
          all_goals
            go_wp2_with fail
            obtain ⟨k1, k2, k3⟩ := HR.out
            refine bodyPost_ret (v := .tuple #[.slice v1 j v2, .agg #[.int .i64 (p : Int)], .int .i64 0]) (by simp [results, Try.f28, go_sem, k1]) rfl ?_
            exact ⟨v1, v2, by rw [HEND.out]; simp only []; rw [HLEN.out], by rw [HEND.out]; exact k2, by rw [HEND.out]; simp only []; rw [HLEN.out]; exact HCAP.out, HNIL.out, k3⟩
        · have a1 : ¬ (j : Int) < -c := by have := HMC.out; omega
          clear hpj hgo
          have HR := Lib.hid (rt_end (p : Int) (HTL.out j hjn) HO.out HBa.out RZa.out)
          have HEND : Hid (takE id xs m c = (tkL xs m true j, (p : Int), 0)) := Lib.hid (by
            rw [HE.out]
            have hp := HPP.out
            have e1 : min most (m) = j := by first | omega | (have := HJX.out; omega)
            rw [e1]
            have e2 : plcW m true j = p := by unfold plcW; simp only [if_true]; omega
            rw [e2])
          have HLEN := Lib.hid (HTL.out j hjn)
          have cK := RKa.out.cell
          have cZ := RZa.out.cell
          have fZ := RZa.out.frozen
          have HCAP := Lib.hid hcap
          have HNIL := Lib.hid hnil
          have hmo : Try.prog.follows .mixedOrders = true := by kernel_rfl
          clear hcap hnil
          go_wp2_with fail
          go_region
          all_goals
            go_wp2_with fail
            obtain ⟨k1, k2, k3⟩ := HR.out
            refine bodyPost_ret (v := .tuple #[.slice v1 j v2, .agg #[.int .i64 (p : Int)], .int .i64 0]) (by simp [results, Try.f28, go_sem, k1]) rfl ?_
            exact ⟨v1, v2, by rw [HEND.out]; simp only []; rw [HLEN.out], by rw [HEND.out]; exact k2, by rw [HEND.out]; simp only []; rw [HLEN.out]; exact HCAP.out, HNIL.out, k3⟩
      obtain ⟨g1, g2⟩ := hgo
      have g1' : (j : Int) < -c := by have := HMC.out; omega
      have g2' : (0 : Int) < (p : Int) := by omega
      have hp0 := HPP.out
      have hjN : j < m := by omega
      obtain ⟨wo, hwo⟩ : ∃ wo, wr.setCell ⟨w.heap.size + 1, 0, none⟩ (.int .i64 ((m - 1 - j : Nat) : Int)) = wo := ⟨_, rfl⟩
      have hS := rt_set ((m - 1 - j : Nat) : Int) ho hb hu hk hz
      have hszs : w.heap.size + 3 ≤ wo.heap.size := by rw [← hwo]; simp only [World.setCell, Array.size_modify]; exact hsz
      rw [hwo] at hS
      obtain ⟨s1, s2, s3, s4, s5⟩ := hS
      have HO2 := Lib.hid s1
      have HB2 := Lib.hid s2
      have RU2 := Lib.hid s3
      have RK2 := Lib.hid s4
      have RZ2 := Lib.hid s5
      have eU1 := s3.c1
      have eK := s4.cell
      clear s1 s2 s3 s4 s5 ho hb hu hk hz
      obtain ⟨ix, hix⟩ : ∃ ix, m - 1 - j = ix := ⟨_, rfl⟩
      have hxl : ix < xs.length := by rw [HNN.out]; omega
      rcases HF.out _ HB2.out with h0 | ⟨b9, o9, rfl, hbl, hcc⟩
      · rw [h0] at hxl; simp at hxl
      obtain ⟨d0, d1, d2, d3⟩ := hcc ix hxl
      obtain ⟨⟨xk, xv, xd, xq⟩, hx⟩ : ∃ y, xs[ix] = y := ⟨_, rfl⟩
      rw [hx] at d0 d1 d2 d3
      simp only at d0 d1 d2 d3
      have HTX : Hid (tkL xs m true (j + 1) = tkL xs m true j ++ [(xk, xv, xd, xq)]) := Lib.hid (by rw [HTN.out j hjN]; unfold ahX; simp only [if_true]; rw [hix, entR_eq hxl, hx])
      clear hcc hx
      rw [hix] at RK2 eK hwo
      have e1 : (p : Int) - 1 = (ix : Int) := by omega
      have e2 : ix < n := by rw [← HNN.out]; exact hxl
      have HIX := Lib.hid hix
      have HP0 := Lib.hid hp0
      clear hix hp0 hxl
      go_wp2_with (at_builtin; refine wpList_append_own_at _ rfl (.tmp 71) (.tmp 78) 22 rfl (w.heap.size + 3) 34 i0 (.agg #[.string ⟨#[]⟩, .string ⟨#[]⟩, .bool false, .int .i64 0]) 4 48 Try.underlying22 hi hz0 hz1 hz2 rfl (by decide) _ j (cellsE (tkL xs m true j)) rfl (HO2.out.alloc _) ⟨wo.heap.size, 0, none⟩ 1 1 [.string xk, .string xv, .bool xd, .int .i64 xq] rfl rfl (new4 wo (xk, xv, xd, xq)) (by simp [Value.oneCell']) (by unfold maxLen; omega) (by omega) (by simp; omega) ?_; intro v' w1 hown' hgrow _ _; have hgr := (World.grownBy_alloc wo (.cells #[.string xk, .string xv, .bool xd, .int .i64 xq] 34) _).trans hgrow; have HRR := Lib.hid (rt_round (x := (xk, xv, xd, xq)) HO2.out HB2.out RU2.out RK2.out RZ2.out hgr hown'); have hsz1 := hgr.size; clear hown' hgrow hgr; have c1 := HRR.out.2.2.2.1.cell; have c2 := HRR.out.2.2.2.1.frozen)
      obtain ⟨k1, k2, k3, k4, k5⟩ := HRR.out
      rw [← HTX.out] at k1
      exact ⟨⟨j + 1, ix, by first | rfl | go_num, by have := HIX.out; have := HP0.out; omega, by omega, by omega, k1, k2, k3, k4, k5, by omega⟩, by simp [intOf]; omega⟩
end Go.Proofs.Yticdechdgpfdfaa.KK
