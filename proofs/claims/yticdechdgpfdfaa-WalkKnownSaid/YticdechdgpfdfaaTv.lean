/-
  WalkKnown: the walk.
-/
import Derived.Test.YticdechdgpfdfaaTu
import Derived.Test.YticdechdgpfdfaaTj
import Derived.Test.YticdechdgpfdfaaTo
import Derived.Deep.RegionHeld3
namespace Go.Proofs.Yticdechdgpfdfaa.KK
open Go.ChangeShapes Go.WideShapes Go.ChangeAt Go.RowKit Go.Proofs Go.Sort

theorem rxSkip (k : Int) (dead back : Bool) (y : El.En) (p r : Int) (a : Addr) (w : World) (hf : EsAt w (some a) rxL) (h : goE 7 rxL k back (fun x => x.2.2.1 == dead) = (y, p, r)) :
    Calls Try.prog 30 #[.agg #[.int .i64 7, .slice (some a) 3 3], .agg #[.int .i64 k], .bool dead, .bool back] w fun e w' => e = .returned (.tuple #[.agg #[.string y.1, .string y.2.1, .bool y.2.2.1, .int .i64 y.2.2.2], .agg #[.int .i64 p], .int .i64 r]) ∧ Below w.heap.size w w' :=
  (pSkip9_any 7 (some a) 3 rxL k dead back w hf (by decide) rxL_sized).mono fun e w' ⟨he, hb⟩ => ⟨by rw [he, h]; rfl, hb⟩
theorem rxClip (k : Int) (lo hi : ByteArray) (b : Bool) (p r : Int) (a : Addr) (w : World) (hf : EsAt w (some a) rxL) (hlo : lo.size ≤ 9223372036854775807) (hhi : hi.size ≤ 9223372036854775807) (h : clpE 7 rxL k lo hi b = (p, r)) :
    Calls Try.prog 25 #[.agg #[.int .i64 7, .slice (some a) 3 3], .agg #[.int .i64 k], .agg #[.string lo, .string hi, .bool b]] w fun e w' => e = .returned (.tuple #[.agg #[.int .i64 p], .int .i64 r]) ∧ Below w.heap.size w w' :=
  (pClip9_any 7 (some a) 3 rxL k lo hi b w hf (by decide) rxL_sized (by decide) (fun e => by cases e) hlo hhi).mono fun e w' ⟨he, hb⟩ => ⟨by rw [he, h], hb⟩
theorem abv_c4 {w1 : World} {b o : Nat} {v : Value} (hb : b < w1.heap.size) (h : w1.cell? ⟨b, o, none⟩ = some v) : ∀ p : Abv w1, p.world.cell? ⟨b, o, none⟩ = some v := abv_cell hb h
theorem es_lt {w : World} {b o : Nat} {xs : List El.En} (h : EsAt w (some ⟨b, o, none⟩) xs) (hne : xs ≠ []) : b < w.heap.size := by
  rcases h with h | ⟨b1, o1, e, hb, _⟩
  · exact absurd h hne
  · cases e; exact hb
theorem es_some {w : World} {A : Option Addr} {xs : List El.En} (h : EsAt w A xs) (hne : xs ≠ []) : ∃ b o, A = some ⟨b, o, none⟩ := by
  rcases h with h | ⟨b1, o1, e, _⟩
  · exact absurd h hne
  · exact ⟨b1, o1, e⟩
theorem es_off {w : World} {b o g o' : Nat} {xs : List El.En} {u : Value} (h : EsAt w (some ⟨b, o, none⟩) xs) (hne : b ≠ g) : EsAt (w.setCell ⟨g, o', none⟩ u) (some ⟨b, o, none⟩) xs := by
  rcases h with h | ⟨b1, o1, e, hb, hc⟩
  · exact .inl h
  · cases e
    have q : ∀ (i : Nat) (v : Value), w.cell? ⟨b, i, none⟩ = some v → (w.setCell ⟨g, o', none⟩ u).cell? ⟨b, i, none⟩ = some v := fun i v hv => by
      rw [World.cell?_setCell_other _ _ _ _ (by intro g'; simp only [Addr.mk.injEq] at g'; exact hne g'.1.symm)]; exact hv
    exact .inr ⟨b, o, rfl, by simpa [World.setCell] using hb, fun i hi => ⟨q _ _ (hc i hi).1, q _ _ (hc i hi).2.1, q _ _ (hc i hi).2.2.1, q _ _ (hc i hi).2.2.2⟩⟩
/-- entries do not lie where a number lies -/
theorem es_ne1 {w : World} {b o g : Nat} {xs : List El.En} {t : TypeId} {n : Int} (h : EsAt w (some ⟨b, o, none⟩) xs) (hne : xs ≠ []) (hb : Boxed w g t (.int .i64 n)) : b ≠ g := by
  rintro rfl
  rcases h with h | ⟨b1, o1, e, _, hc⟩
  · exact absurd h hne
  · cases e
    have h0 := (hc 0 (List.length_pos_iff.2 hne)).1
    have hq : w.heap[b]? = some (.cells #[.int .i64 n] t (0, 0)) := hb
    simp only [Nat.zero_mul, Nat.add_zero, World.cell?, hq] at h0
    cases o with
    | zero => simp at h0
    | succ k => simp at h0
/-- nor where another entry lies -/
theorem es_ne4 {w : World} {b o g : Nat} {xs : List El.En} {t : TypeId} {v0 v1 v2 v3 : Value} (h : EsAt w (some ⟨b, o, none⟩) xs) (hne : xs ≠ []) (hb : Row4 w g t v0 v1 v2 v3) (hx : xs.length = 2 ∨ ∀ h0 : 0 < xs.length, v0 ≠ .string xs[0].1) : b ≠ g := by
  rintro rfl
  rcases h with h | ⟨b1, o1, e, _, hc⟩
  · exact absurd h hne
  · cases e
    have hq : w.heap[b]? = some (.cells #[v0, v1, v2, v3] t (0, 0)) := hb
    have hl := List.length_pos_iff.2 hne
    have h3 := (hc 0 hl).2.2.2
    have h0 := (hc 0 hl).1
    simp only [Nat.zero_mul, Nat.add_zero, World.cell?, hq] at h0 h3
    have ho : o = 0 := by
      cases o with
      | zero => rfl
      | succ k => simp [Nat.add_assoc] at h3
    subst ho
    rcases hx with hx | hx
    · have h4 := (hc 1 (by omega)).1
      simp [World.cell?, hq] at h4
    · simp at h0
      exact hx hl h0
/-- parts of the example's entries -/
theorem rx_head {w : World} {bl ol : Nat} (h : EsAt w (some ⟨bl, ol, none⟩) rxL) : EsAt w (some ⟨bl, ol, none⟩) [rx1, rx2] ∧ EsAt w (some ⟨bl, ol + 8, none⟩) [rx3] := by
  rcases h with h0 | ⟨b, o, e, hb, hc⟩
  · exact absurd h0 (by decide)
  · cases e
    refine ⟨.inr ⟨bl, ol, rfl, hb, fun i hi => ?_⟩, .inr ⟨bl, ol + 8, rfl, hb, fun i hi => ?_⟩⟩
    · have h1 : i = 0 ∨ i = 1 := by simp at hi; omega
      rcases h1 with rfl | rfl
      · exact hc 0 (by decide)
      · exact hc 1 (by decide)
    · obtain rfl : i = 0 := by simp at hi; omega
      have := hc 2 (by decide)
      simp only [rxL, List.getElem_cons_zero, List.getElem_cons_succ, Nat.add_assoc, Nat.reduceMul, Nat.reduceAdd, Nat.zero_mul, Nat.add_zero] at this ⊢
      exact this
set_option maxRecDepth 100000 in
set_option maxHeartbeats 16000000 in
theorem WalkKnown_any (w : World) : Calls Try.prog 10 #[] w fun e w' => e = .returned (.bool true) ∧ Below w.heap.size w w' := by
  have JS1 := Lib.hid (fun a w hf => rxSeek ⟨#[99]⟩ false 1 0 a w hf (by decide) (by decide +kernel))
  have JS2 := Lib.hid (fun a w hf => rxSeek ⟨#[100]⟩ false 2 0 a w hf (by decide) (by decide +kernel))
  have JN := Lib.hid (fun a w hf => rxNext 3 El.none 3 12 a w hf (by decide +kernel))
  have JP := Lib.hid (fun a w hf => rxPrev 1 rx1 0 0 a w hf (by decide +kernel))
  have JT1 := Lib.hid (fun a w hf => rxTake 0 2 [rx1, rx2] 2 0 a w hf (by decide +kernel))
  have JT2 := Lib.hid (fun a w hf => rxTake 2 9 [rx3] 3 0 a w hf (by decide +kernel))
  have JK1 := Lib.hid (fun a w hf => rxSkip 0 true false rx2 2 0 a w hf (by decide +kernel))
  have JK2 := Lib.hid (fun a w hf => rxSkip 2 false true rx1 0 0 a w hf (by decide +kernel))
  have JC1 := Lib.hid (fun a w hf => rxClip 0 ⟨#[98]⟩ ⟨#[100]⟩ true 1 0 a w hf (by decide) (by decide) (by decide +kernel))
  have JC2 := Lib.hid (fun a w hf => rxClip 3 ⟨#[98]⟩ ⟨#[100]⟩ true 2 0 a w hf (by decide) (by decide) (by decide +kernel))
  simp only [rx1, rx2, El.none] at JN JP JK1 JK2
  have hfield := field_run
  have HB := Lib.hid (Below.refl w.heap.size w)
  go_enter Try.func10, Try.ntmps10
  go_wp2_with fail
  refine (rx9_any _).mono ?_
  rintro e w1 ⟨a0, rfl, hes, hb⟩
  have HB1 := Lib.hid (eb_of HB.out hb (by first | exact Nat.le_refl _ | exact HB.out.size))
  clear hb
  have KE0 := Lib.hid hes
  clear hes
  rcases KE0.out with h0 | ⟨bl, ol, ha0, hbl0, hc0⟩
  · exact absurd h0 (by decide)
  obtain rfl : a0 = ⟨bl, ol, none⟩ := Option.some.inj ha0
  clear hc0 ha0 hbl0
  go_wp2_with fail
  refine (rx9_any _).mono ?_
  rintro e w2 ⟨a1, rfl, hes, hb⟩
  have HB2 := Lib.hid (eb_of HB1.out hb (by first | exact Nat.le_refl _ | exact HB1.out.size))
  have KL0_2 := Lib.hid (EsAt.below KE0.out hb (Nat.le_refl _))
  clear HB1 KE0
  clear hb
  have KE1 := Lib.hid hes
  clear hes
  go_wp2_with fail
  refine (JS1.out _ _ KE1.out).mono ?_
  rintro e w3 ⟨rfl, hb⟩
  have HB3 := Lib.hid (eb_of HB2.out hb (by first | exact Nat.le_refl _ | exact HB2.out.size))
  have KL0_3 := Lib.hid (EsAt.below KL0_2.out hb (Nat.le_refl _))
  have KL1_3 := Lib.hid (EsAt.below KE1.out hb (Nat.le_refl _))
  clear HB2 KL0_2 KE1
  clear hb
  have LA : Hid (w.heap.size ≤ w3.heap.size) := Lib.hid (by have := HB3.out.size; (try simp only [World.size_alloc] at this); omega)
  have NL0A : Hid (bl ≠ w3.heap.size) := Lib.hid (by have := es_lt KL0_3.out (by decide); (try simp only [World.size_alloc] at this); omega)
  have hb := alloc_below w3 (.cells #[.int .i64 1] 26)
  have HB4 := Lib.hid (eb_of HB3.out hb (by first | exact Nat.le_refl _ | exact HB3.out.size))
  have KL0_4 := Lib.hid (EsAt.below KL0_3.out hb (Nat.le_refl _))
  clear HB3 KL0_3
  clear hb
  have RA_4 : Hid (Boxed (w3.alloc (.cells #[.int .i64 1] 26)) (w3.heap.size) 26 (.int .i64 1)) := Lib.hid (heap_alloc_new _ _)
  go_wp2_with fail
  refine (rx9_any _).mono ?_
  rintro e w5 ⟨a2, rfl, hes, hb⟩
  have HB5 := Lib.hid (eb_of HB4.out hb (by first | exact Nat.le_refl _ | exact HB4.out.size))
  have RA_5 := Lib.hid (box_below RA_4.out hb (Nat.le_refl _))
  have KL0_5 := Lib.hid (EsAt.below KL0_4.out hb (Nat.le_refl _))
  clear HB4 RA_4 KL0_4
  clear hb
  have KE2 := Lib.hid hes
  clear hes
  go_wp2_with fail
  refine (JS2.out _ _ KE2.out).mono ?_
  rintro e w6 ⟨rfl, hb⟩
  have HB6 := Lib.hid (eb_of HB5.out hb (by first | exact Nat.le_refl _ | exact HB5.out.size))
  have RA_6 := Lib.hid (box_below RA_5.out hb (Nat.le_refl _))
  have KL0_6 := Lib.hid (EsAt.below KL0_5.out hb (Nat.le_refl _))
  have KL2_6 := Lib.hid (EsAt.below KE2.out hb (Nat.le_refl _))
  clear HB5 RA_5 KL0_5 KE2
  clear hb
  have LB : Hid (w.heap.size ≤ w6.heap.size) := Lib.hid (by have := HB6.out.size; (try simp only [World.size_alloc] at this); omega)
  have NL0B : Hid (bl ≠ w6.heap.size) := Lib.hid (by have := es_lt KL0_6.out (by decide); (try simp only [World.size_alloc] at this); omega)
  have DAB : Hid (w3.heap.size < w6.heap.size) := Lib.hid (by have := RA_6.out.lt; (try simp only [World.size_alloc] at this); omega)
  have hb := alloc_below w6 (.cells #[.int .i64 2] 26)
  have HB7 := Lib.hid (eb_of HB6.out hb (by first | exact Nat.le_refl _ | exact HB6.out.size))
  have RA_7 := Lib.hid (box_below RA_6.out hb (Nat.le_refl _))
  have KL0_7 := Lib.hid (EsAt.below KL0_6.out hb (Nat.le_refl _))
  clear HB6 RA_6 KL0_6
  clear hb
  have RB_7 : Hid (Boxed (w6.alloc (.cells #[.int .i64 2] 26)) (w6.heap.size) 26 (.int .i64 2)) := Lib.hid (heap_alloc_new _ _)
  go_wp2_with fail
  refine (rx9_any _).mono ?_
  rintro e w8 ⟨a3, rfl, hes, hb⟩
  have HB8 := Lib.hid (eb_of HB7.out hb (by first | exact Nat.le_refl _ | exact HB7.out.size))
  have RA_8 := Lib.hid (box_below RA_7.out hb (Nat.le_refl _))
  have RB_8 := Lib.hid (box_below RB_7.out hb (Nat.le_refl _))
  have KL0_8 := Lib.hid (EsAt.below KL0_7.out hb (Nat.le_refl _))
  clear HB7 RA_7 RB_7 KL0_7
  clear hb
  have KE3 := Lib.hid hes
  clear hes
  go_wp2_with fail
  refine (at_any _ _).mono ?_
  rintro e w9 ⟨rfl, hb⟩
  have HB9 := Lib.hid (eb_of HB8.out hb (by first | exact Nat.le_refl _ | exact HB8.out.size))
  have RA_9 := Lib.hid (box_below RA_8.out hb (Nat.le_refl _))
  have RB_9 := Lib.hid (box_below RB_8.out hb (Nat.le_refl _))
  have KL0_9 := Lib.hid (EsAt.below KL0_8.out hb (Nat.le_refl _))
  have KL3_9 := Lib.hid (EsAt.below KE3.out hb (Nat.le_refl _))
  clear HB8 RA_8 RB_8 KL0_8 KE3
  clear hb
  go_wp2_with fail
  refine (JN.out _ _ KL3_9.out).mono ?_
  rintro e w10 ⟨rfl, hb⟩
  have HB10 := Lib.hid (eb_of HB9.out hb (by first | exact Nat.le_refl _ | exact HB9.out.size))
  have RA_10 := Lib.hid (box_below RA_9.out hb (Nat.le_refl _))
  have RB_10 := Lib.hid (box_below RB_9.out hb (Nat.le_refl _))
  have KL0_10 := Lib.hid (EsAt.below KL0_9.out hb (Nat.le_refl _))
  have KL3_10 := Lib.hid (EsAt.below KL3_9.out hb (Nat.le_refl _))
  clear HB9 RA_9 RB_9 KL0_9 KL3_9
  clear hb
  have LX : Hid (w.heap.size ≤ w10.heap.size) := Lib.hid (by have := HB10.out.size; (try simp only [World.size_alloc] at this); omega)
  have NL0X : Hid (bl ≠ w10.heap.size) := Lib.hid (by have := es_lt KL0_10.out (by decide); (try simp only [World.size_alloc] at this); omega)
  have DAX : Hid (w3.heap.size < w10.heap.size) := Lib.hid (by have := RA_10.out.lt; (try simp only [World.size_alloc] at this); omega)
  have DBX : Hid (w6.heap.size < w10.heap.size) := Lib.hid (by have := RB_10.out.lt; (try simp only [World.size_alloc] at this); omega)
  have hb := alloc_below w10 (.cells #[.string ⟨#[]⟩, .string ⟨#[]⟩, .bool false, .int .i64 0] 34)
  have HB11 := Lib.hid (eb_of HB10.out hb (by first | exact Nat.le_refl _ | exact HB10.out.size))
  have RA_11 := Lib.hid (box_below RA_10.out hb (Nat.le_refl _))
  have RB_11 := Lib.hid (box_below RB_10.out hb (Nat.le_refl _))
  have KL0_11 := Lib.hid (EsAt.below KL0_10.out hb (Nat.le_refl _))
  clear HB10 RA_10 RB_10 KL0_10
  clear hb
  have RX_11 : Hid (Row4 (w10.alloc (.cells #[.string ⟨#[]⟩, .string ⟨#[]⟩, .bool false, .int .i64 0] 34)) (w10.heap.size) 34 (.string ⟨#[]⟩) (.string ⟨#[]⟩) (.bool false) (.int .i64 0)) := Lib.hid (heap_alloc_new _ _)
  have LC : Hid (w.heap.size ≤ w10.heap.size + 1) := Lib.hid (by have := HB11.out.size; (try simp only [World.size_alloc] at this); omega)
  have NL0C : Hid (bl ≠ w10.heap.size + 1) := Lib.hid (by have := es_lt KL0_11.out (by decide); (try simp only [World.size_alloc] at this); omega)
  have DAC : Hid (w3.heap.size < w10.heap.size + 1) := Lib.hid (by have := RA_11.out.lt; (try simp only [World.size_alloc] at this); omega)
  have DBC : Hid (w6.heap.size < w10.heap.size + 1) := Lib.hid (by have := RB_11.out.lt; (try simp only [World.size_alloc] at this); omega)
  have DXC : Hid (w10.heap.size < w10.heap.size + 1) := Lib.hid (by have := RX_11.out.lt; (try simp only [World.size_alloc] at this); omega)
  have hb := alloc_below (w10.alloc (.cells #[.string ⟨#[]⟩, .string ⟨#[]⟩, .bool false, .int .i64 0] 34)) (.cells #[.int .i64 3] 26)
  have HB12 := Lib.hid (eb_of HB11.out hb (by first | exact Nat.le_refl _ | exact HB11.out.size))
  have RA_12 := Lib.hid (box_below RA_11.out hb (Nat.le_refl _))
  have RB_12 := Lib.hid (box_below RB_11.out hb (Nat.le_refl _))
  have RX_12 := Lib.hid (Row4.below RX_11.out hb (Nat.le_refl _))
  have KL0_12 := Lib.hid (EsAt.below KL0_11.out hb (Nat.le_refl _))
  clear HB11 RA_11 RB_11 RX_11 KL0_11
  clear hb
  have RC_12 : Hid (Boxed ((w10.alloc (.cells #[.string ⟨#[]⟩, .string ⟨#[]⟩, .bool false, .int .i64 0] 34)).alloc (.cells #[.int .i64 3] 26)) (w10.heap.size + 1) 26 (.int .i64 3)) := Lib.hid (by
    have hq := heap_alloc_new (w10.alloc (.cells #[.string ⟨#[]⟩, .string ⟨#[]⟩, .bool false, .int .i64 0] 34)) (.cells #[.int .i64 3] 26)
    simp only [World.size_alloc] at hq
    exact hq)
  go_wp2_with fail
  refine (rx9_any _).mono ?_
  rintro e w13 ⟨a4, rfl, hes, hb⟩
  have HB13 := Lib.hid (eb_of HB12.out hb (by first | exact Nat.le_refl _ | exact HB12.out.size))
  have RA_13 := Lib.hid (box_below RA_12.out hb (Nat.le_refl _))
  have RB_13 := Lib.hid (box_below RB_12.out hb (Nat.le_refl _))
  have RX_13 := Lib.hid (Row4.below RX_12.out hb (Nat.le_refl _))
  have RC_13 := Lib.hid (box_below RC_12.out hb (Nat.le_refl _))
  have KL0_13 := Lib.hid (EsAt.below KL0_12.out hb (Nat.le_refl _))
  clear HB12 RA_12 RB_12 RX_12 RC_12 KL0_12
  clear hb
  have KE4 := Lib.hid hes
  clear hes
  go_wp2_with fail
  refine (at_any _ _).mono ?_
  rintro e w14 ⟨rfl, hb⟩
  have HB14 := Lib.hid (eb_of HB13.out hb (by first | exact Nat.le_refl _ | exact HB13.out.size))
  have RA_14 := Lib.hid (box_below RA_13.out hb (Nat.le_refl _))
  have RB_14 := Lib.hid (box_below RB_13.out hb (Nat.le_refl _))
  have RX_14 := Lib.hid (Row4.below RX_13.out hb (Nat.le_refl _))
  have RC_14 := Lib.hid (box_below RC_13.out hb (Nat.le_refl _))
  have KL0_14 := Lib.hid (EsAt.below KL0_13.out hb (Nat.le_refl _))
  have KL4_14 := Lib.hid (EsAt.below KE4.out hb (Nat.le_refl _))
  clear HB13 RA_13 RB_13 RX_13 RC_13 KL0_13 KE4
  clear hb
  go_wp2_with fail
  refine (JP.out _ _ KL4_14.out).mono ?_
  rintro e w15 ⟨rfl, hb⟩
  have HB15 := Lib.hid (eb_of HB14.out hb (by first | exact Nat.le_refl _ | exact HB14.out.size))
  have RA_15 := Lib.hid (box_below RA_14.out hb (Nat.le_refl _))
  have RB_15 := Lib.hid (box_below RB_14.out hb (Nat.le_refl _))
  have RX_15 := Lib.hid (Row4.below RX_14.out hb (Nat.le_refl _))
  have RC_15 := Lib.hid (box_below RC_14.out hb (Nat.le_refl _))
  have KL0_15 := Lib.hid (EsAt.below KL0_14.out hb (Nat.le_refl _))
  have KL4_15 := Lib.hid (EsAt.below KL4_14.out hb (Nat.le_refl _))
  clear HB14 RA_14 RB_14 RX_14 RC_14 KL0_14 KL4_14
  clear hb
  have LP : Hid (w.heap.size ≤ w15.heap.size) := Lib.hid (by have := HB15.out.size; (try simp only [World.size_alloc] at this); omega)
  have NL0P : Hid (bl ≠ w15.heap.size) := Lib.hid (by have := es_lt KL0_15.out (by decide); (try simp only [World.size_alloc] at this); omega)
  have DAP : Hid (w3.heap.size < w15.heap.size) := Lib.hid (by have := RA_15.out.lt; (try simp only [World.size_alloc] at this); omega)
  have DBP : Hid (w6.heap.size < w15.heap.size) := Lib.hid (by have := RB_15.out.lt; (try simp only [World.size_alloc] at this); omega)
  have DXP : Hid (w10.heap.size < w15.heap.size) := Lib.hid (by have := RX_15.out.lt; (try simp only [World.size_alloc] at this); omega)
  have DCP : Hid ((w10.heap.size + 1) < w15.heap.size) := Lib.hid (by have := RC_15.out.lt; (try simp only [World.size_alloc] at this); omega)
  have hb := alloc_below w15 (.cells #[.string ⟨#[97]⟩, .string ⟨#[49]⟩, .bool false, .int .i64 1] 34)
  have HB16 := Lib.hid (eb_of HB15.out hb (by first | exact Nat.le_refl _ | exact HB15.out.size))
  have RA_16 := Lib.hid (box_below RA_15.out hb (Nat.le_refl _))
  have RB_16 := Lib.hid (box_below RB_15.out hb (Nat.le_refl _))
  have RX_16 := Lib.hid (Row4.below RX_15.out hb (Nat.le_refl _))
  have RC_16 := Lib.hid (box_below RC_15.out hb (Nat.le_refl _))
  have KL0_16 := Lib.hid (EsAt.below KL0_15.out hb (Nat.le_refl _))
  clear HB15 RA_15 RB_15 RX_15 RC_15 KL0_15
  clear hb
  have RP_16 : Hid (Row4 (w15.alloc (.cells #[.string ⟨#[97]⟩, .string ⟨#[49]⟩, .bool false, .int .i64 1] 34)) (w15.heap.size) 34 (.string ⟨#[97]⟩) (.string ⟨#[49]⟩) (.bool false) (.int .i64 1)) := Lib.hid (heap_alloc_new _ _)
  have LD : Hid (w.heap.size ≤ w15.heap.size + 1) := Lib.hid (by have := HB16.out.size; (try simp only [World.size_alloc] at this); omega)
  have NL0D : Hid (bl ≠ w15.heap.size + 1) := Lib.hid (by have := es_lt KL0_16.out (by decide); (try simp only [World.size_alloc] at this); omega)
  have DAD : Hid (w3.heap.size < w15.heap.size + 1) := Lib.hid (by have := RA_16.out.lt; (try simp only [World.size_alloc] at this); omega)
  have DBD : Hid (w6.heap.size < w15.heap.size + 1) := Lib.hid (by have := RB_16.out.lt; (try simp only [World.size_alloc] at this); omega)
  have DXD : Hid (w10.heap.size < w15.heap.size + 1) := Lib.hid (by have := RX_16.out.lt; (try simp only [World.size_alloc] at this); omega)
  have DCD : Hid ((w10.heap.size + 1) < w15.heap.size + 1) := Lib.hid (by have := RC_16.out.lt; (try simp only [World.size_alloc] at this); omega)
  have DPD : Hid (w15.heap.size < w15.heap.size + 1) := Lib.hid (by have := RP_16.out.lt; (try simp only [World.size_alloc] at this); omega)
  have hb := alloc_below (w15.alloc (.cells #[.string ⟨#[97]⟩, .string ⟨#[49]⟩, .bool false, .int .i64 1] 34)) (.cells #[.int .i64 0] 26)
  have HB17 := Lib.hid (eb_of HB16.out hb (by first | exact Nat.le_refl _ | exact HB16.out.size))
  have RA_17 := Lib.hid (box_below RA_16.out hb (Nat.le_refl _))
  have RB_17 := Lib.hid (box_below RB_16.out hb (Nat.le_refl _))
  have RX_17 := Lib.hid (Row4.below RX_16.out hb (Nat.le_refl _))
  have RC_17 := Lib.hid (box_below RC_16.out hb (Nat.le_refl _))
  have RP_17 := Lib.hid (Row4.below RP_16.out hb (Nat.le_refl _))
  have KL0_17 := Lib.hid (EsAt.below KL0_16.out hb (Nat.le_refl _))
  clear HB16 RA_16 RB_16 RX_16 RC_16 RP_16 KL0_16
  clear hb
  have RD_17 : Hid (Boxed ((w15.alloc (.cells #[.string ⟨#[97]⟩, .string ⟨#[49]⟩, .bool false, .int .i64 1] 34)).alloc (.cells #[.int .i64 0] 26)) (w15.heap.size + 1) 26 (.int .i64 0)) := Lib.hid (by
    have hq := heap_alloc_new (w15.alloc (.cells #[.string ⟨#[97]⟩, .string ⟨#[49]⟩, .bool false, .int .i64 1] 34)) (.cells #[.int .i64 0] 26)
    simp only [World.size_alloc] at hq
    exact hq)
  go_wp2_with fail
  have cA := abv_c RA_17.out.cell
  have cB := abv_c RB_17.out.cell
  have cC := abv_c RC_17.out.cell
  have cD := abv_c RD_17.out.cell
  have cP0 := abv_c RP_17.out.c0
  have cP1 := abv_c RP_17.out.c1
  have cP2 := abv_c RP_17.out.c2
  have cP3 := abv_c RP_17.out.c3
  rcases KL0_17.out with h0 | ⟨b1, o1, ha1, hbl1, hc1⟩
  · exact absurd h0 (by decide)
  obtain ⟨rfl, rfl⟩ : bl = b1 ∧ ol = o1 := by have := Option.some.inj ha1; simp only [Addr.mk.injEq] at this; exact ⟨this.1, this.2.1⟩
  have hK := hc1 0 (by decide)
  simp only [rxL, rx1, rx2, rx3, List.getElem_cons_zero, List.getElem_cons_succ, Nat.zero_mul, Nat.one_mul, Nat.add_zero, Nat.reduceMul, Nat.add_assoc, Nat.reduceAdd] at hK
  obtain ⟨d0, d1, d2, d3⟩ := hK
  have v00 := abv_c4 hbl1 d0
  have v01 := abv_c4 hbl1 d1
  have v02 := abv_c4 hbl1 d2
  have v03 := abv_c4 hbl1 d3
  clear d0 d1 d2 d3
  clear hc1 ha1 hbl1
  try dsimp only [List.append]
  refine wp_region_abv (by first | assumption | kernel_rfl) (by kernel_rfl) ?_
  repeat (first | go_big_quiet_step (first | with_reducible exact callAbv (at_any _ _)) | quiet_step (first | with_reducible exact callAbv (at_any _ _)))
  refine wpQuiet_nil ?_
  intro w9 hw9
  obtain ⟨p17, rfl⟩ := hw9
  clear cA cB cC cD cP0 cP1 cP2 cP3 v00 v01 v02 v03
  have hb := p17.h
  have HB18 := Lib.hid (eb_of HB17.out hb (by first | exact Nat.le_refl _ | exact HB17.out.size))
  have RA_18 := Lib.hid (box_below RA_17.out hb (Nat.le_refl _))
  have RB_18 := Lib.hid (box_below RB_17.out hb (Nat.le_refl _))
  have RX_18 := Lib.hid (Row4.below RX_17.out hb (Nat.le_refl _))
  have RC_18 := Lib.hid (box_below RC_17.out hb (Nat.le_refl _))
  have RP_18 := Lib.hid (Row4.below RP_17.out hb (Nat.le_refl _))
  have RD_18 := Lib.hid (box_below RD_17.out hb (Nat.le_refl _))
  have KL0_18 := Lib.hid (EsAt.below KL0_17.out hb (Nat.le_refl _))
  clear HB17 RA_17 RB_17 RX_17 RC_17 RP_17 RD_17 KL0_17
  clear hb
  go_wp2_with fail
  refine (rx9_any _).mono ?_
  rintro e w19 ⟨a5, rfl, hes, hb⟩
  have HB19 := Lib.hid (eb_of HB18.out hb (by first | exact Nat.le_refl _ | exact HB18.out.size))
  have RA_19 := Lib.hid (box_below RA_18.out hb (Nat.le_refl _))
  have RB_19 := Lib.hid (box_below RB_18.out hb (Nat.le_refl _))
  have RX_19 := Lib.hid (Row4.below RX_18.out hb (Nat.le_refl _))
  have RC_19 := Lib.hid (box_below RC_18.out hb (Nat.le_refl _))
  have RP_19 := Lib.hid (Row4.below RP_18.out hb (Nat.le_refl _))
  have RD_19 := Lib.hid (box_below RD_18.out hb (Nat.le_refl _))
  have KL0_19 := Lib.hid (EsAt.below KL0_18.out hb (Nat.le_refl _))
  clear HB18 RA_18 RB_18 RX_18 RC_18 RP_18 RD_18 KL0_18
  clear hb
  have KE5 := Lib.hid hes
  clear hes
  go_wp2_with fail
  refine (at_any _ _).mono ?_
  rintro e w20 ⟨rfl, hb⟩
  have HB20 := Lib.hid (eb_of HB19.out hb (by first | exact Nat.le_refl _ | exact HB19.out.size))
  have RA_20 := Lib.hid (box_below RA_19.out hb (Nat.le_refl _))
  have RB_20 := Lib.hid (box_below RB_19.out hb (Nat.le_refl _))
  have RX_20 := Lib.hid (Row4.below RX_19.out hb (Nat.le_refl _))
  have RC_20 := Lib.hid (box_below RC_19.out hb (Nat.le_refl _))
  have RP_20 := Lib.hid (Row4.below RP_19.out hb (Nat.le_refl _))
  have RD_20 := Lib.hid (box_below RD_19.out hb (Nat.le_refl _))
  have KL0_20 := Lib.hid (EsAt.below KL0_19.out hb (Nat.le_refl _))
  have KL5_20 := Lib.hid (EsAt.below KE5.out hb (Nat.le_refl _))
  clear HB19 RA_19 RB_19 RX_19 RC_19 RP_19 RD_19 KL0_19 KE5
  clear hb
  go_wp2_with fail
  refine (JT1.out _ _ KL5_20.out).mono ?_
  rintro e w21 ⟨⟨A9, d9, rfl, hes⟩, hb⟩
  have HB21 := Lib.hid (eb_of HB20.out hb (by first | exact Nat.le_refl _ | exact HB20.out.size))
  have RA_21 := Lib.hid (box_below RA_20.out hb (Nat.le_refl _))
  have RB_21 := Lib.hid (box_below RB_20.out hb (Nat.le_refl _))
  have RX_21 := Lib.hid (Row4.below RX_20.out hb (Nat.le_refl _))
  have RC_21 := Lib.hid (box_below RC_20.out hb (Nat.le_refl _))
  have RP_21 := Lib.hid (Row4.below RP_20.out hb (Nat.le_refl _))
  have RD_21 := Lib.hid (box_below RD_20.out hb (Nat.le_refl _))
  have KL0_21 := Lib.hid (EsAt.below KL0_20.out hb (Nat.le_refl _))
  clear HB20 RA_20 RB_20 RX_20 RC_20 RP_20 RD_20 KL0_20
  clear hb
  have KT := Lib.hid hes
  clear hes
  simp only [List.length_cons, List.length_nil, Nat.reduceAdd]
  obtain ⟨b9, b9o, rfl⟩ := es_some KT.out (by decide)
  have NKTA : Hid (b9 ≠ w3.heap.size) := Lib.hid (es_ne1 KT.out (by decide) RA_21.out)
  have NKTB : Hid (b9 ≠ w6.heap.size) := Lib.hid (es_ne1 KT.out (by decide) RB_21.out)
  have NKTX : Hid (b9 ≠ w10.heap.size) := Lib.hid (es_ne4 KT.out (by decide) RX_21.out (by first | (left; rfl) | (right; intro _; simp [rx3])))
  have NKTC : Hid (b9 ≠ (w10.heap.size + 1)) := Lib.hid (es_ne1 KT.out (by decide) RC_21.out)
  have NKTP : Hid (b9 ≠ w15.heap.size) := Lib.hid (es_ne4 KT.out (by decide) RP_21.out (by first | (left; rfl) | (right; intro _; simp [rx3])))
  have NKTD : Hid (b9 ≠ (w15.heap.size + 1)) := Lib.hid (es_ne1 KT.out (by decide) RD_21.out)
  have cA := RA_21.out.cell
  have fA := RA_21.out.frozen
  have SL0_21_A := Lib.hid (es_off (g := w3.heap.size) (o' := 0) (u := .int .i64 2) KL0_21.out NL0A.out)
  have SKT_21_A := Lib.hid (es_off (g := w3.heap.size) (o' := 0) (u := .int .i64 2) KT.out NKTA.out)
  clear KL0_21 KT
  have HB22 := Lib.hid (HB21.out.setCell (p := ⟨w3.heap.size, 0, none⟩) (by show w.heap.size ≤ w3.heap.size; have := LA.out; omega) (.int .i64 2))
  have RA_22 := Lib.hid (Boxed.set (.int .i64 2) RA_21.out)
  have RB_22 := Lib.hid (off1 (g := w3.heap.size) (o := 0) RB_21.out (by have := DAB.out; omega) (.int .i64 2))
  have RX_22 := Lib.hid (off4 (g := w3.heap.size) (o := 0) RX_21.out (by have := DAX.out; omega) (.int .i64 2))
  have RC_22 := Lib.hid (off1 (g := w3.heap.size) (o := 0) RC_21.out (by have := DAC.out; omega) (.int .i64 2))
  have RP_22 := Lib.hid (off4 (g := w3.heap.size) (o := 0) RP_21.out (by have := DAP.out; omega) (.int .i64 2))
  have RD_22 := Lib.hid (off1 (g := w3.heap.size) (o := 0) RD_21.out (by have := DAD.out; omega) (.int .i64 2))
  clear HB21 RA_21 RB_21 RX_21 RC_21 RP_21 RD_21
  go_wp2_with fail
  clear cA fA
  refine (rx9_any _).mono ?_
  rintro e w23 ⟨a6, rfl, hes, hb⟩
  have HB23 := Lib.hid (eb_of HB22.out hb (by first | exact Nat.le_refl _ | exact HB22.out.size))
  have RA_23 := Lib.hid (box_below RA_22.out hb (Nat.le_refl _))
  have RB_23 := Lib.hid (box_below RB_22.out hb (Nat.le_refl _))
  have RX_23 := Lib.hid (Row4.below RX_22.out hb (Nat.le_refl _))
  have RC_23 := Lib.hid (box_below RC_22.out hb (Nat.le_refl _))
  have RP_23 := Lib.hid (Row4.below RP_22.out hb (Nat.le_refl _))
  have RD_23 := Lib.hid (box_below RD_22.out hb (Nat.le_refl _))
  have KL0_23 := Lib.hid (EsAt.below SL0_21_A.out hb (Nat.le_refl _))
  have KKT_23 := Lib.hid (EsAt.below SKT_21_A.out hb (Nat.le_refl _))
  clear HB22 RA_22 RB_22 RX_22 RC_22 RP_22 RD_22 SL0_21_A SKT_21_A
  clear hb
  have KE6 := Lib.hid hes
  clear hes
  go_wp2_with fail
  refine (at_any _ _).mono ?_
  rintro e w24 ⟨rfl, hb⟩
  have HB24 := Lib.hid (eb_of HB23.out hb (by first | exact Nat.le_refl _ | exact HB23.out.size))
  have RA_24 := Lib.hid (box_below RA_23.out hb (Nat.le_refl _))
  have RB_24 := Lib.hid (box_below RB_23.out hb (Nat.le_refl _))
  have RX_24 := Lib.hid (Row4.below RX_23.out hb (Nat.le_refl _))
  have RC_24 := Lib.hid (box_below RC_23.out hb (Nat.le_refl _))
  have RP_24 := Lib.hid (Row4.below RP_23.out hb (Nat.le_refl _))
  have RD_24 := Lib.hid (box_below RD_23.out hb (Nat.le_refl _))
  have KL0_24 := Lib.hid (EsAt.below KL0_23.out hb (Nat.le_refl _))
  have KKT_24 := Lib.hid (EsAt.below KKT_23.out hb (Nat.le_refl _))
  have KL6_24 := Lib.hid (EsAt.below KE6.out hb (Nat.le_refl _))
  clear HB23 RA_23 RB_23 RX_23 RC_23 RP_23 RD_23 KL0_23 KKT_23 KE6
  clear hb
  go_wp2_with fail
  refine (JT2.out _ _ KL6_24.out).mono ?_
  rintro e w25 ⟨⟨A8, d8, rfl, hes⟩, hb⟩
  have HB25 := Lib.hid (eb_of HB24.out hb (by first | exact Nat.le_refl _ | exact HB24.out.size))
  have RA_25 := Lib.hid (box_below RA_24.out hb (Nat.le_refl _))
  have RB_25 := Lib.hid (box_below RB_24.out hb (Nat.le_refl _))
  have RX_25 := Lib.hid (Row4.below RX_24.out hb (Nat.le_refl _))
  have RC_25 := Lib.hid (box_below RC_24.out hb (Nat.le_refl _))
  have RP_25 := Lib.hid (Row4.below RP_24.out hb (Nat.le_refl _))
  have RD_25 := Lib.hid (box_below RD_24.out hb (Nat.le_refl _))
  have KL0_25 := Lib.hid (EsAt.below KL0_24.out hb (Nat.le_refl _))
  have KKT_25 := Lib.hid (EsAt.below KKT_24.out hb (Nat.le_refl _))
  clear HB24 RA_24 RB_24 RX_24 RC_24 RP_24 RD_24 KL0_24 KKT_24
  clear hb
  have KU := Lib.hid hes
  clear hes
  simp only [List.length_cons, List.length_nil, Nat.reduceAdd]
  obtain ⟨b8, b8o, rfl⟩ := es_some KU.out (by decide)
  have NKUA : Hid (b8 ≠ w3.heap.size) := Lib.hid (es_ne1 KU.out (by decide) RA_25.out)
  have NKUB : Hid (b8 ≠ w6.heap.size) := Lib.hid (es_ne1 KU.out (by decide) RB_25.out)
  have NKUX : Hid (b8 ≠ w10.heap.size) := Lib.hid (es_ne4 KU.out (by decide) RX_25.out (by first | (left; rfl) | (right; intro _; simp [rx3])))
  have NKUC : Hid (b8 ≠ (w10.heap.size + 1)) := Lib.hid (es_ne1 KU.out (by decide) RC_25.out)
  have NKUP : Hid (b8 ≠ w15.heap.size) := Lib.hid (es_ne4 KU.out (by decide) RP_25.out (by first | (left; rfl) | (right; intro _; simp [rx3])))
  have NKUD : Hid (b8 ≠ (w15.heap.size + 1)) := Lib.hid (es_ne1 KU.out (by decide) RD_25.out)
  have cB := RB_25.out.cell
  have fB := RB_25.out.frozen
  have SL0_25_B := Lib.hid (es_off (g := w6.heap.size) (o' := 0) (u := .int .i64 3) KL0_25.out NL0B.out)
  have SKT_25_B := Lib.hid (es_off (g := w6.heap.size) (o' := 0) (u := .int .i64 3) KKT_25.out NKTB.out)
  have SKU_25_B := Lib.hid (es_off (g := w6.heap.size) (o' := 0) (u := .int .i64 3) KU.out NKUB.out)
  clear KL0_25 KKT_25 KU
  have HB26 := Lib.hid (HB25.out.setCell (p := ⟨w6.heap.size, 0, none⟩) (by show w.heap.size ≤ w6.heap.size; have := LB.out; omega) (.int .i64 3))
  have RA_26 := Lib.hid (off1 (g := w6.heap.size) (o := 0) RA_25.out (by have := DAB.out; omega) (.int .i64 3))
  have RB_26 := Lib.hid (Boxed.set (.int .i64 3) RB_25.out)
  have RX_26 := Lib.hid (off4 (g := w6.heap.size) (o := 0) RX_25.out (by have := DBX.out; omega) (.int .i64 3))
  have RC_26 := Lib.hid (off1 (g := w6.heap.size) (o := 0) RC_25.out (by have := DBC.out; omega) (.int .i64 3))
  have RP_26 := Lib.hid (off4 (g := w6.heap.size) (o := 0) RP_25.out (by have := DBP.out; omega) (.int .i64 3))
  have RD_26 := Lib.hid (off1 (g := w6.heap.size) (o := 0) RD_25.out (by have := DBD.out; omega) (.int .i64 3))
  clear HB25 RA_25 RB_25 RX_25 RC_25 RP_25 RD_25
  go_wp2_with fail
  clear cB fB
  refine (rx9_any _).mono ?_
  rintro e w27 ⟨a7, rfl, hes, hb⟩
  have HB27 := Lib.hid (eb_of HB26.out hb (by first | exact Nat.le_refl _ | exact HB26.out.size))
  have RA_27 := Lib.hid (box_below RA_26.out hb (Nat.le_refl _))
  have RB_27 := Lib.hid (box_below RB_26.out hb (Nat.le_refl _))
  have RX_27 := Lib.hid (Row4.below RX_26.out hb (Nat.le_refl _))
  have RC_27 := Lib.hid (box_below RC_26.out hb (Nat.le_refl _))
  have RP_27 := Lib.hid (Row4.below RP_26.out hb (Nat.le_refl _))
  have RD_27 := Lib.hid (box_below RD_26.out hb (Nat.le_refl _))
  have KL0_27 := Lib.hid (EsAt.below SL0_25_B.out hb (Nat.le_refl _))
  have KKT_27 := Lib.hid (EsAt.below SKT_25_B.out hb (Nat.le_refl _))
  have KKU_27 := Lib.hid (EsAt.below SKU_25_B.out hb (Nat.le_refl _))
  clear HB26 RA_26 RB_26 RX_26 RC_26 RP_26 RD_26 SL0_25_B SKT_25_B SKU_25_B
  clear hb
  have KE7 := Lib.hid hes
  clear hes
  go_wp2_with fail
  refine (at_any _ _).mono ?_
  rintro e w28 ⟨rfl, hb⟩
  have HB28 := Lib.hid (eb_of HB27.out hb (by first | exact Nat.le_refl _ | exact HB27.out.size))
  have RA_28 := Lib.hid (box_below RA_27.out hb (Nat.le_refl _))
  have RB_28 := Lib.hid (box_below RB_27.out hb (Nat.le_refl _))
  have RX_28 := Lib.hid (Row4.below RX_27.out hb (Nat.le_refl _))
  have RC_28 := Lib.hid (box_below RC_27.out hb (Nat.le_refl _))
  have RP_28 := Lib.hid (Row4.below RP_27.out hb (Nat.le_refl _))
  have RD_28 := Lib.hid (box_below RD_27.out hb (Nat.le_refl _))
  have KL0_28 := Lib.hid (EsAt.below KL0_27.out hb (Nat.le_refl _))
  have KKT_28 := Lib.hid (EsAt.below KKT_27.out hb (Nat.le_refl _))
  have KKU_28 := Lib.hid (EsAt.below KKU_27.out hb (Nat.le_refl _))
  have KL7_28 := Lib.hid (EsAt.below KE7.out hb (Nat.le_refl _))
  clear HB27 RA_27 RB_27 RX_27 RC_27 RP_27 RD_27 KL0_27 KKT_27 KKU_27 KE7
  clear hb
  go_wp2_with fail
  refine (JK1.out _ _ KL7_28.out).mono ?_
  rintro e w29 ⟨rfl, hb⟩
  have HB29 := Lib.hid (eb_of HB28.out hb (by first | exact Nat.le_refl _ | exact HB28.out.size))
  have RA_29 := Lib.hid (box_below RA_28.out hb (Nat.le_refl _))
  have RB_29 := Lib.hid (box_below RB_28.out hb (Nat.le_refl _))
  have RX_29 := Lib.hid (Row4.below RX_28.out hb (Nat.le_refl _))
  have RC_29 := Lib.hid (box_below RC_28.out hb (Nat.le_refl _))
  have RP_29 := Lib.hid (Row4.below RP_28.out hb (Nat.le_refl _))
  have RD_29 := Lib.hid (box_below RD_28.out hb (Nat.le_refl _))
  have KL0_29 := Lib.hid (EsAt.below KL0_28.out hb (Nat.le_refl _))
  have KKT_29 := Lib.hid (EsAt.below KKT_28.out hb (Nat.le_refl _))
  have KKU_29 := Lib.hid (EsAt.below KKU_28.out hb (Nat.le_refl _))
  have KL7_29 := Lib.hid (EsAt.below KL7_28.out hb (Nat.le_refl _))
  clear HB28 RA_28 RB_28 RX_28 RC_28 RP_28 RD_28 KL0_28 KKT_28 KKU_28 KL7_28
  clear hb
  have cP0 := RP_29.out.c0
  have cP1 := RP_29.out.c1
  have cP2 := RP_29.out.c2
  have cP3 := RP_29.out.c3
  have cC := RC_29.out.cell
  have fC := RC_29.out.frozen
  have fP0 := RP_29.out.fz 0
  have fP1 := RP_29.out.fz 1
  have fP2 := RP_29.out.fz 2
  have fP3 := RP_29.out.fz 3
  have SL0_29_P := Lib.hid (es_off (g := w15.heap.size) (o' := 3) (u := .int .i64 2) (es_off (g := w15.heap.size) (o' := 2) (u := .bool true) (es_off (g := w15.heap.size) (o' := 1) (u := .string ⟨#[]⟩) (es_off (g := w15.heap.size) (o' := 0) (u := .string ⟨#[99]⟩) KL0_29.out NL0P.out) NL0P.out) NL0P.out) NL0P.out)
  have SKT_29_P := Lib.hid (es_off (g := w15.heap.size) (o' := 3) (u := .int .i64 2) (es_off (g := w15.heap.size) (o' := 2) (u := .bool true) (es_off (g := w15.heap.size) (o' := 1) (u := .string ⟨#[]⟩) (es_off (g := w15.heap.size) (o' := 0) (u := .string ⟨#[99]⟩) KKT_29.out NKTP.out) NKTP.out) NKTP.out) NKTP.out)
  have SKU_29_P := Lib.hid (es_off (g := w15.heap.size) (o' := 3) (u := .int .i64 2) (es_off (g := w15.heap.size) (o' := 2) (u := .bool true) (es_off (g := w15.heap.size) (o' := 1) (u := .string ⟨#[]⟩) (es_off (g := w15.heap.size) (o' := 0) (u := .string ⟨#[99]⟩) KKU_29.out NKUP.out) NKUP.out) NKUP.out) NKUP.out)
  clear KL0_29 KKT_29 KKU_29
  have HB30 := Lib.hid ((((HB29.out.setCell (p := ⟨w15.heap.size, 0, none⟩) (by show w.heap.size ≤ w15.heap.size; have := LP.out; omega) (.string ⟨#[99]⟩)).setCell (p := ⟨w15.heap.size, 1, none⟩) (by show w.heap.size ≤ w15.heap.size; have := LP.out; omega) (.string ⟨#[]⟩)).setCell (p := ⟨w15.heap.size, 2, none⟩) (by show w.heap.size ≤ w15.heap.size; have := LP.out; omega) (.bool true)).setCell (p := ⟨w15.heap.size, 3, none⟩) (by show w.heap.size ≤ w15.heap.size; have := LP.out; omega) (.int .i64 2))
  have RA_30 := Lib.hid (off1 (g := w15.heap.size) (o := 3) (off1 (g := w15.heap.size) (o := 2) (off1 (g := w15.heap.size) (o := 1) (off1 (g := w15.heap.size) (o := 0) RA_29.out (by have := DAP.out; omega) (.string ⟨#[99]⟩)) (by have := DAP.out; omega) (.string ⟨#[]⟩)) (by have := DAP.out; omega) (.bool true)) (by have := DAP.out; omega) (.int .i64 2))
  have RB_30 := Lib.hid (off1 (g := w15.heap.size) (o := 3) (off1 (g := w15.heap.size) (o := 2) (off1 (g := w15.heap.size) (o := 1) (off1 (g := w15.heap.size) (o := 0) RB_29.out (by have := DBP.out; omega) (.string ⟨#[99]⟩)) (by have := DBP.out; omega) (.string ⟨#[]⟩)) (by have := DBP.out; omega) (.bool true)) (by have := DBP.out; omega) (.int .i64 2))
  have RX_30 := Lib.hid (off4 (g := w15.heap.size) (o := 3) (off4 (g := w15.heap.size) (o := 2) (off4 (g := w15.heap.size) (o := 1) (off4 (g := w15.heap.size) (o := 0) RX_29.out (by have := DXP.out; omega) (.string ⟨#[99]⟩)) (by have := DXP.out; omega) (.string ⟨#[]⟩)) (by have := DXP.out; omega) (.bool true)) (by have := DXP.out; omega) (.int .i64 2))
  have RC_30 := Lib.hid (off1 (g := w15.heap.size) (o := 3) (off1 (g := w15.heap.size) (o := 2) (off1 (g := w15.heap.size) (o := 1) (off1 (g := w15.heap.size) (o := 0) RC_29.out (by have := DCP.out; omega) (.string ⟨#[99]⟩)) (by have := DCP.out; omega) (.string ⟨#[]⟩)) (by have := DCP.out; omega) (.bool true)) (by have := DCP.out; omega) (.int .i64 2))
  have RP_30 := Lib.hid (RP_29.out.set (.string ⟨#[99]⟩) (.string ⟨#[]⟩) (.bool true) (.int .i64 2))
  have RD_30 := Lib.hid (off1 (g := w15.heap.size) (o := 3) (off1 (g := w15.heap.size) (o := 2) (off1 (g := w15.heap.size) (o := 1) (off1 (g := w15.heap.size) (o := 0) RD_29.out (by have := DPD.out; omega) (.string ⟨#[99]⟩)) (by have := DPD.out; omega) (.string ⟨#[]⟩)) (by have := DPD.out; omega) (.bool true)) (by have := DPD.out; omega) (.int .i64 2))
  clear HB29 RA_29 RB_29 RX_29 RC_29 RP_29 RD_29
  have cC := RC_30.out.cell
  have fC := RC_30.out.frozen
  have SL0_30_C := Lib.hid (es_off (g := (w10.heap.size + 1)) (o' := 0) (u := .int .i64 2) SL0_29_P.out NL0C.out)
  have SKT_30_C := Lib.hid (es_off (g := (w10.heap.size + 1)) (o' := 0) (u := .int .i64 2) SKT_29_P.out NKTC.out)
  have SKU_30_C := Lib.hid (es_off (g := (w10.heap.size + 1)) (o' := 0) (u := .int .i64 2) SKU_29_P.out NKUC.out)
  clear SL0_29_P SKT_29_P SKU_29_P
  have HB31 := Lib.hid (HB30.out.setCell (p := ⟨(w10.heap.size + 1), 0, none⟩) (by show w.heap.size ≤ (w10.heap.size + 1); have := LC.out; omega) (.int .i64 2))
  have RA_31 := Lib.hid (off1 (g := (w10.heap.size + 1)) (o := 0) RA_30.out (by have := DAC.out; omega) (.int .i64 2))
  have RB_31 := Lib.hid (off1 (g := (w10.heap.size + 1)) (o := 0) RB_30.out (by have := DBC.out; omega) (.int .i64 2))
  have RX_31 := Lib.hid (off4 (g := (w10.heap.size + 1)) (o := 0) RX_30.out (by have := DXC.out; omega) (.int .i64 2))
  have RC_31 := Lib.hid (Boxed.set (.int .i64 2) RC_30.out)
  have RP_31 := Lib.hid (off4 (g := (w10.heap.size + 1)) (o := 0) RP_30.out (by have := DCP.out; omega) (.int .i64 2))
  have RD_31 := Lib.hid (off1 (g := (w10.heap.size + 1)) (o := 0) RD_30.out (by have := DCD.out; omega) (.int .i64 2))
  clear HB30 RA_30 RB_30 RX_30 RC_30 RP_30 RD_30
  go_wp2_with fail
  clear cP0 cP1 cP2 cP3 cC fC fP0 fP1 fP2 fP3
  clear cC fC
  refine (rx9_any _).mono ?_
  rintro e w32 ⟨a8, rfl, hes, hb⟩
  have HB32 := Lib.hid (eb_of HB31.out hb (by first | exact Nat.le_refl _ | exact HB31.out.size))
  have RA_32 := Lib.hid (box_below RA_31.out hb (Nat.le_refl _))
  have RB_32 := Lib.hid (box_below RB_31.out hb (Nat.le_refl _))
  have RX_32 := Lib.hid (Row4.below RX_31.out hb (Nat.le_refl _))
  have RC_32 := Lib.hid (box_below RC_31.out hb (Nat.le_refl _))
  have RP_32 := Lib.hid (Row4.below RP_31.out hb (Nat.le_refl _))
  have RD_32 := Lib.hid (box_below RD_31.out hb (Nat.le_refl _))
  have KL0_32 := Lib.hid (EsAt.below SL0_30_C.out hb (Nat.le_refl _))
  have KKT_32 := Lib.hid (EsAt.below SKT_30_C.out hb (Nat.le_refl _))
  have KKU_32 := Lib.hid (EsAt.below SKU_30_C.out hb (Nat.le_refl _))
  clear HB31 RA_31 RB_31 RX_31 RC_31 RP_31 RD_31 SL0_30_C SKT_30_C SKU_30_C
  clear hb
  have KE8 := Lib.hid hes
  clear hes
  go_wp2_with fail
  refine (at_any _ _).mono ?_
  rintro e w33 ⟨rfl, hb⟩
  have HB33 := Lib.hid (eb_of HB32.out hb (by first | exact Nat.le_refl _ | exact HB32.out.size))
  have RA_33 := Lib.hid (box_below RA_32.out hb (Nat.le_refl _))
  have RB_33 := Lib.hid (box_below RB_32.out hb (Nat.le_refl _))
  have RX_33 := Lib.hid (Row4.below RX_32.out hb (Nat.le_refl _))
  have RC_33 := Lib.hid (box_below RC_32.out hb (Nat.le_refl _))
  have RP_33 := Lib.hid (Row4.below RP_32.out hb (Nat.le_refl _))
  have RD_33 := Lib.hid (box_below RD_32.out hb (Nat.le_refl _))
  have KL0_33 := Lib.hid (EsAt.below KL0_32.out hb (Nat.le_refl _))
  have KKT_33 := Lib.hid (EsAt.below KKT_32.out hb (Nat.le_refl _))
  have KKU_33 := Lib.hid (EsAt.below KKU_32.out hb (Nat.le_refl _))
  have KL8_33 := Lib.hid (EsAt.below KE8.out hb (Nat.le_refl _))
  clear HB32 RA_32 RB_32 RX_32 RC_32 RP_32 RD_32 KL0_32 KKT_32 KKU_32 KE8
  clear hb
  go_wp2_with fail
  refine (JK2.out _ _ KL8_33.out).mono ?_
  rintro e w34 ⟨rfl, hb⟩
  have HB34 := Lib.hid (eb_of HB33.out hb (by first | exact Nat.le_refl _ | exact HB33.out.size))
  have RA_34 := Lib.hid (box_below RA_33.out hb (Nat.le_refl _))
  have RB_34 := Lib.hid (box_below RB_33.out hb (Nat.le_refl _))
  have RX_34 := Lib.hid (Row4.below RX_33.out hb (Nat.le_refl _))
  have RC_34 := Lib.hid (box_below RC_33.out hb (Nat.le_refl _))
  have RP_34 := Lib.hid (Row4.below RP_33.out hb (Nat.le_refl _))
  have RD_34 := Lib.hid (box_below RD_33.out hb (Nat.le_refl _))
  have KL0_34 := Lib.hid (EsAt.below KL0_33.out hb (Nat.le_refl _))
  have KKT_34 := Lib.hid (EsAt.below KKT_33.out hb (Nat.le_refl _))
  have KKU_34 := Lib.hid (EsAt.below KKU_33.out hb (Nat.le_refl _))
  have KL8_34 := Lib.hid (EsAt.below KL8_33.out hb (Nat.le_refl _))
  clear HB33 RA_33 RB_33 RX_33 RC_33 RP_33 RD_33 KL0_33 KKT_33 KKU_33 KL8_33
  clear hb
  have LY : Hid (w.heap.size ≤ w34.heap.size) := Lib.hid (by have := HB34.out.size; (try simp only [World.size_alloc] at this); omega)
  have NL0Y : Hid (bl ≠ w34.heap.size) := Lib.hid (by have := es_lt KL0_34.out (by decide); (try simp only [World.size_alloc] at this); omega)
  have NKTY : Hid (b9 ≠ w34.heap.size) := Lib.hid (by have := es_lt KKT_34.out (by decide); (try simp only [World.size_alloc] at this); omega)
  have NKUY : Hid (b8 ≠ w34.heap.size) := Lib.hid (by have := es_lt KKU_34.out (by decide); (try simp only [World.size_alloc] at this); omega)
  have DAY : Hid (w3.heap.size < w34.heap.size) := Lib.hid (by have := RA_34.out.lt; (try simp only [World.size_alloc] at this); omega)
  have DBY : Hid (w6.heap.size < w34.heap.size) := Lib.hid (by have := RB_34.out.lt; (try simp only [World.size_alloc] at this); omega)
  have DXY : Hid (w10.heap.size < w34.heap.size) := Lib.hid (by have := RX_34.out.lt; (try simp only [World.size_alloc] at this); omega)
  have DCY : Hid ((w10.heap.size + 1) < w34.heap.size) := Lib.hid (by have := RC_34.out.lt; (try simp only [World.size_alloc] at this); omega)
  have DPY : Hid (w15.heap.size < w34.heap.size) := Lib.hid (by have := RP_34.out.lt; (try simp only [World.size_alloc] at this); omega)
  have DDY : Hid ((w15.heap.size + 1) < w34.heap.size) := Lib.hid (by have := RD_34.out.lt; (try simp only [World.size_alloc] at this); omega)
  have hb := alloc_below w34 (.cells #[.string ⟨#[97]⟩, .string ⟨#[49]⟩, .bool false, .int .i64 1] 34)
  have HB35 := Lib.hid (eb_of HB34.out hb (by first | exact Nat.le_refl _ | exact HB34.out.size))
  have RA_35 := Lib.hid (box_below RA_34.out hb (Nat.le_refl _))
  have RB_35 := Lib.hid (box_below RB_34.out hb (Nat.le_refl _))
  have RX_35 := Lib.hid (Row4.below RX_34.out hb (Nat.le_refl _))
  have RC_35 := Lib.hid (box_below RC_34.out hb (Nat.le_refl _))
  have RP_35 := Lib.hid (Row4.below RP_34.out hb (Nat.le_refl _))
  have RD_35 := Lib.hid (box_below RD_34.out hb (Nat.le_refl _))
  have KL0_35 := Lib.hid (EsAt.below KL0_34.out hb (Nat.le_refl _))
  have KKT_35 := Lib.hid (EsAt.below KKT_34.out hb (Nat.le_refl _))
  have KKU_35 := Lib.hid (EsAt.below KKU_34.out hb (Nat.le_refl _))
  clear HB34 RA_34 RB_34 RX_34 RC_34 RP_34 RD_34 KL0_34 KKT_34 KKU_34
  clear hb
  have RY_35 : Hid (Row4 (w34.alloc (.cells #[.string ⟨#[97]⟩, .string ⟨#[49]⟩, .bool false, .int .i64 1] 34)) (w34.heap.size) 34 (.string ⟨#[97]⟩) (.string ⟨#[49]⟩) (.bool false) (.int .i64 1)) := Lib.hid (heap_alloc_new _ _)
  have cD := RD_35.out.cell
  have fD := RD_35.out.frozen
  have SL0_35_D := Lib.hid (es_off (g := (w15.heap.size + 1)) (o' := 0) (u := .int .i64 0) KL0_35.out NL0D.out)
  have SKT_35_D := Lib.hid (es_off (g := (w15.heap.size + 1)) (o' := 0) (u := .int .i64 0) KKT_35.out NKTD.out)
  have SKU_35_D := Lib.hid (es_off (g := (w15.heap.size + 1)) (o' := 0) (u := .int .i64 0) KKU_35.out NKUD.out)
  clear KL0_35 KKT_35 KKU_35
  have HB36 := Lib.hid (HB35.out.setCell (p := ⟨(w15.heap.size + 1), 0, none⟩) (by show w.heap.size ≤ (w15.heap.size + 1); have := LD.out; omega) (.int .i64 0))
  have RA_36 := Lib.hid (off1 (g := (w15.heap.size + 1)) (o := 0) RA_35.out (by have := DAD.out; omega) (.int .i64 0))
  have RB_36 := Lib.hid (off1 (g := (w15.heap.size + 1)) (o := 0) RB_35.out (by have := DBD.out; omega) (.int .i64 0))
  have RX_36 := Lib.hid (off4 (g := (w15.heap.size + 1)) (o := 0) RX_35.out (by have := DXD.out; omega) (.int .i64 0))
  have RC_36 := Lib.hid (off1 (g := (w15.heap.size + 1)) (o := 0) RC_35.out (by have := DCD.out; omega) (.int .i64 0))
  have RP_36 := Lib.hid (off4 (g := (w15.heap.size + 1)) (o := 0) RP_35.out (by have := DPD.out; omega) (.int .i64 0))
  have RD_36 := Lib.hid (Boxed.set (.int .i64 0) RD_35.out)
  have RY_36 := Lib.hid (off4 (g := (w15.heap.size + 1)) (o := 0) RY_35.out (by have := DDY.out; omega) (.int .i64 0))
  clear HB35 RA_35 RB_35 RX_35 RC_35 RP_35 RD_35 RY_35
  go_wp2_with fail
  have HHD := Lib.hid (rx_head SL0_35_D.out)
  have JSa : Hid (∀ q : Abv ((w34.alloc (.cells #[.string ⟨#[97]⟩, .string ⟨#[49]⟩, .bool false, .int .i64 1] 34)).setCell ⟨(w15.heap.size + 1), 0, none⟩ (.int .i64 0)), Calls Try.prog 29 #[.slice (some ⟨b9, b9o, none⟩) 2 d9, .slice (some ⟨bl, ol, none⟩) 2 3] q.world fun e w' => e = .returned (.bool true) ∧ Below q.world.heap.size q.world w') := Lib.hid (fun q => by
    refine (Same_any (some ⟨b9, b9o, none⟩) _ d9 3 [rx1, rx2] [rx1, rx2] _ (SKT_35_D.out.below q.h (Nat.le_refl _)) (HHD.out.1.below q.h (Nat.le_refl _)) (by decide) (by decide)).mono ?_
    rintro e w' ⟨rfl, hb⟩
    exact ⟨by simp, hb⟩)
  have JSb : Hid (∀ q : Abv ((w34.alloc (.cells #[.string ⟨#[97]⟩, .string ⟨#[49]⟩, .bool false, .int .i64 1] 34)).setCell ⟨(w15.heap.size + 1), 0, none⟩ (.int .i64 0)), Calls Try.prog 29 #[.slice (some ⟨b8, b8o, none⟩) 1 d8, .slice (some ⟨bl, ol + 8, none⟩) 1 1] q.world fun e w' => e = .returned (.bool true) ∧ Below q.world.heap.size q.world w') := Lib.hid (fun q => by
    refine (Same_any (some ⟨b8, b8o, none⟩) _ d8 1 [rx3] [rx3] _ (SKU_35_D.out.below q.h (Nat.le_refl _)) (HHD.out.2.below q.h (Nat.le_refl _)) (by decide) (by decide)).mono ?_
    rintro e w' ⟨rfl, hb⟩
    exact ⟨by simp, hb⟩)
  have cA := abv_c RA_36.out.cell
  have cB := abv_c RB_36.out.cell
  have cC := abv_c RC_36.out.cell
  have cD := abv_c RD_36.out.cell
  have cP0 := abv_c RP_36.out.c0
  have cP1 := abv_c RP_36.out.c1
  have cP2 := abv_c RP_36.out.c2
  have cP3 := abv_c RP_36.out.c3
  have cY0 := abv_c RY_36.out.c0
  have cY1 := abv_c RY_36.out.c1
  have cY2 := abv_c RY_36.out.c2
  have cY3 := abv_c RY_36.out.c3
  rcases SL0_35_D.out with h0 | ⟨b2, o2, ha2, hbl2, hc2⟩
  · exact absurd h0 (by decide)
  obtain ⟨rfl, rfl⟩ : bl = b2 ∧ ol = o2 := by have := Option.some.inj ha2; simp only [Addr.mk.injEq] at this; exact ⟨this.1, this.2.1⟩
  have hK := hc2 0 (by decide)
  simp only [rxL, rx1, rx2, rx3, List.getElem_cons_zero, List.getElem_cons_succ, Nat.zero_mul, Nat.one_mul, Nat.add_zero, Nat.reduceMul, Nat.add_assoc, Nat.reduceAdd] at hK
  obtain ⟨d0, d1, d2, d3⟩ := hK
  have v00 := abv_c4 hbl2 d0
  have v01 := abv_c4 hbl2 d1
  have v02 := abv_c4 hbl2 d2
  have v03 := abv_c4 hbl2 d3
  clear d0 d1 d2 d3
  have hK := hc2 1 (by decide)
  simp only [rxL, rx1, rx2, rx3, List.getElem_cons_zero, List.getElem_cons_succ, Nat.zero_mul, Nat.one_mul, Nat.add_zero, Nat.reduceMul, Nat.add_assoc, Nat.reduceAdd] at hK
  obtain ⟨d0, d1, d2, d3⟩ := hK
  have v10 := abv_c4 hbl2 d0
  have v11 := abv_c4 hbl2 d1
  have v12 := abv_c4 hbl2 d2
  have v13 := abv_c4 hbl2 d3
  clear d0 d1 d2 d3
  clear hc2 ha2 hbl2
  try dsimp only [List.append]
  refine wp_region_abv (by first | assumption | kernel_rfl) (by kernel_rfl) ?_
  repeat (first | go_big_quiet_step (first | with_reducible exact callAbv (JSa.out _) | with_reducible exact callAbv (JSb.out _) | with_reducible exact callAbv (at_any _ _)) | quiet_step (first | with_reducible exact callAbv (JSa.out _) | with_reducible exact callAbv (JSb.out _) | with_reducible exact callAbv (at_any _ _)))
  refine wpQuiet_nil ?_
  intro w9 hw9
  obtain ⟨p36, rfl⟩ := hw9
  clear cD fD cA cB cC cP0 cP1 cP2 cP3 cY0 cY1 cY2 cY3 v00 v01 v02 v03 v10 v11 v12 v13
  clear cD
  have hb := p36.h
  have HB37 := Lib.hid (eb_of HB36.out hb (by first | exact Nat.le_refl _ | exact HB36.out.size))
  have RA_37 := Lib.hid (box_below RA_36.out hb (Nat.le_refl _))
  have RB_37 := Lib.hid (box_below RB_36.out hb (Nat.le_refl _))
  have RX_37 := Lib.hid (Row4.below RX_36.out hb (Nat.le_refl _))
  have RC_37 := Lib.hid (box_below RC_36.out hb (Nat.le_refl _))
  have RP_37 := Lib.hid (Row4.below RP_36.out hb (Nat.le_refl _))
  have RD_37 := Lib.hid (box_below RD_36.out hb (Nat.le_refl _))
  have RY_37 := Lib.hid (Row4.below RY_36.out hb (Nat.le_refl _))
  have KL0_37 := Lib.hid (EsAt.below SL0_35_D.out hb (Nat.le_refl _))
  have KKT_37 := Lib.hid (EsAt.below SKT_35_D.out hb (Nat.le_refl _))
  have KKU_37 := Lib.hid (EsAt.below SKU_35_D.out hb (Nat.le_refl _))
  clear HB36 RA_36 RB_36 RX_36 RC_36 RP_36 RD_36 RY_36 SL0_35_D SKT_35_D SKU_35_D
  clear hb
  clear JSa JSb HHD
  clear RC_37
  clear RP_37
  clear RD_37
  clear RX_37
  clear RY_37
  clear KKT_37
  clear KKU_37
  clear KL0_37
  have LZ : Hid (w.heap.size ≤ p36.world.heap.size) := Lib.hid (by have := HB37.out.size; (try simp only [World.size_alloc] at this); omega)
  have DAZ : Hid (w3.heap.size < p36.world.heap.size) := Lib.hid (by have := RA_37.out.lt; (try simp only [World.size_alloc] at this); omega)
  have DBZ : Hid (w6.heap.size < p36.world.heap.size) := Lib.hid (by have := RB_37.out.lt; (try simp only [World.size_alloc] at this); omega)
  have hb := alloc_below p36.world (.cells #[.string ⟨#[98]⟩, .string ⟨#[100]⟩, .bool true] 39)
  have HB38 := Lib.hid (eb_of HB37.out hb (by first | exact Nat.le_refl _ | exact HB37.out.size))
  have RA_38 := Lib.hid (box_below RA_37.out hb (Nat.le_refl _))
  have RB_38 := Lib.hid (box_below RB_37.out hb (Nat.le_refl _))
  clear HB37 RA_37 RB_37
  clear hb
  have RZ_38 : Hid (Row3 (p36.world.alloc (.cells #[.string ⟨#[98]⟩, .string ⟨#[100]⟩, .bool true] 39)) (p36.world.heap.size) 39 (.string ⟨#[98]⟩) (.string ⟨#[100]⟩) (.bool true)) := Lib.hid (heap_alloc_new _ _)
  go_wp2_with fail
  generalize (p36.world.alloc (.cells #[.string ⟨#[98]⟩, .string ⟨#[100]⟩, .bool true] 39)) = wz1 at *
  have HK1 : Hid (∀ w', Below wz1.heap.size wz1 w' → w'.cell? ⟨p36.world.heap.size, 0, none⟩ = some (.string ⟨#[98]⟩) ∧ w'.cell? ⟨p36.world.heap.size, 1, none⟩ = some (.string ⟨#[100]⟩) ∧ w'.cell? ⟨p36.world.heap.size, 2, none⟩ = some (.bool true)) := Lib.hid (fun w' h => by
    have r := Row3.below RZ_38.out h (Nat.le_refl _)
    exact ⟨r.c0, r.c1, r.c2⟩)
  have HM1 : Hid (∀ w1 v, Below wz1.heap.size wz1 w1 → (w1.setCell ⟨w3.heap.size, 0, none⟩ v).cell? ⟨p36.world.heap.size, 0, none⟩ = some (.string ⟨#[98]⟩) ∧ (w1.setCell ⟨w3.heap.size, 0, none⟩ v).cell? ⟨p36.world.heap.size, 1, none⟩ = some (.string ⟨#[100]⟩) ∧ (w1.setCell ⟨w3.heap.size, 0, none⟩ v).cell? ⟨p36.world.heap.size, 2, none⟩ = some (.bool true)) := Lib.hid (fun w1 v h => by
    have r := off3 (g := w3.heap.size) (o := 0) (Row3.below RZ_38.out h (Nat.le_refl _)) (by have := DAZ.out; omega) v
    exact ⟨r.c0, r.c1, r.c2⟩)
  have HF1 := Lib.hid (Below.refl wz1.heap.size wz1)
  go_region_held3 (fun w' => w'.cell? ⟨p36.world.heap.size, 0, none⟩ = some (.string ⟨#[98]⟩) ∧ w'.cell? ⟨p36.world.heap.size, 1, none⟩ = some (.string ⟨#[100]⟩) ∧ w'.cell? ⟨p36.world.heap.size, 2, none⟩ = some (.bool true))
    (first
      | (refine HK1.out _ ?_; first | with_reducible assumption | with_reducible exact HF1.out | exact below_drewN' 1)
      | (refine HM1.out _ _ ?_; with_reducible assumption))
    (first
      | (go_at_call 35; refine (rx9_any _).mono ?_; rintro e wa1 ⟨az1, rfl, hes, hb⟩; have hBa1 : Below wz1.heap.size wz1 wa1 := eb_of (by first | with_reducible assumption | with_reducible exact HF1.out | exact below_drewN' 1) hb (Nat.le_refl _); have KX1 := Lib.hid hes; clear hes hb)
      | (go_at_call 34; refine (at_any _ _).mono ?_; rintro e wb1 ⟨rfl, hb⟩; have hBb1 : Below wz1.heap.size wz1 wb1 := eb_of hBa1 hb (Nat.le_refl _); have KY1 := Lib.hid (EsAt.below KX1.out hb (Nat.le_refl _)); clear hb)
      | (go_at_call 25; refine (JC1.out _ _ KY1.out).mono ?_; rintro e wc1 ⟨rfl, hb⟩; have hBc1 : Below wz1.heap.size wz1 wc1 := eb_of hBb1 hb (Nat.le_refl _); have qb1 := box_below RA_38.out hBc1 (Nat.le_refl _); have qc1 := Boxed.cell qb1; have qf1 := Boxed.frozen qb1; clear hb qb1))
  clear HK1 HM1 KX1 KY1 hBa1 hBb1 qc1 qf1
  have HB39 := Lib.hid (eb_of HB38.out hBc1 (by first | exact Nat.le_refl _ | exact HB38.out.size))
  have RA_39 := Lib.hid (box_below RA_38.out hBc1 (Nat.le_refl _))
  have RB_39 := Lib.hid (box_below RB_38.out hBc1 (Nat.le_refl _))
  have RZ_39 := Lib.hid (Row3.below RZ_38.out hBc1 (Nat.le_refl _))
  clear HB38 RA_38 RB_38 RZ_38
  clear hBc1 HF1
  have HB40 := Lib.hid (HB39.out.setCell (p := ⟨w3.heap.size, 0, none⟩) (by show w.heap.size ≤ w3.heap.size; have := LA.out; omega) (.int .i64 1))
  have RA_40 := Lib.hid (Boxed.set (.int .i64 1) RA_39.out)
  have RB_40 := Lib.hid (off1 (g := w3.heap.size) (o := 0) RB_39.out (by have := DAB.out; omega) (.int .i64 1))
  have RZ_40 := Lib.hid (off3 (g := w3.heap.size) (o := 0) RZ_39.out (by have := DAZ.out; omega) (.int .i64 1))
  clear HB39 RA_39 RB_39 RZ_39
  go_wp2_with fail
  generalize (wc1.setCell ⟨w3.heap.size, 0, none⟩ (.int .i64 1)) = wz2 at *
  have HK2 : Hid (∀ w', Below wz2.heap.size wz2 w' → w'.cell? ⟨p36.world.heap.size, 0, none⟩ = some (.string ⟨#[98]⟩) ∧ w'.cell? ⟨p36.world.heap.size, 1, none⟩ = some (.string ⟨#[100]⟩) ∧ w'.cell? ⟨p36.world.heap.size, 2, none⟩ = some (.bool true)) := Lib.hid (fun w' h => by
    have r := Row3.below RZ_40.out h (Nat.le_refl _)
    exact ⟨r.c0, r.c1, r.c2⟩)
  have HM2 : Hid (∀ w1 v, Below wz2.heap.size wz2 w1 → (w1.setCell ⟨w6.heap.size, 0, none⟩ v).cell? ⟨p36.world.heap.size, 0, none⟩ = some (.string ⟨#[98]⟩) ∧ (w1.setCell ⟨w6.heap.size, 0, none⟩ v).cell? ⟨p36.world.heap.size, 1, none⟩ = some (.string ⟨#[100]⟩) ∧ (w1.setCell ⟨w6.heap.size, 0, none⟩ v).cell? ⟨p36.world.heap.size, 2, none⟩ = some (.bool true)) := Lib.hid (fun w1 v h => by
    have r := off3 (g := w6.heap.size) (o := 0) (Row3.below RZ_40.out h (Nat.le_refl _)) (by have := DBZ.out; omega) v
    exact ⟨r.c0, r.c1, r.c2⟩)
  have HF2 := Lib.hid (Below.refl wz2.heap.size wz2)
  go_region_held3 (fun w' => w'.cell? ⟨p36.world.heap.size, 0, none⟩ = some (.string ⟨#[98]⟩) ∧ w'.cell? ⟨p36.world.heap.size, 1, none⟩ = some (.string ⟨#[100]⟩) ∧ w'.cell? ⟨p36.world.heap.size, 2, none⟩ = some (.bool true))
    (first
      | (refine HK2.out _ ?_; first | with_reducible assumption | with_reducible exact HF2.out | exact below_drewN' 1)
      | (refine HM2.out _ _ ?_; with_reducible assumption))
    (first
      | (go_at_call 35; refine (rx9_any _).mono ?_; rintro e wa2 ⟨az2, rfl, hes, hb⟩; have hBa2 : Below wz2.heap.size wz2 wa2 := eb_of (by first | with_reducible assumption | with_reducible exact HF2.out | exact below_drewN' 1) hb (Nat.le_refl _); have KX2 := Lib.hid hes; clear hes hb)
      | (go_at_call 34; refine (at_any _ _).mono ?_; rintro e wb2 ⟨rfl, hb⟩; have hBb2 : Below wz2.heap.size wz2 wb2 := eb_of hBa2 hb (Nat.le_refl _); have KY2 := Lib.hid (EsAt.below KX2.out hb (Nat.le_refl _)); clear hb)
      | (go_at_call 25; refine (JC2.out _ _ KY2.out).mono ?_; rintro e wc2 ⟨rfl, hb⟩; have hBc2 : Below wz2.heap.size wz2 wc2 := eb_of hBb2 hb (Nat.le_refl _); have qb2 := box_below RB_40.out hBc2 (Nat.le_refl _); have qc2 := Boxed.cell qb2; have qf2 := Boxed.frozen qb2; clear hb qb2))
  clear HK2 HM2 KX2 KY2 hBa2 hBb2 qc2 qf2
  have HB41 := Lib.hid (eb_of HB40.out hBc2 (by first | exact Nat.le_refl _ | exact HB40.out.size))
  have RA_41 := Lib.hid (box_below RA_40.out hBc2 (Nat.le_refl _))
  have RB_41 := Lib.hid (box_below RB_40.out hBc2 (Nat.le_refl _))
  have RZ_41 := Lib.hid (Row3.below RZ_40.out hBc2 (Nat.le_refl _))
  clear HB40 RA_40 RB_40 RZ_40
  clear hBc2 HF2
  have HB42 := Lib.hid (HB41.out.setCell (p := ⟨w6.heap.size, 0, none⟩) (by show w.heap.size ≤ w6.heap.size; have := LB.out; omega) (.int .i64 2))
  have RA_42 := Lib.hid (off1 (g := w6.heap.size) (o := 0) RA_41.out (by have := DAB.out; omega) (.int .i64 2))
  have RB_42 := Lib.hid (Boxed.set (.int .i64 2) RB_41.out)
  have RZ_42 := Lib.hid (off3 (g := w6.heap.size) (o := 0) RZ_41.out (by have := DBZ.out; omega) (.int .i64 2))
  clear HB41 RA_41 RB_41 RZ_41
  go_wp2_with fail
  clear RZ_42
  have cA := abv_c RA_42.out.cell
  have cB := abv_c RB_42.out.cell
  try dsimp only [List.append]
  refine wp_region_abv (by first | assumption | kernel_rfl) (by kernel_rfl) ?_
  repeat (first | go_big_quiet_step (first | with_reducible exact callAbv (at_any _ _) | with_reducible exact callAbv (awake9_any _)) | quiet_step (first | with_reducible exact callAbv (at_any _ _) | with_reducible exact callAbv (awake9_any _)))
  refine wpQuiet_nil ?_
  intro w9 hw9
  obtain ⟨p42, rfl⟩ := hw9
  clear cA cB
  have hb := p42.h
  have HB43 := Lib.hid (eb_of HB42.out hb (by first | exact Nat.le_refl _ | exact HB42.out.size))
  have RA_43 := Lib.hid (box_below RA_42.out hb (Nat.le_refl _))
  have RB_43 := Lib.hid (box_below RB_42.out hb (Nat.le_refl _))
  clear HB42 RA_42 RB_42
  clear hb
  go_wp2_with fail
  go_ret
  exact ⟨rfl, HB43.out⟩
end Go.Proofs.Yticdechdgpfdfaa.KK
