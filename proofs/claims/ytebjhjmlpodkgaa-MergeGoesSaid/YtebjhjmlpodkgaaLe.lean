/-
  Trees of losers: clones of keys and of numbers, a row of zeros.
-/
import Derived.Test.YtebjhjmlpodkgaaLc
import Derived.Tactics2
namespace Go.Proofs.Ytebjhjmlpodkgaa.KK
open Go.ChangeShapes Go.WideShapes Go.ChangeAt Go.RowKit Go.Proofs Go.Sort

theorem infoLK : (Try.prog.info? 41).map (fun i => (i.zero, i.size, i.bytes)) = some (some (.agg #[.string ⟨#[]⟩, .bool false]), 2, 24) := by kernel_rfl
theorem infoIn : (Try.prog.info? 3).map (fun i => (i.zero, i.size, i.bytes)) = some (some (.int .i64 0), 1, 8) := by kernel_rfl
theorem keysV_one (ks : List LK) : ∀ u ∈ keysV ks, u.oneCell' = true := by
  intro u hu
  simp only [keysV, List.mem_flatMap] at hu
  obtain ⟨x, _, hx⟩ := hu
  simp only [List.mem_cons, List.not_mem_nil, or_false] at hx
  rcases hx with rfl | rfl <;> rfl
theorem intsV_one (L : List Int) : ∀ u ∈ intsV L, u.oneCell' = true := by
  intro u hu
  simp only [intsV, List.mem_map] at hu
  obtain ⟨x, _, rfl⟩ := hu; rfl
theorem KsAt.cells {w : World} {A : Option Addr} {xs : List LK} (h : KsAt w A xs) (hne : xs ≠ []) : ∃ b off, A = some ⟨b, off, none⟩ ∧ b < w.heap.size ∧ ∀ j u, (keysV xs)[j]? = some u → w.cell? ⟨b, off + j, none⟩ = some u := by
  rcases h with h | ⟨b, off, hA, hb, hc⟩
  · exact absurd h hne
  · refine ⟨b, off, hA, hb, fun j u hj => ?_⟩
    have hl : j < xs.length * 2 := by rw [← keysV_len]; exact (List.getElem?_eq_some_iff.1 hj).1
    have e : j = j / 2 * 2 + j % 2 := by omega
    have hi : j / 2 < xs.length := by omega
    have hm : j % 2 < 2 := by omega
    obtain ⟨k0, k1⟩ := keysV_get0 xs _ hi
    obtain ⟨c0, c1⟩ := hc _ hi
    rw [e] at hj
    rw [e, ← Nat.add_assoc]
    generalize j % 2 = m at *
    match m, hm with
    | 0, _ => rw [Nat.add_zero, k0] at hj; cases hj; exact c0
    | 1, _ => rw [k1] at hj; cases hj; exact c1
theorem IsAt.cells {w : World} {A : Option Addr} {xs : List Int} (h : IsAt w A xs) (hne : xs ≠ []) : ∃ b off, A = some ⟨b, off, none⟩ ∧ b < w.heap.size ∧ ∀ j u, (intsV xs)[j]? = some u → w.cell? ⟨b, off + j, none⟩ = some u := by
  rcases h with h | ⟨b, off, hA, hb, hc⟩
  · exact absurd h hne
  · refine ⟨b, off, hA, hb, fun j u hj => ?_⟩
    have hl : j < xs.length := by rw [← intsV_len]; exact (List.getElem?_eq_some_iff.1 hj).1
    have : u = .int .i64 xs[j] := by
      have := (List.getElem?_eq_some_iff.1 hj).2
      rw [← this]; simp [intsV]
    rw [this]; exact hc j hl
theorem CR.of_own {w : World} {base g cap n : Nat} {t : TypeId} {k : Nat} {vs : List Value} (h : w.ownsRow base t k (.slice (some ⟨g, 0, none⟩) n cap) n vs) (hlt : g < w.heap.size) : CR w g vs := by
  have hcell := h.cells (g := g) rfl
  refine ⟨hlt, fun i hi => ?_, fun i hi => ?_⟩
  · have b0 := hcell i _ (List.getElem?_eq_getElem hi)
    rwa [add_at', Nat.zero_add] at b0
  · rcases h.2 with ⟨h1, _⟩ | ⟨g', cap', cur, hv, hb, hh, _⟩
    · cases h1
    · have hg : g = g' := by injection hv with h1; injection h1 with h1; injection h1
      subst hg
      simp [World.frozen?, hh]
set_option maxRecDepth 100000 in
theorem cloneK_any (A : Option Addr) (c : Nat) (xs : List LK) (w : World) (hf : KsAt w A xs) (hne : xs ≠ []) (hn : xs.length ≤ 5000) :
    Calls Try.prog 75 #[.slice A xs.length c] w fun e w' => ∃ g cap, e = .returned (.slice (some ⟨g, 0, none⟩) xs.length cap) ∧ w.heap.size ≤ g ∧ CR w' g (keysV xs) ∧ Below w.heap.size w w' := by
  obtain ⟨b, off, rfl, hb, hc⟩ := hf.cells hne
  obtain ⟨i0, hi, hz0, hz1, hz2⟩ := info_parts infoLK
  have HC := Lib.hid hc
  have hpos : 0 < xs.length := List.length_pos_iff.2 hne
  have hmade : (w.alloc (.cells #[] 41)).ownsRow w.heap.size 41 2 (.slice (some ⟨w.heap.size, 0, none⟩) 0 0) 0 [] := World.ownsRow_made w #[] 0 (Nat.le_refl _) (Nat.zero_le _) rfl
  have q33 : ∀ (w : World) (a : Option Addr) (n c n' c' : Nat), (binOp .eql 26 (.slice a n c) (.slice none n' c')).run Try.prog w = .ok (.bool a.isNone) w := fun w a n c n' c' => Lib.run_eql_slice_nil w _ _ a n c n' c' Try.underlying26
  clear hc hf hne
  go_enter Try.func75, Try.ntmps75
  go_wp2_with (at_builtin; refine wpList_append_own _ rfl (.tmp 5) (.tmp 6) 26 rfl w.heap.size 41 i0 (.agg #[.string ⟨#[]⟩, .bool false]) 2 24 Try.underlying26 hi hz0 hz1 hz2 rfl (by decide) _ 0 [] rfl hmade ⟨b, off, none⟩ xs.length c (keysV xs) rfl (by rw [keysV_len]) (fun j u hj => by rw [add_at']; exact Lib.cell?_alloc_some _ (HC.out j u hj)) (keysV_one _) (by unfold maxLen; omega) (by omega) (by simp) ?_; intro v' w1 hown hg _; have hb1 : Below w.heap.size w w1 := ((Below.refl w.heap.size w).alloc (Nat.le_refl _) _).grown hg (by simp) (fun k hk => (hmade.lt k hk).1); have HB1 := Lib.hid hb1; rw [Nat.zero_add, List.nil_append] at hown; obtain ⟨g, cap, rfl⟩ : ∃ g cap, v' = .slice (some ⟨g, 0, none⟩) xs.length cap := (by rcases hown.2 with ⟨_, h0⟩ | ⟨g, cap, cur, hv, _⟩; exact absurd h0 (by omega); exact ⟨g, cap, hv⟩); have HO := Lib.hid hown; clear hown hg hb1)
  go_ret
  have hlt := HO.out.lt g rfl
  exact ⟨g, cap, rfl, hlt.1, CR.of_own HO.out hlt.2, HB1.out⟩
set_option maxRecDepth 100000 in
theorem cloneI_any (A : Option Addr) (c : Nat) (xs : List Int) (w : World) (hf : IsAt w A xs) (hne : xs ≠ []) (hn : xs.length ≤ 5000) :
    Calls Try.prog 74 #[.slice A xs.length c] w fun e w' => ∃ g cap, e = .returned (.slice (some ⟨g, 0, none⟩) xs.length cap) ∧ w.heap.size ≤ g ∧ CR w' g (intsV xs) ∧ Below w.heap.size w w' := by
  obtain ⟨b, off, rfl, hb, hc⟩ := hf.cells hne
  obtain ⟨i0, hi, hz0, hz1, hz2⟩ := info_parts infoIn
  have HC := Lib.hid hc
  have hpos : 0 < xs.length := List.length_pos_iff.2 hne
  have hmade : (w.alloc (.cells #[] 3)).ownsRow w.heap.size 3 1 (.slice (some ⟨w.heap.size, 0, none⟩) 0 0) 0 [] := World.ownsRow_made w #[] 0 (Nat.le_refl _) (Nat.zero_le _) rfl
  have q33 : ∀ (w : World) (a : Option Addr) (n c n' c' : Nat), (binOp .eql 25 (.slice a n c) (.slice none n' c')).run Try.prog w = .ok (.bool a.isNone) w := fun w a n c n' c' => Lib.run_eql_slice_nil w _ _ a n c n' c' Try.underlying25
  clear hc hf hne
  go_enter Try.func74, Try.ntmps74
  go_wp2_with (at_builtin; refine wpList_append_own _ rfl (.tmp 5) (.tmp 6) 25 rfl w.heap.size 3 i0 (.int .i64 0) 1 8 Try.underlying25 hi hz0 hz1 hz2 rfl (by decide) _ 0 [] rfl hmade ⟨b, off, none⟩ xs.length c (intsV xs) rfl (by rw [intsV_len, Nat.mul_one]) (fun j u hj => by rw [add_at']; exact Lib.cell?_alloc_some _ (HC.out j u hj)) (intsV_one _) (by unfold maxLen; omega) (by omega) (by simp) ?_; intro v' w1 hown hg _; have hb1 : Below w.heap.size w w1 := ((Below.refl w.heap.size w).alloc (Nat.le_refl _) _).grown hg (by simp) (fun k hk => (hmade.lt k hk).1); have HB1 := Lib.hid hb1; rw [Nat.zero_add, List.nil_append] at hown; obtain ⟨g, cap, rfl⟩ : ∃ g cap, v' = .slice (some ⟨g, 0, none⟩) xs.length cap := (by rcases hown.2 with ⟨_, h0⟩ | ⟨g, cap, cur, hv, _⟩; exact absurd h0 (by omega); exact ⟨g, cap, hv⟩); have HO := Lib.hid hown; clear hown hg hb1)
  go_ret
  have hlt := HO.out.lt g rfl
  exact ⟨g, cap, rfl, hlt.1, CR.of_own HO.out hlt.2, HB1.out⟩
set_option maxRecDepth 100000 in
theorem make_zeros (n : Nat) (w : World) (hn : n ≤ 16777216) :
    ∃ w' : World, (Instr.makeSlice 25 (.int .i64 (n : Int)) (.int .i64 (n : Int))).run Try.prog w = .ok (.slice (some ⟨w.heap.size, 0, none⟩) n n) w' ∧ CR w' w.heap.size (intsV (List.replicate n 0)) ∧ Below w.heap.size w w' := by
  obtain ⟨i0, hi, hz0, hz1, hz2⟩ := info_parts infoIn
  obtain ⟨w', h1, h2, h3⟩ := run_makeSlice_full w w.heap.size 25 3 i0 _ 1 Try.underlying25 hi hz0 hz1 .i64 .i64 n (by omega) (by rw [hz2]; omega) (by unfold maxLen; omega) (Nat.le_refl _)
  refine ⟨w', h1, ?_, (Below.refl _ _).grown h3 (Nat.le_refl _) (fun k hk => by cases hk)⟩
  have e : (madeCells (Value.int .i64 0).cells (n * 1)).toList = intsV (List.replicate n 0) := by
    have e : (Value.int .i64 0).cells = #[.int .i64 0] := rfl
    rw [e, Nat.mul_one]
    apply List.ext_getElem?
    intro j
    simp only [madeCells, intsV]
    by_cases hj : j < n <;> simp [hj, Nat.mod_one]
  have h4 := CR.of_own h2 (h2.lt _ rfl).2
  rw [e] at h4
  exact h4
end Go.Proofs.Ytebjhjmlpodkgaa.KK
