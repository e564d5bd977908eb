/-
  Sort and Newest of whatever list: of none, of what is no list of entries, of entries.
-/
import Derived.Test.YtmobjpmkenpckaaDoorGg
import Derived.Test.YtmobjpmkenpckaaDoorFb
namespace Go.Proofs.YtmobjpmkenpckaaDoor.KK
open Go.ChangeShapes Go.WideShapes Go.ChangeAt Go.RowKit Go.Proofs Go.Sort

theorem ins_nil (A : Option Addr) (c : Nat) (w : World) : Calls Tryd.prog 52 #[.slice A 0 c, .int .i64 0, .int .i64 0, .func (.func 27) #[.agg #[]] #[]] w fun e w' => e = .returned (.tuple #[]) ∧ Below w.heap.size w w' := by
  go_enter Tryd.func52, Tryd.ntmps52
  go_wp2_with fail
  refine wp_loop_rounds 1 ?_
  rw [rounds_succ]
  go_wp2_with fail
  go_end0
  exact ⟨rfl, Below.refl _ _⟩
theorem sta_nil (A : Option Addr) (c : Nat) (w : World) : Calls Tryd.prog 43 #[.slice A 0 c, .int .i64 0, .func (.func 27) #[.agg #[]] #[]] w fun e w' => e = .returned (.tuple #[]) ∧ Below w.heap.size w w' := by
  have J := Lib.hid (ins_nil A c w)
  go_enter Tryd.func43, Tryd.ntmps43
  go_wp2_with fail
  refine wp_loop_rounds 1 ?_
  rw [rounds_succ]
  go_wp2_with fail
  refine J.out.mono ?_
  rintro e w1 ⟨rfl, hb⟩
  have HB := Lib.hid hb
  clear hb J
  go_wp2_with fail
  refine wp_loop_rounds 1 ?_
  rw [rounds_succ]
  go_wp2_with fail
  go_end0
  exact ⟨rfl, HB.out⟩
theorem ssf_nil (A : Option Addr) (c : Nat) (w : World) : Calls Tryd.prog 26 #[.slice A 0 c, .func (.func 27) #[.agg #[]] #[]] w fun e w' => e = .returned (.tuple #[]) ∧ Below w.heap.size w w' := by
  have J := Lib.hid (sta_nil A c w)
  go_enter Tryd.func26, Tryd.ntmps26
  go_wp2_with fail
  refine J.out.mono ?_
  rintro e w1 ⟨rfl, hb⟩
  have HB := Lib.hid hb
  clear hb J
  go_wp2_with fail
  go_end0
  exact ⟨rfl, HB.out⟩
set_option maxRecDepth 100000 in
theorem cln_nil (A : Option Addr) (c : Nat) (w : World) : Calls Tryd.prog 25 #[.slice A 0 c] w fun e w' => ∃ A' c', e = .returned (.slice A' 0 c') ∧ Below w.heap.size w w' := by
  obtain ⟨i0, hi, hz0, hz1, hz2⟩ := info_parts infoE
  have q33 : ∀ (w : World) (a : Option Addr) (n c n' c' : Nat), (binOp .eql 22 (.slice a n c) (.slice none n' c')).run Tryd.prog w = .ok (.bool a.isNone) w := fun w a n c n' c' => Lib.run_eql_slice_nil w _ _ a n c n' c' Tryd.underlying22
  have hmade : (w.alloc (.cells #[] 33)).ownsRow w.heap.size 33 4 (.slice (some ⟨w.heap.size, 0, none⟩) 0 0) 0 [] := World.ownsRow_made w #[] 0 (Nat.le_refl _) (Nat.zero_le _) rfl
  cases A with
  | none =>
    go_enter Tryd.func25, Tryd.ntmps25
    go_wp2_with fail
    go_ret
    exact ⟨none, 0, rfl, Below.refl _ _⟩
  | some a =>
    go_enter Tryd.func25, Tryd.ntmps25
    go_wp2_with (at_builtin; refine wpList_append_own _ rfl (.tmp 5) (.tmp 6) 22 rfl w.heap.size 33 i0 (.agg #[.string ⟨#[]⟩, .string ⟨#[]⟩, .bool false, .int .i64 0]) 4 48 Tryd.underlying22 hi hz0 hz1 hz2 rfl (by decide) _ 0 [] rfl hmade a 0 c [] rfl rfl (fun j u hj => by simp at hj) (fun u hu => by simp at hu) (by unfold maxLen; omega) (by omega) (by simp) ?_; intro v' w1 hown hg _; have hb1 : Below w.heap.size w w1 := ((Below.refl w.heap.size w).alloc (Nat.le_refl _) _).grown hg (by simp) (fun k hk => (hmade.lt k hk).1); have HB1 := Lib.hid hb1; obtain ⟨A', c', rfl⟩ := own_slice hown; clear hb1 hg hown hmade)
    go_ret
    first | exact ⟨A', c', rfl, HB1.out⟩ | exact ⟨⟨A', c', rfl⟩, HB1.out⟩
theorem cpt_nil (A : Option Addr) (c : Nat) (w : World) : Calls Tryd.prog 30 #[.slice A 0 c, .func (.func 31) #[] #[]] w fun e w' => e = .returned (.slice A 0 c) ∧ Below w.heap.size w w' := by
  go_enter Tryd.func30, Tryd.ntmps30
  go_wp2_with fail
  go_ret
  exact ⟨rfl, Below.refl _ _⟩
set_option maxRecDepth 100000 in
theorem sort_nil (A : Option Addr) (c : Nat) (w : World) : Calls Tryd.prog 8 #[.slice A 0 c] w fun e w' => ∃ A' c', e = .returned (.tuple #[.slice A' 0 c', .int .i64 0]) ∧ Below w.heap.size w w' := by
  have J1 := Lib.hid (checkAll_any A c [] w (.inl rfl) (by simp) (fun x hx => by cases hx))
  have e0 : allE [] = 0 := rfl
  rw [e0, List.length_nil] at J1
  go_enter Tryd.func8, Tryd.ntmps8
  go_wp2_with fail
  refine J1.out.mono ?_
  rintro e w1 ⟨rfl, hb⟩
  have HB := Lib.hid hb
  clear hb J1
  go_wp2_with fail
  refine (cln_nil A c _).mono ?_
  rintro e w2 ⟨A', c', rfl, hb⟩
  have HB := Lib.hid (eb_of HB.out hb (Nat.le_refl _))
  clear hb
  go_wp2_with fail
  refine (ssf_nil A' c' _).mono ?_
  rintro e w3 ⟨rfl, hb⟩
  have HB := Lib.hid (eb_of HB.out hb (Nat.le_refl _))
  clear hb
  go_wp2_with fail
  go_ret2
  exact ⟨A', c', rfl, HB.out⟩
set_option maxRecDepth 100000 in
theorem sort_err (A : Option Addr) (c : Nat) (xs : List El.En) (w : World) (hf : EsAt w A xs) (hn : xs.length ≤ 4294967295) (hs : Sized xs) (he : allE xs ≠ 0) : Calls Tryd.prog 8 #[.slice A xs.length c] w fun e w' => e = .returned (.tuple #[.slice none 0 0, .int .i64 (allE xs)]) ∧ Below w.heap.size w w' := by
  have J1 := Lib.hid (checkAll_any A c xs w hf hn hs)
  obtain ⟨b1, b2⟩ := ne_b he
  clear hf hs he
  generalize allE xs = r at *
  go_enter Tryd.func8, Tryd.ntmps8
  go_wp2_with fail
  refine J1.out.mono ?_
  rintro e w1 ⟨rfl, hb⟩
  have HB := Lib.hid hb
  clear hb J1
  go_wp2_with fail
  go_ret2
  exact ⟨rfl, HB.out⟩
set_option maxRecDepth 100000 in
theorem newest_nil (A : Option Addr) (c : Nat) (w : World) : Calls Tryd.prog 11 #[.slice A 0 c] w fun e w' => ∃ A' c', e = .returned (.tuple #[.slice A' 0 c', .int .i64 0]) ∧ Below w.heap.size w w' := by
  go_enter Tryd.func11, Tryd.ntmps11
  go_wp2_with fail
  refine (sort_nil A c _).mono ?_
  rintro e w1 ⟨A', c', rfl, hb⟩
  have HB := Lib.hid hb
  clear hb
  go_wp2_with fail
  refine (cpt_nil A' c' _).mono ?_
  rintro e w2 ⟨rfl, hb⟩
  have HB := Lib.hid (eb_of HB.out hb (Nat.le_refl _))
  clear hb
  go_wp2_with fail
  go_ret2
  exact ⟨A', c', rfl, HB.out⟩
set_option maxRecDepth 100000 in
theorem newest_err (A : Option Addr) (c : Nat) (xs : List El.En) (w : World) (hf : EsAt w A xs) (hn : xs.length ≤ 4294967295) (hs : Sized xs) (he : allE xs ≠ 0) : Calls Tryd.prog 11 #[.slice A xs.length c] w fun e w' => e = .returned (.tuple #[.slice none 0 0, .int .i64 (allE xs)]) ∧ Below w.heap.size w w' := by
  have J1 := Lib.hid (sort_err A c xs w hf hn hs he)
  obtain ⟨b1, b2⟩ := ne_b he
  clear hf hs he
  generalize allE xs = r at *
  go_enter Tryd.func11, Tryd.ntmps11
  go_wp2_with fail
  refine J1.out.mono ?_
  rintro e w1 ⟨rfl, hb⟩
  have HB := Lib.hid hb
  clear hb J1
  go_wp2_with fail
  go_ret2
  exact ⟨rfl, HB.out⟩
/-- entries, each of which is one -/
theorem to_V : ∀ (xs : List El.En), (∀ x ∈ xs, El.chk x = 0) → ∃ l : List V, l.map (·.1) = xs
  | [], _ => ⟨[], rfl⟩
  | x :: t, h => by
    obtain ⟨l, hl⟩ := to_V t (fun y hy => h y (by simp [hy]))
    exact ⟨⟨x, h x (by simp)⟩ :: l, by simp [hl]⟩
theorem allE_ok {xs : List El.En} (h : allE xs = 0) : xs.length ≤ 5000 ∧ ∀ x ∈ xs, El.chk x = 0 := by
  unfold allE at h
  by_cases g : 5000 < xs.length
  · rw [if_pos g] at h; cases h
  · rw [if_neg g] at h; exact ⟨by omega, firstE_all h⟩
/-- what Sort hands back -/
def SortOut (xs ys : List El.En) : Prop := (allE xs ≠ 0 ∧ ys = []) ∨ (allE xs = 0 ∧ ∃ l l' : List V, l.map (·.1) = xs ∧ l'.map (·.1) = ys ∧ Stb.Stab leV l l')
def NewOut (xs ys : List El.En) : Prop := (allE xs ≠ 0 ∧ ys = []) ∨ (allE xs = 0 ∧ ∃ l l' : List V, l.map (·.1) = xs ∧ (cpt l').map (·.1) = ys ∧ Stb.Stab leV l l')
theorem Sort_full (A : Option Addr) (c : Nat) (xs : List El.En) (w : World) (hf : EsAt w A xs) (hn : xs.length ≤ 4294967295) (hs : Sized xs) :
    Calls Tryd.prog 8 #[.slice A xs.length c] w fun e w' => ∃ A' c' ys, e = .returned (.tuple #[.slice A' ys.length c', .int .i64 (allE xs)]) ∧ SortOut xs ys ∧ EsAt w' A' ys ∧ Below w.heap.size w w' := by
  by_cases he : allE xs = 0
  · obtain ⟨h1, h2⟩ := allE_ok he
    obtain ⟨l, rfl⟩ := to_V xs h2
    by_cases h0 : l = []
    · subst h0
      refine (sort_nil A c w).mono ?_
      rintro e w' ⟨A', c', rfl, hb⟩
      exact ⟨A', c', [], by rw [he]; rfl, .inr ⟨he, [], [], rfl, rfl, Stb.Stab.refl List.Pairwise.nil⟩, .inl rfl, hb⟩
    · have hl : l.length ≤ 5000 := by simpa using h1
      have K := Sort_any A c l w hf h0 hl (stable_any _ (by omega))
      rw [List.length_map]
      refine K.mono ?_
      rintro e w' ⟨A', c', l', rfl, hst, ho, hb, _⟩
      refine ⟨A', c', l'.map (·.1), ?_, .inr ⟨he, l, l', rfl, rfl, hst⟩, ho.esAt, hb⟩
      rw [he, List.length_map, Stb.stab_length preV hst]
  · refine (sort_err A c xs w hf hn hs he).mono ?_
    rintro e w' ⟨rfl, hb⟩
    exact ⟨none, 0, [], rfl, .inl ⟨he, rfl⟩, .inl rfl, hb⟩
theorem Newest_full (A : Option Addr) (c : Nat) (xs : List El.En) (w : World) (hf : EsAt w A xs) (hn : xs.length ≤ 4294967295) (hs : Sized xs) :
    Calls Tryd.prog 11 #[.slice A xs.length c] w fun e w' => ∃ A' c' ys, e = .returned (.tuple #[.slice A' ys.length c', .int .i64 (allE xs)]) ∧ NewOut xs ys ∧ EsAt w' A' ys ∧ Below w.heap.size w w' := by
  by_cases he : allE xs = 0
  · obtain ⟨h1, h2⟩ := allE_ok he
    obtain ⟨l, rfl⟩ := to_V xs h2
    by_cases h0 : l = []
    · subst h0
      refine (newest_nil A c w).mono ?_
      rintro e w' ⟨A', c', rfl, hb⟩
      exact ⟨A', c', [], by rw [he]; rfl, .inr ⟨he, [], [], rfl, rfl, Stb.Stab.refl List.Pairwise.nil⟩, .inl rfl, hb⟩
    · have hl : l.length ≤ 5000 := by simpa using h1
      have K := Newest_any A c l w hf h0 hl (stable_any _ (by omega))
      rw [List.length_map]
      refine K.mono ?_
      rintro e w' ⟨A', c', l', rfl, hst, ho, hb⟩
      exact ⟨A', c', (cpt l').map (·.1), by rw [he, List.length_map], .inr ⟨he, l, l', rfl, rfl, hst⟩, ho.esAt, hb⟩
  · refine (newest_err A c xs w hf hn hs he).mono ?_
    rintro e w' ⟨rfl, hb⟩
    exact ⟨none, 0, [], rfl, .inl ⟨he, rfl⟩, .inl rfl, hb⟩
end Go.Proofs.YtmobjpmkenpckaaDoor.KK
