/-
  The contract of ParseList.
-/
import Derived.Test.YthifbihmogjjpaaDoorXx
namespace Go.Proofs.YthifbihmogjjpaaDoor
open Go.ChangeShapes Go.WideShapes Go.ChangeAt Go.RowKit Go.Proofs

theorem spansFrom_len : ∀ (p : Option (List UInt8)) (ts : List (List UInt8)) (xs : List (List UInt8 × List UInt8)) (B : Nat), Pl.spansFrom p ts = some xs → (∀ t ∈ ts, t.length ≤ B) → ∀ x ∈ xs, x.1.length ≤ B ∧ x.2.length ≤ B ∧ Pl.nat x.1 = true ∧ Pl.nat x.2 = true
  | p, [], xs, B, h, _ => by rw [Pl.spansFrom] at h; cases h; simp
  | p, t :: ts, xs, B, h, hB => by
    rw [Pl.spansFrom] at h
    cases hrs : Pl.rs t with
    | none => rw [hrs] at h; cases h
    | some x =>
      rw [hrs] at h
      simp only at h
      have key : ∀ b : Bool, (if b = true then (Pl.spansFrom (some x.2) ts).map (x :: ·) else none) = some xs → ∀ x ∈ xs, x.1.length ≤ B ∧ x.2.length ≤ B ∧ Pl.nat x.1 = true ∧ Pl.nat x.2 = true := fun b h => by
        cases b with
        | false => cases h
        | true =>
          rw [if_pos rfl] at h
          cases hr : Pl.spansFrom (some x.2) ts with
          | none => rw [hr] at h; cases h
          | some ys =>
            rw [hr] at h
            simp only [Option.map_some, Option.some.injEq] at h
            subst h
            intro z hz
            rcases List.mem_cons.1 hz with rfl | hz
            · have g := Pl.rs_len hrs
              have g2 := hB t (by simp)
              exact ⟨by omega, by omega, g.2.2.1, g.2.2.2⟩
            · exact spansFrom_len _ ts ys B hr (fun t ht => hB t (by simp [ht])) z hz
      exact key _ h
theorem spans_len {t : List UInt8} {xs : List (List UInt8 × List UInt8)} (h : Pl.spans t = some xs) : xs.length ≤ t.length + 1 ∧ ∀ x ∈ xs, x.1.length ≤ t.length ∧ x.2.length ≤ t.length ∧ Pl.nat x.1 = true ∧ Pl.nat x.2 = true := by
  refine ⟨?_, spansFrom_len _ _ _ _ h (Pl.segs_mem_len 44 t)⟩
  have h1 := Pl.spansFrom_ne _ _ _ h
  have h2 := Pl.segs_len 44 t
  omega

set_option maxRecDepth 100000 in
set_option maxHeartbeats 1000000 in
theorem ParseList_any (t : List UInt8) (w : World) (he : Env w) (h4 : C4 w) (hs : t.length ≤ 1000000000) :
    Calls Tryd.prog 18 #[.string ⟨t.toArray⟩] w (IntsOut (Pl.plist t) w) := by
  by_cases ht : t = [45]
  · subst ht
    go_enter Tryd.func18, Tryd.ntmps18
    go_wp2_with fail
    go_ret2
    exact intsG w w none 0 rfl (.inl rfl) (Below.refl _ _) _ rfl
  have ht2 : (t == [45]) = false := by simpa using ht
  have K1 := readSpans_any t w he h4 hs
  cases hsp : Pl.spans t with
  | none =>
    have HR : Hid (Pl.plist t = (6, [])) := Lib.hid (by unfold Pl.plist; rw [if_neg ht, hsp])
    rw [hsp] at K1
    unfold SpansOut at K1
    have J1 := Lib.hid K1
    clear K1 hsp he h4
    go_enter Tryd.func18, Tryd.ntmps18
    go_wp2_with fail
    refine J1.out.mono ?_
    rintro e w1 ⟨A, c, rfl, _, hb1⟩
    have HB1 := Lib.hid hb1
    clear hb1
    go_wp2_with fail
    go_ret2
    exact intsG w _ none 0 HR.out (.inl rfl) HB1.out _ rfl
  | some xs =>
    obtain ⟨hl1, hl2⟩ := spans_len hsp
    have hne := Pl.spans_ne hsp
    rcases snoc_or xs with h | ⟨ys, y, rfl⟩
    · exact absurd h hne
    obtain ⟨y1, y2⟩ := y
    have hyl := (hl2 (y1, y2) (by simp)).2.1
    replace hyl : y2.length ≤ t.length := hyl
    have HP : Hid (Pl.plist t = if (Pl.intE y2 0 1000000000).1 = 0 then Pl.numsF [] (ys ++ [(y1, y2)]) else ((Pl.intE y2 0 1000000000).1, [])) := Lib.hid (by
      unfold Pl.plist; rw [if_neg ht, hsp]; simp)
    have HL2 : Hid (∀ x ∈ ys ++ [(y1, y2)], x.1.length ≤ 1000000000 ∧ x.2.length ≤ 1000000000) := Lib.hid fun x hx => by have := hl2 x hx; exact ⟨by omega, by omega⟩
    obtain ⟨n, hn⟩ : ∃ n, ys.length = n := ⟨_, rfl⟩
    have hn1 : (ys ++ [(y1, y2)]).length = n + 1 := by simp [hn]
    rw [hn1] at hl1
    have K2 : Calls Tryd.prog 37 #[.string ⟨t.toArray⟩] w fun e w' => ∃ A c, e = .returned (.tuple #[.slice A (n + 1) c, .bool true]) ∧ SpansAt w' A (ys ++ [(y1, y2)]) ∧ Below w.heap.size w w' := by
      rw [hsp] at K1
      unfold SpansOut at K1
      simp only [Option.getD_some, Option.isSome_some, hn1] at K1
      exact K1
    have K3 : ∀ A c w, Env w → SpansAt w A (ys ++ [(y1, y2)]) → Calls Tryd.prog 38 #[.slice A (n + 1) c] w (IntsOut (Pl.numsF [] (ys ++ [(y1, y2)])) w) := fun A c w he hf => by
      have := numbersOf_any A c (ys ++ [(y1, y2)]) w he hf (by rw [hn1]; omega) HL2.out
      rwa [hn1] at this
    have J1 := Lib.hid K2
    have J3 := Lib.hid K3
    have J2 := Lib.hid (fun w hl => Int_f y2 w hl (by omega))
    obtain ⟨r, hr⟩ : ∃ r, (Pl.intE y2 0 1000000000).1 = r := ⟨_, rfl⟩
    obtain ⟨v, hv⟩ : ∃ v, Pl.iv y2 = v := ⟨_, rfl⟩
    rw [hr] at HP J2
    rw [hv] at J2
    have HE := Lib.hid he
    have HN := Lib.hid hn
    have hs1 : ((n + 1 : Nat) : Int) - 1 = (n : Int) := by omega
    have hs2 : IntKind.i64.wrap (n : Int) = (n : Int) := IntWalk.i64_in _ (by omega)
    have hs3 : IntKind.i64.wrap (((n + 1 : Nat) : Int) - 1) = (n : Int) := by rw [hs1]; exact hs2
    have hb0 : (0 : Int) ≤ (n : Int) := by omega
    have hb1 : (n : Int) < ((n + 1 : Nat) : Int) := by omega
    have hb2 : (n : Int) < (n : Int) + 1 := by omega
    clear K1 K2 K3 hsp he h4 hl2 hne hr hv hn hn1
    go_enter Tryd.func18, Tryd.ntmps18
    go_wp2_with fail
    refine J1.out.mono ?_
    rintro e w1 ⟨A, c, rfl, hsa, hb3⟩
    have HSA := Lib.hid hsa
    have HB1 := Lib.hid hb3
    have HE1 := Lib.hid (HE.out.below hb3)
    clear hsa hb3
    rcases HSA.out with h | ⟨gs, rfl, hgl, hcs⟩
    · exact absurd h (by simp)
    have hlast := (hcs ys.length (by simp)).2
    rw [List.getElem_append_right (by simp)] at hlast
    simp only [Nat.sub_self, List.getElem_cons_zero] at hlast
    rw [HN.out] at hlast
    clear hcs
    go_wp2_with fail
    refine (J2.out _ HE1.out.2.1).mono ?_
    rintro e w2 ⟨rfl, hb3⟩
    have HB2 := Lib.hid (below_of HB1.out hb3 (Nat.le_refl _))
    have HE2 := Lib.hid (HE1.out.below hb3)
    have HSA2 := Lib.hid (HSA.out.below hb3 (Nat.le_refl _))
    clear hb3
    by_cases hr0 : r = 0
    · subst hr0
      have hp := HP.out
      rw [if_pos rfl] at hp
      have HP2 := Lib.hid hp
      clear hp
      go_wp2_with fail
      refine (J3.out _ _ _ HE2.out HSA2.out).mono ?_
      rintro e w3 ⟨A3, c3, rfl, hia, hb3⟩
      have HIA := Lib.hid hia
      have HB3 := Lib.hid (below_of HB2.out hb3 (Nat.le_refl _))
      clear hia hb3
      go_wp2_with fail
      go_ret2
      refine ⟨A3, c3, ?_, ?_, HB3.out⟩
      · rw [HP2.out]; rfl
      · rw [HP2.out]; exact HIA.out
    · have hp := HP.out
      rw [if_neg hr0] at hp
      have HP2 := Lib.hid hp
      have x1 : (r == 0) = false := by rw [beq_eq_false_iff_ne]; exact hr0
      have x2 : (r != 0) = true := by rw [bne_iff_ne]; exact hr0
      clear hp hr0
      go_wp2_with fail
      go_ret2
      exact intsG w _ none 0 HP2.out (.inl rfl) HB2.out _ rfl
end Go.Proofs.YthifbihmogjjpaaDoor
