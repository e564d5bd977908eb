/-
  Contract of readBare; a scope with several labels.
-/
import Derived.Test.YthifbihmogjjpaaDoorWg
import Derived.Test.YthifbihmogjjpaaDoorPg
namespace Go.Proofs.YthifbihmogjjpaaDoor
open Go.ChangeShapes Go.WideShapes Go.ChangeAt Go.RowKit Go.Proofs

theorem ret_sib {s s' : ByteArray} {a a' : Int} {b b' : Bool} (h1 : s = s') (h2 : a = a') (h3 : b = b') :
    Ending.returned (.tuple #[.string s, .int .i64 a, .bool b]) = Ending.returned (.tuple #[.string s', .int .i64 a', .bool b']) := by rw [h1, h2, h3]
theorem readBare_any (s : ByteArray) (k0 : Nat) (w : World) (hs : s.size ≤ 4294967295) (hk0 : k0 ≤ s.size) :
    Calls Tryd.prog 64 #[.string s, .int .i64 (k0 : Int)] w fun e w' => e = .returned (.tuple #[.string ⟨(((Pl.L s).drop k0).take (Pl.bareN ((Pl.L s).drop k0))).toArray⟩, .int .i64 ((k0 : Int) + (Pl.bareN ((Pl.L s).drop k0) : Int)), .bool (decide (0 < Pl.bareN ((Pl.L s).drop k0)))]) ∧ w = w' := by
  go_enter Tryd.func64, Tryd.ntmps64
  go_wp2_with fail
  go_loop [7] (fun i => ∃ k : Nat, k0 ≤ k ∧ k ≤ s.size ∧ i = .int .i64 k ∧ (((Pl.L s).drop k0).take (k - k0)).all Pl.bareC = true) (fun i => s.size - (intOf i).toNat)
  case atStart => exact ⟨k0, Nat.le_refl _, hk0, rfl, by simp⟩
  case round =>
    obtain ⟨k, hk1, hk, rfl, ha⟩ := hrel
    have Ha := Lib.hid ha
    clear ha
    have hsl : ∀ (hq : k ≤ s.size), s.extract k0 k = ⟨(((Pl.L s).drop k0).take (k - k0)).toArray⟩ := fun _ => Lib.extract_eq s k0 k
    have HS := Lib.hid (hsl hk)
    clear hsl
    by_cases hlt : k < s.size
    · by_cases hd : Pl.bareC s[k] = true
      · have HN := Lib.hid (Pl.bare_step s k0 k hk1 hlt Ha.out hd)
        go_wp2_with (go_at_call 50; refine (isBareByte_any _ _).mono ?_; rintro e w' ⟨rfl, rfl⟩)
        go_round
        case rel => exact ⟨k + 1, by omega, by omega, by go_num, HN.out⟩
        case measure => simp [intOf]; omega
      · have hd' : Pl.bareC s[k] = false := by simpa using hd
        have HN := Lib.hid (Pl.bare_stop s k0 k hk1 hlt Ha.out hd')
        clear hd
        go_wp2_with (go_at_call 50; refine (isBareByte_any _ _).mono ?_; rintro e w' ⟨rfl, rfl⟩)
        go_ret3
        have hn := HN.out
        refine ⟨?_, rfl⟩
        rw [hn, ← HS.out]
        exact ret_sib rfl (by omega) (by simp; omega)
    · have HN := Lib.hid (Pl.bare_end s k0 k hk1 hk (by omega) Ha.out)
      go_wp2_with fail
      go_ret3
      have hn := HN.out
      refine ⟨?_, rfl⟩
      rw [hn, ← HS.out]
      exact ret_sib rfl (by omega) (by simp; omega)

/-- every goto to label l: J l; every other way out: Q -/
def jumps (J : Nat → Act → World → Prop) (Q : Exit → Act → World → Prop) : Exit → Act → World → Prop
  | .goto l, a, w => J l a w
  | e, a, w => Q e a w
/-- a scope that is left by gotos among several of its labels, each of which lowers a measure -/
theorem wp_scope_labels {P : Program} {a : Act} {w : World} {Q : Exit → Act → World → Prop} {c : Code} (J : Nat → Act → World → Prop) (m : Nat → Act → World → Nat)
    (first : c.wp P (jumps J Q) a w)
    (pass : ∀ l a w, J l a w → ∃ rest, findLabel c l = some rest ∧ rest.wp P (jumps (fun l' a' w' => J l' a' w' ∧ m l' a' w' < m l a w) Q) a w) : (Code.scope c).wp P Q a w := by
  intro b k cs
  have hg : ∀ {l rest}, findLabel c l = some rest → gotoIn l (.inScope c :: k) = some (.code rest :: .inScope c :: k) := fun hf => by simp [gotoIn, hf]
  have key : ∀ n l a w rest, m l a w = n → J l a w → findLabel c l = some rest → ∃ e a' w', Q e a' w' ∧ Arrives P (lone (b.at a (.code rest :: .inScope c :: k)) cs w) b k cs e a' w' := by
    intro n
    induction n using Nat.strongRecOn with
    | _ n ih =>
      intro l a w rest hn hJ hf
      obtain ⟨rest', hf', hp⟩ := pass l a w hJ
      rw [hf] at hf'; cases hf'
      obtain ⟨e, a1, w1, hq, harr⟩ := hp b (.inScope c :: k) cs
      cases e with
      | normal => exact ⟨.normal, a1, w1, hq, Steps.trans harr (.one step_inScope)⟩
      | exit id => exact ⟨.exit id, a1, w1, hq, fun k' hk => harr k' (by simp [exitTo, hk])⟩
      | goto l2 =>
        obtain ⟨hJ2, hlt⟩ := hq
        obtain ⟨rest2, hf2, _⟩ := pass l2 a1 w1 hJ2
        obtain ⟨e2, a2, w2, hq2, harr2⟩ := ih _ (by omega) l2 a1 w1 rest2 rfl hJ2 hf2
        exact ⟨e2, a2, w2, hq2, .of_steps (harr _ (hg hf2)) harr2⟩
      | ret => exact ⟨_, a1, w1, hq, harr⟩
      | panic ch => exact ⟨_, a1, w1, hq, harr⟩
      | outgrown => exact ⟨_, a1, w1, hq, harr⟩
  obtain ⟨e, a1, w1, hq, harr⟩ := first b (.inScope c :: k) cs
  cases e with
  | normal => exact ⟨.normal, a1, w1, hq, .head step_scope (Steps.trans harr (.one step_inScope))⟩
  | exit id => exact ⟨.exit id, a1, w1, hq, fun k' hk => .head step_scope (harr k' (by simp [exitTo, hk]))⟩
  | goto l2 =>
    obtain ⟨rest2, hf2, _⟩ := pass l2 a1 w1 hq
    obtain ⟨e2, a2, w2, hq2, harr2⟩ := key _ l2 a1 w1 rest2 rfl hq hf2
    exact ⟨e2, a2, w2, hq2, .of_steps (.head step_scope (harr _ (hg hf2))) harr2⟩
  | ret => exact ⟨_, a1, w1, hq, .of_steps (.one step_scope) harr⟩
  | panic ch => exact ⟨_, a1, w1, hq, .of_steps (.one step_scope) harr⟩
  | outgrown => exact ⟨_, a1, w1, hq, .of_steps (.one step_scope) harr⟩
theorem wpIn_scope_labels {n : Nat} {P : Program} {a : Act} {w : World} {Q : Exit → Act → World → Prop} {c : Code} (J : Nat → Act → World → Prop) (m : Nat → Act → World → Nat)
    (first : c.wpIn Fence.wide n P (jumps J Q) a w)
    (pass : ∀ l a w, J l a w → ∃ rest, findLabel c l = some rest ∧ rest.wpIn Fence.wide n P (jumps (fun l' a' w' => J l' a' w' ∧ m l' a' w' < m l a w) Q) a w) : (Code.scope c).wpIn Fence.wide n P Q a w :=
  wpIn_wide.2 (wp_scope_labels J m (wpIn_wide.1 first) fun l a w h => let ⟨rest, hf, hp⟩ := pass l a w h; ⟨rest, hf, wpIn_wide.1 hp⟩)
end Go.Proofs.YthifbihmogjjpaaDoor
