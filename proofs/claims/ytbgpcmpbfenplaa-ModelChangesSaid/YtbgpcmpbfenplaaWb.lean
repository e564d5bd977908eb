/-
  Turn of the reference.
-/
import Derived.Test.YtbgpcmpbfenplaaWa
namespace Go.Proofs.Ytbgpcmpbfenplaa.KK
open Go.ChangeShapes Go.WideShapes Go.ChangeAt Go.RowKit Go.Proofs

set_option maxRecDepth 100000 in
set_option maxHeartbeats 4000000 in
theorem rTurn_any (A : Option Addr) (c : Nat) (xs : List It) (w : World) (hf : ItAt w A xs) (hn : xs.length ≤ 4294967295) :
    Calls Try.prog 24 #[.slice A xs.length c] w (TOut xs w) := by
  obtain ⟨i0, hi0, hz0, hz1, hz2⟩ := info_parts infoD
  have HF := Lib.hid hf
  clear hf
  go_enter Try.func24, Try.ntmps24
  go_wp2_with fail
  go_loopw [3, 4] (fun a i wr => ∃ k : Nat, k ≤ xs.length ∧ ∃ v, a = v ∧ i = .int .i64 k ∧ wr.ownsRow w.heap.size 74 4 v k (cellsI (turnL (xs.take k))) ∧ Below w.heap.size w wr) (fun _ i _ => xs.length - (intOf i).toNat)
  case atStart => exact ⟨0, Nat.zero_le _, .slice none 0 0, rfl, rfl, World.ownsRow_nil _ _ _ _, Below.refl _ _⟩
  case round =>
    obtain ⟨k, hk, v, rfl, rfl, hown, hb⟩ := hrel
    have HB := Lib.hid hb
    have hsz := hb.size
    obtain ⟨A4, c4, hv4, _, _⟩ := own_cap2 hown
    subst hv4
    by_cases hlt : k < xs.length
    rotate_left
    · have hke : xs.take k = xs := List.take_of_length_le (by omega)
      have hkl : k = xs.length := by omega
      rw [hke] at hown
      have HE := Lib.hid (ItAt.of_own hown)
      have HKL := Lib.hid hkl
      clear hown hb hkl
      go_wp2_with fail
      go_ret
      exact ⟨A4, c4, by rw [HKL.out]; rfl, HE.out, HB.out⟩
    rcases HF.out.below hb (Nat.le_refl _) with h0 | ⟨bb, off, rfl, hbl, hcl⟩
    · subst h0; simp at hlt
    obtain ⟨g0, g1, g2, g3⟩ := hcl k hlt
    clear hcl hb
    obtain ⟨kd, key, old, new, hxk⟩ : ∃ kd key old new, xs[k] = (kd, key, old, new) := ⟨_, _, _, _, rfl⟩
    rw [hxk] at g0 g1 g2 g3
    simp only at g0 g1 g2 g3
    by_cases h1 : kd = 1
    · subst h1
      have HXK : Hid (turnI xs[k] = (2, key, new, old)) := Lib.hid (by rw [hxk]; rfl)
      clear hxk
      have HT := Lib.hid (turn_next hlt)
      rw [HXK.out] at HT
      have HOW := Lib.hid (hown.alloc (.cells #[.int .i64 2, .string key, .string new, .string old] 74))
      have HWS := Lib.hid (eb_of HB.out (alloc_below wr (.cells #[.int .i64 2, .string key, .string new, .string old] 74)) (Nat.le_refl _))
      have e0 : (wr.alloc (.cells #[.int .i64 2, .string key, .string new, .string old] 74)).heap.size = wr.heap.size + 1 := by simp
      go_wp2_with (at_builtin; go_loud (refine wpList_append_own _ rfl (.tmp 34) (.tmp 36) 38 rfl w.heap.size 74 i0 (.agg #[.int .i64 0, .string ⟨#[]⟩, .string ⟨#[]⟩, .string ⟨#[]⟩]) 4 56 Try.underlying38 hi0 hz0 hz1 hz2 rfl (by decide) _ k _ rfl (HOW.out.alloc _) ⟨wr.heap.size + 1, 0, none⟩ 1 1 (itC (2, key, new, old)) rfl rfl (fun j u hj => by have h := newD (wr.alloc (.cells #[.int .i64 2, .string key, .string new, .string old] 74)) (2, key, new, old) j u hj; rwa [e0] at h) (by intro u hu; simp [itC] at hu; rcases hu with rfl | rfl | rfl | rfl <;> rfl) (by unfold maxLen; omega) (by omega) (by simp; omega) ?_; intro v5 w5 hown5 hg5 _; obtain ⟨A5, c5, hv5, _, _⟩ := own_cap2 hown5; subst hv5; have hb5 := (HWS.out.alloc HWS.out.size (.cells #[.int .i64 2, .string key, .string new, .string old] 74)).grown hg5 (by simp; omega) (fun g hg => (hown.lt g hg).1); have HB5 := Lib.hid hb5; have HO5 := Lib.hid hown5; clear hg5 hb5 hown5))
      go_roundw
      case rel => exact ⟨k + 1, by omega, .slice A5 (k + 1) c5, rfl, by go_num, by rw [HT.out, cellsI_snoc]; exact HO5.out, HB5.out⟩
      case measure => simp [intOf]; omega
    by_cases h2 : kd = 2
    · subst h2
      have HXK : Hid (turnI xs[k] = (1, key, new, old)) := Lib.hid (by rw [hxk]; rfl)
      clear hxk h1
      have HT := Lib.hid (turn_next hlt)
      rw [HXK.out] at HT
      have HOW := Lib.hid (hown.alloc (.cells #[.int .i64 1, .string key, .string new, .string old] 74))
      have HWS := Lib.hid (eb_of HB.out (alloc_below wr (.cells #[.int .i64 1, .string key, .string new, .string old] 74)) (Nat.le_refl _))
      have e0 : (wr.alloc (.cells #[.int .i64 1, .string key, .string new, .string old] 74)).heap.size = wr.heap.size + 1 := by simp
      go_wp2_with (at_builtin; go_loud (refine wpList_append_own _ rfl (.tmp 34) (.tmp 36) 38 rfl w.heap.size 74 i0 (.agg #[.int .i64 0, .string ⟨#[]⟩, .string ⟨#[]⟩, .string ⟨#[]⟩]) 4 56 Try.underlying38 hi0 hz0 hz1 hz2 rfl (by decide) _ k _ rfl (HOW.out.alloc _) ⟨wr.heap.size + 1, 0, none⟩ 1 1 (itC (1, key, new, old)) rfl rfl (fun j u hj => by have h := newD (wr.alloc (.cells #[.int .i64 1, .string key, .string new, .string old] 74)) (1, key, new, old) j u hj; rwa [e0] at h) (by intro u hu; simp [itC] at hu; rcases hu with rfl | rfl | rfl | rfl <;> rfl) (by unfold maxLen; omega) (by omega) (by simp; omega) ?_; intro v5 w5 hown5 hg5 _; obtain ⟨A5, c5, hv5, _, _⟩ := own_cap2 hown5; subst hv5; have hb5 := (HWS.out.alloc HWS.out.size (.cells #[.int .i64 1, .string key, .string new, .string old] 74)).grown hg5 (by simp; omega) (fun g hg => (hown.lt g hg).1); have HB5 := Lib.hid hb5; have HO5 := Lib.hid hown5; clear hg5 hb5 hown5))
      go_roundw
      case rel => exact ⟨k + 1, by omega, .slice A5 (k + 1) c5, rfl, by go_num, by rw [HT.out, cellsI_snoc]; exact HO5.out, HB5.out⟩
      case measure => simp [intOf]; omega
    have HXK : Hid (turnI xs[k] = (kd, key, new, old)) := Lib.hid (by rw [hxk]; unfold turnI; simp only [if_neg h1, if_neg h2])
    have e1 : (kd == 1) = false := by rw [beq_eq_false_iff_ne]; exact h1
    have e2 : (kd == 2) = false := by rw [beq_eq_false_iff_ne]; exact h2
    clear hxk
    have HT := Lib.hid (turn_next hlt)
    rw [HXK.out] at HT
    have HOW := Lib.hid (hown.alloc (.cells #[.int .i64 kd, .string key, .string new, .string old] 74))
    have HWS := Lib.hid (eb_of HB.out (alloc_below wr (.cells #[.int .i64 kd, .string key, .string new, .string old] 74)) (Nat.le_refl _))
    have e0 : (wr.alloc (.cells #[.int .i64 kd, .string key, .string new, .string old] 74)).heap.size = wr.heap.size + 1 := by simp
    go_wp2_with (at_builtin; go_loud (refine wpList_append_own _ rfl (.tmp 34) (.tmp 36) 38 rfl w.heap.size 74 i0 (.agg #[.int .i64 0, .string ⟨#[]⟩, .string ⟨#[]⟩, .string ⟨#[]⟩]) 4 56 Try.underlying38 hi0 hz0 hz1 hz2 rfl (by decide) _ k _ rfl (HOW.out.alloc _) ⟨wr.heap.size + 1, 0, none⟩ 1 1 (itC (kd, key, new, old)) rfl rfl (fun j u hj => by have h := newD (wr.alloc (.cells #[.int .i64 kd, .string key, .string new, .string old] 74)) (kd, key, new, old) j u hj; rwa [e0] at h) (by intro u hu; simp [itC] at hu; rcases hu with rfl | rfl | rfl | rfl <;> rfl) (by unfold maxLen; omega) (by omega) (by simp; omega) ?_; intro v5 w5 hown5 hg5 _; obtain ⟨A5, c5, hv5, _, _⟩ := own_cap2 hown5; subst hv5; have hb5 := (HWS.out.alloc HWS.out.size (.cells #[.int .i64 kd, .string key, .string new, .string old] 74)).grown hg5 (by simp; omega) (fun g hg => (hown.lt g hg).1); have HB5 := Lib.hid hb5; have HO5 := Lib.hid hown5; clear hg5 hb5 hown5))
    go_roundw
    case rel => exact ⟨k + 1, by omega, .slice A5 (k + 1) c5, rfl, by go_num, by rw [HT.out, cellsI_snoc]; exact HO5.out, HB5.out⟩
    case measure => simp [intOf]; omega
end Go.Proofs.Ytbgpcmpbfenplaa.KK
