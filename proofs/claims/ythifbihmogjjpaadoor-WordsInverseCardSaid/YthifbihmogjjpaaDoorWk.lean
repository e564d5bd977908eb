/-
  Contracts over slices of fields: tooLong, Same.
-/
import Derived.Test.YthifbihmogjjpaaDoorWg
import Derived.Deep.Cut
import Derived.BigQuiet
namespace Go.Proofs.YthifbihmogjjpaaDoor
open Go.ChangeShapes Go.WideShapes Go.ChangeAt Go.RowKit Go.Proofs

/-- a slice value that reads as fields -/
def FldsAt (w : World) (A : Option Addr) (fs : List (List UInt8 × Bool)) : Prop :=
  fs = [] ∨ ∃ b off, A = some ⟨b, off, none⟩ ∧ b < w.heap.size ∧ ∀ (i : Nat) (h : i < fs.length), w.cell? ⟨b, off + i * 2, none⟩ = some (.string ⟨fs[i].1.toArray⟩) ∧ w.cell? ⟨b, off + i * 2 + 1, none⟩ = some (.bool fs[i].2)
theorem FldsAt.below {B : Nat} {w w' : World} {A : Option Addr} {fs : List (List UInt8 × Bool)} (h : FldsAt w A fs) (hb : Below B w w') (hB : w.heap.size ≤ B) : FldsAt w' A fs := by
  rcases h with h | ⟨b, off, hA, hlt, hc⟩
  · exact .inl h
  · refine .inr ⟨b, off, hA, Nat.lt_of_lt_of_le hlt hb.size, fun i hi => ⟨?_, ?_⟩⟩
    · rw [hb.cell (p := ⟨b, off + i * 2, none⟩) (by simp; omega)]; exact (hc i hi).1
    · rw [hb.cell (p := ⟨b, off + i * 2 + 1, none⟩) (by simp; omega)]; exact (hc i hi).2

theorem any_at (fs : List (List UInt8 × Bool)) (k : Nat) (h : k < fs.length) {p : List UInt8 × Bool → Bool} (hp : p fs[k] = true) : fs.any p = true :=
  List.any_eq_true.2 ⟨fs[k], List.getElem_mem h, hp⟩
theorem any_take_succ (fs : List (List UInt8 × Bool)) (k : Nat) (h : k < fs.length) {p : List UInt8 × Bool → Bool} : (fs.take (k + 1)).any p = ((fs.take k).any p || p fs[k]) := by
  rw [List.take_succ_eq_append_getElem h, List.any_append]; simp

theorem tooLong_any (A : Option Addr) (c : Nat) (fs : List (List UInt8 × Bool)) (w : World) (hf : FldsAt w A fs) (hn : fs.length ≤ 4294967295) :
    Calls Tryd.prog 24 #[.slice A fs.length c] w fun e w' => e = .returned (.bool (decide (64 < fs.length) || fs.any fun f => decide (2000 < f.1.length))) ∧ Below w.heap.size w w' := by
  by_cases h64 : 64 < fs.length
  · go_enter Tryd.func24, Tryd.ntmps24
    go_wp2_with fail
    go_ret
    exact ⟨retB (by simp [h64]), Below.refl _ _⟩
  go_enter Tryd.func24, Tryd.ntmps24
  go_wp2_with fail
  go_loopw [10] (fun i wr => ∃ k : Nat, k ≤ fs.length ∧ i = .int .i64 k ∧ Below w.heap.size w wr ∧ (fs.take k).any (fun f => decide (2000 < f.1.length)) = false) (fun i _ => fs.length - (intOf i).toNat)
  case atStart => exact ⟨0, Nat.zero_le _, rfl, Below.refl _ _, by simp⟩
  case round =>
    obtain ⟨k, hk, rfl, hb, ha⟩ := hrel
    have hsz := hb.size
    have HA := Lib.hid ha
    have HB := Lib.hid hb
    have hf' := hf.below hb (Nat.le_refl _)
    clear ha hb hf
    by_cases hlt : k < fs.length
    · rcases hf' with h0 | ⟨b, off, rfl, hbl, hc⟩
      · subst h0; simp at hlt
      obtain ⟨g0, g1⟩ := hc k hlt
      clear hc
      by_cases hl : 2000 < fs[k].1.length
      · go_wp2_with fail
        go_ret
        exact ⟨retB (by rw [any_at fs k hlt (by simpa using hl)]; simp), HB.out.alloc hsz _⟩
      · go_wp2_with fail
        go_roundw
        case rel => exact ⟨k + 1, by omega, by go_num, HB.out.alloc hsz _, by rw [any_take_succ fs k hlt, HA.out]; simpa using hl⟩
        case measure => simp [intOf]; omega
    · go_wp2_with fail
      go_ret
      have := HA.out
      rw [List.take_of_length_le (by omega)] at this
      exact ⟨retB (by rw [this]; simp [h64]), HB.out⟩

def FV (f : List UInt8 × Bool) : Value := .agg #[.string ⟨f.1.toArray⟩, .bool f.2]
set_option maxHeartbeats 1000000 in
theorem Same_any (A A' : Option Addr) (c c' : Nat) (fs gs : List (List UInt8 × Bool)) (w : World) (hf : FldsAt w A fs) (hg : FldsAt w A' gs) (hn : fs.length ≤ 4294967295) (hn' : gs.length ≤ 4294967295) :
    Calls Tryd.prog 11 #[.slice A fs.length c, .slice A' gs.length c'] w fun e w' => e = .returned (.bool (decide (fs = gs))) ∧ Below w.heap.size w w' := by
  by_cases hlen : fs.length = gs.length
  rotate_left
  · have h1 : ((fs.length : Int) == (gs.length : Int)) = false := by simp; omega
    have h2 : ((fs.length : Int) != (gs.length : Int)) = true := by simp; omega
    have H : Hid (fs ≠ gs) := Lib.hid (fun e => hlen (by rw [e]))
    clear hlen
    go_enter Tryd.func11, Tryd.ntmps11
    go_wp2_with fail
    go_ret
    exact ⟨retB (by simp [H.out]), Below.refl _ _⟩
  have h1 : ((fs.length : Int) == (gs.length : Int)) = true := by simp; omega
  have h2 : ((fs.length : Int) != (gs.length : Int)) = false := by simp; omega
  have HL := Lib.hid hlen
  clear hlen
  go_enter Tryd.func11, Tryd.ntmps11
  go_wp2_with fail
  go_loopw [5] (fun i wr => ∃ k : Nat, k ≤ fs.length ∧ i = .int .i64 k ∧ Below w.heap.size w wr ∧ fs.take k = gs.take k) (fun i _ => fs.length - (intOf i).toNat)
  case atStart => exact ⟨0, Nat.zero_le _, rfl, Below.refl _ _, by simp⟩
  case round =>
    obtain ⟨k, hk, rfl, hb, ha⟩ := hrel
    have hsz := hb.size
    have HA := Lib.hid ha
    have HB := Lib.hid hb
    have hf' := hf.below hb (Nat.le_refl _)
    have hg' := hg.below hb (Nat.le_refl _)
    clear ha hb hf hg
    by_cases hlt : k < fs.length
    · rcases hf' with h0 | ⟨b, off, rfl, hbl, hc⟩
      · subst h0; simp at hlt
      have hlt' : k < gs.length := by have := HL.out; omega
      rcases hg' with h0 | ⟨b', off', rfl, hbl', hc'⟩
      · subst h0; simp at hlt'
      obtain ⟨g0, g1⟩ := hc k hlt
      obtain ⟨g2, g3⟩ := hc' k hlt'
      have l1 : (k : Int) < (fs.length : Int) := by omega
      have l2 : (k : Int) < (gs.length : Int) := by omega
      clear hc hc'
      by_cases heq : fs[k] = gs[k]
      · have HE := Lib.hid heq
        rw [← heq] at g2 g3
        clear heq
        go_wp2_with fail
        go_quiet (fail)
        go_wp2_with fail
        go_roundw
        case rel =>
          refine ⟨k + 1, by omega, by go_num, HB.out.trans ((below_drewN' _).mono hsz), ?_⟩
          rw [List.take_succ_eq_append_getElem hlt, List.take_succ_eq_append_getElem hlt', HA.out, HE.out]
        case measure => simp [intOf]; omega
      · have HN : Hid (fs ≠ gs) := Lib.hid (fun e => heq (by simp only [e]))
        by_cases hs : fs[k].1 = gs[k].1
        · have hb2 : fs[k].2 ≠ gs[k].2 := fun e => heq (Prod.ext hs e)
          have hb3 : (fs[k].2 == gs[k].2) = false := by simpa using hb2
          rw [← hs] at g2
          clear hs heq hb2
          go_wp2_with fail
          go_quiet (fail)
          go_wp2_with fail
          go_ret
          exact ⟨retB (by simp [HN.out]), HB.out.trans ((below_drewN' _).mono hsz)⟩
        · have hs3 : ((⟨fs[k].1.toArray⟩ : ByteArray).toList == (⟨gs[k].1.toArray⟩ : ByteArray).toList) = false := by
            rw [beq_eq_false_iff_ne]; intro e; apply hs; rw [Lib.toList_data, Lib.toList_data] at e; simpa using e
          have hs4 : (fs[k].1 == gs[k].1) = false := by simpa using hs
          clear hs heq
          go_wp2_with fail
          go_quiet (fail)
          go_wp2_with fail
          go_ret
          exact ⟨retB (by simp [HN.out]), HB.out.trans ((below_drewN' _).mono hsz)⟩
    · have HE : Hid (fs = gs) := Lib.hid (by
        have := HA.out
        have h3 := HL.out
        rwa [List.take_of_length_le (by omega), List.take_of_length_le (by omega)] at this)
      go_wp2_with fail
      go_ret
      exact ⟨retB (by simp [HE.out]), HB.out⟩
end Go.Proofs.YthifbihmogjjpaaDoor
