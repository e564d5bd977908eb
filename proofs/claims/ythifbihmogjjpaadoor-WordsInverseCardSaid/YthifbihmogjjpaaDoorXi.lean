/-
  Contracts of Join and far.
-/
import Derived.Test.YthifbihmogjjpaaDoorXh
namespace Go.Proofs.YthifbihmogjjpaaDoor
open Go.ChangeShapes Go.WideShapes Go.ChangeAt Go.RowKit Go.Proofs

theorem Join_any (A : Option Addr) (c : Nat) (fs : List (List UInt8 × Bool)) (w : World) (he : EscAt w) (hf : FldsAt w A fs) (hn : fs.length ≤ 4294967295) :
    Calls Tryd.prog 14 #[.slice A fs.length c] w fun e w' => e = .returned (.tuple #[.string ⟨(Pl.join fs).2.toArray⟩, .int .i64 (Pl.join fs).1]) ∧ Below w.heap.size w w' := by
  cases htoo : Pl.tooF fs with
  | false => exact Join_loop A c fs w he hf htoo
  | true =>
    have H : Hid (Pl.join fs = (3, [])) := Lib.hid (by unfold Pl.join; rw [htoo]; rfl)
    have htl := tooLong_any A c fs w hf hn
    rw [show (decide (64 < fs.length) || fs.any fun f => decide (2000 < f.1.length)) = true from htoo] at htl
    have HTL := Lib.hid htl
    clear htl htoo hf he
    go_enter Tryd.func14, Tryd.ntmps14
    go_wp2_with (go_at_call 24; refine HTL.out.mono ?_; rintro e w1 ⟨rfl, hb1⟩; have HB1 := Lib.hid hb1; clear hb1)
    go_ret2
    exact ⟨by rw [H.out]; rfl, HB1.out⟩

def lens (fs : List (List UInt8 × Bool)) : Nat := fs.foldl (fun n f => n + f.1.length) 0
theorem lens_succ (fs : List (List UInt8 × Bool)) (k : Nat) (h : k < fs.length) : lens (fs.take (k + 1)) = lens (fs.take k) + fs[k].1.length := by
  unfold lens
  rw [List.take_succ_eq_append_getElem h, List.foldl_append]; rfl
/-- whether fields are more than is examined -/
def farL (fs : List (List UInt8 × Bool)) : Bool := decide (70 < fs.length) || fs.any (fun f => decide (2100 < f.1.length)) || decide (12000 < lens fs)

set_option maxRecDepth 100000 in
theorem far_any (A : Option Addr) (c : Nat) (fs : List (List UInt8 × Bool)) (w : World) (hf : FldsAt w A fs) (hn : fs.length ≤ 9223372036854775807) :
    Calls Tryd.prog 13 #[.slice A fs.length c] w fun e w' => e = .returned (.bool (farL fs)) ∧ w = w' := by
  by_cases h70 : 70 < fs.length
  · have H : Hid (farL fs = true) := Lib.hid (by unfold farL; simp [h70])
    go_enter Tryd.func13, Tryd.ntmps13
    go_wp2_with fail
    go_ret
    exact retBW H.out
  have HF := Lib.hid hf
  clear hf
  go_enter Tryd.func13, Tryd.ntmps13
  go_wp2_with fail
  go_loop [3, 4] (fun n i => ∃ k m : Nat, k ≤ fs.length ∧ i = .int .i64 k ∧ n = .int .i64 m ∧ m = lens (fs.take k) ∧ m ≤ k * 2100 ∧ (fs.take k).any (fun f => decide (2100 < f.1.length)) = false) (fun n i => fs.length - (intOf i).toNat)
  case atStart => exact ⟨0, 0, Nat.zero_le _, rfl, rfl, rfl, by omega, rfl⟩
  case round =>
    obtain ⟨k, m, hk, rfl, rfl, hm, hm2, ha⟩ := hrel
    have HM := Lib.hid hm
    have HA := Lib.hid ha
    clear hm ha
    by_cases hlt : k < fs.length
    · rcases HF.out with h0 | ⟨b, off, rfl, hbl, hc⟩
      · subst h0; simp at hlt
      obtain ⟨g0, g1⟩ := hc k hlt
      clear hc
      obtain ⟨⟨x, q⟩, hfk⟩ : ∃ y, fs[k] = y := ⟨_, rfl⟩
      rw [hfk] at g0 g1
      have HFK := Lib.hid hfk
      clear hfk
      by_cases hl : 2100 < x.length
      · have H : Hid (farL fs = true) := Lib.hid (by unfold farL; rw [any_at fs k hlt (by rw [HFK.out]; simpa using hl)]; simp)
        go_wp2_with fail
        go_ret
        exact retBW H.out
      · go_wp2_with fail
        go_round
        case rel => exact ⟨k + 1, m + x.length, by omega, by go_num, by go_num, by rw [lens_succ fs k hlt, HFK.out, HM.out], by omega, by rw [any_take_succ fs k hlt, HA.out, HFK.out]; simpa using hl⟩
        case measure => simp [intOf]; omega
    · have H : Hid (farL fs = decide (12000 < m)) := Lib.hid (by
        have h1 := HA.out
        have h2 := HM.out
        rw [List.take_of_length_le (by omega)] at h1 h2
        unfold farL
        rw [h1, ← h2]; simp [h70])
      go_wp2_with fail
      go_ret
      exact retBW (by rw [H.out, decide_eq_decide]; omega)
end Go.Proofs.YthifbihmogjjpaaDoor
