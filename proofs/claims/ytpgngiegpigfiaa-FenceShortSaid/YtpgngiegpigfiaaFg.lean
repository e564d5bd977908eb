/-
  Fences: a block of a list, and its borders.
-/
import Derived.Test.YtpgngiegpigfiaaFf
namespace Go.Proofs.Ytpgngiegpigfiaa.KK
open Go.ChangeShapes Go.WideShapes Go.ChangeAt Go.RowKit Go.Proofs

theorem EsAt.sub {w : World} {A : Option Addr} {xs : List El.En} {from_ n : Nat} (h : EsAt w A xs) (hn : 0 < n) (hle : from_ + n ≤ xs.length) : ∃ b off, A = some ⟨b, off, none⟩ ∧ EsAt w (some ⟨b, off + from_ * 4, none⟩) ((xs.drop from_).take n) := by
  rcases h with h | ⟨b, off, hA, hlt, hc⟩
  · subst h; simp at hle; omega
  · refine ⟨b, off, hA, .inr ⟨b, _, rfl, hlt, fun i hi => ?_⟩⟩
    rw [List.length_take, List.length_drop] at hi
    have := hc (from_ + i) (by omega)
    simp only [List.getElem_take, List.getElem_drop]
    rw [show off + from_ * 4 + i * 4 = off + (from_ + i) * 4 by omega]
    exact this
set_option maxHeartbeats 1000000 in
theorem block_any (A : Option Addr) (c : Nat) (xs : List El.En) (st i : Nat) (w : World) (hf : EsAt w A xs) (hn : xs.length ≤ 4294967295) (hc : xs.length ≤ c) (h64 : st ≤ 64) (hi : i ≤ 100000) (h1 : 1 ≤ st) (hlt : i * st < xs.length) :
    Calls Try.prog 55 #[.slice A xs.length c, .int .i64 st, .int .i64 i] w fun e w' => (∃ A', e = .returned (.slice A' (min (i * st + st) xs.length - i * st) (min (i * st + st) xs.length - i * st)) ∧ EsAt w' A' ((xs.drop (i * st)).take (min (i * st + st) xs.length - i * st))) ∧ w = w' := by
  have J := Lib.hid (fun w => bounds_any xs.length st i w hn h64 hi)
  obtain ⟨b, off, rfl, hsub⟩ := hf.sub (from_ := i * st) (n := min (i * st + st) xs.length - i * st) (by omega) (by omega)
  have HS := Lib.hid hsub
  clear hsub hf
  generalize xs.length = n at *
  generalize i * st = m at *
  have h2 : m ≤ min (m + st) n := by omega
  have h3 : min (m + st) n ≤ c := by omega
  have h4 : m < min (m + st) n := by omega
  have h5 : ((min (m + st) n : Nat) : Int) ≤ (c : Int) := by omega
  have h6 : (m : Int) ≤ ((min (m + st) n : Nat) : Int) := by omega
  generalize min (m + st) n = t at *
  go_enter Try.func55, Try.ntmps55
  go_wp2_with fail
  refine (J.out _).mono ?_
  rintro e w1 ⟨rfl, rfl⟩
  go_wp2_with fail
  go_ret
  exact ⟨⟨_, rfl, HS.out⟩, rfl⟩
set_option maxHeartbeats 1000000 in
theorem block_nil (A : Option Addr) (c : Nat) (st : Nat) (w : World) (hA : A = none → c = 0) (h64 : st ≤ 64) :
    Calls Try.prog 55 #[.slice A (0 : Nat) c, .int .i64 st, .int .i64 (0 : Nat)] w fun e w' => (∃ A', e = .returned (.slice A' 0 0)) ∧ w = w' := by
  have J := Lib.hid (fun w => by have K := bounds_any 0 st 0 w (by omega) h64 (by omega); rw [show 0 * st = 0 by omega, show min (0 + st) 0 = 0 by omega] at K; exact K)
  cases A with
  | none =>
    obtain rfl := hA rfl
    go_enter Try.func55, Try.ntmps55
    go_wp2_with fail
    refine (J.out _).mono ?_
    rintro e w1 ⟨rfl, rfl⟩
    go_wp2_with fail
    go_ret
    exact ⟨⟨_, rfl⟩, rfl⟩
  | some a =>
    by_cases h0 : c = 0
    · subst h0
      go_enter Try.func55, Try.ntmps55
      go_wp2_with fail
      refine (J.out _).mono ?_
      rintro e w1 ⟨rfl, rfl⟩
      go_wp2_with fail
      go_ret
      exact ⟨⟨_, rfl⟩, rfl⟩
    · go_enter Try.func55, Try.ntmps55
      go_wp2_with fail
      refine (J.out _).mono ?_
      rintro e w1 ⟨rfl, rfl⟩
      go_wp2_with fail
      go_ret
      exact ⟨⟨_, rfl⟩, rfl⟩
theorem block_key {w : World} {A : Option Addr} {xs : List El.En} {from_ n j : Nat} (h : EsAt w A ((xs.drop from_).take n)) (hj : j < n) (hle : from_ + n ≤ xs.length) : ∃ b off, A = some ⟨b, off, none⟩ ∧ w.cell? ⟨b, off + j * 4, none⟩ = some (.string (keyAt xs (from_ + j))) := by
  have e2 : ((xs.drop from_).take n).length = n := by rw [List.length_take, List.length_drop]; omega
  rcases h with h | ⟨b, off, rfl, _, hcc⟩
  · rw [h] at e2; simp at e2; omega
  · have := (hcc j (by omega)).1
    simp only [List.getElem_take, List.getElem_drop] at this
    exact ⟨b, off, rfl, by rw [this, keyAt_eq (by omega)]⟩
theorem block_last (A : Option Addr) (c : Nat) (xs : List El.En) (st i : Nat) (w : World) (hf : EsAt w A xs) (hn : xs.length ≤ 5000) (hc : xs.length ≤ c) (h64 : st ≤ 64) (h1 : 1 ≤ st) (hlt : (i + 1) * st < xs.length) :
    Calls Try.prog 55 #[.slice A xs.length c, .int .i64 st, .int .i64 i] w fun e w' => (∃ b off, e = .returned (.slice (some ⟨b, off, none⟩) st st) ∧ w'.cell? ⟨b, off + (st - 1) * 4, none⟩ = some (.string (keyAt xs ((i + 1) * st - 1)))) ∧ w = w' := by
  have hi : i + 1 ≤ (i + 1) * st := Nat.le_mul_of_pos_right _ h1
  have hm : (i + 1) * st = i * st + st := by rw [Nat.add_mul, Nat.one_mul]
  refine (block_any A c xs st i w hf (by omega) hc h64 (by omega) h1 (by omega)).mono ?_
  rintro e w' ⟨⟨A', rfl, f⟩, rfl⟩
  have e1 : min (i * st + st) xs.length - i * st = st := by omega
  rw [e1] at f ⊢
  obtain ⟨b, off, rfl, g⟩ := block_key (j := st - 1) f (by omega) (by omega)
  refine ⟨⟨b, off, rfl, ?_⟩, rfl⟩
  rw [g, show i * st + (st - 1) = (i + 1) * st - 1 by omega]
theorem block_first (A : Option Addr) (c : Nat) (xs : List El.En) (st i : Nat) (w : World) (hf : EsAt w A xs) (hn : xs.length ≤ 5000) (hc : xs.length ≤ c) (h64 : st ≤ 64) (h1 : 1 ≤ st) (hlt : i * st < xs.length) :
    Calls Try.prog 55 #[.slice A xs.length c, .int .i64 st, .int .i64 i] w fun e w' => (∃ b off d, e = .returned (.slice (some ⟨b, off, none⟩) (d + 1) (d + 1)) ∧ d ≤ 5000 ∧ w'.cell? ⟨b, off, none⟩ = some (.string (keyAt xs (i * st)))) ∧ w = w' := by
  have hi : i ≤ i * st := Nat.le_mul_of_pos_right _ h1
  refine (block_any A c xs st i w hf (by omega) hc h64 (by omega) h1 (by omega)).mono ?_
  rintro e w' ⟨⟨A', rfl, f⟩, rfl⟩
  obtain ⟨b, off, rfl, g⟩ := block_key (j := 0) f (by omega) (by omega)
  refine ⟨⟨b, off, min (i * st + st) xs.length - i * st - 1, ?_, by omega, by simpa using g⟩, rfl⟩
  rw [show min (i * st + st) xs.length - i * st - 1 + 1 = min (i * st + st) xs.length - i * st by omega]
set_option maxHeartbeats 2000000 in
theorem border_any (A : Option Addr) (c : Nat) (xs : List El.En) (st i : Nat) (w : World) (hf : EsAt w A xs) (hn : xs.length ≤ 5000) (hc : xs.length ≤ c) (h64 : st ≤ 64) (h1 : 1 ≤ st) (hlt : (i + 1) * st < xs.length) :
    Calls Try.prog 38 #[.slice A xs.length c, .int .i64 st, .int .i64 i] w fun e w' => e = .returned (.tuple #[.string (keyAt xs ((i + 1) * st - 1)), .string (keyAt xs ((i + 1) * st))]) ∧ Below w.heap.size w w' := by
  have hi : i + 1 ≤ (i + 1) * st := Nat.le_mul_of_pos_right _ h1
  have J1 := Lib.hid (block_last A c xs st i w hf hn hc h64 h1 hlt)
  have J2 := Lib.hid (block_first A c xs st (i + 1) w hf hn hc h64 h1 hlt)
  have hi5 : i ≤ 5000 := by omega
  generalize keyAt xs ((i + 1) * st - 1) = x1 at *
  generalize keyAt xs ((i + 1) * st) = x2 at *
  generalize xs.length = n at *
  clear hlt hi hf
  obtain ⟨s, rfl⟩ : ∃ s, st = s + 1 := ⟨st - 1, by omega⟩
  go_enter Try.func38, Try.ntmps38
  go_wp2_with fail
  refine J1.out.mono ?_
  rintro e w1 ⟨⟨b1, o1, rfl, g1⟩, rfl⟩
  rw [show s + 1 - 1 = s by omega] at g1
  go_wp2_with fail
  refine J2.out.mono ?_
  rintro e w2 ⟨⟨b2, o2, d, rfl, hd, g2⟩, rfl⟩
  go_wp2_with fail
  go_quiet (fail)
  go_wp2_with fail
  go_ret2
  exact ⟨rfl, below_drewN' _⟩
end Go.Proofs.Ytpgngiegpigfiaa.KK
