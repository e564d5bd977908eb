/-
  Find, on both sides.
-/
import Derived.Test.YtpgngiegpigfiaaFa
namespace Go.Proofs.Ytpgngiegpigfiaa.KK
open Go.ChangeShapes Go.WideShapes Go.ChangeAt Go.RowKit Go.Proofs

/-- the index of a key; -1: there is none -/
def atE (key : ByteArray) : Nat → List El.En → Int
  | _, [] => -1
  | i, x :: t => if x.1 = key then (i : Int) else atE key (i + 1) t
theorem atE_yes {key : ByteArray} {xs : List El.En} {k : Nat} (h : k < xs.length) (g : xs[k].1 = key) : atE key k (xs.drop k) = k := by
  rw [List.drop_eq_getElem_cons h]; exact if_pos g
theorem atE_no {key : ByteArray} {xs : List El.En} {k : Nat} (h : k < xs.length) (g : xs[k].1 ≠ key) : atE key k (xs.drop k) = atE key (k + 1) (xs.drop (k + 1)) := by
  rw [List.drop_eq_getElem_cons h]; exact if_neg g
theorem atE_end {key : ByteArray} {xs : List El.En} {k : Nat} (h : ¬ k < xs.length) : atE key k (xs.drop k) = -1 := by
  rw [List.drop_eq_nil_of_le (by omega)]; rfl
theorem str_beq_eq {a b : ByteArray} (h : a = b) : (a.toList == b.toList) = true := by rw [h]; simp
/-- what Find answers -/
def findE (xs : List El.En) (key : ByteArray) : Int × Int :=
  if (listE xs).2 ≠ 0 then (0, (listE xs).2) else if 32 < key.size then (0, 3) else if atE key 0 xs < 0 then (0, 4) else (atE key 0 xs, 0)
theorem findE_list {xs : List El.En} {key : ByteArray} (h : (listE xs).2 ≠ 0) : findE xs key = (0, (listE xs).2) := if_pos h
theorem findE_long {xs : List El.En} {key : ByteArray} (h : (listE xs).2 = 0) (g : ¬ key.size ≤ 32) : findE xs key = (0, 3) := by
  unfold findE; rw [if_neg (by rw [h]; simp), if_pos (by omega)]
theorem findE_none {xs : List El.En} {key : ByteArray} (h : (listE xs).2 = 0) (g : key.size ≤ 32) (l : atE key 0 xs < 0) : findE xs key = (0, 4) := by
  unfold findE; rw [if_neg (by rw [h]; simp), if_neg (by omega), if_pos l]
theorem findE_some {xs : List El.En} {key : ByteArray} (h : (listE xs).2 = 0) (g : key.size ≤ 32) (l : ¬ atE key 0 xs < 0) : findE xs key = (atE key 0 xs, 0) := by
  unfold findE; rw [if_neg (by rw [h]; simp), if_neg (by omega), if_neg l]
set_option maxHeartbeats 1000000 in
theorem at_any (A : Option Addr) (c : Nat) (xs : List El.En) (key : ByteArray) (w : World) (hf : EsAt w A xs) (hn : xs.length ≤ 4294967295) :
    Calls Try.prog 60 #[.slice A xs.length c, .string key] w fun e w' => e = .returned (.int .i64 (atE key 0 xs)) ∧ Below w.heap.size w w' := by
  go_enter Try.func60, Try.ntmps60
  go_wp2_with fail
  go_loopw [5] (fun i wr => ∃ k : Nat, k ≤ xs.length ∧ i = .int .i64 k ∧ Below w.heap.size w wr ∧ atE key 0 xs = atE key k (xs.drop k)) (fun i _ => xs.length - (intOf i).toNat)
  case atStart => exact ⟨0, Nat.zero_le _, rfl, Below.refl _ _, rfl⟩
  case round =>
    obtain ⟨k, hk, rfl, hb, ha⟩ := hrel
    have HA := Lib.hid ha
    have HB := Lib.hid hb
    have hf' := hf.below hb (Nat.le_refl _)
    clear ha hb hf
    by_cases hlt : k < xs.length
    rotate_left
    · have HL := Lib.hid (atE_end (key := key) hlt)
      go_wp2_with fail
      go_ret
      exact ⟨retI (by rw [HA.out, HL.out]), HB.out⟩
    rcases hf' with h0 | ⟨b, off, rfl, hbl, hc⟩
    · subst h0; simp at hlt
    obtain ⟨g0, g1, g2, g3⟩ := hc k hlt
    clear hc
    by_cases he : xs[k].1 = key
    · have HL := Lib.hid (atE_yes hlt he)
      have he2 := str_beq_eq he
      rw [he] at g0
      clear he
      go_wp2_with fail
      go_ret
      exact ⟨retI (by rw [HA.out, HL.out]), HB.out⟩
    · have HL := Lib.hid (atE_no hlt he)
      have he2 := str_beq_ne he
      have he3 := str_ne he
      clear he
      go_wp2_with fail
      go_roundw
      case rel => exact ⟨k + 1, by omega, by go_num, HB.out, HA.out.trans HL.out⟩
      case measure => simp [intOf]; omega
set_option maxRecDepth 100000 in
set_option maxHeartbeats 2000000 in
theorem fFind_any (A : Option Addr) (c : Nat) (xs : List El.En) (key : ByteArray) (w : World) (hf : EsAt w A xs) (hn : xs.length ≤ 4294967295) (hs : Sized xs) (hk : key.size ≤ 9223372036854775807) :
    Calls Try.prog 30 #[.slice A xs.length c, .string key] w fun e w' => e = .returned (.tuple #[.int .i64 (findE xs key).1, .int .i64 (findE xs key).2]) ∧ Below w.heap.size w w' := by
  have HF := Lib.hid hf
  have HBX := Lib.hid (Below.refl w.heap.size w)
  have J := Lib.hid (fList_any A c xs w (hf.below HBX.out (Nat.le_refl _)) hn hs)
  have JK := Lib.hid (fun w => rCheck_any key w hk)
  by_cases he : (listE xs).2 = 0
  rotate_left
  · have HL := Lib.hid (findE_list (key := key) he)
    obtain ⟨b1, b2⟩ := ne_b he
    clear he hf hs
    generalize (listE xs).2 = r at *
    generalize (listE xs).1 = r1 at *
    go_enter Try.func30, Try.ntmps30
    go_wp2_with fail
    refine J.out.mono ?_
    rintro e w1 ⟨rfl, hb⟩
    have HB := Lib.hid (eb_of HBX.out hb (Nat.le_refl _))
    clear hb J
    go_wp2_with fail
    go_ret2
    exact ⟨by rw [HL.out]; rfl, HB.out⟩
  have HHE := Lib.hid he
  rw [he] at J
  clear hs
  generalize (listE xs).1 = r1 at *
  by_cases hl : key.size ≤ 32
  rotate_left
  · have HL := Lib.hid (findE_long he hl)
    rw [chk1_no hl] at JK
    clear he hf hl
    go_enter Try.func30, Try.ntmps30
    go_wp2_with fail
    refine J.out.mono ?_
    rintro e w1 ⟨rfl, hb⟩
    have HB := Lib.hid (eb_of HBX.out hb (Nat.le_refl _))
    skip
    clear hb J
    go_wp2_with fail
    refine (JK.out _).mono ?_
    rintro e w2 ⟨rfl, rfl⟩
    go_wp2_with fail
    go_ret2
    exact ⟨by rw [HL.out]; rfl, HB.out⟩
  have JA := Lib.hid (fun w1 (h1 : Below w.heap.size w w1)  => at_any A c xs key w1 (hf.below h1 (Nat.le_refl _)) hn)
  rw [chk1_ok hl] at JK
  by_cases ha : atE key 0 xs < 0
  · have HL := Lib.hid (findE_none he hl ha)
    clear he hf hl
    generalize atE key 0 xs = r at *
    go_enter Try.func30, Try.ntmps30
    go_wp2_with fail
    refine J.out.mono ?_
    rintro e w1 ⟨rfl, hb⟩
    have HB := Lib.hid (eb_of HBX.out hb (Nat.le_refl _))
    skip
    skip
    clear hb J
    go_wp2_with fail
    refine (JK.out _).mono ?_
    rintro e w2 ⟨rfl, rfl⟩
    go_wp2_with fail
    refine (JA.out _ HB.out).mono ?_
    rintro e w3 ⟨rfl, hb⟩
    have HB2 := Lib.hid (eb_of HB.out hb (Nat.le_refl _))
    clear hb
    go_wp2_with fail
    go_ret2
    exact ⟨by rw [HL.out]; rfl, HB2.out⟩
  · have HL := Lib.hid (findE_some he hl ha)
    clear he hf hl
    generalize atE key 0 xs = r at *
    go_enter Try.func30, Try.ntmps30
    go_wp2_with fail
    refine J.out.mono ?_
    rintro e w1 ⟨rfl, hb⟩
    have HB := Lib.hid (eb_of HBX.out hb (Nat.le_refl _))
    skip
    skip
    clear hb J
    go_wp2_with fail
    refine (JK.out _).mono ?_
    rintro e w2 ⟨rfl, rfl⟩
    go_wp2_with fail
    refine (JA.out _ HB.out).mono ?_
    rintro e w3 ⟨rfl, hb⟩
    have HB2 := Lib.hid (eb_of HB.out hb (Nat.le_refl _))
    clear hb
    go_wp2_with fail
    go_ret2
    exact ⟨by rw [HL.out]; rfl, HB2.out⟩
end Go.Proofs.Ytpgngiegpigfiaa.KK
