/-
  Contracts of the functions on quoted strings: one byte.
-/
import Derived.Test.YthifbihmogjjpaaDoorWd
import Derived.Test.YthifbihmogjjpaaDoorPe
namespace Go.Proofs.YthifbihmogjjpaaDoor
open Go.ChangeShapes Go.WideShapes Go.ChangeAt Go.RowKit Go.Proofs

theorem readHex_yes (s : ByteArray) (v : UInt8) (w : World) (he : EscAt w) (hs : s.size ≤ 4294967295) (h : Pl.hex (Pl.L s) = some v) :
    Calls Tryd.prog 68 #[.string s] w fun e w' => e = .returned (.tuple #[.int .u8 (v.toNat : Int), .bool true]) ∧ Below w.heap.size w w' := by
  by_cases h2 : s.size < 2
  · rw [Pl.L_one s h2] at h; cases h
  · rw [Pl.hex_two s (by omega)] at h
    by_cases hn : Pl.hv s[0] < 0 ∨ Pl.hv s[1] < 0
    · rw [if_pos hn] at h; cases h
    · rw [if_neg hn] at h
      split at h
      · cases h
      · rename_i hg
        cases h
        exact (readHex_val s w he (by omega) (by omega) (by omega) (by omega) (by omega)).mono fun e w' ⟨h1, h3⟩ => ⟨by rw [h1, Bool.eq_false_iff.2 hg]; rfl, h3⟩

theorem readHex_no (s : ByteArray) (w : World) (he : EscAt w) (hs : s.size ≤ 4294967295) (h : Pl.hex (Pl.L s) = none) :
    Calls Tryd.prog 68 #[.string s] w fun e w' => ∃ n : Int, e = .returned (.tuple #[.int .u8 n, .bool false]) ∧ Below w.heap.size w w' := by
  by_cases h2 : s.size < 2
  · exact (readHex_short s w h2).mono fun e w' ⟨h1, h3⟩ => ⟨0, h1, by rw [← h3]; exact Below.refl _ _⟩
  · rw [Pl.hex_two s (by omega)] at h
    by_cases hn : Pl.hv s[0] < 0 ∨ Pl.hv s[1] < 0
    · exact (readHex_neg s w (by omega) (by omega) (by omega) hn).mono fun e w' ⟨h1, h3⟩ => ⟨0, h1, h3⟩
    · rw [if_neg hn] at h
      split at h
      · rename_i hg
        exact (readHex_val s w he (by omega) (by omega) (by omega) (by omega) (by omega)).mono fun e w' ⟨h1, h3⟩ => ⟨_, by rw [h1, hg]; rfl, h3⟩
      · cases h

theorem rawOf_yes (c v : UInt8) (w : World) (he : EscAt w) (h : Pl.raw c = some v) :
    Calls Tryd.prog 69 #[.int .u8 (c.toNat : Int)] w fun e w' => e = .returned (.tuple #[.int .u8 (v.toNat : Int), .bool true]) ∧ Below w.heap.size w w' :=
  (rawOf_any c w he).mono fun e w' ⟨h1, h3⟩ => ⟨by rw [h1, h]; rfl, h3⟩
theorem rawOf_no (c : UInt8) (w : World) (he : EscAt w) (h : Pl.raw c = none) :
    Calls Tryd.prog 69 #[.int .u8 (c.toNat : Int)] w fun e w' => e = .returned (.tuple #[.int .u8 0, .bool false]) ∧ Below w.heap.size w w' :=
  (rawOf_any c w he).mono fun e w' ⟨h1, h3⟩ => ⟨by rw [h1, h]; rfl, h3⟩

theorem readByte_plain (s : ByteArray) (k : Nat) (w : World) (hs : s.size ≤ 4294967295) (hk : k < s.size) (hc : ¬ s[k] = 92) :
    Calls Tryd.prog 51 #[.string s, .int .i64 (k : Int)] w fun e w' => e = .returned (.tuple #[.int .u8 (s[k].toNat : Int), .int .i64 ((k : Int) + 1), .bool (Pl.plain s[k])]) ∧ Below w.heap.size w w' := by
  have hk' : (k : Int) < (s.size : Int) := by omega
  have q1 : ((s[k].toNat : Int) == 92) = false := Pl.num_ne _ 92 hc
  have q2 : ((s[k].toNat : Int) != 92) = true := Pl.num_bne _ 92 hc
  clear hc
  go_enter Tryd.func51, Tryd.ntmps51
  go_wp2_with fail
  go_quiet ((go_at_call 52; exact Calls.quiet_of_same ((isPlain_any _ _).mono fun _ _ ⟨a, b⟩ => ⟨a, b.symm⟩)))
  go_wp2_with fail
  go_ret3
  exact ⟨rfl, below_drewN' _⟩

theorem readByte_end (s : ByteArray) (k : Nat) (w : World) (hs : s.size ≤ 4294967295) (hk : k < s.size) (hc : s[k] = 92) (h1 : s.size ≤ k + 1) :
    Calls Tryd.prog 51 #[.string s, .int .i64 (k : Int)] w fun e w' => e = .returned (.tuple #[.int .u8 0, .int .i64 0, .bool false]) ∧ w = w' := by
  have q1 : ((s[k].toNat : Int) == 92) = true := Pl.num_eq _ 92 hc
  have q2 : ((s[k].toNat : Int) != 92) = false := Pl.num_nbne _ 92 hc
  clear hc
  go_enter Tryd.func51, Tryd.ntmps51
  go_wp2_with fail
  go_ret3
  exact ⟨rfl, rfl⟩

def ByteOut (w : World) (k : Int) (ok : Bool) (V : Option UInt8) (e : Ending) (w' : World) : Prop :=
  ∃ n : Int, e = .returned (.tuple #[.int .u8 n, .int .i64 k, .bool ok]) ∧ Below w.heap.size w w' ∧ ∀ v, V = some v → n = (v.toNat : Int)

theorem readByte_hex (s : ByteArray) (k : Nat) (w : World) (he : EscAt w) (hs : s.size ≤ 4294967295) (hk : k < s.size) (hc : s[k] = 92) (h1 : k + 1 < s.size) (hx : s[k + 1] = 120) :
    Calls Tryd.prog 51 #[.string s, .int .i64 (k : Int)] w (ByteOut w ((k : Int) + 4) (Pl.hex (Pl.L (s.extract (k + 2) s.size))).isSome (Pl.hex (Pl.L (s.extract (k + 2) s.size)))) := by
  have q1 : ((s[k].toNat : Int) == 92) = true := Pl.num_eq _ 92 hc
  have q2 : ((s[k].toNat : Int) != 92) = false := Pl.num_nbne _ 92 hc
  have q3 : ((s[k + 1].toNat : Int) == 120) = true := Pl.num_eq _ 120 hx
  have HE := Lib.hid he
  clear hc hx he
  cases hh : Pl.hex (Pl.L (s.extract (k + 2) s.size)) with
  | some v =>
    have HH := Lib.hid hh
    clear hh
    go_enter Tryd.func51, Tryd.ntmps51
    go_wp2_with (go_at_call 68; refine (readHex_yes _ v _ HE.out (by simp; omega) HH.out).mono ?_; rintro e w1 ⟨rfl, hb⟩; have HB := Lib.hid hb; clear hb)
    go_ret3
    exact ⟨_, rfl, HB.out, fun v' h' => by cases h'; rfl⟩
  | none =>
    have HH := Lib.hid hh
    clear hh
    go_enter Tryd.func51, Tryd.ntmps51
    go_wp2_with (go_at_call 68; refine (readHex_no _ _ HE.out (by simp; omega) HH.out).mono ?_; rintro e w1 ⟨n, rfl, hb⟩; have HB := Lib.hid hb; clear hb)
    go_ret3
    exact ⟨_, rfl, HB.out, fun v' h' => by cases h'⟩

theorem readByte_raw (s : ByteArray) (k : Nat) (w : World) (he : EscAt w) (hs : s.size ≤ 4294967295) (hk : k < s.size) (hc : s[k] = 92) (h1 : k + 1 < s.size) (hx : ¬ s[k + 1] = 120) :
    Calls Tryd.prog 51 #[.string s, .int .i64 (k : Int)] w (ByteOut w ((k : Int) + 2) (Pl.raw s[k + 1]).isSome (Pl.raw s[k + 1])) := by
  have q1 : ((s[k].toNat : Int) == 92) = true := Pl.num_eq _ 92 hc
  have q2 : ((s[k].toNat : Int) != 92) = false := Pl.num_nbne _ 92 hc
  have q3 : ((s[k + 1].toNat : Int) == 120) = false := Pl.num_ne _ 120 hx
  have HE := Lib.hid he
  clear hc hx he
  cases hh : Pl.raw s[k + 1] with
  | some v =>
    have HH := Lib.hid hh
    clear hh
    go_enter Tryd.func51, Tryd.ntmps51
    go_wp2_with (go_at_call 69; refine (rawOf_yes _ v _ HE.out HH.out).mono ?_; rintro e w1 ⟨rfl, hb⟩; have HB := Lib.hid hb; clear hb)
    go_ret3
    exact ⟨_, rfl, HB.out, fun v' h' => by cases h'; rfl⟩
  | none =>
    have HH := Lib.hid hh
    clear hh
    go_enter Tryd.func51, Tryd.ntmps51
    go_wp2_with (go_at_call 69; refine (rawOf_no _ _ HE.out HH.out).mono ?_; rintro e w1 ⟨rfl, hb⟩; have HB := Lib.hid hb; clear hb)
    go_ret3
    exact ⟨_, rfl, HB.out, fun v' h' => by cases h'⟩

theorem readByte_yes (s : ByteArray) (k : Nat) (v : UInt8) (n : Nat) (w : World) (he : EscAt w) (hs : s.size ≤ 4294967295) (hk : k < s.size) (h : Pl.rb ((Pl.L s).drop k) = some (v, n)) :
    Calls Tryd.prog 51 #[.string s, .int .i64 (k : Int)] w fun e w' => e = .returned (.tuple #[.int .u8 (v.toNat : Int), .int .i64 ((k : Int) + (n : Int)), .bool true]) ∧ Below w.heap.size w w' := by
  by_cases hc : s[k] = 92
  · by_cases h1 : k + 1 < s.size
    · by_cases hx : s[k + 1] = 120
      · rw [Pl.rb_hex s k hk hc h1 hx] at h
        refine (readByte_hex s k w he hs hk hc h1 hx).mono ?_
        rintro e w' ⟨q, rfl, hb, hv⟩
        cases hh : Pl.hex (Pl.L (s.extract (k + 2) s.size)) with
        | some v' => rw [hh] at h; cases h; exact ⟨by rw [hv _ hh]; rfl, hb⟩
        | none => rw [hh] at h; cases h
      · rw [Pl.rb_raw s k hk hc h1 hx] at h
        refine (readByte_raw s k w he hs hk hc h1 hx).mono ?_
        rintro e w' ⟨q, rfl, hb, hv⟩
        cases hh : Pl.raw s[k + 1] with
        | some v' => rw [hh] at h; cases h; exact ⟨by rw [hv _ hh]; rfl, hb⟩
        | none => rw [hh] at h; cases h
    · rw [Pl.rb_end s k hk hc (by omega)] at h; cases h
  · rw [Pl.rb_plain s k hk hc] at h
    split at h
    · rename_i hp
      cases h
      exact (readByte_plain s k w hs hk hc).mono fun e w' ⟨a, b⟩ => ⟨by rw [a, hp]; rfl, b⟩
    · cases h

theorem readByte_no (s : ByteArray) (k : Nat) (w : World) (he : EscAt w) (hs : s.size ≤ 4294967295) (hk : k < s.size) (h : Pl.rb ((Pl.L s).drop k) = none) :
    Calls Tryd.prog 51 #[.string s, .int .i64 (k : Int)] w fun e w' => ∃ v n : Int, e = .returned (.tuple #[.int .u8 v, .int .i64 n, .bool false]) ∧ Below w.heap.size w w' := by
  by_cases hc : s[k] = 92
  · by_cases h1 : k + 1 < s.size
    · by_cases hx : s[k + 1] = 120
      · rw [Pl.rb_hex s k hk hc h1 hx] at h
        refine (readByte_hex s k w he hs hk hc h1 hx).mono ?_
        rintro e w' ⟨q, rfl, hb, hv⟩
        cases hh : Pl.hex (Pl.L (s.extract (k + 2) s.size)) with
        | some v' => rw [hh] at h; cases h
        | none => exact ⟨_, _, rfl, hb⟩
      · rw [Pl.rb_raw s k hk hc h1 hx] at h
        refine (readByte_raw s k w he hs hk hc h1 hx).mono ?_
        rintro e w' ⟨q, rfl, hb, hv⟩
        cases hh : Pl.raw s[k + 1] with
        | some v' => rw [hh] at h; cases h
        | none => exact ⟨_, _, rfl, hb⟩
    · exact (readByte_end s k w hs hk hc (by omega)).mono fun e w' ⟨a, b⟩ => ⟨_, _, a, by rw [← b]; exact Below.refl _ _⟩
  · rw [Pl.rb_plain s k hk hc] at h
    split at h
    · cases h
    · rename_i hp
      refine (readByte_plain s k w hs hk hc).mono ?_
      rintro e w' ⟨rfl, b⟩
      rw [Bool.eq_false_iff.2 hp]
      exact ⟨_, _, rfl, b⟩
end Go.Proofs.YthifbihmogjjpaaDoor
