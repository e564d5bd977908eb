/-
  Contracts of the functions on quoted strings: two digits, one byte.
-/
import Derived.Test.YthifbihmogjjpaaDoorWc
import Derived.Test.YthifbihmogjjpaaDoorPd
import Derived.Test.YthifbihmogjjpaaDoorShelf
import Derived.Deep.QuietTactic
import Derived.WalkSmall
namespace Go.Proofs.YthifbihmogjjpaaDoor
open Go.ChangeShapes Go.WideShapes Go.ChangeAt Go.RowKit Go.Proofs

theorem or_fin : ∀ x y : Fin 16, bits BinOp.or IntKind.i64 ((x.val : Int) * 16) (y.val : Int) = (x.val : Int) * 16 + (y.val : Int) := by decide +kernel
theorem or_nib (x y : Int) (h0 : 0 ≤ x) (h1 : x ≤ 15) (h2 : 0 ≤ y) (h3 : y ≤ 15) : bits BinOp.or IntKind.i64 (x * 16) y % 256 = x * 16 + y := by
  have := or_fin ⟨x.toNat, by omega⟩ ⟨y.toNat, by omega⟩
  simp only [Int.toNat_of_nonneg h0, Int.toNat_of_nonneg h2] at this
  rw [this]; omega
theorem EscAt.drewN {w : World} (h : EscAt w) (n : Nat) : EscAt (w.drewN n) := h
theorem below_drewN' {w : World} (n : Nat) : Below w.heap.size w (w.drewN n) := below_drewN (Below.refl _ _) n
theorem hv_eq (c : UInt8) : Lib.indexByte ([48, 49, 50, 51, 52, 53, 54, 55, 56, 57, 97, 98, 99, 100, 101, 102] : List UInt8) ((c.toNat : Int)).toNat.toUInt8 = Pl.hv c := by
  have : ((c.toNat : Int)).toNat.toUInt8 = c := by simp
  rw [this]; rfl
theorem hv_calls (c : UInt8) (w : World) :
    Calls Tryd.prog 86 #[.string ⟨#[48, 49, 50, 51, 52, 53, 54, 55, 56, 57, 97, 98, 99, 100, 101, 102]⟩, .int .u8 (c.toNat : Int)] w fun e w' => e = .returned (.int .i64 (Pl.hv c)) ∧ w' = w :=
  (Tryd.strings_IndexByte _ _ w).mono fun e w' h => by rw [← hv_eq]; exact h

theorem readHex_short (s : ByteArray) (w : World) (h2 : s.size < 2) :
    Calls Tryd.prog 68 #[.string s] w fun e w' => e = .returned (.tuple #[.int .u8 0, .bool false]) ∧ w = w' := by
  go_enter Tryd.func68, Tryd.ntmps68
  go_wp2_with fail
  go_ret2
  exact ⟨rfl, rfl⟩

theorem readHex_neg (s : ByteArray) (w : World) (hs : s.size ≤ 9223372036854775807) (b0 : 0 < s.size) (b1 : 1 < s.size) (hn : Pl.hv s[0] < 0 ∨ Pl.hv s[1] < 0) :
    Calls Tryd.prog 68 #[.string s] w fun e w' => e = .returned (.tuple #[.int .u8 0, .bool false]) ∧ Below w.heap.size w w' := by
  have b0' : (0 : Int) < (s.size : Int) := by omega
  have b1' : (1 : Int) < (s.size : Int) := by omega
  by_cases hx : Pl.hv s[0] < 0
  · clear hn
    go_enter Tryd.func68, Tryd.ntmps68
    go_wp2_with fail
    go_quiet ((go_at_call 86; exact Calls.quiet_of_same (hv_calls _ _)))
    go_wp2_with fail
    go_ret2
    exact ⟨rfl, below_drewN' _⟩
  · have hy : Pl.hv s[1] < 0 := by rcases hn with h | h; exact absurd h hx; exact h
    clear hn
    go_enter Tryd.func68, Tryd.ntmps68
    go_wp2_with fail
    go_quiet ((go_at_call 86; exact Calls.quiet_of_same (hv_calls _ _)))
    go_wp2_with fail
    go_ret2
    exact ⟨rfl, below_drewN' _⟩

theorem readHex_val (s : ByteArray) (w : World) (he : EscAt w) (hs : s.size ≤ 9223372036854775807) (b0 : 0 < s.size) (b1 : 1 < s.size) (h0 : 0 ≤ Pl.hv s[0]) (h1 : 0 ≤ Pl.hv s[1]) :
    Calls Tryd.prog 68 #[.string s] w fun e w' => e = .returned (.tuple #[.int .u8 ((Pl.hexv s[0] s[1]).toNat : Int), .bool (!((Pl.letter (Pl.hexv s[0] s[1])).isSome || Pl.plain (Pl.hexv s[0] s[1])))]) ∧ Below w.heap.size w w' := by
  have b0' : (0 : Int) < (s.size : Int) := by omega
  have b1' : (1 : Int) < (s.size : Int) := by omega
  obtain ⟨r0, r1⟩ := Pl.hv_range s[0]
  obtain ⟨r2, r3⟩ := Pl.hv_range s[1]
  have HV := Lib.hid (Pl.hexv_toNat s[0] s[1] h0 h1)
  have HE := Lib.hid he
  clear he
  cases hl : (Pl.letter (Pl.hexv s[0] s[1])).isSome <;> cases hp : Pl.plain (Pl.hexv s[0] s[1])
  all_goals
    go_enter Tryd.func68, Tryd.ntmps68
    go_wp2_with fail
    go_quiet ((go_at_call 86; exact Calls.quiet_of_same (hv_calls _ _)))
    go_wp2_with fail
    rw [or_nib _ _ h0 r1 h1 r3, ← HV.out]
    refine (letterOf_any (Pl.hexv s[0] s[1]) _ (HE.out.drewN _)).mono ?_
    rintro e w1 ⟨rfl, hb⟩
    have HB := Lib.hid hb
    clear hb
    go_wp2_with (go_at_call 52; (try rw [or_nib _ _ h0 r1 h1 r3, ← HV.out]); refine (isPlain_any (Pl.hexv s[0] s[1]) _).mono ?_; rintro e w' ⟨rfl, rfl⟩)
    go_ret2
    exact ⟨by (try rw [or_nib _ _ h0 r1 h1 r3, ← HV.out]); rfl, (below_drewN' _).trans HB.out⟩
end Go.Proofs.YthifbihmogjjpaaDoor
