/-
  The reference's asked.
-/
import Derived.Test.YtbgpcmpbfenplaaUm
namespace Go.Proofs.Ytbgpcmpbfenplaa.KK
open Go.ChangeShapes Go.WideShapes Go.ChangeAt Go.RowKit Go.Proofs

theorem rAsked_any (A : Option Addr) (c : Nat) (xs : List Pr) (key : ByteArray) (w : World) (hf : PsAt w A xs) (hn : xs.length ≤ 4294967295) (hs : SizedP xs) (hk : key.size ≤ 9223372036854775807) :
    Calls Try.prog 47 #[.slice A xs.length c, .string key] w fun e w' => e = .returned (.int .i64 (askE xs key)) ∧ Below w.heap.size w w' := by
  have J := Lib.hid (rfCheck_any A c xs w hf hn hs)
  by_cases he : (mapE xs).2 = 0
  · rw [he] at J
    by_cases hk2 : 32 < key.size
    · have HE := Lib.hid (show (3 : Int) = askE xs key by unfold askE chk1; rw [if_pos he]; split; · omega
                                                          · rfl)
      clear he hf hs
      generalize (mapE xs).1 = r1 at *
      go_enter Try.func47, Try.ntmps47
      go_wp2_with fail
      refine J.out.mono ?_
      rintro e w1 ⟨rfl, hb⟩
      have HB := Lib.hid hb
      clear hb J
      go_wp2_with fail
      go_ret
      exact ⟨retI HE.out, HB.out⟩
    · have HE := Lib.hid (show (0 : Int) = askE xs key by unfold askE chk1; rw [if_pos he]; split; · rfl
                                                          · omega)
      clear he hf hs
      generalize (mapE xs).1 = r1 at *
      go_enter Try.func47, Try.ntmps47
      go_wp2_with fail
      refine J.out.mono ?_
      rintro e w1 ⟨rfl, hb⟩
      have HB := Lib.hid hb
      clear hb J
      go_wp2_with fail
      go_ret
      exact ⟨retI HE.out, HB.out⟩
  · have HE := Lib.hid (show (mapE xs).2 = askE xs key from (if_neg he).symm)
    obtain ⟨b1, b2⟩ := ne_b he
    clear he hf hs
    generalize (mapE xs).1 = r1 at *
    generalize (mapE xs).2 = r at *
    go_enter Try.func47, Try.ntmps47
    go_wp2_with fail
    refine J.out.mono ?_
    rintro e w1 ⟨rfl, hb⟩
    have HB := Lib.hid hb
    clear hb J
    go_wp2_with fail
    go_ret
    exact ⟨retI HE.out, HB.out⟩
end Go.Proofs.Ytbgpcmpbfenplaa.KK
