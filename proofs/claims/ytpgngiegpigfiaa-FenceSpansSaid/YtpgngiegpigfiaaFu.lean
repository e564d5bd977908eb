/-
  The law's own example.
-/
import Derived.Test.YtpgngiegpigfiaaFt
namespace Go.Proofs.Ytpgngiegpigfiaa.KK
open Go.ChangeShapes Go.WideShapes Go.ChangeAt Go.RowKit Go.Proofs

def ex1 : ByteArray := ⟨#[97, 97]⟩
def ex2 : ByteArray := ⟨#[97, 98]⟩
def ex3 : ByteArray := ⟨#[98]⟩
def ex4 : ByteArray := ⟨#[98, 99, 100]⟩
def ex5 : ByteArray := ⟨#[98, 99, 101]⟩
def exL : List El.En := [(ex1, ⟨#[]⟩, false, 1), (ex2, ⟨#[]⟩, false, 2), (ex3, ⟨#[]⟩, false, 3), (ex4, ⟨#[]⟩, false, 4), (ex5, ⟨#[]⟩, false, 5)]
/-- an argument that is the list of the examples, new -/
def ExOut (w : World) (e : Ending) (w' : World) : Prop := ∃ A c, e = .returned (.slice A 5 c) ∧ 5 ≤ c ∧ A ≠ none ∧ EsAt w' A exL ∧ Below w.heap.size w w'
set_option maxRecDepth 100000 in
set_option maxHeartbeats 4000000 in
theorem example_any (w : World) : Calls Try.prog 34 #[] w (ExOut w) := by
  obtain ⟨i0, hi, hz0, hz1, hz2⟩ := info_parts infoE
  have HC0 : Hid (∀ k (h : k < 5), (w.alloc (.cells #[.string ⟨#[97, 97]⟩, .string ⟨#[97, 98]⟩, .string ⟨#[98]⟩, .string ⟨#[98, 99, 100]⟩, .string ⟨#[98, 99, 101]⟩] 84)).cell? ⟨w.heap.size, k, none⟩ = some (.string (exL[k]'h).1)) := Lib.hid (fun k h => by
    have hk : k = 0 ∨ k = 1 ∨ k = 2 ∨ k = 3 ∨ k = 4 := by omega
    rcases hk with rfl | rfl | rfl | rfl | rfl <;> exact cell_of_row _ w.heap.size _ _ _ _ (heap_alloc_new w _))
  have hb0 := alloc_below w (.cells #[.string ⟨#[97, 97]⟩, .string ⟨#[97, 98]⟩, .string ⟨#[98]⟩, .string ⟨#[98, 99, 100]⟩, .string ⟨#[98, 99, 101]⟩] 84)
  go_enter Try.func34, Try.ntmps34
  go_wp2_with fail
  go_loopw [2, 3] (fun v i wr => ∃ k : Nat, k ≤ 5 ∧ i = .int .i64 k ∧ wr.ownsRow (w.heap.size + 1) 50 4 v k (cellsE (exL.take k)) ∧ Below w.heap.size w wr ∧ Hid (∀ k (h : k < 5), wr.cell? ⟨w.heap.size, k, none⟩ = some (.string (exL[k]'h).1)) ∧ w.heap.size < wr.heap.size) (fun _ i _ => 5 - (intOf i).toNat)
  case atStart => exact ⟨0, by omega, rfl, World.ownsRow_nil _ _ _ _, hb0, HC0, by simp⟩
  case round =>
    obtain ⟨k, hk, rfl, hown, hb, HC, hws⟩ := hrel
    have HB := Lib.hid hb
    obtain ⟨A, c, hv⟩ := own_slice hown
    subst hv
    clear hb hb0
    by_cases hlt : k < 5
    · have g0 := HC.out k hlt
      have HT : Hid (exL.take (k + 1) = exL.take k ++ [((exL[k]'hlt).1, ⟨#[]⟩, false, (k : Int) + 1)]) := Lib.hid (by
        have hk : k = 0 ∨ k = 1 ∨ k = 2 ∨ k = 3 ∨ k = 4 := by omega
        rcases hk with rfl | rfl | rfl | rfl | rfl <;> rfl)
      generalize (exL[k]'hlt).1 = xk at *
      have hsz := HB.out.size
      have hk5 : (k : Int) < 5 := by omega
      go_wp2_with (at_builtin; go_loud (refine wpList_append_own _ rfl (.tmp 9) (.tmp 16) 22 rfl (w.heap.size + 1) 50 i0 (.agg #[.string ⟨#[]⟩, .string ⟨#[]⟩, .bool false, .int .i64 0]) 4 48 Try.underlying22 hi hz0 hz1 hz2 rfl (by decide) _ k _ rfl (hown.alloc _) ⟨wr.heap.size, 0, none⟩ 1 1 [.string xk, .string ⟨#[]⟩, .bool false, .int .i64 ((k : Int) + 1)] rfl rfl (new4 wr (xk, ⟨#[]⟩, false, (k : Int) + 1)) (by simp [Value.oneCell']) (by unfold maxLen; omega) (by omega) (by simp; omega) ?_; intro v3 w3 hown3 hg3 _; have hne : ∀ g, (Value.slice A k c).ownBlock = some g → w.heap.size + 1 ≤ g := (fun g hg => (hown.lt g hg).1); have hb3 := (HB.out.alloc HB.out.size (.cells #[.string xk, .string ⟨#[]⟩, .bool false, .int .i64 ((k : Int) + 1)] 50)).grown hg3 (by simp; omega) (fun g hg => Nat.le_trans (by omega) (hne g hg)); have HB3 := Lib.hid hb3; have HC3 : Hid (∀ k (h : k < 5), w3.cell? ⟨w.heap.size, k, none⟩ = some (.string (exL[k]'h).1)) := Lib.hid (fun k h => (Chg.of_grown hg3).cell (Lib.cell?_alloc_some _ (HC.out k h)) (fun e => absurd (hne _ e.symm) (by omega))); have HO3 := Lib.hid (own_snoc (x := (xk, ⟨#[]⟩, false, (k : Int) + 1)) hown3); have hs3 := (Chg.of_grown hg3).size; simp at hs3; clear hg3 hb3 hown3))
      go_roundw
      case rel => exact ⟨k + 1, by omega, by go_num, by rw [HT.out]; exact HO3.out, HB3.out, HC3, by omega⟩
      case measure => simp [intOf]; omega
    · obtain rfl : k = 5 := by omega
      obtain ⟨hc5, hA⟩ : 5 ≤ c ∧ A ≠ none := by
        rcases hown.2 with ⟨_, h1⟩ | ⟨g, cap, cur, hv, _, _, h5, _⟩
        · omega
        · injection hv with h1 _ h3
          subst h1 h3
          exact ⟨h5, by simp⟩
      have HE := Lib.hid (EsAt.of_own (ys := exL) hown)
      clear hown
      go_wp2_with fail
      go_ret
      exact ⟨A, c, rfl, hc5, hA, HE.out, HB.out⟩
end Go.Proofs.Ytpgngiegpigfiaa.KK
