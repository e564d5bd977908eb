/-
  Trees of losers: awake.
-/
import Derived.Test.YtebjhjmlpodkgaaLr
namespace Go.Proofs.Ytebjhjmlpodkgaa.KK
open Go.ChangeShapes Go.WideShapes Go.ChangeAt Go.RowKit Go.Proofs

theorem isNew {W : World} {Z : Array Value} {L : List Int} {b : Nat} (h : Z.toList = intsV L) (hb : b = W.heap.size) : IsAt (W.alloc (.cells Z 3)) (some ⟨b, 0, none⟩) L := by
  subst hb; exact (CR.new h).is
/-- a tree in a box that was just made, its rows older: all of it in whatever comes -/
theorem boxTree {w w2 : World} {kb lb cp cl n : Nat} {ks : List LK} {L : List Int} {win : Int} (h : Below w.heap.size w w2) (hk : CR w2 kb (keysV ks)) (hl : CR w2 lb (intsV L)) : Hid (∀ w', Below (w2.alloc (.cells #[.slice (some ⟨kb, 0, none⟩) n cp, .slice (some ⟨lb, 0, none⟩) n cl, .int .i64 win] 28)).heap.size (w2.alloc (.cells #[.slice (some ⟨kb, 0, none⟩) n cp, .slice (some ⟨lb, 0, none⟩) n cl, .int .i64 win] 28)) w' →
    Row3 w' w2.heap.size 28 (.slice (some ⟨kb, 0, none⟩) n cp) (.slice (some ⟨lb, 0, none⟩) n cl) (.int .i64 win) ∧ KsAt w' (some ⟨kb, 0, none⟩) ks ∧ IsAt w' (some ⟨lb, 0, none⟩) L ∧ Below w.heap.size w w' ∧ Below w2.heap.size w2 w') := Lib.hid fun w' hb => by
  have h2 := eb_of (alloc_below w2 (.cells #[.slice (some ⟨kb, 0, none⟩) n cp, .slice (some ⟨lb, 0, none⟩) n cl, .int .i64 win] 28)) hb (by simp)
  exact ⟨(hb.block _ (by simp)).trans (heap_alloc_new w2 _), (hk.below h2 hk.lt).ks, (hl.below h2 hl.lt).is, eb_of h h2 (Nat.le_refl _), h2⟩
end Go.Proofs.Ytebjhjmlpodkgaa.KK
