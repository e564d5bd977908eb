/-
  Shadow: Filter and Count of the program.
-/
import Derived.Test.YtlobkbhghpknmaaSf
namespace Go.Proofs.Ytlobkbhghpknmaa.KK
open Go.ChangeShapes Go.WideShapes Go.ChangeAt Go.RowKit Go.Proofs

/-- what Filter answers -/
def FiltOut (xs : List El.En) (b : Bool) (w : World) (e : Ending) (w' : World) : Prop :=
  ∃ A c, e = .returned (.tuple #[.slice A (siftE xs b).1.1.length c, .int .i64 (siftE xs b).2.1, .int .i64 (siftE xs b).2.2]) ∧ EsAt w' A (siftE xs b).1.1 ∧ Below w.heap.size w w'
set_option maxRecDepth 100000 in
set_option maxHeartbeats 2000000 in
theorem pFilter_any (A : Option Addr) (c : Nat) (xs : List El.En) (b : Bool) (w : World) (hf : EsAt w A xs) (hn : xs.length ≤ 4294967295) (hs : Sized xs) :
    Calls Try.prog 18 #[.slice A xs.length c, .bool b] w fun e w' => FiltOut xs b w e w' := by
  have J := Lib.hid (sift_any A c xs b w hf hn hs)
  have HG : Hid (∀ e w', FiltOut xs b w e w' = ∃ A c, e = .returned (.tuple #[.slice A (siftE xs b).1.1.length c, .int .i64 (siftE xs b).2.1, .int .i64 (siftE xs b).2.2]) ∧ EsAt w' A (siftE xs b).1.1 ∧ Below w.heap.size w w') := Lib.hid (fun _ _ => rfl)
  unfold SiftOut at J
  simp only [HG.out]
  generalize siftE xs b = r at *
  obtain ⟨⟨ks, sh, dr⟩, i, er⟩ := r
  simp only at J ⊢
  obtain ⟨m, hm⟩ : ∃ m, ks.length = m := ⟨_, rfl⟩
  rw [hm] at J ⊢
  clear hf hs HG
  go_enter Try.func18, Try.ntmps18
  go_wp2_with fail
  refine J.out.mono ?_
  rintro e w1 ⟨A1, c1, rfl, hes, hb⟩
  have HF := Lib.hid (show EsAt (w1.alloc (.cells #[.slice A1 m c1, .int .i64 (sh : Int), .int .i64 (dr : Int)] 58)) A1 ks ∧ Below w.heap.size w (w1.alloc (.cells #[.slice A1 m c1, .int .i64 (sh : Int), .int .i64 (dr : Int)] 58)) from ⟨hes.below (al1 _ _) (Nat.le_refl _), bl_al hb (Nat.le_refl _) _⟩)
  clear hes hb
  go_wp2_with fail
  exact bodyPost_ret (v := .tuple #[.slice A1 m c1, .int .i64 i, .int .i64 er]) (by simp [results, Try.results18, go_sem]) rfl ⟨A1, c1, rfl, HF.out.1, HF.out.2⟩
set_option maxRecDepth 100000 in
set_option maxHeartbeats 2000000 in
theorem pCount_any (A : Option Addr) (c : Nat) (xs : List El.En) (b : Bool) (w : World) (hf : EsAt w A xs) (hn : xs.length ≤ 4294967295) (hs : Sized xs) :
    Calls Try.prog 20 #[.slice A xs.length c, .bool b] w fun e w' => e = .returned (.tuple #[.agg #[.int .i64 ((siftE xs b).1.1.length : Int), .int .i64 ((siftE xs b).1.2.1 : Int), .int .i64 ((siftE xs b).1.2.2 : Int)], .int .i64 (siftE xs b).2.1, .int .i64 (siftE xs b).2.2]) ∧ Below w.heap.size w w' := by
  have J := Lib.hid (fun w h => sift_any A c xs b w h hn hs)
  have HF := Lib.hid hf
  unfold SiftOut at J
  generalize siftE xs b = r at *
  obtain ⟨⟨ks, sh, dr⟩, i, er⟩ := r
  simp only at J ⊢
  obtain ⟨m, hm⟩ : ∃ m, ks.length = m := ⟨_, rfl⟩
  rw [hm] at J ⊢
  clear hf hs hm
  go_enter Try.func20, Try.ntmps20
  go_wp2_with fail
  refine (J.out _ (HF.out.below (al1 _ _) (Nat.le_refl _))).mono ?_
  rintro e w1 ⟨A1, c1, rfl, _, hb⟩
  have hr : Row3 w1 w.heap.size 38 (.int .i64 0) (.int .i64 0) (.int .i64 0) := (hb.block _ (by simp)).trans (heap_alloc_new _ _)
  have c0 := hr.c0; have c1' := hr.c1; have c2 := hr.c2
  have f0 := hr.fz 0; have f1 := hr.fz 1; have f2 := hr.fz 2
  have hlt := hr.lt
  have HR := Lib.hid hr
  have HB := Lib.hid (eb_of (al1 w (.cells #[.int .i64 0, .int .i64 0, .int .i64 0] 38)) hb (Nat.le_refl _))
  clear hb hr
  go_wp2_with fail
  have hr := (HR.out.set (.int .i64 (m : Int)) (.int .i64 (sh : Int)) (.int .i64 (dr : Int))).below (al1 _ (.cells #[.slice A1 m c1, .int .i64 (sh : Int), .int .i64 (dr : Int)] 58)) (Nat.le_refl _)
  have hBf := bl_al (set3s HB.out (Nat.le_refl _) (.int .i64 (m : Int)) (.int .i64 (sh : Int)) (.int .i64 (dr : Int))) (Nat.le_refl _) (.cells #[.slice A1 m c1, .int .i64 (sh : Int), .int .i64 (dr : Int)] 58)
  clear c0 c1' c2
  revert hr hBf
  generalize World.alloc _ _ = W
  intro hr hBf
  have c0 := hr.c0; have c1' := hr.c1; have c2 := hr.c2
  exact bodyPost_ret (v := .tuple #[.agg #[.int .i64 (m : Int), .int .i64 (sh : Int), .int .i64 (dr : Int)], .int .i64 i, .int .i64 er]) (by simp [results, Try.results20, go_sem, c0, c1', c2]) rfl ⟨rfl, hBf⟩
end Go.Proofs.Ytlobkbhghpknmaa.KK
