/-
  Contract of the plain map's Diff.
-/
import Derived.Test.YtbgpcmpbfenplaaVo
namespace Go.Proofs.Ytbgpcmpbfenplaa.KK
open Go.ChangeShapes Go.WideShapes Go.ChangeAt Go.RowKit Go.Proofs
/-- what Diff answers -/
def diffE (xs ys : List Pr) : Int := if (mapE xs).2 ≠ 0 then (mapE xs).2 else (mapE ys).2
def diffM (xs ys : List Pr) : List It := if diffE xs ys = 0 then diffP xs ys else []
theorem diffM_no {xs ys : List Pr} (h : diffE xs ys ≠ 0) : diffM xs ys = [] := if_neg h
theorem ps_lt {w : World} {A : Option Addr} {xs : List Pr} (h : PsAt w A xs) (z : xs ≠ []) (a : Addr) (e : A = some a) : a.block < w.heap.size := by
  rcases h with h | ⟨b, off, h, hl, _⟩
  · exact absurd h z
  · rw [h] at e; cases e; exact hl
set_option maxRecDepth 100000 in
set_option maxHeartbeats 4000000 in
theorem diff_any (A B : Option Addr) (c c2 : Nat) (xs ys : List Pr) (w : World) (hf : PsAt w A xs) (hn : xs.length ≤ 4294967295) (hs : SizedP xs) (hg : PsAt w B ys) (hn2 : ys.length ≤ 4294967295) (hs2 : SizedP ys) :
    Calls Try.prog 20 #[.slice A xs.length c, .slice B ys.length c2] w fun e w' => ∃ v', e = .returned (.tuple #[v', .int .i64 (diffE xs ys)]) ∧ w'.ownsRow w.heap.size 74 4 v' (diffM xs ys).length (cellsI (diffM xs ys)) ∧ Below w.heap.size w w' := by
  have J1 := Lib.hid (fun w1 (h : Below w.heap.size w w1) => mCheck_any A c xs w1 (hf.below h (Nat.le_refl _)) hn hs)
  have J2 := Lib.hid (fun w1 (h : Below w.heap.size w w1) => mCheck_any B c2 ys w1 (hg.below h (Nat.le_refl _)) hn2 hs2)
  have HF := Lib.hid hf
  have HG := Lib.hid hg
  by_cases h1 : (mapE xs).2 = 0
  rotate_left
  · have H : Hid (diffE xs ys = (mapE xs).2) := Lib.hid (by unfold diffE; rw [if_pos h1])
    have HM : Hid (diffM xs ys = []) := Lib.hid (diffM_no (by rw [H.out]; exact h1))
    obtain ⟨b1, b2⟩ := ne_b h1
    clear h1 hf hs hg hs2
    generalize (mapE xs).1 = r0 at *
    generalize (mapE xs).2 = r at *
    generalize ys.length = m at *
    generalize xs.length = n at *
    go_enter Try.func20, Try.ntmps20
    go_wp2_with fail
    refine (J1.out _ (Below.refl _ _)).mono ?_
    rintro e w1 ⟨rfl, hb⟩
    have HB := Lib.hid hb
    clear hb
    go_wp2_with fail
    go_ret2
    refine ⟨.slice none 0 0, by rw [H.out]; rfl, ?_, HB.out⟩
    rw [HM.out]
    exact World.ownsRow_nil _ _ _ _
  by_cases h2 : (mapE ys).2 = 0
  rotate_left
  · have H : Hid (diffE xs ys = (mapE ys).2) := Lib.hid (by unfold diffE; rw [if_neg (by rw [h1]; simp)])
    have HM : Hid (diffM xs ys = []) := Lib.hid (diffM_no (by rw [H.out]; exact h2))
    obtain ⟨b1, b2⟩ := ne_b h2
    rw [h1] at J1
    clear h1 h2 hf hs hg hs2
    generalize (mapE xs).1 = r0 at *
    generalize (mapE ys).1 = r1 at *
    generalize (mapE ys).2 = r at *
    generalize ys.length = m at *
    generalize xs.length = n at *
    go_enter Try.func20, Try.ntmps20
    go_wp2_with fail
    refine (J1.out _ (Below.refl _ _)).mono ?_
    rintro e w1 ⟨rfl, hb⟩
    have HB := Lib.hid hb
    clear hb
    go_wp2_with fail
    refine (J2.out _ HB.out).mono ?_
    rintro e w2 ⟨rfl, hb⟩
    have HB2 := Lib.hid (eb_of HB.out hb (Nat.le_refl _))
    clear hb
    go_wp2_with fail
    go_ret2
    refine ⟨.slice none 0 0, by rw [H.out]; rfl, ?_, HB2.out⟩
    rw [HM.out]
    exact World.ownsRow_nil _ _ _ _
  obtain ⟨x4, xz, _⟩ := map_ok h1
  obtain ⟨y4, yz, _⟩ := map_ok h2
  have H : Hid (diffE xs ys = 0) := Lib.hid (by unfold diffE; rw [if_neg (by rw [h1]; simp), h2])
  have HM : Hid (diffM xs ys = diffP xs ys) := Lib.hid (if_pos H.out)
  rw [h1] at J1
  rw [h2] at J2
  clear h1 h2 hf hg hs hs2
  generalize (mapE xs).1 = r0 at *
  generalize (mapE ys).1 = r1 at *
  go_enter Try.func20, Try.ntmps20
  go_wp2_with fail
  refine (J1.out _ (Below.refl _ _)).mono ?_
  rintro e w1 ⟨rfl, hb⟩
  have HB := Lib.hid hb
  clear hb
  go_wp2_with fail
  refine (J2.out _ HB.out).mono ?_
  rintro e w2 ⟨rfl, hb⟩
  have HB2 := Lib.hid (eb_of HB.out hb (Nat.le_refl _))
  clear hb
  go_wp2_with fail
  have hsz2 := HB2.out.size
  have HP1 := ps_lt HF.out
  have HP2 := ps_lt HG.out
  have HF2 := HF.out.below HB2.out (Nat.le_refl _)
  have HG2 := HG.out.below HB2.out (Nat.le_refl _)
  have hx : Fix A B xs ys w2.heap.size (w2.heap.size + 1) := ⟨by omega, fun z a e => by have := HP1 z a e; omega, fun z a e => by have := HP2 z a e; omega, x4, y4⟩
  have e1 : (w2.alloc (.cells #[.slice A xs.length c, .int .i64 0] 89)).heap.size = w2.heap.size + 1 := by simp
  have hb12 : Below w2.heap.size w2 ((w2.alloc (.cells #[.slice A xs.length c, .int .i64 0] 89)).alloc (.cells #[.slice B ys.length c2, .int .i64 0] 89)) := (alloc_below w2 _).trans ((alloc_below _ _).mono (by simp))
  have R1 := (Row2.new w2 89 (.slice A xs.length c) (.int .i64 0)).below (alloc_below _ (.cells #[.slice B ys.length c2, .int .i64 0] 89)) (Nat.le_refl _)
  have R2 := Row2.new (w2.alloc (.cells #[.slice A xs.length c, .int .i64 0] 89)) 89 (.slice B ys.length c2) (.int .i64 0)
  rw [e1] at R2
  have J3 := Lib.hid (differ_any A B c c2 xs ys w2.heap.size (w2.heap.size + 1) _ ⟨R1, R2, HF2.below hb12 (Nat.le_refl _), HG2.below hb12 (Nat.le_refl _)⟩ hx w.heap.size hsz2 (by omega) (fun x h => (szE_of (xz x h)).1) (fun x h => (szE_of (yz x h)).1))
  have hb13 := Lib.hid (HB2.out.trans (hb12.mono hsz2))
  clear R1 R2 hx HF2 HG2 HP1 HP2 xz yz hb12
  refine J3.out.mono ?_
  rintro e w3 ⟨v3, rfl, ho, hb⟩
  have HO := Lib.hid (own_mono' ho hb13.out.size)
  have HB3 := Lib.hid (hb13.out.trans hb)
  clear ho hb
  go_wp2_with fail
  go_ret2
  refine ⟨v3, by rw [H.out]; rfl, ?_, HB3.out⟩
  rw [HM.out]
  exact HO.out
end Go.Proofs.Ytbgpcmpbfenplaa.KK
