/-
  The walk of WordsKnown.
-/
import Derived.Test.YthifbihmogjjpaaDoorXy
import Derived.Test.YthifbihmogjjpaaDoorXt
namespace Go.Proofs.YthifbihmogjjpaaDoor
open Go.ChangeShapes Go.WideShapes Go.ChangeAt Go.RowKit Go.Proofs

theorem kn1 (w : World) (he : Env w) (h4 : C4 w) :
    Calls Tryd.prog 20 #[.string ⟨#[48, 48, 55]⟩, .int .i64 0, .int .i64 10] w fun e w' => e = .returned (.tuple #[.int .i64 0, .int .i64 6]) ∧ Below w.heap.size w w' := by
  have h := Int_any ⟨#[48, 48, 55]⟩ 0 10 w he.2.1 (by decide) (by decide) (by decide) (by decide) (by decide)
  have e : Pl.intE (Pl.L ⟨#[48, 48, 55]⟩) 0 10 = (6, 0) := by decide +kernel
  rwa [e] at h
theorem kn2 (w : World) (he : Env w) (h4 : C4 w) :
    Calls Tryd.prog 20 #[.string ⟨#[45, 48]⟩, .int .i64 0, .int .i64 10] w fun e w' => e = .returned (.tuple #[.int .i64 0, .int .i64 6]) ∧ Below w.heap.size w w' := by
  have h := Int_any ⟨#[45, 48]⟩ 0 10 w he.2.1 (by decide) (by decide) (by decide) (by decide) (by decide)
  have e : Pl.intE (Pl.L ⟨#[45, 48]⟩) 0 10 = (6, 0) := by decide +kernel
  rwa [e] at h
theorem kn3 (w : World) (he : Env w) (h4 : C4 w) :
    Calls Tryd.prog 20 #[.string ⟨#[49, 50]⟩, .int .i64 0, .int .i64 10] w fun e w' => e = .returned (.tuple #[.int .i64 0, .int .i64 7]) ∧ Below w.heap.size w w' := by
  have h := Int_any ⟨#[49, 50]⟩ 0 10 w he.2.1 (by decide) (by decide) (by decide) (by decide) (by decide)
  have e : Pl.intE (Pl.L ⟨#[49, 50]⟩) 0 10 = (7, 0) := by decide +kernel
  rwa [e] at h
theorem kn4 (w : World) (he : Env w) (h4 : C4 w) :
    Calls Tryd.prog 15 #[.string ⟨#[34, 92, 120, 52, 49, 34]⟩] w fun e w' => e = .returned (.tuple #[.string ⟨#[]⟩, .int .i64 6]) ∧ Below w.heap.size w w' := by
  exact Unquote_no ⟨#[34, 92, 120, 52, 49, 34]⟩ w he.1 (by decide) (by decide +kernel)
theorem kn5 (w : World) (he : Env w) (h4 : C4 w) :
    Calls Tryd.prog 15 #[.string ⟨#[34, 92, 120, 55, 70, 34]⟩] w fun e w' => e = .returned (.tuple #[.string ⟨#[]⟩, .int .i64 6]) ∧ Below w.heap.size w w' := by
  exact Unquote_no ⟨#[34, 92, 120, 55, 70, 34]⟩ w he.1 (by decide) (by decide +kernel)
theorem kn6 (w : World) (he : Env w) (h4 : C4 w) :
    Calls Tryd.prog 15 #[.string ⟨#[34, 97]⟩] w fun e w' => e = .returned (.tuple #[.string ⟨#[]⟩, .int .i64 6]) ∧ Below w.heap.size w w' := by
  exact Unquote_no ⟨#[34, 97]⟩ w he.1 (by decide) (by decide +kernel)
theorem kn7 (w : World) (he : Env w) (h4 : C4 w) :
    Calls Tryd.prog 9 #[.string ⟨#[97, 32, 32, 98]⟩] w fun e w' => ∃ A c, e = .returned (.tuple #[.slice A 0 c, .int .i64 6]) ∧ Below w.heap.size w w' := by
  have h := Split_any ⟨#[97, 32, 32, 98]⟩ w he.1 (by decide)
  have e : Pl.split (Pl.L ⟨#[97, 32, 32, 98]⟩) = (6, []) := by decide +kernel
  unfold SplitOut at h
  rw [e] at h
  exact h.mono fun e w' ⟨A, c, h1, _, h3⟩ => ⟨A, c, h1, h3⟩
theorem kn8 (w : World) (he : Env w) (h4 : C4 w) :
    Calls Tryd.prog 9 #[.string ⟨#[]⟩] w fun e w' => ∃ A c, e = .returned (.tuple #[.slice A 0 c, .int .i64 0]) ∧ Below w.heap.size w w' := by
  have h := Split_any ⟨#[]⟩ w he.1 (by decide)
  have e : Pl.split (Pl.L ⟨#[]⟩) = (0, []) := by decide +kernel
  unfold SplitOut at h
  rw [e] at h
  exact h.mono fun e w' ⟨A, c, h1, _, h3⟩ => ⟨A, c, h1, h3⟩
theorem kn9 (w : World) (he : Env w) (h4 : C4 w) :
    Calls Tryd.prog 17 #[.slice none 0 0] w fun e w' => e = .returned (.tuple #[.string ⟨#[45]⟩, .int .i64 0]) ∧ Below w.heap.size w w' := by
  have h := List_any none 0 [] w he.2.1 he.2.2 (.inl rfl) (by intro i; simp [Pl.el]) (by decide)
  have e : Pl.listE [] = (0, [45]) := by decide +kernel
  rw [e] at h
  exact h
theorem kn10 (w : World) (he : Env w) (h4 : C4 w) :
    Calls Tryd.prog 18 #[.string ⟨#[49, 45, 51, 44, 52]⟩] w fun e w' => ∃ A c, e = .returned (.tuple #[.slice A 0 c, .int .i64 6]) ∧ Below w.heap.size w w' := by
  have h := ParseList_any [49, 45, 51, 44, 52] w he h4 (by decide)
  have e : Pl.plist [49, 45, 51, 44, 52] = (6, []) := by decide +kernel
  unfold IntsOut at h
  rw [e] at h
  exact h.mono fun e w' ⟨A, c, h1, _, h3⟩ => ⟨A, c, h1, h3⟩
theorem kn11 (w : World) (he : Env w) (h4 : C4 w) :
    Calls Tryd.prog 18 #[.string ⟨#[51, 45, 51]⟩] w fun e w' => ∃ A c, e = .returned (.tuple #[.slice A 0 c, .int .i64 6]) ∧ Below w.heap.size w w' := by
  have h := ParseList_any [51, 45, 51] w he h4 (by decide)
  have e : Pl.plist [51, 45, 51] = (6, []) := by decide +kernel
  unfold IntsOut at h
  rw [e] at h
  exact h.mono fun e w' ⟨A, c, h1, _, h3⟩ => ⟨A, c, h1, h3⟩
theorem kn12 (w : World) (he : Env w) (h4 : C4 w) :
    Calls Tryd.prog 18 #[.string ⟨#[50, 44, 49]⟩] w fun e w' => ∃ A c, e = .returned (.tuple #[.slice A 0 c, .int .i64 6]) ∧ Below w.heap.size w w' := by
  have h := ParseList_any [50, 44, 49] w he h4 (by decide)
  have e : Pl.plist [50, 44, 49] = (6, []) := by decide +kernel
  unfold IntsOut at h
  rw [e] at h
  exact h.mono fun e w' ⟨A, c, h1, _, h3⟩ => ⟨A, c, h1, h3⟩
theorem kn13 (w : World) (he : Env w) (h4 : C4 w) :
    Calls Tryd.prog 18 #[.string ⟨#[48, 45, 54, 48, 48]⟩] w fun e w' => ∃ A c, e = .returned (.tuple #[.slice A 0 c, .int .i64 3]) ∧ Below w.heap.size w w' := by
  have h := ParseList_any [48, 45, 54, 48, 48] w he h4 (by decide)
  have e : Pl.plist [48, 45, 54, 48, 48] = (3, []) := by decide +kernel
  unfold IntsOut at h
  rw [e] at h
  exact h.mono fun e w' ⟨A, c, h1, _, h3⟩ => ⟨A, c, h1, h3⟩
theorem kname0 (w : World) :
    Calls Tryd.prog 22 #[.string ⟨#[87, 101, 98]⟩] w fun e w' => e = .returned (.bool false) ∧ w = w' := by
  have h := Name_any ⟨#[87, 101, 98]⟩ w (by decide)
  have e : Pl.name (Pl.L ⟨#[87, 101, 98]⟩) = false := by decide +kernel
  rwa [e] at h
theorem kname1 (w : World) :
    Calls Tryd.prog 22 #[.string ⟨#[97, 97, 97, 97, 97, 97, 97, 97, 97, 97, 97, 97, 97, 97, 97, 97, 97]⟩] w fun e w' => e = .returned (.bool false) ∧ w = w' := by
  have h := Name_any ⟨#[97, 97, 97, 97, 97, 97, 97, 97, 97, 97, 97, 97, 97, 97, 97, 97, 97]⟩ w (by decide)
  have e : Pl.name (Pl.L ⟨#[97, 97, 97, 97, 97, 97, 97, 97, 97, 97, 97, 97, 97, 97, 97, 97, 97]⟩) = false := by decide +kernel
  rwa [e] at h

set_option maxRecDepth 100000 in
set_option maxHeartbeats 4000000 in
theorem known_any (w : World) (he : Env w) (h4 : C4 w) :
    Calls Tryd.prog 7 #[] w fun e w' => e = .returned (.bool true) ∧ Below w.heap.size w w' := by
  have HE := Lib.hid he
  have H4 := Lib.hid h4
  have HB := Lib.hid (Below.refl w.heap.size w)
  clear he h4
  go_enter Tryd.func7, Tryd.ntmps7
  go_wp2_with fail
  refine (kn1 _ HE.out H4.out).mono ?_
  rintro e w1 ⟨rfl, hb⟩
  have HB := Lib.hid (below_of HB.out hb (Nat.le_refl _))
  have H4 := Lib.hid (H4.out.below HE.out hb)
  have HE := Lib.hid (HE.out.below hb)
  clear hb
  go_wp2_with fail
  refine (kn2 _ HE.out H4.out).mono ?_
  rintro e w2 ⟨rfl, hb⟩
  have HB := Lib.hid (below_of HB.out hb (Nat.le_refl _))
  have H4 := Lib.hid (H4.out.below HE.out hb)
  have HE := Lib.hid (HE.out.below hb)
  clear hb
  go_wp2_with fail
  refine (kn3 _ HE.out H4.out).mono ?_
  rintro e w3 ⟨rfl, hb⟩
  have HB := Lib.hid (below_of HB.out hb (Nat.le_refl _))
  have H4 := Lib.hid (H4.out.below HE.out hb)
  have HE := Lib.hid (HE.out.below hb)
  clear hb
  go_wp2_with fail
  refine (kn4 _ HE.out H4.out).mono ?_
  rintro e w4 ⟨rfl, hb⟩
  have HB := Lib.hid (below_of HB.out hb (Nat.le_refl _))
  have H4 := Lib.hid (H4.out.below HE.out hb)
  have HE := Lib.hid (HE.out.below hb)
  clear hb
  go_wp2_with fail
  refine (kn5 _ HE.out H4.out).mono ?_
  rintro e w5 ⟨rfl, hb⟩
  have HB := Lib.hid (below_of HB.out hb (Nat.le_refl _))
  have H4 := Lib.hid (H4.out.below HE.out hb)
  have HE := Lib.hid (HE.out.below hb)
  clear hb
  go_wp2_with fail
  refine (kn6 _ HE.out H4.out).mono ?_
  rintro e w6 ⟨rfl, hb⟩
  have HB := Lib.hid (below_of HB.out hb (Nat.le_refl _))
  have H4 := Lib.hid (H4.out.below HE.out hb)
  have HE := Lib.hid (HE.out.below hb)
  clear hb
  go_wp2_with fail
  refine (kn7 _ HE.out H4.out).mono ?_
  rintro e w7 ⟨A7, c7, rfl, hb⟩
  have HB := Lib.hid (below_of HB.out hb (Nat.le_refl _))
  have H4 := Lib.hid (H4.out.below HE.out hb)
  have HE := Lib.hid (HE.out.below hb)
  clear hb
  go_wp2_with fail
  refine (kn8 _ HE.out H4.out).mono ?_
  rintro e w8 ⟨A8, c8, rfl, hb⟩
  have HB := Lib.hid (below_of HB.out hb (Nat.le_refl _))
  have H4 := Lib.hid (H4.out.below HE.out hb)
  have HE := Lib.hid (HE.out.below hb)
  clear hb
  go_wp2_with fail
  refine (kn9 _ HE.out H4.out).mono ?_
  rintro e w9 ⟨rfl, hb⟩
  have HB := Lib.hid (below_of HB.out hb (Nat.le_refl _))
  have H4 := Lib.hid (H4.out.below HE.out hb)
  have HE := Lib.hid (HE.out.below hb)
  clear hb
  go_wp2_with fail
  refine (kn10 _ HE.out H4.out).mono ?_
  rintro e w10 ⟨A10, c10, rfl, hb⟩
  have HB := Lib.hid (below_of HB.out hb (Nat.le_refl _))
  have H4 := Lib.hid (H4.out.below HE.out hb)
  have HE := Lib.hid (HE.out.below hb)
  clear hb
  go_wp2_with fail
  refine (kn11 _ HE.out H4.out).mono ?_
  rintro e w11 ⟨A11, c11, rfl, hb⟩
  have HB := Lib.hid (below_of HB.out hb (Nat.le_refl _))
  have H4 := Lib.hid (H4.out.below HE.out hb)
  have HE := Lib.hid (HE.out.below hb)
  clear hb
  go_wp2_with fail
  refine (kn12 _ HE.out H4.out).mono ?_
  rintro e w12 ⟨A12, c12, rfl, hb⟩
  have HB := Lib.hid (below_of HB.out hb (Nat.le_refl _))
  have H4 := Lib.hid (H4.out.below HE.out hb)
  have HE := Lib.hid (HE.out.below hb)
  clear hb
  go_wp2_with fail
  refine (kn13 _ HE.out H4.out).mono ?_
  rintro e w13 ⟨A13, c13, rfl, hb⟩
  have HB := Lib.hid (below_of HB.out hb (Nat.le_refl _))
  have H4 := Lib.hid (H4.out.below HE.out hb)
  have HE := Lib.hid (HE.out.below hb)
  clear hb
  go_wp2_with fail
  refine (kname0 _).mono ?_
  rintro e w' ⟨rfl, rfl⟩
  go_wp2_with fail
  refine (kname1 _).mono ?_
  rintro e w' ⟨rfl, rfl⟩
  go_wp2_with fail
  refine (shown_any _ HE.out).mono ?_
  rintro e w99 ⟨rfl, hb⟩
  have HB := Lib.hid (below_of HB.out hb (Nat.le_refl _))
  clear hb
  go_wp2_with fail
  go_ret
  exact ⟨by simp [Array.getD], HB.out⟩
end Go.Proofs.YthifbihmogjjpaaDoor
