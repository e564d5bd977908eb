/-
  The walk of WordsBoth, at every argument.
-/
import Derived.Test.YthifbihmogjjpaaDoorXm
namespace Go.Proofs.YthifbihmogjjpaaDoor
open Go.ChangeShapes Go.WideShapes Go.ChangeAt Go.RowKit Go.Proofs

set_option maxRecDepth 100000 in
set_option maxHeartbeats 2000000 in
theorem both_any (A B : Option Addr) (c d : Nat) (fs gs : List (List UInt8 × Bool)) (w : World) (he : Env w) (hf : FldsAt w A fs) (hg : FldsAt w B gs) (hn : fs.length ≤ 9223372036854775807) (hm : gs.length ≤ 9223372036854775807) :
    Calls Tryd.prog 6 #[.slice A fs.length c, .slice B gs.length d] w fun e w' => e = .returned (.bool true) ∧ Below w.heap.size w w' := by
  cases f1 : farL fs with
  | true =>
    have V1 := fun w hf => far_any A c fs w hf hn
    rw [f1] at V1
    have F1 := Lib.hid V1
    have HE := Lib.hid he
    have HF := Lib.hid hf
    clear V1 f1 he hf hg
    go_enter Tryd.func6, Tryd.ntmps6
    go_wp2_with fail
    refine (F1.out _ HF.out).mono ?_
    rintro e w' ⟨rfl, rfl⟩
    go_wp2_with fail
    refine (shown_any _ HE.out).mono ?_
    rintro e w9 ⟨rfl, hb⟩
    have HB := Lib.hid hb
    clear hb
    go_wp2_with fail
    go_ret
    exact ⟨by simp [Array.getD], HB.out⟩
  | false =>
    cases f2 : farL gs with
    | true =>
      have V1 := fun w hf => far_any A c fs w hf hn
      have V2 := fun w hf => far_any B d gs w hf hm
      rw [f1] at V1
      rw [f2] at V2
      have F1 := Lib.hid V1
      have F2 := Lib.hid V2
      have HE := Lib.hid he
      have HF := Lib.hid hf
      have HG := Lib.hid hg
      clear V1 V2 f1 f2 he hf hg
      go_enter Tryd.func6, Tryd.ntmps6
      go_wp2_with fail
      refine (F1.out _ HF.out).mono ?_
      rintro e w' ⟨rfl, rfl⟩
      go_wp2_with fail
      refine (F2.out _ HG.out).mono ?_
      rintro e w' ⟨rfl, rfl⟩
      go_wp2_with fail
      refine (shown_any _ HE.out).mono ?_
      rintro e w9 ⟨rfl, hb⟩
      have HB := Lib.hid hb
      clear hb
      go_wp2_with fail
      go_ret
      exact ⟨by simp [Array.getD], HB.out⟩
    | false =>
      by_cases n1 : fs.length = 0
      · have V1 := fun w hf => far_any A c fs w hf hn
        have V2 := fun w hf => far_any B d gs w hf hm
        rw [f1] at V1
        rw [f2] at V2
        have F1 := Lib.hid V1
        have F2 := Lib.hid V2
        have HE := Lib.hid he
        have HF := Lib.hid hf
        have HG := Lib.hid hg
        have z1 : ((fs.length : Int) == 0) = true := by rw [beq_iff_eq]; omega
        clear V1 V2 f1 f2 he hf hg n1
        go_enter Tryd.func6, Tryd.ntmps6
        go_wp2_with fail
        refine (F1.out _ HF.out).mono ?_
        rintro e w' ⟨rfl, rfl⟩
        go_wp2_with fail
        refine (F2.out _ HG.out).mono ?_
        rintro e w' ⟨rfl, rfl⟩
        go_wp2_with fail
        refine (shown_any _ HE.out).mono ?_
        rintro e w9 ⟨rfl, hb⟩
        have HB := Lib.hid hb
        clear hb
        go_wp2_with fail
        go_ret
        exact ⟨by simp [Array.getD], HB.out⟩
      · by_cases n2 : gs.length = 0
        · have V1 := fun w hf => far_any A c fs w hf hn
          have V2 := fun w hf => far_any B d gs w hf hm
          rw [f1] at V1
          rw [f2] at V2
          have F1 := Lib.hid V1
          have F2 := Lib.hid V2
          have HE := Lib.hid he
          have HF := Lib.hid hf
          have HG := Lib.hid hg
          have z1 : ((fs.length : Int) == 0) = false := by rw [beq_eq_false_iff_ne]; omega
          have z2 : ((gs.length : Int) == 0) = true := by rw [beq_iff_eq]; omega
          clear V1 V2 f1 f2 he hf hg n1 n2
          go_enter Tryd.func6, Tryd.ntmps6
          go_wp2_with fail
          refine (F1.out _ HF.out).mono ?_
          rintro e w' ⟨rfl, rfl⟩
          go_wp2_with fail
          refine (F2.out _ HG.out).mono ?_
          rintro e w' ⟨rfl, rfl⟩
          go_wp2_with fail
          refine (shown_any _ HE.out).mono ?_
          rintro e w9 ⟨rfl, hb⟩
          have HB := Lib.hid hb
          clear hb
          go_wp2_with fail
          go_ret
          exact ⟨by simp [Array.getD], HB.out⟩
        · exact both_main A B c d fs gs w he hf hg hn hm f1 f2 (fun h => n1 (by rw [h]; rfl)) (fun h => n2 (by rw [h]; rfl))
end Go.Proofs.YthifbihmogjjpaaDoor
