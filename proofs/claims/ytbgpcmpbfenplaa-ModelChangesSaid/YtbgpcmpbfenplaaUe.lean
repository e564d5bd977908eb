/-
  Contract of the law's own awake.
-/
import Derived.Test.YtbgpcmpbfenplaaUd
namespace Go.Proofs.Ytbgpcmpbfenplaa.KK
open Go.ChangeShapes Go.WideShapes Go.ChangeAt Go.RowKit Go.Proofs

theorem ps_ex {w : World} {X : Nat} (h : PsAt w (some ⟨X, 0, none⟩) exP) : w.cell? ⟨X, 0, none⟩ = some (.string ⟨#[97]⟩) ∧ w.cell? ⟨X, 1, none⟩ = some (.string ⟨#[49]⟩) ∧ w.cell? ⟨X, 2, none⟩ = some (.string ⟨#[99]⟩) ∧ w.cell? ⟨X, 3, none⟩ = some (.string ⟨#[51]⟩) := by
  rcases h with h | ⟨b, off, h1, _, hc⟩
  · cases h
  · injection h1 with h1; injection h1 with h1 h2; subst h1 h2
    have c0 := hc 0 (by decide)
    have c1 := hc 1 (by decide)
    exact ⟨c0.1, c0.2, c1.1, c1.2⟩
set_option maxRecDepth 100000 in
set_option maxHeartbeats 4000000 in
theorem awake_any (w : World) : Calls Try.prog 10 #[] w fun e w' => e = .returned (.bool true) ∧ Below w.heap.size w w' := by
  have JF := Lib.hid (fun (X : Nat) (w' : World) (h : PsAt w' (some ⟨X, 0, none⟩) exP) => show Calls Try.prog 13 #[.slice (some ⟨X, 0, none⟩) 2 2, .string ⟨#[98]⟩] w' fun e w'' => e = .returned (.tuple #[.agg #[.string ⟨#[97]⟩, .string ⟨#[49]⟩], .int .i64 0]) ∧ Below w'.heap.size w' w'' from by
    have K := floor_any (some ⟨X, 0, none⟩) 2 exP ⟨#[98]⟩ w' h (by decide) exP_sized (by decide)
    rw [ex_floor.1] at K; exact K)
  have JC := Lib.hid (fun (X : Nat) (w' : World) (h : PsAt w' (some ⟨X, 0, none⟩) exP) => show Calls Try.prog 15 #[.slice (some ⟨X, 0, none⟩) 2 2, .string ⟨#[98]⟩] w' fun e w'' => e = .returned (.tuple #[.agg #[.string ⟨#[99]⟩, .string ⟨#[51]⟩], .int .i64 0]) ∧ Below w'.heap.size w' w'' from by
    have K := ceil_any (some ⟨X, 0, none⟩) 2 exP ⟨#[98]⟩ w' h (by decide) exP_sized (by decide)
    rw [ex_floor.2] at K; exact K)
  have JW := Lib.hid (fun (X Y : Nat) (w' : World) (h : PsAt w' (some ⟨X, 0, none⟩) exP) (hg : WsAt w' (some ⟨Y, 0, none⟩) exW) => show Calls Try.prog 41 #[.slice (some ⟨X, 0, none⟩) 2 2, .slice (some ⟨Y, 0, none⟩) 2 2] w' fun e w'' => ∃ A c, e = .returned (.tuple #[.slice A 2 c, .int .i64 0]) ∧ Keep w'' (fun w' => PsAt w' A exM) ∧ Below w'.heap.size w' w'' from by
    have K := write_any (some ⟨X, 0, none⟩) (some ⟨Y, 0, none⟩) 2 2 exP exW w' h (fun e => by cases e) (by decide) exP_sized hg (by decide) exW_sized
    rw [ex_write.1, ex_write.2] at K
    refine K.mono ?_
    rintro e w'' ⟨v, h1, h2, h3⟩
    obtain ⟨A, c, rfl, _⟩ := own_slice h2
    exact ⟨A, c, h1, keep_ps (PsAt.of_own h2), h3⟩)
  have JD := Lib.hid (fun (X : Nat) (A : Option Addr) (c : Nat) (w' : World) (h : PsAt w' (some ⟨X, 0, none⟩) exP) (hg : PsAt w' A exM) => show Calls Try.prog 20 #[.slice (some ⟨X, 0, none⟩) 2 2, .slice A 2 c] w' fun e w'' => ∃ B c, e = .returned (.tuple #[.slice B 2 c, .int .i64 0]) ∧ Keep w'' (fun w' => ItAt w' B exI) ∧ Below w'.heap.size w' w'' from by
    have K := diff_any (some ⟨X, 0, none⟩) A 2 c exP exM w' h (by decide) exP_sized hg (by decide) exM_sized
    rw [ex_diff.1, ex_diff.2] at K
    refine K.mono ?_
    rintro e w'' ⟨v, h1, h2, h3⟩
    obtain ⟨B, c, rfl, _⟩ := own_slice h2
    exact ⟨B, c, h1, keep_it (ItAt.of_own h2), h3⟩)
  go_enter Try.func10, Try.ntmps10
  go_wp2_with fail
  refine (law_ex _).mono ?_
  rintro e w1 ⟨X, rfl, hk, hb⟩
  have HB1 := Lib.hid hb
  have HX1 := Lib.hid hk
  clear hb hk
  go_wp2_with fail
  refine (JF.out X _ HX1.out.now).mono ?_
  rintro e w2 ⟨rfl, hb⟩
  have hr := keep_row (Row2.new w2 31 (.string ⟨#[97]⟩) (.string ⟨#[49]⟩))
  have ha := alloc_below w2 (.cells #[.string ⟨#[97]⟩, .string ⟨#[49]⟩] 31)
  have hb2 := hb.trans (ha.mono hb.size)
  have HB2 := Lib.hid (eb_of HB1.out hb2 (Nat.le_refl _))
  have HK2 := Lib.hid ((HX1.out.step hb2).and hr)
  clear hb hr ha hb2 HB1 HX1 JF
  go_wp2_with fail
  generalize w2.alloc (.cells #[.string ⟨#[97]⟩, .string ⟨#[49]⟩] 31) = wf at *
  generalize w2.heap.size = bf at *
  refine (JC.out X _ HK2.out.now.1).mono ?_
  rintro e w3 ⟨rfl, hb⟩
  have hr := keep_row (Row2.new w3 31 (.string ⟨#[99]⟩) (.string ⟨#[51]⟩))
  have ha := alloc_below w3 (.cells #[.string ⟨#[99]⟩, .string ⟨#[51]⟩] 31)
  have hb2 := hb.trans (ha.mono hb.size)
  have HB3 := Lib.hid (eb_of HB2.out hb2 (Nat.le_refl _))
  have HK3 := Lib.hid ((HK2.out.step hb2).and hr)
  clear hb hr ha hb2 HB2 HK2 JC
  go_wp2_with fail
  have hsz : (w3.alloc (.cells #[.string ⟨#[99]⟩, .string ⟨#[51]⟩] 31)).heap.size = w3.heap.size + 1 := by simp
  generalize w3.alloc (.cells #[.string ⟨#[99]⟩, .string ⟨#[51]⟩] 31) = wc at *
  generalize w3.heap.size = bc at *
  have hw := ws_two wc (⟨#[98]⟩, ⟨#[50]⟩, false) (⟨#[97]⟩, ⟨#[]⟩, true)
  have ha := alloc_below wc (.cells #[.string ⟨#[98]⟩, .string ⟨#[50]⟩, .bool false, .string ⟨#[97]⟩, .string ⟨#[]⟩, .bool true] 76)
  have HB4 := Lib.hid (eb_of HB3.out ha (Nat.le_refl _))
  have HK4 := Lib.hid (HK3.out.step ha)
  rw [hsz] at hw
  have HW := Lib.hid hw
  clear ha hw HB3 HK3 hsz
  refine (JW.out X (bc + 1) _ HK4.out.now.1.1 HW.out).mono ?_
  rintro e w4 ⟨Am, cm, rfl, hk, hb⟩
  have HB5 := Lib.hid (eb_of HB4.out hb (Nat.le_refl _))
  have HK5 := Lib.hid ((HK4.out.step hb).and hk)
  clear hb hk HB4 HK4 HW JW
  go_wp2_with fail
  refine (JD.out X Am cm _ HK5.out.now.1.1.1 HK5.out.now.2).mono ?_
  rintro e w5 ⟨Ad, cd, rfl, hk, hb⟩
  have HB6 := Lib.hid (eb_of HB5.out hb (Nat.le_refl _))
  have HK6 := Lib.hid ((HK5.out.step hb).and hk)
  clear hb hk HB5 HK5 JD
  go_wp2_with fail
  refine (new_any _).mono ?_
  rintro e w6 ⟨rfl, hw6⟩
  have hS : AwS w5.heap.size w5 (.slice none 0 0) [] w6 := by
    rw [hw6]
    exact ⟨heap_alloc_new w5 _, ⟨rfl, .inl ⟨rfl, rfl⟩⟩, alloc_below _ _, Nat.le_refl _⟩
  have H6 := Lib.hid hS
  clear hw6 hS
  generalize w5.heap.size = M at *
  go_wp2_with fail
  refine (aw_pin1 H6.out).mono ?_
  rintro e w7 ⟨rfl, ho⟩
  obtain ⟨p7, h7, _⟩ := H6.out.give ho
  have H7 := Lib.hid (h7.below (alloc_below w7 (.cells #[.int .i64 1, .int .i64 1] 52)))
  have HA7 := Lib.hid (And.intro (Row2.new w7 52 (.int .i64 1) (.int .i64 1)) (show w7.heap.size ≠ M from fun e => Nat.lt_irrefl _ (e ▸ h7.md.lt)))
  clear H6 h7 ho
  go_wp2_with fail
  generalize w7.alloc (.cells #[.int .i64 1, .int .i64 1] 52) = wa at *
  generalize w7.heap.size = ba at *
  refine (aw_pin2 H7.out).mono ?_
  rintro e w8 ⟨rfl, ho⟩
  obtain ⟨p8, h8, k8⟩ := H7.out.give ho
  have hbo := alloc_below w8 (.cells #[.int .i64 2, .int .i64 1] 52)
  have hA := (k8 _ _ _ _ (by decide) HA7.out.2 HA7.out.1).below hbo (Nat.le_refl _)
  have H8 := Lib.hid (h8.below hbo)
  have HA8 := Lib.hid (And.intro hA HA7.out.2)
  have HB8 := Lib.hid (And.intro (Row2.new w8 52 (.int .i64 2) (.int .i64 1)) (show w8.heap.size ≠ M from fun e => Nat.lt_irrefl _ (e ▸ h8.md.lt)))
  have a0 := hA.c0
  have a1 := hA.c1
  clear H7 h8 ho k8 hbo hA HA7
  go_wp2_with fail
  generalize w8.alloc (.cells #[.int .i64 2, .int .i64 1] 52) = wb at *
  generalize w8.heap.size = bb at *
  clear a0 a1
  refine (aw_unpin H8.out).mono ?_
  rintro e w9 ⟨rfl, ho⟩
  obtain ⟨p9, h9, k9⟩ := H8.out.give ho
  have H9 := Lib.hid h9
  have HA9 := Lib.hid (And.intro (k9 _ _ _ _ (by decide) HA8.out.2 HA8.out.1) HA8.out.2)
  have HB9 := Lib.hid (And.intro (k9 _ _ _ _ (by decide) HB8.out.2 HB8.out.1) HB8.out.2)
  clear H8 h9 ho k9 HA8 HB8
  go_wp2_with fail
  refine (aw_pin3 H9.out).mono ?_
  rintro e w10 ⟨rfl, ho⟩
  obtain ⟨p10, h10, k10⟩ := H9.out.give ho
  have hbo := alloc_below w10 (.cells #[.int .i64 1, .int .i64 2] 52)
  have hA := (k10 _ _ _ _ (by decide) HA9.out.2 HA9.out.1).below hbo (Nat.le_refl _)
  have hB := (k10 _ _ _ _ (by decide) HB9.out.2 HB9.out.1).below hbo (Nat.le_refl _)
  have H10 := Lib.hid (h10.below hbo)
  have HR10 := Lib.hid ((keep_row hA).and ((keep_row hB).and (keep_row (Row2.new w10 52 (.int .i64 1) (.int .i64 2)))))
  have a0 := hA.c0
  have a1 := hA.c1
  clear H9 h10 ho k10 hbo hA hB HA9 HB9
  go_wp2_with fail
  generalize w10.alloc (.cells #[.int .i64 1, .int .i64 2] 52) = wd at *
  generalize w10.heap.size = bd at *
  clear a0 a1
  refine (aw_map H10.out 1 1 11 (by omega) (by decide +kernel) rfl).mono ?_
  rintro e w11 ⟨v11, rfl, hb⟩
  have H11 := Lib.hid (H10.out.below hb)
  have HR11 := Lib.hid (HR10.out.step hb)
  clear hb H10 HR10
  go_wp2_with fail
  refine (aw_map H11.out 3 1 4 (by omega) (by decide +kernel) rfl).mono ?_
  rintro e w12 ⟨v12, rfl, hb⟩
  have H12 := Lib.hid (H11.out.below hb)
  have HR12 := Lib.hid (HR11.out.step hb)
  have HK12 := Lib.hid (HK6.out.step H12.out.b)
  have HB12 := Lib.hid (eb_of HB6.out H12.out.b (Nat.le_refl _))
  clear hb H11 HR11 HK6 HB6
  go_wp2_with fail
  have JS1 : Hid (∀ w1 wz, Below w12.heap.size w12 w1 → Below (w1.alloc (.cells #[.string ⟨#[98]⟩, .string ⟨#[50]⟩, .string ⟨#[99]⟩, .string ⟨#[51]⟩] 31)).heap.size (w1.alloc (.cells #[.string ⟨#[98]⟩, .string ⟨#[50]⟩, .string ⟨#[99]⟩, .string ⟨#[51]⟩] 31)) wz → Calls Try.prog 19 #[.slice Am 2 cm, .slice (some ⟨w1.heap.size, 0, none⟩) 2 2] wz fun e w' => e = .returned (.bool true) ∧ Below w12.heap.size w12 w') := Lib.hid fun w1 wz h hz => by
    have ha := alloc_below w1 (.cells #[.string ⟨#[98]⟩, .string ⟨#[50]⟩, .string ⟨#[99]⟩, .string ⟨#[51]⟩] 31)
    have h2 := eb_of (eb_of h ha (Nat.le_refl _)) hz (Nat.le_refl _)
    refine (sameP_any Am _ cm 2 exM exM _ (HK12.out _ h2).1.2 ((ps_two w1 (⟨#[98]⟩, ⟨#[50]⟩) (⟨#[99]⟩, ⟨#[51]⟩)).below hz (Nat.le_refl _)) (by decide) (by decide)).mono ?_
    rintro e w' ⟨rfl, hb⟩
    exact ⟨by simp, eb_of h2 hb (Nat.le_refl _)⟩
  have JS2 : Hid (∀ w1 wz, Below w12.heap.size w12 w1 → Below (w1.alloc (.cells #[.int .i64 2, .string ⟨#[97]⟩, .string ⟨#[49]⟩, .string ⟨#[]⟩, .int .i64 1, .string ⟨#[98]⟩, .string ⟨#[]⟩, .string ⟨#[50]⟩] 74)).heap.size (w1.alloc (.cells #[.int .i64 2, .string ⟨#[97]⟩, .string ⟨#[49]⟩, .string ⟨#[]⟩, .int .i64 1, .string ⟨#[98]⟩, .string ⟨#[]⟩, .string ⟨#[50]⟩] 74)) wz → Calls Try.prog 22 #[.slice Ad 2 cd, .slice (some ⟨w1.heap.size, 0, none⟩) 2 2] wz fun e w' => e = .returned (.bool true) ∧ Below w12.heap.size w12 w') := Lib.hid fun w1 wz h hz => by
    have ha := alloc_below w1 (.cells #[.int .i64 2, .string ⟨#[97]⟩, .string ⟨#[49]⟩, .string ⟨#[]⟩, .int .i64 1, .string ⟨#[98]⟩, .string ⟨#[]⟩, .string ⟨#[50]⟩] 74)
    have h2 := eb_of (eb_of h ha (Nat.le_refl _)) hz (Nat.le_refl _)
    refine (sameI_any Ad _ cd 2 exI exI _ (HK12.out _ h2).2 ((it_two w1 (2, ⟨#[97]⟩, ⟨#[49]⟩, ⟨#[]⟩) (1, ⟨#[98]⟩, ⟨#[]⟩, ⟨#[50]⟩)).below hz (Nat.le_refl _)) (by decide) (by decide)).mono ?_
    rintro e w' ⟨rfl, hb⟩
    exact ⟨by simp, eb_of h2 hb (Nat.le_refl _)⟩
  have HK : Hid (∀ w', Below w12.heap.size w12 w' → Below w12.heap.size w12 w' ∧ w'.cell? ⟨bf, 0, none⟩ = some (.string ⟨#[97]⟩) ∧ w'.cell? ⟨bf, 1, none⟩ = some (.string ⟨#[49]⟩) ∧ w'.cell? ⟨bc, 0, none⟩ = some (.string ⟨#[99]⟩) ∧ w'.cell? ⟨bc, 1, none⟩ = some (.string ⟨#[51]⟩) ∧ w'.cell? ⟨X, 0, none⟩ = some (.string ⟨#[97]⟩) ∧ w'.cell? ⟨X, 1, none⟩ = some (.string ⟨#[49]⟩) ∧ w'.cell? ⟨X, 2, none⟩ = some (.string ⟨#[99]⟩) ∧ w'.cell? ⟨X, 3, none⟩ = some (.string ⟨#[51]⟩) ∧ w'.cell? ⟨ba, 0, none⟩ = some (.int .i64 1) ∧ w'.cell? ⟨ba, 1, none⟩ = some (.int .i64 1) ∧ w'.cell? ⟨bb, 0, none⟩ = some (.int .i64 2) ∧ w'.cell? ⟨bb, 1, none⟩ = some (.int .i64 1) ∧ w'.cell? ⟨bd, 0, none⟩ = some (.int .i64 1) ∧ w'.cell? ⟨bd, 1, none⟩ = some (.int .i64 2)) := Lib.hid fun w' h => by
    obtain ⟨⟨⟨⟨kx, kf⟩, kc⟩, _⟩, _⟩ := HK12.out w' h
    obtain ⟨ra, rb, rd⟩ := HR12.out w' h
    obtain ⟨x0, x1, x2, x3⟩ := ps_ex kx
    exact ⟨h, kf.c0, kf.c1, kc.c0, kc.c1, x0, x1, x2, x3, ra.c0, ra.c1, rb.c0, rb.c1, rd.c0, rd.c1⟩
  have HF := Lib.hid (Below.refl w12.heap.size w12)
  dsimp only [List.append]
  go_region_held3 (fun w' => Below w12.heap.size w12 w' ∧ w'.cell? ⟨bf, 0, none⟩ = some (.string ⟨#[97]⟩) ∧ w'.cell? ⟨bf, 1, none⟩ = some (.string ⟨#[49]⟩) ∧ w'.cell? ⟨bc, 0, none⟩ = some (.string ⟨#[99]⟩) ∧ w'.cell? ⟨bc, 1, none⟩ = some (.string ⟨#[51]⟩) ∧ w'.cell? ⟨X, 0, none⟩ = some (.string ⟨#[97]⟩) ∧ w'.cell? ⟨X, 1, none⟩ = some (.string ⟨#[49]⟩) ∧ w'.cell? ⟨X, 2, none⟩ = some (.string ⟨#[99]⟩) ∧ w'.cell? ⟨X, 3, none⟩ = some (.string ⟨#[51]⟩) ∧ w'.cell? ⟨ba, 0, none⟩ = some (.int .i64 1) ∧ w'.cell? ⟨ba, 1, none⟩ = some (.int .i64 1) ∧ w'.cell? ⟨bb, 0, none⟩ = some (.int .i64 2) ∧ w'.cell? ⟨bb, 1, none⟩ = some (.int .i64 1) ∧ w'.cell? ⟨bd, 0, none⟩ = some (.int .i64 1) ∧ w'.cell? ⟨bd, 1, none⟩ = some (.int .i64 2))
    (first
      | (exact HK.out _ (by assumption))
      | (exact HK.out _ HF.out)
      | (exact HK.out _ (eb_of (by assumption) (below_drewN' 1) (Nat.le_refl _)))
      | (exact HK.out _ (eb_of (by assumption) (alloc_below _ _) (Nat.le_refl _)))
      | (exact HK.out _ (eb_of (And.left (by assumption)) (alloc_below _ _) (Nat.le_refl _))))
    (first
      | (go_at_call 19; refine (JS1.out _ _ (by first | assumption | exact HF.out | exact eb_of (by assumption) (below_drewN' 1) (Nat.le_refl _) | exact And.left (by assumption)) (by first | exact Below.refl _ _ | exact below_drewN' 1)).mono ?_; rintro e w22 ⟨rfl, hs22⟩)
      | (go_at_call 22; refine (JS2.out _ _ (by first | assumption | exact HF.out | exact eb_of (by assumption) (below_drewN' 1) (Nat.le_refl _) | exact And.left (by assumption)) (by first | exact Below.refl _ _ | exact below_drewN' 1)).mono ?_; rintro e w23 ⟨rfl, hs23⟩))
  all_goals
    go_wp2_with fail
    go_ret
    exact ⟨rfl, eb_of HB12.out (by first | assumption | exact And.left (by assumption)) (Nat.le_refl _)⟩
end Go.Proofs.Ytbgpcmpbfenplaa.KK
