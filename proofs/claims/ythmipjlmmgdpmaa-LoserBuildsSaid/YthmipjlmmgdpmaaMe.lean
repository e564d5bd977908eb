/-
  The reference's trees: Winner, Replace.
-/
import Derived.Test.YthmipjlmmgdpmaaMd
namespace Go.Proofs.Ythmipjlmmgdpmaa.KK
open Go.ChangeShapes Go.WideShapes Go.ChangeAt Go.RowKit Go.Proofs

set_option maxRecDepth 100000 in
set_option maxHeartbeats 2000000 in
theorem rwinner_w (A B : Option Addr) (n c m d : Nat) (win : Int) (w : World) (r : Int) (hr : r ≠ 0)
    (hE : ∀ w', Below w.heap.size w w' → Calls Try.prog 45 #[.agg #[.slice A n c, .slice B m d, .int .i64 win]] w' fun e w'' => e = .returned (.int .i64 r) ∧ Below w'.heap.size w' w'') :
    Calls Try.prog 22 #[.agg #[.slice A n c, .slice B m d, .int .i64 win]] w fun e w' => e = .returned (.tuple #[.int .i64 0, .string ⟨#[]⟩, .int .i64 r]) ∧ Below w.heap.size w w' := by
  have HX := boxT A B n c m d win w
  obtain ⟨x0, x1, x2, x3, x4⟩ := HX.out _ (Below.refl _ _)
  have HB := Lib.hid x4
  have J := Lib.hid (hE _ x4)
  obtain ⟨b1, b2⟩ := ne_b hr
  clear hE hr x3 x4
  go_enter Try.func22, Try.ntmps22
  go_wp2_with fail
  refine J.out.mono ?_
  rintro e w1 ⟨rfl, hb⟩
  have HB1 := Lib.hid (eb_of HB.out hb (by simp))
  clear hb
  go_wp2_with fail
  go_ret3
  exact ⟨rfl, HB1.out⟩
set_option maxRecDepth 100000 in
set_option maxHeartbeats 2000000 in
theorem rwinner_ok (A B : Option Addr) (c d : Nat) (ks : List LK) (w : World) (hf : KsAt w A ks) (hg : IsAt w B (loL ks)) (h : keysE ks = 0) (hd : (kAt ks (wnr ks)).2 = false) :
    Calls Try.prog 22 #[.agg #[.slice A ks.length c, .slice B ks.length d, .int .i64 (wnr ks : Nat)]] w fun e w' =>
      e = .returned (.tuple #[.int .i64 (wnr ks : Nat), .string (kAt ks (wnr ks)).1, .int .i64 0]) ∧ Below w.heap.size w w' := by
  have hk := keysE_ok h
  have hp := wnr_lt h
  have HX := boxT A B ks.length c ks.length d (wnr ks) w
  obtain ⟨x0, x1, x2, x3, x4⟩ := HX.out _ (Below.refl _ _)
  have HB := Lib.hid x4
  have J := Lib.hid (by
    have K := rended_any A B c d ks _ (hf.below x4 (Nat.le_refl _)) (hg.below x4 (Nat.le_refl _)) h
    rw [if_neg (by simp [hd])] at K; exact K)
  rcases hf with h0 | ⟨b, off, rfl, hbl, hc⟩
  · subst h0; simp at hp
  obtain ⟨g0, g1⟩ := hc _ hp
  rw [← kAt_lt hp] at g0 g1
  have hn : ks.length ≤ 32 := hk.2.1
  clear hg x3 x4 h hk hc hd
  generalize kAt ks (wnr ks) = q at *
  generalize wnr ks = p at *
  generalize ks.length = n at *
  have hpn : (p : Int) < (n : Int) := by omega
  obtain ⟨q1, q2⟩ := q
  go_enter Try.func22, Try.ntmps22
  go_wp2_with fail
  refine J.out.mono ?_
  rintro e w1 ⟨rfl, hb⟩
  obtain ⟨x0, x1, x2, x3, x4⟩ := HX.out _ hb
  have HB1 := Lib.hid x4
  have g0 := (x4.cell (p := ⟨b, off + p * 2, none⟩) hbl).trans g0
  clear hb x4 hbl g1
  go_wp2_with fail
  go_quiet (fail)
  go_wp2_with fail
  go_ret3
  exact ⟨rfl, HB1.out.trans ((below_drewN' _).mono HB1.out.size)⟩
set_option maxRecDepth 100000 in
set_option maxHeartbeats 2000000 in
theorem rreplace_w (A B : Option Addr) (n c m d : Nat) (win : Int) (k : ByteArray) (b : Bool) (w : World) (r : Int) (hr : r ≠ 0)
    (hE : ∀ w', Below w.heap.size w w' → Calls Try.prog 45 #[.agg #[.slice A n c, .slice B m d, .int .i64 win]] w' fun e w'' => e = .returned (.int .i64 r) ∧ Below w'.heap.size w' w'') :
    Calls Try.prog 24 #[.agg #[.slice A n c, .slice B m d, .int .i64 win], .agg #[.string k, .bool b]] w fun e w' => e = .returned (.tuple #[.agg #[.slice none 0 0, .slice none 0 0, .int .i64 0], .int .i64 0, .int .i64 r]) ∧ Below w.heap.size w w' := by
  have HX := boxes A B n c m d win k b w
  obtain ⟨x0, x1, x2, x3, x4⟩ := HX.out _ (Below.refl _ _)
  have J := Lib.hid (hE _ x4)
  obtain ⟨b1, b2⟩ := ne_b hr
  clear hE hr x1 x2 x3 x4 x0
  go_enter Try.func24, Try.ntmps24
  go_wp2_with fail
  refine J.out.mono ?_
  rintro e w1 ⟨rfl, hb⟩
  obtain ⟨x0, x1, x2, x3, x4⟩ := HX.out _ hb
  have HB1 := Lib.hid x4
  have HR := Lib.hid x3
  have r0 := x3.c0
  have r1 := x3.c1
  have r2 := x3.c2
  have z0 := x3.fz 0
  have z1 := x3.fz 1
  have z2 := x3.fz 2
  clear hb x0 x3 x4
  go_wp2_with fail
  go_quiet (fail)
  have HB2 := Lib.hid (HB1.out.trans ((below_drewN' nq).mono HB1.out.size))
  have HR2 : Hid (Row3 (w1.drewN nq) (w.heap.size + 1 + 1) 27 (.slice none 0 0) (.slice none 0 0) (.int .i64 0)) := Lib.hid (HR.out.below (below_drewN' nq) (Nat.le_refl _))
  go_wp2_with fail
  have HX := HR2.out.set (.slice none 0 0) (.slice none 0 0) (.int .i64 0)
  have k0 := HX.c0
  have k1 := HX.c1
  have k2 := HX.c2
  refine bodyPost_ret (v := .tuple #[.agg #[.slice none 0 0, .slice none 0 0, .int .i64 0], .int .i64 0, .int .i64 r]) (by simp [results, Try.f24, go_sem, k0, k1, k2]) rfl ?_
  have hc : Chg (fun k => k = w.heap.size + 1 + 1) (w1.drewN nq) _ := ((chg_set (w.heap.size + 1 + 1) 0 (.slice none 0 0)).trans (chg_set (w.heap.size + 1 + 1) 1 (.slice none 0 0))).trans (chg_set (w.heap.size + 1 + 1) 2 (.int .i64 0))
  exact ⟨rfl, HB2.out.trans (hc.below (fun k hk => by omega) HB2.out.size)⟩
end Go.Proofs.Ythmipjlmmgdpmaa.KK
