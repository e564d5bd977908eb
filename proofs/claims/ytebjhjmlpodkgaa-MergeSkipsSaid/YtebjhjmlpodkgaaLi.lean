/-
  Trees of losers: Winner and Replace.
-/
import Derived.Test.YtebjhjmlpodkgaaLh
namespace Go.Proofs.Ytebjhjmlpodkgaa.KK
open Go.ChangeShapes Go.WideShapes Go.ChangeAt Go.RowKit Go.Proofs

theorem wnr_lt {ks : List LK} (h : keysE ks = 0) : wnr ks < ks.length := by
  have := keysE_ok h
  exact Lo.pl_lt (by omega) (by omega)
set_option maxRecDepth 100000 in
set_option maxHeartbeats 2000000 in
theorem winner_bad (A B : Option Addr) (c d : Nat) (ks : List LK) (ls : List Int) (win : Int) (w : World) (hf : KsAt w A ks) (hg : IsAt w B ls) (hn : ks.length ≤ 4294967295) (hm : ls.length ≤ 4294967295) (h : (chkT ks ls win).2 ≠ 0) :
    Calls Try.prog 85 #[.agg #[.slice A ks.length c, .slice B ls.length d, .int .i64 win]] w fun e w' => e = .returned (.tuple #[.int .i64 0, .string ⟨#[]⟩, .int .i64 (chkT ks ls win).2]) ∧ Below w.heap.size w w' := by
  have HX := boxT A B ks.length c ls.length d win w
  obtain ⟨x0, x1, x2, x3, x4⟩ := HX.out _ (Below.refl _ _)
  have HB := Lib.hid x4
  have J := Lib.hid (check_any A B c d ks ls win _ (hf.below x4 (Nat.le_refl _)) (hg.below x4 (Nat.le_refl _)) hn hm)
  obtain ⟨b1, b2⟩ := ne_b h
  clear hf hg x3 x4 h
  generalize chkT ks ls win = q at *
  obtain ⟨q1, q2⟩ := q
  generalize ks.length = n at *
  generalize ls.length = m at *
  go_enter Try.func85, Try.ntmps85
  go_wp2_with fail
  refine J.out.mono ?_
  rintro e w1 ⟨rfl, hb⟩
  have HB1 := Lib.hid (eb_of HB.out hb (by simp))
  clear hb
  go_wp2_with fail
  go_ret3
  exact ⟨rfl, HB1.out⟩
set_option maxRecDepth 100000 in
set_option maxHeartbeats 2000000 in
theorem winner_any (A B : Option Addr) (c d : Nat) (ks : List LK) (w : World) (hf : KsAt w A ks) (hg : IsAt w B (loL ks)) (h : keysE ks = 0) :
    Calls Try.prog 85 #[.agg #[.slice A ks.length c, .slice B ks.length d, .int .i64 (wnr ks : Nat)]] w fun e w' =>
      e = .returned (if (kAt ks (wnr ks)).2 then .tuple #[.int .i64 0, .string ⟨#[]⟩, .int .i64 12] else .tuple #[.int .i64 (wnr ks : Nat), .string (kAt ks (wnr ks)).1, .int .i64 0]) ∧ Below w.heap.size w w' := by
  have hk := keysE_ok h
  have hp := wnr_lt h
  have HX := boxT A B ks.length c ks.length d (wnr ks) w
  obtain ⟨x0, x1, x2, x3, x4⟩ := HX.out _ (Below.refl _ _)
  have HB := Lib.hid x4
  have J := Lib.hid (by
    have K := check_any A B c d ks (loL ks) (wnr ks) _ (hf.below x4 (Nat.le_refl _)) (hg.below x4 (Nat.le_refl _)) (by omega) (by rw [loL_len]; omega)
    rw [chkT_self h, loL_len] at K; exact K)
  rcases hf with h0 | ⟨b, off, rfl, hbl, hc⟩
  · subst h0; simp at hp
  obtain ⟨g0, g1⟩ := hc _ hp
  rw [← kAt_lt hp] at g0 g1
  have hn : ks.length ≤ 32 := hk.2.1
  clear hg x3 x4 h hk hc
  generalize kAt ks (wnr ks) = q at *
  generalize wnr ks = p at *
  generalize ks.length = n at *
  have hpn : (p : Int) < (n : Int) := by omega
  obtain ⟨q1, q2⟩ := q
  go_enter Try.func85, Try.ntmps85
  go_wp2_with fail
  refine J.out.mono ?_
  rintro e w1 ⟨rfl, hb⟩
  obtain ⟨x0, x1, x2, x3, x4⟩ := HX.out _ hb
  have HB1 := Lib.hid x4
  have g0 := (x4.cell (p := ⟨b, off + p * 2, none⟩) hbl).trans g0
  have g1 := (x4.cell (p := ⟨b, off + p * 2 + 1, none⟩) hbl).trans g1
  have hbl1 := Nat.lt_of_lt_of_le hbl x4.size
  clear hb x4 hbl
  cases q2 with
  | true =>
    go_wp2_with fail
    go_ret3
    exact ⟨rfl, eb_of HB1.out (alloc_below _ _) (Nat.le_refl _)⟩
  | false =>
    go_wp2_with fail
    go_quiet (fail)
    go_wp2_with fail
    go_ret3
    exact ⟨rfl, (eb_of HB1.out (alloc_below _ _) (Nat.le_refl _)).trans ((below_drewN' _).mono (by have := HB1.out.size; simp; omega))⟩
end Go.Proofs.Ytebjhjmlpodkgaa.KK
