/-
  Contract of a table's look (pins).
-/
import Derived.Test.YtbgpcmpbfenplaaVq
namespace Go.Proofs.Ytbgpcmpbfenplaa.KK
open Go.ChangeShapes Go.WideShapes Go.ChangeAt Go.RowKit Go.Proofs
def whatOf (ss : List Sl) (x : Int) : Value := (ss.getD (x - 1).toNat (0, false, .slice none 0 0)).2.2
theorem handE_ok {ss : List Sl} {x g : Int} (h : handE ss x g = 0) : ∃ k : Nat, x = (k : Int) + 1 ∧ k < ss.length := by
  unfold handE at h
  split at h
  · cases h
  · rename_i q; exact ⟨(x - 1).toNat, by omega, by omega⟩
set_option maxRecDepth 100000 in
set_option maxHeartbeats 4000000 in
theorem look_any (M o : Nat) (S : Option Addr) (c : Nat) (ss : List Sl) (x g : Int) (w : World) (hm : w.cell? ⟨M, o + 1, none⟩ = some (.slice S ss.length c)) (hss : SlAt w S ss) (hn : ss.length ≤ 100) (hv : ∀ s ∈ ss, ∃ a m d, s.2.2 = .slice a m d) (hx : x ≤ 9223372036854775807) :
    Calls Try.prog 89 #[.pointer (some ⟨M, o, none⟩), .agg #[.int .i64 x, .int .i64 g]] w fun e w' => e = .returned (.tuple #[if handE ss x g = 0 then whatOf ss x else .slice none 0 0, .int .i64 (handE ss x g)]) ∧ Below w.heap.size w w' := by
  have hml : M < w.heap.size := cell_lt hm
  have hb0 := alloc_below w (.cells #[.int .i64 x, .int .i64 g] 52)
  have m0 := (cell_alloc_old (o := .cells #[.int .i64 x, .int .i64 g] 52) hml).trans hm
  have J := Lib.hid (check_any M o S c ss x g _ m0 (hss.below hb0 (Nat.le_refl _)) hn hv hx)
  by_cases he : handE ss x g = 0
  rotate_left
  · obtain ⟨b1, b2⟩ := ne_b he
    rw [if_neg he]
    clear he hss hv
    generalize handE ss x g = r at *
    go_enter Try.func89, Try.ntmps89
    go_wp2_with fail
    refine J.out.mono ?_
    rintro e w1 ⟨rfl, hb⟩
    go_wp2_with fail
    go_ret2
    exact ⟨rfl, hb0.trans (hb.mono hb0.size)⟩
  obtain ⟨k, rfl, hk⟩ := handE_ok he
  rw [if_pos he]
  rw [he] at J ⊢
  have hwp : IntKind.i64.wrap ((k : Int) + 1 - 1) = (k : Int) := by rw [IntKind.wrap_i64]; omega
  have hwp2 : IntKind.i64.wrap (k : Int) = (k : Int) := by rw [IntKind.wrap_i64]; omega
  have hkI : (k : Int) < (ss.length : Int) := by omega
  rcases hss with h0 | ⟨b, off, rfl, hbl, hc⟩
  · rw [h0] at hk; simp at hk
  obtain ⟨g0, g1, g2⟩ := hc k hk
  obtain ⟨sa, sm, sd, hsv⟩ := hv _ (List.getElem_mem hk)
  have HW : Hid (whatOf ss ((k : Int) + 1) = .slice sa sm sd) := Lib.hid (by
    unfold whatOf
    rw [show ((k : Int) + 1 - 1).toNat = k by omega, List.getD_eq_getElem?_getD, List.getElem?_eq_getElem hk]; exact hsv)
  rw [hsv] at g2
  clear hsv hc g0 g1 hv he
  generalize ss.length = n at *
  go_enter Try.func89, Try.ntmps89
  go_wp2_with fail
  refine J.out.mono ?_
  rintro e w1 ⟨rfl, hb⟩
  have hb1 := hb0.trans (hb.mono hb0.size)
  have m1 := (hb1.cell (p := ⟨M, o + 1, none⟩) hml).trans hm
  have v1 := (hb1.cell (p := ⟨b, off + k * 3 + 2, none⟩) hbl).trans g2
  have r1 := (hb.cell (p := ⟨w.heap.size, 0, none⟩) (by simp)).trans ((Row2.new w 52 (.int .i64 ((k : Int) + 1)) (.int .i64 g)).c0)
  clear m0 hm g2
  go_wp2_with fail
  go_region
  go_wp2_with fail
  go_ret2
  exact ⟨by rw [HW.out]; rfl, below_drew1 hb1⟩
end Go.Proofs.Ytbgpcmpbfenplaa.KK
