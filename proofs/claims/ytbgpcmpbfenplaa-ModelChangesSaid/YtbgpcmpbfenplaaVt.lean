/-
  Contract of a model's version.
-/
import Derived.Test.YtbgpcmpbfenplaaVs
namespace Go.Proofs.Ytbgpcmpbfenplaa.KK
open Go.ChangeShapes Go.WideShapes Go.ChangeAt Go.RowKit Go.Proofs
def verE (ss : List Sl) (x g : Int) : Int := if x = 0 ∧ g = 0 then 0 else handE ss x g
def verV (head : Value) (ss : List Sl) (x g : Int) : Value := if x = 0 ∧ g = 0 then head else if handE ss x g = 0 then whatOf ss x else .slice none 0 0
set_option maxRecDepth 100000 in
set_option maxHeartbeats 4000000 in
theorem version_any (M : Nat) (HA : Option Addr) (hl hc : Nat) (S : Option Addr) (c : Nat) (ss : List Sl) (x g : Int) (w : World) (hh : w.cell? ⟨M, 1, none⟩ = some (.slice HA hl hc)) (hm : w.cell? ⟨M, 3, none⟩ = some (.slice S ss.length c)) (hss : SlAt w S ss) (hn : ss.length ≤ 100) (hv : ∀ s ∈ ss, ∃ a m d, s.2.2 = .slice a m d) (hx : x ≤ 9223372036854775807) :
    Calls Try.prog 67 #[.pointer (some ⟨M, 0, none⟩), .agg #[.int .i64 x, .int .i64 g]] w fun e w' => e = .returned (.tuple #[verV (.slice HA hl hc) ss x g, .int .i64 (verE ss x g)]) ∧ Below w.heap.size w w' := by
  have hml : M < w.heap.size := cell_lt hm
  have hb0 := alloc_below w (.cells #[.int .i64 x, .int .i64 g] 52)
  have h0 := (cell_alloc_old (o := .cells #[.int .i64 x, .int .i64 g] 52) hml).trans hh
  have m0 := (cell_alloc_old (o := .cells #[.int .i64 x, .int .i64 g] 52) hml).trans hm
  have hss0 := hss.below hb0 (Nat.le_refl _)
  have hml0 : M < (w.alloc (.cells #[.int .i64 x, .int .i64 g] 52)).heap.size := Nat.lt_of_lt_of_le hml hb0.size
  have J : Hid (∀ p : Abv (w.alloc (.cells #[.int .i64 x, .int .i64 g] 52)), Calls Try.prog 89 #[.pointer (some ⟨M, 2, none⟩), .agg #[.int .i64 x, .int .i64 g]] p.world fun e w' => e = .returned (.tuple #[if handE ss x g = 0 then whatOf ss x else .slice none 0 0, .int .i64 (handE ss x g)]) ∧ Below p.world.heap.size p.world w') :=
    Lib.hid (fun p => look_any M 2 S c ss x g _ (abv_cell hml0 m0 p) (hss0.below p.h (Nat.le_refl _)) hn hv hx)
  have x0 := abv_c (Row2.new w 52 (.int .i64 x) (.int .i64 g)).c0
  have x1 := abv_c (Row2.new w 52 (.int .i64 x) (.int .i64 g)).c1
  by_cases hz : x = 0 ∧ g = 0
  · have HE := Lib.hid (show verE ss x g = 0 from if_pos hz)
    have HV := Lib.hid (show verV (.slice HA hl hc) ss x g = .slice HA hl hc from if_pos hz)
    obtain ⟨rfl, rfl⟩ := hz
    clear hss hss0 hv m0
    go_enter Try.func67, Try.ntmps67
    go_wp2_with fail
    go_ret2
    exact ⟨by rw [HE.out, HV.out]; rfl, hb0⟩
  · have HE := Lib.hid (show verE ss x g = handE ss x g from if_neg hz)
    have HV := Lib.hid (show verV (.slice HA hl hc) ss x g = if handE ss x g = 0 then whatOf ss x else .slice none 0 0 from if_neg hz)
    clear hss hss0 hv m0 h0 hh hm
    generalize handE ss x g = r at *
    generalize (if r = 0 then whatOf ss x else .slice none 0 0) = V at *
    by_cases hx0 : x = 0
    · subst hx0
      have hg0 : ¬ g = 0 := fun e => hz ⟨rfl, e⟩
      have hg1 : ¬ 0 = g := fun e => hz ⟨rfl, e.symm⟩
      clear hz
      go_enter Try.func67, Try.ntmps67
      go_wp2_with fail
      refine wp_region_abv (by first | assumption | kernel_rfl) (by kernel_rfl) ?_
      repeat (first | go_big_quiet_step (exact callAbv (J.out _)) | quiet_step (exact callAbv (J.out _)))
      refine wpQuiet_nil ?_
      intro w2 hw2
      obtain ⟨p, rfl⟩ := hw2
      go_wp2_with fail
      go_ret2
      exact ⟨by rw [HE.out, HV.out]; rfl, hb0.trans (p.h.mono hb0.size)⟩
    · clear hz
      go_enter Try.func67, Try.ntmps67
      go_wp2_with fail
      refine wp_region_abv (by first | assumption | kernel_rfl) (by kernel_rfl) ?_
      repeat (first | go_big_quiet_step (exact callAbv (J.out _)) | quiet_step (exact callAbv (J.out _)))
      refine wpQuiet_nil ?_
      intro w2 hw2
      obtain ⟨p, rfl⟩ := hw2
      go_wp2_with fail
      go_ret2
      exact ⟨by rw [HE.out, HV.out]; rfl, hb0.trans (p.h.mono hb0.size)⟩
end Go.Proofs.Ytbgpcmpbfenplaa.KK
