/-
  Contract of a model's Map.
-/
import Derived.Test.YtbgpcmpbfenplaaVt
import Derived.Test.YtbgpcmpbfenplaaVr
namespace Go.Proofs.Ytbgpcmpbfenplaa.KK
open Go.ChangeShapes Go.WideShapes Go.ChangeAt Go.RowKit Go.Proofs
set_option maxRecDepth 100000 in
set_option maxHeartbeats 4000000 in
theorem map_any (M : Nat) (HA : Option Addr) (hl hc : Nat) (S : Option Addr) (c : Nat) (ss : List Sl) (x g : Int) (w : World) (hself : w.cell? ⟨M, 0, none⟩ = some (.pointer (some ⟨M, 0, none⟩))) (hh : w.cell? ⟨M, 1, none⟩ = some (.slice HA hl hc)) (hm : w.cell? ⟨M, 3, none⟩ = some (.slice S ss.length c)) (hss : SlAt w S ss) (hn : ss.length ≤ 100) (hv : ∀ s ∈ ss, ∃ a m d, s.2.2 = .slice a m d) (hx : x ≤ 9223372036854775807)
    (A : Option Addr) (c' : Nat) (xs : List Pr) (hV : verV (.slice HA hl hc) ss x g = .slice A xs.length c') (hf : PsAt w A xs) (hA : A = none → c' = 0) (hxs : xs.length ≤ 4294967295) :
    Calls Try.prog 33 #[.pointer (some ⟨M, 0, none⟩), .agg #[.int .i64 x, .int .i64 g]] w fun e w' => ∃ v, e = .returned (.tuple #[v, .int .i64 (verE ss x g)]) ∧ w'.ownsRow w.heap.size 31 2 v xs.length (cellsP xs) ∧ Below w.heap.size w w' := by
  have hml : M < w.heap.size := cell_lt hm
  have hb0 := alloc_below w (.cells #[.int .i64 x, .int .i64 g] 52)
  have J1 := Lib.hid (fun (w1 : World) (h : Below w.heap.size w w1) => made_yes M w1 ((h.cell (p := ⟨M, 0, none⟩) hml).trans hself))
  have J2 := Lib.hid (fun (w1 : World) (h : Below w.heap.size w w1) => version_any M HA hl hc S c ss x g w1 ((h.cell (p := ⟨M, 1, none⟩) hml).trans hh) ((h.cell (p := ⟨M, 3, none⟩) hml).trans hm) (hss.below h (Nat.le_refl _)) hn hv hx)
  have J3 := Lib.hid (fun (w1 : World) (h : Below w.heap.size w w1) => cloneP_any A c' xs w1 (hf.below h (Nat.le_refl _)) hxs hA)
  rw [hV] at J2
  have HB0 := Lib.hid hb0
  have r0 := (Row2.new w 52 (.int .i64 x) (.int .i64 g)).c0
  have r1 := (Row2.new w 52 (.int .i64 x) (.int .i64 g)).c1
  clear hself hh hm hss hv hV hf
  generalize verE ss x g = r at *
  go_enter Try.func33, Try.ntmps33
  go_wp2_with fail
  refine (J1.out _ HB0.out).mono ?_
  rintro e w1 ⟨rfl, hb⟩
  have HB1 := Lib.hid (eb_of HB0.out hb (Nat.le_refl _))
  have q0 := (hb.cell (p := ⟨w.heap.size, 0, none⟩) (by simp)).trans r0
  have q1 := (hb.cell (p := ⟨w.heap.size, 1, none⟩) (by simp)).trans r1
  clear hb
  go_wp2_with fail
  refine (J2.out _ HB1.out).mono ?_
  rintro e w2 ⟨rfl, hb⟩
  have HB2 := Lib.hid (eb_of HB1.out hb (Nat.le_refl _))
  clear hb
  go_wp2_with fail
  refine (J3.out _ HB2.out).mono ?_
  rintro e w3 ⟨v3, rfl, ho, hb⟩
  have HO := Lib.hid (own_mono' ho HB2.out.size)
  have HB3 := Lib.hid (eb_of HB2.out hb (Nat.le_refl _))
  clear hb ho
  go_wp2_with fail
  go_ret2
  exact ⟨v3, rfl, HO.out, HB3.out⟩
end Go.Proofs.Ytbgpcmpbfenplaa.KK
