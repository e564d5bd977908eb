/-
  Contract of a table's check (pins).
-/
import Derived.Test.YtbgpcmpbfenplaaVp
namespace Go.Proofs.Ytbgpcmpbfenplaa.KK
open Go.ChangeShapes Go.WideShapes Go.ChangeAt Go.RowKit Go.Proofs
/-- a slot: how often it was given, whether it is held, what it names -/
abbrev Sl := Int × Bool × Value
def SlAt (w : World) (A : Option Addr) (ss : List Sl) : Prop :=
  ss = [] ∨ ∃ b off, A = some ⟨b, off, none⟩ ∧ b < w.heap.size ∧ ∀ (i : Nat) (h : i < ss.length),
    w.cell? ⟨b, off + i * 3, none⟩ = some (.int .i64 ss[i].1) ∧ w.cell? ⟨b, off + i * 3 + 1, none⟩ = some (.bool ss[i].2.1) ∧ w.cell? ⟨b, off + i * 3 + 2, none⟩ = some ss[i].2.2
theorem SlAt.below {B : Nat} {w w' : World} {A : Option Addr} {xs : List Sl} (h : SlAt w A xs) (hb : Below B w w') (hB : w.heap.size ≤ B) : SlAt w' A xs := by
  rcases h with h | ⟨b, off, hA, hlt, hc⟩
  · exact .inl h
  · refine .inr ⟨b, off, hA, Nat.lt_of_lt_of_le hlt hb.size, fun i hi => ?_⟩
    have e : ∀ o, w'.cell? ⟨b, o, none⟩ = w.cell? ⟨b, o, none⟩ := fun o => hb.cell (p := ⟨b, o, none⟩) (by simp; omega)
    rw [e, e, e]; exact hc i hi
theorem fz_row {W : World} {B : Nat} {cs : Array Value} {t : TypeId} (h : W.heap[B]? = some (.cells cs t (0, 0))) (i : Nat) : W.frozen? ⟨B, i, none⟩ = false := by simp [World.frozen?, h]
/-- what is wrong with a handle -/
def handE (ss : List Sl) (x g : Int) : Int :=
  if x < 1 ∨ (ss.length : Int) < x then 4 else
  let s := ss.getD (x - 1).toNat (0, false, .slice none 0 0)
  if g < 1 ∨ s.1 < g then 4 else if g < s.1 ∨ s.2.1 = false then 11 else 0
set_option maxRecDepth 100000 in
set_option maxHeartbeats 4000000 in
theorem check_any (M o : Nat) (S : Option Addr) (c : Nat) (ss : List Sl) (x g : Int) (w : World) (hm : w.cell? ⟨M, o + 1, none⟩ = some (.slice S ss.length c)) (hss : SlAt w S ss) (hn : ss.length ≤ 100) (hv : ∀ s ∈ ss, ∃ a m d, s.2.2 = .slice a m d) (hx : x ≤ 9223372036854775807) :
    Calls Try.prog 99 #[.pointer (some ⟨M, o, none⟩), .agg #[.int .i64 x, .int .i64 g]] w fun e w' => e = .returned (.int .i64 (handE ss x g)) ∧ Below w.heap.size w w' := by
  have hml : M < w.heap.size := cell_lt hm
  have HH := Row2.new w 52 (.int .i64 x) (.int .i64 g)
  have r0 := HH.c0
  have r1 := HH.c1
  have m0 := (cell_alloc_old (o := .cells #[.int .i64 x, .int .i64 g] 52) hml).trans hm
  obtain ⟨n, hnn⟩ : ∃ n, ss.length = n := ⟨_, rfl⟩
  rw [hnn] at hm m0 hn
  by_cases hx1 : x < 1
  · have HE : Hid (handE ss x g = 4) := Lib.hid (by unfold handE; rw [if_pos (.inl hx1)])
    clear HH hss
    go_enter Try.func99, Try.ntmps99
    go_wp2_with fail
    go_quiet (fail)
    go_wp2_with fail
    go_ret
    exact ⟨retI (by rw [HE.out]), (alloc_below w _).trans ((below_drewN' _).mono (by simp))⟩
  by_cases hx2 : (n : Int) < x
  · have HE : Hid (handE ss x g = 4) := Lib.hid (by unfold handE; rw [hnn, if_pos (.inr hx2)])
    clear HH hss
    go_enter Try.func99, Try.ntmps99
    go_wp2_with fail
    go_quiet (fail)
    go_wp2_with fail
    go_ret
    exact ⟨retI (by rw [HE.out]), (alloc_below w _).trans ((below_drewN' _).mono (by simp))⟩
  have hx3 : ¬ (x < 1 ∨ (n : Int) < x) := by omega
  obtain ⟨k, rfl⟩ : ∃ k : Nat, x = (k : Int) + 1 := ⟨(x - 1).toNat, by omega⟩
  have hk : k < ss.length := by omega
  have hkI : (k : Int) < (n : Int) := by omega
  have hwp : IntKind.i64.wrap ((k : Int) + 1 - 1) = (k : Int) := by rw [IntKind.wrap_i64]; omega
  rcases hss with h0 | ⟨b, off, rfl, hbl, hc⟩
  · rw [h0] at hk; simp at hk
  obtain ⟨g0, g1, g2⟩ := hc k hk
  have HE : Hid (handE ss ((k : Int) + 1) g = if g < 1 ∨ ss[k].1 < g then 4 else if g < ss[k].1 ∨ ss[k].2.1 = false then 11 else 0) := Lib.hid (by
    unfold handE
    rw [hnn, if_neg hx3, show ((k : Int) + 1 - 1).toNat = k by omega, List.getD_eq_getElem?_getD, List.getElem?_eq_getElem hk]; rfl)
  obtain ⟨sa, sm, sd, hsv⟩ := hv _ (List.getElem_mem hk)
  obtain ⟨⟨sg, sh, sw⟩, hs⟩ : ∃ s, ss[k] = s := ⟨_, rfl⟩
  rw [hs] at g0 g1 g2 HE hsv
  simp only at g0 g1 g2 HE hsv
  subst hsv
  have a0 := (cell_alloc_old (o := .cells #[.int .i64 ((k : Int) + 1), .int .i64 g] 52) hbl).trans g0
  have a1 := (cell_alloc_old (o := .cells #[.int .i64 ((k : Int) + 1), .int .i64 g] 52) hbl).trans g1
  have a2 := (cell_alloc_old (o := .cells #[.int .i64 ((k : Int) + 1), .int .i64 g] 52) hbl).trans g2
  clear hc HH hs g0 g1 g2 hx3
  have hd1 : decide ((k : Int) + 1 < 1) = false := decide_eq_false hx1
  have hd2 : decide ((n : Int) < (k : Int) + 1) = false := decide_eq_false hx2
  have hd3 : ¬ (k : Int) < 0 := by omega
  go_enter Try.func99, Try.ntmps99
  go_wp2_with fail
  go_quiet (fail)
  go_wp2_with fail
  have hbw := below_drewN' (w := w.alloc (.cells #[.int .i64 ((k : Int) + 1), .int .i64 g] 52)) nq
  have m3 := (hbw.cell (p := ⟨M, o + 1, none⟩) (by simp; omega)).trans m0
  have r3 := (hbw.cell (p := ⟨w.heap.size, 0, none⟩) (by simp)).trans r0
  have r4 := (hbw.cell (p := ⟨w.heap.size, 1, none⟩) (by simp)).trans r1
  have a3 := (hbw.cell (p := ⟨b, off + k * 3, none⟩) (by simp; omega)).trans a0
  have a4 := (hbw.cell (p := ⟨b, off + k * 3 + 1, none⟩) (by simp; omega)).trans a1
  have a5 := (hbw.cell (p := ⟨b, off + k * 3 + 2, none⟩) (by simp; omega)).trans a2
  have HB3 : Hid (Below w.heap.size w ((w.alloc (.cells #[.int .i64 ((k : Int) + 1), .int .i64 g] 52)).drewN nq)) := Lib.hid ((alloc_below w _).trans (hbw.mono (by simp)))
  have hsz3 : w.heap.size + 1 ≤ ((w.alloc (.cells #[.int .i64 ((k : Int) + 1), .int .i64 g] 52)).drewN nq).heap.size := by have := hbw.size; simp
  generalize ((w.alloc (.cells #[.int .i64 ((k : Int) + 1), .int .i64 g] 52)).drewN nq) = W3 at *
  have hwp2 : IntKind.i64.wrap (k : Int) = (k : Int) := by rw [IntKind.wrap_i64]; omega
  have m6 := (cell_alloc_old (o := .cells #[.int .i64 0, .bool false, .slice none 0 0] 129) (cell_lt m3)).trans m3
  have r6 := (cell_alloc_old (o := .cells #[.int .i64 0, .bool false, .slice none 0 0] 129) (cell_lt r3)).trans r3
  have r7 := (cell_alloc_old (o := .cells #[.int .i64 0, .bool false, .slice none 0 0] 129) (cell_lt r4)).trans r4
  have a6 := (cell_alloc_old (o := .cells #[.int .i64 0, .bool false, .slice none 0 0] 129) (cell_lt a3)).trans a3
  have a7 := (cell_alloc_old (o := .cells #[.int .i64 0, .bool false, .slice none 0 0] 129) (cell_lt a4)).trans a4
  have a8 := (cell_alloc_old (o := .cells #[.int .i64 0, .bool false, .slice none 0 0] 129) (cell_lt a5)).trans a5
  have n0 := (cell_of_row (W3.alloc (.cells #[.int .i64 0, .bool false, .slice none 0 0] 129)) W3.heap.size 0 _ _ _ (heap_alloc_new W3 _)).trans rfl
  have n1 := (cell_of_row (W3.alloc (.cells #[.int .i64 0, .bool false, .slice none 0 0] 129)) W3.heap.size 1 _ _ _ (heap_alloc_new W3 _)).trans rfl
  have n2 := (cell_of_row (W3.alloc (.cells #[.int .i64 0, .bool false, .slice none 0 0] 129)) W3.heap.size 2 _ _ _ (heap_alloc_new W3 _)).trans rfl
  have f0 : (W3.alloc (.cells #[.int .i64 0, .bool false, .slice none 0 0] 129)).frozen? ⟨W3.heap.size, 0, none⟩ = false := fz_row (heap_alloc_new W3 _) _
  have f1 : (W3.alloc (.cells #[.int .i64 0, .bool false, .slice none 0 0] 129)).frozen? ⟨W3.heap.size, 1, none⟩ = false := fz_row (heap_alloc_new W3 _) _
  have f2 : (W3.alloc (.cells #[.int .i64 0, .bool false, .slice none 0 0] 129)).frozen? ⟨W3.heap.size, 2, none⟩ = false := fz_row (heap_alloc_new W3 _) _
  clear hbw m0 r0 r1 a0 a1 a2
  go_region
  have hb4 : Below W3.heap.size W3 (W3.alloc (.cells #[.int .i64 sg, .bool sh, .slice sa sm sd] 129)).drew := below_drew1 (alloc_below W3 _)
  have HB4 := Lib.hid (HB3.out.trans (hb4.mono (by omega)))
  have s0 : (W3.alloc (.cells #[.int .i64 sg, .bool sh, .slice sa sm sd] 129)).drew.cell? ⟨W3.heap.size, 0, none⟩ = some (.int .i64 sg) := (cell_of_row (W3.alloc (.cells #[.int .i64 sg, .bool sh, .slice sa sm sd] 129)) W3.heap.size 0 _ _ _ (heap_alloc_new W3 _)).trans rfl
  have s1 : (W3.alloc (.cells #[.int .i64 sg, .bool sh, .slice sa sm sd] 129)).drew.cell? ⟨W3.heap.size, 1, none⟩ = some (.bool sh) := (cell_of_row (W3.alloc (.cells #[.int .i64 sg, .bool sh, .slice sa sm sd] 129)) W3.heap.size 1 _ _ _ (heap_alloc_new W3 _)).trans rfl
  have t1 := (hb4.cell (p := ⟨w.heap.size, 1, none⟩) (by simp; omega)).trans r4
  clear m6 r6 r7 a6 a7 a8 n0 n1 n2 f0 f1 f2 m3 r3 r4 a3 a4 a5 hb4
  generalize hW3 : W3.heap.size = X3 at *
  generalize (W3.alloc (.cells #[.int .i64 sg, .bool sh, .slice sa sm sd] 129)).drew = W4 at *
  by_cases hg1 : g < 1
  · rw [if_pos (.inl hg1)] at HE
    go_wp2_with fail
    go_ret
    exact ⟨retI (by rw [HE.out]), HB4.out⟩
  by_cases hg2 : sg < g
  · rw [if_pos (.inr hg2)] at HE
    go_wp2_with fail
    go_ret
    exact ⟨retI (by rw [HE.out]), HB4.out⟩
  rw [if_neg (by omega)] at HE
  by_cases hg3 : g < sg
  · rw [if_pos (.inl hg3)] at HE
    go_wp2_with fail
    go_ret
    exact ⟨retI (by rw [HE.out]), HB4.out⟩
  cases sh with
  | false =>
    rw [if_pos (.inr rfl)] at HE
    go_wp2_with fail
    go_ret
    exact ⟨retI (by rw [HE.out]), HB4.out⟩
  | true =>
    rw [if_neg (by simp; omega)] at HE
    go_wp2_with fail
    go_ret
    exact ⟨retI (by rw [HE.out]), HB4.out⟩
end Go.Proofs.Ytbgpcmpbfenplaa.KK
