/-
  Shadow: the walk of Steps.
-/
import Derived.Test.YtlobkbhghpknmaaSl
namespace Go.Proofs.Ytlobkbhghpknmaa.KK
open Go.ChangeShapes Go.WideShapes Go.ChangeAt Go.RowKit Go.Proofs

theorem abv_s {w1 : World} {b o : Nat} {v : Value} (h : w1.cell? ⟨b, o, none⟩ = some v) : ∀ p : Abv w1, p.world.cell? ⟨b, o, none⟩ = some v := abv_cell (cell_lt h) h
/-- both sides' steps -/
theorem step_both (s : Bool) (l : ByteArray) (b : Bool) (k v : ByteArray) (d : Bool) (q : Int) (hl : l.size ≤ 9223372036854775807) (hk : k.size ≤ 9223372036854775807) (hv : v.size ≤ 9223372036854775807) :
    ∃ (kb ts : Bool) (tl : ByteArray) (tb : Bool) (r : Int),
      (∀ w, Calls Try.prog 11 #[.agg #[.bool s, .string l, .bool b], .agg #[.string k, .string v, .bool d, .int .i64 q]] w fun e w' => e = .returned (.tuple #[.bool kb, .agg #[.bool ts, .string tl, .bool tb], .int .i64 r]) ∧ Below w.heap.size w w') ∧
      (∀ w, Calls Try.prog 12 #[.agg #[.bool s, .string l, .bool b], .agg #[.string k, .string v, .bool d, .int .i64 q]] w fun e w' => e = .returned (.tuple #[.bool kb, .agg #[.bool ts, .string tl, .bool tb], .int .i64 r]) ∧ Below w.heap.size w w') := by
  by_cases h : stepE (s, l, b) (k, v, d, q) = 0
  · exact ⟨_, _, _, _, _, fun w => step_ok s l b k v d q w hl hk hv h, fun w => rstep_ok s l b k v d q w hl hk hv h⟩
  · exact ⟨_, _, _, _, _, fun w => step_no s l b k v d q w hl hk hv h, fun w => rstep_no s l b k v d q w hl hk hv h⟩
set_option maxRecDepth 100000 in
set_option maxHeartbeats 4000000 in
theorem Steps_any (s : Bool) (l : ByteArray) (b : Bool) (k v : ByteArray) (d : Bool) (q : Int) (b0 : Bool) (w : World) (hl : l.size ≤ 9223372036854775807) (hk : k.size ≤ 9223372036854775807) (hv : v.size ≤ 9223372036854775807) :
    Calls Try.prog 3 #[.agg #[.bool s, .string l, .bool b], .agg #[.string k, .string v, .bool d, .int .i64 q], .bool b0] w fun e w' => e = .returned (.bool true) ∧ Below w.heap.size w w' := by
  have HA2 := Lib.hid (al2 w (.cells #[.bool s, .string l, .bool b] 23) (.cells #[.string k, .string v, .bool d, .int .i64 q] 25))
  by_cases f1 : 200 < l.size
  · go_enter Try.func3, Try.ntmps3
    go_wp2_with fail
    refine (awake12_any _).mono ?_
    rintro e w9 ⟨rfl, hb⟩
    have HB9 := Lib.hid (eb_of HA2.out hb (Nat.le_refl _))
    clear hb
    go_wp2_with fail
    go_ret
    exact ⟨rfl, HB9.out⟩
  by_cases f2 : 200 < k.size
  · go_enter Try.func3, Try.ntmps3
    go_wp2_with fail
    refine (awake12_any _).mono ?_
    rintro e w9 ⟨rfl, hb⟩
    have HB9 := Lib.hid (eb_of HA2.out hb (Nat.le_refl _))
    clear hb
    go_wp2_with fail
    go_ret
    exact ⟨rfl, HB9.out⟩
  by_cases f3 : 200 < v.size
  · go_enter Try.func3, Try.ntmps3
    go_wp2_with fail
    refine (awake12_any _).mono ?_
    rintro e w9 ⟨rfl, hb⟩
    have HB9 := Lib.hid (eb_of HA2.out hb (Nat.le_refl _))
    clear hb
    go_wp2_with fail
    go_ret
    exact ⟨rfl, HB9.out⟩
  obtain ⟨kb, ts, tl, tb, r, j1, j2⟩ := step_both s l b k v d q hl hk hv
  have J1 := Lib.hid j1
  have J2 := Lib.hid j2
  have J3 := Lib.hid (fun w => pBegin_any b0 w)
  have J4 := Lib.hid (fun w => rBegin_any b0 w)
  have J5 := Lib.hid (fun w => pChk_any s l b w hl)
  have J6 := Lib.hid (fun w => rChk_any s l b w hl)
  have J7 := Lib.hid awake12_any
  generalize chkS (s, l, b) = ck at *
  clear j1 j2
  have HBX : Hid (∀ w', Below ((w.alloc (.cells #[.bool s, .string l, .bool b] 23)).alloc (.cells #[.string k, .string v, .bool d, .int .i64 q] 25)).heap.size ((w.alloc (.cells #[.bool s, .string l, .bool b] 23)).alloc (.cells #[.string k, .string v, .bool d, .int .i64 q] 25)) w' → Row3 w' w.heap.size 23 (.bool s) (.string l) (.bool b) ∧ Row4 w' (w.heap.size + 1) 25 (.string k) (.string v) (.bool d) (.int .i64 q)) := Lib.hid fun w' hb => by
    have e1 := heap_alloc_new (w.alloc (.cells #[.bool s, .string l, .bool b] 23)) (.cells #[.string k, .string v, .bool d, .int .i64 q] 25)
    simp only [World.size_alloc] at e1
    exact ⟨(hb.block _ (by simp; omega)).trans ((heap_alloc_old _ _ (by simp)).trans (heap_alloc_new _ _)), (hb.block _ (by simp)).trans e1⟩
  go_enter Try.func3, Try.ntmps3
  go_wp2_with fail
  refine (J1.out _).mono ?_
  rintro e w1 ⟨rfl, hb⟩
  have hb5 := bl_al hb (Nat.le_refl _) (.cells #[.bool ts, .string tl, .bool tb] 23)
  obtain ⟨x0, x1⟩ := HBX.out _ hb5
  have hx8 : Row3 (w1.alloc (.cells #[.bool ts, .string tl, .bool tb] 23)) w1.heap.size 23 (.bool ts) (.string tl) (.bool tb) := heap_alloc_new _ _
  have HX0 := Lib.hid x0
  have HX1 := Lib.hid x1
  have HX8 := Lib.hid hx8
  obtain ⟨y0, y1⟩ := HBX.out _ hb
  have hz := hb.size
  simp only [World.size_alloc] at hz
  have l0 : w.heap.size < w1.heap.size := by omega
  have l1 : w.heap.size + 1 < w1.heap.size := by omega
  have s0 := y0.c0; have s1 := y0.c1; have s2 := y0.c2
  have e0 := y1.c0; have e1 := y1.c1; have e2 := y1.c2; have e3 := y1.c3
  have HB1 := Lib.hid (eb_of HA2.out hb5 (Nat.le_refl _))
  clear hb hb5 x0 x1 hx8 y0 y1
  go_wp2_with fail
  refine (J2.out _).mono ?_
  rintro e w2 ⟨rfl, hb⟩
  have hb5 := bl_al hb (Nat.le_refl _) (.cells #[.bool ts, .string tl, .bool tb] 23)
  have x0 := HX0.out.below hb5 (Nat.le_refl _)
  have x1 := HX1.out.below hb5 (Nat.le_refl _)
  have x8 := HX8.out.below hb5 (Nat.le_refl _)
  have x11 : Row3 (w2.alloc (.cells #[.bool ts, .string tl, .bool tb] 23)) w2.heap.size 23 (.bool ts) (.string tl) (.bool tb) := heap_alloc_new _ _
  have HB2 := Lib.hid (eb_of HB1.out hb5 (Nat.le_refl _))
  clear hb hb5 s0 s1 s2 e0 e1 e2 e3
  have s0 := abv_s x0.c0; have s1 := abv_s x0.c1; have s2 := abv_s x0.c2
  have e0 := abv_s x1.c0; have e1 := abv_s x1.c1; have e2 := abv_s x1.c2; have e3 := abv_s x1.c3
  have t0 := abv_s x8.c0; have t1 := abv_s x8.c1; have t2 := abv_s x8.c2
  have u0 := abv_s x11.c0; have u1 := abv_s x11.c1; have u2 := abv_s x11.c2
  clear x0 x1 x8 x11
  go_wp2_with fail
  refine wp_region_abv (by first | assumption | kernel_rfl) (by kernel_rfl) ?_
  repeat (first | go_big_quiet_step (first | (with_reducible exact callAbv (J3.out _)) | (with_reducible exact callAbv (J4.out _)) | (with_reducible exact callAbv (J5.out _)) | (with_reducible exact callAbv (J6.out _)) | (with_reducible exact callAbv (J7.out _))) | quiet_step (first | (with_reducible exact callAbv (J3.out _)) | (with_reducible exact callAbv (J4.out _)) | (with_reducible exact callAbv (J5.out _)) | (with_reducible exact callAbv (J6.out _)) | (with_reducible exact callAbv (J7.out _))))
  refine wpQuiet_nil ?_
  intro w9 hw9
  obtain ⟨p, rfl⟩ := hw9
  go_wp2_with fail
  go_ret
  exact ⟨rfl, eb_of HB2.out p.h (Nat.le_refl _)⟩
end Go.Proofs.Ytlobkbhghpknmaa.KK
