/-
  Runs: Floor, Ceiling, Get of the program.
-/
import Derived.Test.YtjnbdeahmbkbnaaRf
import Derived.Test.YtjnbdeahmbkbnaaRg
namespace Go.Proofs.Ytjnbdeahmbkbnaa.KK
open Go.ChangeShapes Go.WideShapes Go.ChangeAt Go.RowKit Go.Proofs

/-- a run in a box, and an entry for the answer -/
theorem boxUE (id : Int) (B : Option Addr) (n d : Nat) (w : World) : Hid (∀ w', Below ((w.alloc (.cells #[.int .i64 id, .slice B n d] 24)).alloc (.cells #[.string ⟨#[]⟩, .string ⟨#[]⟩, .bool false, .int .i64 0] 31)).heap.size ((w.alloc (.cells #[.int .i64 id, .slice B n d] 24)).alloc (.cells #[.string ⟨#[]⟩, .string ⟨#[]⟩, .bool false, .int .i64 0] 31)) w' → w'.cell? ⟨w.heap.size, 0, none⟩ = some (.int .i64 id) ∧ w'.cell? ⟨w.heap.size, 1, none⟩ = some (.slice B n d) ∧ Row4 w' (w.heap.size + 1) 31 (.string ⟨#[]⟩) (.string ⟨#[]⟩) (.bool false) (.int .i64 0) ∧ w.heap.size + 2 ≤ w'.heap.size ∧ Below w.heap.size w w') := Lib.hid (fun w' h => by
  have hb0 := alloc_below (w.alloc (.cells #[.int .i64 id, .slice B n d] 24)) (.cells #[.string ⟨#[]⟩, .string ⟨#[]⟩, .bool false, .int .i64 0] 31)
  obtain ⟨x0, x1, x2, x3⟩ := (boxU id B n d w).out _ (hb0.trans (h.mono (by simp)))
  have e := heap_alloc_new (w.alloc (.cells #[.int .i64 id, .slice B n d] 24)) (.cells #[.string ⟨#[]⟩, .string ⟨#[]⟩, .bool false, .int .i64 0] 31)
  rw [show (w.alloc (.cells #[.int .i64 id, .slice B n d] 24)).heap.size = w.heap.size + 1 by simp] at e
  exact ⟨x0, x1, (h.block (w.heap.size + 1) (by simp)).trans e, by have := h.size; simp at this; omega, x3⟩)
set_option maxRecDepth 100000 in
set_option maxHeartbeats 2000000 in
theorem pFloor8_any (id : Int) (B : Option Addr) (d : Nat) (xs : List El.En) (key : ByteArray) (strict : Bool) (w : World) (hf : EsAt w B xs) (hn : xs.length ≤ 4294967295) (hs : Sized xs) (hcap : xs.length ≤ d) (hnil : B = none → d = 0) (hz : key.size ≤ 9223372036854775807) :
    Calls Try.prog 15 #[.agg #[.int .i64 id, .slice B xs.length d], .string key, .bool strict] w fun e w' => e = .returned (entV (floorR id xs key strict)) ∧ Below w.heap.size w w' := by
  have J : Hid (∀ w1, Below w.heap.size w w1 → Calls Try.prog 38 #[.agg #[.int .i64 id, .slice B xs.length d], .string key, .bool strict, .iface 60 (.agg #[])] w1 fun e w' => e = .returned (.tuple #[.agg #[.string (floorR id xs key strict).1.1, .string (floorR id xs key strict).1.2.1, .bool (floorR id xs key strict).1.2.2.1, .int .i64 (floorR id xs key strict).1.2.2.2], .int .i64 (floorR id xs key strict).2]) ∧ Below w1.heap.size w1 w') := Lib.hid (fun w1 h => findF_any id B d xs key strict w1 (hf.below h (Nat.le_refl _)) hn hs hcap hnil hz)
  generalize floorR id xs key strict = res at *
  clear hf hn hs hcap hnil hz
  generalize xs.length = n at *
  obtain ⟨⟨xk, xv, xd, xq⟩, xe⟩ := res
  dsimp only at J
  have HX := boxUE id B n d w
  obtain ⟨x0, x1, x2, x3, x4⟩ := HX.out _ (Below.refl _ _)
  have HB := Lib.hid x4
  clear x2 x4
  go_enter Try.func15, Try.ntmps15
  go_wp2_with fail
  refine (J.out _ HB.out).mono ?_
  rintro e w1 ⟨rfl, hb⟩
  obtain ⟨y0, y1, y2, y3, y4⟩ := HX.out _ hb
  have HB1 := Lib.hid y4
  have r0 := y2.c0
  have r1 := y2.c1
  have r2 := y2.c2
  have r3 := y2.c3
  have f0 := y2.fz
  have HR := Lib.hid (y2.set (.string xk) (.string xv) (.bool xd) (.int .i64 xq))
  clear hb x0 x1 y4 y2 y0 y1
  go_wp2_with fail
  have k0 := HR.out.c0
  have k1 := HR.out.c1
  have k2 := HR.out.c2
  have k3 := HR.out.c3
  exact bodyPost_ret (v := .tuple #[.agg #[.string xk, .string xv, .bool xd, .int .i64 xq], .int .i64 xe]) (by simp [results, Try.results15, go_sem, k0, k1, k2, k3]) rfl ⟨rfl, set4 HB1.out (by omega) _ _ _ _⟩
set_option maxRecDepth 100000 in
set_option maxHeartbeats 2000000 in
theorem pCeil8_any (id : Int) (B : Option Addr) (d : Nat) (xs : List El.En) (key : ByteArray) (strict : Bool) (w : World) (hf : EsAt w B xs) (hn : xs.length ≤ 4294967295) (hs : Sized xs) (hcap : xs.length ≤ d) (hnil : B = none → d = 0) (hz : key.size ≤ 9223372036854775807) :
    Calls Try.prog 17 #[.agg #[.int .i64 id, .slice B xs.length d], .string key, .bool strict] w fun e w' => e = .returned (entV (ceilR id xs key strict)) ∧ Below w.heap.size w w' := by
  have J : Hid (∀ w1, Below w.heap.size w w1 → Calls Try.prog 38 #[.agg #[.int .i64 id, .slice B xs.length d], .string key, .bool strict, .iface 61 (.agg #[])] w1 fun e w' => e = .returned (.tuple #[.agg #[.string (ceilR id xs key strict).1.1, .string (ceilR id xs key strict).1.2.1, .bool (ceilR id xs key strict).1.2.2.1, .int .i64 (ceilR id xs key strict).1.2.2.2], .int .i64 (ceilR id xs key strict).2]) ∧ Below w1.heap.size w1 w') := Lib.hid (fun w1 h => findC_any id B d xs key strict w1 (hf.below h (Nat.le_refl _)) hn hs hcap hnil hz)
  generalize ceilR id xs key strict = res at *
  clear hf hn hs hcap hnil hz
  generalize xs.length = n at *
  obtain ⟨⟨xk, xv, xd, xq⟩, xe⟩ := res
  dsimp only at J
  have HX := boxUE id B n d w
  obtain ⟨x0, x1, x2, x3, x4⟩ := HX.out _ (Below.refl _ _)
  have HB := Lib.hid x4
  clear x2 x4
  go_enter Try.func17, Try.ntmps17
  go_wp2_with fail
  refine (J.out _ HB.out).mono ?_
  rintro e w1 ⟨rfl, hb⟩
  obtain ⟨y0, y1, y2, y3, y4⟩ := HX.out _ hb
  have HB1 := Lib.hid y4
  have r0 := y2.c0
  have r1 := y2.c1
  have r2 := y2.c2
  have r3 := y2.c3
  have f0 := y2.fz
  have HR := Lib.hid (y2.set (.string xk) (.string xv) (.bool xd) (.int .i64 xq))
  clear hb x0 x1 y4 y2 y0 y1
  go_wp2_with fail
  have k0 := HR.out.c0
  have k1 := HR.out.c1
  have k2 := HR.out.c2
  have k3 := HR.out.c3
  exact bodyPost_ret (v := .tuple #[.agg #[.string xk, .string xv, .bool xd, .int .i64 xq], .int .i64 xe]) (by simp [results, Try.results17, go_sem, k0, k1, k2, k3]) rfl ⟨rfl, set4 HB1.out (by omega) _ _ _ _⟩
set_option maxRecDepth 100000 in
set_option maxHeartbeats 2000000 in
theorem pGet8_any (id : Int) (B : Option Addr) (d : Nat) (xs : List El.En) (key : ByteArray) (w : World) (hf : EsAt w B xs) (hn : xs.length ≤ 4294967295) (hs : Sized xs) (hcap : xs.length ≤ d) (hnil : B = none → d = 0) (hz : key.size ≤ 9223372036854775807) :
    Calls Try.prog 13 #[.agg #[.int .i64 id, .slice B xs.length d], .string key] w fun e w' => e = .returned (entV (getR id xs key)) ∧ Below w.heap.size w w' := by
  have J : Hid (∀ w1, Below w.heap.size w w1 → Calls Try.prog 15 #[.agg #[.int .i64 id, .slice B xs.length d], .string key, .bool false] w1 fun e w' => e = .returned (.tuple #[.agg #[.string (floorR id xs key false).1.1, .string (floorR id xs key false).1.2.1, .bool (floorR id xs key false).1.2.2.1, .int .i64 (floorR id xs key false).1.2.2.2], .int .i64 (floorR id xs key false).2]) ∧ Below w1.heap.size w1 w') := Lib.hid (fun w1 h => pFloor8_any id B d xs key false w1 (hf.below h (Nat.le_refl _)) hn hs hcap hnil hz)
  unfold getR
  generalize floorR id xs key false = res at *
  clear hf hn hs hcap hnil hz
  generalize xs.length = n at *
  obtain ⟨⟨xk, xv, xd, xq⟩, xe⟩ := res
  dsimp only at J ⊢
  have HX := boxUE id B n d w
  obtain ⟨x0, x1, x2, x3, x4⟩ := HX.out _ (Below.refl _ _)
  have HB := Lib.hid x4
  clear x2 x4
  by_cases h0 : xe = 0
  rotate_left
  · rw [if_pos h0]
    generalize hRR : ((El.none, xe) : El.En × Int) = RR
    have HL := Lib.hid hRR.symm
    clear hRR
    obtain ⟨b1, b2⟩ := ne_b h0
    go_enter Try.func13, Try.ntmps13
    go_wp2_with fail
    refine (J.out _ HB.out).mono ?_
    rintro e w1 ⟨rfl, hb⟩
    have hbe := alloc_below w1 (.cells #[.string xk, .string xv, .bool xd, .int .i64 xq] 31)
    obtain ⟨y0, y1, y2, y3, y4⟩ := HX.out _ (hb.trans (hbe.mono hb.size))
    have HB1 := Lib.hid y4
    have hw1 : w.heap.size + 2 ≤ w1.heap.size := by have := hb.size; simp at this; omega
    have r0 := y2.c0
    have r1 := y2.c1
    have r2 := y2.c2
    have r3 := y2.c3
    have f0 := y2.fz
    clear hb x0 x1 y0 y1
    go_wp2_with fail
    have HR := y2.set (.string ⟨#[]⟩) (.string ⟨#[]⟩) (.bool false) (.int .i64 0)
    have k0 := HR.c0
    have k1 := HR.c1
    have k2 := HR.c2
    have k3 := HR.c3
    exact bodyPost_ret (v := .tuple #[.agg #[.string ⟨#[]⟩, .string ⟨#[]⟩, .bool false, .int .i64 0], .int .i64 xe]) (by simp [results, Try.results13, go_sem, k0, k1, k2, k3]) rfl ⟨retN HL.out, set4 HB1.out (by omega) _ _ _ _⟩
  subst h0
  rw [if_neg (by simp)]
  by_cases hk : xk = key
  · rw [if_pos hk]
    generalize hRR : ((((xk, xv, xd, xq) : El.En), (0 : Int)) : El.En × Int) = RR
    have HL := Lib.hid hRR.symm
    have hk1 := str_beq_eq hk
    clear hRR hk
    go_enter Try.func13, Try.ntmps13
    go_wp2_with fail
    refine (J.out _ HB.out).mono ?_
    rintro e w1 ⟨rfl, hb⟩
    have hbe := alloc_below w1 (.cells #[.string xk, .string xv, .bool xd, .int .i64 xq] 31)
    obtain ⟨y0, y1, y2, y3, y4⟩ := HX.out _ (hb.trans (hbe.mono hb.size))
    have HB1 := Lib.hid y4
    have hw1 : w.heap.size + 2 ≤ w1.heap.size := by have := hb.size; simp at this; omega
    have r0 := y2.c0
    have r1 := y2.c1
    have r2 := y2.c2
    have r3 := y2.c3
    have f0 := y2.fz
    clear hb x0 x1 y0 y1
    go_wp2_with fail
    have HR := y2.set (.string xk) (.string xv) (.bool xd) (.int .i64 xq)
    have k0 := HR.c0
    have k1 := HR.c1
    have k2 := HR.c2
    have k3 := HR.c3
    exact bodyPost_ret (v := .tuple #[.agg #[.string xk, .string xv, .bool xd, .int .i64 xq], .int .i64 0]) (by simp [results, Try.results13, go_sem, k0, k1, k2, k3]) rfl ⟨retN HL.out, set4 HB1.out (by omega) _ _ _ _⟩
  · rw [if_neg hk]
    generalize hRR : ((El.none, 4) : El.En × Int) = RR
    have HL := Lib.hid hRR.symm
    clear hRR
    have hk1 := str_beq_ne hk
    clear hk
    go_enter Try.func13, Try.ntmps13
    go_wp2_with fail
    refine (J.out _ HB.out).mono ?_
    rintro e w1 ⟨rfl, hb⟩
    have hbe := alloc_below w1 (.cells #[.string xk, .string xv, .bool xd, .int .i64 xq] 31)
    obtain ⟨y0, y1, y2, y3, y4⟩ := HX.out _ (hb.trans (hbe.mono hb.size))
    have HB1 := Lib.hid y4
    have hw1 : w.heap.size + 2 ≤ w1.heap.size := by have := hb.size; simp at this; omega
    have r0 := y2.c0
    have r1 := y2.c1
    have r2 := y2.c2
    have r3 := y2.c3
    have f0 := y2.fz
    clear hb x0 x1 y0 y1
    go_wp2_with fail
    have HR := y2.set (.string ⟨#[]⟩) (.string ⟨#[]⟩) (.bool false) (.int .i64 0)
    have k0 := HR.c0
    have k1 := HR.c1
    have k2 := HR.c2
    have k3 := HR.c3
    exact bodyPost_ret (v := .tuple #[.agg #[.string ⟨#[]⟩, .string ⟨#[]⟩, .bool false, .int .i64 0], .int .i64 4]) (by simp [results, Try.results13, go_sem, k0, k1, k2, k3]) rfl ⟨retN HL.out, set4 HB1.out (by omega) _ _ _ _⟩
end Go.Proofs.Ytjnbdeahmbkbnaa.KK
