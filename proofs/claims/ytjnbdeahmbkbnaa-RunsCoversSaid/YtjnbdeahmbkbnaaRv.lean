/-
  Runs: Cover on both sides.
-/
import Derived.Test.YtjnbdeahmbkbnaaRu
namespace Go.Proofs.Ytjnbdeahmbkbnaa.KK
open Go.ChangeShapes Go.WideShapes Go.ChangeAt Go.RowKit Go.Proofs

theorem Row3.fz {W : World} {B : Nat} {t : TypeId} {v0 v1 v2 : Value} (h : Row3 W B t v0 v1 v2) (i : Nat) : W.frozen? ⟨B, i, none⟩ = false := by unfold Row3 at h; simp [World.frozen?, h]
theorem Row3.new (w : World) (t : TypeId) (v0 v1 v2 : Value) : Row3 (w.alloc (.cells #[v0, v1, v2] t)) w.heap.size t v0 v1 v2 := heap_alloc_new w _
theorem Row3.set12 {W : World} {B : Nat} {t : TypeId} {v0 v1 v2 : Value} (h : Row3 W B t v0 v1 v2) (u1 u2 : Value) : Row3 ((W.setCell ⟨B, 1, none⟩ u1).setCell ⟨B, 2, none⟩ u2) B t v0 u1 u2 := by
  unfold Row3 at h ⊢; simp [World.setCell, Array.getElem?_modify, h]
theorem Row3.other1 {W : World} {B g i : Nat} {t : TypeId} {v0 v1 v2 : Value} (h : Row3 W B t v0 v1 v2) (hne : g ≠ B) (a : Value) : Row3 (W.setCell ⟨g, i, none⟩ a) B t v0 v1 v2 := by
  unfold Row3 at h ⊢; simp [World.setCell, Array.getElem?_modify, h, hne]
def covZ (xs : List El.En) : ByteArray := keyAt xs (xs.length - 1)
def covL (xs : List El.En) : ByteArray := keyAt xs 0
def covH (xs : List El.En) : ByteArray := if nxE (covZ xs) = 0 then nxS (covZ xs) else ⟨#[]⟩
def covB (xs : List El.En) : Bool := decide (nxE (covZ xs) = 0)
theorem cov_yes {xs : List El.En} (h : nxE (covZ xs) = 0) : covH xs = nxS (covZ xs) ∧ covB xs = true := ⟨if_pos h, decide_eq_true h⟩
theorem cov_no {xs : List El.En} (h : nxE (covZ xs) ≠ 0) : covH xs = ⟨#[]⟩ ∧ covB xs = false := ⟨if_neg h, decide_eq_false h⟩
def covV (xs : List El.En) : Value := .agg #[.string (covL xs), .string (covH xs), .bool (covB xs)]
theorem es_ends {w : World} {A : Option Addr} {xs : List El.En} (hf : EsAt w A xs) (h0 : 0 < xs.length) : ∃ b off, A = some ⟨b, off, none⟩ ∧ b < w.heap.size ∧ w.cell? ⟨b, off, none⟩ = some (.string (covL xs)) ∧ w.cell? ⟨b, off + (xs.length - 1) * 4, none⟩ = some (.string (covZ xs)) := by
  rcases hf with h | ⟨b, off, hA, hb, hc⟩
  · subst h; simp at h0
  · refine ⟨b, off, hA, hb, ?_, ?_⟩
    · have := (hc 0 h0).1
      unfold covL; rw [keyAt_eq h0]; simpa using this
    · have := (hc (xs.length - 1) (by omega)).1
      unfold covZ; rw [keyAt_eq (by omega)]; exact this
set_option maxRecDepth 100000 in
set_option maxHeartbeats 4000000 in
theorem coverOf_any (A : Option Addr) (c : Nat) (xs : List El.En) (w : World) (hf : EsAt w A xs) (h0 : 0 < xs.length) (hn : xs.length ≤ 5000) (hk : ∀ x ∈ xs, x.1.size ≤ 32) :
    Calls Try.prog 43 #[.slice A xs.length c] w fun e w' => e = .returned (covV xs) ∧ Below w.heap.size w w' := by
  obtain ⟨b, off, rfl, hbl, g0, g1⟩ := es_ends hf h0
  have hzs : (covZ xs).size ≤ 32 := by unfold covZ; rw [keyAt_eq (by omega)]; exact hk _ (List.getElem_mem _)
  have JN : Hid (∀ w1, Calls Try.prog 59 #[.string (covZ xs)] w1 fun e w' => e = .returned (.tuple #[.string (nxS (covZ xs)), .int .i64 (nxE (covZ xs))]) ∧ Below w1.heap.size w1 w') := Lib.hid (fun w1 => kNext_any (covZ xs) w1 (by omega))
  have HV : Hid (covV xs = .agg #[.string (covL xs), .string (covH xs), .bool (covB xs)]) := Lib.hid rfl
  have hw0 : IntKind.i64.wrap ((xs.length : Int) - 1) = ((xs.length - 1 : Nat) : Int) := by rw [IntKind.wrap_i64]; omega
  have hi0 : (0 : Int) < (xs.length : Int) := by omega
  have hi1 : ((xs.length - 1 : Nat) : Int) < (xs.length : Int) := by omega
  have hi2 : (0 : Int) ≤ ((xs.length - 1 : Nat) : Int) := by omega
  have hi3 : (xs.length : Int) - 1 = ((xs.length - 1 : Nat) : Int) := by omega
  have hY := cov_yes (xs := xs)
  have hN := cov_no (xs := xs)
  clear hf hk hzs h0
  generalize covV xs = cv at *
  generalize covL xs = lo at *
  generalize covZ xs = z at *
  generalize covH xs = ch at *
  generalize covB xs = cb at *
  generalize xs.length - 1 = m at *
  generalize xs.length = n at *
  have b0 := alloc_below w (.cells #[.string ⟨#[]⟩, .string ⟨#[]⟩, .bool false] 37)
  have b1 := alloc_below (w.alloc (.cells #[.string ⟨#[]⟩, .string ⟨#[]⟩, .bool false] 37)) (.cells #[.string lo, .string ⟨#[]⟩, .bool false] 37)
  have HW : Hid (∀ w', Below ((w.alloc (.cells #[.string ⟨#[]⟩, .string ⟨#[]⟩, .bool false] 37)).alloc (.cells #[.string lo, .string ⟨#[]⟩, .bool false] 37)).heap.size ((w.alloc (.cells #[.string ⟨#[]⟩, .string ⟨#[]⟩, .bool false] 37)).alloc (.cells #[.string lo, .string ⟨#[]⟩, .bool false] 37)) w' → Row3 w' w.heap.size 37 (.string ⟨#[]⟩) (.string ⟨#[]⟩) (.bool false) ∧ Row3 w' (w.heap.size + 1) 37 (.string lo) (.string ⟨#[]⟩) (.bool false) ∧ w.heap.size + 2 ≤ w'.heap.size ∧ Below w.heap.size w w') := Lib.hid (fun w' h => by
    have r0 := ((Row3.new w 37 (.string ⟨#[]⟩) (.string ⟨#[]⟩) (.bool false)).below b1 (Nat.le_refl _)).below h (Nat.le_refl _)
    have r1 := (Row3.new (w.alloc (.cells #[.string ⟨#[]⟩, .string ⟨#[]⟩, .bool false] 37)) 37 (.string lo) (.string ⟨#[]⟩) (.bool false)).below h (Nat.le_refl _)
    rw [show (w.alloc (.cells #[.string ⟨#[]⟩, .string ⟨#[]⟩, .bool false] 37)).heap.size = w.heap.size + 1 by simp] at r1
    exact ⟨r0, r1, by have := h.size; simp at this; omega, (b0.trans (b1.mono (by simp))).trans (h.mono (by simp; omega))⟩)
  have HG0 : Hid (∀ w', Below w.heap.size w w' → w'.cell? ⟨b, off, none⟩ = some (.string lo) ∧ w'.cell? ⟨b, off + m * 4, none⟩ = some (.string z)) := Lib.hid (fun w' h => ⟨(h.cell (p := ⟨b, off, none⟩) hbl).trans g0, (h.cell (p := ⟨b, off + m * 4, none⟩) hbl).trans g1⟩)
  obtain ⟨v0, v1⟩ := HG0.out _ b0
  obtain ⟨u0, u1⟩ := HG0.out _ (b0.trans (b1.mono (by simp)))
  clear g0 g1 hbl b0 b1
  go_enter Try.func43, Try.ntmps43
  go_wp2_with fail
  refine (JN.out _).mono ?_
  rintro e w4 ⟨rfl, hb⟩
  obtain ⟨r0, r1, r2, r3⟩ := HW.out _ hb
  have HB := Lib.hid r3
  have H1 := Lib.hid r1
  have H0 := Lib.hid r0
  clear hb r3 u0 u1 v0 v1
  by_cases hx : nxE z = 0
  · obtain ⟨rfl, rfl⟩ := hY hx
    have s0 := r1.c0
    have s1 := r1.c1
    have s2 := r1.c2
    have sf := r1.fz
    have h5 := r1.set12 (.string (nxS z)) (.bool true)
    have h6 := (r0.other1 (g := w.heap.size + 1) (i := 1) (by omega) (.string (nxS z))).other1 (g := w.heap.size + 1) (i := 2) (by omega) (.bool true)
    have t0 := h5.c0
    have t1 := h5.c1
    have t2 := h5.c2
    have p0 := h6.c0
    have p1 := h6.c1
    have p2 := h6.c2
    have pf := h6.fz
    have h7 := h6.set (.string lo) (.string (nxS z)) (.bool true)
    have k0 := h7.c0
    have k1 := h7.c1
    have k2 := h7.c2
    have HV2 := Lib.hid HV.out
    rw [hx]
    clear hY hN hx r0 r1
    go_wp2_with fail
    exact bodyPost_ret (v := .agg #[.string lo, .string (nxS z), .bool true]) (by simp [results, Try.results43, go_sem, k0, k1, k2]) rfl ⟨by rw [HV.out], set3 ((HB.out.setCell (p := ⟨w.heap.size + 1, 1, none⟩) (by simp) _).setCell (p := ⟨w.heap.size + 1, 2, none⟩) (by simp) _) (by omega) _ _ _⟩
  · obtain ⟨rfl, rfl⟩ := hN hx
    obtain ⟨e1, e2⟩ := ne_b hx
    have t0 := r1.c0
    have t1 := r1.c1
    have t2 := r1.c2
    have p0 := r0.c0
    have p1 := r0.c1
    have p2 := r0.c2
    have pf := r0.fz
    have h7 := r0.set (.string lo) (.string ⟨#[]⟩) (.bool false)
    have k0 := h7.c0
    have k1 := h7.c1
    have k2 := h7.c2
    clear hY hN hx r0 r1
    go_wp2_with fail
    exact bodyPost_ret (v := .agg #[.string lo, .string ⟨#[]⟩, .bool false]) (by simp [results, Try.results43, go_sem, k0, k1, k2]) rfl ⟨by rw [HV.out], set3 HB.out (by omega) _ _ _⟩
/-- what Cover answers -/
def covA (id : Int) (xs : List El.En) : (ByteArray × ByteArray × Bool) × Int := if (runE id xs).2 ≠ 0 then ((⟨#[]⟩, ⟨#[]⟩, false), (runE id xs).2) else if xs.length = 0 then ((⟨#[]⟩, ⟨#[]⟩, false), 4) else ((covL xs, covH xs, covB xs), 0)
theorem covA_no {id : Int} {xs : List El.En} (h : (runE id xs).2 ≠ 0) : covA id xs = ((⟨#[]⟩, ⟨#[]⟩, false), (runE id xs).2) := if_pos h
theorem covA_nil {id : Int} {xs : List El.En} (h : (runE id xs).2 = 0) (g : xs.length = 0) : covA id xs = ((⟨#[]⟩, ⟨#[]⟩, false), 4) := by unfold covA; rw [if_neg (by rw [h]; simp), if_pos g]
theorem covA_ok {id : Int} {xs : List El.En} (h : (runE id xs).2 = 0) (g : xs.length ≠ 0) : covA id xs = ((covL xs, covH xs, covB xs), 0) := by unfold covA; rw [if_neg (by rw [h]; simp), if_neg g]
def rngV (p : (ByteArray × ByteArray × Bool) × Int) : Value := .tuple #[.agg #[.string p.1.1, .string p.1.2.1, .bool p.1.2.2], .int .i64 p.2]
theorem retR {p : (ByteArray × ByteArray × Bool) × Int} {a b : ByteArray} {d : Bool} {r : Int} (h : p = ((a, b, d), r)) : Ending.returned (.tuple #[.agg #[.string a, .string b, .bool d], .int .i64 r]) = .returned (rngV p) := by rw [h]; rfl
/-- a run in a box, and a range for the answer -/
theorem boxUZ (id : Int) (B : Option Addr) (n d : Nat) (w : World) : Hid (∀ w', Below ((w.alloc (.cells #[.int .i64 id, .slice B n d] 24)).alloc (.cells #[.string ⟨#[]⟩, .string ⟨#[]⟩, .bool false] 37)).heap.size ((w.alloc (.cells #[.int .i64 id, .slice B n d] 24)).alloc (.cells #[.string ⟨#[]⟩, .string ⟨#[]⟩, .bool false] 37)) w' → w'.cell? ⟨w.heap.size, 0, none⟩ = some (.int .i64 id) ∧ w'.cell? ⟨w.heap.size, 1, none⟩ = some (.slice B n d) ∧ Row3 w' (w.heap.size + 1) 37 (.string ⟨#[]⟩) (.string ⟨#[]⟩) (.bool false) ∧ w.heap.size + 2 ≤ w'.heap.size ∧ Below w.heap.size w w') := Lib.hid (fun w' h => by
  have hb0 := alloc_below (w.alloc (.cells #[.int .i64 id, .slice B n d] 24)) (.cells #[.string ⟨#[]⟩, .string ⟨#[]⟩, .bool false] 37)
  obtain ⟨x0, x1, x2, x3⟩ := (boxU id B n d w).out _ (hb0.trans (h.mono (by simp)))
  have r1 := (Row3.new (w.alloc (.cells #[.int .i64 id, .slice B n d] 24)) 37 (.string ⟨#[]⟩) (.string ⟨#[]⟩) (.bool false)).below h (Nat.le_refl _)
  rw [show (w.alloc (.cells #[.int .i64 id, .slice B n d] 24)).heap.size = w.heap.size + 1 by simp] at r1
  exact ⟨x0, x1, r1, by have := h.size; simp at this; omega, x3⟩)
set_option maxRecDepth 100000 in
set_option maxHeartbeats 4000000 in
theorem pCover8_any (id : Int) (A : Option Addr) (c : Nat) (xs : List El.En) (w : World) (hf : EsAt w A xs) (hn : xs.length ≤ 4294967295) (hs : Sized xs) :
    Calls Try.prog 23 #[.agg #[.int .i64 id, .slice A xs.length c]] w fun e w' => e = .returned (rngV (covA id xs)) ∧ Below w.heap.size w w' := by
  have HX := boxUZ id A xs.length c w
  obtain ⟨x0, x1, x2, x3, x4⟩ := HX.out _ (Below.refl _ _)
  have HB := Lib.hid x4
  have J1 := Lib.hid (fun w1 (h : Below w.heap.size w w1) => pCheck8_any id A c xs w1 (hf.below h (Nat.le_refl _)) hn hs)
  clear x2 x4
  by_cases h1 : (runE id xs).2 = 0
  rotate_left
  · have HL := Lib.hid (covA_no h1)
    obtain ⟨b1, b2⟩ := ne_b h1
    generalize covA id xs = res at *
    generalize (runE id xs).2 = r at *
    generalize (runE id xs).1 = r0 at *
    clear h1 hf hs
    generalize xs.length = n at *
    go_enter Try.func23, Try.ntmps23
    go_wp2_with fail
    refine (J1.out _ HB.out).mono ?_
    rintro e w1 ⟨rfl, hb⟩
    obtain ⟨y0, y1, y2, y3, y4⟩ := HX.out _ hb
    have HB1 := Lib.hid y4
    have HC1 := Lib.hid hb
    have p0 := y2.c0
    have p1 := y2.c1
    have p2 := y2.c2
    have pf := y2.fz
    clear hb x0 x1 y4
    have HR := y2.set (.string ⟨#[]⟩) (.string ⟨#[]⟩) (.bool false)
    have k0 := HR.c0
    have k1 := HR.c1
    have k2 := HR.c2
    go_wp2_with fail
    exact bodyPost_ret (v := .tuple #[.agg #[.string ⟨#[]⟩, .string ⟨#[]⟩, .bool false], .int .i64 r]) (by simp [results, Try.results23, go_sem, k0, k1, k2]) rfl ⟨retR HL.out, set3 HB1.out (by omega) _ _ _⟩
  rw [h1] at J1
  by_cases hz : xs.length = 0
  · have HL := Lib.hid (covA_nil h1 hz)
    generalize covA id xs = res at *
    generalize (runE id xs).1 = r0 at *
    clear h1 hf hs
    generalize xs.length = n at *
    subst hz
    go_enter Try.func23, Try.ntmps23
    go_wp2_with fail
    refine (J1.out _ HB.out).mono ?_
    rintro e w1 ⟨rfl, hb⟩
    obtain ⟨y0, y1, y2, y3, y4⟩ := HX.out _ hb
    have HB1 := Lib.hid y4
    have HC1 := Lib.hid hb
    have p0 := y2.c0
    have p1 := y2.c1
    have p2 := y2.c2
    have pf := y2.fz
    clear hb x0 x1 y4
    have HR := y2.set (.string ⟨#[]⟩) (.string ⟨#[]⟩) (.bool false)
    have k0 := HR.c0
    have k1 := HR.c1
    have k2 := HR.c2
    go_wp2_with fail
    exact bodyPost_ret (v := .tuple #[.agg #[.string ⟨#[]⟩, .string ⟨#[]⟩, .bool false], .int .i64 4]) (by simp [results, Try.results23, go_sem, k0, k1, k2]) rfl ⟨retR HL.out, set3 HB1.out (by omega) _ _ _⟩
  have HL := Lib.hid (covA_ok h1 hz)
  obtain ⟨hl, hck, _⟩ := run_ok h1
  have hk32 : ∀ x ∈ xs, x.1.size ≤ 32 := fun x hx => (El.chk_of (hck x hx)).1
  have hpos : 0 < xs.length := by omega
  have hz1 : ((xs.length : Int) == 0) = false := by rw [beq_eq_false_iff_ne]; omega
  have hz2 : ¬ (xs.length : Int) = 0 := by omega
  generalize covA id xs = res at *
  generalize (runE id xs).1 = r0 at *
  clear h1 hck
  have JC := Lib.hid (fun w1 (h : Below w.heap.size w w1) => coverOf_any A c xs w1 (hf.below h (Nat.le_refl _)) hpos hl hk32)
  unfold covV at JC
  generalize covL xs = lo at *
  generalize covH xs = ch at *
  generalize covB xs = cb at *
  clear hf hs hk32 hz hpos
  generalize xs.length = n at *
  go_enter Try.func23, Try.ntmps23
  go_wp2_with fail
  refine (J1.out _ HB.out).mono ?_
  rintro e w1 ⟨rfl, hb⟩
  obtain ⟨y0, y1, y2, y3, y4⟩ := HX.out _ hb
  have HB1 := Lib.hid y4
  have HC1 := Lib.hid hb
  have p0 := y2.c0
  have p1 := y2.c1
  have p2 := y2.c2
  have pf := y2.fz
  clear hb x0 x1 y4
  clear p0 p1 p2 pf y2
  go_wp2_with fail
  refine (JC.out _ HB1.out).mono ?_
  rintro e w2 ⟨rfl, hb⟩
  obtain ⟨y0, y1, y2, y3, y4⟩ := HX.out _ (eb_of HC1.out hb (Nat.le_refl _))
  have HB2 := Lib.hid y4
  have p0 := y2.c0
  have p1 := y2.c1
  have p2 := y2.c2
  have pf := y2.fz
  clear hb y4
  have HR := y2.set (.string lo) (.string ch) (.bool cb)
  have k0 := HR.c0
  have k1 := HR.c1
  have k2 := HR.c2
  go_wp2_with fail
  exact bodyPost_ret (v := .tuple #[.agg #[.string lo, .string ch, .bool cb], .int .i64 0]) (by simp [results, Try.results23, go_sem, k0, k1, k2]) rfl ⟨retR HL.out, set3 HB2.out (by omega) _ _ _⟩
set_option maxRecDepth 100000 in
set_option maxHeartbeats 4000000 in
theorem rCover8_any (id : Int) (A : Option Addr) (c : Nat) (xs : List El.En) (w : World) (hf : EsAt w A xs) (hn : xs.length ≤ 4294967295) (hs : Sized xs) :
    Calls Try.prog 24 #[.agg #[.int .i64 id, .slice A xs.length c]] w fun e w' => e = .returned (rngV (covA id xs)) ∧ Below w.heap.size w w' := by
  have HX := boxUZ id A xs.length c w
  obtain ⟨x0, x1, x2, x3, x4⟩ := HX.out _ (Below.refl _ _)
  have HB := Lib.hid x4
  have J1 := Lib.hid (fun w1 (h : Below w.heap.size w w1) => rCheck8_any id A c xs w1 (hf.below h (Nat.le_refl _)) hn hs)
  clear x2 x4
  by_cases h1 : (runE id xs).2 = 0
  rotate_left
  · have HL := Lib.hid (covA_no h1)
    obtain ⟨b1, b2⟩ := ne_b h1
    generalize covA id xs = res at *
    generalize (runE id xs).2 = r at *
    generalize (runE id xs).1 = r0 at *
    clear h1 hf hs
    generalize xs.length = n at *
    go_enter Try.func24, Try.ntmps24
    go_wp2_with fail
    refine (J1.out _ HB.out).mono ?_
    rintro e w1 ⟨rfl, hb⟩
    obtain ⟨y0, y1, y2, y3, y4⟩ := HX.out _ hb
    have HB1 := Lib.hid y4
    have HC1 := Lib.hid hb
    have p0 := y2.c0
    have p1 := y2.c1
    have p2 := y2.c2
    have pf := y2.fz
    clear hb x0 x1 y4
    have HR := y2.set (.string ⟨#[]⟩) (.string ⟨#[]⟩) (.bool false)
    have k0 := HR.c0
    have k1 := HR.c1
    have k2 := HR.c2
    go_wp2_with fail
    exact bodyPost_ret (v := .tuple #[.agg #[.string ⟨#[]⟩, .string ⟨#[]⟩, .bool false], .int .i64 r]) (by simp [results, Try.results24, go_sem, k0, k1, k2]) rfl ⟨retR HL.out, set3 HB1.out (by omega) _ _ _⟩
  rw [h1] at J1
  by_cases hz : xs.length = 0
  · have HL := Lib.hid (covA_nil h1 hz)
    generalize covA id xs = res at *
    generalize (runE id xs).1 = r0 at *
    clear h1 hf hs
    generalize xs.length = n at *
    subst hz
    go_enter Try.func24, Try.ntmps24
    go_wp2_with fail
    refine (J1.out _ HB.out).mono ?_
    rintro e w1 ⟨rfl, hb⟩
    obtain ⟨y0, y1, y2, y3, y4⟩ := HX.out _ hb
    have HB1 := Lib.hid y4
    have HC1 := Lib.hid hb
    have p0 := y2.c0
    have p1 := y2.c1
    have p2 := y2.c2
    have pf := y2.fz
    clear hb x0 x1 y4
    have HR := y2.set (.string ⟨#[]⟩) (.string ⟨#[]⟩) (.bool false)
    have k0 := HR.c0
    have k1 := HR.c1
    have k2 := HR.c2
    go_wp2_with fail
    exact bodyPost_ret (v := .tuple #[.agg #[.string ⟨#[]⟩, .string ⟨#[]⟩, .bool false], .int .i64 4]) (by simp [results, Try.results24, go_sem, k0, k1, k2]) rfl ⟨retR HL.out, set3 HB1.out (by omega) _ _ _⟩
  have HL := Lib.hid (covA_ok h1 hz)
  obtain ⟨hl, hck, _⟩ := run_ok h1
  have hk32 : ∀ x ∈ xs, x.1.size ≤ 32 := fun x hx => (El.chk_of (hck x hx)).1
  have hpos : 0 < xs.length := by omega
  have hz1 : ((xs.length : Int) == 0) = false := by rw [beq_eq_false_iff_ne]; omega
  have hz2 : ¬ (xs.length : Int) = 0 := by omega
  generalize covA id xs = res at *
  generalize (runE id xs).1 = r0 at *
  clear h1 hck
  obtain ⟨b, off, rfl, hbl, g0, g1⟩ := es_ends hf hpos
  have hzs : (covZ xs).size ≤ 32 := by unfold covZ; rw [keyAt_eq (by omega)]; exact hk32 _ (List.getElem_mem _)
  have JN : Hid (∀ w1, Calls Try.prog 33 #[.string (covZ xs)] w1 fun e w' => e = .returned (.tuple #[.string (nxS (covZ xs)), .int .i64 (nxE (covZ xs))]) ∧ Below w1.heap.size w1 w') := Lib.hid (fun w1 => rNext_any (covZ xs) w1 (by omega))
  have hw0 : IntKind.i64.wrap ((xs.length : Int) - 1) = ((xs.length - 1 : Nat) : Int) := by rw [IntKind.wrap_i64]; omega
  have hi0 : (0 : Int) < (xs.length : Int) := by omega
  have hi1 : ((xs.length - 1 : Nat) : Int) < (xs.length : Int) := by omega
  have hi2 : (0 : Int) ≤ ((xs.length - 1 : Nat) : Int) := by omega
  have hi3 : (xs.length : Int) - 1 = ((xs.length - 1 : Nat) : Int) := by omega
  have hY := cov_yes (xs := xs)
  have hN := cov_no (xs := xs)
  clear hf hs hk32 hz hpos hzs
  generalize covL xs = lo at *
  generalize covZ xs = z at *
  generalize covH xs = ch at *
  generalize covB xs = cb at *
  generalize xs.length - 1 = m at *
  generalize xs.length = n at *
  have HG0 : Hid (∀ w', Below w.heap.size w w' → w'.cell? ⟨b, off, none⟩ = some (.string lo) ∧ w'.cell? ⟨b, off + m * 4, none⟩ = some (.string z)) := Lib.hid (fun w' h => ⟨(h.cell (p := ⟨b, off, none⟩) hbl).trans g0, (h.cell (p := ⟨b, off + m * 4, none⟩) hbl).trans g1⟩)
  clear g0 g1 hbl
  go_enter Try.func24, Try.ntmps24
  go_wp2_with fail
  refine (J1.out _ HB.out).mono ?_
  rintro e w1 ⟨rfl, hb⟩
  obtain ⟨y0, y1, y2, y3, y4⟩ := HX.out _ hb
  have HB1 := Lib.hid y4
  have HC1 := Lib.hid hb
  have p0 := y2.c0
  have p1 := y2.c1
  have p2 := y2.c2
  have pf := y2.fz
  clear hb x0 x1 y4
  have HL3 := alloc_below w1 (.cells #[.string lo, .string ⟨#[]⟩, .bool false] 37)
  obtain ⟨u0, u1⟩ := HG0.out _ HB1.out
  obtain ⟨v0, v1⟩ := HG0.out _ (eb_of HB1.out HL3 (Nat.le_refl _))
  obtain ⟨q0, q1, _, _, _⟩ := HX.out _ (eb_of HC1.out HL3 (Nat.le_refl _))
  have HR1 := Lib.hid (Row3.new w1 37 (.string lo) (.string ⟨#[]⟩) (.bool false))
  have HLL := Lib.hid HL3
  have hlt1 : w.heap.size < w1.heap.size := by omega
  clear p0 p1 p2 pf HL3
  go_wp2_with fail
  refine (JN.out _).mono ?_
  rintro e w4 ⟨rfl, hb⟩
  obtain ⟨_, _, r0, r2, r3⟩ := HX.out _ (eb_of (eb_of HC1.out HLL.out (Nat.le_refl _)) hb (Nat.le_refl _))
  have r1 := HR1.out.below hb (Nat.le_refl _)
  have HB4 := Lib.hid r3
  clear hb r3 u0 u1 v0 v1 q0 q1 y0 y1 y2
  by_cases hx : nxE z = 0
  · obtain ⟨rfl, rfl⟩ := hY hx
    have s0 := r1.c0
    have s1 := r1.c1
    have s2 := r1.c2
    have sf := r1.fz
    have h5 := r1.set12 (.string (nxS z)) (.bool true)
    have h6 := (r0.other1 (g := w1.heap.size) (i := 1) (by omega) (.string (nxS z))).other1 (g := w1.heap.size) (i := 2) (by omega) (.bool true)
    have t0 := h5.c0
    have t1 := h5.c1
    have t2 := h5.c2
    have p0 := h6.c0
    have p1 := h6.c1
    have p2 := h6.c2
    have pf := h6.fz
    rw [hx]
    clear hY hN hx r0 r1
    have HR := h6.set (.string lo) (.string (nxS z)) (.bool true)
    have k0 := HR.c0
    have k1 := HR.c1
    have k2 := HR.c2
    go_wp2_with fail
    exact bodyPost_ret (v := .tuple #[.agg #[.string lo, .string (nxS z), .bool true], .int .i64 0]) (by simp [results, Try.results24, go_sem, k0, k1, k2]) rfl ⟨retR HL.out, set3 ((HB4.out.setCell (p := ⟨w1.heap.size, 1, none⟩) (by simp; omega) _).setCell (p := ⟨w1.heap.size, 2, none⟩) (by simp; omega) _) (by omega) _ _ _⟩
  · obtain ⟨rfl, rfl⟩ := hN hx
    obtain ⟨e1, e2⟩ := ne_b hx
    have t0 := r1.c0
    have t1 := r1.c1
    have t2 := r1.c2
    have p0 := r0.c0
    have p1 := r0.c1
    have p2 := r0.c2
    have pf := r0.fz
    clear hY hN hx r1
    have HR := r0.set (.string lo) (.string ⟨#[]⟩) (.bool false)
    have k0 := HR.c0
    have k1 := HR.c1
    have k2 := HR.c2
    go_wp2_with fail
    exact bodyPost_ret (v := .tuple #[.agg #[.string lo, .string ⟨#[]⟩, .bool false], .int .i64 0]) (by simp [results, Try.results24, go_sem, k0, k1, k2]) rfl ⟨retR HL.out, set3 HB4.out (by omega) _ _ _⟩
end Go.Proofs.Ytjnbdeahmbkbnaa.KK
