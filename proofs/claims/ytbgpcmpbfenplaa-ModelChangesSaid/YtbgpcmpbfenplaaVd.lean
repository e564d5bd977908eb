/-
  Get, Floor and Ceiling of a plain map.
-/
import Derived.Test.YtbgpcmpbfenplaaVc
namespace Go.Proofs.Ytbgpcmpbfenplaa.KK
open Go.ChangeShapes Go.WideShapes Go.ChangeAt Go.RowKit Go.Proofs

def Row2 (W : World) (B : Nat) (t : TypeId) (v0 v1 : Value) : Prop := W.heap[B]? = some (.cells #[v0, v1] t (0, 0))
theorem Row2.lt {W : World} {B : Nat} {t : TypeId} {v0 v1 : Value} (h : Row2 W B t v0 v1) : B < W.heap.size := (Array.getElem?_eq_some_iff.1 h).1
theorem Row2.c0 {W : World} {B : Nat} {t : TypeId} {v0 v1 : Value} (h : Row2 W B t v0 v1) : W.cell? ⟨B, 0, none⟩ = some v0 := by unfold Row2 at h; simp [World.cell?, h]
theorem Row2.c1 {W : World} {B : Nat} {t : TypeId} {v0 v1 : Value} (h : Row2 W B t v0 v1) : W.cell? ⟨B, 1, none⟩ = some v1 := by unfold Row2 at h; simp [World.cell?, h]
theorem Row2.fz {W : World} {B : Nat} {t : TypeId} {v0 v1 : Value} (h : Row2 W B t v0 v1) (i : Nat) : W.frozen? ⟨B, i, none⟩ = false := by unfold Row2 at h; simp [World.frozen?, h]
theorem Row2.set {W : World} {B : Nat} {t : TypeId} {v0 v1 u0 u1 : Value} (h : Row2 W B t v0 v1) : Row2 ((W.setCell ⟨B, 0, none⟩ u0).setCell ⟨B, 1, none⟩ u1) B t u0 u1 := by
  unfold Row2 at h ⊢; simp [World.setCell, Array.getElem?_modify, h]
theorem Row2.new (w : World) (t : TypeId) (v0 v1 : Value) : Row2 (w.alloc (.cells #[v0, v1] t)) w.heap.size t v0 v1 := heap_alloc_new w _
theorem Row2.below {W W' : World} {B n : Nat} {t : TypeId} {v0 v1 : Value} (h : Row2 W B t v0 v1) (hb : Below n W W') (hn : W.heap.size ≤ n) : Row2 W' B t v0 v1 := (hb.block B (Nat.lt_of_lt_of_le h.lt hn)).trans h
theorem set2_below {B : Nat} {w w1 : World} {g : Nat} (h : Below B w w1) (hg : B ≤ g) (a b : Value) : Below B w ((w1.setCell ⟨g, 0, none⟩ a).setCell ⟨g, 1, none⟩ b) :=
  (h.setCell (p := ⟨g, 0, none⟩) hg _).setCell (p := ⟨g, 1, none⟩) hg _
def noneP : Pr := (⟨#[]⟩, ⟨#[]⟩)
/-- the error of a map, and of a key -/
def askE (xs : List Pr) (key : ByteArray) : Int := if (mapE xs).2 = 0 then chk1 key.size else (mapE xs).2
theorem askE_ok {xs : List Pr} {key : ByteArray} (h : askE xs key = 0) : (mapE xs).2 = 0 ∧ key.size ≤ 32 := by
  unfold askE at h
  by_cases g : (mapE xs).2 = 0
  · rw [if_pos g] at h
    refine ⟨g, ?_⟩
    unfold chk1 at h
    split at h
    · assumption
    · cases h
  · rw [if_neg g] at h; exact absurd h g
theorem ask_any (A : Option Addr) (c : Nat) (xs : List Pr) (key : ByteArray) (w : World) (hf : PsAt w A xs) (hn : xs.length ≤ 4294967295) (hs : SizedP xs) (hk : key.size ≤ 9223372036854775807) :
    Calls Try.prog 45 #[.slice A xs.length c, .string key] w fun e w' => e = .returned (.int .i64 (askE xs key)) ∧ Below w.heap.size w w' := by
  have J := Lib.hid (mCheck_any A c xs w hf hn hs)
  have JK := Lib.hid (fun w => kCheck_any key w hk)
  by_cases he : (mapE xs).2 = 0
  · have HA : Hid (askE xs key = chk1 key.size) := Lib.hid (if_pos he)
    rw [he] at J
    clear he hf hs
    generalize (mapE xs).1 = r1 at *
    generalize chk1 key.size = r at *
    generalize xs.length = n at *
    go_enter Try.func45, Try.ntmps45
    go_wp2_with fail
    refine J.out.mono ?_
    rintro e w1 ⟨rfl, hb⟩
    have HB := Lib.hid hb
    clear hb J
    go_wp2_with fail
    refine (JK.out _).mono ?_
    rintro e w2 ⟨rfl, rfl⟩
    go_wp2_with fail
    go_ret
    exact ⟨retI (by rw [HA.out]), HB.out⟩
  · have HA : Hid (askE xs key = (mapE xs).2) := Lib.hid (if_neg he)
    obtain ⟨b1, b2⟩ := ne_b he
    clear he hf hs
    generalize (mapE xs).1 = r1 at *
    generalize (mapE xs).2 = r at *
    generalize xs.length = n at *
    go_enter Try.func45, Try.ntmps45
    go_wp2_with fail
    refine J.out.mono ?_
    rintro e w1 ⟨rfl, hb⟩
    have HB := Lib.hid hb
    clear hb J
    go_wp2_with fail
    go_ret
    exact ⟨retI (by rw [HA.out]), HB.out⟩
def floorE (xs : List Pr) (key : ByteArray) : Int × Pr :=
  if askE xs key ≠ 0 then (askE xs key, noneP) else if hasP key xs = true then (0, xs.getD (posP key xs) noneP) else if posP key xs = 0 then (4, noneP) else (0, xs.getD (posP key xs - 1) noneP)
def ceilE (xs : List Pr) (key : ByteArray) : Int × Pr :=
  if askE xs key ≠ 0 then (askE xs key, noneP) else if posP key xs = xs.length then (4, noneP) else (0, xs.getD (posP key xs) noneP)
theorem hasP_lt {key : ByteArray} {xs : List Pr} (h : hasP key xs = true) : posP key xs < xs.length := by
  unfold hasP at h
  rcases Nat.lt_or_ge (posP key xs) xs.length with g | g
  · exact g
  · rw [List.getElem?_eq_none g] at h; cases h
set_option maxRecDepth 100000 in
set_option maxHeartbeats 2000000 in
theorem floor_any (A : Option Addr) (c : Nat) (xs : List Pr) (key : ByteArray) (w : World) (hf : PsAt w A xs) (hn : xs.length ≤ 4294967295) (hs : SizedP xs) (hk : key.size ≤ 9223372036854775807) :
    Calls Try.prog 13 #[.slice A xs.length c, .string key] w fun e w' => e = .returned (.tuple #[.agg #[.string (floorE xs key).2.1, .string (floorE xs key).2.2], .int .i64 (floorE xs key).1]) ∧ Below w.heap.size w w' := by
  have J1 := Lib.hid (fun w1 (h : Below w.heap.size w w1) => ask_any A c xs key w1 (hf.below h (Nat.le_refl _)) hn hs hk)
  by_cases he : askE xs key = 0
  rotate_left
  · have HE : Hid (floorE xs key = (askE xs key, noneP)) := Lib.hid (if_pos he)
    obtain ⟨b1, b2⟩ := ne_b he
    clear he hf hs
    generalize askE xs key = r at *
    generalize xs.length = n at *
    go_enter Try.func13, Try.ntmps13
    go_wp2_with fail
    refine (J1.out _ (alloc_below _ _)).mono ?_
    rintro e w1 ⟨rfl, hb⟩
    have HB := Lib.hid ((alloc_below w (.cells #[.string ⟨#[]⟩, .string ⟨#[]⟩] 31)).trans (hb.mono (by simp)))
    have HR := Lib.hid ((Row2.new w 31 (.string ⟨#[]⟩) (.string ⟨#[]⟩)).below hb (Nat.le_refl _))
    clear hb J1
    have r0 := HR.out.c0
    have r1 := HR.out.c1
    have z0 := HR.out.fz 0
    have z1 := HR.out.fz 1
    go_wp2_with fail
    have k0 : ((w1.setCell ⟨w.heap.size, 0, none⟩ (.string ⟨#[]⟩)).setCell ⟨w.heap.size, 1, none⟩ (.string ⟨#[]⟩)).cell? ⟨w.heap.size, 0, none⟩ = some (.string ⟨#[]⟩) := (HR.out.set (u0 := .string ⟨#[]⟩) (u1 := .string ⟨#[]⟩)).c0
    have k1 : ((w1.setCell ⟨w.heap.size, 0, none⟩ (.string ⟨#[]⟩)).setCell ⟨w.heap.size, 1, none⟩ (.string ⟨#[]⟩)).cell? ⟨w.heap.size, 1, none⟩ = some (.string ⟨#[]⟩) := (HR.out.set (u0 := .string ⟨#[]⟩) (u1 := .string ⟨#[]⟩)).c1
    refine bodyPost_ret (v := .tuple #[.agg #[.string ⟨#[]⟩, .string ⟨#[]⟩], .int .i64 r]) (by simp [results, Try.f13, go_sem, k0, k1]) rfl ?_
    exact ⟨by (rw [HE.out]) <;> rfl, set2_below HB.out (Nat.le_refl _) _ _⟩

  obtain ⟨e1, e2⟩ := askE_ok he
  obtain ⟨x4, xz, xs'⟩ := map_ok e1
  have J2 := Lib.hid (fun w1 (h : Below w.heap.size w w1) => place_any A c xs key w1 (hf.below h (Nat.le_refl _)) (Nat.le_trans x4 (by decide)) xz xs' e2)
  rw [he] at J1
  have HF := Lib.hid hf
  have hple := posP_le key xs
  cases hq : hasP key xs with
  | true =>
    obtain ⟨p, hp⟩ : ∃ p, posP key xs = p := ⟨_, rfl⟩
    have hix : p < xs.length := by rw [← hp]; exact hasP_lt hq
    obtain ⟨⟨xk, xv⟩, hxx⟩ : ∃ x, xs[p] = x := ⟨_, rfl⟩
    have HE : Hid (floorE xs key = (0, (xk, xv))) := Lib.hid (by
      unfold floorE
      rw [if_neg (by rw [he]; simp), if_pos hq, hp, List.getD_eq_getElem?_getD, List.getElem?_eq_getElem hix, hxx]; try rfl)
    rw [hq, hp] at J2
    rw [hp] at hple
    have hI : (p : Int) < (xs.length : Int) := by omega
    have HX := Lib.hid hxx
    clear hp hq he e1 e2 xz xs' hf hs hxx
    obtain ⟨n, hnn⟩ : ∃ n, xs.length = n := ⟨_, rfl⟩
    rw [hnn] at J1 J2 hI hple hn x4 ⊢
    clear hnn
    go_enter Try.func13, Try.ntmps13
    go_wp2_with fail
    refine (J1.out _ (alloc_below _ _)).mono ?_
    rintro e w1 ⟨rfl, hb⟩
    have HB := Lib.hid ((alloc_below w (.cells #[.string ⟨#[]⟩, .string ⟨#[]⟩] 31)).trans (hb.mono (by simp)))
    have HR := Lib.hid ((Row2.new w 31 (.string ⟨#[]⟩) (.string ⟨#[]⟩)).below hb (Nat.le_refl _))
    clear hb J1
    go_wp2_with fail
    refine (J2.out _ HB.out).mono ?_
    rintro e w2 ⟨rfl, hb⟩
    have HB2 := Lib.hid (eb_of HB.out hb (Nat.le_refl _))
    have HR := Lib.hid (HR.out.below hb (Nat.le_refl _))
    clear hb J2
    have r0 := HR.out.c0
    have r1 := HR.out.c1
    have z0 := HR.out.fz 0
    have z1 := HR.out.fz 1
    rcases HF.out.below HB2.out (Nat.le_refl _) with h0 | ⟨b, off, rfl, hbl, hc⟩
    · rw [h0] at hix; simp at hix
    obtain ⟨g0, g1⟩ := hc p hix
    rw [HX.out] at g0 g1
    simp only at g0 g1
    clear hc
    go_wp2_with fail
    have k0 : ((w2.setCell ⟨w.heap.size, 0, none⟩ (.string xk)).setCell ⟨w.heap.size, 1, none⟩ (.string xv)).cell? ⟨w.heap.size, 0, none⟩ = some (.string xk) := (HR.out.set (u0 := .string xk) (u1 := .string xv)).c0
    have k1 : ((w2.setCell ⟨w.heap.size, 0, none⟩ (.string xk)).setCell ⟨w.heap.size, 1, none⟩ (.string xv)).cell? ⟨w.heap.size, 1, none⟩ = some (.string xv) := (HR.out.set (u0 := .string xk) (u1 := .string xv)).c1
    refine bodyPost_ret (v := .tuple #[.agg #[.string xk, .string xv], .int .i64 0]) (by simp [results, Try.f13, go_sem, k0, k1]) rfl ?_
    exact ⟨by (rw [HE.out]) <;> rfl, set2_below HB2.out (Nat.le_refl _) _ _⟩

  | false =>
    by_cases h0 : posP key xs = 0
    · have HE : Hid (floorE xs key = (4, noneP)) := Lib.hid (by
        unfold floorE
        rw [if_neg (by rw [he]; simp), if_neg (by rw [hq]; simp), if_pos h0])
      rw [hq, h0] at J2
      clear hq he e1 e2 xz xs' hf hs h0 hple
      generalize xs.length = n at *
      go_enter Try.func13, Try.ntmps13
      go_wp2_with fail
      refine (J1.out _ (alloc_below _ _)).mono ?_
      rintro e w1 ⟨rfl, hb⟩
      have HB := Lib.hid ((alloc_below w (.cells #[.string ⟨#[]⟩, .string ⟨#[]⟩] 31)).trans (hb.mono (by simp)))
      have HR := Lib.hid ((Row2.new w 31 (.string ⟨#[]⟩) (.string ⟨#[]⟩)).below hb (Nat.le_refl _))
      clear hb J1
      go_wp2_with fail
      refine (J2.out _ HB.out).mono ?_
      rintro e w2 ⟨rfl, hb⟩
      have HB2 := Lib.hid (eb_of HB.out hb (Nat.le_refl _))
      have HR := Lib.hid (HR.out.below hb (Nat.le_refl _))
      clear hb J2
      have r0 := HR.out.c0
      have r1 := HR.out.c1
      have z0 := HR.out.fz 0
      have z1 := HR.out.fz 1
      go_wp2_with fail
      have k0 : ((w2.setCell ⟨w.heap.size, 0, none⟩ (.string ⟨#[]⟩)).setCell ⟨w.heap.size, 1, none⟩ (.string ⟨#[]⟩)).cell? ⟨w.heap.size, 0, none⟩ = some (.string ⟨#[]⟩) := (HR.out.set (u0 := .string ⟨#[]⟩) (u1 := .string ⟨#[]⟩)).c0
      have k1 : ((w2.setCell ⟨w.heap.size, 0, none⟩ (.string ⟨#[]⟩)).setCell ⟨w.heap.size, 1, none⟩ (.string ⟨#[]⟩)).cell? ⟨w.heap.size, 1, none⟩ = some (.string ⟨#[]⟩) := (HR.out.set (u0 := .string ⟨#[]⟩) (u1 := .string ⟨#[]⟩)).c1
      refine bodyPost_ret (v := .tuple #[.agg #[.string ⟨#[]⟩, .string ⟨#[]⟩], .int .i64 4]) (by simp [results, Try.f13, go_sem, k0, k1]) rfl ?_
      exact ⟨by (rw [HE.out]) <;> rfl, set2_below HB2.out (Nat.le_refl _) _ _⟩

    · obtain ⟨p, hp⟩ : ∃ p, posP key xs = p + 1 := ⟨posP key xs - 1, by omega⟩
      have hix : p < xs.length := by omega
      obtain ⟨⟨xk, xv⟩, hxx⟩ : ∃ x, xs[p] = x := ⟨_, rfl⟩
      have HE : Hid (floorE xs key = (0, (xk, xv))) := Lib.hid (by
        unfold floorE
        rw [if_neg (by rw [he]; simp), if_neg (by rw [hq]; simp), if_neg h0, hp, Nat.add_sub_cancel, List.getD_eq_getElem?_getD, List.getElem?_eq_getElem hix, hxx]; try rfl)
      rw [hq, hp] at J2
      have HX := Lib.hid hxx
      clear hp hq he e1 e2 xz xs' hf hs hxx h0 hple
      have q1 : (((p + 1 : Nat) : Int) == 0) = false := by rw [beq_eq_false_iff_ne]; omega
      have q2 : ((p : Int) + 1 == 0) = false := by rw [beq_eq_false_iff_ne]; omega
      have q3 : IntKind.i64.wrap (((p + 1 : Nat) : Int) - 1) = (p : Int) := by rw [IntKind.wrap_i64]; omega
      have hI : (p : Int) < (xs.length : Int) := by omega
      obtain ⟨n, hnn⟩ : ∃ n, xs.length = n := ⟨_, rfl⟩
      have hixn : p < n := by omega
      rw [hnn] at J1 J2 hI hn x4 ⊢
      clear hnn
      go_enter Try.func13, Try.ntmps13
      go_wp2_with fail
      refine (J1.out _ (alloc_below _ _)).mono ?_
      rintro e w1 ⟨rfl, hb⟩
      have HB := Lib.hid ((alloc_below w (.cells #[.string ⟨#[]⟩, .string ⟨#[]⟩] 31)).trans (hb.mono (by simp)))
      have HR := Lib.hid ((Row2.new w 31 (.string ⟨#[]⟩) (.string ⟨#[]⟩)).below hb (Nat.le_refl _))
      clear hb J1
      go_wp2_with fail
      refine (J2.out _ HB.out).mono ?_
      rintro e w2 ⟨rfl, hb⟩
      have HB2 := Lib.hid (eb_of HB.out hb (Nat.le_refl _))
      have HR := Lib.hid (HR.out.below hb (Nat.le_refl _))
      clear hb J2
      have r0 := HR.out.c0
      have r1 := HR.out.c1
      have z0 := HR.out.fz 0
      have z1 := HR.out.fz 1
      rcases HF.out.below HB2.out (Nat.le_refl _) with h0 | ⟨b, off, rfl, hbl, hc⟩
      · rw [h0] at hix; simp at hix
      obtain ⟨g0, g1⟩ := hc p hix
      rw [HX.out] at g0 g1
      simp only at g0 g1
      clear hc
      go_wp2_with fail
      have k0 : ((w2.setCell ⟨w.heap.size, 0, none⟩ (.string xk)).setCell ⟨w.heap.size, 1, none⟩ (.string xv)).cell? ⟨w.heap.size, 0, none⟩ = some (.string xk) := (HR.out.set (u0 := .string xk) (u1 := .string xv)).c0
      have k1 : ((w2.setCell ⟨w.heap.size, 0, none⟩ (.string xk)).setCell ⟨w.heap.size, 1, none⟩ (.string xv)).cell? ⟨w.heap.size, 1, none⟩ = some (.string xv) := (HR.out.set (u0 := .string xk) (u1 := .string xv)).c1
      refine bodyPost_ret (v := .tuple #[.agg #[.string xk, .string xv], .int .i64 0]) (by simp [results, Try.f13, go_sem, k0, k1]) rfl ?_
      exact ⟨by (rw [HE.out]) <;> rfl, set2_below HB2.out (Nat.le_refl _) _ _⟩

set_option maxRecDepth 100000 in
set_option maxHeartbeats 2000000 in
theorem ceil_any (A : Option Addr) (c : Nat) (xs : List Pr) (key : ByteArray) (w : World) (hf : PsAt w A xs) (hn : xs.length ≤ 4294967295) (hs : SizedP xs) (hk : key.size ≤ 9223372036854775807) :
    Calls Try.prog 15 #[.slice A xs.length c, .string key] w fun e w' => e = .returned (.tuple #[.agg #[.string (ceilE xs key).2.1, .string (ceilE xs key).2.2], .int .i64 (ceilE xs key).1]) ∧ Below w.heap.size w w' := by
  have J1 := Lib.hid (fun w1 (h : Below w.heap.size w w1) => ask_any A c xs key w1 (hf.below h (Nat.le_refl _)) hn hs hk)
  by_cases he : askE xs key = 0
  rotate_left
  · have HE : Hid (ceilE xs key = (askE xs key, noneP)) := Lib.hid (if_pos he)
    obtain ⟨b1, b2⟩ := ne_b he
    clear he hf hs
    generalize askE xs key = r at *
    generalize xs.length = n at *
    go_enter Try.func15, Try.ntmps15
    go_wp2_with fail
    refine (J1.out _ (alloc_below _ _)).mono ?_
    rintro e w1 ⟨rfl, hb⟩
    have HB := Lib.hid ((alloc_below w (.cells #[.string ⟨#[]⟩, .string ⟨#[]⟩] 31)).trans (hb.mono (by simp)))
    have HR := Lib.hid ((Row2.new w 31 (.string ⟨#[]⟩) (.string ⟨#[]⟩)).below hb (Nat.le_refl _))
    clear hb J1
    have r0 := HR.out.c0
    have r1 := HR.out.c1
    have z0 := HR.out.fz 0
    have z1 := HR.out.fz 1
    go_wp2_with fail
    have k0 : ((w1.setCell ⟨w.heap.size, 0, none⟩ (.string ⟨#[]⟩)).setCell ⟨w.heap.size, 1, none⟩ (.string ⟨#[]⟩)).cell? ⟨w.heap.size, 0, none⟩ = some (.string ⟨#[]⟩) := (HR.out.set (u0 := .string ⟨#[]⟩) (u1 := .string ⟨#[]⟩)).c0
    have k1 : ((w1.setCell ⟨w.heap.size, 0, none⟩ (.string ⟨#[]⟩)).setCell ⟨w.heap.size, 1, none⟩ (.string ⟨#[]⟩)).cell? ⟨w.heap.size, 1, none⟩ = some (.string ⟨#[]⟩) := (HR.out.set (u0 := .string ⟨#[]⟩) (u1 := .string ⟨#[]⟩)).c1
    refine bodyPost_ret (v := .tuple #[.agg #[.string ⟨#[]⟩, .string ⟨#[]⟩], .int .i64 r]) (by simp [results, Try.f15, go_sem, k0, k1]) rfl ?_
    exact ⟨by (rw [HE.out]) <;> rfl, set2_below HB.out (Nat.le_refl _) _ _⟩

  obtain ⟨e1, e2⟩ := askE_ok he
  obtain ⟨x4, xz, xs'⟩ := map_ok e1
  have J2 := Lib.hid (fun w1 (h : Below w.heap.size w w1) => place_any A c xs key w1 (hf.below h (Nat.le_refl _)) (Nat.le_trans x4 (by decide)) xz xs' e2)
  rw [he] at J1
  have HF := Lib.hid hf
  have hple := posP_le key xs
  by_cases h0 : posP key xs = xs.length
  · have HE : Hid (ceilE xs key = (4, noneP)) := Lib.hid (by
      unfold ceilE
      rw [if_neg (by rw [he]; simp), if_pos h0])
    rw [h0] at J2
    clear he e1 e2 xz xs' hf hs h0 hple
    generalize xs.length = n at *
    generalize hasP key xs = q at *
    go_enter Try.func15, Try.ntmps15
    go_wp2_with fail
    refine (J1.out _ (alloc_below _ _)).mono ?_
    rintro e w1 ⟨rfl, hb⟩
    have HB := Lib.hid ((alloc_below w (.cells #[.string ⟨#[]⟩, .string ⟨#[]⟩] 31)).trans (hb.mono (by simp)))
    have HR := Lib.hid ((Row2.new w 31 (.string ⟨#[]⟩) (.string ⟨#[]⟩)).below hb (Nat.le_refl _))
    clear hb J1
    go_wp2_with fail
    refine (J2.out _ HB.out).mono ?_
    rintro e w2 ⟨rfl, hb⟩
    have HB2 := Lib.hid (eb_of HB.out hb (Nat.le_refl _))
    have HR := Lib.hid (HR.out.below hb (Nat.le_refl _))
    clear hb J2
    have r0 := HR.out.c0
    have r1 := HR.out.c1
    have z0 := HR.out.fz 0
    have z1 := HR.out.fz 1
    go_wp2_with fail
    have k0 : ((w2.setCell ⟨w.heap.size, 0, none⟩ (.string ⟨#[]⟩)).setCell ⟨w.heap.size, 1, none⟩ (.string ⟨#[]⟩)).cell? ⟨w.heap.size, 0, none⟩ = some (.string ⟨#[]⟩) := (HR.out.set (u0 := .string ⟨#[]⟩) (u1 := .string ⟨#[]⟩)).c0
    have k1 : ((w2.setCell ⟨w.heap.size, 0, none⟩ (.string ⟨#[]⟩)).setCell ⟨w.heap.size, 1, none⟩ (.string ⟨#[]⟩)).cell? ⟨w.heap.size, 1, none⟩ = some (.string ⟨#[]⟩) := (HR.out.set (u0 := .string ⟨#[]⟩) (u1 := .string ⟨#[]⟩)).c1
    refine bodyPost_ret (v := .tuple #[.agg #[.string ⟨#[]⟩, .string ⟨#[]⟩], .int .i64 4]) (by simp [results, Try.f15, go_sem, k0, k1]) rfl ?_
    exact ⟨by (rw [HE.out]) <;> rfl, set2_below HB2.out (Nat.le_refl _) _ _⟩

  · obtain ⟨p, hp⟩ : ∃ p, posP key xs = p := ⟨_, rfl⟩
    have hix : p < xs.length := by omega
    obtain ⟨⟨xk, xv⟩, hxx⟩ : ∃ x, xs[p] = x := ⟨_, rfl⟩
    have HE : Hid (ceilE xs key = (0, (xk, xv))) := Lib.hid (by
      unfold ceilE
      rw [if_neg (by rw [he]; simp), if_neg h0, hp, List.getD_eq_getElem?_getD, List.getElem?_eq_getElem hix, hxx]; try rfl)
    rw [hp] at J2 hple
    have hI : (p : Int) < (xs.length : Int) := by omega
    have hI2 : ((p : Int) == (xs.length : Int)) = false := by rw [beq_eq_false_iff_ne]; omega
    have HX := Lib.hid hxx
    clear hp he e1 e2 xz xs' hf hs hxx h0
    generalize hasP key xs = q at *
    obtain ⟨n, hnn⟩ : ∃ n, xs.length = n := ⟨_, rfl⟩
    rw [hnn] at J1 J2 hI hI2 hple hn x4 ⊢
    clear hnn
    go_enter Try.func15, Try.ntmps15
    go_wp2_with fail
    refine (J1.out _ (alloc_below _ _)).mono ?_
    rintro e w1 ⟨rfl, hb⟩
    have HB := Lib.hid ((alloc_below w (.cells #[.string ⟨#[]⟩, .string ⟨#[]⟩] 31)).trans (hb.mono (by simp)))
    have HR := Lib.hid ((Row2.new w 31 (.string ⟨#[]⟩) (.string ⟨#[]⟩)).below hb (Nat.le_refl _))
    clear hb J1
    go_wp2_with fail
    refine (J2.out _ HB.out).mono ?_
    rintro e w2 ⟨rfl, hb⟩
    have HB2 := Lib.hid (eb_of HB.out hb (Nat.le_refl _))
    have HR := Lib.hid (HR.out.below hb (Nat.le_refl _))
    clear hb J2
    have r0 := HR.out.c0
    have r1 := HR.out.c1
    have z0 := HR.out.fz 0
    have z1 := HR.out.fz 1
    rcases HF.out.below HB2.out (Nat.le_refl _) with h0 | ⟨b, off, rfl, hbl, hc⟩
    · rw [h0] at hix; simp at hix
    obtain ⟨g0, g1⟩ := hc p hix
    rw [HX.out] at g0 g1
    simp only at g0 g1
    clear hc
    go_wp2_with fail
    have k0 : ((w2.setCell ⟨w.heap.size, 0, none⟩ (.string xk)).setCell ⟨w.heap.size, 1, none⟩ (.string xv)).cell? ⟨w.heap.size, 0, none⟩ = some (.string xk) := (HR.out.set (u0 := .string xk) (u1 := .string xv)).c0
    have k1 : ((w2.setCell ⟨w.heap.size, 0, none⟩ (.string xk)).setCell ⟨w.heap.size, 1, none⟩ (.string xv)).cell? ⟨w.heap.size, 1, none⟩ = some (.string xv) := (HR.out.set (u0 := .string xk) (u1 := .string xv)).c1
    refine bodyPost_ret (v := .tuple #[.agg #[.string xk, .string xv], .int .i64 0]) (by simp [results, Try.f15, go_sem, k0, k1]) rfl ?_
    exact ⟨by (rw [HE.out]) <;> rfl, set2_below HB2.out (Nat.le_refl _) _ _⟩

end Go.Proofs.Ytbgpcmpbfenplaa.KK
