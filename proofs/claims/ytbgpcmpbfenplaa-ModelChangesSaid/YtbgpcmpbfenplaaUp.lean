/-
  Get of a plain map, on both sides.
-/
import Derived.Test.YtbgpcmpbfenplaaUo
namespace Go.Proofs.Ytbgpcmpbfenplaa.KK
open Go.ChangeShapes Go.WideShapes Go.ChangeAt Go.RowKit Go.Proofs

/-- what Get answers -/
def getE (xs : List Pr) (key : ByteArray) : Int × ByteArray :=
  if askE xs key ≠ 0 then (askE xs key, ⟨#[]⟩) else if hasP key xs = true then (0, (xs.getD (posP key xs) noneP).2) else (4, ⟨#[]⟩)
theorem getE_ask {xs : List Pr} {key : ByteArray} (h : askE xs key ≠ 0) : getE xs key = (askE xs key, ⟨#[]⟩) := if_pos h
theorem getE_no {xs : List Pr} {key : ByteArray} (h : askE xs key = 0) (g : hasP key xs = false) : getE xs key = (4, ⟨#[]⟩) := by
  unfold getE; rw [if_neg (by rw [h]; simp), if_neg (by rw [g]; simp)]
theorem getE_yes {xs : List Pr} {key : ByteArray} {p : Nat} (h : askE xs key = 0) (g : hasP key xs = true) (hp : posP key xs = p) (hx : p < xs.length) : getE xs key = (0, xs[p].2) := by
  unfold getE; rw [if_neg (by rw [h]; simp), if_pos g, hp, List.getD_eq_getElem?_getD, List.getElem?_eq_getElem hx]; rfl
theorem retG {p : Int × ByteArray} {a : Int} {s : ByteArray} (h : p = (a, s)) : Ending.returned (.tuple #[.string s, .int .i64 a]) = .returned (.tuple #[.string p.2, .int .i64 p.1]) := by rw [h]
set_option maxRecDepth 100000 in
set_option maxHeartbeats 2000000 in
theorem get_any (A : Option Addr) (c : Nat) (xs : List Pr) (key : ByteArray) (w : World) (hf : PsAt w A xs) (hn : xs.length ≤ 4294967295) (hs : SizedP xs) (hk : key.size ≤ 9223372036854775807) :
    Calls Try.prog 11 #[.slice A xs.length c, .string key] w fun e w' => e = .returned (.tuple #[.string (getE xs key).2, .int .i64 (getE xs key).1]) ∧ Below w.heap.size w w' := by
  have J1 := Lib.hid (ask_any A c xs key w hf hn hs hk)
  by_cases he : askE xs key = 0
  rotate_left
  · have HE := Lib.hid (getE_ask he)
    obtain ⟨b1, b2⟩ := ne_b he
    clear he hf hs
    generalize askE xs key = r at *
    go_enter Try.func11, Try.ntmps11
    go_wp2_with fail
    refine J1.out.mono ?_
    rintro e w1 ⟨rfl, hb⟩
    have HB := Lib.hid hb
    clear hb J1
    go_wp2_with fail
    go_ret2
    exact ⟨retG HE.out, HB.out⟩
  obtain ⟨e1, e2⟩ := askE_ok he
  obtain ⟨x4, xz, xs'⟩ := map_ok e1
  have J2 := Lib.hid (fun w1 (h : Below w.heap.size w w1) => place_any A c xs key w1 (hf.below h (Nat.le_refl _)) (Nat.le_trans x4 (by decide)) xz xs' e2)
  have HF := Lib.hid hf
  cases hq : hasP key xs with
  | false =>
    have HE := Lib.hid (getE_no he hq)
    rw [hq] at J2
    rw [he] at J1
    clear he hf hs e1 e2 xz xs' hq
    generalize posP key xs = p at *
    go_enter Try.func11, Try.ntmps11
    go_wp2_with fail
    refine J1.out.mono ?_
    rintro e w1 ⟨rfl, hb⟩
    have HB := Lib.hid hb
    clear hb J1
    go_wp2_with fail
    refine (J2.out _ HB.out).mono ?_
    rintro e w2 ⟨rfl, hb⟩
    have HB2 := Lib.hid (eb_of HB.out hb (Nat.le_refl _))
    clear hb J2
    go_wp2_with fail
    go_ret2
    exact ⟨retG HE.out, HB2.out⟩
  | true =>
    have hix := hasP_lt hq
    obtain ⟨p, hp⟩ : ∃ p, posP key xs = p := ⟨_, rfl⟩
    rw [hp] at hix
    have HE := Lib.hid (getE_yes he hq hp hix)
    rw [hq, hp] at J2
    rw [he] at J1
    have hI : (p : Int) < (xs.length : Int) := by omega
    have HIX := Lib.hid hix
    clear he hf hs e1 e2 xz xs' hq hp
    obtain ⟨n, hnn⟩ : ∃ n, xs.length = n := ⟨_, rfl⟩
    rw [hnn] at J1 J2 hI hn x4 hix ⊢
    clear hnn
    go_enter Try.func11, Try.ntmps11
    go_wp2_with fail
    refine J1.out.mono ?_
    rintro e w1 ⟨rfl, hb⟩
    have HB := Lib.hid hb
    clear hb J1
    go_wp2_with fail
    refine (J2.out _ HB.out).mono ?_
    rintro e w2 ⟨rfl, hb⟩
    have HB2 := Lib.hid (eb_of HB.out hb (Nat.le_refl _))
    clear hb J2
    rcases HF.out.below HB2.out (Nat.le_refl _) with h0 | ⟨b, off, rfl, hbl, hc⟩
    · have := HIX.out; rw [h0] at this; simp at this
    obtain ⟨_, g1⟩ := hc p HIX.out
    clear hc
    generalize xs[p].2 = xv at *
    go_wp2_with fail
    go_ret2
    exact ⟨retG HE.out, HB2.out⟩
theorem ceilE_ask {xs : List Pr} {key : ByteArray} (h : askE xs key ≠ 0) : ceilE xs key = (askE xs key, noneP) := if_pos h
theorem ceilE_end {xs : List Pr} {key : ByteArray} (h : askE xs key = 0) (g : posP key xs = xs.length) : ceilE xs key = (4, noneP) := by
  unfold ceilE; rw [if_neg (by rw [h]; simp), if_pos g]
theorem ceilE_at {xs : List Pr} {key : ByteArray} {p : Nat} (h : askE xs key = 0) (hp : posP key xs = p) (hx : p < xs.length) : ceilE xs key = (0, xs[p]) := by
  unfold ceilE; rw [if_neg (by rw [h]; simp), if_neg (by omega), hp, List.getD_eq_getElem?_getD, List.getElem?_eq_getElem hx]; rfl
set_option maxRecDepth 100000 in
set_option maxHeartbeats 2000000 in
theorem rGet_any (A : Option Addr) (c : Nat) (xs : List Pr) (key : ByteArray) (w : World) (hf : PsAt w A xs) (hn : xs.length ≤ 4294967295) (hs : SizedP xs) (hk : key.size ≤ 9223372036854775807) :
    Calls Try.prog 12 #[.slice A xs.length c, .string key] w fun e w' => e = .returned (.tuple #[.string (getE xs key).2, .int .i64 (getE xs key).1]) ∧ Below w.heap.size w w' := by
  have K := rCeil_any A c xs key w hf hn hs hk
  by_cases he : askE xs key = 0
  rotate_left
  · have HE := Lib.hid (getE_ask he)
    rw [ceilE_ask he] at K
    have J := Lib.hid K
    obtain ⟨b1, b2⟩ := ne_b he
    clear he hf hs K
    generalize askE xs key = r at *
    unfold noneP at J
    go_enter Try.func12, Try.ntmps12
    go_wp2_with fail
    refine J.out.mono ?_
    rintro e w1 ⟨rfl, hb⟩
    have HB := Lib.hid (eb_of hb (alloc_below w1 (.cells #[.string ⟨#[]⟩, .string ⟨#[]⟩] 31)) (Nat.le_refl _))
    clear hb J
    go_wp2_with fail
    go_ret2
    exact ⟨retG HE.out, HB.out⟩
  by_cases hp0 : posP key xs = xs.length
  · have hq : hasP key xs = false := by unfold hasP; rw [hp0, List.getElem?_eq_none (Nat.le_refl _)]
    have HE := Lib.hid (getE_no he hq)
    rw [ceilE_end he hp0] at K
    have J := Lib.hid K
    clear he hf hs K hq hp0
    unfold noneP at J
    go_enter Try.func12, Try.ntmps12
    go_wp2_with fail
    refine J.out.mono ?_
    rintro e w1 ⟨rfl, hb⟩
    have HB := Lib.hid (eb_of hb (alloc_below w1 (.cells #[.string ⟨#[]⟩, .string ⟨#[]⟩] 31)) (Nat.le_refl _))
    clear hb J
    go_wp2_with fail
    go_ret2
    exact ⟨retG HE.out, HB.out⟩
  obtain ⟨p, hp⟩ : ∃ p, posP key xs = p := ⟨_, rfl⟩
  have hix : p < xs.length := by have := posP_le key xs; omega
  rw [ceilE_at he hp hix] at K
  have J := Lib.hid K
  clear K hp0
  cases hq : hasP key xs with
  | true =>
    have HE := Lib.hid (getE_yes he hq hp hix)
    have hkey := hasP_eq hq hp hix
    rw [hkey] at J
    clear he hf hs hq hp hkey
    generalize xs[p].2 = xv at *
    go_enter Try.func12, Try.ntmps12
    go_wp2_with fail
    refine J.out.mono ?_
    rintro e w1 ⟨rfl, hb⟩
    have HR := Row2.new w1 31 (.string key) (.string xv)
    have r0 := HR.c0
    have r1 := HR.c1
    have HB := Lib.hid (eb_of hb (alloc_below w1 (.cells #[.string key, .string xv] 31)) (Nat.le_refl _))
    clear hb J HR
    go_wp2_with fail
    go_ret2
    exact ⟨retG HE.out, HB.out⟩
  | false =>
    have HE := Lib.hid (getE_no he hq)
    have hne := hasP_ne hq hp hix
    clear he hf hs hq hp
    generalize xs[p].2 = xv at *
    generalize xs[p].1 = xk at *
    have hn1 := str_ne hne
    have hn2 := str_beq_ne hne
    clear hne
    go_enter Try.func12, Try.ntmps12
    go_wp2_with fail
    refine J.out.mono ?_
    rintro e w1 ⟨rfl, hb⟩
    have HR := Row2.new w1 31 (.string xk) (.string xv)
    have r0 := HR.c0
    have r1 := HR.c1
    have HB := Lib.hid (eb_of hb (alloc_below w1 (.cells #[.string xk, .string xv] 31)) (Nat.le_refl _))
    clear hb J HR
    go_wp2_with fail
    go_ret2
    exact ⟨retG HE.out, HB.out⟩
end Go.Proofs.Ytbgpcmpbfenplaa.KK
