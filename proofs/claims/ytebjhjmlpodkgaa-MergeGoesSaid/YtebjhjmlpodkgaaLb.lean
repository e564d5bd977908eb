/-
  Trees of losers: who wins; the order's function, the chooser's.
-/
import Derived.Test.YtebjhjmlpodkgaaLa
import Derived.Test.YtebjhjmlpodkgaaShelf
import Derived.Deep.RegionHeld3
import Derived.Deep.QuietTactic
namespace Go.Proofs.Ytebjhjmlpodkgaa.KK
open Go.ChangeShapes Go.WideShapes Go.ChangeAt Go.RowKit Go.Proofs

theorem compareBytes_ord : ∀ a b : List UInt8, Lib.compareBytes a b = Kl.ord a b
  | [], [] => by simp [Lib.compareBytes, Kl.ord, Kl.lt]
  | [], _ :: _ => by simp [Lib.compareBytes, Kl.ord, Kl.lt]
  | _ :: _, [] => by simp [Lib.compareBytes, Kl.ord, Kl.lt]
  | x :: a, y :: b => by
    unfold Lib.compareBytes Kl.ord
    by_cases h : x < y
    · rw [if_pos h, Kl.lt_less _ _ (UInt8.lt_iff_toNat_lt.1 h)]; rfl
    · rw [if_neg h]
      by_cases g : y < x
      · rw [if_pos g, Kl.lt_more _ _ (UInt8.lt_iff_toNat_lt.1 g), Kl.lt_less _ _ (UInt8.lt_iff_toNat_lt.1 g)]; rfl
      · rw [if_neg g]
        have : x = y := Kl.toNat_inj (by have h1 := mt UInt8.lt_iff_toNat_lt.2 h; have h2 := mt UInt8.lt_iff_toNat_lt.2 g; omega)
        subst this
        rw [Kl.lt_same, Kl.lt_same, compareBytes_ord a b]; rfl

/-- the key of a player -/
def kAt (ks : List LK) (p : Nat) : LK := ks.getD p (⟨#[]⟩, false)
theorem kAt_lt {ks : List LK} {p : Nat} (h : p < ks.length) : kAt ks p = ks[p] := by simp [kAt, h]
/-- how two players compare -/
def cf (ks : List LK) (p q : Nat) : Int :=
  if (kAt ks p).2 = (kAt ks q).2 then (if Kl.ord (Kl.L (kAt ks p).1) (Kl.L (kAt ks q).1) = 0 then Lib.compareInt p q else Kl.ord (Kl.L (kAt ks p).1) (Kl.L (kAt ks q).1))
  else if (kAt ks q).2 then -1 else 1

theorem cellN {w : World} {vs : Array Value} {t : TypeId} {b i : Nat} {v : Value} (hb : b = w.heap.size) (h : vs[i]? = some v) : (w.alloc (.cells vs t)).cell? ⟨b, i, none⟩ = some v := by
  subst hb; exact (cell_of_row _ _ i _ _ _ (heap_alloc_new w _)).trans h
theorem grow_below (w : World) (n : Nat) (os : Array Obj) : Below w.heap.size w (Sort.grow (w.drewN n) os) :=
  ⟨rfl, rfl, rfl, by simp, fun k hk => by rw [Sort.heap_grow_old _ _ (by exact hk)]; rfl⟩
theorem grown_alloc {w w' : World} (h : ∃ n os, w' = Sort.grow (w.drewN n) os) (o : Obj) : ∃ n os, w'.alloc o = Sort.grow (w.drewN n) os := by
  obtain ⟨n, os, rfl⟩ := h; exact ⟨n, os ++ #[o], by rw [Sort.alloc_eq_grow, Sort.grow_grow]⟩
theorem grown_drew {w w' : World} (h : ∃ n os, w' = Sort.grow (w.drewN n) os) (k : Nat) : ∃ n os, w'.drewN k = Sort.grow (w.drewN n) os := by
  obtain ⟨n, os, rfl⟩ := h; exact ⟨n + k, os, by rw [← World.drewN_drewN]; rfl⟩
theorem grown_refl (w : World) : ∃ n os, w = Sort.grow (w.drewN n) os := ⟨0, #[], by simp; rfl⟩

set_option maxRecDepth 100000 in
set_option maxHeartbeats 2000000 in
theorem order1_any (kb : Nat) (A : Option Addr) (c : Nat) (ks : List LK) (p q : Nat) (hp : p < ks.length) (hq : q < ks.length) (w : World)
    (hk : w.cell? ⟨kb, 0, none⟩ = some (.slice A ks.length c)) (hf : KsAt w A ks) (hn : ks.length ≤ 4294967295) :
    Calls Try.prog 120 #[.int .i64 p, .int .i64 q, .pointer (some ⟨kb, 0, none⟩)] w fun e w' => e = .returned (.int .i64 (cf ks p q)) ∧ ∃ n os, w' = Sort.grow (w.drewN n) os := by
  rcases hf with h0 | ⟨b, off, rfl, hbl, hc⟩
  · subst h0; simp at hp
  obtain ⟨g0, g1⟩ := hc p hp
  obtain ⟨k0, k1⟩ := hc q hq
  have hkb := cell_lt hk
  have HV : Hid (cf ks p q = if ks[p].2 = ks[q].2 then (if Kl.ord (Kl.L ks[p].1) (Kl.L ks[q].1) = 0 then Lib.compareInt p q else Kl.ord (Kl.L ks[p].1) (Kl.L ks[q].1)) else if ks[q].2 then -1 else 1) := Lib.hid (by
    unfold cf; rw [kAt_lt hp, kAt_lt hq])
  generalize cf ks p q = r at *
  clear hc
  generalize ks[p] = x at *
  generalize ks[q] = y at *
  obtain ⟨x1, x2⟩ := x
  obtain ⟨y1, y2⟩ := y
  have hlp : (p : Int) < (ks.length : Int) := by omega
  have hlq : (q : Int) < (ks.length : Int) := by omega
  generalize ks.length = n at *
  have JS := Lib.hid (fun w => Try.strings_Compare x1 y1 w)
  have JC := Lib.hid (fun w => Try.cmp_Compare_int p q w)
  rw [compareBytes_ord] at JS
  have HV : Hid (r = if x2 = y2 then (if Kl.ord (Kl.L x1) (Kl.L y1) = 0 then Lib.compareInt p q else Kl.ord (Kl.L x1) (Kl.L y1)) else if y2 then -1 else 1) := HV
  rw [show x1.data.toList = Kl.L x1 from rfl, show y1.data.toList = Kl.L y1 from rfl] at JS
  generalize Kl.ord (Kl.L x1) (Kl.L y1) = r1 at *
  generalize Lib.compareInt p q = r2 at *
  go_enter Try.func120, Try.ntmps120
  go_wp2_with fail
  go_region_held3 (fun w' => w'.cell? ⟨kb, 0, none⟩ = some (.slice (some ⟨b, off, none⟩) n c) ∧ w'.cell? ⟨b, off + p * 2, none⟩ = some (.string x1) ∧ w'.cell? ⟨b, off + p * 2 + 1, none⟩ = some (.bool x2) ∧ w'.cell? ⟨b, off + q * 2, none⟩ = some (.string y1) ∧ w'.cell? ⟨b, off + q * 2 + 1, none⟩ = some (.bool y2))
    (first
      | go_keep
      | exact ⟨hk, g0, g1, k0, k1⟩)
    (fail)
  all_goals
    cases x2 <;> cases y2
    case false.true =>
      go_wp2_with fail
      go_ret
      exact ⟨retI (by rw [HV.out]; rfl), by first | exact grown_drew (grown_alloc (grown_alloc (grown_refl _) _) _) 1⟩
    case true.false =>
      go_wp2_with fail
      go_ret
      exact ⟨retI (by rw [HV.out]; rfl), by first | exact grown_drew (grown_alloc (grown_alloc (grown_refl _) _) _) 1⟩
    all_goals
      go_wp2_with fail
      refine (JS.out _).mono ?_
      rintro e w2 ⟨rfl, rfl⟩
      go_wp2_with fail
      refine (JC.out _).mono ?_
      rintro e w2 ⟨rfl, rfl⟩
      go_wp2_with fail
      refine (or_any _ _ r1 r2 _ (by exact cellN (by simp) rfl) (by exact cellN (by simp) rfl)).mono ?_
      rintro e w2 ⟨rfl, rfl⟩
      go_wp2_with fail
      all_goals
        go_ret
        exact ⟨retI (by have h := HV.out; simp at h; rw [h]; first | rfl | rw [if_pos (by assumption)] | rw [if_neg (by assumption)]), by first | exact grown_drew (grown_alloc (grown_alloc (grown_alloc (grown_refl _) _) _) _) 1⟩
end Go.Proofs.Ytebjhjmlpodkgaa.KK
