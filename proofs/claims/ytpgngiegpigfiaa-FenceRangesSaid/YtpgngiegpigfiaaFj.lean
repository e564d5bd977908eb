/-
  Fences: Fits and Size, on both sides.
-/
import Derived.Test.YtpgngiegpigfiaaFi
namespace Go.Proofs.Ytpgngiegpigfiaa.KK
open Go.ChangeShapes Go.WideShapes Go.ChangeAt Go.RowKit Go.Proofs

def bothE (s : Int) (ms : List ByteArray) (xs : List El.En) : Int := if (chkF s ms).2 ≠ 0 then (chkF s ms).2 else (listE xs).2
theorem bothE_no {s : Int} {ms : List ByteArray} {xs : List El.En} (h : (chkF s ms).2 ≠ 0) : bothE s ms xs = (chkF s ms).2 := if_pos h
theorem bothE_ok {s : Int} {ms : List ByteArray} {xs : List El.En} (h : (chkF s ms).2 = 0) : bothE s ms xs = (listE xs).2 := if_neg (by rw [h]; simp)
theorem bothE_zero {s : Int} {ms : List ByteArray} {xs : List El.En} (h : bothE s ms xs = 0) : (chkF s ms).2 = 0 ∧ (listE xs).2 = 0 := by
  by_cases g : (chkF s ms).2 = 0
  · rw [bothE_ok g] at h; exact ⟨g, h⟩
  · rw [bothE_no g] at h; exact absurd h g
def fitsR (s : Int) (ms : List ByteArray) (xs : List El.En) : Bool × Int := if bothE s ms xs ≠ 0 then (false, bothE s ms xs) else (fitsF s.toNat ms xs, 0)
theorem fitsR_no {s : Int} {ms : List ByteArray} {xs : List El.En} (h : bothE s ms xs ≠ 0) : fitsR s ms xs = (false, bothE s ms xs) := if_pos h
theorem fitsR_ok {s : Int} {ms : List ByteArray} {xs : List El.En} (h : bothE s ms xs = 0) : fitsR s ms xs = (fitsF s.toNat ms xs, 0) := if_neg (by rw [h]; simp)
theorem retF {a c : Bool} {b d : Int} {p : Bool × Int} (h : p = (a, b)) (g : a = c) (k : b = d) : Ending.returned (.tuple #[.bool c, .int .i64 d]) = .returned (.tuple #[.bool p.1, .int .i64 p.2]) := by rw [h, g, k]
theorem retZ {a b : Int} {p : Int × Int} (h : p = (a, b)) : Ending.returned (.tuple #[.int .i64 a, .int .i64 b]) = .returned (.tuple #[.int .i64 p.1, .int .i64 p.2]) := by rw [h]
/-- what both checks leave -/
structure Pair (st : Nat) (ms : List ByteArray) (xs : List El.En) : Prop where
  lo : 1 ≤ st
  hi : st ≤ 64
  good : Good (st : Int) ms
  len : xs.length ≤ 5000
  chk : ∀ x ∈ xs, El.chk x = 0
  asc : SK xs
theorem pair_of {s : Int} {ms : List ByteArray} {xs : List El.En} (h : bothE s ms xs = 0) : ∃ st : Nat, s = (st : Int) ∧ Pair st ms xs := by
  obtain ⟨h1, h2⟩ := bothE_zero h
  obtain ⟨g, _⟩ := chkF_good h1
  obtain ⟨a1, a2, a3⟩ := list_ok h2
  have := g.step
  exact ⟨s.toNat, by omega, by omega, by omega, by rw [show ((s.toNat : Nat) : Int) = s by omega]; exact g, a1, a2, a3⟩
theorem Pair.key {st : Nat} {ms : List ByteArray} {xs : List El.En} (h : Pair st ms xs) : ∀ x ∈ xs, x.1.size ≤ 32 := fun x hx => (El.chk_of (h.chk x hx)).1
set_option maxRecDepth 100000 in
set_option maxHeartbeats 1000000 in
theorem checkBoth7_any (s : Int) (A : Option Addr) (c : Nat) (ms : List ByteArray) (B : Option Addr) (d : Nat) (xs : List El.En) (w : World) (hf : SsAt w A ms) (hg : EsAt w B xs) (hn : ms.length ≤ 4294967295) (hm : xs.length ≤ 4294967295) (hs : SizedS ms) (ht : Sized xs) :
    Calls Try.prog 42 #[.agg #[.int .i64 s, .slice A ms.length c], .slice B xs.length d] w fun e w' => e = .returned (.int .i64 (bothE s ms xs)) ∧ Below w.heap.size w w' := by
  have HX := boxF s A ms.length c w
  obtain ⟨x0, x1, x2, x3⟩ := HX.out _ (Below.refl _ _)
  have HB := Lib.hid x3
  have J1 := Lib.hid (fun w1 (h : Below w.heap.size w w1) => pCheck7_any s A c ms w1 (hf.below h (Nat.le_refl _)) hn hs)
  have J2 := Lib.hid (fun w1 (h : Below w.heap.size w w1) => eList_any B d xs w1 (hg.below h (Nat.le_refl _)) hm ht)
  clear hf hg hs ht x3
  by_cases h : (chkF s ms).2 = 0
  · have HL := Lib.hid (bothE_ok (xs := xs) h)
    rw [h] at J1
    generalize (chkF s ms).1 = r0 at *
    generalize (listE xs).1 = r1 at *
    generalize (listE xs).2 = r2 at *
    clear h
    go_enter Try.func42, Try.ntmps42
    go_wp2_with fail
    refine (J1.out _ HB.out).mono ?_
    rintro e w1 ⟨rfl, hb⟩
    have HB1 := Lib.hid (eb_of HB.out hb (by simp))
    clear hb
    go_wp2_with fail
    refine (J2.out _ HB1.out).mono ?_
    rintro e w2 ⟨rfl, hb⟩
    have HB2 := Lib.hid (eb_of HB1.out hb (Nat.le_refl _))
    clear hb
    go_wp2_with fail
    go_ret
    exact ⟨retI (by rw [HL.out]), HB2.out⟩
  · have HL := Lib.hid (bothE_no (xs := xs) h)
    obtain ⟨b1, b2⟩ := ne_b h
    generalize (chkF s ms).1 = r0 at *
    generalize (chkF s ms).2 = r at *
    clear h
    go_enter Try.func42, Try.ntmps42
    go_wp2_with fail
    refine (J1.out _ HB.out).mono ?_
    rintro e w1 ⟨rfl, hb⟩
    have HB1 := Lib.hid (eb_of HB.out hb (by simp))
    clear hb
    go_wp2_with fail
    go_ret
    exact ⟨retI (by rw [HL.out]), HB1.out⟩
set_option maxRecDepth 100000 in
set_option maxHeartbeats 1000000 in
theorem pFits7_any (s : Int) (A : Option Addr) (c : Nat) (ms : List ByteArray) (B : Option Addr) (d : Nat) (xs : List El.En) (w : World) (hf : SsAt w A ms) (hg : EsAt w B xs) (hn : ms.length ≤ 4294967295) (hm : xs.length ≤ 4294967295) (hs : SizedS ms) (ht : Sized xs) (hcap : xs.length ≤ d) :
    Calls Try.prog 15 #[.agg #[.int .i64 s, .slice A ms.length c], .slice B xs.length d] w fun e w' => e = .returned (.tuple #[.bool (fitsR s ms xs).1, .int .i64 (fitsR s ms xs).2]) ∧ Below w.heap.size w w' := by
  have HX := boxF s A ms.length c w
  obtain ⟨x0, x1, x2, x3⟩ := HX.out _ (Below.refl _ _)
  have HB := Lib.hid x3
  have J1 := Lib.hid (fun w1 (h : Below w.heap.size w w1) => checkBoth7_any s A c ms B d xs w1 (hf.below h (Nat.le_refl _)) (hg.below h (Nat.le_refl _)) hn hm hs ht)
  by_cases h : bothE s ms xs = 0
  · have HL := Lib.hid (fitsR_ok h)
    rw [h] at J1
    obtain ⟨st, rfl, P⟩ := pair_of h
    have J2 := Lib.hid (fun w1 (h : Below w.heap.size w w1) => pfits_any A c ms B d xs st w1 (hf.below h (Nat.le_refl _)) (hg.below h (Nat.le_refl _)) (by have := P.good.len; omega) P.good.key P.len P.key hcap P.hi P.lo)
    rw [show ((st : Nat) : Int).toNat = st by omega] at HL
    clear hf hg hs ht h P
    generalize fitsF st ms xs = r at *
    go_enter Try.func15, Try.ntmps15
    go_wp2_with fail
    refine (J1.out _ HB.out).mono ?_
    rintro e w1 ⟨rfl, hb⟩
    obtain ⟨y0, y1, y2, y3⟩ := HX.out _ hb
    have HB1 := Lib.hid y3
    clear hb
    go_wp2_with fail
    refine (J2.out _ HB1.out).mono ?_
    rintro e w2 ⟨rfl, hb⟩
    have HB2 := Lib.hid (eb_of HB1.out hb (Nat.le_refl _))
    clear hb
    go_wp2_with fail
    go_ret2
    exact ⟨retF HL.out rfl rfl, HB2.out⟩
  · have HL := Lib.hid (fitsR_no h)
    obtain ⟨b1, b2⟩ := ne_b h
    clear hf hg hs ht h
    generalize bothE s ms xs = r at *
    go_enter Try.func15, Try.ntmps15
    go_wp2_with fail
    refine (J1.out _ HB.out).mono ?_
    rintro e w1 ⟨rfl, hb⟩
    have HB1 := Lib.hid (eb_of HB.out hb (by simp))
    clear hb
    go_wp2_with fail
    go_ret2
    exact ⟨retF HL.out rfl rfl, HB1.out⟩
set_option maxRecDepth 100000 in
set_option maxHeartbeats 1000000 in
theorem rFits7_any (s : Int) (A : Option Addr) (c : Nat) (ms : List ByteArray) (B : Option Addr) (d : Nat) (xs : List El.En) (w : World) (hf : SsAt w A ms) (hg : EsAt w B xs) (hn : ms.length ≤ 4294967295) (hm : xs.length ≤ 4294967295) (hs : SizedS ms) (ht : Sized xs) (hcap : xs.length ≤ d) :
    Calls Try.prog 16 #[.agg #[.int .i64 s, .slice A ms.length c], .slice B xs.length d] w fun e w' => e = .returned (.tuple #[.bool (fitsR s ms xs).1, .int .i64 (fitsR s ms xs).2]) ∧ Below w.heap.size w w' := by
  have HX := boxF s A ms.length c w
  obtain ⟨x0, x1, x2, x3⟩ := HX.out _ (Below.refl _ _)
  have HB := Lib.hid x3
  have J1 := Lib.hid (fun w1 (h : Below w.heap.size w w1) => rCheck7_any s A c ms w1 (hf.below h (Nat.le_refl _)) hn hs)
  have J2 := Lib.hid (fun w1 (h : Below w.heap.size w w1) => fList_any B d xs w1 (hg.below h (Nat.le_refl _)) hm ht)
  by_cases h1 : (chkF s ms).2 = 0
  rotate_left
  · have HL := Lib.hid (fitsR_no (xs := xs) (by rw [bothE_no h1]; exact h1))
    rw [bothE_no h1] at HL
    obtain ⟨b1, b2⟩ := ne_b h1
    clear hf hg hs ht h1
    generalize (chkF s ms).1 = r0 at *
    generalize (chkF s ms).2 = r at *
    go_enter Try.func16, Try.ntmps16
    go_wp2_with fail
    refine (J1.out _ HB.out).mono ?_
    rintro e w1 ⟨rfl, hb⟩
    have HB1 := Lib.hid (eb_of HB.out hb (by simp))
    clear hb
    go_wp2_with fail
    go_ret2
    exact ⟨retF HL.out rfl rfl, HB1.out⟩
  rw [h1] at J1
  by_cases h2 : (listE xs).2 = 0
  rotate_left
  · have HL := Lib.hid (fitsR_no (s := s) (ms := ms) (xs := xs) (by rw [bothE_ok h1]; exact h2))
    rw [bothE_ok h1] at HL
    obtain ⟨b1, b2⟩ := ne_b h2
    clear hf hg hs ht h1 h2
    generalize (chkF s ms).1 = r0 at *
    generalize (listE xs).1 = r1 at *
    generalize (listE xs).2 = r at *
    go_enter Try.func16, Try.ntmps16
    go_wp2_with fail
    refine (J1.out _ HB.out).mono ?_
    rintro e w1 ⟨rfl, hb⟩
    obtain ⟨y0, y1, y2, y3⟩ := HX.out _ hb
    have HB1 := Lib.hid y3
    clear hb
    go_wp2_with fail
    refine (J2.out _ HB1.out).mono ?_
    rintro e w2 ⟨rfl, hb⟩
    have HB2 := Lib.hid (eb_of HB1.out hb (Nat.le_refl _))
    clear hb
    go_wp2_with fail
    go_ret2
    exact ⟨retF HL.out rfl rfl, HB2.out⟩
  · have h : bothE s ms xs = 0 := by rw [bothE_ok h1]; exact h2
    have HL := Lib.hid (fitsR_ok h)
    rw [h2] at J2
    obtain ⟨st, rfl, P⟩ := pair_of h
    have J3 := Lib.hid (fun w1 (h : Below w.heap.size w w1) => rfits_any A c ms B d xs st w1 (hf.below h (Nat.le_refl _)) (hg.below h (Nat.le_refl _)) (by have := P.good.len; omega) P.good.key P.len P.key hcap P.hi P.lo)
    rw [show ((st : Nat) : Int).toNat = st by omega] at HL
    clear hf hg hs ht h P h1 h2
    generalize (chkF (st : Int) ms).1 = r0 at *
    generalize (listE xs).1 = r1 at *
    generalize fitsF st ms xs = r at *
    go_enter Try.func16, Try.ntmps16
    go_wp2_with fail
    refine (J1.out _ HB.out).mono ?_
    rintro e w1 ⟨rfl, hb⟩
    obtain ⟨y0, y1, y2, y3⟩ := HX.out _ hb
    have HB1 := Lib.hid y3
    have HC := Lib.hid hb
    clear hb
    go_wp2_with fail
    refine (J2.out _ HB1.out).mono ?_
    rintro e w2 ⟨rfl, hb⟩
    obtain ⟨z0, z1, z2, z3⟩ := HX.out _ (eb_of HC.out hb (Nat.le_refl _))
    have HB2 := Lib.hid z3
    clear hb y0 y1 y2 y3
    go_wp2_with fail
    refine (J3.out _ HB2.out).mono ?_
    rintro e w3 ⟨rfl, hb⟩
    have HB3 := Lib.hid (eb_of HB2.out hb (Nat.le_refl _))
    clear hb
    go_wp2_with fail
    go_ret2
    exact ⟨retF HL.out rfl rfl, HB3.out⟩
def sizeE (s : Int) (ms : List ByteArray) : Int × Int := if (chkF s ms).2 ≠ 0 then (0, (chkF s ms).2) else (((sizeM ms : Nat) : Int), 0)
theorem sizeE_no {s : Int} {ms : List ByteArray} (h : (chkF s ms).2 ≠ 0) : sizeE s ms = (0, (chkF s ms).2) := if_pos h
theorem sizeE_ok {s : Int} {ms : List ByteArray} (h : (chkF s ms).2 = 0) : sizeE s ms = (((sizeM ms : Nat) : Int), 0) := if_neg (by rw [h]; simp)
set_option maxRecDepth 100000 in
set_option maxHeartbeats 1000000 in
theorem pSize7_any (s : Int) (A : Option Addr) (c : Nat) (ms : List ByteArray) (w : World) (hf : SsAt w A ms) (hn : ms.length ≤ 4294967295) (hs : SizedS ms) :
    Calls Try.prog 24 #[.agg #[.int .i64 s, .slice A ms.length c]] w fun e w' => e = .returned (.tuple #[.int .i64 (sizeE s ms).1, .int .i64 (sizeE s ms).2]) ∧ Below w.heap.size w w' := by
  have HX := boxF s A ms.length c w
  obtain ⟨x0, x1, x2, x3⟩ := HX.out _ (Below.refl _ _)
  have HB := Lib.hid x3
  have J1 := Lib.hid (fun w1 (h : Below w.heap.size w w1) => pCheck7_any s A c ms w1 (hf.below h (Nat.le_refl _)) hn hs)
  by_cases h1 : (chkF s ms).2 = 0
  rotate_left
  · have HL := Lib.hid (sizeE_no h1)
    obtain ⟨b1, b2⟩ := ne_b h1
    clear hf hs h1
    generalize (chkF s ms).1 = r0 at *
    generalize (chkF s ms).2 = r at *
    go_enter Try.func24, Try.ntmps24
    go_wp2_with fail
    refine (J1.out _ HB.out).mono ?_
    rintro e w1 ⟨rfl, hb⟩
    have HB1 := Lib.hid (eb_of HB.out hb (by simp))
    clear hb
    go_wp2_with fail
    go_ret2
    exact ⟨retZ HL.out, HB1.out⟩
  have HL := Lib.hid (sizeE_ok h1)
  rw [h1] at J1
  obtain ⟨G, _⟩ := chkF_good h1
  have hlen := G.len
  have HK : Hid (∀ k, k ≤ ms.length → sizeM (ms.take k) ≤ 200000) := Lib.hid (fun k hk => by
    have := sizeM_bound (ms := ms.take k) (fun m hm => G.key m (List.mem_of_mem_take hm))
    rw [List.length_take] at this; omega)
  have HF := Lib.hid hf
  clear h1 hf hs G
  generalize (chkF s ms).1 = r0 at *
  go_enter Try.func24, Try.ntmps24
  go_wp2_with fail
  refine (J1.out _ HB.out).mono ?_
  rintro e w1 ⟨rfl, hb⟩
  obtain ⟨y0, y1, y2, y3⟩ := HX.out _ hb
  have HC := Lib.hid hb
  clear hb y2 y3
  go_wp2_with fail
  go_loopw [20, 6] (fun i q wr => ∃ k : Nat, k ≤ ms.length ∧ i = .int .i64 k ∧ q = .int .i64 (sizeM (ms.take k)) ∧ Below (w.alloc (.cells #[.int .i64 s, .slice A ms.length c] 25)).heap.size (w.alloc (.cells #[.int .i64 s, .slice A ms.length c] 25)) wr) (fun i _ _ => ms.length - (intOf i).toNat)
  case atStart => exact ⟨0, Nat.zero_le _, rfl, rfl, HC.out⟩
  case round =>
    obtain ⟨k, hk, rfl, rfl, hb⟩ := hrel
    obtain ⟨v0, v1, v2, v3⟩ := HX.out _ hb
    have HD := Lib.hid hb
    have HW := Lib.hid v3
    clear hb v2 v3
    have hkk := HK.out k hk
    by_cases hlt : k < ms.length
    · have HS := Lib.hid (sizeM_next hlt)
      have hkn := HK.out (k + 1) (by omega)
      rw [HS.out] at hkn
      rcases HF.out.below HW.out (Nat.le_refl _) with h0 | ⟨b, off, rfl, hbl, hc⟩
      · subst h0; simp at hlt
      have g0 := hc k hlt
      clear hc
      generalize sizeM (ms.take k) = q at *
      go_wp2_with fail
      go_roundw
      case rel => exact ⟨k + 1, by omega, by go_num, by rw [HS.out]; go_num, HD.out⟩
      case measure => simp [intOf]; omega
    · have HS : Hid (sizeM (ms.take k) = sizeM ms) := Lib.hid (by rw [List.take_of_length_le (by omega)])
      go_wp2_with fail
      go_ret2
      exact ⟨retZ (by rw [HL.out, HS.out]), HW.out⟩
set_option maxRecDepth 100000 in
set_option maxHeartbeats 1000000 in
theorem rSize7_any (s : Int) (A : Option Addr) (c : Nat) (ms : List ByteArray) (w : World) (hf : SsAt w A ms) (hn : ms.length ≤ 4294967295) (hs : SizedS ms) :
    Calls Try.prog 25 #[.agg #[.int .i64 s, .slice A ms.length c]] w fun e w' => e = .returned (.tuple #[.int .i64 (sizeE s ms).1, .int .i64 (sizeE s ms).2]) ∧ Below w.heap.size w w' := by
  have HX := boxF s A ms.length c w
  obtain ⟨x0, x1, x2, x3⟩ := HX.out _ (Below.refl _ _)
  have HB := Lib.hid x3
  have J1 := Lib.hid (fun w1 (h : Below w.heap.size w w1) => rCheck7_any s A c ms w1 (hf.below h (Nat.le_refl _)) hn hs)
  by_cases h1 : (chkF s ms).2 = 0
  rotate_left
  · have HL := Lib.hid (sizeE_no h1)
    obtain ⟨b1, b2⟩ := ne_b h1
    clear hf hs h1
    generalize (chkF s ms).1 = r0 at *
    generalize (chkF s ms).2 = r at *
    go_enter Try.func25, Try.ntmps25
    go_wp2_with fail
    refine (J1.out _ HB.out).mono ?_
    rintro e w1 ⟨rfl, hb⟩
    have HB1 := Lib.hid (eb_of HB.out hb (by simp))
    clear hb
    go_wp2_with fail
    go_ret2
    exact ⟨retZ HL.out, HB1.out⟩
  have HL := Lib.hid (sizeE_ok h1)
  rw [h1] at J1
  obtain ⟨G, _⟩ := chkF_good h1
  have hlen := G.len
  have HK : Hid (∀ k, k ≤ ms.length → sizeM (ms.take k) ≤ 200000) := Lib.hid (fun k hk => by
    have := sizeM_bound (ms := ms.take k) (fun m hm => G.key m (List.mem_of_mem_take hm))
    rw [List.length_take] at this; omega)
  have HF := Lib.hid hf
  clear h1 hf hs G
  generalize (chkF s ms).1 = r0 at *
  go_enter Try.func25, Try.ntmps25
  go_wp2_with fail
  refine (J1.out _ HB.out).mono ?_
  rintro e w1 ⟨rfl, hb⟩
  obtain ⟨y0, y1, y2, y3⟩ := HX.out _ hb
  have HC := Lib.hid hb
  clear hb y2 y3
  go_wp2_with fail
  go_loopw [7, 6] (fun i q wr => ∃ k : Nat, k ≤ ms.length ∧ i = .int .i64 k ∧ q = .int .i64 (sizeM (ms.take k)) ∧ Below (w.alloc (.cells #[.int .i64 s, .slice A ms.length c] 25)).heap.size (w.alloc (.cells #[.int .i64 s, .slice A ms.length c] 25)) wr) (fun i _ _ => ms.length - (intOf i).toNat)
  case atStart => exact ⟨0, Nat.zero_le _, rfl, rfl, HC.out⟩
  case round =>
    obtain ⟨k, hk, rfl, rfl, hb⟩ := hrel
    obtain ⟨v0, v1, v2, v3⟩ := HX.out _ hb
    have HD := Lib.hid hb
    have HW := Lib.hid v3
    clear hb v2 v3
    have hkk := HK.out k hk
    by_cases hlt : k < ms.length
    · have HS := Lib.hid (sizeM_next hlt)
      have hkn := HK.out (k + 1) (by omega)
      rw [HS.out] at hkn
      rcases HF.out.below HW.out (Nat.le_refl _) with h0 | ⟨b, off, rfl, hbl, hc⟩
      · subst h0; simp at hlt
      have g0 := hc k hlt
      clear hc
      generalize sizeM (ms.take k) = q at *
      go_wp2_with fail
      go_roundw
      case rel => exact ⟨k + 1, by omega, by go_num, by rw [HS.out]; go_num, HD.out⟩
      case measure => simp [intOf]; omega
    · have HS : Hid (sizeM (ms.take k) = sizeM ms) := Lib.hid (by rw [List.take_of_length_le (by omega)])
      go_wp2_with fail
      go_ret2
      exact ⟨retZ (by rw [HL.out, HS.out]), HW.out⟩
end Go.Proofs.Ytpgngiegpigfiaa.KK
