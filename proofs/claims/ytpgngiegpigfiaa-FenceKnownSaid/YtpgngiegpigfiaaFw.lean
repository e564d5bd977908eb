/-
  FenceKnown: the walk.
-/
import Derived.Test.YtpgngiegpigfiaaFv
import Derived.Deep.DeepCutAuto
namespace Go.Proofs.Ytpgngiegpigfiaa.KK
open Go.ChangeShapes Go.WideShapes Go.ChangeAt Go.RowKit Go.Proofs

def knK : List ByteArray := [⟨#[97, 97]⟩, ⟨#[97, 122, 122]⟩, ⟨#[98]⟩, ⟨#[98, 99, 100]⟩, ⟨#[98, 99, 101]⟩, ⟨#[122]⟩]
def knB : List Int := [0, 0, 1, 1, 2, 2]
theorem kn_block : ∀ k (h : k < 6), (knK[k]'h).size ≤ 32 ∧ blockE 2 exM (knK[k]'h) = (knB[k]'h, 0) := by
  intro k h
  have hk : k = 0 ∨ k = 1 ∨ k = 2 ∨ k = 3 ∨ k = 4 ∨ k = 5 := by omega
  rcases hk with rfl | rfl | rfl | rfl | rfl | rfl <;> exact ⟨by decide +kernel +revert, by decide +kernel +revert⟩
theorem exFind (key : ByteArray) (a b : Int) (A : Option Addr) (c : Nat) (B : Option Addr) (d : Nat) (w : World) (hf : SsAt w A exM) (hg : EsAt w B exL) (hd : 5 ≤ d) (hB : B ≠ none) (hk : key.size ≤ 9223372036854775807) (h : findF 2 exM exL key = (a, b)) :
    Calls Try.prog 26 #[.agg #[.int .i64 2, .slice A 2 c], .slice B 5 d, .string key] w fun e w' => e = .returned (.tuple #[.int .i64 a, .int .i64 b]) ∧ Below w.heap.size w w' := by
  have K := pFind7_any 2 A c exM B d exL key w hf hg (by decide) (by decide) exM_sized exL_sized hd (fun e => absurd e hB) hk
  rw [h] at K
  exact K
theorem exBlocks (lo hi : ByteArray) (bd : Bool) (a b r : Int) (A : Option Addr) (c : Nat) (w : World) (hf : SsAt w A exM) (hlo : lo.size ≤ 9223372036854775807) (hhi : hi.size ≤ 9223372036854775807) (h : blocksE 2 exM lo hi bd = (a, b, r)) :
    Calls Try.prog 22 #[.agg #[.int .i64 2, .slice A 2 c], .agg #[.string lo, .string hi, .bool bd]] w fun e w' => e = .returned (.tuple #[.int .i64 a, .int .i64 b, .int .i64 r]) ∧ Below w.heap.size w w' := by
  have K := pBlocks7_any 2 A c exM lo hi bd w hf (by decide) exM_sized hlo hhi
  rw [h] at K
  exact K
theorem exFits (m1 m2 : ByteArray) (p : Bool) (B : Option Addr) (d : Nat) (w : World) (A : Option Addr) (hf : SsAt w A [m1, m2]) (hg : EsAt w B exL) (hd : 5 ≤ d) (hs1 : m1.size ≤ 9223372036854775807) (hs2 : m2.size ≤ 9223372036854775807) (h : fitsR 2 [m1, m2] exL = (p, 0)) :
    Calls Try.prog 15 #[.agg #[.int .i64 2, .slice A 2 2], .slice B 5 d] w fun e w' => e = .returned (.tuple #[.bool p, .int .i64 0]) ∧ Below w.heap.size w w' := by
  have K := pFits7_any 2 A 2 [m1, m2] B d exL w hf hg (by simp) (by decide) (fun m hm => by simp at hm; rcases hm with rfl | rfl; exact hs1; exact hs2) exL_sized hd
  rw [h] at K
  exact K
/-- what FenceKnown has made -/
structure KnS (b : Nat) (A : Option Addr) (c : Nat) (w : World) : Prop where
  f0 : w.cell? ⟨b, 0, none⟩ = some (.int .i64 2)
  f1 : w.cell? ⟨b, 1, none⟩ = some (.slice A 2 c)
  k : ∀ k (h : k < 6), w.cell? ⟨b + 1, k, none⟩ = some (.string (knK[k]'h))
  n : ∀ k (h : k < 6), w.cell? ⟨b + 2, k, none⟩ = some (.int .i64 (knB[k]'h))
  lt : b + 2 < w.heap.size
  m : SsAt w A exM
theorem KnS.below {b : Nat} {A : Option Addr} {c : Nat} {w w' : World} (h : KnS b A c w) (hb : Below w.heap.size w w') : KnS b A c w' := by
  have hl := h.lt
  exact ⟨(hb.cell (p := ⟨b, 0, none⟩) (by simp; omega)).trans h.f0, (hb.cell (p := ⟨b, 1, none⟩) (by simp; omega)).trans h.f1, fun k hk => (hb.cell (p := ⟨b + 1, k, none⟩) (by simp; omega)).trans (h.k k hk), fun k hk => (hb.cell (p := ⟨b + 2, k, none⟩) hl).trans (h.n k hk), Nat.lt_of_lt_of_le hl hb.size, h.m.below hb (Nat.le_refl _)⟩
theorem kn_made (w2 : World) (A' : Option Addr) (c' : Nat) (hm : SsAt w2 A' exM) : KnS w2.heap.size A' c' (((w2.alloc (.cells #[.int .i64 2, .slice A' 2 c'] 25)).alloc (.cells #[.string ⟨#[97, 97]⟩, .string ⟨#[97, 122, 122]⟩, .string ⟨#[98]⟩, .string ⟨#[98, 99, 100]⟩, .string ⟨#[98, 99, 101]⟩, .string ⟨#[122]⟩] 59)).alloc (.cells #[.int .i64 0, .int .i64 0, .int .i64 1, .int .i64 1, .int .i64 2, .int .i64 2] 60)) ∧ Below w2.heap.size w2 (((w2.alloc (.cells #[.int .i64 2, .slice A' 2 c'] 25)).alloc (.cells #[.string ⟨#[97, 97]⟩, .string ⟨#[97, 122, 122]⟩, .string ⟨#[98]⟩, .string ⟨#[98, 99, 100]⟩, .string ⟨#[98, 99, 101]⟩, .string ⟨#[122]⟩] 59)).alloc (.cells #[.int .i64 0, .int .i64 0, .int .i64 1, .int .i64 1, .int .i64 2, .int .i64 2] 60)) := by
  have b1 := alloc_below w2 (.cells #[.int .i64 2, .slice A' 2 c'] 25)
  have b2 := alloc_below (w2.alloc (.cells #[.int .i64 2, .slice A' 2 c'] 25)) (.cells #[.string ⟨#[97, 97]⟩, .string ⟨#[97, 122, 122]⟩, .string ⟨#[98]⟩, .string ⟨#[98, 99, 100]⟩, .string ⟨#[98, 99, 101]⟩, .string ⟨#[122]⟩] 59)
  have b3 := alloc_below ((w2.alloc (.cells #[.int .i64 2, .slice A' 2 c'] 25)).alloc (.cells #[.string ⟨#[97, 97]⟩, .string ⟨#[97, 122, 122]⟩, .string ⟨#[98]⟩, .string ⟨#[98, 99, 100]⟩, .string ⟨#[98, 99, 101]⟩, .string ⟨#[122]⟩] 59)) (.cells #[.int .i64 0, .int .i64 0, .int .i64 1, .int .i64 1, .int .i64 2, .int .i64 2] 60)
  have s1 : (w2.alloc (.cells #[.int .i64 2, .slice A' 2 c'] 25)).heap.size = w2.heap.size + 1 := by simp
  have s2 : ((w2.alloc (.cells #[.int .i64 2, .slice A' 2 c'] 25)).alloc (.cells #[.string ⟨#[97, 97]⟩, .string ⟨#[97, 122, 122]⟩, .string ⟨#[98]⟩, .string ⟨#[98, 99, 100]⟩, .string ⟨#[98, 99, 101]⟩, .string ⟨#[122]⟩] 59)).heap.size = w2.heap.size + 2 := by simp
  have hb : Below w2.heap.size w2 (((w2.alloc (.cells #[.int .i64 2, .slice A' 2 c'] 25)).alloc (.cells #[.string ⟨#[97, 97]⟩, .string ⟨#[97, 122, 122]⟩, .string ⟨#[98]⟩, .string ⟨#[98, 99, 100]⟩, .string ⟨#[98, 99, 101]⟩, .string ⟨#[122]⟩] 59)).alloc (.cells #[.int .i64 0, .int .i64 0, .int .i64 1, .int .i64 1, .int .i64 2, .int .i64 2] 60)) := (b1.trans (b2.mono (by simp))).trans (b3.mono (by simp; try omega))
  have hb2 : Below (w2.alloc (.cells #[.int .i64 2, .slice A' 2 c'] 25)).heap.size (w2.alloc (.cells #[.int .i64 2, .slice A' 2 c'] 25)) (((w2.alloc (.cells #[.int .i64 2, .slice A' 2 c'] 25)).alloc (.cells #[.string ⟨#[97, 97]⟩, .string ⟨#[97, 122, 122]⟩, .string ⟨#[98]⟩, .string ⟨#[98, 99, 100]⟩, .string ⟨#[98, 99, 101]⟩, .string ⟨#[122]⟩] 59)).alloc (.cells #[.int .i64 0, .int .i64 0, .int .i64 1, .int .i64 1, .int .i64 2, .int .i64 2] 60)) := b2.trans (b3.mono (by simp))
  obtain ⟨x0, x1, x2, x3⟩ := (boxF 2 A' 2 c' w2).out _ hb2
  refine ⟨⟨x0, x1, fun k hk => ?_, fun k hk => ?_, by simp, hm.below hb (Nat.le_refl _)⟩, hb⟩
  · have e := heap_alloc_new (w2.alloc (.cells #[.int .i64 2, .slice A' 2 c'] 25)) (.cells #[.string ⟨#[97, 97]⟩, .string ⟨#[97, 122, 122]⟩, .string ⟨#[98]⟩, .string ⟨#[98, 99, 100]⟩, .string ⟨#[98, 99, 101]⟩, .string ⟨#[122]⟩] 59)
    rw [s1] at e
    have e2 : (((w2.alloc (.cells #[.int .i64 2, .slice A' 2 c'] 25)).alloc (.cells #[.string ⟨#[97, 97]⟩, .string ⟨#[97, 122, 122]⟩, .string ⟨#[98]⟩, .string ⟨#[98, 99, 100]⟩, .string ⟨#[98, 99, 101]⟩, .string ⟨#[122]⟩] 59)).alloc (.cells #[.int .i64 0, .int .i64 0, .int .i64 1, .int .i64 1, .int .i64 2, .int .i64 2] 60)).cell? ⟨w2.heap.size + 1, k, none⟩ = ((w2.alloc (.cells #[.int .i64 2, .slice A' 2 c'] 25)).alloc (.cells #[.string ⟨#[97, 97]⟩, .string ⟨#[97, 122, 122]⟩, .string ⟨#[98]⟩, .string ⟨#[98, 99, 100]⟩, .string ⟨#[98, 99, 101]⟩, .string ⟨#[122]⟩] 59)).cell? ⟨w2.heap.size + 1, k, none⟩ := b3.cell (p := ⟨w2.heap.size + 1, k, none⟩) (by simp)
    rw [e2]
    have hk' : k = 0 ∨ k = 1 ∨ k = 2 ∨ k = 3 ∨ k = 4 ∨ k = 5 := by omega
    rcases hk' with rfl | rfl | rfl | rfl | rfl | rfl <;> exact cell_of_row _ (w2.heap.size + 1) _ _ _ _ e
  · have e := heap_alloc_new ((w2.alloc (.cells #[.int .i64 2, .slice A' 2 c'] 25)).alloc (.cells #[.string ⟨#[97, 97]⟩, .string ⟨#[97, 122, 122]⟩, .string ⟨#[98]⟩, .string ⟨#[98, 99, 100]⟩, .string ⟨#[98, 99, 101]⟩, .string ⟨#[122]⟩] 59)) (.cells #[.int .i64 0, .int .i64 0, .int .i64 1, .int .i64 1, .int .i64 2, .int .i64 2] 60)
    rw [s2] at e
    have hk' : k = 0 ∨ k = 1 ∨ k = 2 ∨ k = 3 ∨ k = 4 ∨ k = 5 := by omega
    rcases hk' with rfl | rfl | rfl | rfl | rfl | rfl <;> exact cell_of_row _ (w2.heap.size + 2) _ _ _ _ e
set_option maxRecDepth 100000 in
set_option maxHeartbeats 8000000 in
theorem FenceKnown_any (w : World) : Calls Try.prog 9 #[] w fun e w' => e = .returned (.bool true) ∧ Below w.heap.size w w' := by
  go_enter Try.func9, Try.ntmps9
  go_wp2_with fail
  refine (example_any _).mono ?_
  rintro e w1 ⟨A, c, rfl, hc5, _, hes, hb⟩
  have HB := Lib.hid hb
  have HE := Lib.hid hes
  clear hb hes
  go_wp2_with fail
  refine (exMake A c _ HE.out hc5).mono ?_
  rintro e w2 ⟨⟨A', c', rfl, hss⟩, hb⟩
  have HB2 := Lib.hid (eb_of HB.out hb (Nat.le_refl _))
  obtain ⟨hk0, hb3⟩ := kn_made w2 A' c' hss
  have HK0 := Lib.hid hk0
  have HB3 := Lib.hid (eb_of HB2.out hb3 (Nat.le_refl _))
  clear hb hss hk0 hb3 HB HE HB2
  go_wp2_with fail
  generalize hbq : w2.heap.size = bq at *
  generalize ((w2.alloc (.cells #[.int .i64 2, .slice A' 2 c'] 25)).alloc (.cells #[.string ⟨#[97, 97]⟩, .string ⟨#[97, 122, 122]⟩, .string ⟨#[98]⟩, .string ⟨#[98, 99, 100]⟩, .string ⟨#[98, 99, 101]⟩, .string ⟨#[122]⟩] 59)).alloc (.cells #[.int .i64 0, .int .i64 0, .int .i64 1, .int .i64 1, .int .i64 2, .int .i64 2] 60) = wz at *
  go_loopw [5] (fun i wr => ∃ k : Nat, k ≤ 6 ∧ i = .int .i64 k ∧ KnS bq A' c' wr ∧ Below w.heap.size w wr) (fun i _ => 6 - (intOf i).toNat)
  case atStart => exact ⟨0, by omega, rfl, HK0.out, HB3.out⟩
  case round =>
    obtain ⟨k, hk, rfl, hkn, hb⟩ := hrel
    have HB := Lib.hid hb
    have HK := Lib.hid hkn
    clear hb
    by_cases hlt : k < 6
    · obtain ⟨hz, hbk⟩ := kn_block k hlt
      have l2 := hkn.lt
      have J := Lib.hid (fun w (hm : SsAt w A' exM) => exBlock (knK[k]'hlt) (knB[k]'hlt) A' c' w hm (by omega) hbk)
      have g0 := hkn.f0
      have g1 := hkn.f1
      have g2 := hkn.k k hlt
      have z0 := abv_cell (by omega) g0
      have z1 := abv_cell (by omega) g1
      have z2 := abv_cell (by omega) g2
      have HM : Hid (∀ p : Abv wr, SsAt p.world A' exM) := Lib.hid (fun p => HK.out.m.below p.h (Nat.le_refl _))
      have HN : Hid (∀ w', KnS bq A' c' w' → w'.cell? ⟨bq + 2, k, none⟩ = some (.int .i64 (knB[k]'hlt))) := Lib.hid (fun w' h => h.n k hlt)
      clear hkn hz hbk g0 g1 g2
      generalize (knK[k]'hlt) = kk at *
      generalize (knB[k]'hlt) = kb at *
      have hk6 : (k : Int) < 6 := by omega
      go_wp2_with fail
      refine wp_region_abv (by first | assumption | kernel_rfl) (by kernel_rfl) ?_
      repeat (first | go_big_quiet_step (exact callAbv (J.out _ (HM.out _))) | quiet_step (exact callAbv (J.out _ (HM.out _))))
      refine wpQuiet_nil ?_
      intro w3 hw3
      obtain ⟨p, hp⟩ := hw3
      have hb4 : Below wr.heap.size wr w3 := by rw [hp]; exact p.h
      have HB4 := Lib.hid (eb_of HB.out hb4 (Nat.le_refl _))
      have HK4 := Lib.hid (HK.out.below hb4)
      have y2 := HN.out _ HK4.out
      clear hb4 hp p z0 z1 z2
      go_wp2_with fail
      go_roundw
      case rel => exact ⟨k + 1, by omega, by go_num, HK4.out, HB4.out⟩
      case measure => simp [intOf]; omega
    · have f0 := hkn.f0
      have f1 := hkn.f1
      clear hkn
      go_wp2_with fail
      refine (exSpan 5 ⟨#[122]⟩ 4 5 0 A' c' _ HK.out.m (by decide) (by decide +kernel)).mono ?_
      rintro e w3 ⟨rfl, hb⟩
      have HB := Lib.hid (eb_of HB.out hb (Nat.le_refl _))
      have HK := Lib.hid (HK.out.below hb)
      clear hb f0 f1
      have f0 := HK.out.f0
      have f1 := HK.out.f1
      go_wp2_with fail
      refine (exSpan 7 ⟨#[98]⟩ 0 0 6 A' c' _ HK.out.m (by decide) (by decide +kernel)).mono ?_
      rintro e w4 ⟨rfl, hb⟩
      have HB := Lib.hid (eb_of HB.out hb (Nat.le_refl _))
      have HK := Lib.hid (HK.out.below hb)
      clear hb f0 f1
      have f0 := HK.out.f0
      have f1 := HK.out.f1
      go_wp2_with fail
      refine (exBlocks ⟨#[97, 98]⟩ ⟨#[98]⟩ true 0 1 0 A' c' _ HK.out.m (by decide) (by decide) (by decide +kernel)).mono ?_
      rintro e w5 ⟨rfl, hb⟩
      have HB := Lib.hid (eb_of HB.out hb (Nat.le_refl _))
      have HK := Lib.hid (HK.out.below hb)
      clear hb f0 f1
      have f0 := HK.out.f0
      have f1 := HK.out.f1
      go_wp2_with fail
      refine (exBlocks ⟨#[99]⟩ ⟨#[]⟩ false 2 3 0 A' c' _ HK.out.m (by decide) (by decide) (by decide +kernel)).mono ?_
      rintro e w6 ⟨rfl, hb⟩
      have HB := Lib.hid (eb_of HB.out hb (Nat.le_refl _))
      have HK := Lib.hid (HK.out.below hb)
      clear hb f0 f1
      have f0 := HK.out.f0
      have f1 := HK.out.f1
      have HBd := Lib.hid (show Below w.heap.size w w6.drew from HB.out.trans ((below_drewN' 1).mono HB.out.size))
      have HKd := Lib.hid (HK.out.below (show Below w6.heap.size w6 w6.drew from below_drewN' 1))
      have J1 := Lib.hid (fun A c B d w hf hg hd hB => exFind ⟨#[98, 99, 100]⟩ 3 0 A c B d w hf hg hd hB (by decide) (by decide +kernel))
      have J2 := Lib.hid (fun A c B d w hf hg hd hB => exFind ⟨#[98, 99, 99]⟩ 0 4 A c B d w hf hg hd hB (by decide) (by decide +kernel))
      go_wp2_with fail
      go_cut [2, 19] (fun s2 s19 wx => s2 = .int .i64 0 ∧ s19 = .int .i64 3 ∧ KnS bq A' c' wx ∧ Below w.heap.size w wx)
      case first =>
        go_region_with (first | (go_at_call 34; refine (example_any _).mono ?_; rintro e w7 ⟨A7, c7, rfl, hc7, hA7, hes, hb⟩; have HB7 := Lib.hid (eb_of HBd.out hb (Nat.le_refl _)); have HK7 := Lib.hid (HKd.out.below hb); have HE7 := Lib.hid hes; have f0 := HK7.out.f0; have f1 := HK7.out.f1; clear hb hes) | (go_at_call 26; refine (J1.out A' c' A7 c7 _ HK7.out.m HE7.out hc7 hA7).mono ?_; rintro e w8 ⟨rfl, hb⟩; have HB8 := Lib.hid (eb_of HB7.out hb (Nat.le_refl _)); have HK8 := Lib.hid (HK7.out.below hb); clear hb))
        all_goals (go_wp2_with fail; go_meet; exact ⟨rfl, rfl, HK8.out, HB8.out⟩)
      case rest =>
        obtain ⟨rfl, rfl, hkn, hb⟩ := hcut
        have HB := Lib.hid hb
        have HK := Lib.hid hkn
        have f0 := hkn.f0
        have f1 := hkn.f1
        have HBd := Lib.hid (show Below w.heap.size w wc.drew from HB.out.trans ((below_drewN' 1).mono HB.out.size))
        have HKd := Lib.hid (HK.out.below (show Below wc.heap.size wc wc.drew from below_drewN' 1))
        clear hkn hb
        go_wp2_with fail
        go_cut [12] (fun s12 wx => s12 = .int .i64 4 ∧ KnS bq A' c' wx ∧ Below w.heap.size w wx)
        case first =>
          go_region_with (first | (go_at_call 34; refine (example_any _).mono ?_; rintro e w7 ⟨A7, c7, rfl, hc7, hA7, hes, hb⟩; have HB7 := Lib.hid (eb_of HBd.out hb (Nat.le_refl _)); have HK7 := Lib.hid (HKd.out.below hb); have HE7 := Lib.hid hes; have f0 := HK7.out.f0; have f1 := HK7.out.f1; clear hb hes) | (go_at_call 26; refine (J2.out A' c' A7 c7 _ HK7.out.m HE7.out hc7 hA7).mono ?_; rintro e w8 ⟨rfl, hb⟩; have HB8 := Lib.hid (eb_of HB7.out hb (Nat.le_refl _)); have HK8 := Lib.hid (HK7.out.below hb); clear hb))
          all_goals (go_wp2_with fail; go_meet; exact ⟨rfl, HK8.out, HB8.out⟩)
        case rest =>
          obtain ⟨rfl, hkn, hb⟩ := hcut
          have HB := Lib.hid hb
          clear hb
          go_wp2_with fail
          refine (example_any _).mono ?_
          rintro e w9 ⟨A9, c9, rfl, hc9, hA9, hes, hb⟩
          have hs0 := two_strs wc ⟨#[97, 98, 98]⟩ ⟨#[98, 99, 101]⟩
          have HS := Lib.hid (hs0.below hb (Nat.le_refl _))
          have HE9 := Lib.hid hes
          have HB9 := Lib.hid (eb_of HB.out ((alloc_below wc (.cells #[.string ⟨#[97, 98, 98]⟩, .string ⟨#[98, 99, 101]⟩] 9)).trans (hb.mono (by simp))) (Nat.le_refl _))
          clear hb hes hs0
          go_wp2_with fail
          refine (exFits ⟨#[97, 98, 98]⟩ ⟨#[98, 99, 101]⟩ true A9 c9 _ _ HS.out HE9.out hc9 (by decide) (by decide) (by decide +kernel)).mono ?_
          rintro e w10 ⟨rfl, hb⟩
          have HB10 := Lib.hid (eb_of HB9.out hb (Nat.le_refl _))
          clear hb
          go_wp2_with fail
          refine (example_any _).mono ?_
          rintro e w11 ⟨A11, c11, rfl, hc11, hA11, hes, hb⟩
          have hs0 := two_strs w10 ⟨#[98]⟩ ⟨#[98, 99, 102]⟩
          have HS11 := Lib.hid (hs0.below hb (Nat.le_refl _))
          have HE11 := Lib.hid hes
          have HB11 := Lib.hid (eb_of HB10.out ((alloc_below w10 (.cells #[.string ⟨#[98]⟩, .string ⟨#[98, 99, 102]⟩] 9)).trans (hb.mono (by simp))) (Nat.le_refl _))
          clear hb hes hs0
          go_wp2_with fail
          refine (exFits ⟨#[98]⟩ ⟨#[98, 99, 102]⟩ false A11 c11 _ _ HS11.out HE11.out hc11 (by decide) (by decide) (by decide +kernel)).mono ?_
          rintro e w12 ⟨rfl, hb⟩
          have HB12 := Lib.hid (eb_of HB11.out hb (Nat.le_refl _))
          clear hb
          go_wp2_with fail
          refine (awake7_any _).mono ?_
          rintro e w13 ⟨rfl, hb⟩
          have HB13 := Lib.hid (eb_of HB12.out hb (Nat.le_refl _))
          clear hb
          go_wp2_with fail
          go_ret
          exact ⟨by first | rfl | simp, HB13.out⟩
end Go.Proofs.Ytpgngiegpigfiaa.KK
