/-
  Trees of losers: Order.
-/
import Derived.Test.YtggmnhlfgjjgaaaLl
namespace Go.Proofs.Ytggmnhlfgjjgaaa.KK
open Go.ChangeShapes Go.WideShapes Go.ChangeAt Go.RowKit Go.Proofs

set_option maxRecDepth 100000 in
set_option maxHeartbeats 2000000 in
theorem order_bad (A B : Option Addr) (c d : Nat) (ks : List LK) (ls : List Int) (win : Int) (w : World) (hf : KsAt w A ks) (hg : IsAt w B ls) (hn : ks.length ≤ 4294967295) (hm : ls.length ≤ 4294967295) (h : (chkT ks ls win).2 ≠ 0) :
    Calls Try.prog 49 #[.agg #[.slice A ks.length c, .slice B ls.length d, .int .i64 win]] w fun e w' => e = .returned (.tuple #[.slice none 0 0, .int .i64 (chkT ks ls win).2]) ∧ Below w.heap.size w w' := by
  have HX := boxT A B ks.length c ls.length d win w
  obtain ⟨x0, x1, x2, x3, x4⟩ := HX.out _ (Below.refl _ _)
  have HB := Lib.hid x4
  have J := Lib.hid (check_any A B c d ks ls win _ (hf.below x4 (Nat.le_refl _)) (hg.below x4 (Nat.le_refl _)) hn hm)
  obtain ⟨b1, b2⟩ := ne_b h
  clear hf hg x3 x4 h
  generalize chkT ks ls win = q at *
  obtain ⟨q1, q2⟩ := q
  generalize ks.length = n at *
  generalize ls.length = m at *
  go_enter Try.func49, Try.ntmps49
  go_wp2_with fail
  refine J.out.mono ?_
  rintro e w1 ⟨rfl, hb⟩
  have HB1 := Lib.hid (eb_of HB.out hb (by simp))
  clear hb
  go_wp2_with fail
  go_ret2
  exact ⟨rfl, HB1.out⟩
theorem CR.new {w : World} {Z : Array Value} {t : TypeId} {vs : List Value} (h : Z.toList = vs) : CR (w.alloc (.cells Z t)) w.heap.size vs := by
  subst h
  refine ⟨by simp, fun i hi => ?_, fun i hi => ?_⟩
  · refine (cell_of_row _ w.heap.size i _ _ _ (heap_alloc_new w _)).trans ?_
    rw [← Array.getElem?_toList]; exact List.getElem?_eq_getElem hi
  · have := heap_alloc_new w (.cells Z t)
    unfold World.frozen?
    simp only
    rw [this]
    simp
set_option maxRecDepth 100000 in
set_option maxHeartbeats 4000000 in
theorem order_ok (A B : Option Addr) (c d : Nat) (ks : List LK) (w : World) (hf : KsAt w A ks) (hg : IsAt w B (loL ks)) (h : keysE ks = 0) :
    Calls Try.prog 49 #[.agg #[.slice A ks.length c, .slice B ks.length d, .int .i64 (wnr ks : Nat)]] w fun e w' => ∃ lb cl L, e = .returned (.tuple #[.slice (some ⟨lb, 0, none⟩) ks.length cl, .int .i64 0]) ∧
      Ord ks L ∧ CR w' lb (intsV (natsV L)) ∧ w.heap.size ≤ lb ∧ Below w.heap.size w w' := by
  obtain ⟨h1, h32, _⟩ := keysE_ok h
  have HX := boxT A B ks.length c ks.length d (wnr ks) w
  obtain ⟨x0, x1, x2, x3, x4⟩ := HX.out _ (Below.refl _ _)
  have HB := Lib.hid x4
  have J := Lib.hid (by
    have K := check_any A B c d ks (loL ks) (wnr ks) _ (hf.below x4 (Nat.le_refl _)) (hg.below x4 (Nat.le_refl _)) (by omega) (by rw [loL_len]; omega)
    rw [chkT_self h, loL_len] at K; exact K)
  have HF := Lib.hid hf
  have JS := Lib.hid (fun (lb cl kb : Nat) (w' : World) (hb : Below w.heap.size w w') (hl : w.heap.size ≤ lb) (hr : CR w' lb (intsV (natsV (List.range ks.length)))) (hk : w'.cell? ⟨kb, 0, none⟩ = some (.slice A ks.length c)) (hne : kb ≠ lb) =>
    sort_any lb cl kb A c ks w' h1 (by omega) hr hk (hf.below hb (Nat.le_refl _)) hne (fun a ha => by
      rcases hf with h0 | ⟨b, off, rfl, hbl, _⟩
      · subst h0; simp at h1
      · obtain rfl := Option.some.inj ha
        show b ≠ lb; omega))
  obtain ⟨n, hnn⟩ : ∃ n, ks.length = n := ⟨_, rfl⟩
  rw [hnn] at J JS HX h1 h32 ⊢
  obtain ⟨Z, HZ, hmk⟩ := make_row n (by omega)
  clear hf hg h x0 x1 x2 x3 x4 hnn
  generalize wnr ks = p at *
  go_enter Try.func49, Try.ntmps49
  go_wp2_with fail
  refine J.out.mono ?_
  rintro e w1 ⟨rfl, hb⟩
  obtain ⟨x0, x1, x2, x3, x4⟩ := HX.out _ hb
  have HB1 := Lib.hid x4
  have HCR := Lib.hid (CR.new (w := w1) (t := 3) HZ.out)
  have HB2 := Lib.hid (eb_of HB1.out (alloc_below w1 (.cells Z 3)) (Nat.le_refl _))
  have hle := HB1.out.size
  clear hb x1 x2 x4
  go_wp2_with fail
  have HC2 := Lib.hid (show (w1.alloc (.cells Z 3)).cell? ⟨w.heap.size, 0, none⟩ = some (.slice A n c) from ((alloc_below w1 (.cells Z 3)).cell (p := ⟨w.heap.size, 0, none⟩) x3).trans x0)
  obtain ⟨w2, hw2⟩ : ∃ w2, w2 = w1.alloc (.cells Z 3) := ⟨_, rfl⟩
  rw [← hw2] at HCR HB2 HC2 ⊢
  clear hw2 x0 hmk HX J HB
  generalize w1.heap.size = lb at *
  go_loopw [7, 22] (fun _ iv wr => ∃ (k : Nat) (L1 : List Int), iv = .int .i64 k ∧ k ≤ n ∧ Hid (L1.length = n ∧ (∀ i, i < k → L1.getD i 0 = (i : Int)) ∧ CR wr lb (intsV L1) ∧ Chg (fun k => k = lb) w2 wr)) (fun _ iv _ => n - (intOf iv).toNat)
  case atStart => exact ⟨0, List.replicate n 0, rfl, Nat.zero_le _, Lib.hid ⟨by simp, fun i h => by omega, HCR.out, Chg.refl _⟩⟩
  case round =>
    obtain ⟨k, L1, rfl, hkn, HS⟩ := hrel
    by_cases hlt : k < n
    · obtain ⟨l1, l2⟩ := HS.out.2.2.1.int (i := k) (by rw [HS.out.1]; exact hlt)
      go_wp2_with fail
      go_roundw
      case rel =>
        refine ⟨k + 1, L1.set k k, by go_num, by omega, Lib.hid ⟨by simp [HS.out.1], fun i hi => ?_, HS.out.2.2.1.put (by rw [HS.out.1]; exact hlt) _, HS.out.2.2.2.trans (chg_set lb k _)⟩⟩
        rw [Lo.getD_set (by rw [HS.out.1]; exact hlt)]
        split
        · subst_vars; rfl
        · exact HS.out.2.1 i (by omega)
      case measure => simp [intOf]; omega
    · have HL : Hid (L1 = natsV (List.range n)) := Lib.hid (by
        refine List.ext_getElem (by simp [natsV, HS.out.1]) fun i hi hj => ?_
        have e := HS.out.2.1 i (by have := HS.out.1; omega)
        rw [show L1.getD i 0 = L1[i] by simp [hi]] at e
        rw [e]; simp [natsV])
      have HCW := Lib.hid (by have h := HS.out.2.2.1; rw [HL.out] at h; exact h)
      have x0 := HS.out.2.2.2.cell HC2.out (by omega)
      have hsz := HS.out.2.2.2.size
      have HBW : Hid (Below w.heap.size w wr) := Lib.hid (HB2.out.trans (HS.out.2.2.2.below (fun k hk => by omega) HB2.out.size))
      have hlb := HCW.out.lt
      clear HS HL HC2 HCR
      go_wp2_with fail
      refine (order_any A n c wr).mono ?_
      rintro e w3 ⟨rfl, hw3⟩
      have HB3 : Hid (Below wr.heap.size wr w3) := Lib.hid (hw3 ▸ alloc_below _ _)
      have HK3 : Hid (w3.cell? ⟨wr.heap.size, 0, none⟩ = some (.slice A n c)) := Lib.hid (by rw [hw3]; exact cellN rfl rfl)
      clear hw3
      go_wp2_with fail
      refine (JS.out lb n wr.heap.size w3 (eb_of HBW.out HB3.out (Nat.le_refl _)) hle (HCW.out.below HB3.out hlb) HK3.out (by omega)).mono ?_
      rintro e w4 ⟨rfl, L, ho, hcr, hch⟩
      have HO := Lib.hid ho
      have HCR := Lib.hid hcr
      have HCH := Lib.hid hch
      clear ho hcr hch
      go_wp2_with fail
      go_ret2
      exact ⟨lb, n, L, rfl, HO.out, HCR.out, hle, (eb_of HBW.out HB3.out (Nat.le_refl _)).trans (HCH.out.below (fun k hk => by omega) ((eb_of HBW.out HB3.out (Nat.le_refl _)).size))⟩
end Go.Proofs.Ytggmnhlfgjjgaaa.KK
