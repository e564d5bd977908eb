/-
  Trees of losers: the law LoserOwn (rest).
-/
import Derived.Deep.RegionLawGrows
import Derived.Deep.RegionHeld3
import Derived.Test.YtggmnhlfgjjgaaaLv
namespace Go.Proofs.Ytggmnhlfgjjgaaa.KK
open Go.ChangeShapes Go.WideShapes Go.ChangeAt Go.RowKit Go.Proofs

theorem bA {w w1 : World} (h : Below w.heap.size w w1) (o : Obj) : Below w.heap.size w (w1.alloc o) := eb_of h (alloc_below _ _) (Nat.le_refl _)
theorem bD {w w1 : World} (h : Below w.heap.size w w1) : Below w.heap.size w w1.drew := h.drew
theorem bS3 {w w1 : World} {g : Nat} (h : Below w.heap.size w w1) (hg : w.heap.size ≤ g) (a b c : Value) : Below w.heap.size w (((w1.setCell ⟨g, 0, none⟩ a).setCell ⟨g, 1, none⟩ b).setCell ⟨g, 2, none⟩ c) := ((h.setCell hg _).setCell hg _).setCell hg _
theorem set3C (W : World) (g : Nat) (a b c : Value) : Chg (fun k => k = g) W (((W.setCell ⟨g, 0, none⟩ a).setCell ⟨g, 1, none⟩ b).setCell ⟨g, 2, none⟩ c) := ((chg_set g 0 a).trans (chg_set g 1 b)).trans (chg_set g 2 c)
section
variable {W w : World} {v0 v1 v2 : Value} {t : TypeId} {o o' : Obj}
theorem rn0 (hb : Below (W.alloc (.cells #[v0, v1, v2] t)).heap.size (W.alloc (.cells #[v0, v1, v2] t)) w) : Hid (Row3 w W.heap.size t v0 v1 v2) := Lib.hid (Row3.below (heap_alloc_new _ _) hb (Nat.le_refl _))
theorem rn0d (hb : Below (W.alloc (.cells #[v0, v1, v2] t)).drew.heap.size (W.alloc (.cells #[v0, v1, v2] t)).drew w) : Hid (Row3 w W.heap.size t v0 v1 v2) := Lib.hid (Row3.below (W := (W.alloc (.cells #[v0, v1, v2] t)).drew) (heap_alloc_new _ _) hb (Nat.le_refl _))
theorem rn1 (hb : Below ((W.alloc (.cells #[v0, v1, v2] t)).alloc o).heap.size ((W.alloc (.cells #[v0, v1, v2] t)).alloc o) w) : Hid (Row3 w W.heap.size t v0 v1 v2) := Lib.hid (Row3.below (hp2 _ _ _) hb (Nat.le_refl _))
theorem rn1d (hb : Below ((W.alloc (.cells #[v0, v1, v2] t)).alloc o).drew.heap.size ((W.alloc (.cells #[v0, v1, v2] t)).alloc o).drew w) : Hid (Row3 w W.heap.size t v0 v1 v2) := Lib.hid (Row3.below (W := ((W.alloc (.cells #[v0, v1, v2] t)).alloc o).drew) (hp2 _ _ _) hb (Nat.le_refl _))
theorem rn2 (hb : Below (((W.alloc (.cells #[v0, v1, v2] t)).alloc o).alloc o').heap.size (((W.alloc (.cells #[v0, v1, v2] t)).alloc o).alloc o') w) : Hid (Row3 w W.heap.size t v0 v1 v2) := Lib.hid (Row3.below ((heap_alloc_old _ _ (by simp; omega)).trans (hp2 _ _ _)) hb (Nat.le_refl _))
theorem rn2d (hb : Below (((W.alloc (.cells #[v0, v1, v2] t)).alloc o).alloc o').drew.heap.size (((W.alloc (.cells #[v0, v1, v2] t)).alloc o).alloc o').drew w) : Hid (Row3 w W.heap.size t v0 v1 v2) := Lib.hid (Row3.below (W := (((W.alloc (.cells #[v0, v1, v2] t)).alloc o).alloc o').drew) ((heap_alloc_old _ _ (by simp; omega)).trans (hp2 _ _ _)) hb (Nat.le_refl _))
end
/-- what the copies of a tree look like -/
structure Old (w3 wx : World) (ks : List LK) (L : List Int) (win : Int) (n tb g1 g2 c1 c2 : Nat) : Prop where
  row : Row3 wx tb 28 (.slice (some ⟨g1, 0, none⟩) n c1) (.slice (some ⟨g2, 0, none⟩) n c2) (.int .i64 win)
  keys : CR wx g1 (keysV ks)
  lose : CR wx g2 (intsV L)
  new : w3.heap.size ≤ tb ∧ w3.heap.size ≤ g1 ∧ w3.heap.size ≤ g2
  below : Below w3.heap.size w3 wx
theorem own_of {w3 W1 w5 W2 w6 F : World} {ks : List LK} {L : List Int} {win : Int} {n tb g1 g2 c1 c2 : Nat} (hw : Below w3.heap.size w3 W1) (hb : Hid (Below W1.heap.size W1 w5)) (hm : Below w5.heap.size w5 W2) (hc : Hid (Below W2.heap.size W2 w6))
    (hF : Chg (fun k => k = tb) w6 F) (hg1 : Hid (W1.heap.size ≤ g1)) (hc1 : Hid (CR w5 g1 (keysV ks))) (hg2 : Hid (W2.heap.size ≤ g2)) (hc2 : Hid (CR w6 g2 (intsV L)))
    (ht : Row3 F tb 28 (.slice (some ⟨g1, 0, none⟩) n c1) (.slice (some ⟨g2, 0, none⟩) n c2) (.int .i64 win))
    (hn : w3.heap.size ≤ tb ∧ (tb < W1.heap.size ∨ (w5.heap.size ≤ tb ∧ tb < W2.heap.size) ∨ w6.heap.size ≤ tb)) : Old w3 F ks L win n tb g1 g2 c1 c2 := by
  have hb := hb.out; have hc := hc.out; have hg1 := hg1.out; have hg2 := hg2.out; have hc1 := hc1.out; have hc2 := hc2.out
  have s1 := hw.size; have s2 := hb.size; have s3 := hm.size; have s4 := hc.size
  have l1 := hc1.lt; have l2 := hc2.lt
  have h56 := eb_of hm hc (Nat.le_refl _)
  have s5 := h56.size
  have h36 := eb_of (eb_of hw hb (Nat.le_refl _)) h56 (Nat.le_refl _)
  exact ⟨ht, (hc1.below h56 l1).chg hF (fun e => by omega), hc2.chg hF (fun e => by omega), ⟨hn.1, by omega, by omega⟩, h36.trans (hF.below (fun k hk => by rw [hk]; exact hn.1) h36.size)⟩
/-- what Replace returns, seen from outside: a tree that is new, or an error -/
def RepNew (w : World) (n : Nat) (r : Int) (e : Ending) (w' : World) : Prop :=
  (r = 0 ∧ ∃ (kb lb cp cl : Nat) (wv gg : Int) (V1 V2 : List Value), e = .returned (.tuple #[.agg #[.slice (some ⟨kb, 0, none⟩) n cp, .slice (some ⟨lb, 0, none⟩) n cl, .int .i64 wv], .int .i64 gg, .int .i64 r]) ∧
    CR w' kb V1 ∧ V1.length = n * 2 ∧ CR w' lb V2 ∧ V2.length = n ∧ kb ≠ lb ∧ w.heap.size ≤ kb ∧ w.heap.size ≤ lb ∧ Below w.heap.size w w') ∨
  (r ≠ 0 ∧ e = .returned (.tuple #[.agg #[.slice none 0 0, .slice none 0 0, .int .i64 0], .int .i64 0, .int .i64 r]) ∧ Below w.heap.size w w')
theorem rep_new (B D : Option Addr) (c d : Nat) (ks : List LK) (k : ByteArray) (kd : Bool) (w : World) (hf : KsAt w B ks) (hg : IsAt w D (loL ks)) (hk : keysE ks = 0) :
    Calls Try.prog 33 #[.agg #[.slice B ks.length c, .slice D ks.length d, .int .i64 (wnr ks : Nat)], .agg #[.string k, .bool kd]] w (RepNew w ks.length (repE ks (k, kd))) := by
  by_cases h : repE ks (k, kd) = 0
  · refine (replace_ok B D c d ks k kd w hf hg hk h).mono ?_
    rintro e w' ⟨kb, lb, cp, cl, rfl, ht⟩
    exact .inl ⟨h, kb, lb, cp, cl, _, _, _, _, by rw [h], ht.keys, by rw [keysV_len, List.length_set], ht.lose, by rw [intsV_len, loL_len, List.length_set], ht.ne, ht.new.1, ht.new.2, ht.below⟩
  · exact (replace_no B D c d ks k kd w hf hg hk h).mono fun e w' g => .inr ⟨h, g.1, g.2⟩
set_option maxRecDepth 100000 in
set_option maxHeartbeats 4000000 in
theorem Own_any (A : Option Addr) (c : Nat) (ks : List LK) (k : ByteArray) (kd : Bool) (w : World) (hf : KsAt w A ks) (hn : ks.length ≤ 9223372036854775807) (hs : SizedL ks) (_ : ks.length ≤ c) (hnil : A = none → c = 0) (hkz : k.size ≤ 9223372036854775807) :
    Calls Try.prog 10 #[.slice A ks.length c, .agg #[.string k, .bool kd]] w fun e w' => e = .returned (.bool true) ∧ Below w.heap.size w w' := by
  have HX := boxK k kd w
  obtain ⟨x0, x1, x2, x3⟩ := HX.out _ (Below.refl _ _)
  have HB0 := Lib.hid x3
  have J := Lib.hid (far10_any A c ks _ (hf.below x3 (Nat.le_refl _)) hn hs)
  have JW := Lib.hid (fun w => awake10_any w)
  clear x2 x3
  cases hfar : farK ks with
  | true =>
    rw [hfar] at J
    clear hf hs hfar
    generalize ks.length = n at *
    go_enter Try.func10, Try.ntmps10
    go_wp2_with fail
    refine J.out.mono ?_
    rintro e w1 ⟨rfl, hb⟩
    have HB1 := Lib.hid (eb_of HB0.out hb (by simp))
    clear hb
    go_wp2_with fail
    refine (JW.out _).mono ?_
    rintro e w2 ⟨rfl, hb⟩
    have HB2 := Lib.hid (eb_of HB1.out hb (Nat.le_refl _))
    clear hb
    go_wp2_with fail
    go_ret
    exact ⟨rfl, HB2.out⟩
  | false =>
  rw [hfar] at J
  obtain ⟨hn40, _⟩ := farK_len hfar
  by_cases h100 : 100 < k.size
  · clear hf hs hfar
    generalize ks.length = n at *
    go_enter Try.func10, Try.ntmps10
    go_wp2_with fail
    refine J.out.mono ?_
    rintro e w1 ⟨rfl, hb⟩
    obtain ⟨x0, x1, x2, x3⟩ := HX.out _ hb
    have HB1 := Lib.hid x3
    clear hb x3
    go_wp2_with fail
    refine (JW.out _).mono ?_
    rintro e w2 ⟨rfl, hb⟩
    have HB2 := Lib.hid (eb_of HB1.out hb (Nat.le_refl _))
    clear hb
    go_wp2_with fail
    go_ret
    exact ⟨rfl, HB2.out⟩
  by_cases hk : keysE ks = 0
  rotate_left
  · have JB := Lib.hid (fun (B : Option Addr) (e : Nat) (w' : World) (h1 : KsAt w' B ks) => build_no B e ks w' h1 (by omega) hk)
    obtain ⟨b1, b2⟩ := ne_b hk
    have HKL := Lib.hid (keysV_len ks)
    obtain ⟨i0, hi, hz0, hz1, hz2⟩ := info_parts infoLK
    by_cases hne : ks = []
    · have HNIL := Lib.hid hne
      have HN0 : Hid (ks.length = 0) := Lib.hid (by rw [hne]; rfl)
      have HVE : Hid (keysV ks = []) := Lib.hid (by rw [hne]; rfl)
      clear hf hs hfar hk hne
      generalize keysE ks = r at *
      obtain ⟨n, hnn⟩ : ∃ n, ks.length = n := ⟨_, rfl⟩
      rw [hnn] at J JB HKL HN0 hn40 hn ⊢
      clear hnn
      have hnz := HN0.out
      cases A with
      | none =>
        obtain rfl : c = 0 := hnil rfl
        subst hnz
        go_enter Try.func10, Try.ntmps10
        go_wp2_with fail
        refine J.out.mono ?_
        rintro e w1 ⟨rfl, hb⟩
        obtain ⟨x0, x1, x2, x3⟩ := HX.out _ hb
        have HB1 := Lib.hid x3
        clear hb x3 J
        have hmade : (w1.alloc (.cells #[] 41)).ownsRow w1.heap.size 41 2 (.slice (some ⟨w1.heap.size, 0, none⟩) 0 0) 0 [] := World.ownsRow_made w1 #[] 0 (Nat.le_refl _) (Nat.zero_le _) rfl
        go_wp2_with (at_builtin; refine wpList_append_own_none rfl (.tmp 23) (.tmp 24) 26 rfl w1.heap.size 41 i0 2 Try.underlying26 hi (.slice (some ⟨w1.heap.size, 0, none⟩) 0 0) 0 [] rfl hmade rfl ?_)
        have JX := Lib.hid (JB.out (some ⟨w1.heap.size, 0, none⟩) 0 (w1.alloc (.cells #[] 41)) (.inl HNIL.out))
        have HB5 := Lib.hid (eb_of HB1.out (alloc_below w1 (.cells #[] 41)) (Nat.le_refl _))
        go_wp2_with fail
        refine JX.out.mono ?_
        rintro e w2 ⟨rfl, hb⟩
        have HB2 := Lib.hid (eb_of HB5.out hb (Nat.le_refl _))
        clear hb JX
        go_wp2_with fail
        refine (JW.out _).mono ?_
        rintro e w3 ⟨rfl, hb⟩
        have HB3 := Lib.hid (eb_of (eb_of HB2.out (alloc_below _ _) (Nat.le_refl _)) hb (Nat.le_refl _))
        clear hb
        go_wp2_with fail
        go_ret
        exact ⟨rfl, HB3.out⟩
      | some a =>
        clear hnz
        go_enter Try.func10, Try.ntmps10
        go_wp2_with fail
        refine J.out.mono ?_
        rintro e w1 ⟨rfl, hb⟩
        obtain ⟨x0, x1, x2, x3⟩ := HX.out _ hb
        have HB1 := Lib.hid x3
        clear hb x3 J
        have hmade : (w1.alloc (.cells #[] 41)).ownsRow w1.heap.size 41 2 (.slice (some ⟨w1.heap.size, 0, none⟩) 0 0) 0 [] := World.ownsRow_made w1 #[] 0 (Nat.le_refl _) (Nat.zero_le _) rfl
        go_wp2_with (at_builtin; refine wpList_append_own _ rfl (.tmp 23) (.tmp 24) 26 rfl w1.heap.size 41 i0 (.agg #[.string ⟨#[]⟩, .bool false]) 2 24 Try.underlying26 hi hz0 hz1 hz2 rfl (by decide) _ 0 [] rfl hmade a n c (keysV ks) rfl HKL.out (fun j u hj => by rw [HVE.out] at hj; simp at hj) (keysV_one _) (by unfold maxLen; omega) (by omega) (by simp) ?_; intro v' w5 hown hgr _; have hb1 : Below w1.heap.size w1 w5 := ((Below.refl w1.heap.size w1).alloc (Nat.le_refl _) _).grown hgr (by simp) (fun k hk => (hmade.lt k hk).1); have HB5 := Lib.hid (eb_of HB1.out hb1 (Nat.le_refl _)); rw [Nat.zero_add, List.nil_append] at hown; obtain ⟨oA, ocap, rfl, hko⟩ : ∃ g cap, v' = .slice g n cap ∧ KsAt w5 g ks := (by rcases hown.2 with ⟨hv, h0⟩ | ⟨g, cap, cur, hv, _⟩; exact ⟨none, 0, by rw [hv, HN0.out], .inl HNIL.out⟩; exact ⟨_, cap, hv, .inl HNIL.out⟩); clear hb1 hown hgr)
        have JX := Lib.hid (JB.out oA ocap w5 hko)
        clear hko
        refine JX.out.mono ?_
        rintro e w2 ⟨rfl, hb⟩
        have HB2 := Lib.hid (eb_of HB5.out hb (Nat.le_refl _))
        clear hb JX
        go_wp2_with fail
        refine (JW.out _).mono ?_
        rintro e w3 ⟨rfl, hb⟩
        have HB3 := Lib.hid (eb_of (eb_of HB2.out (alloc_below _ _) (Nat.le_refl _)) hb (Nat.le_refl _))
        clear hb
        go_wp2_with fail
        go_ret
        exact ⟨rfl, HB3.out⟩
    · have hnp : 0 < ks.length := List.length_pos_iff.2 hne
      obtain ⟨bb, off, rfl, hbl, hcell⟩ := hf.cells hne
      have HC := Lib.hid hcell
      clear hf hs hfar hk hne hcell
      generalize keysE ks = r at *
      obtain ⟨n, hnn⟩ : ∃ n, ks.length = n := ⟨_, rfl⟩
      rw [hnn] at J JB HKL hnp hn40 hn ⊢
      clear hnn
      go_enter Try.func10, Try.ntmps10
      go_wp2_with fail
      refine J.out.mono ?_
      rintro e w1 ⟨rfl, hb⟩
      obtain ⟨x0, x1, x2, x3⟩ := HX.out _ hb
      have HB1 := Lib.hid x3
      clear hb x3 J
      have hmade : (w1.alloc (.cells #[] 41)).ownsRow w1.heap.size 41 2 (.slice (some ⟨w1.heap.size, 0, none⟩) 0 0) 0 [] := World.ownsRow_made w1 #[] 0 (Nat.le_refl _) (Nat.zero_le _) rfl
      go_wp2_with (at_builtin; refine wpList_append_own _ rfl (.tmp 23) (.tmp 24) 26 rfl w1.heap.size 41 i0 (.agg #[.string ⟨#[]⟩, .bool false]) 2 24 Try.underlying26 hi hz0 hz1 hz2 rfl (by decide) _ 0 [] rfl hmade ⟨bb, off, none⟩ n c (keysV ks) rfl HKL.out (fun j u hj => by rw [add_at']; exact Lib.cell?_alloc_some _ (((HB1.out.cell (p := ⟨bb, off + j, none⟩) hbl)).trans (HC.out j u hj))) (keysV_one _) (by unfold maxLen; omega) (by omega) (by simp) ?_; intro v' w5 hown hgr _; have hb1 : Below w1.heap.size w1 w5 := ((Below.refl w1.heap.size w1).alloc (Nat.le_refl _) _).grown hgr (by simp) (fun k hk => (hmade.lt k hk).1); have HB5 := Lib.hid (eb_of HB1.out hb1 (Nat.le_refl _)); rw [Nat.zero_add, List.nil_append] at hown; obtain ⟨oA, ocap, rfl, hko⟩ : ∃ g cap, v' = .slice g n cap ∧ KsAt w5 g ks := (by rcases hown.2 with ⟨_, h0⟩ | ⟨g, cap, cur, hv, _⟩; exact absurd h0 (by omega); exact ⟨_, cap, hv, by subst hv; exact (CR.of_own hown (hown.lt g rfl).2).ks⟩); clear hb1 hown hgr)
      have JX := Lib.hid (JB.out oA ocap w5 hko)
      clear hko
      refine JX.out.mono ?_
      rintro e w2 ⟨rfl, hb⟩
      have HB2 := Lib.hid (eb_of HB5.out hb (Nat.le_refl _))
      clear hb JX
      go_wp2_with fail
      refine (JW.out _).mono ?_
      rintro e w3 ⟨rfl, hb⟩
      have HB3 := Lib.hid (eb_of (eb_of HB2.out (alloc_below _ _) (Nat.le_refl _)) hb (Nat.le_refl _))
      clear hb
      go_wp2_with fail
      go_ret
      exact ⟨rfl, HB3.out⟩
  obtain ⟨h1, h32, hall⟩ := keysE_ok hk
  have hne : ks ≠ [] := fun e => by subst e; simp at h1
  obtain ⟨bb, off, rfl, hbl, hcell⟩ := hf.cells hne
  have HC := Lib.hid hcell
  have HKL := Lib.hid (keysV_len ks)
  obtain ⟨i0, hi, hz0, hz1, hz2⟩ := info_parts infoLK
  obtain ⟨i1, hj, hy0, hy1, hy2⟩ := info_parts infoIn
  have HIL : Hid ((intsV (loL ks)).length = ks.length * 1) := Lib.hid (by simp [intsV, loL_len])
  have JB := Lib.hid (fun (B : Option Addr) (e : Nat) (w' : World) (h1 : KsAt w' B ks) => build_ok B e ks w' h1 hk)
  have JR : Hid (∀ (B D : Option Addr) (e d : Nat) (w' : World), KsAt w' B ks → IsAt w' D (loL ks) → Calls Try.prog 33 #[.agg #[.slice B ks.length e, .slice D ks.length d, .int .i64 (wnr ks : Nat)], .agg #[.string k, .bool kd]] w' (RepNew w' ks.length (repE ks (k, kd)))) := Lib.hid (fun B D e d w' h1 h2 => rep_new B D e d ks k kd w' h1 h2 hk)
  have JS := Lib.hid (fun (B B' D D' : Option Addr) (e e' d d' : Nat) (w' : World) (h1 : KsAt w' B ks) (h2 : KsAt w' B' ks) (h3 : IsAt w' D (loL ks)) (h4 : IsAt w' D' (loL ks)) => by
    have K := same_eq B B' D D' e e' d d' ks (loL ks) (wnr ks : Nat) w' h1 h2 h3 h4 (by omega) (by rw [loL_len]; omega)
    rw [loL_len] at K; exact K)
  generalize repE ks (k, kd) = r at *
  clear hf hs hfar hk hall hne hcell
  obtain ⟨n, hnn⟩ : ∃ n, ks.length = n := ⟨_, rfl⟩
  obtain ⟨LL, hLL⟩ : ∃ LL, loL ks = LL := ⟨_, rfl⟩
  obtain ⟨ww, hww⟩ : ∃ ww, wnr ks = ww := ⟨_, rfl⟩
  rw [hnn] at J h1 h32 hn40 hn HKL HIL ⊢
  rw [hnn, hLL, hww] at JB JR JS
  rw [hLL] at HIL
  have HN := Lib.hid hnn
  clear hnn hLL hww
  go_enter Try.func10, Try.ntmps10
  go_wp2_with fail
  refine J.out.mono ?_
  rintro e w1 ⟨rfl, hb⟩
  obtain ⟨x0, x1, x2, x3⟩ := HX.out _ hb
  have HB1 := Lib.hid x3
  have HB1' := Lib.hid hb
  clear hb x3 J
  have hmade : (w1.alloc (.cells #[] 41)).ownsRow w1.heap.size 41 2 (.slice (some ⟨w1.heap.size, 0, none⟩) 0 0) 0 [] := World.ownsRow_made w1 #[] 0 (Nat.le_refl _) (Nat.zero_le _) rfl
  go_wp2_with (at_builtin; refine wpList_append_own _ rfl (.tmp 23) (.tmp 24) 26 rfl w1.heap.size 41 i0 (.agg #[.string ⟨#[]⟩, .bool false]) 2 24 Try.underlying26 hi hz0 hz1 hz2 rfl (by decide) _ 0 [] rfl hmade ⟨bb, off, none⟩ n c (keysV ks) rfl HKL.out (fun j u hj => by rw [add_at']; exact Lib.cell?_alloc_some _ (((HB1.out.cell (p := ⟨bb, off + j, none⟩) hbl)).trans (HC.out j u hj))) (keysV_one _) (by unfold maxLen; omega) (by omega) (by simp) ?_; intro v' w5 hown hgr _; have hb1 : Below w1.heap.size w1 w5 := ((Below.refl w1.heap.size w1).alloc (Nat.le_refl _) _).grown hgr (by simp) (fun k hk => (hmade.lt k hk).1); have HB5 := Lib.hid hb1; rw [Nat.zero_add, List.nil_append] at hown; obtain ⟨ob, ocap, rfl⟩ : ∃ g cap, v' = .slice (some ⟨g, 0, none⟩) n cap := (by rcases hown.2 with ⟨_, h0⟩ | ⟨g, cap, cur, hv, _⟩; exact absurd h0 (by omega); exact ⟨g, cap, hv⟩); have HOG := Lib.hid (hown.lt ob rfl).1; have HOW := Lib.hid (CR.of_own hown (hown.lt ob rfl).2); clear hb1 hown hgr)
  have HB5' := Lib.hid (eb_of HB1'.out HB5.out (Nat.le_refl _))
  refine (JB.out _ ocap w5 HOW.out.ks).mono ?_
  rintro e w2 ⟨kb, lb, cp, cl, rfl, ht⟩
  have HT := Lib.hid ht
  have HB2' := Lib.hid (eb_of HB5'.out ht.below (Nat.le_refl _))
  clear ht JB hmade x0 x1 x2
  obtain ⟨w3, hw3⟩ : ∃ w3, w3 = w2.alloc (.cells #[.slice (some ⟨kb, 0, none⟩) n cp, .slice (some ⟨lb, 0, none⟩) n cl, .int .i64 (ww : Int)] 28) := ⟨_, rfl⟩
  have HA3 : Hid (Below w2.heap.size w2 w3) := Lib.hid (hw3 ▸ alloc_below _ _)
  have HB3' := Lib.hid (eb_of HB2'.out HA3.out (Nat.le_refl _))
  have HRW : Hid (Row3 w3 w2.heap.size 28 (.slice (some ⟨kb, 0, none⟩) n cp) (.slice (some ⟨lb, 0, none⟩) n cl) (.int .i64 (ww : Int))) := Lib.hid (hw3 ▸ heap_alloc_new w2 _)
  have KC : Hid (∀ w', Below w3.heap.size w3 w' → ∀ j u, (keysV ks)[j]? = some u → w'.cell? ((⟨kb, 0, none⟩ : Addr).add j) = some u) := Lib.hid (fun w' h j u hu => by
    have hk := HT.out.keys.below HA3.out HT.out.keys.lt
    obtain ⟨hj, rfl⟩ := List.getElem?_eq_some_iff.1 hu
    rw [add_at', Nat.zero_add]; exact (hk.below h hk.lt).cell j hj)
  have LC : Hid (∀ w', Below w3.heap.size w3 w' → ∀ j u, (intsV LL)[j]? = some u → w'.cell? ((⟨lb, 0, none⟩ : Addr).add j) = some u) := Lib.hid (fun w' h j u hu => by
    have hk := HT.out.lose.below HA3.out HT.out.lose.lt
    obtain ⟨hj, rfl⟩ := List.getElem?_eq_some_iff.1 hu
    rw [add_at', Nat.zero_add]; exact (hk.below h hk.lt).cell j hj)
  have HTC : Hid (∀ w', Below w3.heap.size w3 w' → w'.cell? ⟨w2.heap.size, 0, none⟩ = some (.slice (some ⟨kb, 0, none⟩) n cp) ∧ w'.cell? ⟨w2.heap.size, 1, none⟩ = some (.slice (some ⟨lb, 0, none⟩) n cl) ∧ w'.cell? ⟨w2.heap.size, 2, none⟩ = some (.int .i64 (ww : Int))) := Lib.hid (fun w' h => by
    have hr := HRW.out.below h (Nat.le_refl _)
    exact ⟨hr.c0, hr.c1, hr.c2⟩)
  have hlt3 : w2.heap.size < w3.heap.size := HRW.out.lt
  go_upto_region 7 with fail
  rw [← hw3]
  clear hw3
  obtain ⟨t0, t1, t2⟩ := HTC.out w3 (Below.refl _ _)
  go_cut [8] (fun ov wx => ∃ tb g1 g2 c1 c2, ov = .pointer (some ⟨tb, 0, none⟩) ∧ Old w3 wx ks LL (ww : Int) n tb g1 g2 c1 c2)
  case first =>
    clear HX HB0 JW HC HB1 HB1' HB5 HB5' HT HB2' HA3 HB3' HRW HOG HOW HN
    have HS : Hid (∀ w', Below w3.heap.size w3 w' → Below w3.heap.size w3 w' ∧ w'.cell? ⟨w2.heap.size, 0, none⟩ = some (.slice (some ⟨kb, 0, none⟩) n cp) ∧ w'.cell? ⟨w2.heap.size, 1, none⟩ = some (.slice (some ⟨lb, 0, none⟩) n cl) ∧ w'.cell? ⟨w2.heap.size, 2, none⟩ = some (.int .i64 (ww : Int))) := Lib.hid (fun w' h => ⟨h, HTC.out w' h⟩)
    have HFF := Lib.hid (Below.refl w3.heap.size w3)
    clear t0 t1 t2
    go_region_held3 (fun w' => Below w3.heap.size w3 w' ∧ w'.cell? ⟨w2.heap.size, 0, none⟩ = some (.slice (some ⟨kb, 0, none⟩) n cp) ∧ w'.cell? ⟨w2.heap.size, 1, none⟩ = some (.slice (some ⟨lb, 0, none⟩) n cl) ∧ w'.cell? ⟨w2.heap.size, 2, none⟩ = some (.int .i64 (ww : Int)))
      ((refine HS.out _ ?_; repeat (first | with_reducible assumption | with_reducible exact HFF.out | with_reducible refine bA ?_ _ | with_reducible refine bD ?_ | (with_reducible refine bS3 (by assumption) ?_ _ _ _; first | exact Nat.le_refl _ | exact Below.size (by assumption) | (have := Below.size hbW5; omega) | omega))))
      (first
        | (have hq := HB5.out; clear hq; refine step_append_grows (by rfl) _ _ 25 (by rfl) 3 i1 (.int .i64 0) 1 8 Try.underlying25 hj hy0 hy1 hy2 rfl (by decide) _ 0 0 [] (by rfl) (fun _ => ⟨rfl, rfl⟩) rfl (fun _ _ j u hj => by simp at hj) ⟨lb, 0, none⟩ n cl (intsV LL) (by rfl) HIL.out (LC.out _ (by repeat (first | with_reducible assumption | with_reducible exact Below.refl _ _ | with_reducible refine bA ?_ _ | with_reducible refine bD ?_))) (intsV_one _) (by omega) (by unfold maxLen; omega) (by omega) ?_; intro v2 w6 hown hgrow; rw [Nat.zero_add, List.nil_append] at hown; obtain ⟨g2, c2, rfl⟩ : ∃ g cap, v2 = .slice (some ⟨g, 0, none⟩) n cap := (by rcases hown.2 with ⟨_, h0⟩ | ⟨g, cap, cur, hv, _⟩; exact absurd h0 (by omega); exact ⟨g, cap, hv⟩); have HG2 := Lib.hid (hown.lt g2 rfl).1; have HC2 := Lib.hid (CR.of_own hown (hown.lt g2 rfl).2); have hb6 := (Below.refl _ _).grown hgrow (Nat.le_refl _) (fun k hk => by cases hk); have HB6 := Lib.hid hb6; have hbW6 : Below w3.heap.size w3 w6 := eb_of (by repeat (first | with_reducible assumption | with_reducible exact Below.refl _ _ | with_reducible refine bA ?_ _ | with_reducible refine bD ?_)) hb6 (Nat.le_refl _); (first | with_reducible (have HT6 : Hid (Row3 w6 _ 28 (.slice none 0 0) (.slice none 0 0) (.int .i64 0)) := rn0 hb6) | with_reducible (have HT6 : Hid (Row3 w6 _ 28 (.slice none 0 0) (.slice none 0 0) (.int .i64 0)) := rn0d hb6) | with_reducible (have HT6 : Hid (Row3 w6 _ 28 (.slice none 0 0) (.slice none 0 0) (.int .i64 0)) := rn1 hb6) | with_reducible (have HT6 : Hid (Row3 w6 _ 28 (.slice none 0 0) (.slice none 0 0) (.int .i64 0)) := rn1d hb6) | with_reducible (have HT6 : Hid (Row3 w6 _ 28 (.slice none 0 0) (.slice none 0 0) (.int .i64 0)) := rn2 hb6) | with_reducible (have HT6 : Hid (Row3 w6 _ 28 (.slice none 0 0) (.slice none 0 0) (.int .i64 0)) := rn2d hb6) | (have HT6 := Lib.hid (HT5.out.below (eb_of (w1 := _) (by repeat (first | with_reducible exact Below.refl w5.heap.size w5 | with_reducible refine bA ?_ _ | with_reducible refine bD ?_)) hb6 (Nat.le_refl _)) (Nat.le_refl _))) | skip); (try simp only [World.size_alloc, hdr] at HT6); (try (have k0 := HT6.out.c0; have k1 := HT6.out.c1; have k2 := HT6.out.c2; have z0 := HT6.out.fz 0; have z1 := HT6.out.fz 1; have z2 := HT6.out.fz 2)); clear hb6 hown hgrow)
        | (refine step_append_grows (by rfl) _ _ 26 (by rfl) 41 i0 (.agg #[.string ⟨#[]⟩, .bool false]) 2 24 Try.underlying26 hi hz0 hz1 hz2 rfl (by decide) _ 0 0 [] (by rfl) (fun _ => ⟨rfl, rfl⟩) rfl (fun _ _ j u hj => by simp at hj) ⟨kb, 0, none⟩ n cp (keysV ks) (by rfl) HKL.out (KC.out _ (by repeat (first | with_reducible assumption | with_reducible exact Below.refl _ _ | with_reducible refine bA ?_ _ | with_reducible refine bD ?_))) (keysV_one _) (by omega) (by unfold maxLen; omega) (by omega) ?_; intro v1 w5 hown hgrow; rw [Nat.zero_add, List.nil_append] at hown; obtain ⟨g1, c1, rfl⟩ : ∃ g cap, v1 = .slice (some ⟨g, 0, none⟩) n cap := (by rcases hown.2 with ⟨_, h0⟩ | ⟨g, cap, cur, hv, _⟩; exact absurd h0 (by omega); exact ⟨g, cap, hv⟩); have HG1 := Lib.hid (hown.lt g1 rfl).1; have HC1 := Lib.hid (CR.of_own hown (hown.lt g1 rfl).2); have hb5 := (Below.refl _ _).grown hgrow (Nat.le_refl _) (fun k hk => by cases hk); have HB5 := Lib.hid hb5; have hbW5 : Below w3.heap.size w3 w5 := eb_of (by repeat (first | with_reducible assumption | with_reducible exact Below.refl _ _ | with_reducible refine bA ?_ _ | with_reducible refine bD ?_)) hb5 (Nat.le_refl _); (first | with_reducible (have HT5 : Hid (Row3 w5 _ 28 (.slice none 0 0) (.slice none 0 0) (.int .i64 0)) := rn0 hb5) | with_reducible (have HT5 : Hid (Row3 w5 _ 28 (.slice none 0 0) (.slice none 0 0) (.int .i64 0)) := rn0d hb5) | with_reducible (have HT5 : Hid (Row3 w5 _ 28 (.slice none 0 0) (.slice none 0 0) (.int .i64 0)) := rn1 hb5) | with_reducible (have HT5 : Hid (Row3 w5 _ 28 (.slice none 0 0) (.slice none 0 0) (.int .i64 0)) := rn1d hb5) | with_reducible (have HT5 : Hid (Row3 w5 _ 28 (.slice none 0 0) (.slice none 0 0) (.int .i64 0)) := rn2 hb5) | with_reducible (have HT5 : Hid (Row3 w5 _ 28 (.slice none 0 0) (.slice none 0 0) (.int .i64 0)) := rn2d hb5) | skip); (try simp only [World.size_alloc, hdr] at HT5); clear hb5 hown hgrow))
    all_goals
      go_wp2_with fail
      go_meet
      first
        | (exact ⟨_, g1, g2, c1, c2, rfl, own_of (by repeat (first | with_reducible exact Below.refl _ _ | with_reducible refine bA ?_ _ | with_reducible refine bD ?_)) HB5 (by repeat (first | with_reducible exact Below.refl _ _ | with_reducible refine bA ?_ _ | with_reducible refine bD ?_)) HB6 (Chg.of_below (alloc_below _ _)) HG1 HC1 HG2 HC2 (heap_alloc_new _ _) (by have t5 := HB5.out.size; have t6 := HB6.out.size; have s5 := hbW5.size; have s6 := hbW6.size; (try simp only [World.size_alloc, hdr] at t5 t6 ⊢); refine ⟨?_, ?_⟩ <;> omega)⟩)
        | (exact ⟨_, g1, g2, c1, c2, rfl, own_of (by repeat (first | with_reducible exact Below.refl _ _ | with_reducible refine bA ?_ _ | with_reducible refine bD ?_)) HB5 (by repeat (first | with_reducible exact Below.refl _ _ | with_reducible refine bA ?_ _ | with_reducible refine bD ?_)) HB6 (set3C w6 _ (.slice (some ⟨g1, 0, none⟩) n c1) (.slice (some ⟨g2, 0, none⟩) n c2) (.int .i64 (ww : Int))) HG1 HC1 HG2 HC2 (HT6.out.set (.slice (some ⟨g1, 0, none⟩) n c1) (.slice (some ⟨g2, 0, none⟩) n c2) (.int .i64 (ww : Int))) (by have t5 := HB5.out.size; have t6 := HB6.out.size; have s5 := hbW5.size; have s6 := hbW6.size; (try simp only [World.size_alloc, hdr] at t5 t6 ⊢); refine ⟨?_, ?_⟩ <;> omega)⟩)
  case rest =>
    obtain ⟨tb, g1, g2, c1, c2, rfl, hO⟩ := hcut
    have HOB := hO.below
    have hobw := HB5.out.size
    have hltT := HT.out.below.size
    have hsz3 := HA3.out.size
    have hOB1 := HOG.out
    have hOB2 := HOW.out.lt
    have hkn := HT.out.new
    have HKC := Lib.hid ((HT.out.keys.below HA3.out HT.out.keys.lt).below HOB (HT.out.keys.below HA3.out HT.out.keys.lt).lt)
    have HLC := Lib.hid ((HT.out.lose.below HA3.out HT.out.lose.lt).below HOB (HT.out.lose.below HA3.out HT.out.lose.lt).lt)
    have HRC := Lib.hid (HRW.out.below HOB (Nat.le_refl _))
    have hw5w3 : Below w5.heap.size w5 w3 := eb_of HT.out.below HA3.out (Nat.le_refl _)
    have HOC := Lib.hid ((HOW.out.below hw5w3 hOB2).below HOB (Nat.lt_of_lt_of_le hOB2 hw5w3.size))
    have HOR := Lib.hid hO.row
    have HOK := Lib.hid hO.keys
    have HOL := Lib.hid hO.lose
    have HWC := Lib.hid (eb_of HB3'.out HOB (Nat.le_refl _))
    have hw0 : w.heap.size < w1.heap.size := by have := HB1'.out.size; simp at this; omega
    have hNE : ob < w5.heap.size ∧ w5.heap.size ≤ kb ∧ w5.heap.size ≤ lb ∧ w5.heap.size ≤ w2.heap.size ∧ w3.heap.size ≤ tb ∧ w3.heap.size ≤ g1 ∧ w3.heap.size ≤ g2 ∧ w2.heap.size < w3.heap.size ∧ w.heap.size < ob ∧ w3.heap.size ≤ wc.heap.size := ⟨hOB2, hkn.1, hkn.2, hltT, hO.new.1, hO.new.2.1, hO.new.2.2, hlt3, by omega, HOB.size⟩
    have HNE := Lib.hid hNE
    clear hO HOB hobw hltT hsz3 hOB1 hOB2 hkn hNE KC LC HTC HT HA3 HRW HOW HOG hw5w3 HB5 HB5' HB2' HB3'
    obtain ⟨y0, y1, y2, y3⟩ := HX.out _ HWC.out
    have HB := Lib.hid y3
    have c0 := HRC.out.c0
    have c1' := HRC.out.c1
    have c2' := HRC.out.c2
    go_wp2_with fail
    have hwcs := HWC.out.size
    refine (JR.out _ _ cp cl wc HKC.out.ks HLC.out.is).mono ?_
    rintro e w6 hrep
    rcases hrep with ⟨hr0, kb', lb', cp', cl', wv, gg, V1, V2, rfl, hv1, hl1, hv2, hl2, hne', hn1, hn2, hb⟩ | ⟨hr0, rfl, hb⟩
    · subst hr0
      have HN1 := Lib.hid (show wc.heap.size ≤ kb' ∧ wc.heap.size ≤ lb' ∧ kb' ≠ lb' from ⟨hn1, hn2, hne'⟩)
      have HL1 := Lib.hid (And.intro hl1 hl2)
      have HN2 := Lib.hid (And.intro hv1.lt hv2.lt)
      clear hl1 hl2 hne' hn1 hn2
      have H6 : Hid (Below wc.heap.size wc w6) := Lib.hid hb
      clear hb
      obtain ⟨w7, hw7⟩ : ∃ w7, w7 = w6.alloc (.cells #[.slice (some ⟨kb', 0, none⟩) n cp', .slice (some ⟨lb', 0, none⟩) n cl', .int .i64 wv] 28) := ⟨_, rfl⟩
      have H67 : Hid (Below w6.heap.size w6 w7) := Lib.hid (hw7 ▸ alloc_below _ _)
      have H7 := Lib.hid (eb_of H6.out H67.out (Nat.le_refl _))
      have HU : Hid (Row3 w7 w6.heap.size 28 (.slice (some ⟨kb', 0, none⟩) n cp') (.slice (some ⟨lb', 0, none⟩) n cl') (.int .i64 wv)) := Lib.hid (hw7 ▸ heap_alloc_new w6 _)
      have HQ : Hid (∀ w', Chg (fun k => k = ob ∨ k = kb' ∨ k = lb') w7 w' → Row3 w' w2.heap.size 28 (.slice (some ⟨kb, 0, none⟩) n cp) (.slice (some ⟨lb, 0, none⟩) n cl) (.int .i64 (ww : Int)) ∧ Row3 w' tb 28 (.slice (some ⟨g1, 0, none⟩) n c1) (.slice (some ⟨g2, 0, none⟩) n c2) (.int .i64 (ww : Int)) ∧ KsAt w' (some ⟨kb, 0, none⟩) ks ∧ IsAt w' (some ⟨lb, 0, none⟩) LL ∧ KsAt w' (some ⟨g1, 0, none⟩) ks ∧ IsAt w' (some ⟨g2, 0, none⟩) LL ∧ Row3 w' w6.heap.size 28 (.slice (some ⟨kb', 0, none⟩) n cp') (.slice (some ⟨lb', 0, none⟩) n cl') (.int .i64 wv) ∧ Below w.heap.size w w') := Lib.hid (fun w' h => by
        have hn := HNE.out
        have l1 := HKC.out.lt
        have l2 := HLC.out.lt
        have l3 := HRC.out.lt
        have l4 := HOR.out.lt
        have l5 := HOK.out.lt
        have l6 := HOL.out.lt
        have l7 := HU.out.lt
        have l8 := H6.out.size
        have l9 := HN1.out
        have l10 := HN2.out
        have hbw := eb_of HB.out H7.out (Nat.le_refl _)
        exact ⟨(HRC.out.below H7.out (Nat.le_refl _)).chg h (by omega), (HOR.out.below H7.out (Nat.le_refl _)).chg h (by omega), ((HKC.out.below H7.out l1).chg h (by omega)).ks, ((HLC.out.below H7.out l2).chg h (by omega)).is, ((HOK.out.below H7.out l5).chg h (by omega)).ks, ((HOL.out.below H7.out l6).chg h (by omega)).is, HU.out.chg h (by omega), hbw.trans (h.below (fun k hk => by have := HB.out.size; omega) hbw.size)⟩)
      have HOC7 := Lib.hid (HOC.out.below H7.out HOC.out.lt)
      have HV1 := Lib.hid (hv1.below H67.out hv1.lt)
      have HV2 := Lib.hid (hv2.below H67.out hv2.lt)
      clear hv1 hv2
      obtain ⟨q0, q1, q2, q3, q4, q5, q6, q7⟩ := HQ.out w7 (Chg.refl _)
      have a0 := q0.c0
      have a1 := q0.c1
      have a2 := q0.c2
      have b0 := q1.c0
      have b1 := q1.c1
      have b2 := q1.c2
      have JX := Lib.hid (JS.out _ _ _ _ cp c1 cl c2 w7 q2 q4 q3 q5)
      clear q0 q1 q2 q3 q4 q5 q6 q7 H6 HKC HLC HRC HOR HOK HOL HOC HB
      rw [hw7] at a0 a1 a2 b0 b1 b2
      go_wp2_with fail
      rw [← hw7]
      clear hw7 a0 a1 a2 b0 b1 b2 c0 c1' c2'
      refine JX.out.mono ?_
      rintro e w8 ⟨rfl, hb⟩
      have H8 := Lib.hid hb
      have HO8 := Lib.hid (HOC7.out.below hb HOC7.out.lt)
      have HV1' := Lib.hid (HV1.out.below hb HV1.out.lt)
      have HV2' := Lib.hid (HV2.out.below hb HV2.out.lt)
      clear HV1 HV2
      clear hb JX HOC7
      go_wp2_with fail
      go_loopw [12] (fun iv wr => ∃ i : Nat, iv = .int .i64 i ∧ i ≤ n ∧ Hid (∃ V : List Value, V.length = n * 2 ∧ CR wr ob V ∧ Chg (fun k => k = ob) w8 wr)) (fun iv _ => n - (intOf iv).toNat)
      case atStart => exact ⟨0, rfl, Nat.zero_le _, Lib.hid ⟨_, HKL.out, HO8.out, Chg.refl _⟩⟩
      case round =>
        obtain ⟨i, rfl, hin, HS⟩ := hrel
        obtain ⟨V, hV1, hV2, hV3⟩ := HS.out
        by_cases hlt : i < n
        · obtain ⟨z0, e0⟩ : ∃ z, wr.cell? ⟨ob, i * 2, none⟩ = some z := ⟨_, hV2.cell (i * 2) (by omega)⟩
          obtain ⟨z1, e1⟩ : ∃ z, wr.cell? ⟨ob, i * 2 + 1, none⟩ = some z := ⟨_, hV2.cell (i * 2 + 1) (by omega)⟩
          have f0 := hV2.frz (i * 2) (by omega)
          have f1 := hV2.frz (i * 2 + 1) (by omega)
          have hgl := hV2.lt
          have HCR2 := Lib.hid ((hV2.set (i := i * 2) (by omega) (.string "changed".toUTF8)).set (i := i * 2 + 1) (by simp; omega) (.bool false))
          have HCH := Lib.hid hV3
          have HVL := Lib.hid hV1
          clear hV1 hV2 hV3 HS
          go_wp2_with fail
          go_roundw
          case rel => exact ⟨i + 1, by go_num, by omega, Lib.hid ⟨_, by simp [HVL.out], HCR2.out, HCH.out.trans ((chg_set ob (i * 2) _).trans (chg_set ob (i * 2 + 1) _))⟩⟩
          case measure => simp [intOf]; omega
        · obtain rfl : i = n := by omega
          have HCH := Lib.hid hV3
          clear hV1 hV2 hV3 HS
          generalize wr = w9 at *
          have HK9 := Lib.hid (HV1'.out.chg HCH.out (by have := HNE.out; have := HN1.out; omega))
          have HL9 := Lib.hid (HV2'.out.chg HCH.out (by have := HNE.out; have := HN1.out; omega))
          have HC9 := Lib.hid (HCH.out.mono (T := fun k => k = ob ∨ k = kb' ∨ k = lb') (fun k hk => .inl hk))
          obtain ⟨q0, q1, q2, q3, q4, q5, q6, q7⟩ := HQ.out w9 ((Chg.of_below H8.out).trans HC9.out)
          have u0 := q6.c0
          clear q0 q1 q2 q3 q4 q5 q6 q7
          go_wp2_with fail
          go_loopw [13] (fun iv wr => ∃ j : Nat, iv = .int .i64 j ∧ j ≤ i ∧ Hid (∃ W1 W2 : List Value, W1.length = i * 2 ∧ W2.length = i ∧ CR wr kb' W1 ∧ CR wr lb' W2 ∧ Chg (fun k => k = ob ∨ k = kb' ∨ k = lb') w9 wr)) (fun iv _ => i - (intOf iv).toNat)
          case atStart => exact ⟨0, rfl, Nat.zero_le _, Lib.hid ⟨V1, V2, HL1.out.1, HL1.out.2, HK9.out, HL9.out, Chg.refl _⟩⟩
          case round =>
            obtain ⟨j, rfl, hji, HS2⟩ := hrel
            obtain ⟨W1, W2, m1, m2, m3, m4, m5⟩ := HS2.out
            obtain ⟨q0, q1, q2, q3, q4, q5, q6, q7⟩ := HQ.out wr (((Chg.of_below H8.out).trans HC9.out).trans m5)
            have u0 := q6.c0
            have u1 := q6.c1
            by_cases hlt2 : j < i
            · obtain ⟨z0, e0⟩ : ∃ z, wr.cell? ⟨kb', j * 2, none⟩ = some z := ⟨_, m3.cell (j * 2) (by omega)⟩
              obtain ⟨z1, e1⟩ : ∃ z, wr.cell? ⟨kb', j * 2 + 1, none⟩ = some z := ⟨_, m3.cell (j * 2 + 1) (by omega)⟩
              have f0 := m3.frz (j * 2) (by omega)
              have f1 := m3.frz (j * 2 + 1) (by omega)
              obtain ⟨z2, e2⟩ : ∃ z, wr.cell? ⟨lb', j, none⟩ = some z := ⟨_, m4.cell j (by omega)⟩
              have f2 := m4.frz j (by omega)
              have hgl := m3.lt
              have hgl2 := m4.lt
              obtain ⟨n1, n2, n3⟩ := HN1.out
              have HM := Lib.hid m5
              have HM3 := Lib.hid m3
              have HM4 := Lib.hid m4
              have HML := Lib.hid (And.intro m1 m2)
              have hx1 : kb' ≠ w6.heap.size := by have := HN1.out; have := HN2.out; omega
              have hx2 : lb' ≠ w6.heap.size := by have := HN1.out; have := HN2.out; omega
              have hx3 : w6.heap.size ≠ kb' := fun e => hx1 e.symm
              have hx4 : w6.heap.size ≠ lb' := fun e => hx2 e.symm
              have hx5 : lb' ≠ kb' := fun e => n3 e.symm
              have hub := q6.lt
              have HFW : Hid (∀ w', Below wr.heap.size wr w' → CR (((w'.setCell ⟨kb', j * 2, none⟩ (.string ⟨#[99, 104, 97, 110, 103, 101, 100]⟩)).setCell ⟨kb', j * 2 + 1, none⟩ (.bool false)).setCell ⟨lb', j, none⟩ (.int .i64 (-1))) kb' ((W1.set (j * 2) (.string ⟨#[99, 104, 97, 110, 103, 101, 100]⟩)).set (j * 2 + 1) (.bool false)) ∧
                  CR (((w'.setCell ⟨kb', j * 2, none⟩ (.string ⟨#[99, 104, 97, 110, 103, 101, 100]⟩)).setCell ⟨kb', j * 2 + 1, none⟩ (.bool false)).setCell ⟨lb', j, none⟩ (.int .i64 (-1))) lb' (W2.set j (.int .i64 (-1))) ∧
                  Chg (fun k => k = ob ∨ k = kb' ∨ k = lb') w9 (((w'.setCell ⟨kb', j * 2, none⟩ (.string ⟨#[99, 104, 97, 110, 103, 101, 100]⟩)).setCell ⟨kb', j * 2 + 1, none⟩ (.bool false)).setCell ⟨lb', j, none⟩ (.int .i64 (-1)))) := Lib.hid (fun w' h => by
                have a1 := m3.below h m3.lt
                have a2 := m4.below h m4.lt
                have p1 := (a1.set (i := j * 2) (by omega) (.string ⟨#[99, 104, 97, 110, 103, 101, 100]⟩)).set (i := j * 2 + 1) (by simp; omega) (.bool false)
                have hc1 := (chg_set (w := w') kb' (j * 2) (.string ⟨#[99, 104, 97, 110, 103, 101, 100]⟩)).trans (chg_set kb' (j * 2 + 1) (.bool false))
                have p2 := (a2.chg hc1 (fun e => n3 e.symm)).set (i := j) (by omega) (.int .i64 (-1))
                exact ⟨p1.chg (chg_set lb' j _) n3, p2, ((m5.trans (Chg.of_below h)).trans (hc1.mono (T := fun k => k = ob ∨ k = kb' ∨ k = lb') (fun k hk => .inr (.inl hk)))).trans ((chg_set lb' j _).mono (fun k hk => .inr (.inr hk)))⟩)
              clear m1 m2 m3 m4 m5 HS2 q0 q1 q2 q3 q4 q5 q6 q7
              go_wp2_with fail
              go_region_with (fail)
              all_goals
                go_wp2_with fail
                go_roundw
                case rel =>
                  obtain ⟨p1, p2, p3⟩ := HFW.out _ (by first | exact (Below.refl _ _).drew | exact Below.refl _ _ | exact below_drewN' 1)
                  exact ⟨j + 1, by go_num, by omega, Lib.hid ⟨_, _, by simp [HML.out.1], by simp [HML.out.2], p1, p2, p3⟩⟩
                case measure => simp [intOf]; omega
            · obtain rfl : j = i := by omega
              have a0 := q0.c0
              have a1 := q0.c1
              have a2 := q0.c2
              have b0 := q1.c0
              have b1 := q1.c1
              have b2 := q1.c2
              clear m1 m2 m3 m4 m5 HS2 u1
              have JX := Lib.hid (JS.out _ _ _ _ cp c1 cl c2 wr q2 q4 q3 q5)
              have HBZ := Lib.hid q7
              clear q0 q1 q2 q3 q4 q5 q6 q7
              go_wp2_with fail
              refine JX.out.mono ?_
              rintro e w12 ⟨rfl, hb⟩
              have HB12 := Lib.hid (eb_of HBZ.out hb (Nat.le_refl _))
              clear hb JX
              go_wp2_with fail
              refine (JW.out _).mono ?_
              rintro e w13 ⟨rfl, hb⟩
              have HB13 := Lib.hid (eb_of HB12.out hb (Nat.le_refl _))
              clear hb
              go_wp2_with fail
              go_ret
              exact ⟨rfl, HB13.out⟩
    · obtain ⟨r1, r2⟩ := ne_b hr0
      have H6 : Hid (Below wc.heap.size wc w6) := Lib.hid hb
      clear hb
      obtain ⟨w7, hw7⟩ : ∃ w7, w7 = w6.alloc (.cells #[.slice none 0 0, .slice none 0 0, .int .i64 0] 28) := ⟨_, rfl⟩
      have H67 : Hid (Below w6.heap.size w6 w7) := Lib.hid (hw7 ▸ alloc_below _ _)
      have H7 := Lib.hid (eb_of H6.out H67.out (Nat.le_refl _))
      have HU : Hid (Row3 w7 w6.heap.size 28 (.slice none 0 0) (.slice none 0 0) (.int .i64 0)) := Lib.hid (hw7 ▸ heap_alloc_new w6 _)
      have HQ : Hid (∀ w', Chg (fun k => k = ob) w7 w' → Row3 w' w2.heap.size 28 (.slice (some ⟨kb, 0, none⟩) n cp) (.slice (some ⟨lb, 0, none⟩) n cl) (.int .i64 (ww : Int)) ∧ Row3 w' tb 28 (.slice (some ⟨g1, 0, none⟩) n c1) (.slice (some ⟨g2, 0, none⟩) n c2) (.int .i64 (ww : Int)) ∧ KsAt w' (some ⟨kb, 0, none⟩) ks ∧ IsAt w' (some ⟨lb, 0, none⟩) LL ∧ KsAt w' (some ⟨g1, 0, none⟩) ks ∧ IsAt w' (some ⟨g2, 0, none⟩) LL ∧ Row3 w' w6.heap.size 28 (.slice none 0 0) (.slice none 0 0) (.int .i64 0) ∧ Below w.heap.size w w') := Lib.hid (fun w' h => by
        have hn := HNE.out
        have l1 := HKC.out.lt
        have l2 := HLC.out.lt
        have l3 := HRC.out.lt
        have l4 := HOR.out.lt
        have l5 := HOK.out.lt
        have l6 := HOL.out.lt
        have l7 := HU.out.lt
        have l8 := H6.out.size
        have hbw := eb_of HB.out H7.out (Nat.le_refl _)
        exact ⟨(HRC.out.below H7.out (Nat.le_refl _)).chg h (by omega), (HOR.out.below H7.out (Nat.le_refl _)).chg h (by omega), ((HKC.out.below H7.out l1).chg h (by omega)).ks, ((HLC.out.below H7.out l2).chg h (by omega)).is, ((HOK.out.below H7.out l5).chg h (by omega)).ks, ((HOL.out.below H7.out l6).chg h (by omega)).is, HU.out.chg h (by omega), hbw.trans (h.below (fun k hk => by have := HB.out.size; omega) hbw.size)⟩)
      have HOC7 := Lib.hid (HOC.out.below H7.out HOC.out.lt)
      obtain ⟨q0, q1, q2, q3, q4, q5, q6, q7⟩ := HQ.out w7 (Chg.refl _)
      have a0 := q0.c0
      have a1 := q0.c1
      have a2 := q0.c2
      have b0 := q1.c0
      have b1 := q1.c1
      have b2 := q1.c2
      have JX := Lib.hid (JS.out _ _ _ _ cp c1 cl c2 w7 q2 q4 q3 q5)
      clear q0 q1 q2 q3 q4 q5 q6 q7 H6 HKC HLC HRC HOR HOK HOL HOC HB
      rw [hw7] at a0 a1 a2 b0 b1 b2
      go_wp2_with fail
      rw [← hw7]
      clear hw7 a0 a1 a2 b0 b1 b2 c0 c1' c2'
      refine JX.out.mono ?_
      rintro e w8 ⟨rfl, hb⟩
      have H8 := Lib.hid hb
      have HO8 := Lib.hid (HOC7.out.below hb HOC7.out.lt)
      clear hb JX HOC7
      go_wp2_with fail
      go_loopw [12] (fun iv wr => ∃ i : Nat, iv = .int .i64 i ∧ i ≤ n ∧ Hid (∃ V : List Value, V.length = n * 2 ∧ CR wr ob V ∧ Chg (fun k => k = ob) w8 wr)) (fun iv _ => n - (intOf iv).toNat)
      case atStart => exact ⟨0, rfl, Nat.zero_le _, Lib.hid ⟨_, HKL.out, HO8.out, Chg.refl _⟩⟩
      case round =>
        obtain ⟨i, rfl, hin, HS⟩ := hrel
        obtain ⟨V, hV1, hV2, hV3⟩ := HS.out
        by_cases hlt : i < n
        · obtain ⟨z0, e0⟩ : ∃ z, wr.cell? ⟨ob, i * 2, none⟩ = some z := ⟨_, hV2.cell (i * 2) (by omega)⟩
          obtain ⟨z1, e1⟩ : ∃ z, wr.cell? ⟨ob, i * 2 + 1, none⟩ = some z := ⟨_, hV2.cell (i * 2 + 1) (by omega)⟩
          have f0 := hV2.frz (i * 2) (by omega)
          have f1 := hV2.frz (i * 2 + 1) (by omega)
          have hgl := hV2.lt
          have HCR2 := Lib.hid ((hV2.set (i := i * 2) (by omega) (.string "changed".toUTF8)).set (i := i * 2 + 1) (by simp; omega) (.bool false))
          have HCH := Lib.hid hV3
          have HVL := Lib.hid hV1
          clear hV1 hV2 hV3 HS
          go_wp2_with fail
          go_roundw
          case rel => exact ⟨i + 1, by go_num, by omega, Lib.hid ⟨_, by simp [HVL.out], HCR2.out, HCH.out.trans ((chg_set ob (i * 2) _).trans (chg_set ob (i * 2 + 1) _))⟩⟩
          case measure => simp [intOf]; omega
        · obtain rfl : i = n := by omega
          have HCH := Lib.hid hV3
          clear hV1 hV2 hV3 HS
          generalize wr = w9 at *
          go_wp2_with fail
          go_loopw [13] (fun iv wr => iv = .int .i64 0 ∧ w9 = wr) (fun _ _ => 0)
          case atStart => exact ⟨rfl, rfl⟩
          case round =>
            obtain ⟨rfl, rfl⟩ := hrel
            obtain ⟨q0, q1, q2, q3, q4, q5, q6, q7⟩ := HQ.out w9 ((Chg.of_below H8.out).trans HCH.out)
            have a0 := q0.c0
            have a1 := q0.c1
            have a2 := q0.c2
            have b0 := q1.c0
            have b1 := q1.c1
            have b2 := q1.c2
            have u0 := q6.c0
            have JX := Lib.hid (JS.out _ _ _ _ cp c1 cl c2 w9 q2 q4 q3 q5)
            have HBZ := Lib.hid q7
            clear q0 q1 q2 q3 q4 q5 q6 q7
            go_wp2_with fail
            refine JX.out.mono ?_
            rintro e w12 ⟨rfl, hb⟩
            have HB12 := Lib.hid (eb_of HBZ.out hb (Nat.le_refl _))
            clear hb JX
            go_wp2_with fail
            refine (JW.out _).mono ?_
            rintro e w13 ⟨rfl, hb⟩
            have HB13 := Lib.hid (eb_of HB12.out hb (Nat.le_refl _))
            clear hb
            go_wp2_with fail
            go_ret
            exact ⟨rfl, HB13.out⟩
end Go.Proofs.Ytggmnhlfgjjgaaa.KK
