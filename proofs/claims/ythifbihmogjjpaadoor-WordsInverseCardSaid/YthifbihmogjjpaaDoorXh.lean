/-
  The contract of Join.
-/
import Derived.Test.YthifbihmogjjpaaDoorXg
import Derived.Test.YthifbihmogjjpaaDoorXc
import Derived.Test.YthifbihmogjjpaaDoorWk
namespace Go.Proofs.YthifbihmogjjpaaDoor
open Go.ChangeShapes Go.WideShapes Go.ChangeAt Go.RowKit Go.Proofs

theorem L_mk (t : List UInt8) : Pl.L ⟨t.toArray⟩ = t := by unfold Pl.L; simp
theorem own_slice {w : World} {base n : Nat} {v : Value} {e : TypeId} {sz : Nat} {xs : List Value} (h : w.ownsRow base e sz v n xs) : ∃ A c, v = .slice A n c := by
  rcases h.2 with ⟨rfl, h0⟩ | ⟨g, cap, cur, rfl, _⟩
  · subst h0; exact ⟨_, _, rfl⟩
  · exact ⟨_, _, rfl⟩
theorem isBare_f (t : List UInt8) (w : World) (hs : t.length ≤ 4294967295) :
    Calls Tryd.prog 29 #[.string ⟨t.toArray⟩] w fun e w' => e = .returned (.bool (Pl.bareS t)) ∧ w = w' := by
  have := isBare_any ⟨t.toArray⟩ w (by rw [size_mk]; exact hs)
  rwa [L_mk] at this

set_option maxRecDepth 100000 in
set_option maxHeartbeats 2000000 in
theorem Join_loop (A : Option Addr) (c : Nat) (fs : List (List UInt8 × Bool)) (w : World) (he : EscAt w) (hf : FldsAt w A fs) (htoo : Pl.tooF fs = false) :
    Calls Tryd.prog 14 #[.slice A fs.length c] w fun e w' => e = .returned (.tuple #[.string ⟨(Pl.join fs).2.toArray⟩, .int .i64 (Pl.join fs).1]) ∧ Below w.heap.size w w' := by
  obtain ⟨h64, h2000⟩ := Pl.tooF_no htoo
  have HTOO := Lib.hid htoo
  have H2000 := Lib.hid h2000
  have HE := Lib.hid he
  have HF := Lib.hid hf
  have hlt0 := he.lt
  have htl := tooLong_any A c fs w hf (by omega)
  rw [show (decide (64 < fs.length) || fs.any fun f => decide (2000 < f.1.length)) = false from htoo] at htl
  have HTL := Lib.hid htl
  clear htoo h2000 he hf htl
  obtain ⟨i0, hi, hz0, hz1, hz2⟩ := info_parts infoB
  go_enter Tryd.func14, Tryd.ntmps14
  go_wp2_with (go_at_call 24; refine HTL.out.mono ?_; rintro e w1 ⟨rfl, hb1⟩; have HB1 := Lib.hid hb1; have hsz1 := hb1.size; clear hb1)
  go_loopw [4, 5, 6, 11] (fun v _ _ i wr => ∃ (k : Nat) (t : List UInt8), k ≤ fs.length ∧ i = .int .i64 k ∧ t = Pl.jn (fs.take k) ∧ t.length ≤ k * 8003 ∧ wr.ownsRow w.heap.size 5 1 v t.length (t.map B8) ∧ Below w.heap.size w wr ∧ (fs.take k).all Pl.okF = true) (fun _ _ _ i _ => fs.length - (intOf i).toNat)
  case atStart => exact ⟨0, [], Nat.zero_le _, rfl, rfl, by simp, World.ownsRow_nil _ _ _ _, HB1.out, rfl⟩
  case round =>
    obtain ⟨k, t, hk, rfl, ht, htl, hown, hb, hok⟩ := hrel
    have HT := Lib.hid ht
    have HB := Lib.hid hb
    have HOK := Lib.hid hok
    have hsz := hb.size
    clear ht hb hok
    by_cases hlt : k < fs.length
    · have hf' := HF.out.below HB.out (Nat.le_refl _)
      rcases hf' with h0 | ⟨b, off, rfl, hbl, hc⟩
      · subst h0; simp at hlt
      obtain ⟨g0, g1⟩ := hc k hlt
      clear hc
      have h20 := H2000.out k hlt
      obtain ⟨⟨x, q⟩, hfk⟩ : ∃ y, fs[k] = y := ⟨_, rfl⟩
      rw [hfk] at g0 g1 h20
      replace h20 : x.length ≤ 2000 := h20
      have HFK := Lib.hid hfk
      clear hfk
      by_cases hbad : Pl.okF (x, q) = false
      · have hq : q = false := by cases q with
          | false => rfl
          | true => cases hbad
        subst hq
        have hbs : Pl.bareS x = false := by simpa [Pl.okF] using hbad
        have H : Hid (Pl.join fs = (6, [])) := Lib.hid (by
          unfold Pl.join
          rw [HTOO.out, Pl.okF_not fs k hlt (by rw [HFK.out]; exact hbad)]; rfl)
        have HBS := Lib.hid hbs
        clear hbad hbs
        go_wp2_with (go_at_call 29; refine (isBare_f x _ (by omega)).mono ?_; rw [HBS.out]; rintro e w' ⟨rfl, rfl⟩)
        go_ret2
        exact ⟨by rw [H.out]; rfl, HB.out.alloc hsz _⟩
      · have hgood : Pl.okF (x, q) = true := by simpa using hbad
        clear hbad
        have HG := Lib.hid hgood
        have hsx : (⟨x.toArray⟩ : ByteArray).size = x.length := size_mk x
        obtain ⟨u, hu⟩ : ∃ u, Pl.wrt (x, q) = u := ⟨_, rfl⟩
        have hul := Pl.wrt_len (x, q)
        rw [hu] at hul
        simp only at hul
        have hwr : ∀ w, EscAt w → Calls Tryd.prog 30 #[.agg #[.string ⟨x.toArray⟩, .bool q]] w fun e w' => e = .returned (.string ⟨u.toArray⟩) ∧ Below w.heap.size w w' := fun w he => by
          have := written_any (x, q) w he (by simp only; omega)
          rwa [hu] at this
        have HWR := Lib.hid hwr
        have HU := Lib.hid hu
        have HUS := Lib.hid (size_mk u)
        clear hwr hu hsx hgood
        have hesc := HE.out.below HB.out hlt0
        have HESC := Lib.hid hesc
        clear hesc
        have hnb : some wr.heap.size ≠ Value.ownBlock u4 := fun e => by have := (hown.lt _ e.symm).2; omega
        obtain ⟨wa, hwa⟩ : ∃ wa, wr.alloc (.cells #[.string ⟨x.toArray⟩, .bool q] 48) = wa := ⟨_, rfl⟩
        have hownA := hown.alloc (.cells #[.string ⟨x.toArray⟩, .bool q] 48)
        have hbA := HB.out.alloc hsz (.cells #[.string ⟨x.toArray⟩, .bool q] 48)
        have c0 := cell_of_row (wr.alloc (.cells #[.string ⟨x.toArray⟩, .bool q] 48)) wr.heap.size 0 _ _ _ (heap_alloc_new wr _)
        have c1 := cell_of_row (wr.alloc (.cells #[.string ⟨x.toArray⟩, .bool q] 48)) wr.heap.size 1 _ _ _ (heap_alloc_new wr _)
        have hsa : (wr.alloc (.cells #[.string ⟨x.toArray⟩, .bool q] 48)).heap.size = wr.heap.size + 1 := by simp
        rw [hwa] at hownA hbA c0 c1 hsa
        replace c0 : wa.cell? ⟨wr.heap.size, 0, none⟩ = some (.string ⟨x.toArray⟩) := c0
        replace c1 : wa.cell? ⟨wr.heap.size, 1, none⟩ = some (.bool q) := c1
        have n32 := cell_one_new wa (.int .u8 32) 5
        rw [hsa] at n32
        have N32 := Lib.hid n32
        clear n32
        have HBA := Lib.hid hbA
        clear hbA
        by_cases hk0 : 0 < k
        · obtain ⟨t2, ht2⟩ : ∃ t2, t ++ [32] = t2 := ⟨_, rfl⟩
          have hl2 : t2.length = t.length + 1 := by rw [← ht2]; simp
          have HT2 := Lib.hid ht2
          clear ht2
          have HN : Hid (Pl.jn (fs.take (k + 1)) = t ++ 32 :: u) := Lib.hid (by rw [Pl.jn_succ fs k hlt, if_pos hk0, HFK.out, HU.out, HT.out])
          cases q with
          | true =>
            go_wp2_with (first
              | (at_builtin; refine wpList_append_own _ rfl (.tmp 27) (.tmp 28) 29 rfl w.heap.size 5 i0 (.int .u8 0) 1 1 Tryd.underlying29 hi hz0 hz1 hz2 rfl (by decide) _ t.length _ rfl (hownA.alloc _) ⟨wr.heap.size + 1, 0, none⟩ 1 1 [.int .u8 32] rfl rfl N32.out (by simp [Value.oneCell']) (by unfold maxLen; omega) (by omega) (by simp; omega) ?_; intro v3 w3 hown3 hg3 _; have d0 := hg3.cell (a := ⟨wr.heap.size, 0, none⟩) ((World.cell?_alloc_lt _ _ _ (by simp; omega)).trans c0) hnb; have d1 := hg3.cell (a := ⟨wr.heap.size, 1, none⟩) ((World.cell?_alloc_lt _ _ _ (by simp; omega)).trans c1) hnb; have hb3 := (HBA.out.alloc (by omega) (.cells #[.int .u8 32] 5)).grown hg3 (by simp; omega) (fun g hg => (hownA.lt g hg).1); have hsz3 := hb3.size; have HB3 := Lib.hid hb3; have hown3 := own_app (u := [32]) rfl rfl rfl hown3; rw [HT2.out] at hown3; clear hg3 hb3)
              | (go_at_call 30; refine (HWR.out _ (HE.out.below HB3.out hlt0)).mono ?_; rintro e w4 ⟨rfl, hb4⟩; have hown4 := own_below hown3 hb4; have hsz4 := hb4.size; have HB4 := Lib.hid hb4; clear hb4)
              | (at_builtin; refine Lib.wpList_append_own_string _ rfl (.tmp 30) (.tmp 32) 29 9 rfl w.heap.size 5 i0 Tryd.underlying29 Tryd.underlying9 hi hz0 hz1 hz2 v3 t2.length (t2.map B8) rfl hown4 ⟨u.toArray⟩ rfl (by rw [HUS.out]; unfold maxLen; omega) (by rw [HUS.out]; omega) (by omega) ?_; intro v5 w5 hown5 hg5 _; have HG5 := Lib.hid hg5; clear hg5))
            go_roundw
            case rel => exact ⟨k + 1, t2 ++ u, by omega, by go_num, by rw [HN.out, ← HT2.out]; simp, by simp; omega, own_str hown5, (HB3.out.trans (HB4.out.mono hsz3)).grown HG5.out (by omega) (fun g hg => (hown4.lt g hg).1), Pl.okF_take fs k hlt HOK.out (by rw [HFK.out]; exact HG.out)⟩
            case measure => simp [intOf]; omega
          | false =>
            have HWA := Lib.hid hwa
            clear hwa
            have HBS : Hid (Pl.bareS x = true) := Lib.hid (by simpa [Pl.okF] using HG.out)
            go_wp2_with (first
              | (go_at_call 29; rw [HWA.out]; refine (isBare_f x _ (by omega)).mono ?_; rw [HBS.out]; rintro e w' ⟨rfl, rfl⟩)
              | (at_builtin; refine wpList_append_own _ rfl (.tmp 27) (.tmp 28) 29 rfl w.heap.size 5 i0 (.int .u8 0) 1 1 Tryd.underlying29 hi hz0 hz1 hz2 rfl (by decide) _ t.length _ rfl (hownA.alloc _) ⟨wr.heap.size + 1, 0, none⟩ 1 1 [.int .u8 32] rfl rfl N32.out (by simp [Value.oneCell']) (by unfold maxLen; omega) (by omega) (by simp; omega) ?_; intro v3 w3 hown3 hg3 _; have d0 := hg3.cell (a := ⟨wr.heap.size, 0, none⟩) ((World.cell?_alloc_lt _ _ _ (by simp; omega)).trans c0) hnb; have d1 := hg3.cell (a := ⟨wr.heap.size, 1, none⟩) ((World.cell?_alloc_lt _ _ _ (by simp; omega)).trans c1) hnb; have hb3 := (HBA.out.alloc (by omega) (.cells #[.int .u8 32] 5)).grown hg3 (by simp; omega) (fun g hg => (hownA.lt g hg).1); have hsz3 := hb3.size; have HB3 := Lib.hid hb3; have hown3 := own_app (u := [32]) rfl rfl rfl hown3; rw [HT2.out] at hown3; clear hg3 hb3)
              | (go_at_call 30; refine (HWR.out _ (HE.out.below HB3.out hlt0)).mono ?_; rintro e w4 ⟨rfl, hb4⟩; have hown4 := own_below hown3 hb4; have hsz4 := hb4.size; have HB4 := Lib.hid hb4; clear hb4)
              | (at_builtin; refine Lib.wpList_append_own_string _ rfl (.tmp 30) (.tmp 32) 29 9 rfl w.heap.size 5 i0 Tryd.underlying29 Tryd.underlying9 hi hz0 hz1 hz2 v3 t2.length (t2.map B8) rfl hown4 ⟨u.toArray⟩ rfl (by rw [HUS.out]; unfold maxLen; omega) (by rw [HUS.out]; omega) (by omega) ?_; intro v5 w5 hown5 hg5 _; have HG5 := Lib.hid hg5; clear hg5))
            go_roundw
            case rel => exact ⟨k + 1, t2 ++ u, by omega, by go_num, by rw [HN.out, ← HT2.out]; simp, by simp; omega, own_str hown5, (HB3.out.trans (HB4.out.mono hsz3)).grown HG5.out (by omega) (fun g hg => (hown4.lt g hg).1), Pl.okF_take fs k hlt HOK.out (by rw [HFK.out]; exact HG.out)⟩
            case measure => simp [intOf]; omega
        · have HN : Hid (Pl.jn (fs.take (k + 1)) = t ++ u) := Lib.hid (by rw [Pl.jn_succ fs k hlt, if_neg hk0, HFK.out, HU.out, HT.out])
          cases q with
          | true =>
            go_wp2_with (first
              | (go_at_call 30; refine (HWR.out _ (HE.out.below HBA.out hlt0)).mono ?_; rintro e w4 ⟨rfl, hb4⟩; have hown4 := own_below hownA hb4; have hsz4 := hb4.size; have HB4 := Lib.hid hb4; clear hb4)
              | (at_builtin; refine Lib.wpList_append_own_string _ rfl (.tmp 30) (.tmp 32) 29 9 rfl w.heap.size 5 i0 Tryd.underlying29 Tryd.underlying9 hi hz0 hz1 hz2 u4 t.length (t.map B8) rfl hown4 ⟨u.toArray⟩ rfl (by rw [HUS.out]; unfold maxLen; omega) (by rw [HUS.out]; omega) (by omega) ?_; intro v5 w5 hown5 hg5 _; have HG5 := Lib.hid hg5; clear hg5))
            go_roundw
            case rel => exact ⟨k + 1, t ++ u, by omega, by go_num, HN.out.symm, by simp; omega, own_str hown5, (HBA.out.trans (HB4.out.mono (by omega))).grown HG5.out (by omega) (fun g hg => (hown4.lt g hg).1), Pl.okF_take fs k hlt HOK.out (by rw [HFK.out]; exact HG.out)⟩
            case measure => simp [intOf]; omega
          | false =>
            have HWA := Lib.hid hwa
            clear hwa
            have HBS : Hid (Pl.bareS x = true) := Lib.hid (by simpa [Pl.okF] using HG.out)
            go_wp2_with (first
              | (go_at_call 29; rw [HWA.out]; refine (isBare_f x _ (by omega)).mono ?_; rw [HBS.out]; rintro e w' ⟨rfl, rfl⟩)
              | (go_at_call 30; refine (HWR.out _ (HE.out.below HBA.out hlt0)).mono ?_; rintro e w4 ⟨rfl, hb4⟩; have hown4 := own_below hownA hb4; have hsz4 := hb4.size; have HB4 := Lib.hid hb4; clear hb4)
              | (at_builtin; refine Lib.wpList_append_own_string _ rfl (.tmp 30) (.tmp 32) 29 9 rfl w.heap.size 5 i0 Tryd.underlying29 Tryd.underlying9 hi hz0 hz1 hz2 u4 t.length (t.map B8) rfl hown4 ⟨u.toArray⟩ rfl (by rw [HUS.out]; unfold maxLen; omega) (by rw [HUS.out]; omega) (by omega) ?_; intro v5 w5 hown5 hg5 _; have HG5 := Lib.hid hg5; clear hg5))
            go_roundw
            case rel => exact ⟨k + 1, t ++ u, by omega, by go_num, HN.out.symm, by simp; omega, own_str hown5, (HBA.out.trans (HB4.out.mono (by omega))).grown HG5.out (by omega) (fun g hg => (hown4.lt g hg).1), Pl.okF_take fs k hlt HOK.out (by rw [HFK.out]; exact HG.out)⟩
            case measure => simp [intOf]; omega
    · have hall : Pl.jn fs = t := by rw [HT.out, List.take_of_length_le (by omega)]
      have hok : fs.all Pl.okF = true := by have := HOK.out; rwa [List.take_of_length_le (by omega)] at this
      have hcv := conv_own hown
      obtain ⟨A4, c4, rfl⟩ := own_slice hown
      by_cases h8 : 8192 < t.length
      · have H : Hid (Pl.join fs = (3, [])) := Lib.hid (by unfold Pl.join; rw [HTOO.out, hok, hall]; exact if_pos h8)
        clear hall hok
        go_wp2_with fail
        go_ret2
        exact ⟨by rw [H.out]; rfl, HB.out⟩
      · have H : Hid (Pl.join fs = (0, t)) := Lib.hid (by unfold Pl.join; rw [HTOO.out, hok, hall]; exact if_neg h8)
        clear hall hok
        go_wp2_with fail
        go_ret2
        exact ⟨by rw [H.out]; rfl, HB.out⟩
end Go.Proofs.YthifbihmogjjpaaDoor
