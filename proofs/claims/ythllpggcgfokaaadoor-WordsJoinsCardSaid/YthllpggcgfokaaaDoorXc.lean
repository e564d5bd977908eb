/-
  The contract of the reference's Quote.
-/
import Derived.Test.YthllpggcgfokaaaDoorXb
namespace Go.Proofs.YthllpggcgfokaaaDoor
open Go.ChangeShapes Go.WideShapes Go.ChangeAt Go.RowKit Go.Proofs

theorem strCells_B8 (u : List UInt8) : Lib.strCells ⟨u.toArray⟩ = u.map B8 := by
  unfold Lib.strCells B8
  simp
theorem size_mk (u : List UInt8) : (⟨u.toArray⟩ : ByteArray).size = u.length := by
  show u.toArray.size = u.length
  simp
theorem own_str {w : World} {base : Nat} {v : Value} {t u : List UInt8} (h : w.ownsRow base 5 1 v (t.length + (⟨u.toArray⟩ : ByteArray).size) (t.map B8 ++ Lib.strCells ⟨u.toArray⟩)) : w.ownsRow base 5 1 v (t ++ u).length ((t ++ u).map B8) := by
  rw [strCells_B8] at h
  exact own_app rfl (size_mk u) rfl h

/-- the reference's Quote -/
theorem rQuote_any (s : ByteArray) (w : World) (hs : s.size ≤ 4294967295) :
    Calls Tryd.prog 21 #[.string s] w fun e w' => e = .returned (.string ⟨(Pl.quote (Pl.L s)).toArray⟩) ∧ Below w.heap.size w w' := by
  obtain ⟨i0, hi, hz0, hz1, hz2⟩ := info_parts infoB
  go_enter Tryd.func21, Tryd.ntmps21
  go_wp2_with fail
  go_loopw [3, 4] (fun v i wr => ∃ (k : Nat) (t : List UInt8), k ≤ s.size ∧ i = .int .i64 k ∧ t = 34 :: Pl.qbody ((Pl.L s).take k) ∧ wr.ownsRow w.heap.size 5 1 v t.length (t.map B8) ∧ Below w.heap.size w wr) (fun _ i _ => s.size - (intOf i).toNat)
  case atStart => exact ⟨0, [34], Nat.zero_le _, rfl, rfl, World.ownsRow_lit w #[.int .u8 34] 1 (Nat.le_refl _) (by decide) rfl, (Below.refl _ w).alloc (Nat.le_refl _) _⟩
  case round =>
    obtain ⟨k, t, hk, rfl, ht, hown, hb⟩ := hrel
    have HT := Lib.hid ht
    have hsz := hb.size
    have HB := Lib.hid hb
    have htl : t.length ≤ 17179869181 := by
      rw [ht, List.length_cons]
      have := Pl.qbody_len ((Pl.L s).take k)
      rw [List.length_take, Pl.L_length] at this
      omega
    clear ht hb
    by_cases hlt : k < s.size
    · have HN : Hid (t ++ Pl.esc s[k] = 34 :: Pl.qbody ((Pl.L s).take (k + 1))) := Lib.hid (by rw [Pl.qbody_snoc s k hlt, HT.out]; rfl)
      have hel := (Pl.esc_len s[k]).1
      obtain ⟨u, hu⟩ : ∃ u, Pl.esc s[k] = u := ⟨_, rfl⟩
      have hesc : ∀ w, Calls Tryd.prog 43 #[.int .u8 (s[k].toNat : Int)] w fun e w' => e = .returned (.string ⟨u.toArray⟩) ∧ Below w.heap.size w w' := by rw [← hu]; exact escaped_any s[k]
      rw [hu] at HN hel
      have HC := Lib.hid hesc
      have hus : (⟨u.toArray⟩ : ByteArray).size = u.length := size_mk u
      have HUS := Lib.hid hus
      clear hesc hu hus
      go_wp2_with (first
        | (go_at_call 43; refine (HC.out _).mono ?_; rintro e w1 ⟨rfl, hb1⟩; have hown1 := own_below hown hb1; have hsz1 := hb1.size; have HB1 := Lib.hid hb1; clear hb1)
        | (at_builtin; refine Lib.wpList_append_own_string _ rfl (.tmp 12) (.tmp 16) 38 9 rfl w.heap.size 5 i0 Tryd.underlying38 Tryd.underlying9 hi hz0 hz1 hz2 _ t.length _ rfl hown1 ⟨u.toArray⟩ rfl (by rw [HUS.out]; unfold maxLen; omega) (by rw [HUS.out]; omega) (by omega) ?_; intro v2 w2 hown2 hg2 _; have HG2 := Lib.hid hg2; clear hg2))
      go_roundw
      case rel => exact ⟨k + 1, t ++ u, by omega, by go_num, HN.out, own_str hown2, (HB.out.trans (HB1.out.mono hsz)).grown HG2.out (by omega) (fun g hg => (hown1.lt g hg).1)⟩
      case measure => simp [intOf]; omega
    · have HN : Hid (t ++ [34] = Pl.quote (Pl.L s)) := Lib.hid (by rw [HT.out, List.take_of_length_le (by rw [Pl.L_length]; omega)]; rfl)
      go_wp2_with (at_builtin; refine wpList_append_own _ rfl (.tmp 18) (.tmp 19) 38 rfl w.heap.size 5 i0 (.int .u8 0) 1 1 Tryd.underlying38 hi hz0 hz1 hz2 rfl (by decide) _ t.length _ rfl (hown.alloc _) ⟨wr.heap.size, 0, none⟩ 1 1 [.int .u8 34] rfl rfl (cell_one_new _ _ _) (by simp [Value.oneCell']) (by unfold maxLen; omega) (by omega) (by simp; omega) ?_; intro v2 w2 hown2 hg2 _; have HG2 := Lib.hid hg2; clear hg2; have hcv := conv_own (own_app (u := [34]) rfl rfl rfl hown2))
      go_ret
      exact ⟨by rw [← HN.out]; rfl, (HB.out.alloc (by omega) _).grown HG2.out (by simp; omega) (fun g hg => (hown.lt g hg).1)⟩
end Go.Proofs.YthllpggcgfokaaaDoor
