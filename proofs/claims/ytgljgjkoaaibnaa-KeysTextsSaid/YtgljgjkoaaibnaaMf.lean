/-
  The reference's bytes, Show and Read.
-/
import Derived.Test.YtgljgjkoaaibnaaMe
namespace Go.Proofs.Ytgljgjkoaaibnaa.KK
open Go.ChangeShapes Go.WideShapes Go.ChangeAt Go.RowKit Go.Proofs

theorem drop_at (s : ByteArray) (k : Nat) (h : k < s.size) : (Kl.L s).drop k = s[k] :: (Kl.L s).drop (k + 1) := List.drop_eq_getElem_cons (by rw [Kl.L_length]; exact h)
theorem drop_all (s : ByteArray) (k : Nat) (h : s.size ≤ k) : (Kl.L s).drop k = [] := List.drop_of_length_le (by rw [Kl.L_length]; exact h)

set_option maxRecDepth 100000 in
set_option maxHeartbeats 4000000 in
theorem bytes_any (s : ByteArray) (w : World) (hs : s.size ≤ 4294967295) :
    Calls Try.prog 54 #[.string s] w fun e w' => e = .returned (unV (Kl.unt (Kl.L s))) ∧ Below w.heap.size w w' := by
  obtain ⟨i0, hi, hz0, hz1, hz2⟩ := info_parts infoB
  go_enter Try.func54, Try.ntmps54
  go_wp2_with fail
  go_loopw [4, 5] (fun v i wr => ∃ (k : Nat) (t : List UInt8), k ≤ s.size ∧ t.length ≤ k ∧ i = .int .i64 k ∧ wr.ownsRow w.heap.size 5 1 v t.length (t.map B8) ∧ Below w.heap.size w wr ∧ (Kl.unt ((Kl.L s).drop k)).map (t ++ ·) = Kl.unt (Kl.L s)) (fun _ i _ => s.size - (intOf i).toNat)
  case atStart => exact ⟨0, [], Nat.zero_le _, Nat.le_refl _, rfl, World.ownsRow_nil _ _ _ _, Below.refl _ _, by simp⟩
  case round =>
    obtain ⟨k, t, hk, htl, rfl, hown, hbl, hun⟩ := hrel
    have hsz := hbl.size
    have HB := Lib.hid hbl
    have HU := Lib.hid hun
    clear hbl hun
    by_cases h0 : k < s.size
    · have D0 := drop_at s k h0
      have hne : (Kl.L s).drop k ≠ [] := drop_ne s k h0
      by_cases hc : s[k] = 92
      rotate_left
      · have q1 : ((s[k].toNat : Int) != 92) = true := by rw [bne_iff_ne]; intro e; exact hc (UInt8.toNat_inj.1 (show s[k].toNat = 92 by omega))
        have q2 : ((s[k].toNat : Int) == 92) = false := beqF hc
        have hrb : Kl.rb ((Kl.L s).drop k) = some (s[k], 1) := by rw [D0]; simp [Kl.rb, hc]
        have HN : Hid ((Kl.unt ((Kl.L s).drop (k + 1))).map ((t ++ [s[k]]) ++ ·) = Kl.unt (Kl.L s)) := Lib.hid (by
          have := Kl.unt_some hrb
          rw [List.drop_drop] at this
          rw [← omap, ← this, HU.out])
        clear hrb D0 hc hne
        go_wp2_with (at_builtin; refine wpList_append_own _ rfl (.tmp 14) (.tmp 18) 51 rfl w.heap.size 5 i0 (.int .u8 0) 1 1 Try.underlying51 hi hz0 hz1 hz2 rfl (by decide) _ t.length _ rfl (hown.alloc _) ⟨wr.heap.size, 0, none⟩ 1 1 [.int .u8 (s[k].toNat : Int)] rfl rfl (cell_one_new _ _ _) (by simp [Value.oneCell']) (by unfold maxLen; omega) (by omega) (by simp; omega) ?_; intro v2 w2 hown2 hg2 _; have HG2 := Lib.hid hg2; clear hg2)
        go_roundw
        case rel => exact ⟨k + 1, t ++ [s[k]], by omega, by simp; omega, by go_num, own_snoc hown2, (HB.out.alloc (by omega) _).grown HG2.out (by simp; omega) (fun g hg => (hown.lt g hg).1), HN.out⟩
        case measure => simp [intOf]; omega
      have q1 : ((s[k].toNat : Int) != 92) = false := by rw [bne_eq_false_iff_eq, hc]; rfl
      have q2 : ((s[k].toNat : Int) == 92) = true := beqT hc
      rw [hc] at D0
      by_cases h1 : k + 1 < s.size
      rotate_left
      · have H : Hid (Kl.unt (Kl.L s) = none) := Lib.hid (by
          rw [← HU.out, Kl.unt_none hne (by rw [D0, drop_all s (k + 1) (by omega)]; rfl)]; rfl)
        have d1 : decide ((k : Int) + 1 < (s.size : Int)) = false := by simp; omega
        have d2 : decide (k + 1 < s.size) = false := by simp; omega
        have d3 : decide ((s.size : Int) ≤ (k : Int) + 3) = true := by simp; omega
        have d4 : decide (s.size ≤ k + 3) = true := by simp; omega
        clear hc D0 hne h1
        go_wp2_with fail
        go_ret2
        exact ⟨by rw [H.out]; rfl, HB.out⟩
      have D1 := drop_at s (k + 1) h1
      have c1 : decide ((k : Int) + 1 < (s.size : Int)) = true := by simp; omega
      have c2 : decide (k + 1 < s.size) = true := by simp; omega
      have c3 : (k : Int) + 1 < (s.size : Int) := by omega
      by_cases hd : s[k + 1] = 92
      · have p1 : ((s[k + 1].toNat : Int) == 92) = true := beqT hd
        have hrb : Kl.rb ((Kl.L s).drop k) = some (92, 2) := by rw [D0, D1, hd]; rfl
        have HN : Hid ((Kl.unt ((Kl.L s).drop (k + 2))).map ((t ++ [92]) ++ ·) = Kl.unt (Kl.L s)) := Lib.hid (by
          have := Kl.unt_some hrb
          rw [List.drop_drop] at this
          rw [← omap, ← this, HU.out])
        clear hrb D0 D1 hc hne hd
        go_wp2_with (at_builtin; refine wpList_append_own _ rfl (.tmp 34) (.tmp 35) 51 rfl w.heap.size 5 i0 (.int .u8 0) 1 1 Try.underlying51 hi hz0 hz1 hz2 rfl (by decide) _ t.length _ rfl (hown.alloc _) ⟨wr.heap.size, 0, none⟩ 1 1 [.int .u8 92] rfl rfl (cell_one_new _ _ _) (by simp [Value.oneCell']) (by unfold maxLen; omega) (by omega) (by simp; omega) ?_; intro v2 w2 hown2 hg2 _; have HG2 := Lib.hid hg2; clear hg2)
        go_roundw
        case rel => exact ⟨k + 2, t ++ [92], by omega, by simp; omega, by go_num, own_snoc (c := 92) hown2, (HB.out.alloc (by omega) _).grown HG2.out (by simp; omega) (fun g hg => (hown.lt g hg).1), HN.out⟩
        case measure => simp [intOf]; omega
      have p1 : ((s[k + 1].toNat : Int) == 92) = false := beqF hd
      by_cases h3 : k + 3 < s.size
      rotate_left
      · have H : Hid (Kl.unt (Kl.L s) = none) := Lib.hid (by
          have hl : ((Kl.L s).drop (k + 2)).length < 2 := by rw [List.length_drop, Kl.L_length]; omega
          rw [← HU.out, Kl.unt_none hne (by
            rw [D0, D1]
            match hx : (Kl.L s).drop (k + 2), hl with
            | [], _ => simp [Kl.rb, Kl.rb1, Kl.rb2, hd]
            | [_], _ => simp [Kl.rb, Kl.rb1, Kl.rb2, hd]
            | _ :: _ :: _, hl => exact absurd hl (by simp))]; rfl)
        have d3 : decide ((s.size : Int) ≤ (k : Int) + 3) = true := by simp; omega
        have d4 : decide (s.size ≤ k + 3) = true := by simp; omega
        clear hc D0 D1 hne hd h3
        go_wp2_with fail
        go_ret2
        exact ⟨by rw [H.out]; rfl, HB.out⟩
      have d3 : decide ((s.size : Int) ≤ (k : Int) + 3) = false := by simp; omega
      have d4 : decide (s.size ≤ k + 3) = false := by simp; omega
      have D2 := drop_at s (k + 2) (by omega)
      have D3 := drop_at s (k + 3) h3
      have c4 : (k : Int) + 2 < (s.size : Int) := by omega
      have c5 : (k : Int) + 3 < (s.size : Int) := by omega
      have h2 : k + 2 < s.size := by omega
      by_cases hx : s[k + 1] = 120
      rotate_left
      · have H : Hid (Kl.unt (Kl.L s) = none) := Lib.hid (by
          rw [← HU.out, Kl.unt_none hne (by rw [D0, D1]; simp [Kl.rb, Kl.rb1, hd, hx])]; rfl)
        have p2 : ((s[k + 1].toNat : Int) != 120) = true := by rw [bne_iff_ne]; intro e; exact hx (UInt8.toNat_inj.1 (show s[k + 1].toNat = 120 by omega))
        have p3 : ((s[k + 1].toNat : Int) == 120) = false := beqF hx
        clear hc D0 D1 D2 D3 hne hd hx
        go_wp2_with fail
        go_ret2
        exact ⟨by rw [H.out]; rfl, HB.out⟩
      have p2 : ((s[k + 1].toNat : Int) != 120) = false := by rw [bne_eq_false_iff_eq, hx]; rfl
      have p3 : ((s[k + 1].toNat : Int) == 120) = true := beqT hx
      obtain ⟨e2, m2⟩ := hv_hvI s[k + 2]
      obtain ⟨e3, m3⟩ := hv_hvI s[k + 3]
      have hrb : Kl.rb ((Kl.L s).drop k) = match Kl.hv s[k + 2], Kl.hv s[k + 3] with | some x, some y => some (UInt8.ofNat (16 * x + y), 4) | _, _ => none := by
        rw [D0, D1, D2, D3, hx]; rfl
      clear hc D0 D1 D2 D3 hd hx
      by_cases x2 : hvI s[k + 2] < 0
      · have H : Hid (Kl.unt (Kl.L s) = none) := Lib.hid (by rw [← HU.out, Kl.unt_none hne (by rw [hrb, e2, if_pos x2])]; rfl)
        clear hrb e2 e3 hne
        go_wp2_with fail
        refine (digit_any _ _).mono ?_
        rintro e w' ⟨rfl, rfl⟩
        go_wp2_with fail
        go_ret2
        exact ⟨by rw [H.out]; rfl, HB.out⟩
      have y2 : 0 ≤ hvI s[k + 2] := by omega
      have z2 : decide (hvI s[k + 2] < 0) = false := by simpa using y2
      by_cases x3 : hvI s[k + 3] < 0
      · have H : Hid (Kl.unt (Kl.L s) = none) := Lib.hid (by rw [← HU.out, Kl.unt_none hne (by rw [hrb, e2, e3, if_neg x2, if_pos x3])]; rfl)
        clear hrb e2 e3 hne x2
        go_wp2_with fail
        refine (digit_any _ _).mono ?_
        rintro e w' ⟨rfl, rfl⟩
        go_wp2_with fail
        refine (digit_any _ _).mono ?_
        rintro e w' ⟨rfl, rfl⟩
        go_wp2_with fail
        go_ret2
        exact ⟨by rw [H.out]; rfl, HB.out⟩
      have y3 : 0 ≤ hvI s[k + 3] := by omega
      have z3 : decide (hvI s[k + 3] < 0) = false := by simpa using y3
      obtain ⟨u, hu⟩ : ∃ u, UInt8.ofNat (16 * (hvI s[k + 2]).toNat + (hvI s[k + 3]).toNat) = u := ⟨_, rfl⟩
      have hrb2 : Kl.rb ((Kl.L s).drop k) = some (u, 4) := by rw [hrb, e2, e3, if_neg x2, if_neg x3, ← hu]
      have hun : (16 : Int) * hvI s[k + 2] + hvI s[k + 3] = (u.toNat : Int) := by
        rw [← hu, UInt8.toNat_ofNat_of_lt' (by show _ < 256; omega)]; omega
      have HN : Hid ((Kl.unt ((Kl.L s).drop (k + 4))).map ((t ++ [u]) ++ ·) = Kl.unt (Kl.L s)) := Lib.hid (by
        have := Kl.unt_some hrb2
        rw [List.drop_drop] at this
        rw [← omap, ← this, HU.out])
      clear hrb hrb2 hu e2 e3 hne x2 x3
      have lw1 : IntKind.i64.wrap (16 * hvI s[k + 2]) = 16 * hvI s[k + 2] := IntWalk.i64_in _ (by omega)
      have lw2 : IntKind.i64.wrap (16 * hvI s[k + 2] + hvI s[k + 3]) = (u.toNat : Int) := by rw [IntWalk.i64_in _ (by omega), hun]
      have lw3 : IntKind.u8.wrap (u.toNat : Int) = (u.toNat : Int) := IntWalk.u8_in _ (by have := u.toNat_lt; omega)
      have lw4 : IntKind.i64.wrap ((k : Int) + 2) = (k : Int) + 2 := IntWalk.i64_in _ (by omega)
      have lw5 : IntKind.i64.wrap ((k : Int) + 3) = (k : Int) + 3 := IntWalk.i64_in _ (by omega)
      have lw6 : ((k : Int) + 2).toNat = k + 2 := by omega
      have lw7 : ((k : Int) + 3).toNat = k + 3 := by omega
      have lw8 : 0 ≤ (k : Int) + 2 := by omega
      have lw9 : 0 ≤ (k : Int) + 3 := by omega
      have HLW := Lib.hid (And.intro lw1 (And.intro lw2 (And.intro lw4 (And.intro lw5 lw3))))
      clear lw1 lw2 lw3 lw4 lw5
      have hp4 : k + 4 ≤ s.size := by omega
      have hpt : t.length ≤ 17179869184 := by omega
      go_wp2_with fail
      refine (digit_any _ _).mono ?_
      rintro e w' ⟨rfl, rfl⟩
      go_wp2_with fail
      refine (digit_any _ _).mono ?_
      rintro e w' ⟨rfl, rfl⟩
      go_wp2_with fail
      obtain ⟨lw1, lw2, lw4, lw5, lw3⟩ := HLW.out
      have HUN := Lib.hid hun
      clear hun
      go_region_held3 (fun w' => True)
        (first
          | go_keep
          | trivial)
        (first
          | (go_at_call 59; refine (digit_any _ _).mono ?_; rintro e w' ⟨rfl, rfl⟩)
          | (refine step_append_lies _ (by rfl) _ _ _ (by rfl) w.heap.size 5 i0 _ 1 1 Try.underlying51 hi hz0 hz1 hz2 rfl (by omega) _ t.length (t.map B8) (by rfl) (hown.alloc _)
              ⟨wr.heap.size, 0, none⟩ 1 1 [.int .u8 (u.toNat : Int)] (by rfl) (by rfl) (cell_one_new _ _ _) (by simp [Value.oneCell'])
              (by omega) (by unfold maxLen; omega) (by omega) (by simp; omega) (wr.heap.size + 1) (by simp) ?_; intro g9 cap9 w4 hown4 hgrow hat hlt4))
      all_goals
        clear lw1 lw2 lw3 lw4 lw5
        go_wp2_with fail
        go_roundw
        case rel =>
          refine ⟨k + 4, t ++ [u], by omega, by simp; omega, by go_num, own_app rfl rfl rfl hown4, ?_, HN.out⟩
          first
            | exact (redrew (HB.out.alloc (by omega) _)).grown hgrow (by simp; omega) (fun g hg => (hown.lt g hg).1)
            | exact (HB.out.alloc (by omega) _).grown hgrow (by simp; omega) (fun g hg => (hown.lt g hg).1)
        case measure => simp [intOf]; omega
    · have H : Hid (Kl.unt (Kl.L s) = some t) := Lib.hid (by rw [← HU.out, drop_all s k (by omega), Kl.unt_nil]; simp)
      have hcv := conv_own hown
      have hks : s.size ≤ k := by omega
      clear h0
      go_wp2_with fail
      go_ret2
      exact ⟨by rw [H.out]; rfl, HB.out⟩

theorem rShow_any (s : ByteArray) (w : World) (hs : s.size ≤ 4294967295) :
    Calls Try.prog 36 #[.string s] w fun e w' => e = .returned (strE (showE (Kl.L s))) ∧ Below w.heap.size w w' := by
  have K1 := fun w => rCheck_any s w (by omega)
  by_cases h : s.size ≤ 32
  · rw [chk1_ok h] at K1
    have J1 := Lib.hid K1
    have J2 := Lib.hid (fun w => rtext_any s w hs)
    have H : Hid (showE (Kl.L s) = (0, Kl.txt (Kl.L s))) := Lib.hid (by unfold showE; rw [Kl.L_length, if_pos h])
    clear K1 h
    go_enter Try.func36, Try.ntmps36
    go_wp2_with fail
    refine (J1.out _).mono ?_
    rintro e w' ⟨rfl, rfl⟩
    go_wp2_with fail
    refine (J2.out _).mono ?_
    rintro e w1 ⟨rfl, hb1⟩
    have HB := Lib.hid hb1
    clear hb1
    go_wp2_with fail
    go_ret2
    exact ⟨by rw [H.out]; rfl, HB.out⟩
  · rw [chk1_no h] at K1
    have J1 := Lib.hid K1
    have H : Hid (showE (Kl.L s) = (3, [])) := Lib.hid (by unfold showE; rw [Kl.L_length, if_neg h])
    clear K1 h
    go_enter Try.func36, Try.ntmps36
    go_wp2_with fail
    refine (J1.out _).mono ?_
    rintro e w' ⟨rfl, rfl⟩
    go_wp2_with fail
    go_ret2
    exact ⟨by rw [H.out]; rfl, Below.refl _ _⟩
end Go.Proofs.Ytgljgjkoaaibnaa.KK
