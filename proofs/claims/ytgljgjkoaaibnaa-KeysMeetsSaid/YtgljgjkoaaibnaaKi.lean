/-
  The contract of appendRune.
-/
import Derived.Test.YtgljgjkoaaibnaaKh
namespace Go.Proofs.Ytgljgjkoaaibnaa.KK
open Go.ChangeShapes Go.WideShapes Go.ChangeAt Go.RowKit Go.Proofs

theorem enc_bytes (r : Nat) (h : r ≤ 1114111) : Utf8.encode (r : Int) = ⟨(Lib.encodeRune (r : Int)).toArray⟩ := by
  have hb : ∀ (n : Nat) (z : Int), z = (n : Int) → z.toNat.toUInt8 = UInt8.ofNat n := fun n z h => by subst h; simp
  unfold Lib.encodeRune
  by_cases hv : r < 55296 ∨ 57344 ≤ r
  · have v : Utf8.valid (r : Int) = true := by
      unfold Utf8.valid
      rcases hv with h' | h'
      · simp; omega
      · simp; omega
    unfold Utf8.encode
    simp only [v, if_true, Int.toNat_natCast]
    by_cases h1 : r < 128
    · rw [if_pos h1, Lib.encodeRuneZ_one (by omega) (by omega)]
      simp
    · rw [if_neg h1]
      by_cases h2 : r < 2048
      · rw [if_pos h2, Lib.encodeRuneZ_two (by omega) (by omega)]
        simp only [List.map_cons, List.map_nil]
        rw [hb (192 + r / 64) _ (by omega), hb (128 + r % 64) _ (by omega)]
      · rw [if_neg h2]
        by_cases h3 : r < 65536
        · rw [if_pos h3, Lib.encodeRuneZ_three (by omega)]
          simp only [List.map_cons, List.map_nil]
          rw [hb (224 + r / 4096) _ (by omega), hb (128 + r / 64 % 64) _ (by omega), hb (128 + r % 64) _ (by omega)]
        · rw [if_neg h3, Lib.encodeRuneZ_four (by omega) (by omega)]
          simp only [List.map_cons, List.map_nil]
          rw [hb (240 + r / 262144) _ (by omega), hb (128 + r / 4096 % 64) _ (by omega), hb (128 + r / 64 % 64) _ (by omega), hb (128 + r % 64) _ (by omega)]
  · have v : Utf8.valid (r : Int) = false := by
      unfold Utf8.valid
      simp; omega
    unfold Utf8.encode
    rw [Lib.encodeRuneZ_bad (by omega)]
    simp only [v, Bool.false_eq_true, if_false, Utf8.runeError]
    decide
theorem piece_bd {l : List UInt8} (h : Kl.bd l = true) : Kl.piece l = Kl.hx (l.headD 0) := by unfold Kl.piece; rw [if_pos h]
theorem piece_92 {l : List UInt8} (h : Kl.bd l = false) (h2 : Kl.rn l = 92) : Kl.piece l = [92, 92] := by unfold Kl.piece; rw [h, if_neg (by decide), if_pos h2]
theorem piece_ok {l : List UInt8} (h : Kl.bd l = false) (h2 : ¬ Kl.rn l = 92) (h3 : Kl.okR (Kl.rn l) = true) : Kl.piece l = l.take (Kl.wid l) := by unfold Kl.piece; rw [h, if_neg (by decide), if_neg h2, if_pos h3]
theorem piece_no {l : List UInt8} (h : Kl.bd l = false) (h2 : ¬ Kl.rn l = 92) (h3 : Kl.okR (Kl.rn l) = false) : Kl.piece l = Kl.hxs (l.take (Kl.wid l)) := by unfold Kl.piece; rw [h, if_neg (by decide), if_neg h2, if_neg (by simp [h3])]

set_option maxRecDepth 100000 in
set_option maxHeartbeats 1000000 in
theorem appendRune_bd (s : ByteArray) (v : Value) (t : List UInt8) (base : Nat) (w : World) (hs : s.size ≤ 4294967295) (h0 : 0 < s.size) (hown : w.ownsRow base 5 1 v t.length (t.map B8)) (hb : base ≤ w.heap.size) (hl : t.length ≤ 17179869184) (hbd : Kl.bd (Kl.L s) = true) :
    Calls Try.prog 56 #[v, .int .i32 (Kl.rn (Kl.L s) : Int), .string s] w fun e w' => ∃ v', e = .returned v' ∧ w'.ownsRow base 5 1 v' (t ++ Kl.piece (Kl.L s)).length ((t ++ Kl.piece (Kl.L s)).map B8) ∧ Below base w w' := by
  have hne : Kl.L s ≠ [] := fun e => by have := Kl.L_length s; rw [e] at this; simp at this; omega
  have hrl := Kl.rn_le (Kl.L s)
  have hp := Try.strings_HasPrefix s ⟨(Lib.encodeRune (Kl.rn (Kl.L s) : Int)).toArray⟩
  have hbeg := Kl.begins_iff hne
  have hpe : Lib.hasPrefix s.data.toList (⟨(Lib.encodeRune (Kl.rn (Kl.L s) : Int)).toArray⟩ : ByteArray).data.toList = (Lib.encodeRune (Kl.rn (Kl.L s) : Int)).isPrefixOf (Kl.L s) := by simp [Lib.hasPrefix, Kl.L]
  rw [hpe, hbeg, hbd] at hp
  simp only [Bool.not_true, Bool.not_false] at hp
  have hcv := enc_bytes _ hrl
  obtain ⟨i0, hi, hz0, hz1, hz2⟩ := info_parts infoB
  have H := Lib.hid (piece_bd hbd)
  have hx := fun v w hown hb => appendHex_any (s.extract 0 1) v t base w (by simp; omega) hown hb hl
  have he : Kl.hxs (Kl.L (s.extract 0 1)) = Kl.hx ((Kl.L s).headD 0) := by
    rw [L_ext]
    obtain ⟨c, l, hc⟩ := List.exists_cons_of_ne_nil hne
    rw [hc]; simp [Kl.hxs]
  rw [he, ← H.out] at hx
  have HX := Lib.hid hx
  have HW := Lib.hid h0
  clear he hx H
  obtain ⟨pc, hpc⟩ : ∃ pc, Kl.piece (Kl.L s) = pc := ⟨_, rfl⟩
  rw [hpc] at HX ⊢
  clear hpc
  obtain ⟨en, hen⟩ : ∃ en : ByteArray, (⟨(Lib.encodeRune (Kl.rn (Kl.L s) : Int)).toArray⟩ : ByteArray) = en := ⟨_, rfl⟩
  rw [hen] at hp hcv
  have HP := Lib.hid (fun w => (hp w).mono fun e w' h => (⟨h.1, h.2.symm⟩ : _ ∧ w = w'))
  clear hpe hbeg hp hbd hen
  clear hne
  go_enter Try.func56, Try.ntmps56
  go_wp2_with (first
    | (go_at_call 61; refine (HP.out _).mono ?_; rintro e w' ⟨rfl, rfl⟩)
    | (go_at_call 62; refine (HX.out _ _ hown hb).mono ?_; rintro e w1 ⟨v1, rfl, hown1, hb1⟩; have HB := Lib.hid hb1; clear hb1))
  go_ret
  exact ⟨v1, rfl, hown1, HB.out⟩

set_option maxRecDepth 100000 in
set_option maxHeartbeats 1000000 in
theorem appendRune_92 (s : ByteArray) (v : Value) (t : List UInt8) (base : Nat) (w : World) (hs : s.size ≤ 4294967295) (h0 : 0 < s.size) (hown : w.ownsRow base 5 1 v t.length (t.map B8)) (hb : base ≤ w.heap.size) (hl : t.length ≤ 17179869184) (hbd : Kl.bd (Kl.L s) = false) (h92 : Kl.rn (Kl.L s) = 92) :
    Calls Try.prog 56 #[v, .int .i32 (Kl.rn (Kl.L s) : Int), .string s] w fun e w' => ∃ v', e = .returned v' ∧ w'.ownsRow base 5 1 v' (t ++ Kl.piece (Kl.L s)).length ((t ++ Kl.piece (Kl.L s)).map B8) ∧ Below base w w' := by
  have hne : Kl.L s ≠ [] := fun e => by have := Kl.L_length s; rw [e] at this; simp at this; omega
  have hrl := Kl.rn_le (Kl.L s)
  have hp := Try.strings_HasPrefix s ⟨(Lib.encodeRune (Kl.rn (Kl.L s) : Int)).toArray⟩
  have hbeg := Kl.begins_iff hne
  have hpe : Lib.hasPrefix s.data.toList (⟨(Lib.encodeRune (Kl.rn (Kl.L s) : Int)).toArray⟩ : ByteArray).data.toList = (Lib.encodeRune (Kl.rn (Kl.L s) : Int)).isPrefixOf (Kl.L s) := by simp [Lib.hasPrefix, Kl.L]
  rw [hpe, hbeg, hbd] at hp
  simp only [Bool.not_true, Bool.not_false] at hp
  have hcv := enc_bytes _ hrl
  obtain ⟨i0, hi, hz0, hz1, hz2⟩ := info_parts infoB
  have H := Lib.hid (piece_92 hbd h92)
  obtain ⟨pc, hpc⟩ : ∃ pc, Kl.piece (Kl.L s) = pc := ⟨_, rfl⟩
  rw [hpc] at H ⊢
  clear hpc
  have q : ((Kl.rn (Kl.L s) : Int) == 92) = true := by simp; omega
  clear h92
  obtain ⟨en, hen⟩ : ∃ en : ByteArray, (⟨(Lib.encodeRune (Kl.rn (Kl.L s) : Int)).toArray⟩ : ByteArray) = en := ⟨_, rfl⟩
  rw [hen] at hp hcv
  have HP := Lib.hid (fun w => (hp w).mono fun e w' h => (⟨h.1, h.2.symm⟩ : _ ∧ w = w'))
  clear hpe hbeg hp hbd hen
  clear hne
  go_enter Try.func56, Try.ntmps56
  go_wp2_with (first
    | (go_at_call 61; refine (HP.out _).mono ?_; rintro e w' ⟨rfl, rfl⟩)
    | (at_builtin; refine wpList_append_own _ rfl (.tmp 22) (.tmp 23) 51 rfl base 5 i0 (.int .u8 0) 1 1 Try.underlying51 hi hz0 hz1 hz2 rfl (by decide) _ t.length _ rfl (hown.alloc _) ⟨w.heap.size, 0, none⟩ 2 2 [.int .u8 92, .int .u8 92] rfl rfl (two_new _ _ _) (by simp [Value.oneCell']) (by unfold maxLen; omega) (by omega) (by simp; omega) ?_; intro v2 w2 hown2 hg2 _; have HG2 := Lib.hid hg2; clear hg2))
  go_ret
  exact ⟨v2, rfl, by rw [H.out]; exact own_app rfl rfl rfl hown2, ((Below.refl base w).alloc hb _).grown HG2.out (by simp; omega) (fun g hg => (hown.lt g hg).1)⟩

set_option maxRecDepth 100000 in
set_option maxHeartbeats 1000000 in
theorem appendRune_low (s : ByteArray) (v : Value) (t : List UInt8) (base : Nat) (w : World) (hs : s.size ≤ 4294967295) (h0 : 0 < s.size) (hown : w.ownsRow base 5 1 v t.length (t.map B8)) (hb : base ≤ w.heap.size) (hl : t.length ≤ 17179869184) (hbd : Kl.bd (Kl.L s) = false) (h92 : ¬ Kl.rn (Kl.L s) = 92) (h32 : 32 ≤ Kl.rn (Kl.L s)) (h126 : Kl.rn (Kl.L s) ≤ 126) :
    Calls Try.prog 56 #[v, .int .i32 (Kl.rn (Kl.L s) : Int), .string s] w fun e w' => ∃ v', e = .returned v' ∧ w'.ownsRow base 5 1 v' (t ++ Kl.piece (Kl.L s)).length ((t ++ Kl.piece (Kl.L s)).map B8) ∧ Below base w w' := by
  have hne : Kl.L s ≠ [] := fun e => by have := Kl.L_length s; rw [e] at this; simp at this; omega
  have hrl := Kl.rn_le (Kl.L s)
  have hp := Try.strings_HasPrefix s ⟨(Lib.encodeRune (Kl.rn (Kl.L s) : Int)).toArray⟩
  have hbeg := Kl.begins_iff hne
  have hpe : Lib.hasPrefix s.data.toList (⟨(Lib.encodeRune (Kl.rn (Kl.L s) : Int)).toArray⟩ : ByteArray).data.toList = (Lib.encodeRune (Kl.rn (Kl.L s) : Int)).isPrefixOf (Kl.L s) := by simp [Lib.hasPrefix, Kl.L]
  rw [hpe, hbeg, hbd] at hp
  simp only [Bool.not_true, Bool.not_false] at hp
  have hcv := enc_bytes _ hrl
  obtain ⟨i0, hi, hz0, hz1, hz2⟩ := info_parts infoB
  have hok : Kl.okR (Kl.rn (Kl.L s)) = true := by unfold Kl.okR; simp; omega
  have hlen : (s.extract 0 0).size = 0 := by simp
  have H := Lib.hid (piece_ok hbd h92 hok)
  have henc := Kl.enc_take hne hbd
  rw [← henc] at H
  obtain ⟨en', hen'⟩ : ∃ en', Lib.encodeRune (Kl.rn (Kl.L s) : Int) = en' := ⟨_, rfl⟩
  have hel : en'.length ≤ s.size := by rw [← hen', henc, List.length_take, Kl.L_length]; omega
  rw [hen'] at H hp hcv
  have hus : (⟨en'.toArray⟩ : ByteArray).size = en'.length := size_mk en'
  have HUS := Lib.hid hus
  obtain ⟨pc, hpc⟩ : ∃ pc, Kl.piece (Kl.L s) = pc := ⟨_, rfl⟩
  rw [hpc] at H ⊢
  clear hpc hus hlen henc hok
  have q : ((Kl.rn (Kl.L s) : Int) == 92) = false := by rw [beq_eq_false_iff_ne]; omega
  clear h92
  have d1 : (32 : Int) ≤ (Kl.rn (Kl.L s) : Int) := by omega
  have d2 : (Kl.rn (Kl.L s) : Int) ≤ 126 := by omega

  rw [hen'] at hpe
  clear hen'
  have HP := Lib.hid (fun w => (hp w).mono fun e w' h => (⟨h.1, h.2.symm⟩ : _ ∧ w = w'))
  clear hpe hbeg hp hbd
  clear hne
  go_enter Try.func56, Try.ntmps56
  go_wp2_with (first
    | (go_at_call 61; refine (HP.out _).mono ?_; rintro e w' ⟨rfl, rfl⟩)
    | (at_builtin; refine Lib.wpList_append_own_string _ rfl (.tmp 34) (.tmp 35) 51 9 rfl base 5 i0 Try.underlying51 Try.underlying9 hi hz0 hz1 hz2 v t.length (t.map B8) rfl hown ⟨en'.toArray⟩ rfl (by rw [HUS.out]; unfold maxLen; omega) (by rw [HUS.out]; omega) (by omega) ?_; intro v2 w2 hown2 hg2 _; have HG2 := Lib.hid hg2; clear hg2))
  go_ret
  exact ⟨v2, rfl, by rw [H.out]; exact own_str hown2, (Below.refl base w).grown HG2.out (by omega) (fun g hg => (hown.lt g hg).1)⟩

set_option maxRecDepth 100000 in
set_option maxHeartbeats 1000000 in
theorem appendRune_high (s : ByteArray) (v : Value) (t : List UInt8) (base : Nat) (w : World) (hs : s.size ≤ 4294967295) (h0 : 0 < s.size) (hown : w.ownsRow base 5 1 v t.length (t.map B8)) (hb : base ≤ w.heap.size) (hl : t.length ≤ 17179869184) (hbd : Kl.bd (Kl.L s) = false) (h160 : 160 ≤ Kl.rn (Kl.L s)) :
    Calls Try.prog 56 #[v, .int .i32 (Kl.rn (Kl.L s) : Int), .string s] w fun e w' => ∃ v', e = .returned v' ∧ w'.ownsRow base 5 1 v' (t ++ Kl.piece (Kl.L s)).length ((t ++ Kl.piece (Kl.L s)).map B8) ∧ Below base w w' := by
  have hne : Kl.L s ≠ [] := fun e => by have := Kl.L_length s; rw [e] at this; simp at this; omega
  have hrl := Kl.rn_le (Kl.L s)
  have hp := Try.strings_HasPrefix s ⟨(Lib.encodeRune (Kl.rn (Kl.L s) : Int)).toArray⟩
  have hbeg := Kl.begins_iff hne
  have hpe : Lib.hasPrefix s.data.toList (⟨(Lib.encodeRune (Kl.rn (Kl.L s) : Int)).toArray⟩ : ByteArray).data.toList = (Lib.encodeRune (Kl.rn (Kl.L s) : Int)).isPrefixOf (Kl.L s) := by simp [Lib.hasPrefix, Kl.L]
  rw [hpe, hbeg, hbd] at hp
  simp only [Bool.not_true, Bool.not_false] at hp
  have hcv := enc_bytes _ hrl
  obtain ⟨i0, hi, hz0, hz1, hz2⟩ := info_parts infoB
  have hok : Kl.okR (Kl.rn (Kl.L s)) = true := by unfold Kl.okR; simp; omega
  have h92 : ¬ Kl.rn (Kl.L s) = 92 := by omega
  have hlen : (s.extract 0 0).size = 0 := by simp
  have H := Lib.hid (piece_ok hbd h92 hok)
  have henc := Kl.enc_take hne hbd
  rw [← henc] at H
  obtain ⟨en', hen'⟩ : ∃ en', Lib.encodeRune (Kl.rn (Kl.L s) : Int) = en' := ⟨_, rfl⟩
  have hel : en'.length ≤ s.size := by rw [← hen', henc, List.length_take, Kl.L_length]; omega
  rw [hen'] at H hp hcv
  have hus : (⟨en'.toArray⟩ : ByteArray).size = en'.length := size_mk en'
  have HUS := Lib.hid hus
  obtain ⟨pc, hpc⟩ : ∃ pc, Kl.piece (Kl.L s) = pc := ⟨_, rfl⟩
  rw [hpc] at H ⊢
  clear hpc hus hlen henc hok
  have q : ((Kl.rn (Kl.L s) : Int) == 92) = false := by rw [beq_eq_false_iff_ne]; omega
  clear h92
  have d1 : (32 : Int) ≤ (Kl.rn (Kl.L s) : Int) := by omega
  have d2 : decide ((Kl.rn (Kl.L s) : Int) ≤ 126) = false := by simp; omega
  have d3 : (160 : Int) ≤ (Kl.rn (Kl.L s) : Int) := by omega

  rw [hen'] at hpe
  clear hen'
  have HP := Lib.hid (fun w => (hp w).mono fun e w' h => (⟨h.1, h.2.symm⟩ : _ ∧ w = w'))
  clear hpe hbeg hp hbd
  clear hne
  go_enter Try.func56, Try.ntmps56
  go_wp2_with (first
    | (go_at_call 61; refine (HP.out _).mono ?_; rintro e w' ⟨rfl, rfl⟩)
    | (at_builtin; refine Lib.wpList_append_own_string _ rfl (.tmp 34) (.tmp 35) 51 9 rfl base 5 i0 Try.underlying51 Try.underlying9 hi hz0 hz1 hz2 v t.length (t.map B8) rfl hown ⟨en'.toArray⟩ rfl (by rw [HUS.out]; unfold maxLen; omega) (by rw [HUS.out]; omega) (by omega) ?_; intro v2 w2 hown2 hg2 _; have HG2 := Lib.hid hg2; clear hg2))
  go_ret
  exact ⟨v2, rfl, by rw [H.out]; exact own_str hown2, (Below.refl base w).grown HG2.out (by omega) (fun g hg => (hown.lt g hg).1)⟩

set_option maxRecDepth 100000 in
set_option maxHeartbeats 1000000 in
theorem appendRune_ctl (s : ByteArray) (v : Value) (t : List UInt8) (base : Nat) (w : World) (hs : s.size ≤ 4294967295) (h0 : 0 < s.size) (hown : w.ownsRow base 5 1 v t.length (t.map B8)) (hb : base ≤ w.heap.size) (hl : t.length ≤ 17179869184) (hbd : Kl.bd (Kl.L s) = false) (h32 : Kl.rn (Kl.L s) < 32) :
    Calls Try.prog 56 #[v, .int .i32 (Kl.rn (Kl.L s) : Int), .string s] w fun e w' => ∃ v', e = .returned v' ∧ w'.ownsRow base 5 1 v' (t ++ Kl.piece (Kl.L s)).length ((t ++ Kl.piece (Kl.L s)).map B8) ∧ Below base w w' := by
  have hne : Kl.L s ≠ [] := fun e => by have := Kl.L_length s; rw [e] at this; simp at this; omega
  have hrl := Kl.rn_le (Kl.L s)
  have hp := Try.strings_HasPrefix s ⟨(Lib.encodeRune (Kl.rn (Kl.L s) : Int)).toArray⟩
  have hbeg := Kl.begins_iff hne
  have hpe : Lib.hasPrefix s.data.toList (⟨(Lib.encodeRune (Kl.rn (Kl.L s) : Int)).toArray⟩ : ByteArray).data.toList = (Lib.encodeRune (Kl.rn (Kl.L s) : Int)).isPrefixOf (Kl.L s) := by simp [Lib.hasPrefix, Kl.L]
  rw [hpe, hbeg, hbd] at hp
  simp only [Bool.not_true, Bool.not_false] at hp
  have hcv := enc_bytes _ hrl
  obtain ⟨i0, hi, hz0, hz1, hz2⟩ := info_parts infoB
  have hok : Kl.okR (Kl.rn (Kl.L s)) = false := by unfold Kl.okR; simp; omega
  have h92 : ¬ Kl.rn (Kl.L s) = 92 := by omega
  have H := Lib.hid (piece_no hbd h92 hok)
  have henc := Kl.enc_take hne hbd
  rw [← henc] at H
  obtain ⟨en', hen'⟩ : ∃ en', Lib.encodeRune (Kl.rn (Kl.L s) : Int) = en' := ⟨_, rfl⟩
  have hel : en'.length ≤ s.size := by rw [← hen', henc, List.length_take, Kl.L_length]; omega
  rw [hen'] at H hp hcv
  have hx := fun v w hown hb => appendHex_any ⟨en'.toArray⟩ v t base w (by rw [size_mk]; omega) hown hb hl
  have he : Kl.hxs (Kl.L ⟨en'.toArray⟩) = Kl.piece (Kl.L s) := by rw [H.out]; rfl
  rw [he] at hx
  have HX := Lib.hid hx
  clear he hx H
  obtain ⟨pc, hpc⟩ : ∃ pc, Kl.piece (Kl.L s) = pc := ⟨_, rfl⟩
  rw [hpc] at HX ⊢
  clear hpc henc hok
  have q : ((Kl.rn (Kl.L s) : Int) == 92) = false := by rw [beq_eq_false_iff_ne]; omega
  clear h92
  have d1 : decide ((32 : Int) ≤ (Kl.rn (Kl.L s) : Int)) = false := by simp; omega
  have d3 : decide ((160 : Int) ≤ (Kl.rn (Kl.L s) : Int)) = false := by simp; omega

  rw [hen'] at hpe
  clear hen'
  have HP := Lib.hid (fun w => (hp w).mono fun e w' h => (⟨h.1, h.2.symm⟩ : _ ∧ w = w'))
  clear hpe hbeg hp hbd
  clear hne
  go_enter Try.func56, Try.ntmps56
  go_wp2_with (first
    | (go_at_call 61; refine (HP.out _).mono ?_; rintro e w' ⟨rfl, rfl⟩)
    | (go_at_call 62; refine (HX.out _ _ hown hb).mono ?_; rintro e w1 ⟨v1, rfl, hown1, hb1⟩; have HB := Lib.hid hb1; clear hb1))
  go_ret
  exact ⟨v1, rfl, hown1, HB.out⟩

set_option maxRecDepth 100000 in
set_option maxHeartbeats 1000000 in
theorem appendRune_mid (s : ByteArray) (v : Value) (t : List UInt8) (base : Nat) (w : World) (hs : s.size ≤ 4294967295) (h0 : 0 < s.size) (hown : w.ownsRow base 5 1 v t.length (t.map B8)) (hb : base ≤ w.heap.size) (hl : t.length ≤ 17179869184) (hbd : Kl.bd (Kl.L s) = false) (h126 : 126 < Kl.rn (Kl.L s)) (h160 : Kl.rn (Kl.L s) < 160) :
    Calls Try.prog 56 #[v, .int .i32 (Kl.rn (Kl.L s) : Int), .string s] w fun e w' => ∃ v', e = .returned v' ∧ w'.ownsRow base 5 1 v' (t ++ Kl.piece (Kl.L s)).length ((t ++ Kl.piece (Kl.L s)).map B8) ∧ Below base w w' := by
  have hne : Kl.L s ≠ [] := fun e => by have := Kl.L_length s; rw [e] at this; simp at this; omega
  have hrl := Kl.rn_le (Kl.L s)
  have hp := Try.strings_HasPrefix s ⟨(Lib.encodeRune (Kl.rn (Kl.L s) : Int)).toArray⟩
  have hbeg := Kl.begins_iff hne
  have hpe : Lib.hasPrefix s.data.toList (⟨(Lib.encodeRune (Kl.rn (Kl.L s) : Int)).toArray⟩ : ByteArray).data.toList = (Lib.encodeRune (Kl.rn (Kl.L s) : Int)).isPrefixOf (Kl.L s) := by simp [Lib.hasPrefix, Kl.L]
  rw [hpe, hbeg, hbd] at hp
  simp only [Bool.not_true, Bool.not_false] at hp
  have hcv := enc_bytes _ hrl
  obtain ⟨i0, hi, hz0, hz1, hz2⟩ := info_parts infoB
  have hok : Kl.okR (Kl.rn (Kl.L s)) = false := by unfold Kl.okR; simp; omega
  have h92 : ¬ Kl.rn (Kl.L s) = 92 := by omega
  have H := Lib.hid (piece_no hbd h92 hok)
  have henc := Kl.enc_take hne hbd
  rw [← henc] at H
  obtain ⟨en', hen'⟩ : ∃ en', Lib.encodeRune (Kl.rn (Kl.L s) : Int) = en' := ⟨_, rfl⟩
  have hel : en'.length ≤ s.size := by rw [← hen', henc, List.length_take, Kl.L_length]; omega
  rw [hen'] at H hp hcv
  have hx := fun v w hown hb => appendHex_any ⟨en'.toArray⟩ v t base w (by rw [size_mk]; omega) hown hb hl
  have he : Kl.hxs (Kl.L ⟨en'.toArray⟩) = Kl.piece (Kl.L s) := by rw [H.out]; rfl
  rw [he] at hx
  have HX := Lib.hid hx
  clear he hx H
  obtain ⟨pc, hpc⟩ : ∃ pc, Kl.piece (Kl.L s) = pc := ⟨_, rfl⟩
  rw [hpc] at HX ⊢
  clear hpc henc hok
  have q : ((Kl.rn (Kl.L s) : Int) == 92) = false := by rw [beq_eq_false_iff_ne]; omega
  clear h92
  have d1 : (32 : Int) ≤ (Kl.rn (Kl.L s) : Int) := by omega
  have d2 : decide ((Kl.rn (Kl.L s) : Int) ≤ 126) = false := by simp; omega
  have d3 : decide ((160 : Int) ≤ (Kl.rn (Kl.L s) : Int)) = false := by simp; omega

  rw [hen'] at hpe
  clear hen'
  have HP := Lib.hid (fun w => (hp w).mono fun e w' h => (⟨h.1, h.2.symm⟩ : _ ∧ w = w'))
  clear hpe hbeg hp hbd
  clear hne
  go_enter Try.func56, Try.ntmps56
  go_wp2_with (first
    | (go_at_call 61; refine (HP.out _).mono ?_; rintro e w' ⟨rfl, rfl⟩)
    | (go_at_call 62; refine (HX.out _ _ hown hb).mono ?_; rintro e w1 ⟨v1, rfl, hown1, hb1⟩; have HB := Lib.hid hb1; clear hb1))
  go_ret
  exact ⟨v1, rfl, hown1, HB.out⟩

theorem appendRune_any (s : ByteArray) (v : Value) (t : List UInt8) (base : Nat) (w : World) (hs : s.size ≤ 4294967295) (h0 : 0 < s.size) (hown : w.ownsRow base 5 1 v t.length (t.map B8)) (hb : base ≤ w.heap.size) (hl : t.length ≤ 17179869184) :
    Calls Try.prog 56 #[v, .int .i32 (Kl.rn (Kl.L s) : Int), .string s] w fun e w' => ∃ v', e = .returned v' ∧ w'.ownsRow base 5 1 v' (t ++ Kl.piece (Kl.L s)).length ((t ++ Kl.piece (Kl.L s)).map B8) ∧ Below base w w' := by
  cases hbd : Kl.bd (Kl.L s) with
  | true => exact appendRune_bd s v t base w hs h0 hown hb hl hbd
  | false =>
    by_cases h92 : Kl.rn (Kl.L s) = 92
    · exact appendRune_92 s v t base w hs h0 hown hb hl hbd h92
    · by_cases h32 : 32 ≤ Kl.rn (Kl.L s)
      · by_cases h126 : Kl.rn (Kl.L s) ≤ 126
        · exact appendRune_low s v t base w hs h0 hown hb hl hbd h92 h32 h126
        · by_cases h160 : 160 ≤ Kl.rn (Kl.L s)
          · exact appendRune_high s v t base w hs h0 hown hb hl hbd h160
          · exact appendRune_mid s v t base w hs h0 hown hb hl hbd (by omega) (by omega)
      · exact appendRune_ctl s v t base w hs h0 hown hb hl hbd (by omega)
end Go.Proofs.Ytgljgjkoaaibnaa.KK
