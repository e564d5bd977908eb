/-
  The walk of KeysTexts.
-/
import Derived.Test.YtgljgjkoaaibnaaMg
import Derived.Test.YtgljgjkoaaibnaaKx
namespace Go.Proofs.Ytgljgjkoaaibnaa.KK
open Go.ChangeShapes Go.WideShapes Go.ChangeAt Go.RowKit Go.Proofs

theorem KeysTexts_long0 (k s : ByteArray) (w : World) (hk : k.size ≤ 9223372036854775807) (hs : s.size ≤ 9223372036854775807)  (y : 200 < k.size) :
    Calls Try.prog 6 #[.string k, .string s] w fun e w' => e = .returned (.bool true) ∧ Below w.heap.size w w' := by
  have Fk := Lib.hid (fun w => far_yes k w hk y)
  clear y
  go_enter Try.func6, Try.ntmps6
  go_wp2_with fail
  refine (Fk.out _).mono ?_
  rintro e w' ⟨rfl, rfl⟩
  go_wp2_with fail
  refine (awake_any _).mono ?_
  rintro e w1 ⟨rfl, hb⟩
  have HB := Lib.hid hb
  clear hb
  go_wp2_with fail
  go_ret
  exact ⟨rfl, HB.out⟩

theorem KeysTexts_long1 (k s : ByteArray) (w : World) (hk : k.size ≤ 9223372036854775807) (hs : s.size ≤ 9223372036854775807) (nk : ¬ 200 < k.size) (y : 200 < s.size) :
    Calls Try.prog 6 #[.string k, .string s] w fun e w' => e = .returned (.bool true) ∧ Below w.heap.size w w' := by
  have Fk := Lib.hid (fun w => far_no k w hk nk)
  have Fs := Lib.hid (fun w => far_yes s w hs y)
  clear nk y
  go_enter Try.func6, Try.ntmps6
  go_wp2_with fail
  refine (Fk.out _).mono ?_
  rintro e w' ⟨rfl, rfl⟩
  go_wp2_with fail
  refine (Fs.out _).mono ?_
  rintro e w' ⟨rfl, rfl⟩
  go_wp2_with fail
  refine (awake_any _).mono ?_
  rintro e w1 ⟨rfl, hb⟩
  have HB := Lib.hid hb
  clear hb
  go_wp2_with fail
  go_ret
  exact ⟨rfl, HB.out⟩

set_option maxRecDepth 100000 in
set_option maxHeartbeats 1000000 in
theorem KeysTexts_aa (k s : ByteArray) (w : World) (nk : ¬ 200 < k.size) (ns : ¬ 200 < s.size) (h1 : k.size ≤ 32) (h2 : (Kl.readE (Kl.L s)).1 = 0) :
    Calls Try.prog 6 #[.string k, .string s] w fun e w' => e = .returned (.bool true) ∧ Below w.heap.size w w' := by
  have Fk := Lib.hid (fun w => far_no k w (by omega) nk)
  have Fs := Lib.hid (fun w => far_no s w (by omega) ns)
  have K1 := fun w => kShow_any k w (by omega)
  have K2 := fun w => rShow_any k w (by omega)
  have K3 := fun w => kRead_any s w (by omega)
  have K4 := fun w => rRead_any s w (by omega)
  have hsh : showE (Kl.L k) = (0, Kl.txt (Kl.L k)) := by unfold showE; rw [Kl.L_length, if_pos h1]
  rw [hsh] at K1 K2
  have hb := Kl.read_show (k := Kl.L k) (by rw [Kl.L_length]; exact h1)
  have hl := Kl.txt_length (Kl.L k).length (Kl.L k) (Nat.le_refl _)
  rw [Kl.L_length] at hl
  have K5 := fun w => kRead_any ⟨(Kl.txt (Kl.L k)).toArray⟩ w (by rw [size_mk]; omega)
  have hLt : Kl.L ⟨(Kl.txt (Kl.L k)).toArray⟩ = Kl.txt (Kl.L k) := rfl
  rw [hLt, hb, strE_eta, ← mk_L] at K5
  rw [strE_eta] at K1 K2 K3 K4
  dsimp only at K1 K2
  obtain ⟨c, hc⟩ : ∃ c, (Kl.readE (Kl.L s)).2 = c := ⟨_, rfl⟩
  have hrd : Kl.readE (Kl.L s) = (0, c) := by rw [← h2, ← hc]
  obtain ⟨t1, t2⟩ := Kl.show_read hrd
  have K6 := fun w => kShow_any ⟨c.toArray⟩ w (by rw [size_mk]; omega)
  have hLc : Kl.L ⟨c.toArray⟩ = c := rfl
  have hs2 : showE c = (0, Kl.L s) := by unfold showE; rw [if_pos t2, t1]
  rw [hLc, hs2, strE_eta, ← mk_L] at K6
  rw [hc, h2] at K3 K4
  obtain ⟨C, hC⟩ : ∃ C : ByteArray, ⟨c.toArray⟩ = C := ⟨_, rfl⟩
  rw [hC] at K3 K4 K6
  obtain ⟨A, hA⟩ : ∃ A : ByteArray, ⟨(Kl.txt (Kl.L k)).toArray⟩ = A := ⟨_, rfl⟩
  rw [hA] at K1 K2 K5
  have J1 := Lib.hid K1
  have J2 := Lib.hid K2
  have J3 := Lib.hid K3
  have J4 := Lib.hid K4
  have J5 := Lib.hid K5
  have J6 := Lib.hid K6
  clear K1 K2 K3 K4 K5 hb hl hLt hA K6 hrd t1 t2 hLc hs2 hsh hc hC h1 h2 nk ns
  have HB := Lib.hid (Below.refl w.heap.size w)
  go_enter Try.func6, Try.ntmps6
  go_wp2_with fail
  refine (Fk.out _).mono ?_
  rintro e w' ⟨rfl, rfl⟩
  go_wp2_with fail
  refine (Fs.out _).mono ?_
  rintro e w' ⟨rfl, rfl⟩
  go_wp2_with fail
  refine (J1.out _).mono ?_
  rintro e w1 ⟨rfl, hb⟩
  have HB := Lib.hid (below_of HB.out hb (Nat.le_refl _))
  clear hb
  go_wp2_with fail
  refine (J2.out _).mono ?_
  rintro e w2 ⟨rfl, hb⟩
  have HB := Lib.hid (below_of HB.out hb (Nat.le_refl _))
  clear hb
  go_wp2_with fail
  refine (J3.out _).mono ?_
  rintro e w3 ⟨rfl, hb⟩
  have HB := Lib.hid (below_of HB.out hb (Nat.le_refl _))
  clear hb
  go_wp2_with fail
  refine (J4.out _).mono ?_
  rintro e w4 ⟨rfl, hb⟩
  have HB := Lib.hid (below_of HB.out hb (Nat.le_refl _))
  clear hb
  go_wp2_with fail
  refine (J5.out _).mono ?_
  rintro e w5 ⟨rfl, hb⟩
  have HB := Lib.hid (below_of HB.out hb (Nat.le_refl _))
  clear hb
  go_wp2_with fail
  refine (J6.out _).mono ?_
  rintro e w6 ⟨rfl, hb⟩
  have HB := Lib.hid (below_of HB.out hb (Nat.le_refl _))
  clear hb
  go_wp2_with fail
  refine (awake_any _).mono ?_
  rintro e w7 ⟨rfl, hb⟩
  have HB := Lib.hid (below_of HB.out hb (Nat.le_refl _))
  clear hb
  go_wp2_with fail
  go_ret
  exact ⟨by first | rfl | simp [Array.getD], HB.out⟩

set_option maxRecDepth 100000 in
set_option maxHeartbeats 1000000 in
theorem KeysTexts_ab (k s : ByteArray) (w : World) (nk : ¬ 200 < k.size) (ns : ¬ 200 < s.size) (h1 : k.size ≤ 32) (h2 : ¬ (Kl.readE (Kl.L s)).1 = 0) :
    Calls Try.prog 6 #[.string k, .string s] w fun e w' => e = .returned (.bool true) ∧ Below w.heap.size w w' := by
  have Fk := Lib.hid (fun w => far_no k w (by omega) nk)
  have Fs := Lib.hid (fun w => far_no s w (by omega) ns)
  have K1 := fun w => kShow_any k w (by omega)
  have K2 := fun w => rShow_any k w (by omega)
  have K3 := fun w => kRead_any s w (by omega)
  have K4 := fun w => rRead_any s w (by omega)
  have hsh : showE (Kl.L k) = (0, Kl.txt (Kl.L k)) := by unfold showE; rw [Kl.L_length, if_pos h1]
  rw [hsh] at K1 K2
  have hb := Kl.read_show (k := Kl.L k) (by rw [Kl.L_length]; exact h1)
  have hl := Kl.txt_length (Kl.L k).length (Kl.L k) (Nat.le_refl _)
  rw [Kl.L_length] at hl
  have K5 := fun w => kRead_any ⟨(Kl.txt (Kl.L k)).toArray⟩ w (by rw [size_mk]; omega)
  have hLt : Kl.L ⟨(Kl.txt (Kl.L k)).toArray⟩ = Kl.txt (Kl.L k) := rfl
  rw [hLt, hb, strE_eta, ← mk_L] at K5
  rw [strE_eta] at K1 K2 K3 K4
  dsimp only at K1 K2
  obtain ⟨c, hc⟩ : ∃ c, (Kl.readE (Kl.L s)).2 = c := ⟨_, rfl⟩
  obtain ⟨e2, he2⟩ : ∃ e, (Kl.readE (Kl.L s)).1 = e := ⟨_, rfl⟩
  rw [hc, he2] at K3 K4
  rw [he2] at h2
  have q2 : (e2 == 0) = false := by rw [beq_eq_false_iff_ne]; exact h2
  obtain ⟨C, hC⟩ : ∃ C : ByteArray, ⟨c.toArray⟩ = C := ⟨_, rfl⟩
  rw [hC] at K3 K4
  obtain ⟨A, hA⟩ : ∃ A : ByteArray, ⟨(Kl.txt (Kl.L k)).toArray⟩ = A := ⟨_, rfl⟩
  rw [hA] at K1 K2 K5
  have J1 := Lib.hid K1
  have J2 := Lib.hid K2
  have J3 := Lib.hid K3
  have J4 := Lib.hid K4
  have J5 := Lib.hid K5
  clear K1 K2 K3 K4 K5 hb hl hLt hA he2 hsh hc hC h1 h2 nk ns
  have HB := Lib.hid (Below.refl w.heap.size w)
  go_enter Try.func6, Try.ntmps6
  go_wp2_with fail
  refine (Fk.out _).mono ?_
  rintro e w' ⟨rfl, rfl⟩
  go_wp2_with fail
  refine (Fs.out _).mono ?_
  rintro e w' ⟨rfl, rfl⟩
  go_wp2_with fail
  refine (J1.out _).mono ?_
  rintro e w1 ⟨rfl, hb⟩
  have HB := Lib.hid (below_of HB.out hb (Nat.le_refl _))
  clear hb
  go_wp2_with fail
  refine (J2.out _).mono ?_
  rintro e w2 ⟨rfl, hb⟩
  have HB := Lib.hid (below_of HB.out hb (Nat.le_refl _))
  clear hb
  go_wp2_with fail
  refine (J3.out _).mono ?_
  rintro e w3 ⟨rfl, hb⟩
  have HB := Lib.hid (below_of HB.out hb (Nat.le_refl _))
  clear hb
  go_wp2_with fail
  refine (J4.out _).mono ?_
  rintro e w4 ⟨rfl, hb⟩
  have HB := Lib.hid (below_of HB.out hb (Nat.le_refl _))
  clear hb
  go_wp2_with fail
  refine (J5.out _).mono ?_
  rintro e w5 ⟨rfl, hb⟩
  have HB := Lib.hid (below_of HB.out hb (Nat.le_refl _))
  clear hb
  go_wp2_with fail
  refine (awake_any _).mono ?_
  rintro e w7 ⟨rfl, hb⟩
  have HB := Lib.hid (below_of HB.out hb (Nat.le_refl _))
  clear hb
  go_wp2_with fail
  go_ret
  exact ⟨by first | rfl | simp [Array.getD], HB.out⟩

set_option maxRecDepth 100000 in
set_option maxHeartbeats 1000000 in
theorem KeysTexts_ba (k s : ByteArray) (w : World) (nk : ¬ 200 < k.size) (ns : ¬ 200 < s.size) (h1 : ¬ k.size ≤ 32) (h2 : (Kl.readE (Kl.L s)).1 = 0) :
    Calls Try.prog 6 #[.string k, .string s] w fun e w' => e = .returned (.bool true) ∧ Below w.heap.size w w' := by
  have Fk := Lib.hid (fun w => far_no k w (by omega) nk)
  have Fs := Lib.hid (fun w => far_no s w (by omega) ns)
  have K1 := fun w => kShow_any k w (by omega)
  have K2 := fun w => rShow_any k w (by omega)
  have K3 := fun w => kRead_any s w (by omega)
  have K4 := fun w => rRead_any s w (by omega)
  have hsh : showE (Kl.L k) = (3, []) := by unfold showE; rw [Kl.L_length, if_neg h1]
  rw [hsh] at K1 K2
  rw [strE_eta] at K1 K2 K3 K4
  dsimp only at K1 K2
  obtain ⟨c, hc⟩ : ∃ c, (Kl.readE (Kl.L s)).2 = c := ⟨_, rfl⟩
  have hrd : Kl.readE (Kl.L s) = (0, c) := by rw [← h2, ← hc]
  obtain ⟨t1, t2⟩ := Kl.show_read hrd
  have K6 := fun w => kShow_any ⟨c.toArray⟩ w (by rw [size_mk]; omega)
  have hLc : Kl.L ⟨c.toArray⟩ = c := rfl
  have hs2 : showE c = (0, Kl.L s) := by unfold showE; rw [if_pos t2, t1]
  rw [hLc, hs2, strE_eta, ← mk_L] at K6
  rw [hc, h2] at K3 K4
  obtain ⟨C, hC⟩ : ∃ C : ByteArray, ⟨c.toArray⟩ = C := ⟨_, rfl⟩
  rw [hC] at K3 K4 K6
  have J1 := Lib.hid K1
  have J2 := Lib.hid K2
  have J3 := Lib.hid K3
  have J4 := Lib.hid K4
  have J6 := Lib.hid K6
  clear K1 K2 K3 K4 K6 hrd t1 t2 hLc hs2 hsh hc hC h1 h2 nk ns
  have HB := Lib.hid (Below.refl w.heap.size w)
  go_enter Try.func6, Try.ntmps6
  go_wp2_with fail
  refine (Fk.out _).mono ?_
  rintro e w' ⟨rfl, rfl⟩
  go_wp2_with fail
  refine (Fs.out _).mono ?_
  rintro e w' ⟨rfl, rfl⟩
  go_wp2_with fail
  refine (J1.out _).mono ?_
  rintro e w1 ⟨rfl, hb⟩
  have HB := Lib.hid (below_of HB.out hb (Nat.le_refl _))
  clear hb
  go_wp2_with fail
  refine (J2.out _).mono ?_
  rintro e w2 ⟨rfl, hb⟩
  have HB := Lib.hid (below_of HB.out hb (Nat.le_refl _))
  clear hb
  go_wp2_with fail
  refine (J3.out _).mono ?_
  rintro e w3 ⟨rfl, hb⟩
  have HB := Lib.hid (below_of HB.out hb (Nat.le_refl _))
  clear hb
  go_wp2_with fail
  refine (J4.out _).mono ?_
  rintro e w4 ⟨rfl, hb⟩
  have HB := Lib.hid (below_of HB.out hb (Nat.le_refl _))
  clear hb
  go_wp2_with fail
  refine (J6.out _).mono ?_
  rintro e w6 ⟨rfl, hb⟩
  have HB := Lib.hid (below_of HB.out hb (Nat.le_refl _))
  clear hb
  go_wp2_with fail
  refine (awake_any _).mono ?_
  rintro e w7 ⟨rfl, hb⟩
  have HB := Lib.hid (below_of HB.out hb (Nat.le_refl _))
  clear hb
  go_wp2_with fail
  go_ret
  exact ⟨by first | rfl | simp [Array.getD], HB.out⟩

set_option maxRecDepth 100000 in
set_option maxHeartbeats 1000000 in
theorem KeysTexts_bb (k s : ByteArray) (w : World) (nk : ¬ 200 < k.size) (ns : ¬ 200 < s.size) (h1 : ¬ k.size ≤ 32) (h2 : ¬ (Kl.readE (Kl.L s)).1 = 0) :
    Calls Try.prog 6 #[.string k, .string s] w fun e w' => e = .returned (.bool true) ∧ Below w.heap.size w w' := by
  have Fk := Lib.hid (fun w => far_no k w (by omega) nk)
  have Fs := Lib.hid (fun w => far_no s w (by omega) ns)
  have K1 := fun w => kShow_any k w (by omega)
  have K2 := fun w => rShow_any k w (by omega)
  have K3 := fun w => kRead_any s w (by omega)
  have K4 := fun w => rRead_any s w (by omega)
  have hsh : showE (Kl.L k) = (3, []) := by unfold showE; rw [Kl.L_length, if_neg h1]
  rw [hsh] at K1 K2
  rw [strE_eta] at K1 K2 K3 K4
  dsimp only at K1 K2
  obtain ⟨c, hc⟩ : ∃ c, (Kl.readE (Kl.L s)).2 = c := ⟨_, rfl⟩
  obtain ⟨e2, he2⟩ : ∃ e, (Kl.readE (Kl.L s)).1 = e := ⟨_, rfl⟩
  rw [hc, he2] at K3 K4
  rw [he2] at h2
  have q2 : (e2 == 0) = false := by rw [beq_eq_false_iff_ne]; exact h2
  obtain ⟨C, hC⟩ : ∃ C : ByteArray, ⟨c.toArray⟩ = C := ⟨_, rfl⟩
  rw [hC] at K3 K4
  have J1 := Lib.hid K1
  have J2 := Lib.hid K2
  have J3 := Lib.hid K3
  have J4 := Lib.hid K4
  clear K1 K2 K3 K4 he2 hsh hc hC h1 h2 nk ns
  have HB := Lib.hid (Below.refl w.heap.size w)
  go_enter Try.func6, Try.ntmps6
  go_wp2_with fail
  refine (Fk.out _).mono ?_
  rintro e w' ⟨rfl, rfl⟩
  go_wp2_with fail
  refine (Fs.out _).mono ?_
  rintro e w' ⟨rfl, rfl⟩
  go_wp2_with fail
  refine (J1.out _).mono ?_
  rintro e w1 ⟨rfl, hb⟩
  have HB := Lib.hid (below_of HB.out hb (Nat.le_refl _))
  clear hb
  go_wp2_with fail
  refine (J2.out _).mono ?_
  rintro e w2 ⟨rfl, hb⟩
  have HB := Lib.hid (below_of HB.out hb (Nat.le_refl _))
  clear hb
  go_wp2_with fail
  refine (J3.out _).mono ?_
  rintro e w3 ⟨rfl, hb⟩
  have HB := Lib.hid (below_of HB.out hb (Nat.le_refl _))
  clear hb
  go_wp2_with fail
  refine (J4.out _).mono ?_
  rintro e w4 ⟨rfl, hb⟩
  have HB := Lib.hid (below_of HB.out hb (Nat.le_refl _))
  clear hb
  go_wp2_with fail
  refine (awake_any _).mono ?_
  rintro e w7 ⟨rfl, hb⟩
  have HB := Lib.hid (below_of HB.out hb (Nat.le_refl _))
  clear hb
  go_wp2_with fail
  go_ret
  exact ⟨by first | rfl | simp [Array.getD], HB.out⟩

theorem KeysTexts_short (k s : ByteArray) (w : World) (hk : k.size ≤ 9223372036854775807) (hs : s.size ≤ 9223372036854775807) (nk : ¬ 200 < k.size) (ns : ¬ 200 < s.size) :
    Calls Try.prog 6 #[.string k, .string s] w fun e w' => e = .returned (.bool true) ∧ Below w.heap.size w w' := by
  by_cases h1 : k.size ≤ 32 <;> by_cases h2 : (Kl.readE (Kl.L s)).1 = 0
  · exact KeysTexts_aa k s w nk ns h1 h2
  · exact KeysTexts_ab k s w nk ns h1 h2
  · exact KeysTexts_ba k s w nk ns h1 h2
  · exact KeysTexts_bb k s w nk ns h1 h2

theorem KeysTexts_any (k s : ByteArray) (w : World) (hk : k.size ≤ 9223372036854775807) (hs : s.size ≤ 9223372036854775807) :
    Calls Try.prog 6 #[.string k, .string s] w fun e w' => e = .returned (.bool true) ∧ Below w.heap.size w w' := by
  by_cases nk : 200 < k.size
  · exact KeysTexts_long0 k s w hk hs  nk
  by_cases ns : 200 < s.size
  · exact KeysTexts_long1 k s w hk hs  nk ns
  exact KeysTexts_short k s w hk hs  nk ns
end Go.Proofs.Ytgljgjkoaaibnaa.KK
