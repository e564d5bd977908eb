/-
  EntriesLists: the walk.
-/
import Derived.Test.YtchgmpmlbncmbaaDoorFb
namespace Go.Proofs.YtchgmpmlbncmbaaDoor.KK
open Go.ChangeShapes Go.WideShapes Go.ChangeAt Go.RowKit Go.Proofs Go.Sort

theorem farE_len {xs : List El.En} (h : farE xs = false) : xs.length ≤ 5010 := by
  unfold farE at h
  by_cases g : 60 < xs.length
  · rw [if_pos g] at h; simp at h; omega
  · omega
set_option maxRecDepth 100000 in
set_option maxHeartbeats 4000000 in
theorem lists_far (A : Option Addr) (c : Nat) (xs : List El.En) (key : ByteArray) (w : World) (he : EnvE w) (hf : EsAt w A xs) (hn : xs.length ≤ 9223372036854775807) (hs : Sized xs) (hk : key.size ≤ 9223372036854775807) (h : farE xs = true ∨ 100 < key.size) :
    Calls Tryd.prog 4 #[.slice A xs.length c, .string key] w fun e w' => e = .returned (.bool true) ∧ Below w.heap.size w w' := by
  have HE := Lib.hid he
  have J := Lib.hid (far_any A c xs w hf hn hs)
  clear he hf hs
  by_cases h1 : farE xs = true
  · rw [h1] at J
    clear h h1
    go_enter Tryd.func4, Tryd.ntmps4
    go_wp2_with fail
    refine J.out.mono ?_
    rintro e w1 ⟨rfl, hb⟩
    have HB := Lib.hid hb
    clear hb J
    go_wp2_with fail
    refine (awake_any _ (HE.out.below HB.out)).mono ?_
    rintro e w2 ⟨rfl, hb⟩
    have HB := Lib.hid (eb_of HB.out hb (Nat.le_refl _))
    clear hb
    go_wp2_with fail
    go_ret
    exact ⟨rfl, HB.out⟩
  · have h2 : 100 < key.size := by rcases h with h | h; exact absurd h h1; exact h
    have h1 : farE xs = false := by simpa using h1
    rw [h1] at J
    clear h h1
    go_enter Tryd.func4, Tryd.ntmps4
    go_wp2_with fail
    refine J.out.mono ?_
    rintro e w1 ⟨rfl, hb⟩
    have HB := Lib.hid hb
    clear hb J
    go_wp2_with fail
    refine (awake_any _ (HE.out.below HB.out)).mono ?_
    rintro e w2 ⟨rfl, hb⟩
    have HB := Lib.hid (eb_of HB.out hb (Nat.le_refl _))
    clear hb
    go_wp2_with fail
    go_ret
    exact ⟨rfl, HB.out⟩
set_option maxRecDepth 100000 in
set_option maxHeartbeats 4000000 in
theorem lists_near (A : Option Addr) (c : Nat) (xs : List El.En) (key : ByteArray) (w : World) (he : EnvE w) (hf : EsAt w A xs) (hs : Sized xs) (h1 : farE xs = false) (h2 : ¬ 100 < key.size) :
    Calls Tryd.prog 4 #[.slice A xs.length c, .string key] w fun e w' => e = .returned (.bool true) ∧ Below w.heap.size w w' := by
  have hn := farE_len h1
  have HE := Lib.hid he
  have J0 := Lib.hid (far_any A c xs w hf (by omega) hs)
  rw [h1] at J0
  have J1 := Lib.hid (fun w1 (h : Below w.heap.size w w1) => eList_any A c xs w1 (hf.below h (Nat.le_refl _)) (by omega) hs)
  have J2 := Lib.hid (fun w1 (h : Below w.heap.size w w1) => fList_any A c xs w1 (hf.below h (Nat.le_refl _)) (by omega) hs)
  have J3 := Lib.hid (fun w1 (h : Below w.heap.size w w1) => eLive_any A c xs w1 (hf.below h (Nat.le_refl _)) (by omega) hs)
  have J4 := Lib.hid (fun w1 (h : Below w.heap.size w w1) => fLive_any A c xs w1 (hf.below h (Nat.le_refl _)) (by omega) hs)
  have J5 := Lib.hid (fun w1 (h : Below w.heap.size w w1) => eFind_any A c xs key w1 (hf.below h (Nat.le_refl _)) (by omega) hs (by omega))
  have J6 := Lib.hid (fun w1 (h : Below w.heap.size w w1) => fFind_any A c xs key w1 (hf.below h (Nat.le_refl _)) (by omega) hs (by omega))
  have hll : (liveE xs).length ≤ 9223372036854775807 := by
    have : (liveE xs).length ≤ xs.length := by unfold liveE aliveE; split; exact List.length_filter_le _ _; exact Nat.zero_le _
    omega
  clear he hf hs h1
  obtain ⟨n, hnn⟩ : ∃ n, xs.length = n := ⟨_, rfl⟩
  rw [hnn] at hn J0 J1 J2 J3 J4 J5 J6 ⊢
  clear hnn
  generalize liveE xs = ys at *
  generalize findE xs key = fk at *
  generalize listE xs = lk at *
  obtain ⟨l1, l2⟩ := lk
  obtain ⟨f1, f2⟩ := fk
  simp only at J0 J1 J2 J3 J4 J5 J6
  have HB := Lib.hid (Below.refl w.heap.size w)
  go_enter Tryd.func4, Tryd.ntmps4
  go_wp2_with fail
  refine J0.out.mono ?_
  rintro e w1 ⟨rfl, hb⟩
  have HB := Lib.hid (eb_of HB.out hb (by first | exact Nat.le_refl _ | exact HB.out.size))
  clear hb
  go_wp2_with fail
  refine (J1.out _ HB.out).mono ?_
  rintro e w2 ⟨rfl, hb⟩
  have HB := Lib.hid (eb_of HB.out hb (by first | exact Nat.le_refl _ | exact HB.out.size))
  clear hb
  go_wp2_with fail
  refine (J2.out _ HB.out).mono ?_
  rintro e w3 ⟨rfl, hb⟩
  have HB := Lib.hid (eb_of HB.out hb (by first | exact Nat.le_refl _ | exact HB.out.size))
  clear hb
  go_wp2_with fail
  refine (J3.out _ HB.out).mono ?_
  rintro e w4 ⟨A4, c4, rfl, hl4, hb⟩
  have HB := Lib.hid (eb_of HB.out hb (by first | exact Nat.le_refl _ | exact HB.out.size))
  have H4 := Lib.hid hl4
  clear hb hl4
  go_wp2_with fail
  refine (J4.out _ HB.out).mono ?_
  rintro e w5 ⟨A5, c5, rfl, hl5, hb⟩
  have HB := Lib.hid (eb_of HB.out hb (by first | exact Nat.le_refl _ | exact HB.out.size))
  have H4 := Lib.hid (H4.out.below hb (Nat.le_refl _))
  have JS := Lib.hid (by have K := Same_any A4 A5 c4 c5 ys ys w5 H4.out hl5 hll hll; rw [decide_eq_true rfl] at K; exact K)
  clear hb hl5
  go_wp2_with fail
  refine JS.out.mono ?_
  rintro e w6 ⟨rfl, hb⟩
  have HB := Lib.hid (eb_of HB.out hb (by first | exact Nat.le_refl _ | exact HB.out.size))
  clear hb
  go_wp2_with fail
  refine (J5.out _ HB.out).mono ?_
  rintro e w7 ⟨rfl, hb⟩
  have HB := Lib.hid (eb_of HB.out hb (by first | exact Nat.le_refl _ | exact HB.out.size))
  clear hb
  go_wp2_with fail
  refine (J6.out _ HB.out).mono ?_
  rintro e w8 ⟨rfl, hb⟩
  have HB := Lib.hid (eb_of HB.out hb (by first | exact Nat.le_refl _ | exact HB.out.size))
  clear hb
  go_wp2_with fail
  refine (awake_any _ (HE.out.below HB.out)).mono ?_
  rintro e w9 ⟨rfl, hb⟩
  have HB := Lib.hid (eb_of HB.out hb (by first | exact Nat.le_refl _ | exact HB.out.size))
  clear hb
  go_wp2_with fail
  go_ret
  exact ⟨rfl, HB.out⟩
theorem EntriesLists_any (A : Option Addr) (c : Nat) (xs : List El.En) (key : ByteArray) (w : World) (he : EnvE w) (hf : EsAt w A xs) (hn : xs.length ≤ 9223372036854775807) (hs : Sized xs) (hk : key.size ≤ 9223372036854775807) :
    Calls Tryd.prog 4 #[.slice A xs.length c, .string key] w fun e w' => e = .returned (.bool true) ∧ Below w.heap.size w w' := by
  by_cases h1 : farE xs = true
  · exact lists_far A c xs key w he hf hn hs hk (.inl h1)
  by_cases h2 : 100 < key.size
  · exact lists_far A c xs key w he hf hn hs hk (.inr h2)
  exact lists_near A c xs key w he hf hs (by simpa using h1) h2
end Go.Proofs.YtchgmpmlbncmbaaDoor.KK
