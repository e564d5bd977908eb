/-
  EntriesSorts: the walk.
-/
import Derived.Test.YtmobjpmkenpckaaDoorIj
import Derived.Test.YtmobjpmkenpckaaDoorIf
namespace Go.Proofs.YtmobjpmkenpckaaDoor.KK
open Go.ChangeShapes Go.WideShapes Go.ChangeAt Go.RowKit Go.Proofs Go.Sort

theorem new_len2 {xs ys : List El.En} (h : NewOut xs ys) : ys.length ≤ xs.length := by
  rcases h with ⟨_, rfl⟩ | ⟨_, l, l', rfl, rfl, hst⟩
  · simp
  · have := cpt_len l'
    rw [Stb.stab_length preV hst] at this
    simpa using this
set_option maxRecDepth 100000 in
set_option maxHeartbeats 4000000 in
theorem sorts_far (A : Option Addr) (c : Nat) (xs : List El.En) (B : Option Addr) (d : Nat) (ys : List El.En) (w : World) (he : EnvE w) (hf : EsAt w A xs) (hg : EsAt w B ys) (hn : xs.length ≤ 9223372036854775807) (hm : ys.length ≤ 9223372036854775807) (hs : Sized xs) (ht : Sized ys) (h : farE xs = true ∨ farE ys = true) :
    Calls Tryd.prog 3 #[.slice A xs.length c, .slice B ys.length d] w fun e w' => e = .returned (.bool true) ∧ Below w.heap.size w w' := by
  have HE := Lib.hid he
  have J1 := Lib.hid (fun w1 (h : Below w.heap.size w w1) => far_any A c xs w1 (hf.below h (Nat.le_refl _)) hn hs)
  have J2 := Lib.hid (fun w1 (h : Below w.heap.size w w1) => far_any B d ys w1 (hg.below h (Nat.le_refl _)) hm ht)
  have HB := Lib.hid (Below.refl w.heap.size w)
  clear he hf hg hs ht
  generalize xs.length = nx at *
  generalize ys.length = ny at *
  cases h1 : farE xs with
  | true =>
    rw [h1] at J1
    clear h h1
    go_enter Tryd.func3, Tryd.ntmps3
    go_wp2_with fail
    refine (J1.out _ HB.out).mono ?_
    rintro e w1 ⟨rfl, hb⟩
    have HB := Lib.hid (eb_of HB.out hb (by first | exact Nat.le_refl _ | exact HB.out.size))
    clear hb
    go_wp2_with fail
    refine (awake_any _ (HE.out.below HB.out)).mono ?_
    rintro e w19 ⟨rfl, hb⟩
    have HB := Lib.hid (eb_of HB.out hb (by first | exact Nat.le_refl _ | exact HB.out.size))
    clear hb
    go_wp2_with fail
    go_ret
    exact ⟨rfl, HB.out⟩

  | false =>
    rw [h1] at J1
    have h2 : farE ys = true := by
      rcases h with h | h
      · rw [h1] at h; cases h
      · exact h
    rw [h2] at J2
    clear h h1 h2
    go_enter Tryd.func3, Tryd.ntmps3
    go_wp2_with fail
    refine (J1.out _ HB.out).mono ?_
    rintro e w1 ⟨rfl, hb⟩
    have HB := Lib.hid (eb_of HB.out hb (by first | exact Nat.le_refl _ | exact HB.out.size))
    clear hb
    go_wp2_with fail
    refine (J2.out _ HB.out).mono ?_
    rintro e w2 ⟨rfl, hb⟩
    have HB := Lib.hid (eb_of HB.out hb (by first | exact Nat.le_refl _ | exact HB.out.size))
    clear hb
    go_wp2_with fail
    refine (awake_any _ (HE.out.below HB.out)).mono ?_
    rintro e w19 ⟨rfl, hb⟩
    have HB := Lib.hid (eb_of HB.out hb (by first | exact Nat.le_refl _ | exact HB.out.size))
    clear hb
    go_wp2_with fail
    go_ret
    exact ⟨rfl, HB.out⟩

set_option maxRecDepth 100000 in
set_option maxHeartbeats 8000000 in
theorem sorts_near (A : Option Addr) (c : Nat) (xs : List El.En) (B : Option Addr) (d : Nat) (ys : List El.En) (w : World) (he : EnvE w) (hf : EsAt w A xs) (hg : EsAt w B ys) (hn : xs.length ≤ 9223372036854775807) (hm : ys.length ≤ 9223372036854775807) (hs : Sized xs) (ht : Sized ys) (h1 : farE xs = false) (h2 : farE ys = false) (hc : xs.length ≤ c) (hB : B = none → d = 0) :
    Calls Tryd.prog 3 #[.slice A xs.length c, .slice B ys.length d] w fun e w' => e = .returned (.bool true) ∧ Below w.heap.size w w' := by
  have hn' := farE_len h1
  have hm' := farE_len h2
  have HE := Lib.hid he
  have J1 := Lib.hid (fun w1 (h : Below w.heap.size w w1) => by have K := far_any A c xs w1 (hf.below h (Nat.le_refl _)) hn hs; rw [h1] at K; exact K)
  have J2 := Lib.hid (fun w1 (h : Below w.heap.size w w1) => by have K := far_any B d ys w1 (hg.below h (Nat.le_refl _)) hm ht; rw [h2] at K; exact K)
  have K1 := Lib.hid (fun w1 (h : Below w.heap.size w w1) => Sort_full A c xs w1 (hf.below h (Nat.le_refl _)) (by omega) hs)
  have K2 := Lib.hid (fun w1 (h : Below w.heap.size w w1) => fSort_full A c xs w1 (hf.below h (Nat.le_refl _)) (by omega) hs)
  have K3 := Lib.hid (fun w1 (h : Below w.heap.size w w1) => Newest_full A c xs w1 (hf.below h (Nat.le_refl _)) (by omega) hs)
  have K4 := Lib.hid (fun w1 (h : Below w.heap.size w w1) => fNewest_full A c xs w1 (hf.below h (Nat.le_refl _)) (by omega) hs)
  obtain ⟨⟨r, lo⟩, hro⟩ : ∃ p, overE xs ys = p := ⟨_, rfl⟩
  have K5 := Lib.hid (fun w1 (h : Below w.heap.size w w1) => over_as hro A c B d w1 (hf.below h (Nat.le_refl _)) (hg.below h (Nat.le_refl _)) (by omega) (by omega) hs ht hc)
  have K6 := Lib.hid (fun w1 (h : Below w.heap.size w w1) => by
    have K := fover_any A c xs B d ys w1 (hf.below h (Nat.le_refl _)) (hg.below h (Nat.le_refl _)) (by omega) (by omega) hs ht hB
    rw [hro] at K
    exact K)
  have hlo : lo.length ≤ 10020 := by
    have h1 := ovr_len xs ys
    have h2 : lo = [] ∨ lo = ovr xs ys := by
      unfold overE at hro
      split at hro
      · injection hro with _ h; exact .inl h.symm
      · split at hro
        · injection hro with _ h; exact .inl h.symm
        · split at hro
          · injection hro with _ h; exact .inl h.symm
          · injection hro with _ h; exact .inr h.symm
    rcases h2 with rfl | rfl
    · simp
    · omega
  have hsl : ∀ zs, SortOut xs zs → zs.length ≤ 5010 := fun zs h => by
    rcases h with ⟨_, rfl⟩ | ⟨_, l, l', rfl, rfl, hst⟩
    · simp
    · have := Stb.stab_length preV hst
      simp at hn' ⊢; omega
  have hnl : ∀ zs, NewOut xs zs → zs.length ≤ 5010 := fun zs h => Nat.le_trans (new_len2 h) hn'
  have HSL := Lib.hid hsl
  have HNL := Lib.hid hnl
  clear he hf hg hs ht h1 h2 hc hB hro hsl hnl
  generalize allE xs = ra at *
  generalize xs.length = nx at *
  generalize ys.length = ny at *
  obtain ⟨nl, hnl⟩ : ∃ nl, lo.length = nl := ⟨_, rfl⟩
  rw [hnl] at hlo K5
  have K6 := Lib.hid (fun w1 (h : Below w.heap.size w w1) => by
    have K := K6.out w1 h
    rw [show (r, lo).2.length = nl from hnl] at K
    exact K)
  have HNL2 := Lib.hid hnl
  clear hnl
  have HB := Lib.hid (Below.refl w.heap.size w)
  go_enter Tryd.func3, Tryd.ntmps3
  go_wp2_with fail
  refine (J1.out _ HB.out).mono ?_
  rintro e w1 ⟨rfl, hb⟩
  have HB := Lib.hid (eb_of HB.out hb (by first | exact Nat.le_refl _ | exact HB.out.size))
  clear hb
  go_wp2_with fail
  refine (J2.out _ HB.out).mono ?_
  rintro e w2 ⟨rfl, hb⟩
  have HB := Lib.hid (eb_of HB.out hb (by first | exact Nat.le_refl _ | exact HB.out.size))
  clear hb
  go_wp2_with fail
  refine (K1.out _ HB.out).mono ?_
  rintro e w3 ⟨A3, c3, l3, rfl, hso, hes, hb⟩
  have HB := Lib.hid (eb_of HB.out hb (by first | exact Nat.le_refl _ | exact HB.out.size))
  have S3 := Lib.hid hso
  have E3 := Lib.hid hes
  have hl3 := HSL.out _ hso
  clear hso hes
  obtain ⟨n3, hn3⟩ : ∃ n, l3.length = n := ⟨_, rfl⟩
  rw [hn3] at hl3 ⊢
  have HN3 := Lib.hid hn3
  clear hn3
  clear hb
  go_wp2_with fail
  refine (K2.out _ HB.out).mono ?_
  rintro e w4 ⟨A4, c4, l4, rfl, hso, hes, hb⟩
  have HB := Lib.hid (eb_of HB.out hb (by first | exact Nat.le_refl _ | exact HB.out.size))
  have E3 := Lib.hid (E3.out.below hb (Nat.le_refl _))
  obtain rfl := sortOut_one S3.out hso
  rw [HN3.out]
  have E4 := Lib.hid hes
  clear hso hes
  clear hb
  go_wp2_with fail
  refine (same_as A3 A4 c3 c4 _ HN3.out E3.out E4.out (by omega)).mono ?_
  rintro e w5 ⟨rfl, hb⟩
  have HB := Lib.hid (eb_of HB.out hb (by first | exact Nat.le_refl _ | exact HB.out.size))
  have E3 := Lib.hid (E3.out.below hb (Nat.le_refl _))
  have E4 := Lib.hid (E4.out.below hb (Nat.le_refl _))
  clear hb
  clear E3 E4 S3
  go_wp2_with fail
  refine (K3.out _ HB.out).mono ?_
  rintro e w6 ⟨A6, c6, l6, rfl, hso, hes, hb⟩
  have HB := Lib.hid (eb_of HB.out hb (by first | exact Nat.le_refl _ | exact HB.out.size))
  have S6 := Lib.hid hso
  have E6 := Lib.hid hes
  have hl6 := HNL.out _ hso
  clear hso hes
  obtain ⟨n6, hn6⟩ : ∃ n, l6.length = n := ⟨_, rfl⟩
  rw [hn6] at hl6 ⊢
  have HN6 := Lib.hid hn6
  clear hn6
  clear hb
  go_wp2_with fail
  refine (K4.out _ HB.out).mono ?_
  rintro e w7 ⟨A7, c7, l7, rfl, hso, hes, hb⟩
  have HB := Lib.hid (eb_of HB.out hb (by first | exact Nat.le_refl _ | exact HB.out.size))
  have E6 := Lib.hid (E6.out.below hb (Nat.le_refl _))
  obtain rfl := newOut_one S6.out hso
  rw [HN6.out]
  have E7 := Lib.hid hes
  clear hso hes
  clear hb
  go_wp2_with fail
  refine (same_as A6 A7 c6 c7 _ HN6.out E6.out E7.out (by omega)).mono ?_
  rintro e w8 ⟨rfl, hb⟩
  have HB := Lib.hid (eb_of HB.out hb (by first | exact Nat.le_refl _ | exact HB.out.size))
  have E6 := Lib.hid (E6.out.below hb (Nat.le_refl _))
  have E7 := Lib.hid (E7.out.below hb (Nat.le_refl _))
  clear hb
  clear E6 E7 S6
  go_wp2_with fail
  refine (K5.out _ HB.out).mono ?_
  rintro e w9 ⟨A9, c9, rfl, hes, _, hb⟩
  have HB := Lib.hid (eb_of HB.out hb (by first | exact Nat.le_refl _ | exact HB.out.size))
  have E9 := Lib.hid hes
  clear hes
  clear hb
  go_wp2_with fail
  refine (K6.out _ HB.out).mono ?_
  rintro e w10 ⟨A10, c10, rfl, hes, hb⟩
  have HB := Lib.hid (eb_of HB.out hb (by first | exact Nat.le_refl _ | exact HB.out.size))
  have E9 := Lib.hid (E9.out.below hb (Nat.le_refl _))
  have E10 := Lib.hid hes
  clear hes
  clear hb
  go_wp2_with fail
  refine (same_as A9 A10 c9 c10 _ HNL2.out E9.out E10.out (by omega)).mono ?_
  rintro e w11 ⟨rfl, hb⟩
  have HB := Lib.hid (eb_of HB.out hb (by first | exact Nat.le_refl _ | exact HB.out.size))
  have E9 := Lib.hid (E9.out.below hb (Nat.le_refl _))
  clear hb
  go_wp2_with fail
  refine (awake_any _ (HE.out.below HB.out)).mono ?_
  rintro e w19 ⟨rfl, hb⟩
  have HB := Lib.hid (eb_of HB.out hb (by first | exact Nat.le_refl _ | exact HB.out.size))
  clear hb
  go_wp2_with fail
  go_ret
  exact ⟨rfl, HB.out⟩

theorem EntriesSorts_any (A : Option Addr) (c : Nat) (xs : List El.En) (B : Option Addr) (d : Nat) (ys : List El.En) (w : World) (he : EnvE w) (hf : EsAt w A xs) (hg : EsAt w B ys) (hn : xs.length ≤ 9223372036854775807) (hm : ys.length ≤ 9223372036854775807) (hs : Sized xs) (ht : Sized ys) (hc : xs.length ≤ c) (hB : B = none → d = 0) :
    Calls Tryd.prog 3 #[.slice A xs.length c, .slice B ys.length d] w fun e w' => e = .returned (.bool true) ∧ Below w.heap.size w w' := by
  by_cases h1 : farE xs = true
  · exact sorts_far A c xs B d ys w he hf hg hn hm hs ht (.inl h1)
  by_cases h2 : farE ys = true
  · exact sorts_far A c xs B d ys w he hf hg hn hm hs ht (.inr h2)
  exact sorts_near A c xs B d ys w he hf hg hn hm hs ht (by simpa using h1) (by simpa using h2) hc hB
end Go.Proofs.YtmobjpmkenpckaaDoor.KK
