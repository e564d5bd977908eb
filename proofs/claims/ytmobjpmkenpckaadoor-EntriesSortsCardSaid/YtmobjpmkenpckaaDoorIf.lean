/-
  EntriesLayers: the walk.
-/
import Derived.Test.YtmobjpmkenpckaaDoorIe
namespace Go.Proofs.YtmobjpmkenpckaaDoor.KK
open Go.ChangeShapes Go.WideShapes Go.ChangeAt Go.RowKit Go.Proofs Go.Sort

theorem over_as {xs ys l : List El.En} {r : Int} (h : overE xs ys = (r, l)) (A : Option Addr) (c : Nat) (B : Option Addr) (d : Nat) (w : World) (hf : EsAt w A xs) (hg : EsAt w B ys) (hn : xs.length ≤ 4294967295) (hm : ys.length ≤ 4294967295) (hs : Sized xs) (ht : Sized ys) (hc : xs.length ≤ c) :
    Calls Tryd.prog 13 #[.slice A xs.length c, .slice B ys.length d] w fun e w' => ∃ A' c', e = .returned (.tuple #[.slice A' l.length c', .int .i64 r]) ∧ EsAt w' A' l ∧ l.length ≤ c' ∧ Below w.heap.size w w' := by
  refine (over_any A c xs B d ys w hf hg hn hm hs ht hc).mono ?_
  rintro e w' ⟨A', c', h1, h2, h3, h4⟩
  rw [h] at h1 h2 h3
  exact ⟨A', c', h1, h2, h3, h4⟩
theorem same_as {xs : List El.En} {n : Nat} (A B : Option Addr) (c d : Nat) (w : World) (h : xs.length = n) (hf : EsAt w A xs) (hg : EsAt w B xs) (hn : n ≤ 4294967295) :
    Calls Tryd.prog 10 #[.slice A n c, .slice B n d] w fun e w' => e = .returned (.bool true) ∧ Below w.heap.size w w' := by
  subst h
  refine (Same_any A B c d xs xs w hf hg (by omega) (by omega)).mono ?_
  rintro e w' ⟨rfl, hb⟩
  exact ⟨by simp, hb⟩
theorem newest_as {xs : List El.En} {n : Nat} (A : Option Addr) (c : Nat) (w : World) (h : xs.length = n) (ha : allE xs = 0) (hf : EsAt w A xs) (hn : n ≤ 4294967295) (hs : Sized xs) :
    Calls Tryd.prog 11 #[.slice A n c] w fun e w' => ∃ A' c' ys, e = .returned (.tuple #[.slice A' ys.length c', .int .i64 0]) ∧ NewOut xs ys ∧ EsAt w' A' ys ∧ Below w.heap.size w w' := by
  subst h
  have K := Newest_full A c xs w hf hn hs
  rw [ha] at K
  exact K
theorem find_as {xs : List El.En} {n : Nat} {key : ByteArray} (A : Option Addr) (c : Nat) (w : World) (h : xs.length = n) (ha : (findE xs key).2 = 0) (hf : EsAt w A xs) (hn : n ≤ 4294967295) (hs : Sized xs) (hk : key.size ≤ 32) :
    Calls Tryd.prog 15 #[.slice A n c, .string key] w fun e w' => (∃ r : Int, e = .returned (.tuple #[.int .i64 r, .int .i64 0])) ∧ Below w.heap.size w w' := by
  subst h
  refine (eFind_any A c xs key w hf hn hs (by omega)).mono ?_
  rintro e w' ⟨rfl, hb⟩
  rw [ha]
  exact ⟨⟨_, rfl⟩, hb⟩
set_option maxRecDepth 100000 in
set_option maxHeartbeats 4000000 in
theorem layers_far (A : Option Addr) (c : Nat) (xs : List El.En) (B : Option Addr) (d : Nat) (ys : List El.En) (D : Option Addr) (g : Nat) (zs : List El.En) (w : World) (he : EnvE w) (hf : EsAt w A xs) (hg : EsAt w B ys) (hh : EsAt w D zs) (hn : xs.length ≤ 9223372036854775807) (hm : ys.length ≤ 9223372036854775807) (hk : zs.length ≤ 9223372036854775807) (hs : Sized xs) (ht : Sized ys) (hu : Sized zs) (h : farE xs = true ∨ farE ys = true ∨ farE zs = true) :
    Calls Tryd.prog 4 #[.slice A xs.length c, .slice B ys.length d, .slice D zs.length g] w fun e w' => e = .returned (.bool true) ∧ Below w.heap.size w w' := by
  have HE := Lib.hid he
  have J1 := Lib.hid (fun w1 (h : Below w.heap.size w w1) => far_any A c xs w1 (hf.below h (Nat.le_refl _)) hn hs)
  have J2 := Lib.hid (fun w1 (h : Below w.heap.size w w1) => far_any B d ys w1 (hg.below h (Nat.le_refl _)) hm ht)
  have J3 := Lib.hid (fun w1 (h : Below w.heap.size w w1) => far_any D g zs w1 (hh.below h (Nat.le_refl _)) hk hu)
  have HB := Lib.hid (Below.refl w.heap.size w)
  clear he hf hg hh hs ht hu
  generalize xs.length = nx at *
  generalize ys.length = ny at *
  generalize zs.length = nz at *
  cases h1 : farE xs with
  | true =>
    rw [h1] at J1
    clear h h1
    go_enter Tryd.func4, Tryd.ntmps4
    go_wp2_with fail
    refine (J1.out _ HB.out).mono ?_
    rintro e w1 ⟨rfl, hb⟩
    have HB := Lib.hid (eb_of HB.out hb (by first | exact Nat.le_refl _ | exact HB.out.size))
    clear hb J1
    go_wp2_with fail
    refine (awake_any _ (HE.out.below HB.out)).mono ?_
    rintro e w9 ⟨rfl, hb⟩
    have HB := Lib.hid (eb_of HB.out hb (by first | exact Nat.le_refl _ | exact HB.out.size))
    clear hb
    go_wp2_with fail
    go_ret
    exact ⟨rfl, HB.out⟩

  | false =>
    rw [h1] at J1
    cases h2 : farE ys with
    | true =>
      rw [h2] at J2
      clear h h1 h2
      go_enter Tryd.func4, Tryd.ntmps4
      go_wp2_with fail
      refine (J1.out _ HB.out).mono ?_
      rintro e w1 ⟨rfl, hb⟩
      have HB := Lib.hid (eb_of HB.out hb (by first | exact Nat.le_refl _ | exact HB.out.size))
      clear hb J1
      go_wp2_with fail
      refine (J2.out _ HB.out).mono ?_
      rintro e w2 ⟨rfl, hb⟩
      have HB := Lib.hid (eb_of HB.out hb (by first | exact Nat.le_refl _ | exact HB.out.size))
      clear hb J2
      go_wp2_with fail
      refine (awake_any _ (HE.out.below HB.out)).mono ?_
      rintro e w9 ⟨rfl, hb⟩
      have HB := Lib.hid (eb_of HB.out hb (by first | exact Nat.le_refl _ | exact HB.out.size))
      clear hb
      go_wp2_with fail
      go_ret
      exact ⟨rfl, HB.out⟩

    | false =>
      rw [h2] at J2
      have h3 : farE zs = true := by
        rcases h with h | h | h
        · rw [h1] at h; cases h
        · rw [h2] at h; cases h
        · exact h
      rw [h3] at J3
      clear h h1 h2 h3
      go_enter Tryd.func4, Tryd.ntmps4
      go_wp2_with fail
      refine (J1.out _ HB.out).mono ?_
      rintro e w1 ⟨rfl, hb⟩
      have HB := Lib.hid (eb_of HB.out hb (by first | exact Nat.le_refl _ | exact HB.out.size))
      clear hb J1
      go_wp2_with fail
      refine (J2.out _ HB.out).mono ?_
      rintro e w2 ⟨rfl, hb⟩
      have HB := Lib.hid (eb_of HB.out hb (by first | exact Nat.le_refl _ | exact HB.out.size))
      clear hb J2
      go_wp2_with fail
      refine (J3.out _ HB.out).mono ?_
      rintro e w3 ⟨rfl, hb⟩
      have HB := Lib.hid (eb_of HB.out hb (by first | exact Nat.le_refl _ | exact HB.out.size))
      clear hb J3
      go_wp2_with fail
      refine (awake_any _ (HE.out.below HB.out)).mono ?_
      rintro e w9 ⟨rfl, hb⟩
      have HB := Lib.hid (eb_of HB.out hb (by first | exact Nat.le_refl _ | exact HB.out.size))
      clear hb
      go_wp2_with fail
      go_ret
      exact ⟨rfl, HB.out⟩

set_option maxRecDepth 100000 in
set_option maxHeartbeats 4000000 in
theorem layers_bad (A : Option Addr) (c : Nat) (xs : List El.En) (B : Option Addr) (d : Nat) (ys : List El.En) (D : Option Addr) (g : Nat) (zs : List El.En) (w : World) (he : EnvE w) (hf : EsAt w A xs) (hg : EsAt w B ys) (hh : EsAt w D zs) (hn : xs.length ≤ 9223372036854775807) (hm : ys.length ≤ 9223372036854775807) (hk : zs.length ≤ 9223372036854775807) (hs : Sized xs) (ht : Sized ys) (hu : Sized zs) (h1 : farE xs = false) (h2 : farE ys = false) (h3 : farE zs = false) (hc : xs.length ≤ c) (hd : ys.length ≤ d) (r1 r2 : Int) (l1 l2 : List El.En) (q1 : overE xs ys = (r1, l1)) (q2 : overE ys zs = (r2, l2)) (h : r1 ≠ 0 ∨ r2 ≠ 0) :
    Calls Tryd.prog 4 #[.slice A xs.length c, .slice B ys.length d, .slice D zs.length g] w fun e w' => e = .returned (.bool true) ∧ Below w.heap.size w w' := by
  have HE := Lib.hid he
  have J1 := Lib.hid (fun w1 (h : Below w.heap.size w w1) => by have K := far_any A c xs w1 (hf.below h (Nat.le_refl _)) hn hs; rw [h1] at K; exact K)
  have J2 := Lib.hid (fun w1 (h : Below w.heap.size w w1) => by have K := far_any B d ys w1 (hg.below h (Nat.le_refl _)) hm ht; rw [h2] at K; exact K)
  have J3 := Lib.hid (fun w1 (h : Below w.heap.size w w1) => by have K := far_any D g zs w1 (hh.below h (Nat.le_refl _)) hk hu; rw [h3] at K; exact K)
  have hn' := farE_len h1
  have hm' := farE_len h2
  have hk' := farE_len h3
  have K1 := Lib.hid (fun w1 (h : Below w.heap.size w w1) => over_as q1 A c B d w1 (hf.below h (Nat.le_refl _)) (hg.below h (Nat.le_refl _)) (by omega) (by omega) hs ht hc)
  have K2 := Lib.hid (fun w1 (h : Below w.heap.size w w1) => over_as q2 B d D g w1 (hg.below h (Nat.le_refl _)) (hh.below h (Nat.le_refl _)) (by omega) (by omega) ht hu hd)
  have z1 : r1 ≠ 0 → l1 = [] := fun h => by have := over_err (xs := xs) (ys := ys) (by rw [q1]; exact h); rw [q1] at this; exact this
  have z2 : r2 ≠ 0 → l2 = [] := fun h => by have := over_err (xs := ys) (ys := zs) (by rw [q2]; exact h); rw [q2] at this; exact this
  have HB := Lib.hid (Below.refl w.heap.size w)
  clear he hf hg hh hs ht hu h1 h2 h3 hc hd q1 q2
  generalize xs.length = nx at *
  generalize ys.length = ny at *
  generalize zs.length = nz at *
  by_cases e1 : r1 = 0
  · have e2 : r2 ≠ 0 := by rcases h with h | h; exact absurd e1 h; exact h
    have := z2 e2
    subst this e1
    obtain ⟨b1, b2⟩ := ne_b e2
    clear z1 z2 h e2
    rw [List.length_nil] at K2
    obtain ⟨n1, hn1⟩ : ∃ n1, l1.length = n1 := ⟨_, rfl⟩
    rw [hn1] at K1
    clear hn1
    go_enter Tryd.func4, Tryd.ntmps4
    go_wp2_with fail
    refine (J1.out _ HB.out).mono ?_
    rintro e w1 ⟨rfl, hb⟩
    have HB := Lib.hid (eb_of HB.out hb (by first | exact Nat.le_refl _ | exact HB.out.size))
    clear hb J1
    go_wp2_with fail
    refine (J2.out _ HB.out).mono ?_
    rintro e w2 ⟨rfl, hb⟩
    have HB := Lib.hid (eb_of HB.out hb (by first | exact Nat.le_refl _ | exact HB.out.size))
    clear hb J2
    go_wp2_with fail
    refine (J3.out _ HB.out).mono ?_
    rintro e w3 ⟨rfl, hb⟩
    have HB := Lib.hid (eb_of HB.out hb (by first | exact Nat.le_refl _ | exact HB.out.size))
    clear hb J3

    go_wp2_with fail
    refine (K1.out _ HB.out).mono ?_
    rintro e w4 ⟨A4, c4, rfl, hes, hcap, hb⟩
    have HB := Lib.hid (eb_of HB.out hb (by first | exact Nat.le_refl _ | exact HB.out.size))
    have E4 := Lib.hid hes
    clear hb hes
    go_wp2_with fail
    refine (K2.out _ HB.out).mono ?_
    rintro e w5 ⟨A5, c5, rfl, hes, hcap, hb⟩
    have HB := Lib.hid (eb_of HB.out hb (by first | exact Nat.le_refl _ | exact HB.out.size))
    have E5 := Lib.hid hes
    clear hb hes
    go_wp2_with fail
    refine (awake_any _ (HE.out.below HB.out)).mono ?_
    rintro e w9 ⟨rfl, hb⟩
    have HB := Lib.hid (eb_of HB.out hb (by first | exact Nat.le_refl _ | exact HB.out.size))
    clear hb
    go_wp2_with fail
    go_ret
    exact ⟨rfl, HB.out⟩

  · have := z1 e1
    subst this
    obtain ⟨b1, b2⟩ := ne_b e1
    rw [List.length_nil] at K1
    by_cases e2 : r2 = 0
    · subst e2
      clear z1 z2 h e1
      obtain ⟨n2, hn2⟩ : ∃ n2, l2.length = n2 := ⟨_, rfl⟩
      rw [hn2] at K2
      clear hn2
      go_enter Tryd.func4, Tryd.ntmps4
      go_wp2_with fail
      refine (J1.out _ HB.out).mono ?_
      rintro e w1 ⟨rfl, hb⟩
      have HB := Lib.hid (eb_of HB.out hb (by first | exact Nat.le_refl _ | exact HB.out.size))
      clear hb J1
      go_wp2_with fail
      refine (J2.out _ HB.out).mono ?_
      rintro e w2 ⟨rfl, hb⟩
      have HB := Lib.hid (eb_of HB.out hb (by first | exact Nat.le_refl _ | exact HB.out.size))
      clear hb J2
      go_wp2_with fail
      refine (J3.out _ HB.out).mono ?_
      rintro e w3 ⟨rfl, hb⟩
      have HB := Lib.hid (eb_of HB.out hb (by first | exact Nat.le_refl _ | exact HB.out.size))
      clear hb J3

      go_wp2_with fail
      refine (K1.out _ HB.out).mono ?_
      rintro e w4 ⟨A4, c4, rfl, hes, hcap, hb⟩
      have HB := Lib.hid (eb_of HB.out hb (by first | exact Nat.le_refl _ | exact HB.out.size))
      have E4 := Lib.hid hes
      clear hb hes
      go_wp2_with fail
      refine (K2.out _ HB.out).mono ?_
      rintro e w5 ⟨A5, c5, rfl, hes, hcap, hb⟩
      have HB := Lib.hid (eb_of HB.out hb (by first | exact Nat.le_refl _ | exact HB.out.size))
      have E5 := Lib.hid hes
      clear hb hes
      go_wp2_with fail
      refine (awake_any _ (HE.out.below HB.out)).mono ?_
      rintro e w9 ⟨rfl, hb⟩
      have HB := Lib.hid (eb_of HB.out hb (by first | exact Nat.le_refl _ | exact HB.out.size))
      clear hb
      go_wp2_with fail
      go_ret
      exact ⟨rfl, HB.out⟩

    · have := z2 e2
      subst this
      obtain ⟨b3, b4⟩ := ne_b e2
      rw [List.length_nil] at K2
      clear z1 z2 h e1 e2
      go_enter Tryd.func4, Tryd.ntmps4
      go_wp2_with fail
      refine (J1.out _ HB.out).mono ?_
      rintro e w1 ⟨rfl, hb⟩
      have HB := Lib.hid (eb_of HB.out hb (by first | exact Nat.le_refl _ | exact HB.out.size))
      clear hb J1
      go_wp2_with fail
      refine (J2.out _ HB.out).mono ?_
      rintro e w2 ⟨rfl, hb⟩
      have HB := Lib.hid (eb_of HB.out hb (by first | exact Nat.le_refl _ | exact HB.out.size))
      clear hb J2
      go_wp2_with fail
      refine (J3.out _ HB.out).mono ?_
      rintro e w3 ⟨rfl, hb⟩
      have HB := Lib.hid (eb_of HB.out hb (by first | exact Nat.le_refl _ | exact HB.out.size))
      clear hb J3

      go_wp2_with fail
      refine (K1.out _ HB.out).mono ?_
      rintro e w4 ⟨A4, c4, rfl, hes, hcap, hb⟩
      have HB := Lib.hid (eb_of HB.out hb (by first | exact Nat.le_refl _ | exact HB.out.size))
      have E4 := Lib.hid hes
      clear hb hes
      go_wp2_with fail
      refine (K2.out _ HB.out).mono ?_
      rintro e w5 ⟨A5, c5, rfl, hes, hcap, hb⟩
      have HB := Lib.hid (eb_of HB.out hb (by first | exact Nat.le_refl _ | exact HB.out.size))
      have E5 := Lib.hid hes
      clear hb hes
      go_wp2_with fail
      refine (awake_any _ (HE.out.below HB.out)).mono ?_
      rintro e w9 ⟨rfl, hb⟩
      have HB := Lib.hid (eb_of HB.out hb (by first | exact Nat.le_refl _ | exact HB.out.size))
      clear hb
      go_wp2_with fail
      go_ret
      exact ⟨rfl, HB.out⟩

set_option maxRecDepth 100000 in
set_option maxHeartbeats 16000000 in
theorem layers_good (A : Option Addr) (c : Nat) (xs : List El.En) (B : Option Addr) (d : Nat) (ys : List El.En) (D : Option Addr) (g : Nat) (zs : List El.En) (w : World) (he : EnvE w) (hf : EsAt w A xs) (hg : EsAt w B ys) (hh : EsAt w D zs) (hn : xs.length ≤ 9223372036854775807) (hm : ys.length ≤ 9223372036854775807) (hk : zs.length ≤ 9223372036854775807) (hs : Sized xs) (ht : Sized ys) (hu : Sized zs) (h1 : farE xs = false) (h2 : farE ys = false) (h3 : farE zs = false) (hc : xs.length ≤ c) (hd : ys.length ≤ d) (hA : A = none → c = 0) (hB0 : B = none → d = 0) (q1 : (overE xs ys).1 = 0) (q2 : (overE ys zs).1 = 0) :
    Calls Tryd.prog 4 #[.slice A xs.length c, .slice B ys.length d, .slice D zs.length g] w fun e w' => e = .returned (.bool true) ∧ Below w.heap.size w w' := by
  have HE := Lib.hid he
  have J1 := Lib.hid (fun w1 (h : Below w.heap.size w w1) => by have K := far_any A c xs w1 (hf.below h (Nat.le_refl _)) hn hs; rw [h1] at K; exact K)
  have J2 := Lib.hid (fun w1 (h : Below w.heap.size w w1) => by have K := far_any B d ys w1 (hg.below h (Nat.le_refl _)) hm ht; rw [h2] at K; exact K)
  have J3 := Lib.hid (fun w1 (h : Below w.heap.size w w1) => by have K := far_any D g zs w1 (hh.below h (Nat.le_refl _)) hk hu; rw [h3] at K; exact K)
  have hn' := farE_len h1
  have hm' := farE_len h2
  have hk' := farE_len h3
  obtain ⟨o1, o2⟩ := over_ok q1
  obtain ⟨_, o3⟩ := over_ok q2
  have x60 := far_60 h1 o1
  have y60 := far_60 h2 o2
  have z60 := far_60 h3 o3
  have gx := good_of o1
  have gy := good_of o2
  have gz := good_of o3
  have gxy := gx.over gy
  have gyz := gy.over gz
  have lxy := ovr_len xs ys
  have lyz := ovr_len ys zs
  have lP := ovr_len (ovr xs ys) zs
  have s1 : overE xs ys = (0, ovr xs ys) := over_good gx gy (by omega)
  have s2 : overE ys zs = (0, ovr ys zs) := over_good gy gz (by omega)
  have s3 : overE (ovr xs ys) zs = (0, ovr (ovr xs ys) zs) := over_good gxy gz (by omega)
  have s4 : overE xs (ovr ys zs) = (0, ovr (ovr xs ys) zs) := by rw [over_good gx gyz (by omega), ovr_assoc gx.2 gy.2 gz.2]
  have s5 : overE xs xs = (0, xs) := by rw [over_good gx gx (by omega), ovr_self gx.2]
  have s6 : overE [] xs = (0, xs) := by rw [over_good Good.nil gx (by simp; omega), ovr_nil_left]
  have s7 : overE xs [] = (0, xs) := by rw [over_good gx Good.nil (by simp; omega), ovr_nil_right]
  have K1 := Lib.hid (fun w1 (h : Below w.heap.size w w1) => over_as s1 A c B d w1 (hf.below h (Nat.le_refl _)) (hg.below h (Nat.le_refl _)) (by omega) (by omega) hs ht hc)
  have K2 := Lib.hid (fun w1 (h : Below w.heap.size w w1) => over_as s2 B d D g w1 (hg.below h (Nat.le_refl _)) (hh.below h (Nat.le_refl _)) (by omega) (by omega) ht hu hd)
  have K3 := Lib.hid (fun A1 c1 w1 (h : Below w.heap.size w w1) (h1 : EsAt w1 A1 (ovr xs ys)) (h2 : (ovr xs ys).length ≤ c1) => over_as s3 A1 c1 D g w1 h1 (hh.below h (Nat.le_refl _)) (by omega) (by omega) gxy.sized hu h2)
  have K4 := Lib.hid (fun A1 c1 w1 (h : Below w.heap.size w w1) (h1 : EsAt w1 A1 (ovr ys zs)) => over_as s4 A c A1 c1 w1 (hf.below h (Nat.le_refl _)) h1 (by omega) (by omega) hs gyz.sized hc)
  have K5 := Lib.hid (fun w1 (h : Below w.heap.size w w1) => over_as s5 A c A c w1 (hf.below h (Nat.le_refl _)) (hf.below h (Nat.le_refl _)) (by omega) (by omega) hs hs hc)
  have K6 := Lib.hid (fun w1 (h : Below w.heap.size w w1) => over_as s6 none 0 A c w1 (.inl rfl) (hf.below h (Nat.le_refl _)) (by simp) (by omega) Good.nil.sized hs (by simp))
  have K7 := Lib.hid (fun w1 (h : Below w.heap.size w w1) => over_as s7 A c none 0 w1 (hf.below h (Nat.le_refl _)) (.inl rfl) (by omega) (by simp) hs Good.nil.sized hc)
  have HFX := Lib.hid hf
  have HFY := Lib.hid hg
  have HGX := Lib.hid gx
  have HGY := Lib.hid gy
  have HSZ := Lib.hid gxy.sized
  have HFD := Lib.hid (fun a (ha : a ∈ xs ++ ys) => over_found gx gy (by omega) ha)
  have HNO := Lib.hid (fun ms (hm : NewOut (xs ++ ys) ms) hnew => newest_over gx gy (by omega) hm hnew)
  have HAL := Lib.hid (both_all gx gy (by omega))
  have HSB : Hid (Sized (xs ++ ys)) := Lib.hid (fun a ha => (List.mem_append.1 ha).elim (hs a) (ht a))
  rw [List.length_nil] at K6 K7
  have HA := Lib.hid hA
  have HB0 := Lib.hid hB0
  clear he hf hg hh hs ht hu h1 h2 h3 q1 q2 s1 s2 s3 s4 s5 s6 s7 gx gy gz gxy gyz o1 o2 o3 hA hB0
  obtain ⟨nx, hnx⟩ : ∃ nx, xs.length = nx := ⟨_, rfl⟩
  obtain ⟨ny, hny⟩ : ∃ ny, ys.length = ny := ⟨_, rfl⟩
  obtain ⟨nz, hnz⟩ : ∃ nz, zs.length = nz := ⟨_, rfl⟩
  generalize ovr xs ys = l1 at *
  generalize ovr ys zs = l2 at *
  generalize ovr l1 zs = lp at *
  obtain ⟨n1, hn1⟩ : ∃ n1, l1.length = n1 := ⟨_, rfl⟩
  obtain ⟨n2, hn2⟩ : ∃ n2, l2.length = n2 := ⟨_, rfl⟩
  obtain ⟨np, hnp⟩ : ∃ np, lp.length = np := ⟨_, rfl⟩
  rw [hnx] at hc J1 K1 K4 K5 K6 K7 lxy x60 hn' ⊢
  rw [hny] at hd J2 K1 K2 lxy lyz y60 hm' ⊢
  rw [hnz] at J3 K2 K3 lP lyz z60 hk' ⊢
  rw [hn1] at K1 K3 lxy lP
  rw [hn2] at K2 K4 lyz
  rw [hnp] at K3 K4 lP
  have HNX := Lib.hid hnx
  have HNY := Lib.hid hny
  have HN1 := Lib.hid hn1
  have HNP := Lib.hid hnp
  clear hnx hny hnz hn1 hn2 hnp hn hm hk
  have HB := Lib.hid (Below.refl w.heap.size w)
  go_enter Tryd.func4, Tryd.ntmps4
  go_wp2_with fail
  refine (J1.out _ HB.out).mono ?_
  rintro e w1 ⟨rfl, hb⟩
  have HB := Lib.hid (eb_of HB.out hb (by first | exact Nat.le_refl _ | exact HB.out.size))
  have HFX := Lib.hid (HFX.out.below hb (Nat.le_refl _))
  have HFY := Lib.hid (HFY.out.below hb (Nat.le_refl _))
  clear hb
  go_wp2_with fail
  refine (J2.out _ HB.out).mono ?_
  rintro e w2 ⟨rfl, hb⟩
  have HB := Lib.hid (eb_of HB.out hb (by first | exact Nat.le_refl _ | exact HB.out.size))
  have HFX := Lib.hid (HFX.out.below hb (Nat.le_refl _))
  have HFY := Lib.hid (HFY.out.below hb (Nat.le_refl _))
  clear hb
  go_wp2_with fail
  refine (J3.out _ HB.out).mono ?_
  rintro e w3 ⟨rfl, hb⟩
  have HB := Lib.hid (eb_of HB.out hb (by first | exact Nat.le_refl _ | exact HB.out.size))
  have HFX := Lib.hid (HFX.out.below hb (Nat.le_refl _))
  have HFY := Lib.hid (HFY.out.below hb (Nat.le_refl _))
  clear hb
  go_wp2_with fail
  refine (K1.out _ HB.out).mono ?_
  rintro e w4 ⟨A4, c4, rfl, hes, hcap, hb⟩
  have HB := Lib.hid (eb_of HB.out hb (by first | exact Nat.le_refl _ | exact HB.out.size))
  have HFX := Lib.hid (HFX.out.below hb (Nat.le_refl _))
  have HFY := Lib.hid (HFY.out.below hb (Nat.le_refl _))
  have E4 := Lib.hid hes
  have C4 := Lib.hid hcap
  clear hes hcap
  clear hb
  go_wp2_with fail
  refine (K2.out _ HB.out).mono ?_
  rintro e w5 ⟨A5, c5, rfl, hes, hcap, hb⟩
  have HB := Lib.hid (eb_of HB.out hb (by first | exact Nat.le_refl _ | exact HB.out.size))
  have HFX := Lib.hid (HFX.out.below hb (Nat.le_refl _))
  have HFY := Lib.hid (HFY.out.below hb (Nat.le_refl _))
  have E4 := Lib.hid (E4.out.below hb (Nat.le_refl _))
  have E5 := Lib.hid hes
  have C5 := Lib.hid hcap
  clear hes hcap
  clear hb
  go_wp2_with fail
  refine (K3.out A4 c4 _ HB.out E4.out C4.out).mono ?_
  rintro e w6 ⟨A6, c6, rfl, hes, hcap, hb⟩
  have HB := Lib.hid (eb_of HB.out hb (by first | exact Nat.le_refl _ | exact HB.out.size))
  have HFX := Lib.hid (HFX.out.below hb (Nat.le_refl _))
  have HFY := Lib.hid (HFY.out.below hb (Nat.le_refl _))
  have E4 := Lib.hid (E4.out.below hb (Nat.le_refl _))
  have E5 := Lib.hid (E5.out.below hb (Nat.le_refl _))
  have E6 := Lib.hid hes
  have C6 := Lib.hid hcap
  clear hes hcap
  clear hb
  go_wp2_with fail
  refine (K4.out A5 c5 _ HB.out E5.out).mono ?_
  rintro e w7 ⟨A7, c7, rfl, hes, hcap, hb⟩
  have HB := Lib.hid (eb_of HB.out hb (by first | exact Nat.le_refl _ | exact HB.out.size))
  have HFX := Lib.hid (HFX.out.below hb (Nat.le_refl _))
  have HFY := Lib.hid (HFY.out.below hb (Nat.le_refl _))
  have E4 := Lib.hid (E4.out.below hb (Nat.le_refl _))
  have E5 := Lib.hid (E5.out.below hb (Nat.le_refl _))
  have E6 := Lib.hid (E6.out.below hb (Nat.le_refl _))
  have E7 := Lib.hid hes
  have C7 := Lib.hid hcap
  clear hes hcap
  clear hb
  go_wp2_with fail
  refine (K5.out _ HB.out).mono ?_
  rintro e w8 ⟨A8, c8, rfl, hes, hcap, hb⟩
  have HB := Lib.hid (eb_of HB.out hb (by first | exact Nat.le_refl _ | exact HB.out.size))
  have HFX := Lib.hid (HFX.out.below hb (Nat.le_refl _))
  have HFY := Lib.hid (HFY.out.below hb (Nat.le_refl _))
  have E4 := Lib.hid (E4.out.below hb (Nat.le_refl _))
  have E5 := Lib.hid (E5.out.below hb (Nat.le_refl _))
  have E6 := Lib.hid (E6.out.below hb (Nat.le_refl _))
  have E7 := Lib.hid (E7.out.below hb (Nat.le_refl _))
  have E8 := Lib.hid hes
  have C8 := Lib.hid hcap
  clear hes hcap
  clear hb
  go_wp2_with fail
  refine (K6.out _ HB.out).mono ?_
  rintro e w9 ⟨A9, c9, rfl, hes, hcap, hb⟩
  have HB := Lib.hid (eb_of HB.out hb (by first | exact Nat.le_refl _ | exact HB.out.size))
  have HFX := Lib.hid (HFX.out.below hb (Nat.le_refl _))
  have HFY := Lib.hid (HFY.out.below hb (Nat.le_refl _))
  have E4 := Lib.hid (E4.out.below hb (Nat.le_refl _))
  have E5 := Lib.hid (E5.out.below hb (Nat.le_refl _))
  have E6 := Lib.hid (E6.out.below hb (Nat.le_refl _))
  have E7 := Lib.hid (E7.out.below hb (Nat.le_refl _))
  have E8 := Lib.hid (E8.out.below hb (Nat.le_refl _))
  have E9 := Lib.hid hes
  have C9 := Lib.hid hcap
  clear hes hcap
  clear hb
  go_wp2_with fail
  refine (K7.out _ HB.out).mono ?_
  rintro e w10 ⟨A10, c10, rfl, hes, hcap, hb⟩
  have HB := Lib.hid (eb_of HB.out hb (by first | exact Nat.le_refl _ | exact HB.out.size))
  have HFX := Lib.hid (HFX.out.below hb (Nat.le_refl _))
  have HFY := Lib.hid (HFY.out.below hb (Nat.le_refl _))
  have E4 := Lib.hid (E4.out.below hb (Nat.le_refl _))
  have E5 := Lib.hid (E5.out.below hb (Nat.le_refl _))
  have E6 := Lib.hid (E6.out.below hb (Nat.le_refl _))
  have E7 := Lib.hid (E7.out.below hb (Nat.le_refl _))
  have E8 := Lib.hid (E8.out.below hb (Nat.le_refl _))
  have E9 := Lib.hid (E9.out.below hb (Nat.le_refl _))
  have E10 := Lib.hid hes
  have C10 := Lib.hid hcap
  clear hes hcap
  clear hb
  go_wp2_with fail
  refine (same_as A6 A7 c6 c7 _ HNP.out E6.out E7.out (by omega)).mono ?_
  rintro e w11 ⟨rfl, hb⟩
  have HB := Lib.hid (eb_of HB.out hb (by first | exact Nat.le_refl _ | exact HB.out.size))
  have HFX := Lib.hid (HFX.out.below hb (Nat.le_refl _))
  have HFY := Lib.hid (HFY.out.below hb (Nat.le_refl _))
  have E4 := Lib.hid (E4.out.below hb (Nat.le_refl _))
  have E5 := Lib.hid (E5.out.below hb (Nat.le_refl _))
  have E6 := Lib.hid (E6.out.below hb (Nat.le_refl _))
  have E7 := Lib.hid (E7.out.below hb (Nat.le_refl _))
  have E8 := Lib.hid (E8.out.below hb (Nat.le_refl _))
  have E9 := Lib.hid (E9.out.below hb (Nat.le_refl _))
  have E10 := Lib.hid (E10.out.below hb (Nat.le_refl _))
  clear hb
  go_wp2_with fail
  refine (same_as A8 A c8 c _ HNX.out E8.out HFX.out (by omega)).mono ?_
  rintro e w12 ⟨rfl, hb⟩
  have HB := Lib.hid (eb_of HB.out hb (by first | exact Nat.le_refl _ | exact HB.out.size))
  have HFX := Lib.hid (HFX.out.below hb (Nat.le_refl _))
  have HFY := Lib.hid (HFY.out.below hb (Nat.le_refl _))
  have E4 := Lib.hid (E4.out.below hb (Nat.le_refl _))
  have E5 := Lib.hid (E5.out.below hb (Nat.le_refl _))
  have E6 := Lib.hid (E6.out.below hb (Nat.le_refl _))
  have E7 := Lib.hid (E7.out.below hb (Nat.le_refl _))
  have E8 := Lib.hid (E8.out.below hb (Nat.le_refl _))
  have E9 := Lib.hid (E9.out.below hb (Nat.le_refl _))
  have E10 := Lib.hid (E10.out.below hb (Nat.le_refl _))
  clear hb
  go_wp2_with fail
  refine (same_as A9 A c9 c _ HNX.out E9.out HFX.out (by omega)).mono ?_
  rintro e w13 ⟨rfl, hb⟩
  have HB := Lib.hid (eb_of HB.out hb (by first | exact Nat.le_refl _ | exact HB.out.size))
  have HFX := Lib.hid (HFX.out.below hb (Nat.le_refl _))
  have HFY := Lib.hid (HFY.out.below hb (Nat.le_refl _))
  have E4 := Lib.hid (E4.out.below hb (Nat.le_refl _))
  have E5 := Lib.hid (E5.out.below hb (Nat.le_refl _))
  have E6 := Lib.hid (E6.out.below hb (Nat.le_refl _))
  have E7 := Lib.hid (E7.out.below hb (Nat.le_refl _))
  have E8 := Lib.hid (E8.out.below hb (Nat.le_refl _))
  have E9 := Lib.hid (E9.out.below hb (Nat.le_refl _))
  have E10 := Lib.hid (E10.out.below hb (Nat.le_refl _))
  clear hb
  go_wp2_with fail
  refine (same_as A10 A c10 c _ HNX.out E10.out HFX.out (by omega)).mono ?_
  rintro e w14 ⟨rfl, hb⟩
  have HB := Lib.hid (eb_of HB.out hb (by first | exact Nat.le_refl _ | exact HB.out.size))
  have HFX := Lib.hid (HFX.out.below hb (Nat.le_refl _))
  have HFY := Lib.hid (HFY.out.below hb (Nat.le_refl _))
  have E4 := Lib.hid (E4.out.below hb (Nat.le_refl _))
  have E5 := Lib.hid (E5.out.below hb (Nat.le_refl _))
  have E6 := Lib.hid (E6.out.below hb (Nat.le_refl _))
  have E7 := Lib.hid (E7.out.below hb (Nat.le_refl _))
  have E8 := Lib.hid (E8.out.below hb (Nat.le_refl _))
  have E9 := Lib.hid (E9.out.below hb (Nat.le_refl _))
  have E10 := Lib.hid (E10.out.below hb (Nat.le_refl _))
  clear hb
  clear E5 E6 E7 E8 E9 E10 K1 K2 K3 K4 K5 K6 K7 J1 J2 J3
  have hmade : (w14.alloc (.cells #[] 33)).ownsRow w14.heap.size 33 4 (.slice (some ⟨w14.heap.size, 0, none⟩) 0 0) 0 [] := World.ownsRow_made w14 #[] 0 (Nat.le_refl _) (Nat.zero_le _) rfl
  have HM := Lib.hid hmade
  clear hmade
  go_wp2_with (first | (at_builtin; refine wpList_append_es rfl (.tmp 144) (.tmp 145) rfl w14.heap.size _ 0 [] rfl HM.out A nx c xs rfl HNX.out.symm (HFX.out.below (alloc_below _ _) (Nat.le_refl _)) HA.out (by omega) (by simp) ?_; intro v1 W1 hown1 hg1; have hb1 : Below w14.heap.size w14 W1 := ((Below.refl _ w14).alloc (Nat.le_refl _) _).grown hg1 (by simp) (fun k hk => (HM.out.lt k hk).1); have HB1 := Lib.hid hb1; rw [Nat.zero_add, List.nil_append] at hown1; have HO1 := Lib.hid hown1; have hs1 : w14.heap.size ≤ W1.heap.size := hb1.size; clear hb1 hg1 hown1) | (at_builtin; refine wpList_append_es rfl (.tmp 146) (.tmp 147) rfl w14.heap.size _ nx xs rfl HO1.out B ny d ys rfl HNY.out.symm (HFY.out.below HB1.out (Nat.le_refl _)) HB0.out (by omega) hs1 ?_; intro v2 W2 hown2 hg2; have hb2 : Below w14.heap.size w14 W2 := HB1.out.grown hg2 hs1 (fun k hk => (HO1.out.lt k hk).1); have HB2 := Lib.hid hb2; obtain ⟨A15, c15, rfl⟩ := own_slice hown2; have E15 := Lib.hid (EsAt.of_own hown2); clear hb2 hg2 hown2))
  have HB := Lib.hid (eb_of HB.out HB2.out (Nat.le_refl _))
  have HFX := Lib.hid (HFX.out.below HB2.out (Nat.le_refl _))
  have HFY := Lib.hid (HFY.out.below HB2.out (Nat.le_refl _))
  have E4 := Lib.hid (E4.out.below HB2.out (Nat.le_refl _))
  clear HM HB1 HO1 HB2 hs1
  obtain ⟨nb, hnb⟩ : ∃ nb, nx + ny = nb := ⟨_, rfl⟩
  have nb120 : nb ≤ 120 := by omega
  rw [hnb] at lxy ⊢
  have HNB := Lib.hid hnb
  clear hnb
  go_loopw [19, 21] (fun vw vn wr => ∃ (nw : Bool) (n : Nat), vw = .bool nw ∧ vn = .int .i64 n ∧ n ≤ nb ∧ NewTo xs ys n nw ∧ Below W2.heap.size W2 wr) (fun _ vn _ => nb - (intOf vn).toNat)
  case atStart => exact ⟨true, 0, rfl, by first | rfl | go_num, Nat.zero_le _, NewTo.start, Below.refl _ _⟩
  case round =>
    obtain ⟨nw, n, rfl, rfl, hnn, hnt, hb⟩ := hrel
    have HNT := Lib.hid hnt
    have HBL := Lib.hid hb
    have hsz := hb.size
    clear hnt hb
    by_cases hlt : n < nb
    rotate_left
    · have hf1 : ¬ (n : Int) < (nb : Int) := by omega
      have HBW := Lib.hid (eb_of HB.out HBL.out (Nat.le_refl _))
      have KN := Lib.hid (newest_as A15 c15 wr (by rw [List.length_append, HNX.out, HNY.out, HNB.out] : (xs ++ ys).length = nb) HAL.out (E15.out.below HBL.out (Nat.le_refl _)) (by omega) HSB.out)
      have E4' := Lib.hid (E4.out.below HBL.out (Nat.le_refl _))
      go_wp2_with fail
      refine KN.out.mono ?_
      rintro e w16 ⟨A16, c16, ms, rfl, hms, hes, hb⟩
      have HBW := Lib.hid (eb_of HBW.out hb (Nat.le_refl _))
      have E4'' := Lib.hid (E4'.out.below hb (Nat.le_refl _))
      have E16 := Lib.hid hes
      have HMS := Lib.hid hms
      clear hb hes hms
      cases nw with
      | false =>
        go_wp2_with fail
        refine (awake_any _ (HE.out.below HBW.out)).mono ?_
        rintro e w17 ⟨rfl, hb⟩
        have HBW := Lib.hid (eb_of HBW.out hb (Nat.le_refl _))
        clear hb
        go_wp2_with fail
        go_ret
        exact ⟨rfl, HBW.out⟩
      | true =>
        have hml : ms = l1 := HNO.out ms HMS.out (HNT.out.all (by rw [HNX.out]; have := HNB.out; omega))
        subst hml
        rw [HN1.out]
        go_wp2_with fail
        refine (same_as A16 A4 c16 c4 _ HN1.out E16.out E4''.out (by omega)).mono ?_
        rintro e w17 ⟨rfl, hb⟩
        have HBW := Lib.hid (eb_of HBW.out hb (Nat.le_refl _))
        clear hb
        go_wp2_with fail
        refine (awake_any _ (HE.out.below HBW.out)).mono ?_
        rintro e w18 ⟨rfl, hb⟩
        have HBW := Lib.hid (eb_of HBW.out hb (Nat.le_refl _))
        clear hb
        go_wp2_with fail
        go_ret
        exact ⟨rfl, HBW.out⟩
    have hf1 : (n : Int) < (nb : Int) := by omega
    have hnl : n < (xs ++ ys).length := by rw [List.length_append, HNX.out, HNY.out, HNB.out]; exact hlt
    rcases E15.out.below HBL.out (Nat.le_refl _) with h0 | ⟨b, off, rfl, hbl, hcl⟩
    · rw [h0] at hnl; simp at hnl
    obtain ⟨g0, _, _, _⟩ := hcl n hnl
    clear hcl
    have hfd := HFD.out _ (List.getElem_mem hnl)
    have hky : (xs ++ ys)[n].1.size ≤ 32 := by
      rcases List.mem_append.1 (List.getElem_mem hnl) with q | q
      · exact (El.chk_of (HGX.out.1 _ q)).1
      · exact (El.chk_of (HGY.out.1 _ q)).1
    have KK1 := Lib.hid (find_as A4 c4 wr HN1.out hfd (E4.out.below HBL.out (Nat.le_refl _)) (by omega) HSZ.out hky)
    clear hfd hky
    generalize (xs ++ ys)[n].1 = key at *
    go_wp2_with fail
    refine KK1.out.mono ?_
    rintro e w16 ⟨⟨r, rfl⟩, hb⟩
    have HBL := Lib.hid (eb_of HBL.out hb (Nat.le_refl _))
    clear hb KK1 g0 hbl
    go_wp2_with fail
    go_loopw [19, 24] (fun vw vk wr => ∃ (nw : Bool) (k : Nat), vw = .bool nw ∧ vk = .int .i64 k ∧ k ≤ ny ∧ NewIn xs ys n k nw ∧ Below W2.heap.size W2 wr) (fun _ vk _ => ny - (intOf vk).toNat)
    case atStart => exact ⟨nw, 0, rfl, by first | rfl | go_num, Nat.zero_le _, HNT.out.into, HBL.out⟩
    case round =>
      clear HNT HBL hsz
      obtain ⟨nw, k, rfl, rfl, hkk, hni, hb⟩ := hrel
      have HNI := Lib.hid hni
      have HBI := Lib.hid hb
      have hsz := hb.size
      clear hni hb
      by_cases hk2 : k < ny
      rotate_left
      · have p1 : ¬ (k : Int) < (ny : Int) := by omega
        have p2 : decide (k < ny) = false := by rw [decide_eq_false_iff_not]; exact hk2
        go_wp2_with fail
        go_roundw
        case rel => exact ⟨nw, n + 1, rfl, by go_num, by omega, HNI.out.done (fun _ => by rw [HNY.out]; omega), HBI.out⟩
        case measure => simp [intOf]; omega
      have p1 : (k : Int) < (ny : Int) := by omega
      have p2 : decide (k < ny) = true := by rw [decide_eq_true_eq]; exact hk2
      by_cases hn2 : n < nx
      rotate_left
      · have p3 : ¬ (n : Int) < (nx : Int) := by omega
        have p4 : decide (n < nx) = false := by rw [decide_eq_false_iff_not]; exact hn2
        go_wp2_with fail
        go_roundw
        case rel => exact ⟨nw, n + 1, rfl, by go_num, by omega, HNI.out.done (fun q => absurd q (by rw [HNX.out]; exact hn2)), HBI.out⟩
        case measure => simp [intOf]; omega
      have p3 : (n : Int) < (nx : Int) := by omega
      have p4 : decide (n < nx) = true := by rw [decide_eq_true_eq]; exact hn2
      have hkx : n < xs.length := by rw [HNX.out]; exact hn2
      have hky : k < ys.length := by rw [HNY.out]; exact hk2
      cases nw with
      | false =>
        have HNX2 := Lib.hid HNI.out.no
        go_wp2_with fail
        go_quiet (fail)
        go_wp2_with fail
        go_roundw
        case rel => exact ⟨false, k + 1, by first | rfl | simp, by go_num, by omega, HNX2.out, (HBI.out).trans ((below_drewN' _).mono HBI.out.size)⟩
        case measure => simp [intOf]; omega

      | true =>
        rcases HFX.out.below HBI.out (Nat.le_refl _) with h0 | ⟨bx, ox, rfl, hbx, hcx⟩
        · rw [h0] at hkx; simp at hkx
        rcases HFY.out.below HBI.out (Nat.le_refl _) with h0 | ⟨by_, oy, rfl, hby, hcy⟩
        · rw [h0] at hky; simp at hky
        obtain ⟨_, _, _, x3⟩ := hcx n hkx
        obtain ⟨_, _, _, y3⟩ := hcy k hky
        clear hcx hcy
        by_cases hq : xs[n].2.2.2 < ys[k].2.2.2
        · have HNX2 := Lib.hid (HNI.out.yes hkx hky hq)
          generalize xs[n].2.2.2 = qx at *
          generalize ys[k].2.2.2 = qy at *
          have p5 : decide (qx < qy) = true := by rw [decide_eq_true_eq]; exact hq
          go_wp2_with fail
          go_quiet (fail)
          go_wp2_with fail
          go_roundw
          case rel => exact ⟨true, k + 1, by first | rfl | simp, by go_num, by omega, HNX2.out, (HBI.out).trans ((below_drewN' _).mono HBI.out.size)⟩
          case measure => simp [intOf]; omega

        · have HNX2 := Lib.hid HNI.out.no
          generalize xs[n].2.2.2 = qx at *
          generalize ys[k].2.2.2 = qy at *
          have p5 : decide (qx < qy) = false := by rw [decide_eq_false_iff_not]; exact hq
          go_wp2_with fail
          go_quiet (fail)
          go_wp2_with fail
          go_roundw
          case rel => exact ⟨false, k + 1, by first | rfl | simp, by go_num, by omega, HNX2.out, (HBI.out).trans ((below_drewN' _).mono HBI.out.size)⟩
          case measure => simp [intOf]; omega


theorem EntriesLayers_any (A : Option Addr) (c : Nat) (xs : List El.En) (B : Option Addr) (d : Nat) (ys : List El.En) (D : Option Addr) (g : Nat) (zs : List El.En) (w : World) (he : EnvE w) (hf : EsAt w A xs) (hg : EsAt w B ys) (hh : EsAt w D zs) (hn : xs.length ≤ 9223372036854775807) (hm : ys.length ≤ 9223372036854775807) (hk : zs.length ≤ 9223372036854775807) (hs : Sized xs) (ht : Sized ys) (hu : Sized zs) (hc : xs.length ≤ c) (hd : ys.length ≤ d) (hA : A = none → c = 0) (hB0 : B = none → d = 0) :
    Calls Tryd.prog 4 #[.slice A xs.length c, .slice B ys.length d, .slice D zs.length g] w fun e w' => e = .returned (.bool true) ∧ Below w.heap.size w w' := by
  by_cases h1 : farE xs = true
  · exact layers_far A c xs B d ys D g zs w he hf hg hh hn hm hk hs ht hu (.inl h1)
  by_cases h2 : farE ys = true
  · exact layers_far A c xs B d ys D g zs w he hf hg hh hn hm hk hs ht hu (.inr (.inl h2))
  by_cases h3 : farE zs = true
  · exact layers_far A c xs B d ys D g zs w he hf hg hh hn hm hk hs ht hu (.inr (.inr h3))
  have h1 : farE xs = false := by simpa using h1
  have h2 : farE ys = false := by simpa using h2
  have h3 : farE zs = false := by simpa using h3
  by_cases q1 : (overE xs ys).1 = 0
  · by_cases q2 : (overE ys zs).1 = 0
    · exact layers_good A c xs B d ys D g zs w he hf hg hh hn hm hk hs ht hu h1 h2 h3 hc hd hA hB0 q1 q2
    · exact layers_bad A c xs B d ys D g zs w he hf hg hh hn hm hk hs ht hu h1 h2 h3 hc hd _ _ _ _ rfl rfl (.inr q2)
  · exact layers_bad A c xs B d ys D g zs w he hf hg hh hn hm hk hs ht hu h1 h2 h3 hc hd _ _ _ _ rfl rfl (.inl q1)
end Go.Proofs.YtmobjpmkenpckaaDoor.KK
