/-
  The reference's Over: the walk.
-/
import Derived.Test.YtmobjpmkenpckaaDoorIi
namespace Go.Proofs.YtmobjpmkenpckaaDoor.KK
open Go.ChangeShapes Go.WideShapes Go.ChangeAt Go.RowKit Go.Proofs Go.Sort

theorem atE_pos {key : ByteArray} : ∀ (k : Nat) (l : List El.En), 0 ≤ atE key k l → ∃ z ∈ l, z.1 = key
  | _, [], h => by simp [atE] at h
  | k, x :: t, h => by
    by_cases e : x.1 = key
    · exact ⟨x, by simp, e⟩
    · rw [atE, if_neg e] at h
      obtain ⟨z, hz, e⟩ := atE_pos (k + 1) t h
      exact ⟨z, List.mem_cons_of_mem _ hz, e⟩
theorem atE_neg {key : ByteArray} : ∀ (k : Nat) (l : List El.En), ¬ 0 ≤ atE key k l → ∀ z ∈ l, z.1 ≠ key
  | _, [], _ => fun z hz => by cases hz
  | k, x :: t, h => by
    by_cases e : x.1 = key
    · rw [atE, if_pos e] at h; omega
    · rw [atE, if_neg e] at h
      intro z hz
      rcases List.mem_cons.1 hz with rfl | hz
      · exact e
      · exact atE_neg (k + 1) t h z hz
theorem kl_pos {x y : El.En} : kl x y = true ↔ 0 < Kl.ord (Kl.L y.1) (Kl.L x.1) := by
  rw [Kl.ord_pos]; exact Iff.rfl
/-- what lies in the reference's list when so many of the old ones were looked at -/
def PutTo (xs ys : List El.En) (i : Nat) (m : List El.En) : Prop := SK m ∧ ∀ y, y ∈ m ↔ y ∈ ys ∨ (y ∈ xs.take i ∧ ∀ z ∈ ys, z.1 ≠ y.1)
theorem PutTo.start {xs ys : List El.En} (h : SK ys) : PutTo xs ys 0 ys := ⟨h, fun y => by simp⟩
theorem PutTo.skip {xs ys m : List El.En} {i : Nat} (h : PutTo xs ys i m) (hi : i < xs.length) (g : ∃ z ∈ ys, z.1 = xs[i].1) : PutTo xs ys (i + 1) m :=
  ⟨h.1, fun y => by
    rw [h.2 y, List.take_succ_eq_append_getElem hi, List.mem_append, List.mem_singleton]
    constructor
    · rintro (q | ⟨q, r⟩)
      · exact .inl q
      · exact .inr ⟨.inl q, r⟩
    · rintro (q | ⟨q | rfl, r⟩)
      · exact .inl q
      · exact .inr ⟨q, r⟩
      · obtain ⟨z, hz, e⟩ := g
        exact absurd e (r z hz)⟩
theorem PutTo.ne {xs ys m : List El.En} {i : Nat} (h : PutTo xs ys i m) (hx : SK xs) (hi : i < xs.length) (g : ∀ z ∈ ys, z.1 ≠ xs[i].1) : ∀ y ∈ m, y.1 ≠ xs[i].1 := fun y hy => by
  rcases (h.2 y).1 hy with q | ⟨q, _⟩
  · exact g y q
  · obtain ⟨j, hj, rfl⟩ := List.getElem_of_mem q
    rw [List.length_take] at hj
    rw [List.getElem_take]
    exact kl_ne (List.pairwise_iff_getElem.1 hx j i (by omega) hi (by omega))
theorem PutTo.put {xs ys m : List El.En} {i k : Nat} (h : PutTo xs ys i m) (hi : i < xs.length) (g : ∀ z ∈ ys, z.1 ≠ xs[i].1) (h1 : ∀ y ∈ m.take k, kl y xs[i] = true) (h2 : ∀ y ∈ m.drop k, kl xs[i] y = true) : PutTo xs ys (i + 1) (m.take k ++ xs[i] :: m.drop k) := by
  obtain ⟨a1, a2⟩ := put_in h.1 h1 h2
  refine ⟨a1, fun y => ?_⟩
  rw [a2 y, h.2 y, List.take_succ_eq_append_getElem hi, List.mem_append, List.mem_singleton]
  constructor
  · rintro (rfl | q | ⟨q, r⟩)
    · exact .inr ⟨.inr rfl, g⟩
    · exact .inl q
    · exact .inr ⟨.inl q, r⟩
  · rintro (q | ⟨q | rfl, r⟩)
    · exact .inr (.inl q)
    · exact .inr (.inr ⟨q, r⟩)
    · exact .inl rfl
theorem PutTo.fin {xs ys m : List El.En} {i : Nat} (h : PutTo xs ys i m) (hx : SK xs) (hy : SK ys) (hi : xs.length ≤ i) : m = ovr xs ys :=
  SK.ext h.1 (ovr_sk _ _ hx hy) fun y => by rw [h.2 y, ovr_mem _ _ hx hy, List.take_of_length_le hi]
set_option maxRecDepth 100000 in
theorem fover_bad (A : Option Addr) (c : Nat) (xs : List El.En) (B : Option Addr) (d : Nat) (ys : List El.En) (w : World) (hf : EsAt w A xs) (hg : EsAt w B ys) (hn : xs.length ≤ 4294967295) (hm : ys.length ≤ 4294967295) (hs : Sized xs) (ht : Sized ys) (h1 : (listE xs).2 ≠ 0) :
    Calls Tryd.prog 14 #[.slice A xs.length c, .slice B ys.length d] w fun e w' => ∃ A' c', e = .returned (.tuple #[.slice A' (overE xs ys).2.length c', .int .i64 (overE xs ys).1]) ∧ EsAt w' A' (overE xs ys).2 ∧ Below w.heap.size w w' := by
  have J1 := Lib.hid (fList_any A c xs w hf hn hs)
  have HO : Hid (overE xs ys = ((listE xs).2, [])) := Lib.hid (by unfold overE; rw [if_pos h1])
  obtain ⟨n1, n2⟩ := ne_b h1
  clear hf hg hs ht h1
  generalize (listE xs).1 = r1 at *
  generalize (listE xs).2 = r2 at *
  go_enter Tryd.func14, Tryd.ntmps14
  go_wp2_with fail
  refine J1.out.mono ?_
  rintro e w1 ⟨rfl, hb⟩
  have HB := Lib.hid hb
  clear hb J1
  go_wp2_with fail
  go_ret2
  exact ⟨none, 0, by rw [HO.out]; rfl, by rw [HO.out]; exact .inl rfl, HB.out⟩
set_option maxRecDepth 100000 in
theorem fover_bad2 (A : Option Addr) (c : Nat) (xs : List El.En) (B : Option Addr) (d : Nat) (ys : List El.En) (w : World) (hf : EsAt w A xs) (hg : EsAt w B ys) (hn : xs.length ≤ 4294967295) (hm : ys.length ≤ 4294967295) (hs : Sized xs) (ht : Sized ys) (h1 : (listE xs).2 = 0) (h2 : (listE ys).2 ≠ 0) :
    Calls Tryd.prog 14 #[.slice A xs.length c, .slice B ys.length d] w fun e w' => ∃ A' c', e = .returned (.tuple #[.slice A' (overE xs ys).2.length c', .int .i64 (overE xs ys).1]) ∧ EsAt w' A' (overE xs ys).2 ∧ Below w.heap.size w w' := by
  have J1 := Lib.hid (fList_any A c xs w hf hn hs)
  have J2 := Lib.hid (fun w1 (h : Below w.heap.size w w1) => fList_any B d ys w1 (hg.below h (Nat.le_refl _)) hm ht)
  have HO : Hid (overE xs ys = ((listE ys).2, [])) := Lib.hid (by unfold overE; rw [if_neg (by rw [h1]; simp), if_pos h2])
  rw [h1] at J1
  obtain ⟨n1, n2⟩ := ne_b h2
  clear hf hg hs ht h1 h2
  generalize (listE xs).1 = r1 at *
  generalize (listE ys).1 = r3 at *
  generalize (listE ys).2 = r2 at *
  go_enter Tryd.func14, Tryd.ntmps14
  go_wp2_with fail
  refine J1.out.mono ?_
  rintro e w1 ⟨rfl, hb⟩
  have HB := Lib.hid hb
  clear hb J1
  go_wp2_with fail
  refine (J2.out _ HB.out).mono ?_
  rintro e w2 ⟨rfl, hb⟩
  have HB := Lib.hid (eb_of HB.out hb (Nat.le_refl _))
  clear hb J2
  go_wp2_with fail
  go_ret2
  exact ⟨none, 0, by rw [HO.out]; rfl, by rw [HO.out]; exact .inl rfl, HB.out⟩
set_option maxRecDepth 100000 in
set_option maxHeartbeats 8000000 in
theorem fover_main (A : Option Addr) (c : Nat) (xs : List El.En) (B : Option Addr) (d : Nat) (ys : List El.En) (w : World) (hf : EsAt w A xs) (hg : EsAt w B ys) (hn : xs.length ≤ 4294967295) (hm : ys.length ≤ 4294967295) (hs : Sized xs) (ht : Sized ys) (hB0 : B = none → d = 0) (h1 : (listE xs).2 = 0) (h2 : (listE ys).2 = 0) :
    Calls Tryd.prog 14 #[.slice A xs.length c, .slice B ys.length d] w fun e w' => ∃ A' c', e = .returned (.tuple #[.slice A' (overE xs ys).2.length c', .int .i64 (overE xs ys).1]) ∧ EsAt w' A' (overE xs ys).2 ∧ Below w.heap.size w w' := by
  obtain ⟨x5, xc, xk⟩ := list_ok h1
  obtain ⟨y5, yc, yk⟩ := list_ok h2
  have J1 := Lib.hid (fList_any A c xs w hf hn hs)
  have J2 := Lib.hid (fun w1 (h : Below w.heap.size w w1) => fList_any B d ys w1 (hg.below h (Nat.le_refl _)) hm ht)
  rw [h1] at J1
  rw [h2] at J2
  have HO : Hid (overE xs ys = if 5000 < (ovr xs ys).length then (3, []) else (0, ovr xs ys)) := Lib.hid (by unfold overE; rw [if_neg (by rw [h1]; simp), if_neg (by rw [h2]; simp)])
  have HF := Lib.hid hf
  have HG := Lib.hid hg
  have HXC := Lib.hid xc
  have HYC := Lib.hid yc
  have HXK := Lib.hid xk
  have HYK := Lib.hid yk
  have HB0 := Lib.hid hB0
  have JA := Lib.hid (fun key w1 (h : Below w.heap.size w w1) => at_any B d ys key w1 (hg.below h (Nat.le_refl _)) hm)
  clear hf hg hs ht h1 h2 xc yc xk yk hB0
  generalize (listE xs).1 = r1 at *
  generalize (listE ys).1 = r2 at *
  obtain ⟨nx, hnx⟩ : ∃ nx, xs.length = nx := ⟨_, rfl⟩
  obtain ⟨ny, hny⟩ : ∃ ny, ys.length = ny := ⟨_, rfl⟩
  rw [hnx] at J1 x5 hn ⊢
  rw [hny] at J2 JA y5 hm ⊢
  have HNX := Lib.hid hnx
  have HNY := Lib.hid hny
  clear hnx hny
  go_enter Tryd.func14, Tryd.ntmps14
  go_wp2_with fail
  refine J1.out.mono ?_
  rintro e w1 ⟨rfl, hb⟩
  have HB := Lib.hid hb
  clear hb J1
  go_wp2_with fail
  refine (J2.out _ HB.out).mono ?_
  rintro e w2 ⟨rfl, hb⟩
  have HB := Lib.hid (eb_of HB.out hb (Nat.le_refl _))
  clear hb J2
  have HM0 := Lib.hid (made0 w2)
  go_wp2_with (at_builtin; refine wpList_append_es rfl (.tmp 27) (.tmp 28) rfl w2.heap.size _ 0 [] rfl HM0.out B ny d ys rfl HNY.out.symm ((HG.out.below HB.out (Nat.le_refl _)).below (alloc_below _ _) (Nat.le_refl _)) HB0.out (by omega) (by simp) ?_; intro v1 w3 hown1 hg1; have hb1 : Below w2.heap.size w2 w3 := ((Below.refl _ w2).alloc (Nat.le_refl _) _).grown hg1 (by simp) (fun k hk => (HM0.out.lt k hk).1); have HB3 := Lib.hid (eb_of HB.out hb1 (Nat.le_refl _)); rw [Nat.zero_add, List.nil_append] at hown1; obtain ⟨A0, c0, rfl, hc0, hn0⟩ := own_cap2 hown1; have HE0 := Lib.hid (EsAt.of_own hown1); have HC0 := Lib.hid hc0; have HN0 := Lib.hid hn0; clear hb1 hg1 hown1 hc0 hn0)
  clear HM0 HB
  go_loopw [8, 9] (fun vo vi wr => ∃ (i M c' : Nat) (A' : Option Addr) (m : List El.En), vi = .int .i64 i ∧ i ≤ nx ∧ vo = .slice A' M c' ∧ M = m.length ∧ M ≤ ny + i ∧ M ≤ c' ∧ PutTo xs ys i m ∧ EsAt wr A' m ∧ (A' = none → c' = 0) ∧ Below w.heap.size w wr) (fun _ vi _ => nx - (intOf vi).toNat)
  case atStart => exact ⟨0, ny, c0, A0, ys, by first | rfl | go_num, Nat.zero_le _, rfl, HNY.out.symm, Nat.le_refl _, HC0.out, PutTo.start HYK.out, HE0.out, HN0.out, HB3.out⟩
  case round =>
    clear HE0 HC0 HN0 HB3
    obtain ⟨i, M, c', A', m, rfl, him, rfl, hM, hMi, hMc, hst, hes, hz, hb⟩ := hrel
    have HM := Lib.hid hM
    have HST := Lib.hid hst
    have HES := Lib.hid hes
    have HZ := Lib.hid hz
    have HB := Lib.hid hb
    have hsz := hb.size
    clear hM hst hes hz hb
    by_cases hlt : i < nx
    rotate_left
    · have hf1 : ¬ (i : Int) < (nx : Int) := by omega
      have HR : Hid (m = ovr xs ys) := Lib.hid (HST.out.fin HXK.out HYK.out (by rw [HNX.out]; omega))
      by_cases h5 : 5000 < M
      · have d5 : (5000 : Int) < (M : Int) := by omega
        have H : Hid (overE xs ys = (3, [])) := Lib.hid (by rw [HO.out, if_pos (by rw [← HR.out, ← HM.out]; exact h5)])
        go_wp2_with fail
        go_ret2
        first | exact ⟨none, 0, by rw [H.out]; rfl, by rw [H.out]; exact .inl rfl, HB.out⟩ | exact ⟨none, ⟨0, by rw [H.out]; rfl⟩, by rw [H.out]; exact .inl rfl, HB.out⟩
      · have d5 : ¬ (5000 : Int) < (M : Int) := by omega
        have H : Hid (overE xs ys = (0, m)) := Lib.hid (by rw [HO.out, if_neg (by rw [← HR.out, ← HM.out]; exact h5), HR.out])
        go_wp2_with fail
        go_ret2
        first | exact ⟨A', c', by rw [H.out, HM.out]; rfl, by rw [H.out]; exact HES.out, HB.out⟩ | exact ⟨A', ⟨c', by rw [H.out, HM.out]; rfl⟩, by rw [H.out]; exact HES.out, HB.out⟩
    have hf1 : (i : Int) < (nx : Int) := by omega
    have hix : i < xs.length := by rw [HNX.out]; exact hlt
    have hM5 : M ≤ 10000 := by omega
    have HF2 := Lib.hid (HF.out.below HB.out (Nat.le_refl _))
    rcases HF2.out with h0 | ⟨b, off, rfl, hbl, hc⟩
    · rw [h0] at hix; simp at hix
    obtain ⟨p0, _, _, _⟩ := hc i hix
    clear hc
    have hxc := (El.chk_of (HXC.out _ (List.getElem_mem hix))).1
    have JB := Lib.hid (JA.out xs[i].1 wr HB.out)
    by_cases hat : 0 ≤ atE xs[i].1 0 ys
    · have HSK := Lib.hid (HST.out.skip hix (atE_pos 0 ys hat))
      generalize atE xs[i].1 0 ys = r at *
      generalize xs[i].1 = key at *
      go_wp2_with fail
      refine JB.out.mono ?_
      rintro e w4 ⟨rfl, hb⟩
      have HB4 := Lib.hid (eb_of HB.out hb (Nat.le_refl _))
      have HE4 := Lib.hid (HES.out.below hb (Nat.le_refl _))
      clear hb
      go_wp2_with fail
      go_roundw
      case rel => exact ⟨i + 1, M, c', A', m, by go_num, by omega, rfl, HM.out, by omega, hMc, HSK.out, HE4.out, HZ.out, HB4.out⟩
      case measure => simp [intOf]; omega
    have HNE := Lib.hid (atE_neg 0 ys hat)
    have HNE2 := Lib.hid (HST.out.ne HXK.out hix HNE.out)
    obtain ⟨r, hr⟩ : ∃ r, atE xs[i].1 0 ys = r := ⟨_, rfl⟩
    rw [hr] at JB hat
    clear hr
    obtain ⟨⟨xk, xv, xd, xq⟩, hzx⟩ : ∃ x, xs[i] = x := ⟨_, rfl⟩
    have HXI := Lib.hid hzx
    rw [hzx] at JB p0 hxc
    clear hzx
    simp only at p0 hxc
    go_wp2_with fail
    refine JB.out.mono ?_
    rintro e w4 ⟨rfl, hb⟩
    have HB4 := Lib.hid (eb_of HB.out hb (Nat.le_refl _))
    have HE4 := Lib.hid (HES.out.below hb (Nat.le_refl _))
    clear hb p0 hbl
    go_wp2_with fail
    go_loopw [10] (fun vk wr => ∃ k : Nat, vk = .int .i64 k ∧ k ≤ M ∧ (∀ y ∈ m.drop k, kl xs[i] y = true) ∧ Below w.heap.size w wr ∧ EsAt wr A' m) (fun vk _ => (intOf vk).toNat)
    case atStart => exact ⟨M, by first | rfl | go_num, Nat.le_refl _, fun y hy => by (rw [HM.out, List.drop_length] at hy; cases hy), HB4.out, HE4.out⟩
    case round =>
      clear HB4 HE4 HB HES HF2
      obtain ⟨k, rfl, hkM, hdr, hb, hes⟩ := hrel
      have HB2 := Lib.hid hb
      have HES2 := Lib.hid hes
      have HDR := Lib.hid hdr
      have hsz2 := hb.size
      clear hb hes hdr
      have HF2 := Lib.hid (HF.out.below HB2.out (Nat.le_refl _))
      by_cases hk : 0 < k
      rotate_left
      · have hk0 : k = 0 := by omega
        subst hk0
        have d1 : decide ((0 : Int) < ((0 : Nat) : Int)) = false := by decide
        have d2 : decide (0 < 0) = false := by decide
        go_wp2_with fail
        refine wp_region_abv (by first | assumption | kernel_rfl) (by kernel_rfl) ?_
        repeat (first | go_big_quiet_step (fail) | quiet_step (fail))
        refine wpQuiet_nil ?_
        intro w9 hw9
        obtain ⟨p, rfl⟩ := hw9
        have HBB := Lib.hid (below_abv HB2.out (Nat.le_refl _) p)
        have HAT : Hid (∀ y ∈ m.take 0, kl y xs[i] = true) := Lib.hid (fun y hy => by simp at hy)
        have HMS := Lib.hid (HES2.out.below p.h (Nat.le_refl _))
        have HXS := Lib.hid (HF2.out.below p.h (Nat.le_refl _))
        have HM0 := Lib.hid (made0 p.world)
        have HT1 := Lib.hid (show 0 = (m.take (0)).length by rw [List.length_take, ← HM.out]; omega)
        have HT2 := Lib.hid (show M - (0) = (m.drop (0)).length by rw [List.length_drop, ← HM.out])
        have HXC : Hid (∀ W', Below p.world.heap.size p.world W' → W'.cell? ⟨b, off + i * 4, none⟩ = some (.string xk) ∧ W'.cell? ⟨b, off + i * 4 + 1, none⟩ = some (.string xv) ∧ W'.cell? ⟨b, off + i * 4 + 2, none⟩ = some (.bool xd) ∧ W'.cell? ⟨b, off + i * 4 + 3, none⟩ = some (.int .i64 xq)) := Lib.hid fun W' h => by
          rcases HXS.out.below h (Nat.le_refl _) with h0 | ⟨b', off', e', hbl', hc⟩
          · rw [h0] at hix; simp at hix
          injection e' with e'
          injection e' with e1 e2 _
          subst e1 e2
          have := hc i hix
          rw [HXI.out] at this
          exact this
        by_cases hck : c' = 0
        · subst hck
          obtain rfl : M = 0 := by omega
          go_wp2_with (first | (at_builtin; refine wpList_append_es rfl (.tmp 65) (.tmp 68) rfl p.world.heap.size _ 0 [] rfl HM0.out A' (0) (0) (m.take (0)) rfl HT1.out (HMS.out.below (alloc_below _ _) (Nat.le_refl _) |>.take (0)) HZ.out (by omega) (by simp) ?_; intro v1 W1 hown1 hg1; have hb1 : Below p.world.heap.size p.world W1 := ((Below.refl _ p.world).alloc (Nat.le_refl _) _).grown hg1 (by simp) (fun k hk => (HM0.out.lt k hk).1); have HB1 := Lib.hid hb1; rw [Nat.zero_add, List.nil_append] at hown1; have HO1 := Lib.hid hown1; have hs1 : p.world.heap.size ≤ W1.heap.size := hb1.size; obtain ⟨z0, z1, z2, z3⟩ := HXC.out _ hb1; clear hb1 hg1 hown1) | (at_builtin; refine wpList_append_es rfl (.tmp 70) (.tmp 75) rfl p.world.heap.size _ (0) (m.take (0)) rfl (HO1.out.alloc _) (some ⟨W1.heap.size, 0, none⟩) 1 1 [(xk, xv, xd, xq)] rfl rfl (esAt_one W1 (xk, xv, xd, xq)) (fun e => by cases e) (by omega) (by simp; omega) ?_; intro v2 W2 hown2 hg2; have hb2 := (HB1.out.alloc hs1 (.cells #[.string xk, .string xv, .bool xd, .int .i64 xq] 33)).grown hg2 (by simp; omega) (fun g hg => (HO1.out.lt g hg).1); have HB2' := Lib.hid hb2; have HO2 := Lib.hid hown2; have hs2 : p.world.heap.size ≤ W2.heap.size := hb2.size; clear hb2 hg2 hown2 z0 z1 z2 z3) | (at_builtin; refine wpList_append_es rfl (.tmp 77) (.tmp 80) rfl p.world.heap.size _ (0 + 1) (m.take (0) ++ [(xk, xv, xd, xq)]) rfl HO2.out A' (0) (0) (m.drop (0)) rfl (by first | exact HT2.out | (have := HT2.out; simpa using this)) (by rw [List.drop_eq_nil_of_le (by rw [← HM.out]; omega)]; exact .inl rfl) (fun _ => rfl) (by omega) hs2 ?_; intro v3 W3 hown3 hg3; have hb3 := HB2'.out.grown hg3 hs2 (fun g hg => (HO2.out.lt g hg).1); have HB3 := Lib.hid hb3; obtain ⟨A3, c3, rfl, hc3, hn3⟩ := own_cap2 hown3; have HE3 := Lib.hid (EsAt.of_own hown3); have HC3 := Lib.hid hc3; have HN3 := Lib.hid hn3; clear hb3 hg3 hown3 hc3 hn3))
          go_roundw
          case rel => exact ⟨i + 1, 0 + 1 + 0, c3, A3, m.take (0) ++ xs[i] :: m.drop (0), by go_num, by omega, rfl, by rw [List.length_append, List.length_cons, List.length_take, List.length_drop]; have := HM.out; omega, by omega, HC3.out, HST.out.put hix HNE.out HAT.out HDR.out, by rw [show m.take (0) ++ xs[i] :: m.drop (0) = (m.take (0) ++ [(xk, xv, xd, xq)]) ++ m.drop (0) by rw [HXI.out]; simp]; exact HE3.out, HN3.out, HBB.out.trans (HB3.out.mono HBB.out.size)⟩
          case measure => simp [intOf]; omega

        · have hck2 : ¬ 0 = c' := fun e => hck e.symm
          go_wp2_with (first | (at_builtin; refine wpList_append_es rfl (.tmp 65) (.tmp 68) rfl p.world.heap.size _ 0 [] rfl HM0.out A' (0) c' (m.take (0)) rfl HT1.out (HMS.out.below (alloc_below _ _) (Nat.le_refl _) |>.take (0)) HZ.out (by omega) (by simp) ?_; intro v1 W1 hown1 hg1; have hb1 : Below p.world.heap.size p.world W1 := ((Below.refl _ p.world).alloc (Nat.le_refl _) _).grown hg1 (by simp) (fun k hk => (HM0.out.lt k hk).1); have HB1 := Lib.hid hb1; rw [Nat.zero_add, List.nil_append] at hown1; have HO1 := Lib.hid hown1; have hs1 : p.world.heap.size ≤ W1.heap.size := hb1.size; obtain ⟨z0, z1, z2, z3⟩ := HXC.out _ hb1; clear hb1 hg1 hown1) | (at_builtin; refine wpList_append_es rfl (.tmp 70) (.tmp 75) rfl p.world.heap.size _ (0) (m.take (0)) rfl (HO1.out.alloc _) (some ⟨W1.heap.size, 0, none⟩) 1 1 [(xk, xv, xd, xq)] rfl rfl (esAt_one W1 (xk, xv, xd, xq)) (fun e => by cases e) (by omega) (by simp; omega) ?_; intro v2 W2 hown2 hg2; have hb2 := (HB1.out.alloc hs1 (.cells #[.string xk, .string xv, .bool xd, .int .i64 xq] 33)).grown hg2 (by simp; omega) (fun g hg => (HO1.out.lt g hg).1); have HB2' := Lib.hid hb2; have HO2 := Lib.hid hown2; have hs2 : p.world.heap.size ≤ W2.heap.size := hb2.size; clear hb2 hg2 hown2 z0 z1 z2 z3) | (at_builtin; refine wpList_append_es rfl (.tmp 77) (.tmp 80) rfl p.world.heap.size _ (0 + 1) (m.take (0) ++ [(xk, xv, xd, xq)]) rfl HO2.out A' (M) (c') (m.drop (0)) rfl (by first | exact HT2.out | (have := HT2.out; simpa using this)) (by rw [List.drop_zero]; exact HMS.out.below HB2'.out (Nat.le_refl _)) HZ.out (by omega) hs2 ?_; intro v3 W3 hown3 hg3; have hb3 := HB2'.out.grown hg3 hs2 (fun g hg => (HO2.out.lt g hg).1); have HB3 := Lib.hid hb3; obtain ⟨A3, c3, rfl, hc3, hn3⟩ := own_cap2 hown3; have HE3 := Lib.hid (EsAt.of_own hown3); have HC3 := Lib.hid hc3; have HN3 := Lib.hid hn3; clear hb3 hg3 hown3 hc3 hn3))
          go_roundw
          case rel => exact ⟨i + 1, 0 + 1 + (M - (0)), c3, A3, m.take (0) ++ xs[i] :: m.drop (0), by go_num, by omega, rfl, by rw [List.length_append, List.length_cons, List.length_take, List.length_drop]; have := HM.out; omega, by omega, HC3.out, HST.out.put hix HNE.out HAT.out HDR.out, by rw [show m.take (0) ++ xs[i] :: m.drop (0) = (m.take (0) ++ [(xk, xv, xd, xq)]) ++ m.drop (0) by rw [HXI.out]; simp]; exact HE3.out, HN3.out, HBB.out.trans (HB3.out.mono HBB.out.size)⟩
          case measure => simp [intOf]; omega

      · obtain ⟨j, rfl⟩ : ∃ j, k = j + 1 := ⟨k - 1, by omega⟩
        have g1 : decide ((0 : Int) < ((j + 1 : Nat) : Int)) = true := by rw [decide_eq_true_eq]; omega
        have g2 : decide (0 < j + 1) = true := by simp
        have g3 : IntKind.i64.wrap (((j + 1 : Nat) : Int) - 1) = (j : Int) := by rw [IntKind.wrap_i64]; omega
        have hjm : j < m.length := by have := HM.out; omega
        have hjM : (j : Int) < (M : Int) := by omega
        have hjM' : j < M := by omega
        rcases HF2.out with h0 | ⟨b7, off7, e7, hbl, hc⟩
        · rw [h0] at hix; simp at hix
        injection e7 with e7
        injection e7 with e8 e9 _
        subst e8 e9
        obtain ⟨p0, _, _, _⟩ := hc i hix
        rw [HXI.out] at p0
        clear hc
        rcases HES2.out with h0 | ⟨b', off', rfl, hbl', hc'⟩
        · rw [h0] at hjm; simp at hjm
        obtain ⟨q0, _, _, _⟩ := hc' j hjm
        clear hc'
        have hmj : m[j].1.size ≤ 32 := by
          rcases (HST.out.2 _).1 (List.getElem_mem hjm) with q | ⟨q, _⟩
          · exact (El.chk_of (HYC.out _ q)).1
          · exact (El.chk_of (HXC.out _ (List.mem_of_mem_take q))).1
        have J := Lib.hid (fun w => Order_any m[j].1 xk w (by omega) (by omega))
        have p0 := abv_c p0
        have q0 := abv_c q0
        simp only at p0
        clear hbl hbl' hmj
        by_cases ho : kl xs[i] m[j] = true
        · have hd1 := kl_pos.1 ho
          rw [HXI.out] at hd1
          simp only at hd1
          have HO1 := Lib.hid ho
          clear ho
          have hd : decide (0 < Kl.ord (Kl.L m[j].1) (Kl.L xk)) = true := by rw [decide_eq_true_eq]; exact hd1
          generalize Kl.ord (Kl.L m[j].1) (Kl.L xk) = r9 at *
          generalize m[j].1 = kj at *
          go_wp2_with fail
          refine wp_region_abv (by first | assumption | kernel_rfl) (by kernel_rfl) ?_
          repeat (first | go_big_quiet_step (exact callAbv (J.out _)) | quiet_step (exact callAbv (J.out _)))
          refine wpQuiet_nil ?_
          intro w9 hw9
          obtain ⟨p, rfl⟩ := hw9
          go_wp2_with fail
          go_roundw
          case rel => exact ⟨j, by go_num, by omega, fun y hy => (by
            rw [List.drop_eq_getElem_cons hjm] at hy
            rcases List.mem_cons.1 hy with rfl | hy
            · exact HO1.out
            · exact HDR.out y hy), below_abv HB2.out (Nat.le_refl _) p, HES2.out.below p.h (Nat.le_refl _)⟩
          case measure => simp [intOf]
        · have ho2 : kl xs[i] m[j] = false := by simpa using ho
          have hat2 := put_at HST.out.1 hjm ho2 HNE2.out
          have HAT := Lib.hid hat2
          have hd1 : ¬ 0 < Kl.ord (Kl.L m[j].1) (Kl.L xk) := fun h => ho (kl_pos.2 (by rw [HXI.out]; exact h))
          have hd : decide (0 < Kl.ord (Kl.L m[j].1) (Kl.L xk)) = false := by rw [decide_eq_false_iff_not]; exact hd1
          clear ho ho2 hat2
          generalize Kl.ord (Kl.L m[j].1) (Kl.L xk) = r9 at *
          generalize m[j].1 = kj at *
          go_wp2_with fail
          refine wp_region_abv (by first | assumption | kernel_rfl) (by kernel_rfl) ?_
          repeat (first | go_big_quiet_step (exact callAbv (J.out _)) | quiet_step (exact callAbv (J.out _)))
          refine wpQuiet_nil ?_
          intro w9 hw9
          obtain ⟨p, rfl⟩ := hw9
          clear p0 q0
          have HBB := Lib.hid (below_abv HB2.out (Nat.le_refl _) p)
          have HMS := Lib.hid (HES2.out.below p.h (Nat.le_refl _))
          have HXS := Lib.hid (HF2.out.below p.h (Nat.le_refl _))
          have HM0 := Lib.hid (made0 p.world)
          have HT1 := Lib.hid (show j + 1 = (m.take (j + 1)).length by rw [List.length_take, ← HM.out]; omega)
          have HT2 := Lib.hid (show M - (j + 1) = (m.drop (j + 1)).length by rw [List.length_drop, ← HM.out])
          have HXC : Hid (∀ W', Below p.world.heap.size p.world W' → W'.cell? ⟨b, off + i * 4, none⟩ = some (.string xk) ∧ W'.cell? ⟨b, off + i * 4 + 1, none⟩ = some (.string xv) ∧ W'.cell? ⟨b, off + i * 4 + 2, none⟩ = some (.bool xd) ∧ W'.cell? ⟨b, off + i * 4 + 3, none⟩ = some (.int .i64 xq)) := Lib.hid fun W' h => by
            rcases HXS.out.below h (Nat.le_refl _) with h0 | ⟨b', off', e', hbl', hc⟩
            · rw [h0] at hix; simp at hix
            injection e' with e'
            injection e' with e1 e2 _
            subst e1 e2
            have := hc i hix
            rw [HXI.out] at this
            exact this
          by_cases hck : c' = j + 1
          · subst hck
            obtain rfl : M = j + 1 := by omega
            go_wp2_with (first | (at_builtin; refine wpList_append_es rfl (.tmp 65) (.tmp 68) rfl p.world.heap.size _ 0 [] rfl HM0.out (some ⟨b', off', none⟩) (j + 1) (j + 1) (m.take (j + 1)) rfl HT1.out (HMS.out.below (alloc_below _ _) (Nat.le_refl _) |>.take (j + 1)) HZ.out (by omega) (by simp) ?_; intro v1 W1 hown1 hg1; have hb1 : Below p.world.heap.size p.world W1 := ((Below.refl _ p.world).alloc (Nat.le_refl _) _).grown hg1 (by simp) (fun k hk => (HM0.out.lt k hk).1); have HB1 := Lib.hid hb1; rw [Nat.zero_add, List.nil_append] at hown1; have HO1 := Lib.hid hown1; have hs1 : p.world.heap.size ≤ W1.heap.size := hb1.size; obtain ⟨z0, z1, z2, z3⟩ := HXC.out _ hb1; clear hb1 hg1 hown1) | (at_builtin; refine wpList_append_es rfl (.tmp 70) (.tmp 75) rfl p.world.heap.size _ (j + 1) (m.take (j + 1)) rfl (HO1.out.alloc _) (some ⟨W1.heap.size, 0, none⟩) 1 1 [(xk, xv, xd, xq)] rfl rfl (esAt_one W1 (xk, xv, xd, xq)) (fun e => by cases e) (by omega) (by simp; omega) ?_; intro v2 W2 hown2 hg2; have hb2 := (HB1.out.alloc hs1 (.cells #[.string xk, .string xv, .bool xd, .int .i64 xq] 33)).grown hg2 (by simp; omega) (fun g hg => (HO1.out.lt g hg).1); have HB2' := Lib.hid hb2; have HO2 := Lib.hid hown2; have hs2 : p.world.heap.size ≤ W2.heap.size := hb2.size; clear hb2 hg2 hown2 z0 z1 z2 z3) | (at_builtin; refine wpList_append_es rfl (.tmp 77) (.tmp 80) rfl p.world.heap.size _ (j + 1 + 1) (m.take (j + 1) ++ [(xk, xv, xd, xq)]) rfl HO2.out (some ⟨b', off', none⟩) (0) (0) (m.drop (j + 1)) rfl (by first | exact HT2.out | (have := HT2.out; simpa using this)) (by rw [List.drop_eq_nil_of_le (by rw [← HM.out]; omega)]; exact .inl rfl) (fun _ => rfl) (by omega) hs2 ?_; intro v3 W3 hown3 hg3; have hb3 := HB2'.out.grown hg3 hs2 (fun g hg => (HO2.out.lt g hg).1); have HB3 := Lib.hid hb3; obtain ⟨A3, c3, rfl, hc3, hn3⟩ := own_cap2 hown3; have HE3 := Lib.hid (EsAt.of_own hown3); have HC3 := Lib.hid hc3; have HN3 := Lib.hid hn3; clear hb3 hg3 hown3 hc3 hn3))
            go_roundw
            case rel => exact ⟨i + 1, j + 1 + 1 + 0, c3, A3, m.take (j + 1) ++ xs[i] :: m.drop (j + 1), by go_num, by omega, rfl, by rw [List.length_append, List.length_cons, List.length_take, List.length_drop]; have := HM.out; omega, by omega, HC3.out, HST.out.put hix HNE.out HAT.out HDR.out, by rw [show m.take (j + 1) ++ xs[i] :: m.drop (j + 1) = (m.take (j + 1) ++ [(xk, xv, xd, xq)]) ++ m.drop (j + 1) by rw [HXI.out]; simp]; exact HE3.out, HN3.out, HBB.out.trans (HB3.out.mono HBB.out.size)⟩
            case measure => simp [intOf]; omega

          · have hck2 : ¬ j + 1 = c' := fun e => hck e.symm
            go_wp2_with (first | (at_builtin; refine wpList_append_es rfl (.tmp 65) (.tmp 68) rfl p.world.heap.size _ 0 [] rfl HM0.out (some ⟨b', off', none⟩) (j + 1) c' (m.take (j + 1)) rfl HT1.out (HMS.out.below (alloc_below _ _) (Nat.le_refl _) |>.take (j + 1)) HZ.out (by omega) (by simp) ?_; intro v1 W1 hown1 hg1; have hb1 : Below p.world.heap.size p.world W1 := ((Below.refl _ p.world).alloc (Nat.le_refl _) _).grown hg1 (by simp) (fun k hk => (HM0.out.lt k hk).1); have HB1 := Lib.hid hb1; rw [Nat.zero_add, List.nil_append] at hown1; have HO1 := Lib.hid hown1; have hs1 : p.world.heap.size ≤ W1.heap.size := hb1.size; obtain ⟨z0, z1, z2, z3⟩ := HXC.out _ hb1; clear hb1 hg1 hown1) | (at_builtin; refine wpList_append_es rfl (.tmp 70) (.tmp 75) rfl p.world.heap.size _ (j + 1) (m.take (j + 1)) rfl (HO1.out.alloc _) (some ⟨W1.heap.size, 0, none⟩) 1 1 [(xk, xv, xd, xq)] rfl rfl (esAt_one W1 (xk, xv, xd, xq)) (fun e => by cases e) (by omega) (by simp; omega) ?_; intro v2 W2 hown2 hg2; have hb2 := (HB1.out.alloc hs1 (.cells #[.string xk, .string xv, .bool xd, .int .i64 xq] 33)).grown hg2 (by simp; omega) (fun g hg => (HO1.out.lt g hg).1); have HB2' := Lib.hid hb2; have HO2 := Lib.hid hown2; have hs2 : p.world.heap.size ≤ W2.heap.size := hb2.size; clear hb2 hg2 hown2 z0 z1 z2 z3) | (at_builtin; refine wpList_append_es rfl (.tmp 77) (.tmp 80) rfl p.world.heap.size _ (j + 1 + 1) (m.take (j + 1) ++ [(xk, xv, xd, xq)]) rfl HO2.out (some ⟨b', off' + (j + 1) * 4, none⟩) (M - (j + 1)) (c' - (j + 1)) (m.drop (j + 1)) rfl (by first | exact HT2.out | (have := HT2.out; simpa using this)) (by have h9 := ((HMS.out.below HB2'.out (Nat.le_refl _)).drop (j + 1)); simpa [add_at'] using h9) (fun e => by cases e) (by omega) hs2 ?_; intro v3 W3 hown3 hg3; have hb3 := HB2'.out.grown hg3 hs2 (fun g hg => (HO2.out.lt g hg).1); have HB3 := Lib.hid hb3; obtain ⟨A3, c3, rfl, hc3, hn3⟩ := own_cap2 hown3; have HE3 := Lib.hid (EsAt.of_own hown3); have HC3 := Lib.hid hc3; have HN3 := Lib.hid hn3; clear hb3 hg3 hown3 hc3 hn3))
            go_roundw
            case rel => exact ⟨i + 1, j + 1 + 1 + (M - (j + 1)), c3, A3, m.take (j + 1) ++ xs[i] :: m.drop (j + 1), by go_num, by omega, rfl, by rw [List.length_append, List.length_cons, List.length_take, List.length_drop]; have := HM.out; omega, by omega, HC3.out, HST.out.put hix HNE.out HAT.out HDR.out, by rw [show m.take (j + 1) ++ xs[i] :: m.drop (j + 1) = (m.take (j + 1) ++ [(xk, xv, xd, xq)]) ++ m.drop (j + 1) by rw [HXI.out]; simp]; exact HE3.out, HN3.out, HBB.out.trans (HB3.out.mono HBB.out.size)⟩
            case measure => simp [intOf]; omega

theorem fover_any (A : Option Addr) (c : Nat) (xs : List El.En) (B : Option Addr) (d : Nat) (ys : List El.En) (w : World) (hf : EsAt w A xs) (hg : EsAt w B ys) (hn : xs.length ≤ 4294967295) (hm : ys.length ≤ 4294967295) (hs : Sized xs) (ht : Sized ys) (hB0 : B = none → d = 0) :
    Calls Tryd.prog 14 #[.slice A xs.length c, .slice B ys.length d] w fun e w' => ∃ A' c', e = .returned (.tuple #[.slice A' (overE xs ys).2.length c', .int .i64 (overE xs ys).1]) ∧ EsAt w' A' (overE xs ys).2 ∧ Below w.heap.size w w' := by
  by_cases h1 : (listE xs).2 = 0
  · by_cases h2 : (listE ys).2 = 0
    · exact fover_main A c xs B d ys w hf hg hn hm hs ht hB0 h1 h2
    · exact fover_bad2 A c xs B d ys w hf hg hn hm hs ht h1 h2
  · exact fover_bad A c xs B d ys w hf hg hn hm hs ht h1
end Go.Proofs.YtmobjpmkenpckaaDoor.KK
