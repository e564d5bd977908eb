/-
  Shadow: the walk of First.
-/
import Derived.Test.YtlobkbhghpknmaaSo
namespace Go.Proofs.Ytlobkbhghpknmaa.KK
open Go.ChangeShapes Go.WideShapes Go.ChangeAt Go.RowKit Go.Proofs

theorem drop_cons_of {α : Type} [Inhabited α] {ks : List α} {n : Nat} {x : α} {t : List α} (h : ks.drop n = x :: t) : ∃ hn : n < ks.length, ks[n] = x ∧ ks.drop (n + 1) = t := by
  have hn : n < ks.length := by
    rcases Nat.lt_or_ge n ks.length with hn | hn
    · exact hn
    · rw [List.drop_eq_nil_of_le hn] at h; cases h
  rw [List.drop_eq_getElem_cons hn] at h
  injection h with h1 h2
  exact ⟨hn, h1, h2⟩
theorem get_map {xs : List El.En} {j k : Nat} (hk : k < xs.length) (e : j = k) : (xs[j]?).map (·.1) = some xs[k].1 := by
  subst e; rw [List.getElem?_eq_getElem hk]; rfl
/-- what is left of both lists -/
structure FirR (xs ks1 ks2 : List El.En) (k n1 m1 : Nat) (s : Bool) (l : ByteArray) : Prop where
  st0 : k = 0 → s = false
  st1 : ∀ j, k = j + 1 → s = true ∧ (xs[j]?).map (·.1) = some l
  d1 : ks1.drop n1 = firsts s l (xs.drop k)
  d2 : ks2.drop m1 = (firsts s l (xs.drop k)).filter (kp true)
  le1 : n1 ≤ ks1.length
  le2 : m1 ≤ ks2.length
theorem FirR.skip {xs ks1 ks2 : List El.En} {k n1 m1 : Nat} {s : Bool} {l : ByteArray} (h : FirR xs ks1 ks2 k n1 m1 s l) (hk : k < xs.length) (e : s = true ∧ xs[k].1 = l) : FirR xs ks1 ks2 (k + 1) n1 m1 true xs[k].1 := by
  have h1 := h.d1; have h2 := h.d2
  rw [List.drop_eq_getElem_cons hk, firsts_cons, if_pos e] at h1 h2
  exact ⟨fun g => by omega, fun j g => ⟨rfl, get_map hk (by omega)⟩, h1, h2, h.le1, h.le2⟩
theorem FirR.take {xs ks1 ks2 : List El.En} {k n1 m1 : Nat} {s : Bool} {l : ByteArray} (h : FirR xs ks1 ks2 k n1 m1 s l) (hk : k < xs.length) (e : ¬ (s = true ∧ xs[k].1 = l)) :
    (∃ hn : n1 < ks1.length, ks1[n1] = xs[k]) ∧ (xs[k].2.2.1 = true → FirR xs ks1 ks2 (k + 1) (n1 + 1) m1 true xs[k].1) ∧ (xs[k].2.2.1 = false → (∃ hm : m1 < ks2.length, ks2[m1] = xs[k]) ∧ FirR xs ks1 ks2 (k + 1) (n1 + 1) (m1 + 1) true xs[k].1) := by
  have h1 := h.d1; have h2 := h.d2
  rw [List.drop_eq_getElem_cons hk, firsts_cons, if_neg e] at h1 h2
  obtain ⟨hn, e1, e2⟩ := drop_cons_of h1
  have hs : ∀ j, k + 1 = j + 1 → true = true ∧ (xs[j]?).map (·.1) = some xs[k].1 := fun j g => ⟨rfl, get_map hk (by omega)⟩
  refine ⟨⟨hn, e1⟩, fun hd => ?_, fun hd => ?_⟩
  · have hk' : kp true xs[k] = false := by unfold kp; rw [hd]; rfl
    rw [List.filter_cons, hk'] at h2
    exact ⟨fun g => by omega, hs, e2, h2, by omega, h.le2⟩
  · have hk' : kp true xs[k] = true := by unfold kp; rw [hd]; rfl
    rw [List.filter_cons, hk', if_pos rfl] at h2
    obtain ⟨hm, m1, m2⟩ := drop_cons_of h2
    exact ⟨⟨hm, m1⟩, fun g => by omega, hs, e2, m2, by omega, by omega⟩
theorem FirR.fin {xs ks1 ks2 : List El.En} {k n1 m1 : Nat} {s : Bool} {l : ByteArray} (h : FirR xs ks1 ks2 k n1 m1 s l) (hk : ¬ k < xs.length) : n1 = ks1.length ∧ m1 = ks2.length := by
  have h1 := h.d1; have h2 := h.d2
  rw [List.drop_eq_nil_of_le (show xs.length ≤ k by omega)] at h1 h2
  have a := congrArg List.length h1
  have b := congrArg List.length h2
  simp only [firsts, List.filter_nil, List.length_drop, List.length_nil] at a b
  have := h.le1; have := h.le2
  omega
theorem FirR.start {xs : List El.En} (h1 : xs.length ≤ 20000) (h2 : okS false ⟨#[]⟩ xs) : FirR xs (siftE xs false).1.1 (siftE xs true).1.1 0 0 0 false ⟨#[]⟩ := by
  rw [sift_of h1 h2 false, sift_of h1 h2 true]
  have e : (FL xs).filter (kp false) = FL xs := List.filter_eq_self.2 (fun x _ => rfl)
  exact ⟨fun _ => rfl, fun j g => by omega, by simp only [e]; rfl, rfl, Nat.zero_le _, Nat.zero_le _⟩
/-- the entry at a place of a slice -/
theorem EsAt.at_ {w : World} {A : Option Addr} {xs : List El.En} (h : EsAt w A xs) {i : Nat} (hi : i < xs.length) : ∃ b off, A = some ⟨b, off, none⟩ ∧ b < w.heap.size ∧ w.cell? ⟨b, off + i * 4, none⟩ = some (.string xs[i].1) ∧ w.cell? ⟨b, off + i * 4 + 1, none⟩ = some (.string xs[i].2.1) ∧ w.cell? ⟨b, off + i * 4 + 2, none⟩ = some (.bool xs[i].2.2.1) ∧ w.cell? ⟨b, off + i * 4 + 3, none⟩ = some (.int .i64 xs[i].2.2.2) := by
  rcases h with h0 | ⟨b, off, e, hb, hc⟩
  · rw [h0] at hi; simp at hi
  · exact ⟨b, off, e, hb, hc i hi⟩
set_option maxRecDepth 100000 in
set_option maxHeartbeats 4000000 in
theorem First_any (A : Option Addr) (c : Nat) (xs : List El.En) (w : World) (hf : EsAt w A xs) (hn : xs.length ≤ 9223372036854775807) (hs : Sized xs) :
    Calls Try.prog 5 #[.slice A xs.length c] w fun e w' => e = .returned (.bool true) ∧ Below w.heap.size w w' := by
  have JF := Lib.hid (far12_any A c xs w hf hn)
  have HF := Lib.hid hf
  have HS := Lib.hid hs
  obtain ⟨n, hnn⟩ : ∃ n, xs.length = n := ⟨_, rfl⟩
  rw [hnn] at hn JF ⊢
  have HN := Lib.hid hnn
  clear hnn hf hs
  go_enter Try.func5, Try.ntmps5
  go_wp2_with fail
  refine JF.out.mono ?_
  rintro e w1 ⟨b, rfl, hfar, hb⟩
  have HB1 := Lib.hid hb
  have HF1 := Lib.hid (HF.out.below hb (Nat.le_refl _))
  clear hb
  cases b with
  | true =>
    clear hfar
    go_wp2_with fail
    refine (awake12_any _).mono ?_
    rintro e w2 ⟨rfl, hb⟩
    have HB2 := Lib.hid (eb_of HB1.out hb (Nat.le_refl _))
    clear hb
    go_wp2_with fail
    go_ret
    exact ⟨rfl, HB2.out⟩
  | false =>
    have hn' := hfar rfl
    clear hfar
    have hn32 : xs.length ≤ 4294967295 := by have := HN.out; omega
    have J1 := Lib.hid (fun w h => pFilter_any A c xs false w h hn32 HS.out)
    have J2 := Lib.hid (fun w h => pFilter_any A c xs true w h hn32 HS.out)
    obtain ⟨q1, _, q3⟩ := sift_both xs true
    unfold FiltOut at J1 J2
    by_cases he : (siftE xs false).2.2 = 0
    rotate_left
    · have he2 : (siftE xs true).2.2 ≠ 0 := by rw [q1]; exact he
      obtain ⟨z1, z2⟩ := q3 he2
      rw [z2, HN.out] at J1
      rw [z1, HN.out, q1] at J2
      obtain ⟨b1, b2⟩ := ne_b he
      clear he he2 q1 q3 z1 z2 hn32
      unfold zO at J1 J2
      simp only [List.length_nil] at J1 J2
      generalize (siftE xs false).2 = r at *
      obtain ⟨i, er⟩ := r
      simp only at J1 J2 b1 b2
      go_wp2_with fail
      refine (J1.out _ HF1.out).mono ?_
      rintro e w2 ⟨A2, c2, rfl, _, hb⟩
      have HB2 := Lib.hid (eb_of HB1.out hb (Nat.le_refl _))
      have HF2 := Lib.hid (HF1.out.below hb (Nat.le_refl _))
      clear hb
      go_wp2_with fail
      refine (J2.out _ HF2.out).mono ?_
      rintro e w3 ⟨A3, c3, rfl, _, hb⟩
      have HB3 := Lib.hid (eb_of HB2.out hb (Nat.le_refl _))
      clear hb
      go_wp2_with fail
      refine (awake12_any _).mono ?_
      rintro e w9 ⟨rfl, hb⟩
      have HB9 := Lib.hid (eb_of HB3.out hb (Nat.le_refl _))
      clear hb
      go_wp2_with fail
      go_ret
      exact ⟨rfl, HB9.out⟩
    · obtain ⟨h20, hok⟩ := sift_run he
      have HST := Lib.hid (FirR.start h20 hok)
      have q4 := sift_later he
      have q5 : (siftE xs false).2 = (0, 0) := by rw [← q1]; exact q4.2
      rw [q5, HN.out] at J1
      rw [q4.2, HN.out] at J2
      clear q1 q3 q4 q5 he h20 hok hn32
      have hma := sift_len xs false
      have hmb := sift_len xs true
      rw [HN.out] at hma hmb
      generalize (siftE xs false).1.1 = ks1 at *
      generalize (siftE xs true).1.1 = ks2 at *
      obtain ⟨la, hla⟩ : ∃ m, ks1.length = m := ⟨_, rfl⟩
      obtain ⟨lb, hlb⟩ : ∃ m, ks2.length = m := ⟨_, rfl⟩
      rw [hla] at J1
      rw [hlb] at J2
      have HMA : Hid (la ≤ n) := Lib.hid (by rw [← hla]; exact hma)
      have HMB : Hid (lb ≤ n) := Lib.hid (by rw [← hlb]; exact hmb)
      clear hma hmb
      have HLA := Lib.hid hla
      have HLB := Lib.hid hlb
      clear hla hlb
      go_wp2_with fail
      refine (J1.out _ HF1.out).mono ?_
      rintro e w2 ⟨A2, c2, rfl, he2, hb⟩
      have HB2 := Lib.hid (eb_of HB1.out hb (Nat.le_refl _))
      have HF2 := Lib.hid (HF1.out.below hb (Nat.le_refl _))
      have HE2 := Lib.hid he2
      clear hb he2
      go_wp2_with fail
      refine (J2.out _ HF2.out).mono ?_
      rintro e w3 ⟨A3, c3, rfl, he3, hb⟩
      have HB3 := Lib.hid (eb_of HB2.out hb (Nat.le_refl _))
      have HF3 := Lib.hid (HF2.out.below hb (Nat.le_refl _))
      have HE := Lib.hid (HE2.out.below hb (Nat.le_refl _))
      have HG := Lib.hid he3
      clear hb he3
      go_wp2_with fail
      go_loopw [9, 10, 11] (fun nv mv iv wr => ∃ (k n1 m1 : Nat) (s : Bool) (l : ByteArray), k ≤ n ∧ iv = .int .i64 k ∧ nv = .int .i64 n1 ∧ mv = .int .i64 m1 ∧ Below w3.heap.size w3 wr ∧ FirR xs ks1 ks2 k n1 m1 s l) (fun _ _ iv _ => n - (intOf iv).toNat)
      case atStart => exact ⟨0, 0, 0, _, _, Nat.zero_le _, rfl, rfl, rfl, Below.refl _ _, HST.out⟩
      case round =>
        obtain ⟨k0, n1, m1, s, l, hk, rfl, rfl, rfl, hbr, hR⟩ := hrel
        have HR := Lib.hid hR
        have HBR := Lib.hid hbr
        clear hR
        by_cases hlt : k0 < n
        rotate_left
        · obtain ⟨rfl, rfl⟩ : n1 = la ∧ m1 = lb := by
            obtain ⟨a1, a2⟩ := HR.out.fin (by rw [HN.out]; exact hlt)
            exact ⟨a1.trans HLA.out, a2.trans HLB.out⟩
          have HB4 := Lib.hid (eb_of HB3.out hbr (Nat.le_refl _))
          clear hbr
          go_wp2_with fail
          refine (awake12_any _).mono ?_
          rintro e w9 ⟨rfl, hb⟩
          have HB9 := Lib.hid (eb_of HB4.out hb (Nat.le_refl _))
          clear hb
          go_wp2_with fail
          go_ret
          exact ⟨rfl, HB9.out⟩
        have hlx : k0 < xs.length := by rw [HN.out]; exact hlt
        obtain ⟨bl, off, rfl, hbl, g0, g1, g2, g3⟩ := (HF3.out.below hbr (Nat.le_refl _)).at_ hlx
        have hsk := HR.out.skip hlx
        obtain ⟨⟨xk, xv, xd, xq⟩, hx⟩ : ∃ x, xs[k0] = x := ⟨_, rfl⟩
        rw [hx] at g0 g1 g2 g3 hsk
        simp only at g0 g1 g2 g3 hsk
        have hsz := hbr.size
        have hwn : IntKind.i64.wrap ((n1 : Int) + 1) = (n1 : Int) + 1 := by have := HR.out.le1; rw [HLA.out] at this; have := HMA.out; rw [IntKind.wrap_i64]; omega
        have hwm : IntKind.i64.wrap ((m1 : Int) + 1) = (m1 : Int) + 1 := by have := HR.out.le2; rw [HLB.out] at this; have := HMB.out; rw [IntKind.wrap_i64]; omega
        by_cases hk0 : k0 = 0
        · have hs0 := HR.out.st0 hk0
          have hne : ¬ (s = true ∧ xs[k0].1 = l) := fun g => by rw [hs0] at g; cases g.1
          have hk0' : decide ((0 : Int) < (k0 : Int)) = false := by simp; omega
          have hk1' : decide (0 < k0) = false := by simp; omega
          clear hsk hk0
          obtain ⟨⟨hn1, en1⟩, hdead, hlive⟩ := HR.out.take hlx hne
          rw [hx] at en1 hdead hlive
          obtain ⟨b1, o1, rfl, hb1, q0, q1, q2, q3⟩ := (HE.out.below hbr (Nat.le_refl _)).at_ hn1
          rw [en1] at q0 q1 q2 q3
          simp only at q0 q1 q2 q3 hdead hlive
          have hgn : ¬ (la : Int) ≤ (n1 : Int) := by rw [← HLA.out]; omega
          have hgn' : (n1 : Int) < (la : Int) := by rw [← HLA.out]; omega
          have hgd1 : decide ((la : Int) ≤ (n1 : Int)) = false := decide_eq_false hgn
          have hgd2 : decide (la ≤ n1) = false := decide_eq_false (by omega)
          have hgd3 : ¬ la ≤ n1 := by omega
          clear hn1 en1
          cases xd with
          | true =>
            have HN1 := Lib.hid (hdead rfl)
            clear hdead hlive
            clear hbr hx
            go_wp2_with fail
            go_quiet (fail)
            go_wp2_with fail
            go_quiet (fail)
            go_wp2_with fail
            go_roundw
            case rel => exact ⟨k0 + 1, n1 + 1, m1, true, xk, by omega, by go_num, by go_num, rfl, HBR.out.trans ((below_drewN' _).mono hsz), HN1.out⟩
            case measure => simp [intOf]; omega
          | false =>
            obtain ⟨⟨hm1, em1⟩, hl2⟩ := hlive rfl
            obtain ⟨b2, o2, rfl, hb2, r0, r1, r2, r3⟩ := (HG.out.below hbr (Nat.le_refl _)).at_ hm1
            rw [em1] at r0 r1 r2 r3
            simp only at r0 r1 r2 r3
            have hgm : ¬ (lb : Int) ≤ (m1 : Int) := by rw [← HLB.out]; omega
            have hgm' : (m1 : Int) < (lb : Int) := by rw [← HLB.out]; omega
            have hgd4 : decide ((lb : Int) ≤ (m1 : Int)) = false := decide_eq_false hgm
            have hgd5 : decide (lb ≤ m1) = false := decide_eq_false (by omega)
            have hgd6 : ¬ lb ≤ m1 := by omega
            have HN1 := Lib.hid hl2
            clear hdead hlive hl2 hm1 em1
            clear hbr hx
            go_wp2_with fail
            go_quiet (fail)
            go_wp2_with fail
            go_quiet (fail)
            go_wp2_with fail
            go_quiet (fail)
            go_wp2_with fail
            go_roundw
            case rel => exact ⟨k0 + 1, n1 + 1, m1 + 1, true, xk, by omega, by go_num, by go_num, by go_num, HBR.out.trans ((below_drewN' _).mono hsz), HN1.out⟩
            case measure => simp [intOf]; omega
        · obtain ⟨j, rfl⟩ : ∃ j, k0 = j + 1 := ⟨k0 - 1, by omega⟩
          clear hk0
          obtain ⟨hs1, hl1⟩ := HR.out.st1 j rfl
          have hj : j < xs.length := by omega
          rw [List.getElem?_eq_getElem hj] at hl1
          have hl1' : xs[j].1 = l := by simpa using hl1
          obtain ⟨bl', off', e', hbl', p0, p1, p2, p3⟩ := (HF3.out.below hbr (Nat.le_refl _)).at_ hj
          injection e' with e'; injection e' with e1' e2'; subst e1'; subst e2'
          rw [hl1'] at p0
          have hwp : IntKind.i64.wrap (j : Int) = (j : Int) := by rw [IntKind.wrap_i64]; omega
          have hjb : (j : Int) < (n : Int) := by omega
          have hkb : (j : Int) + 1 < (n : Int) := by omega
          have hj1 : decide ((0 : Int) < (j : Int) + 1) = true := by rw [decide_eq_true_eq]; omega
          clear p1 p2 p3 hl1 hl1' hbl'
          by_cases hkl : xk = l
          · have HN1 := Lib.hid (hsk ⟨hs1, hkl⟩)
            subst hkl
            clear hsk
            clear hbr hx
            go_wp2_with fail
            go_quiet (fail)
            go_wp2_with fail
            go_roundw
            case rel => exact ⟨j + 1 + 1, n1, m1, true, xk, by omega, by go_num, rfl, rfl, HBR.out.trans ((below_drewN' _).mono hsz), HN1.out⟩
            case measure => simp [intOf]; omega
          · have hne : ¬ (s = true ∧ xs[j + 1].1 = l) := fun g => hkl (by have := g.2; rw [hx] at this; exact this)
            have hbe := str_beq_ne hkl
            clear hsk hkl
            obtain ⟨⟨hn1, en1⟩, hdead, hlive⟩ := HR.out.take hlx hne
            rw [hx] at en1 hdead hlive
            obtain ⟨b1, o1, rfl, hb1, q0, q1, q2, q3⟩ := (HE.out.below hbr (Nat.le_refl _)).at_ hn1
            rw [en1] at q0 q1 q2 q3
            simp only at q0 q1 q2 q3 hdead hlive
            have hgn : ¬ (la : Int) ≤ (n1 : Int) := by rw [← HLA.out]; omega
            have hgn' : (n1 : Int) < (la : Int) := by rw [← HLA.out]; omega
            have hgd1 : decide ((la : Int) ≤ (n1 : Int)) = false := decide_eq_false hgn
            have hgd2 : decide (la ≤ n1) = false := decide_eq_false (by omega)
            have hgd3 : ¬ la ≤ n1 := by omega
            clear hn1 en1
            cases xd with
            | true =>
              have HN1 := Lib.hid (hdead rfl)
              clear hdead hlive
              clear hbr hx
              go_wp2_with fail
              go_quiet (fail)
              go_wp2_with fail
              go_quiet (fail)
              go_wp2_with fail
              go_roundw
              case rel => exact ⟨j + 1 + 1, n1 + 1, m1, true, xk, by omega, by go_num, by go_num, rfl, HBR.out.trans ((below_drewN' _).mono hsz), HN1.out⟩
              case measure => simp [intOf]; omega
            | false =>
              obtain ⟨⟨hm1, em1⟩, hl2⟩ := hlive rfl
              obtain ⟨b2, o2, rfl, hb2, r0, r1, r2, r3⟩ := (HG.out.below hbr (Nat.le_refl _)).at_ hm1
              rw [em1] at r0 r1 r2 r3
              simp only at r0 r1 r2 r3
              have hgm : ¬ (lb : Int) ≤ (m1 : Int) := by rw [← HLB.out]; omega
              have hgm' : (m1 : Int) < (lb : Int) := by rw [← HLB.out]; omega
              have hgd4 : decide ((lb : Int) ≤ (m1 : Int)) = false := decide_eq_false hgm
              have hgd5 : decide (lb ≤ m1) = false := decide_eq_false (by omega)
              have hgd6 : ¬ lb ≤ m1 := by omega
              have HN1 := Lib.hid hl2
              clear hdead hlive hl2 hm1 em1
              clear hbr hx
              go_wp2_with fail
              go_quiet (fail)
              go_wp2_with fail
              go_quiet (fail)
              go_wp2_with fail
              go_quiet (fail)
              go_wp2_with fail
              go_roundw
              case rel => exact ⟨j + 1 + 1, n1 + 1, m1 + 1, true, xk, by omega, by go_num, by go_num, by go_num, HBR.out.trans ((below_drewN' _).mono hsz), HN1.out⟩
              case measure => simp [intOf]; omega
end Go.Proofs.Ytlobkbhghpknmaa.KK
