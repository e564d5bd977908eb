/-
  The reference's Write.
-/
import Derived.Test.YtbgpcmpbfenplaaUk
namespace Go.Proofs.Ytbgpcmpbfenplaa.KK
open Go.ChangeShapes Go.WideShapes Go.ChangeAt Go.RowKit Go.Proofs

theorem own_cap {w : World} {base size n : Nat} {e : TypeId} {v : Value} {zs : List Value} (h : w.ownsRow base e size v n zs) : ∃ A c, v = .slice A n c ∧ (A = none → c = 0) ∧ n ≤ c := by
  rcases h.2 with ⟨rfl, rfl⟩ | ⟨g, cap, cur, rfl, _, _, h5, _⟩
  · exact ⟨none, 0, rfl, fun _ => rfl, Nat.le_refl _⟩
  · exact ⟨_, _, rfl, (fun e => by cases e), h5⟩
theorem writeE_map {xs : List Pr} {ws : List Wr} (h : (mapE xs).2 ≠ 0) : writeE xs ws = (mapE xs).2 := if_pos h
theorem writeE_batch {xs : List Pr} {ws : List Wr} (h : (mapE xs).2 = 0) (g : batchE ws ≠ 0) : writeE xs ws = batchE ws := by unfold writeE; rw [if_neg (by rw [h]; decide), if_pos g]
theorem writeE_full {xs : List Pr} {ws : List Wr} (h : (mapE xs).2 = 0) (g : batchE ws = 0) (f : 4000 < (putAll xs ws).length) : writeE xs ws = 5 := by unfold writeE; rw [if_neg (by rw [h]; decide), if_neg (by rw [g]; decide), if_pos f]
theorem writeE_ok {xs : List Pr} {ws : List Wr} (h : (mapE xs).2 = 0) (g : batchE ws = 0) (f : ¬ 4000 < (putAll xs ws).length) : writeE xs ws = 0 := by unfold writeE; rw [if_neg (by rw [h]; decide), if_neg (by rw [g]; decide), if_neg f]
/-- what the reference's Write answers -/
def WOut (xs : List Pr) (ws : List Wr) (w : World) (e : Ending) (w' : World) : Prop :=
  ∃ A c, e = .returned (.tuple #[.slice A (writeM xs ws).length c, .int .i64 (writeE xs ws)]) ∧ PsAt w' A (writeM xs ws) ∧ Below w.heap.size w w'
theorem WOut.no {xs : List Pr} {ws : List Wr} {w w' : World} {r : Int} (h : writeE xs ws = r) (hr : r ≠ 0) (hb : Below w.heap.size w w') : WOut xs ws w (.returned (.tuple #[.slice none 0 0, .int .i64 r])) w' := by
  have hM := writeM_no (xs := xs) (ws := ws) (by rw [h]; exact hr)
  exact ⟨none, 0, by rw [hM, h]; rfl, .inl hM, hb⟩
theorem WOut.ok {xs : List Pr} {ws : List Wr} {w w' : World} {A : Option Addr} {n c : Nat} (h : writeE xs ws = 0) (hn : n = (putAll xs ws).length) (hf : PsAt w' A (putAll xs ws)) (hb : Below w.heap.size w w') : WOut xs ws w (.returned (.tuple #[.slice A n c, .int .i64 0])) w' := by
  have hM : writeM xs ws = putAll xs ws := if_pos h
  exact ⟨A, c, by rw [hM, h, hn], by rw [hM]; exact hf, hb⟩
set_option maxRecDepth 100000 in
set_option maxHeartbeats 4000000 in
theorem rWrite_any (A B : Option Addr) (c c2 : Nat) (xs : List Pr) (ws : List Wr) (w : World) (hf : PsAt w A xs) (hA : A = none → c = 0) (hc : xs.length ≤ c) (hn : xs.length ≤ 4294967295) (hs : SizedP xs) (hg : WsAt w B ws) (hn2 : ws.length ≤ 4294967295) (hs2 : SizedW ws) :
    Calls Try.prog 86 #[.slice A xs.length c, .slice B ws.length c2] w fun e w' => WOut xs ws w e w' := by
  have JC := Lib.hid (rfCheck_any A c xs w hf hn hs)
  have JB := Lib.hid (fun (w' : World) (hb : Below w.heap.size w w') => rWrites_any B c2 ws w' (hg.below hb (Nat.le_refl _)) hn2 hs2)
  by_cases he : (mapE xs).2 = 0
  rotate_left
  · have HN := Lib.hid (fun (w' : World) (hb : Below w.heap.size w w') => WOut.no (writeE_map (ws := ws) he) he hb)
    obtain ⟨b1, b2⟩ := ne_b he
    clear hf hg hs hs2 he
    generalize (mapE xs).1 = r1 at *
    generalize (mapE xs).2 = r at *
    go_enter Try.func86, Try.ntmps86
    go_wp2_with fail
    refine JC.out.mono ?_
    rintro e w1 ⟨rfl, hb⟩
    have HB := Lib.hid hb
    clear hb
    go_wp2_with fail
    go_ret2
    exact HN.out _ HB.out
  by_cases hbt : batchE ws = 0
  rotate_left
  · have HN := Lib.hid (fun (w' : World) (hb : Below w.heap.size w w') => WOut.no (writeE_batch he hbt) hbt hb)
    obtain ⟨b1, b2⟩ := ne_b hbt
    rw [he] at JC
    clear hf hg hs hs2 he hbt
    generalize (mapE xs).1 = r1 at *
    generalize batchE ws = r at *
    go_enter Try.func86, Try.ntmps86
    go_wp2_with fail
    refine JC.out.mono ?_
    rintro e w1 ⟨rfl, hb⟩
    have HB := Lib.hid hb
    clear hb
    go_wp2_with fail
    refine (JB.out _ HB.out).mono ?_
    rintro e w2 ⟨rfl, hb⟩
    have HB2 := Lib.hid (eb_of HB.out hb (Nat.le_refl _))
    clear hb
    go_wp2_with fail
    go_ret2
    exact HN.out _ HB2.out
  obtain ⟨hx4, hz, hsp⟩ := map_ok he
  obtain ⟨hw0, hw8, hwz⟩ := batch_ok hbt
  have HFULL := Lib.hid (fun (f : 4000 < (putAll xs ws).length) => writeE_full he hbt f)
  have HOK := Lib.hid (fun (f : ¬ 4000 < (putAll xs ws).length) => writeE_ok he hbt f)
  have HF := Lib.hid hf
  have HG := Lib.hid (fun (w' : World) (hb : Below w.heap.size w w') => hg.below hb (Nat.le_refl _))
  have HLEN := Lib.hid (fun (k : Nat) (hk : k ≤ ws.length) => show (putAll xs (ws.take k)).length ≤ 4008 from by
    have := putAll_len (ws.take k) xs
    rw [List.length_take] at this; omega)
  have HA := Lib.hid hA
  have HCC := Lib.hid hc
  rw [he] at JC
  rw [hbt] at JB
  clear hf hg hs hs2 he hbt hz hsp hwz hA hc
  obtain ⟨n, hnn⟩ : ∃ n, ws.length = n := ⟨_, rfl⟩
  have HN := Lib.hid hnn
  obtain ⟨m, hmm⟩ : ∃ m, xs.length = m := ⟨_, rfl⟩
  have HM := Lib.hid hmm
  rw [hnn] at JB HLEN hn2 hw0 hw8 ⊢
  rw [hmm] at JC HCC hx4 hn ⊢
  clear hnn hmm
  generalize (mapE xs).1 = r1 at *
  go_enter Try.func86, Try.ntmps86
  go_wp2_with fail
  refine JC.out.mono ?_
  rintro e w1 ⟨rfl, hb⟩
  have HB := Lib.hid hb
  clear hb
  go_wp2_with fail
  refine (JB.out _ HB.out).mono ?_
  rintro e w2 ⟨rfl, hb⟩
  have HB2 := Lib.hid (eb_of HB.out hb (Nat.le_refl _))
  clear hb HB JC JB
  go_wp2_with fail
  go_loopw [0, 8] (fun mv i wr => ∃ (k : Nat) (A' : Option Addr) (c' : Nat), k ≤ n ∧ i = .int .i64 k ∧ mv = .slice A' (putAll xs (ws.take k)).length c' ∧ PsAt wr A' (putAll xs (ws.take k)) ∧ (A' = none → c' = 0) ∧ (putAll xs (ws.take k)).length ≤ c' ∧ Below w.heap.size w wr) (fun _ i _ => n - (intOf i).toNat)
  case atStart =>
    refine ⟨0, A, c, Nat.zero_le _, rfl, ?_, HF.out.below HB2.out (Nat.le_refl _), HA.out, ?_, HB2.out⟩
    · show Value.slice A m c = .slice A xs.length c
      rw [HM.out]
    · show xs.length ≤ c
      rw [HM.out]; exact HCC.out
  case round =>
    obtain ⟨k, A', c', hk, rfl, rfl, hps, hA', hc', hb⟩ := hrel
    have HB := Lib.hid hb
    have HPS := Lib.hid hps
    have HA' := Lib.hid hA'
    have HC' := Lib.hid hc'
    clear hb hps hA' hc'
    by_cases hlt : k < n
    rotate_left
    · have hkn : k = n := by omega
      have HT : Hid (putAll xs (ws.take k) = putAll xs ws) := Lib.hid (by rw [hkn, ← HN.out, List.take_length])
      rw [HT.out] at HPS HC' ⊢
      have hf1 : ¬ (k : Int) < (n : Int) := by omega
      clear hkn
      by_cases hful : 4000 < (putAll xs ws).length
      · have HE := Lib.hid (HFULL.out hful)
        generalize (putAll xs ws).length = q at *
        go_wp2_with fail
        go_ret2
        exact WOut.no HE.out (by decide) HB.out
      · have HE := Lib.hid (HOK.out hful)
        obtain ⟨q, hq⟩ : ∃ q, (putAll xs ws).length = q := ⟨_, rfl⟩
        have HQ := Lib.hid hq.symm
        rw [hq] at hful ⊢
        clear hq
        go_wp2_with fail
        go_ret2
        exact WOut.ok HE.out HQ.out HPS.out HB.out
    have hf1 : (k : Int) < (n : Int) := by omega
    have hlx : k < ws.length := by rw [HN.out]; exact hlt
    rcases HG.out _ HB.out with h0 | ⟨b, off, rfl, hbl, hcc⟩
    · rw [h0] at hlx; simp at hlx
    obtain ⟨g0, g1, g2⟩ := hcc k hlx
    have HST := Lib.hid (putAll_step (xs := xs) hlx)
    clear hcc
    obtain ⟨⟨xk, xv, xd⟩, hx⟩ : ∃ x, ws[k] = x := ⟨_, rfl⟩
    rw [hx] at g0 g1 g2 HST
    clear hx
    simp only at g0 g1 g2
    have J := Lib.hid (fun (w' : World) (hb : Below wr.heap.size wr w') => one_any A' c' (putAll xs (ws.take k)) xk xv xd w' (HPS.out.below hb (Nat.le_refl _)) HA'.out HC'.out (Nat.le_trans (HLEN.out k hk) (by omega)))
    generalize (putAll xs (ws.take k)) = ys at *
    generalize ys.length = q at *
    go_wp2_with fail
    refine (J.out _ (Below.refl _ _)).mono ?_
    rintro e w3 ⟨v', rfl, ho, hb⟩
    have HB3 := Lib.hid (eb_of HB.out hb (Nat.le_refl _))
    rw [← HST.out] at ho
    obtain ⟨A3, c3, rfl, h3, h4⟩ := own_cap ho
    have HO := Lib.hid (PsAt.of_own ho)
    have H3 := Lib.hid h3
    have H4 := Lib.hid h4
    clear ho hb h3 h4
    go_wp2_with fail
    go_roundw
    case rel => exact ⟨k + 1, A3, c3, by omega, by go_num, rfl, HO.out, H3.out, H4.out, HB3.out⟩
    case measure => simp [intOf]; omega
end Go.Proofs.Ytbgpcmpbfenplaa.KK
