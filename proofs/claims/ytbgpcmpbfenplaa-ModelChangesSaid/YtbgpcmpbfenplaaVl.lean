/-
  A batch of writes, one after another; contract of the plain map's Write.
-/
import Derived.Test.YtbgpcmpbfenplaaVk
namespace Go.Proofs.Ytbgpcmpbfenplaa.KK
open Go.ChangeShapes Go.WideShapes Go.ChangeAt Go.RowKit Go.Proofs

theorem hasP_lk {key : ByteArray} {x : Pr} {l : List Pr} (h : lk key x = true) : hasP key (x :: l) = hasP key l := by
  unfold hasP; rw [posP, if_pos h, List.getElem?_cons_succ]
theorem hasP_ge {key : ByteArray} {x : Pr} {l : List Pr} (h : lk key x = false) : hasP key (x :: l) = decide (x.1 = key) := by
  unfold hasP; rw [posP, if_neg (by rw [h]; simp)]; rfl
theorem putP_lk {k v : ByteArray} {d : Bool} {x : Pr} {l : List Pr} (h : lk k x = true) : putP (x :: l) (k, v, d) = x :: putP l (k, v, d) := by
  cases d <;> cases hq : hasP k l
  · rw [putP_new ((hasP_lk h).trans hq) rfl, putP_new hq rfl, posP, if_pos h]; rfl
  · rw [putP_old ((hasP_lk h).trans hq) rfl, putP_old hq rfl, posP, if_pos h]; rfl
  · rw [putP_none ((hasP_lk h).trans hq), putP_none hq]
  · rw [putP_dead ((hasP_lk h).trans hq) rfl, putP_dead hq rfl, posP, if_pos h]; rfl
theorem putP_ge {k v : ByteArray} {d : Bool} {x : Pr} {l : List Pr} (h : lk k x = false) :
    putP (x :: l) (k, v, d) = (if d = true then [] else [(k, v)]) ++ (if x.1 = k then l else x :: l) := by
  have hp : posP k (x :: l) = 0 := by rw [posP, if_neg (by rw [h]; simp)]
  by_cases hx : x.1 = k
  · have hq : hasP k (x :: l) = true := by rw [hasP_ge h]; simpa using hx
    rw [if_pos hx]
    cases d
    · rw [putP_old hq hp]; rfl
    · rw [putP_dead hq hp]; rfl
  · have hq : hasP k (x :: l) = false := by rw [hasP_ge h]; simpa using hx
    rw [if_neg hx]
    cases d
    · rw [putP_new hq hp]; rfl
    · rw [putP_none hq]; rfl
theorem putP_nil {k v : ByteArray} {d : Bool} : putP [] (k, v, d) = if d = true then [] else [(k, v)] := by
  cases d <;> rfl
theorem putP_mem {k v : ByteArray} {d : Bool} : ∀ {l : List Pr} {y : Pr}, y ∈ putP l (k, v, d) → y ∈ l ∨ y = (k, v)
  | [], y, h => by
    rw [putP_nil] at h
    cases d
    · exact .inr (by simpa using h)
    · simp at h
  | x :: l, y, h => by
    cases hl : lk k x
    · rw [putP_ge hl] at h
      rcases List.mem_append.1 h with h | h
      · cases d
        · exact .inr (by simpa using h)
        · simp at h
      · split at h
        · exact .inl (List.mem_cons_of_mem _ h)
        · exact .inl h
    · rw [putP_lk hl] at h
      rcases List.mem_cons.1 h with rfl | h
      · exact .inl List.mem_cons_self
      · rcases putP_mem h with g | g
        · exact .inl (List.mem_cons_of_mem _ g)
        · exact .inr g
theorem putP_SP {k v : ByteArray} {d : Bool} : ∀ {l : List Pr}, SP l → SP (putP l (k, v, d))
  | [], _ => by rw [putP_nil]; cases d <;> simp [SP]
  | x :: l, h => by
    obtain ⟨h1, h2⟩ := List.pairwise_cons.1 h
    cases hl : lk k x
    · rw [putP_ge hl]
      by_cases hx : x.1 = k
      · rw [if_pos hx]
        cases d
        · exact List.pairwise_cons.2 ⟨fun y hy => by have := h1 y hy; unfold kp at this ⊢; rw [← hx]; exact this, h2⟩
        · exact h2
      · rw [if_neg hx]
        cases d
        · have hkx : kp (k, v) x = true := by
            unfold kp
            cases hq : Kl.lt (Kl.L k) (Kl.L x.1) with
            | true => rfl
            | false => exact absurd (Kl.lt_total hl hq) (fun e => hx (by cases hx1 : x.1; cases hk1 : k; rw [hx1, hk1] at e; congr 1; exact Array.toList_inj.1 e))
          exact List.pairwise_cons.2 ⟨fun y hy => by
            rcases List.mem_cons.1 hy with rfl | hy
            · exact hkx
            · exact kp_trans hkx (h1 y hy), h⟩
        · exact h
    · rw [putP_lk hl]
      exact List.pairwise_cons.2 ⟨fun y hy => by
        rcases putP_mem hy with g | g
        · exact h1 y g
        · subst g; exact hl, putP_SP h2⟩
theorem putP_len {k v : ByteArray} {d : Bool} : ∀ {l : List Pr}, (putP l (k, v, d)).length ≤ l.length + 1
  | [] => by rw [putP_nil]; cases d <;> simp
  | x :: l => by
    cases hl : lk k x
    · rw [putP_ge hl]
      rw [List.length_append]; split <;> split <;> simp <;> omega
    · rw [putP_lk hl]; have := @putP_len k v d l; simp; omega
/-- the map after the writes, one after another -/
def putAll (xs : List Pr) (ws : List Wr) : List Pr := ws.foldl putP xs
theorem putAll_len : ∀ (ws : List Wr) (xs : List Pr), (putAll xs ws).length ≤ xs.length + ws.length
  | [], xs => Nat.le_refl _
  | x :: ws, xs => by
    have h1 := putAll_len ws (putP xs x)
    have h2 : (putP xs x).length ≤ xs.length + 1 := @putP_len x.1 x.2.1 x.2.2 xs
    show (putAll (putP xs x) ws).length ≤ _
    rw [List.length_cons]; omega
theorem putAll_ok : ∀ {ws : List Wr} {xs : List Pr}, (∀ x ∈ ws, wrE x = 0) → (∀ x ∈ xs, szE x.1 x.2 = 0) → SP xs → (∀ x ∈ putAll xs ws, szE x.1 x.2 = 0) ∧ SP (putAll xs ws)
  | [], xs, _, h, g => ⟨h, g⟩
  | x :: ws, xs, hw, h, g => by
    show (∀ y ∈ putAll (putP xs x) ws, _) ∧ SP (putAll (putP xs x) ws)
    exact putAll_ok (fun y hy => hw y (List.mem_cons_of_mem _ hy)) (fun y hy => by
      rcases @putP_mem x.1 x.2.1 x.2.2 xs y hy with q | q
      · exact h y q
      · subst q; exact (wrE_zero (hw x List.mem_cons_self)).1) (putP_SP (k := x.1) (v := x.2.1) (d := x.2.2) g)
theorem putAll_step {xs : List Pr} {ws : List Wr} {k : Nat} (h : k < ws.length) : putAll xs (ws.take (k + 1)) = putP (putAll xs (ws.take k)) ws[k] := by
  unfold putAll; rw [List.take_succ_eq_append_getElem h, List.foldl_append]; rfl
theorem own_mono' {w : World} {base base' : Nat} {e : TypeId} {size : Nat} {v : Value} {n : Nat} {xs : List Value} (h : w.ownsRow base e size v n xs) (hb : base' ≤ base) : w.ownsRow base' e size v n xs :=
  ⟨h.1, h.2.imp id fun ⟨g, cap, cur, h1, h2, h3⟩ => ⟨g, cap, cur, h1, Nat.le_trans hb h2, h3⟩⟩
/-- what Write answers -/
def writeE (xs : List Pr) (ws : List Wr) : Int :=
  if (mapE xs).2 ≠ 0 then (mapE xs).2 else if batchE ws ≠ 0 then batchE ws else if 4000 < (putAll xs ws).length then 5 else 0
def writeM (xs : List Pr) (ws : List Wr) : List Pr := if writeE xs ws = 0 then putAll xs ws else []
theorem writeM_no {xs : List Pr} {ws : List Wr} (h : writeE xs ws ≠ 0) : writeM xs ws = [] := if_neg h
set_option maxRecDepth 100000 in
set_option maxHeartbeats 4000000 in
theorem write_any (A B : Option Addr) (c c2 : Nat) (xs : List Pr) (ws : List Wr) (w : World) (hf : PsAt w A xs) (hA : A = none → c = 0) (hn : xs.length ≤ 4294967295) (hs : SizedP xs) (hg : WsAt w B ws) (hn2 : ws.length ≤ 4294967295) (hs2 : SizedW ws) :
    Calls Try.prog 41 #[.slice A xs.length c, .slice B ws.length c2] w fun e w' => ∃ v', e = .returned (.tuple #[v', .int .i64 (writeE xs ws)]) ∧ w'.ownsRow w.heap.size 31 2 v' (writeM xs ws).length (cellsP (writeM xs ws)) ∧ Below w.heap.size w w' := by
  have J1 := Lib.hid (fun w1 (h : Below w.heap.size w w1) => mCheck_any A c xs w1 (hf.below h (Nat.le_refl _)) hn hs)
  have J2 := Lib.hid (fun w1 (h : Below w.heap.size w w1) => batch_any B c2 ws w1 (hg.below h (Nat.le_refl _)) hn2 hs2)
  have HF := Lib.hid hf
  have HG := Lib.hid hg
  by_cases h1 : (mapE xs).2 = 0
  rotate_left
  · have H : Hid (writeE xs ws = (mapE xs).2) := Lib.hid (by unfold writeE; rw [if_pos h1])
    have HM : Hid (writeM xs ws = []) := Lib.hid (writeM_no (by rw [H.out]; exact h1))
    obtain ⟨b1, b2⟩ := ne_b h1
    clear h1 hf hs hg hs2
    generalize (mapE xs).1 = r0 at *
    generalize (mapE xs).2 = r at *
    generalize ws.length = m at *
    generalize xs.length = n at *
    go_enter Try.func41, Try.ntmps41
    go_wp2_with fail
    refine (J1.out _ (Below.refl _ _)).mono ?_
    rintro e w1 ⟨rfl, hb⟩
    have HB := Lib.hid hb
    clear hb
    go_wp2_with fail
    go_ret2
    refine ⟨.slice none 0 0, by rw [H.out]; rfl, ?_, HB.out⟩
    rw [HM.out]
    exact World.ownsRow_nil _ _ _ _
  by_cases h2 : batchE ws = 0
  rotate_left
  · have H : Hid (writeE xs ws = batchE ws) := Lib.hid (by unfold writeE; rw [if_neg (by rw [h1]; simp), if_pos h2])
    have HM : Hid (writeM xs ws = []) := Lib.hid (writeM_no (by rw [H.out]; exact h2))
    obtain ⟨b1, b2⟩ := ne_b h2
    rw [h1] at J1
    clear h1 h2 hf hs hg hs2
    generalize (mapE xs).1 = r0 at *
    generalize batchE ws = r at *
    generalize ws.length = m at *
    generalize xs.length = n at *
    go_enter Try.func41, Try.ntmps41
    go_wp2_with fail
    refine (J1.out _ (Below.refl _ _)).mono ?_
    rintro e w1 ⟨rfl, hb⟩
    have HB := Lib.hid hb
    clear hb
    go_wp2_with fail
    refine (J2.out _ HB.out).mono ?_
    rintro e w2 ⟨rfl, hb⟩
    have HB2 := Lib.hid (eb_of HB.out hb (Nat.le_refl _))
    clear hb
    go_wp2_with fail
    go_ret2
    refine ⟨.slice none 0 0, by rw [H.out]; rfl, ?_, HB2.out⟩
    rw [HM.out]
    exact World.ownsRow_nil _ _ _ _
  obtain ⟨x4, xz, xs'⟩ := map_ok h1
  obtain ⟨y1, y8, yw⟩ := batch_ok h2
  have J3 := Lib.hid (fun w1 (h : Below w.heap.size w w1) => cloneP_any A c xs w1 (hf.below h (Nat.le_refl _)) hn hA)
  rw [h1] at J1
  rw [h2] at J2
  have HX : Hid (∀ k, k ≤ ws.length → (putAll xs (ws.take k)).length ≤ xs.length + k ∧ (∀ x ∈ putAll xs (ws.take k), szE x.1 x.2 = 0) ∧ SP (putAll xs (ws.take k))) := Lib.hid (fun k hk => by
    have h := putAll_len (ws.take k) xs
    rw [List.length_take, Nat.min_eq_left hk] at h
    exact ⟨h, putAll_ok (fun y hy => yw y (List.mem_of_mem_take hy)) xz xs'⟩)
  have HW : Hid (∀ k (h : k < ws.length), ws[k].1.size ≤ 32) := Lib.hid (fun k h => (szE_of (wrE_zero (yw _ (List.getElem_mem h))).1).1)
  have HE : Hid (writeE xs ws = if 4000 < (putAll xs ws).length then 5 else 0) := Lib.hid (by unfold writeE; rw [if_neg (by rw [h1]; simp), if_neg (by rw [h2]; simp)])
  clear h1 h2 hf hg hs hs2 xz xs' yw
  obtain ⟨n, hnn⟩ : ∃ n, xs.length = n := ⟨_, rfl⟩
  obtain ⟨m, hmm⟩ : ∃ m, ws.length = m := ⟨_, rfl⟩
  rw [hnn] at J1 J3 hn x4 HX ⊢
  rw [hmm] at J2 hn2 y1 y8 HX ⊢
  have HM := Lib.hid hmm
  have HN := Lib.hid hnn
  clear hmm hnn
  generalize (mapE xs).1 = r0 at *
  go_enter Try.func41, Try.ntmps41
  go_wp2_with fail
  refine (J1.out _ (Below.refl _ _)).mono ?_
  rintro e w1 ⟨rfl, hb⟩
  have HB := Lib.hid hb
  clear hb
  go_wp2_with fail
  refine (J2.out _ HB.out).mono ?_
  rintro e w2 ⟨rfl, hb⟩
  have HB2 := Lib.hid (eb_of HB.out hb (Nat.le_refl _))
  clear hb
  go_wp2_with fail
  refine (J3.out _ HB2.out).mono ?_
  rintro e w3 ⟨v3, rfl, ho, hb⟩
  have HB3 := Lib.hid (eb_of HB2.out hb (Nat.le_refl _))
  have HO3 := Lib.hid ho
  have hsz3 := hb.size
  clear hb ho
  go_wp2_with fail
  go_loopw [29, 9] (fun i a wr => ∃ k : Nat, k ≤ m ∧ i = .int .i64 k ∧ wr.ownsRow w.heap.size 31 2 a (putAll xs (ws.take k)).length (cellsP (putAll xs (ws.take k))) ∧ Below w.heap.size w wr) (fun i _ _ => m - (intOf i).toNat)
  case atStart => exact ⟨0, Nat.zero_le _, rfl, by rw [List.take_zero]; show w3.ownsRow _ _ _ _ xs.length _; rw [HN.out]; exact own_mono' HO3.out HB2.out.size, HB3.out⟩
  case round =>
    obtain ⟨k, hk, rfl, ho, hb⟩ := hrel
    have HO := Lib.hid ho
    have HB4 := Lib.hid hb
    have hsz := hb.size
    clear ho hb
    obtain ⟨q1, q2, q3⟩ := HX.out k hk
    by_cases hlt : k < m
    rotate_left
    · have hf1 : ¬ (k : Int) < (m : Int) := by omega
      have hkm : ws.take k = ws := List.take_of_length_le (by rw [HM.out]; omega)
      rw [hkm] at HO q1
      clear q2 q3 hkm
      obtain ⟨n9, h9⟩ : ∃ n9, (putAll xs ws).length = n9 := ⟨_, rfl⟩
      rw [h9] at HO HE q1
      have HLN := Lib.hid h9
      obtain ⟨A9, c9, rfl, _, _⟩ := own_cap2 HO.out
      clear h9
      by_cases hbig : 4000 < n9
      · have HZ : Hid (writeE xs ws = 5) := Lib.hid (by rw [HE.out, if_pos hbig])
        go_wp2_with fail
        go_ret2
        refine ⟨.slice none 0 0, by rw [HZ.out]; rfl, ?_, HB4.out⟩
        rw [writeM_no (by rw [HZ.out]; decide)]
        exact World.ownsRow_nil _ _ _ _
      · have HZ : Hid (writeE xs ws = 0) := Lib.hid (by rw [HE.out, if_neg hbig])
        go_wp2_with fail
        go_ret2
        refine ⟨.slice A9 n9 c9, by rw [HZ.out]; rfl, ?_, HB4.out⟩
        unfold writeM
        rw [if_pos HZ.out, HLN.out]
        exact HO.out
    have hf1 : (k : Int) < (m : Int) := by omega
    have hlx : k < ws.length := by rw [HM.out]; exact hlt
    rcases HG.out.below HB4.out (Nat.le_refl _) with h0 | ⟨b, off, rfl, hbl, hc⟩
    · rw [h0] at hlx; simp at hlx
    obtain ⟨g0, g1, g2⟩ := hc k hlx
    clear hc
    have hk32 := HW.out k hlx
    have HST := Lib.hid (putAll_step (xs := xs) hlx)
    obtain ⟨⟨wk, wv, wd⟩, hx⟩ : ∃ x, ws[k] = x := ⟨_, rfl⟩
    rw [hx] at g0 g1 g2 hk32 HST
    clear hx
    simp only at g0 g1 g2 hk32
    have HB5 := Lib.hid (HB4.out.alloc hsz (.cells #[.string wk, .string wv, .bool wd] 76))
    have hox := own_base' (row := none) HO.out (grown_of_below' (alloc_below wr (.cells #[.string wk, .string wv, .bool wd] 76))) (fun r h => by cases h)
    have J4 := Lib.hid (written_any _ _ wk wv wd w.heap.size _ hox (by omega) q2 q3 hk32 HB5.out.size)
    rw [← HST.out] at J4
    clear q1 q2 q3 hox
    go_wp2_with fail
    refine J4.out.mono ?_
    rintro e w5 ⟨v5, rfl, ho5, hb5⟩
    have HO5 := Lib.hid ho5
    have HB6 := Lib.hid (HB5.out.trans hb5)
    clear ho5 hb5
    go_wp2_with fail
    go_roundw
    case rel => exact ⟨k + 1, by omega, by go_num, HO5.out, HB6.out⟩
    case measure => simp [intOf]; omega
end Go.Proofs.Ytbgpcmpbfenplaa.KK
