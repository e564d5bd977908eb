/-
  The reference's Order: each player's place is how many win against it.
-/
import Derived.Test.YthmipjlmmgdpmaaMg
import Derived.Test.YthmipjlmmgdpmaaLt
namespace Go.Proofs.Ythmipjlmmgdpmaa.KK
open Go.ChangeShapes Go.WideShapes Go.ChangeAt Go.RowKit Go.Proofs

/-- how many of the first k players win against p -/
def plc (ks : List LK) (p k : Nat) : Nat := (List.range k).countP fun q => wn ks q p
theorem plc_zero (ks : List LK) (p : Nat) : plc ks p 0 = 0 := rfl
theorem plc_succ (ks : List LK) (p k : Nat) : plc ks p (k + 1) = plc ks p k + (if wn ks k p = true then 1 else 0) := by
  unfold plc; rw [List.range_succ, List.countP_append]; simp [List.countP_cons]
theorem Ord.before {ks : List LK} {L : List Nat} (h : Ord ks L) {i j : Nat} (hij : i < j) (hj : j < L.length) : wn ks (L[i]'(by omega)) L[j] = true ∧ wn ks L[j] (L[i]'(by omega)) = false := by
  have a := List.pairwise_iff_getElem.1 h.asc i j (by omega) hj hij
  have hne : L[i]'(by omega) ≠ L[j] := List.pairwise_iff_getElem.1 h.nodup i j (by omega) hj hij
  have := wn_tot ks _ _ hne
  rw [a] at this
  exact ⟨by simpa using this, a⟩
theorem plc_at {ks : List LK} {L : List Nat} (h : Ord ks L) {i : Nat} (hi : i < L.length) : plc ks L[i] ks.length = i := by
  unfold plc
  rw [← h.perm.countP_eq]
  have e : L = L.take i ++ L.drop i := (List.take_append_drop i L).symm
  have h1 : (L.take i).countP (fun q => wn ks q L[i]) = i := by
    rw [List.countP_eq_length.2 ?_]
    · simp; omega
    · intro q hq
      obtain ⟨j, hj, rfl⟩ := List.getElem_of_mem hq
      rw [List.getElem_take]
      exact (h.before (by simp at hj; omega) hi).1
  have h2 : (L.drop i).countP (fun q => wn ks q L[i]) = 0 := by
    rw [List.countP_eq_zero]
    intro q hq
    obtain ⟨j, hj, rfl⟩ := List.getElem_of_mem hq
    rw [List.getElem_drop]
    simp only [Bool.not_eq_true]
    rcases Nat.eq_zero_or_pos j with rfl | h0
    · exact wn_irrefl ks _
    · exact (h.before (i := i) (j := i + j) (by omega) (by simp at hj; omega)).2
  have := congrArg (List.countP (fun q => wn ks q L[i])) e
  rw [List.countP_append, h1, h2] at this
  exact this
/-- the row of places after the first p players -/
def rowP (L : List Nat) (p : Nat) : List Int := L.map fun x => if x < p then (x : Int) else 0
theorem rowP_len (L : List Nat) (p : Nat) : (rowP L p).length = L.length := by simp [rowP]
theorem rowP_zero (L : List Nat) : rowP L 0 = List.replicate L.length 0 := by
  apply List.ext_getElem
  · simp [rowP]
  · intro i h1 h2; simp [rowP]
theorem rowP_end {L : List Nat} {n : Nat} (h : ∀ q ∈ L, q < n) : rowP L n = natsV L := by
  unfold rowP natsV
  exact List.map_congr_left fun q hq => by rw [if_pos (h q hq)]
theorem rowP_put {ks : List LK} {L : List Nat} (h : Ord ks L) {p : Nat} (hp : p < ks.length) : plc ks p ks.length < L.length ∧ (rowP L p).set (plc ks p ks.length) (p : Int) = rowP L (p + 1) := by
  have hm : p ∈ L := h.perm.mem_iff.2 (List.mem_range.2 hp)
  obtain ⟨i, hi, rfl⟩ := List.getElem_of_mem hm
  rw [plc_at h hi]
  refine ⟨hi, ?_⟩
  apply List.ext_getElem
  · simp [rowP]
  · intro j h1 h2
    have hj : j < L.length := by simpa [rowP] using h2
    rw [List.getElem_set]
    simp only [rowP, List.getElem_map]
    by_cases e : i = j
    · subst e; simp
    · have hne : L[j] ≠ L[i] := fun g => by
        rcases Nat.lt_or_gt_of_ne e with h3 | h3
        · exact (List.pairwise_iff_getElem.1 h.nodup i j hi hj h3) g.symm
        · exact (List.pairwise_iff_getElem.1 h.nodup j i hj hi h3) g
      rw [if_neg e]
      by_cases h4 : L[j] < L[i]
      · rw [if_pos h4, if_pos (by omega)]
      · rw [if_neg h4, if_neg (by omega)]

set_option maxRecDepth 100000 in
set_option maxHeartbeats 2000000 in
theorem rorder_bad (A B : Option Addr) (c d : Nat) (ks : List LK) (ls : List Int) (win : Int) (w : World) (hf : KsAt w A ks) (hg : IsAt w B ls) (hn : ks.length ≤ 4294967295) (hm : ls.length ≤ 4294967295) (h : (chkT ks ls win).2 ≠ 0) :
    Calls Try.prog 19 #[.agg #[.slice A ks.length c, .slice B ls.length d, .int .i64 win]] w fun e w' => e = .returned (.tuple #[.slice none 0 0, .int .i64 (chkT ks ls win).2]) ∧ Below w.heap.size w w' := by
  have HX := boxT A B ks.length c ls.length d win w
  obtain ⟨x0, x1, x2, x3, x4⟩ := HX.out _ (Below.refl _ _)
  have HB := Lib.hid x4
  have J := Lib.hid (rcheck_any A B c d ks ls win _ (hf.below x4 (Nat.le_refl _)) (hg.below x4 (Nat.le_refl _)) hn hm)
  obtain ⟨b1, b2⟩ := ne_b h
  clear hf hg x3 x4 h
  generalize chkT ks ls win = q at *
  obtain ⟨q1, q2⟩ := q
  generalize ks.length = n at *
  generalize ls.length = m at *
  go_enter Try.func19, Try.ntmps19
  go_wp2_with fail
  refine J.out.mono ?_
  rintro e w1 ⟨rfl, hb⟩
  have HB1 := Lib.hid (eb_of HB.out hb (by simp))
  clear hb
  go_wp2_with fail
  go_ret2
  exact ⟨rfl, HB1.out⟩
set_option maxRecDepth 100000 in
set_option maxHeartbeats 4000000 in
theorem rorder_ok (A B : Option Addr) (c d : Nat) (ks : List LK) (w : World) (hf : KsAt w A ks) (hg : IsAt w B (loL ks)) (h : keysE ks = 0) (L : List Nat) (ho : Ord ks L) :
    Calls Try.prog 19 #[.agg #[.slice A ks.length c, .slice B ks.length d, .int .i64 (wnr ks : Nat)]] w fun e w' => ∃ lb cl, e = .returned (.tuple #[.slice (some ⟨lb, 0, none⟩) ks.length cl, .int .i64 0]) ∧
      CR w' lb (intsV (natsV L)) ∧ Below w.heap.size w w' := by
  obtain ⟨h1, h32, hall⟩ := keysE_ok h
  have HX := boxT A B ks.length c ks.length d (wnr ks) w
  obtain ⟨x0, x1, x2, x3, x4⟩ := HX.out _ (Below.refl _ _)
  have HB := Lib.hid x4
  have J := Lib.hid (by
    have K := rcheck_any A B c d ks (loL ks) (wnr ks) _ (hf.below x4 (Nat.le_refl _)) (hg.below x4 (Nat.le_refl _)) (by omega) (by rw [loL_len]; omega)
    rw [chkT_self h, loL_len] at K; exact K)
  have JW := Lib.hid (fun (q p : Nat) (w' : World) (hb : Below w.heap.size w w') (hq : q < ks.length) (hp : p < ks.length) => by
    have K := wins_any A c ks q p hq hp w' (hf.below hb (Nat.le_refl _)) (by omega)
    rw [rw10_wn (by rw [kAt_lt hq]; exact hall _ (List.getElem_mem hq)) (by rw [kAt_lt hp]; exact hall _ (List.getElem_mem hp))] at K
    exact K)
  have HPUT := Lib.hid (fun (p : Nat) (hp : p < ks.length) => rowP_put ho hp)
  have HSELF := Lib.hid (fun p => wn_irrefl ks p)
  have HLN := Lib.hid ho.len
  have HEND := Lib.hid (rowP_end ho.lt)
  obtain ⟨n, hnn⟩ : ∃ n, ks.length = n := ⟨_, rfl⟩
  have HN := Lib.hid hnn
  rw [hnn] at J JW HX h1 h32 HLN HEND ⊢
  replace HPUT : Hid (∀ p, p < n → _) := Lib.hid (fun p hp => HPUT.out p (by rw [hnn]; exact hp))
  obtain ⟨Z, HZ, hmk⟩ := make_row n (by omega)
  have HZ0 : Hid (rowP L 0 = List.replicate n 0) := Lib.hid (by rw [rowP_zero, HLN.out])
  clear hf hg h x0 x1 x2 x3 x4 hnn ho hall
  generalize wnr ks = pw at *
  go_enter Try.func19, Try.ntmps19
  go_wp2_with fail
  refine J.out.mono ?_
  rintro e w1 ⟨rfl, hb⟩
  obtain ⟨x0, x1, x2, x3, x4⟩ := HX.out _ hb
  have HB1 := Lib.hid x4
  have HCR := Lib.hid (CR.new (w := w1) (t := 3) HZ.out)
  have HB2 := Lib.hid (eb_of HB1.out (alloc_below w1 (.cells Z 3)) (Nat.le_refl _))
  have hle := HB1.out.size
  clear hb x1 x2 x4
  go_wp2_with fail
  have HC2 := Lib.hid (show (w1.alloc (.cells Z 3)).cell? ⟨w.heap.size, 0, none⟩ = some (.slice A n c) from ((alloc_below w1 (.cells Z 3)).cell (p := ⟨w.heap.size, 0, none⟩) x3).trans x0)
  obtain ⟨w2, hw2⟩ : ∃ w2, w2 = w1.alloc (.cells Z 3) := ⟨_, rfl⟩
  rw [← hw2] at HCR HB2 HC2 ⊢
  clear hw2 x0 hmk HX J HB
  generalize w1.heap.size = lb at *
  go_loopw [7] (fun iv wr => ∃ p : Nat, iv = .int .i64 p ∧ p ≤ n ∧ Hid (CR wr lb (intsV (rowP L p)) ∧ Chg (fun k => k = lb) w2 wr)) (fun iv _ => n - (intOf iv).toNat)
  case atStart => exact ⟨0, rfl, Nat.zero_le _, Lib.hid ⟨by rw [HZ0.out]; exact HCR.out, Chg.refl _⟩⟩
  case round =>
    obtain ⟨p, rfl, hpn, HS⟩ := hrel
    by_cases hlt : p < n
    · have hsz0 := HS.out.2.size
      have hlb := HS.out.1.lt
      have HBW : Hid (Below w.heap.size w wr) := Lib.hid (HB2.out.trans (HS.out.2.below (fun k hk => by omega) HB2.out.size))
      have HC3 : Hid (wr.cell? ⟨w.heap.size, 0, none⟩ = some (.slice A n c)) := Lib.hid (HS.out.2.cell HC2.out (by omega))
      have HP := Lib.hid (HPUT.out p hlt)
      generalize wr = w3 at *
      go_wp2_with fail
      go_loopw [8, 9] (fun cv qv wr => ∃ q : Nat, q ≤ n ∧ qv = .int .i64 q ∧ cv = .int .i64 (plc ks p q : Nat) ∧ Below w3.heap.size w3 wr) (fun _ qv _ => n - (intOf qv).toNat)
      case atStart => exact ⟨0, Nat.zero_le _, rfl, rfl, Below.refl _ _⟩
      case round =>
        obtain ⟨q, hqn, rfl, rfl, hb⟩ := hrel
        have HBQ := Lib.hid hb
        have hcl : plc ks p q ≤ q := by unfold plc; exact Nat.le_trans List.countP_le_length (by simp)
        have hsz := hb.size
        by_cases hlt2 : q < n
        · have k0 : wr.cell? ⟨w.heap.size, 0, none⟩ = some (.slice A n c) := (hb.cell (p := ⟨w.heap.size, 0, none⟩) (by show w.heap.size < w3.heap.size; omega)).trans HC3.out
          have JQ := Lib.hid (JW.out q p wr (eb_of HBW.out hb (Nat.le_refl _)) hlt2 hlt)
          have HSU := Lib.hid (plc_succ ks p q)
          clear hb
          by_cases hqp : q = p
          · subst hqp
            rw [HSELF.out, if_neg (by simp), Nat.add_zero] at HSU
            clear JQ
            have hqq : ((q : Int) == (q : Int)) = true := by simp
            generalize hpl : plc ks q q = g at *
            go_wp2_with fail
            go_roundw
            case rel => exact ⟨q + 1, by omega, by go_num, by rw [HSU.out, Nat.add_zero], HBQ.out⟩
            case measure => simp [intOf]; omega
          · have hqq : ((q : Int) == (p : Int)) = false := by rw [beq_eq_false_iff_ne]; omega
            generalize plc ks p q = g at *
            cases hw : wn ks q p with
            | true =>
              rw [hw] at JQ
              rw [hw, if_pos rfl] at HSU
              clear hw
              go_wp2_with fail
              refine JQ.out.mono ?_
              rintro e w4 ⟨rfl, hb⟩
              have HB4 := Lib.hid (HBQ.out.trans (hb.mono hsz))
              clear hb JQ
              go_wp2_with fail
              go_roundw
              case rel => exact ⟨q + 1, by omega, by go_num, by rw [HSU.out]; go_num, HB4.out⟩
              case measure => simp [intOf]; omega
            | false =>
              rw [hw] at JQ
              rw [hw, if_neg (by simp), Nat.add_zero] at HSU
              clear hw
              go_wp2_with fail
              refine JQ.out.mono ?_
              rintro e w4 ⟨rfl, hb⟩
              have HB4 := Lib.hid (HBQ.out.trans (hb.mono hsz))
              clear hb JQ
              go_wp2_with fail
              go_roundw
              case rel => exact ⟨q + 1, by omega, by go_num, by rw [HSU.out, Nat.add_zero], HB4.out⟩
              case measure => simp [intOf]; omega
        · obtain rfl : q = n := by omega
          have HB3 := Lib.hid hb
          have HR := Lib.hid (HS.out.1.below hb hlb)
          obtain ⟨p1, p2⟩ := HP.out
          rw [HN.out] at p1 p2
          have HP2 := Lib.hid p2
          have HRP := Lib.hid (HR.out.put (i := plc ks p q) (by rw [rowP_len]; exact p1) p)
          rw [p2] at HRP
          obtain ⟨l1, l2⟩ := HR.out.int (i := plc ks p q) (by rw [rowP_len]; exact p1)
          rw [HLN.out] at p1
          clear hb p2
          generalize plc ks p q = g at *
          go_wp2_with fail
          go_roundw
          case rel => exact ⟨p + 1, by go_num, by omega, Lib.hid ⟨HRP.out, HS.out.2.trans ((Chg.of_below HB3.out).trans (chg_set lb g _))⟩⟩
          case measure => simp [intOf]; omega
    · obtain rfl : p = n := by omega
      have HF := Lib.hid HS.out.1
      rw [HEND.out] at HF
      have HCW := HS.out.2
      have HBW : Hid (Below w.heap.size w wr) := Lib.hid (HB2.out.trans (HCW.below (fun k hk => by omega) HB2.out.size))
      clear HCW
      go_wp2_with fail
      go_ret2
      exact ⟨lb, p, rfl, HF.out, HBW.out⟩
end Go.Proofs.Ythmipjlmmgdpmaa.KK
