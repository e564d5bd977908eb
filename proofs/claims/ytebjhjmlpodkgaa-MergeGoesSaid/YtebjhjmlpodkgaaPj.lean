/-
  Merges: what comes, one entry after the other: the iterator.
-/
import Derived.Test.YtebjhjmlpodkgaaPi
import Derived.Test.YtebjhjmlpodkgaaPg
import Derived.Deep.LoopGhost
import Derived.IntWalk
namespace Go.Proofs.Ytebjhjmlpodkgaa.KK
open Go.ChangeShapes Go.WideShapes Go.ChangeAt Go.RowKit Go.Proofs

set_option maxRecDepth 100000 in
theorem rest_any (v0 v1 v2 v3 v4 : Value) (w : World) : Calls Try.prog 49 #[.agg #[v0, v1, v2, v3, v4]] w fun e w' =>
    e = .returned (.func (.func 78) #[] #[.pointer (some ⟨w.heap.size, 0, none⟩)]) ∧ w' = w.alloc (.cells #[v0, v1, v2, v3, v4] 83) := by
  go_enter Try.func49, Try.ntmps49
  go_wp2_with fail
  go_ret
  exact ⟨rfl, rfl⟩

theorem RsAt.chg' {S : Nat → Prop} {w w' : World} {A : Option Addr} {rs : List Rn} (h : RsAt w A rs) (hc : Chg S w w') (hS : ∀ a, A = some a → ¬ S a.block) (hR : ∀ r ∈ rs, r.2.2 ≠ [] → ∀ a, r.1 = some a → ¬ S a.block) : RsAt w' A rs := by
  rcases h with h | ⟨b, off, rfl, hb, hh⟩
  · exact .inl h
  · refine .inr ⟨b, off, rfl, Nat.lt_of_lt_of_le hb hc.size, fun i hi => ⟨hc.cell (hh i hi).1 (hS _ rfl), ?_⟩⟩
    by_cases he : rs[i].2.2 = []
    · exact .inl he
    · exact (hh i hi).2.chg hc (hR _ (List.getElem_mem hi) he)
/-- an address that is there and is not one of O -/
def NO (O : Nat → Prop) (W : World) (A : Option Addr) : Prop := ∀ b, A = some b → b.block < W.heap.size ∧ ¬ O b.block
theorem NO.mono {O : Nat → Prop} {W W' : World} {A : Option Addr} (h : NO O W A) (hs : W.heap.size ≤ W'.heap.size) : NO O W' A := fun b e => ⟨Nat.lt_of_lt_of_le (h b e).1 hs, (h b e).2⟩
/-- a reading that lies there, outside of O -/
structure RdN (O : Nat → Prop) (W : World) (A K L R : Option Addr) (rs : List Rn) (a : List Int) : Prop where
  ok : RdOk W A K L R rs a
  na : NO O W A
  nk : NO O W K
  nl : NO O W L
  nr : NO O W R
  ns : ∀ r ∈ rs, r.2.2 ≠ [] → NO O W r.1
theorem RdN.below {O : Nat → Prop} {B : Nat} {W W' : World} {A K L R : Option Addr} {rs : List Rn} {a : List Int} (h : RdN O W A K L R rs a) (hb : Below B W W') (hB : W.heap.size ≤ B) : RdN O W' A K L R rs a :=
  ⟨h.ok.below hb hB, h.na.mono hb.size, h.nk.mono hb.size, h.nl.mono hb.size, h.nr.mono hb.size, fun r hr he => (h.ns r hr he).mono hb.size⟩
theorem RdN.sub {O O' : Nat → Prop} {W : World} {A K L R : Option Addr} {rs : List Rn} {a : List Int} (h : RdN O W A K L R rs a) (hO : ∀ k, O' k → O k) : RdN O' W A K L R rs a :=
  ⟨h.ok, fun b e => ⟨(h.na b e).1, fun g => (h.na b e).2 (hO _ g)⟩, fun b e => ⟨(h.nk b e).1, fun g => (h.nk b e).2 (hO _ g)⟩, fun b e => ⟨(h.nl b e).1, fun g => (h.nl b e).2 (hO _ g)⟩, fun b e => ⟨(h.nr b e).1, fun g => (h.nr b e).2 (hO _ g)⟩, fun r hr he b e => ⟨(h.ns r hr he b e).1, fun g => (h.ns r hr he b e).2 (hO _ g)⟩⟩
/-- what a round may do -/
def Kpt (Own : World → Nat → Prop) (A B : World) : Prop := Chg (Own A) A B ∧ ∀ k, k < A.heap.size → ¬ Own A k → ¬ Own B k
theorem Kpt.refl {Own : World → Nat → Prop} (A : World) : Kpt Own A A := ⟨Chg.refl _, fun _ _ h => h⟩
theorem Kpt.trans {Own : World → Nat → Prop} {A B C : World} (h : Kpt Own A B) (g : Kpt Own B C) : Kpt Own A C :=
  ⟨⟨g.1.os.trans h.1.os, g.1.tape.trans h.1.tape, g.1.output.trans h.1.output, Nat.le_trans h.1.size g.1.size, fun k hk hn => (g.1.block k (Nat.lt_of_lt_of_le hk h.1.size) (h.2 k hk hn)).trans (h.1.block k hk hn)⟩,
    fun k hk hn => g.2 k (Nat.lt_of_lt_of_le hk h.1.size) (h.2 k hk hn)⟩
theorem NO.kept {O : Nat → Prop} {Own : World → Nat → Prop} {W W' : World} {A : Option Addr} (h : NO O W A) (hO : ∀ k, Own W k → O k) (hk : Kpt Own W W') : NO (Own W') W' A :=
  fun b e => ⟨Nat.lt_of_lt_of_le (h b e).1 hk.1.size, hk.2 _ (h b e).1 (fun g => (h b e).2 (hO _ g))⟩
theorem RdN.kept {O : Nat → Prop} {Own : World → Nat → Prop} {W W' : World} {A K L R : Option Addr} {rs : List Rn} {a : List Int} (h : RdN O W A K L R rs a) (hO : ∀ k, Own W k → O k) (hk : Kpt Own W W') : RdN (Own W') W' A K L R rs a :=
  ⟨⟨h.ok.ats.chg hk.1 (fun b e g => (h.na b e).2 (hO _ g)), h.ok.keys.chg hk.1 (fun b e g => (h.nk b e).2 (hO _ g)), h.ok.lose.chg hk.1 (fun b e g => (h.nl b e).2 (hO _ g)),
    h.ok.runs.chg' hk.1 (fun b e g => (h.nr b e).2 (hO _ g)) (fun r hr he b e g => (h.ns r hr he b e).2 (hO _ g))⟩,
   h.na.kept hO hk, h.nk.kept hO hk, h.nl.kept hO hk, h.nr.kept hO hk, fun r hr he => (h.ns r hr he).kept hO hk⟩
def nxtV (x : St) : Value := .agg #[.string x.1.1, .string x.1.2.1, .bool x.1.2.2.1, .int .i64 x.1.2.2.2, .int .i64 (x.2.1 : Int)]
/-- how an entry and the place behind it are handed over -/
def encR (n : Nat) (R : Option Addr) (cr : Nat) (rs : List Rn) (Own : World → Nat → Prop) (x : St) (vs : Array Value) (W : World) : Prop :=
  ∃ (A K L : Option Addr) (ca ck cl : Nat), vs = #[nxtV x, .agg #[.slice A n ca, .slice K n ck, .slice L n cl, .int .i64 (winA (ess rs) x.2.2 : Nat), .slice R n cr]] ∧ RdN (Own W) W A K L R rs x.2.2 ∧ Gd (ess rs) x.2.2
/-- what a round answers -/
def RsY (n' l n : Nat) (R : Option Addr) (cr : Nat) (rs : List Rn) (S : List St) (Own : World → Nat → Prop) (J Jx : List St → World → Prop) : Prop :=
  ∀ pre x vs W1, J pre W1 → (pre ++ [x]) <+: S → encR n R cr rs Own x vs W1 → YieldAt Fence.wide (n' - 1) Try.prog l vs W1 fun e W' => (e = .returned (.bool true) ∧ J (pre ++ [x]) W' ∧ Kpt Own W1 W') ∨ (e = .returned (.bool false) ∧ Jx (pre ++ [x]) W')
/-- the iterator between two rounds -/
def RestR (n : Nat) (R : Option Addr) (cr : Nat) (rs : List Rn) (S : List St) (Own : World → Nat → Prop) (J : List St → World → Prop) (m : Nat) (p3 : Value) (wr : World) : Prop :=
  ∃ (pre : List St) (a : List Int) (Wj : World) (B : Nat) (A K L : Option Addr) (ca ck cl : Nat), p3 = .pointer (some ⟨B, 0, none⟩) ∧ Hid (S = pre ++ mS (ess rs) a ∧ Gd (ess rs) a ∧ left (ess rs) a = m ∧ J pre Wj ∧ Below Wj.heap.size Wj wr ∧ Wj.heap.size ≤ B ∧
    Rw5 wr B 83 (.slice A n ca) (.slice K n ck) (.slice L n cl) (.int .i64 (winA (ess rs) a : Nat)) (.slice R n cr) ∧ RdN (Own Wj) Wj A K L R rs a)
set_option maxRecDepth 100000 in
set_option maxHeartbeats 8000000 in
theorem rest1_any (n' l Bx n : Nat) (A0 K0 L0 R : Option Addr) (ca ck cl cr : Nat) (rs : List Rn) (a0 : List Int) (w : World) (hn : rs.length = n) (hg0 : Gd (ess rs) a0) (hsr : SizedR rs)
    (Own : World → Nat → Prop) (J Jx : List St → World → Prop) (hJ : ∀ pre A A', J pre A → Below A.heap.size A A' → J pre A')
    (hOb : ∀ pre A, J pre A → ∀ k, Own A k → k < A.heap.size) (hOs : ∀ pre A A', J pre A → Below A.heap.size A A' → ∀ k, Own A' k → Own A k)
    (hY : RsY n' l n R cr rs (mS (ess rs) a0) Own J Jx) (h0 : J [] w) (hbx : Rw5 w Bx 83 (.slice A0 n ca) (.slice K0 n ck) (.slice L0 n cl) (.int .i64 (winA (ess rs) a0 : Nat)) (.slice R n cr)) (hrd : RdN (Own w) w A0 K0 L0 R rs a0) :
    CallsIn Fence.wide n' Try.prog 78 #[.func (.yield l) #[] #[], .pointer (some ⟨Bx, 0, none⟩)] w fun e W' => (∃ v, e = .returned v) ∧ (J (mS (ess rs) a0) W' ∨ ∃ pre, pre <+: mS (ess rs) a0 ∧ Jx pre W') := by
  have HJ := Lib.hid hJ
  have HOB := Lib.hid hOb
  have HOS := Lib.hid hOs
  have HSR := Lib.hid hsr
  have HN := Lib.hid hn
  have h1 := hg0.len1
  rw [hn] at h1
  have HSTART : Hid (RestR n R cr rs (mS (ess rs) a0) Own J (left (ess rs) a0) (.pointer (some ⟨w.heap.size, 0, none⟩)) (w.alloc (.cells #[.slice A0 n ca, .slice K0 n ck, .slice L0 n cl, .int .i64 (winA (ess rs) a0 : Nat), .slice R n cr] 83))) :=
    Lib.hid ⟨[], a0, w, w.heap.size, A0, K0, L0, ca, ck, cl, rfl, Lib.hid ⟨rfl, hg0, rfl, h0, alloc_below _ _, Nat.le_refl _, heap_alloc_new _ _, hrd⟩⟩
  have x0 := hbx.c0
  have x1 := hbx.c1
  have x2 := hbx.c2
  have x3 := hbx.c3
  have x4 := hbx.c4
  have HY := Lib.hid hY
  clear hJ hOb hOs hY h0 hbx hrd hg0 hsr hn
  generalize mS (ess rs) a0 = S at *
  generalize left (ess rs) a0 = m00 at *
  generalize winA (ess rs) a0 = p0 at *
  refine callsIn_of_wp Try.func78 rfl trivial ?_ rfl
  simp only [Try.ntmps78, List.size_toArray, List.length_cons, List.length_nil, Nat.reduceAdd, Nat.reduceSub, Array.replicate_succ, Array.replicate_zero, List.push_toArray, List.append_toArray, List.nil_append, List.cons_append]
  gi_wp2_with fail
  gi_loopw [3, 4] (fun p3 _ wr => ∃ m, RestR n R cr rs S Own J m p3 wr) (fun p3 _ wr => leastOf (fun m => RestR n R cr rs S Own J m p3 wr))
  case atStart => exact ⟨_, HSTART.out⟩
  case round =>
    clear x0 x1 x2 x3 x4 HSTART
    have hls := (leastOf_spec hrel).1
    obtain ⟨m0, hm0⟩ : ∃ m0, leastOf (fun m => RestR n R cr rs S Own J m u3 wr) = m0 := ⟨_, rfl⟩
    rw [hm0] at hls
    have HM0 := Lib.hid hm0
    clear hm0 hrel
    obtain ⟨pre, a, Wj, B, A, K, L, ca, ck, cl, rfl, HH⟩ := hls
    obtain ⟨hS, hg, hm, hj, hbj, hBj, hrow, hrd⟩ := HH.out
    have HSS := Lib.hid hS
    have HG := Lib.hid hg
    have HML := Lib.hid hm
    have HJJ := Lib.hid hj
    have HB0 := Lib.hid hbj
    have HBJ := Lib.hid hBj
    have HRW := Lib.hid hrow
    have HRJ := Lib.hid hrd
    have HRD := Lib.hid (hrd.below hbj (Nat.le_refl _))
    have x0 := hrow.c0
    have x1 := hrow.c1
    have x2 := hrow.c2
    have x3 := hrow.c3
    have x4 := hrow.c4
    have JD := Lib.hid (isDone_any A K L R n ca ck cl cr rs a wr HN.out hg HRD.out.ok)
    clear hS hg hm hj hbj hBj hrow hrd HH
    cases hd : doneB (ess rs) a with
    | true =>
      rw [hd] at JD
      have HE : Hid (S = pre) := Lib.hid (by rw [HSS.out, mS_done hd, List.append_nil])
      clear hd
      generalize winA (ess rs) a = p at *
      gi_wp2_with fail
      refine ⟨trivial, (fun h => by cases h), ?_⟩
      refine (callsIn_wide.2 JD.out).mono ?_
      rintro e w1 ⟨rfl, hb⟩
      have HJ1 := Lib.hid (HJ.out _ _ _ HJJ.out (eb_of HB0.out hb (Nat.le_refl _)))
      clear hb x0 x1 x2 x3 x4
      gi_wp2_with fail
      go_end0
      exact ⟨⟨_, rfl⟩, .inl (by rw [HE.out]; exact HJ1.out)⟩
    | false =>
    rw [hd] at JD
    have HD := Lib.hid hd
    have JF := Lib.hid (fun w' (hb : Below wr.heap.size wr w') => first_any A K L R n ca ck cl cr rs a w' HN.out HG.out HD.out (HRD.out.ok.below hb (Nat.le_refl _)))
    have HST := Lib.hid (HG.out.step hd)
    have HNX := Lib.hid (HG.out.next hd)
    have HLF := Lib.hid (HG.out.left hd)
    clear hd
    obtain ⟨p, hp⟩ : ∃ p, winA (ess rs) a = p := ⟨_, rfl⟩
    obtain ⟨x, hx⟩ : ∃ x, entA (ess rs) a = x := ⟨_, rfl⟩
    have hpn : p < n := by have := HG.out.win; rw [ess_len, HN.out, hp] at this; exact this
    have HP := Lib.hid hp
    have HX := Lib.hid hx
    rw [hp, hx] at JF
    rw [hp] at JD HRW x3
    clear hp hx
    gi_wp2_with fail
    refine ⟨trivial, (fun h => by cases h), ?_⟩
    refine (callsIn_wide.2 JD.out).mono ?_
    rintro e w1 ⟨rfl, hb⟩
    have HR1 := Lib.hid (HRW.out.below hb (Nat.le_refl _))
    have HB1 := Lib.hid hb
    clear hb x0 x1 x2 x3 x4 JD
    have x0 := HR1.out.c0
    have x1 := HR1.out.c1
    have x2 := HR1.out.c2
    have x3 := HR1.out.c3
    have x4 := HR1.out.c4
    gi_wp2_with fail
    refine ⟨trivial, (fun h => by cases h), ?_⟩
    refine (callsIn_wide.2 (JF.out _ HB1.out)).mono ?_
    rintro e w2 ⟨rfl, hb⟩
    obtain ⟨w3, hw3⟩ : ∃ w3, w3 = w2.alloc (.cells #[.string x.1, .string x.2.1, .bool x.2.2.1, .int .i64 x.2.2.2, .int .i64 (p : Int)] 91) := ⟨_, rfl⟩
    have hb3 : Below w2.heap.size w2 w3 := hw3 ▸ alloc_below _ _
    have hb13 := eb_of hb hb3 (Nat.le_refl _)
    have HR3 := Lib.hid (HR1.out.below hb13 (Nat.le_refl _))
    have HN3 : Hid (Rw5 w3 w2.heap.size 91 (.string x.1) (.string x.2.1) (.bool x.2.2.1) (.int .i64 x.2.2.2) (.int .i64 (p : Int))) := Lib.hid (hw3 ▸ heap_alloc_new w2 _)
    have HBr3 := Lib.hid (eb_of HB1.out hb13 (Nat.le_refl _))
    have HRD3 := Lib.hid (HRD.out.below HBr3.out (Nat.le_refl _))
    have HBj3 := Lib.hid (eb_of HB0.out HBr3.out (Nat.le_refl _))
    have hB2 : B < w2.heap.size := Nat.lt_of_lt_of_le HR1.out.lt hb.size
    clear hb hb3 hb13 HR1 HB1 HBr3 HRD HRW HB0 x0 x1 x2 x3 x4 JF
    gi_wp2_with fail
    rw [← hw3]
    clear hw3
    refine wpIn_wide.2 ?_
    obtain ⟨hra, hrk, hrl, hrr⟩ := HRD3.out.ok
    have hlen := HG.out.at_.1
    rw [ess_len, HN.out] at hlen
    rcases hra with h0 | ⟨b1, o1, rfl, hbl1, hc1⟩
    · rw [h0] at hlen; simp at hlen; omega
    rcases hrr with h0 | ⟨b2, o2, rfl, hbl2, hc2⟩
    · have := HN.out; rw [h0] at this; simp at this; omega
    have hpr : p < rs.length := by rw [HN.out]; exact hpn
    have a1 := hc1 p (by rw [hlen]; exact hpn)
    have hii := HG.out.int (i := p) (by rw [ess_len]; exact hpr) (by rw [hlen]; exact hpn)
    rw [hii] at a1
    obtain ⟨a2, a3⟩ := hc2 p hpr
    have hcs := HSR.out _ (List.getElem_mem hpr)
    have hlt := HG.out.lt HD.out
    rw [HP.out] at hlt
    have hxa : xsA (ess rs) p = rs[p].2.2 := by rw [xsA_eq (by rw [ess_len]; exact hpr), ess_get hpr]
    rw [hxa] at hlt
    have JN := Lib.hid (fun w' (hb : Below w3.heap.size w3 w') => by
      have K := nextKey_any rs[p].1 rs[p].2.1 rs[p].2.2 (aA a p + 1) (by omega) w' (a3.below hb (Nat.le_refl _)) hcs.1
      rw [show (((aA a p + 1 : Nat)) : Int) = ((aA a p : Nat) : Int) + 1 by omega] at K
      exact K)
    obtain ⟨kk, hkk⟩ : ∃ kk, nk rs[p].2.2 (aA a p + 1) = kk := ⟨_, rfl⟩
    have hkd : nk (xsA (ess rs) (winA (ess rs) a)) (aA a (winA (ess rs) a) + 1) = (kk.1, kk.2) := by rw [HP.out, hxa, hkk]
    rw [hkk] at JN
    have JM := Lib.hid (fun w' (hb : Below w3.heap.size w3 w') => by
      have K := move_any (some ⟨b1, o1, none⟩) K L n ca ck cl rs a w' HN.out HG.out HD.out (HRD3.out.ok.ats.below hb (Nat.le_refl _)) (hrk.below hb (Nat.le_refl _)) (hrl.below hb (Nat.le_refl _)) kk.1 kk.2 hkd
      rw [HP.out] at K; exact K)
    have hva : aA a p ≤ 5000 := by
      have := (list_ok (HG.out.list (i := p) (by rw [ess_len]; exact hpr))).1
      rw [hxa] at this; omega
    clear hkd hkk hii hlt hxa hcs hc1 hc2 hrk hrl a3 hlen
    generalize rs[p].1 = A1 at *
    generalize rs[p].2.1 = d1 at *
    generalize rs[p].2.2.length = m1 at *
    obtain ⟨v, hv⟩ : ∃ v, aA a p = v := ⟨_, rfl⟩
    rw [hv] at a1 JN hva
    clear hv hpr
    have HS : Hid (∀ w', Below w3.heap.size w3 w' → w'.cell? ⟨B, 4, none⟩ = some (.slice (some ⟨b2, o2, none⟩) n cr) ∧ w'.cell? ⟨w2.heap.size, 4, none⟩ = some (.int .i64 (p : Int)) ∧ w'.cell? ⟨b1, o1 + p, none⟩ = some (.int .i64 (v : Int)) ∧ w'.cell? ⟨b2, o2 + p, none⟩ = some (.slice A1 m1 d1)) := Lib.hid (fun w' h => by
      have r := HR3.out.below h (Nat.le_refl _)
      have q := HN3.out.below h (Nat.le_refl _)
      exact ⟨r.c4, q.c4, (h.cell (p := ⟨b1, o1 + p, none⟩) hbl1).trans a1, (h.cell (p := ⟨b2, o2 + p, none⟩) hbl2).trans a2⟩)
    have HNB : Hid (b1 ≠ B ∧ b2 ≠ B ∧ w2.heap.size ≠ B) := Lib.hid (by
      have h1 := (HRJ.out.na _ rfl).1
      have h2 := (HRJ.out.nr _ rfl).1
      have h3 := HBJ.out
      simp only at h1 h2
      exact ⟨by omega, by omega, by omega⟩)
    have HS2 : Hid (∀ w1 (v0 v1 v2 v3 : Value), Below w3.heap.size w3 w1 → (((((w1.setCell ⟨B, 0, none⟩ v0).setCell ⟨B, 1, none⟩ v1).setCell ⟨B, 2, none⟩ v2).setCell ⟨B, 3, none⟩ v3)).cell? ⟨B, 4, none⟩ = some (.slice (some ⟨b2, o2, none⟩) n cr) ∧ (((((w1.setCell ⟨B, 0, none⟩ v0).setCell ⟨B, 1, none⟩ v1).setCell ⟨B, 2, none⟩ v2).setCell ⟨B, 3, none⟩ v3)).cell? ⟨w2.heap.size, 4, none⟩ = some (.int .i64 (p : Int)) ∧ (((((w1.setCell ⟨B, 0, none⟩ v0).setCell ⟨B, 1, none⟩ v1).setCell ⟨B, 2, none⟩ v2).setCell ⟨B, 3, none⟩ v3)).cell? ⟨b1, o1 + p, none⟩ = some (.int .i64 (v : Int)) ∧ (((((w1.setCell ⟨B, 0, none⟩ v0).setCell ⟨B, 1, none⟩ v1).setCell ⟨B, 2, none⟩ v2).setCell ⟨B, 3, none⟩ v3)).cell? ⟨b2, o2 + p, none⟩ = some (.slice A1 m1 d1)) := Lib.hid (fun w1 v0 v1 v2 v3 h => by
      obtain ⟨s1, s2, s3, s4⟩ := HS.out w1 h
      obtain ⟨n1, n2, n3⟩ := HNB.out
      have hc := set4C w1 B v0 v1 v2 v3
      exact ⟨((HR3.out.below h (Nat.le_refl _)).set4 v0 v1 v2 v3).c4, hc.cell s2 n3, hc.cell s3 n1, hc.cell s4 n2⟩)
    clear a1 a2 hbl1 hbl2
    have y0 := HR3.out.c0
    have y1 := HR3.out.c1
    have y2 := HR3.out.c2
    have y3 := HR3.out.c3
    have HFF := Lib.hid (Below.refl w3.heap.size w3)
    have HFZ : Hid (∀ w', Below w3.heap.size w3 w' → Rw5 w' B 83 (.slice (some ⟨b1, o1, none⟩) n ca) (.slice K n ck) (.slice L n cl) (.int .i64 (p : Int)) (.slice (some ⟨b2, o2, none⟩) n cr)) := Lib.hid (fun w' h => HR3.out.below h (Nat.le_refl _))
    have l0 : (0 : Int) ≤ (p : Int) := by omega
    have l1 : (p : Int) < (n : Int) := by omega
    have hwr : IntKind.i64.wrap ((v : Int) + 1) = (v : Int) + 1 := IntWalk.i64_in _ (by omega)
    have HJ3 := Lib.hid (HJ.out _ _ _ HJJ.out HBj3.out)
    have hBw3 : B < w3.heap.size := HR3.out.lt
    have HRR : Hid (∀ w', Below Wj.heap.size Wj w' → ∀ F, Chg (fun k => k = B) w' F → RsAt F (some ⟨b2, o2, none⟩) rs) := Lib.hid (fun w' h F hF => by
      have hq := HRJ.out
      have hBW := HBJ.out
      refine (hq.ok.runs.below h (Nat.le_refl _)).chg' hF (fun b e g => ?_) (fun r hr he b e g => ?_)
      · have := (hq.nr b e).1; omega
      · have := (hq.ns r hr he b e).1; omega)
    clear HR3 HRD3
    refine wp_region_noPanic ?_
    refine wp_region_held_drew (S := fun w' => w'.cell? ⟨B, 4, none⟩ = some (.slice (some ⟨b2, o2, none⟩) n cr) ∧ w'.cell? ⟨w2.heap.size, 4, none⟩ = some (.int .i64 (p : Int)) ∧ w'.cell? ⟨b1, o1 + p, none⟩ = some (.int .i64 (v : Int)) ∧ w'.cell? ⟨b2, o2 + p, none⟩ = some (.slice A1 m1 d1)) (by kernel_rfl) ?_ (fun hHeld => ?_)
    · (try dsimp only)
      first | (refine HS.out _ ?_; first | with_reducible assumption | with_reducible exact HFF.out | with_reducible exact bD HFF.out) | (refine HS2.out _ _ _ _ _ ?_; with_reducible assumption)
    refine wpAnyH_take (i := 0) (oi := _) (v := ?_) rfl (by kernel_rfl) (by kernel_rfl) (by kernel_rfl) (fun _ _ _ h => h) (Or.inl ⟨by rfl, ?_⟩) (by assumption) ?_
    rotate_left
    · intro w hSw
      try dsimp only at hSw
      go_simp
      try with_reducible rfl
    (try simp only [Act.put, List.setIfInBounds_toArray, List.set_cons_zero, List.set_cons_succ])
    refine wpAnyH_take (i := 2) (oi := _) (v := ?_) rfl (by kernel_rfl) (by kernel_rfl) (by kernel_rfl) (fun _ _ _ h => h) (Or.inl ⟨by rfl, ?_⟩) (by assumption) ?_
    rotate_left
    · intro w hSw
      try dsimp only at hSw
      go_simp
      try with_reducible rfl
    (try simp only [Act.put, List.setIfInBounds_toArray, List.set_cons_zero, List.set_cons_succ])
    refine wpAnyH_take (i := 3) (oi := _) (v := ?_) rfl (by kernel_rfl) (by kernel_rfl) (by kernel_rfl) (fun _ _ _ h => h) (Or.inl ⟨by rfl, ?_⟩) (by assumption) ?_
    rotate_left
    · intro w hSw
      try dsimp only at hSw
      go_simp
      try with_reducible rfl
    (try simp only [Act.put, List.setIfInBounds_toArray, List.set_cons_zero, List.set_cons_succ])
    refine wpAnyH_take (i := 4) (oi := _) (v := ?_) rfl (by kernel_rfl) (by kernel_rfl) (by kernel_rfl) (fun _ _ _ h => h) (Or.inl ⟨by rfl, ?_⟩) (by assumption) ?_
    rotate_left
    · intro w hSw
      try dsimp only at hSw
      go_simp
      try with_reducible rfl
    (try simp only [Act.put, List.setIfInBounds_toArray, List.set_cons_zero, List.set_cons_succ])
    refine wpAnyH_take (i := 5) (oi := _) (v := ?_) rfl (by kernel_rfl) (by kernel_rfl) (by kernel_rfl) (fun _ _ _ h => h) (Or.inl ⟨by rfl, ?_⟩) (by assumption) ?_
    rotate_left
    · intro w hSw
      try dsimp only at hSw
      go_simp
      try with_reducible rfl
    (try simp only [Act.put, List.setIfInBounds_toArray, List.set_cons_zero, List.set_cons_succ])
    refine wpAnyH_take (i := 6) (oi := _) (v := ?_) rfl (by kernel_rfl) (by kernel_rfl) (by kernel_rfl) (fun _ _ _ h => h) (Or.inl ⟨by rfl, ?_⟩) (by assumption) ?_
    rotate_left
    · intro w hSw
      try dsimp only at hSw
      go_simp
      try with_reducible rfl
    (try simp only [Act.put, List.setIfInBounds_toArray, List.set_cons_zero, List.set_cons_succ])
    refine wpAnyH_take (i := 7) (oi := _) (v := ?_) rfl (by kernel_rfl) (by kernel_rfl) (by kernel_rfl) (fun _ _ _ h => h) (Or.inl ⟨by rfl, ?_⟩) (by assumption) ?_
    rotate_left
    · intro w hSw
      try dsimp only at hSw
      go_simp
      try with_reducible rfl
    (try simp only [Act.put, List.setIfInBounds_toArray, List.set_cons_zero, List.set_cons_succ])
    refine wpAnyH_take (i := 8) (oi := _) (v := ?_) rfl (by kernel_rfl) (by kernel_rfl) (by kernel_rfl) (fun _ _ _ h => h) (Or.inl ⟨by rfl, ?_⟩) (by assumption) ?_
    rotate_left
    · intro w hSw
      try dsimp only at hSw
      go_simp
      try with_reducible rfl
    (try simp only [Act.put, List.setIfInBounds_toArray, List.set_cons_zero, List.set_cons_succ])
    refine wpAnyH_take (i := 9) (oi := _) (v := ?_) rfl (by kernel_rfl) (by kernel_rfl) (by kernel_rfl) (fun _ _ _ h => h) (Or.inl ⟨by rfl, ?_⟩) (by assumption) ?_
    rotate_left
    · intro w hSw
      try dsimp only at hSw
      go_simp
      try with_reducible rfl
    (try simp only [Act.put, List.setIfInBounds_toArray, List.set_cons_zero, List.set_cons_succ])
    refine wpAnyH_take (i := 11) (oi := _) (v := ?_) rfl (by kernel_rfl) (by kernel_rfl) (by kernel_rfl) (fun _ _ _ h => h) (Or.inl ⟨by rfl, ?_⟩) (by assumption) ?_
    rotate_left
    · intro w hSw
      try dsimp only at hSw
      go_simp
      try with_reducible rfl
    (try simp only [Act.put, List.setIfInBounds_toArray, List.set_cons_zero, List.set_cons_succ])
    refine wpAnyH_take (i := 12) (oi := _) (v := ?_) rfl (by kernel_rfl) (by kernel_rfl) (by kernel_rfl) (fun _ _ _ h => h) (Or.inl ⟨by rfl, ?_⟩) (by assumption) ?_
    rotate_left
    · intro w hSw
      try dsimp only at hSw
      go_simp
      try with_reducible rfl
    (try simp only [Act.put, List.setIfInBounds_toArray, List.set_cons_zero, List.set_cons_succ])
    refine wpAnyH_ready (rs := [1, 10]) (by kernel_rfl) (by simp) ?_
    refine AllReadyH.cons (o := _) rfl (fun K hK => ?_) ?_
    · go_simp
      refine hK.out _ _ ?_ (fun hHeld => ?_)
      · (try dsimp only)
        first | (refine HS.out _ ?_; first | with_reducible assumption | with_reducible exact HFF.out | with_reducible exact bD HFF.out) | (refine HS2.out _ _ _ _ _ ?_; with_reducible assumption)
      clear hK K
      (try simp only [Act.put, List.setIfInBounds_toArray, List.set_cons_zero, List.set_cons_succ])
      refine wpAnyH_ready (rs := [10]) (by kernel_rfl) (by simp) ?_
      refine AllReadyH.cons (o := _) rfl (fun K hK => ?_) ?_
      rotate_left
      · exact AllReadyH.nil
      go_simp
      refine hK.out _ _ ?_ (fun hHeld => ?_)
      · (try dsimp only)
        first | (refine HS.out _ ?_; first | with_reducible assumption | with_reducible exact HFF.out | with_reducible exact bD HFF.out) | (refine HS2.out _ _ _ _ _ ?_; with_reducible assumption)
      clear hK K
      (try simp only [Act.put, List.setIfInBounds_toArray, List.set_cons_zero, List.set_cons_succ])
      refine wpAnyH_take (i := 13) (oi := _) (v := ?_) rfl (by kernel_rfl) (by kernel_rfl) (by kernel_rfl) (fun _ _ _ h => h) (Or.inl ⟨by rfl, ?_⟩) (by assumption) ?_
      rotate_left
      · intro w hSw
        try dsimp only at hSw
        go_simp
        try with_reducible rfl
      (try simp only [Act.put, List.setIfInBounds_toArray, List.set_cons_zero, List.set_cons_succ])
      refine wpAnyH_take (i := 14) (oi := _) (v := ?_) rfl (by kernel_rfl) (by kernel_rfl) (by kernel_rfl) (fun _ _ _ h => h) (Or.inl ⟨by rfl, ?_⟩) (by assumption) ?_
      rotate_left
      · intro w hSw
        try dsimp only at hSw
        go_simp
        try with_reducible rfl
      (try simp only [Act.put, List.setIfInBounds_toArray, List.set_cons_zero, List.set_cons_succ])
      refine wpAnyH_take (i := 15) (oi := _) (v := ?_) rfl (by kernel_rfl) (by kernel_rfl) (by kernel_rfl) (fun _ _ _ h => h) (Or.inl ⟨by rfl, ?_⟩) (by assumption) ?_
      rotate_left
      · intro w hSw
        try dsimp only at hSw
        go_simp
        try with_reducible rfl
      (try simp only [Act.put, List.setIfInBounds_toArray, List.set_cons_zero, List.set_cons_succ])
      refine wpAnyH_ready (rs := [16]) (by kernel_rfl) (by simp) ?_
      refine AllReadyH.cons (o := _) rfl (fun K hK => ?_) ?_
      rotate_left
      · exact AllReadyH.nil
      go_simp
      go_at_call 82
      refine (JN.out _ (by first | with_reducible assumption | with_reducible exact HFF.out | with_reducible exact bD HFF.out)).mono ?_
      rintro e w5 ⟨rfl, hb⟩
      have hbW5 : Below w3.heap.size w3 w5 := eb_of (by first | with_reducible assumption | with_reducible exact HFF.out | with_reducible exact bD HFF.out) hb (Nat.le_refl _)
      have r5 := HFZ.out w5 hbW5
      have y0 := r5.c0
      have y1 := r5.c1
      have y2 := r5.c2
      have y3 := r5.c3
      clear hb r5
      (try go_wp2_with fail)
      refine hK.out _ _ ?_ (fun hHeld => ?_)
      · (try dsimp only)
        first | (refine HS.out _ ?_; first | with_reducible assumption | with_reducible exact HFF.out | with_reducible exact bD HFF.out) | (refine HS2.out _ _ _ _ _ ?_; with_reducible assumption)
      clear hK K
      (try simp only [Act.put, List.setIfInBounds_toArray, List.set_cons_zero, List.set_cons_succ])
      refine wpAnyH_ready (rs := [17]) (by kernel_rfl) (by simp) ?_
      refine AllReadyH.cons (o := _) rfl (fun K hK => ?_) ?_
      rotate_left
      · exact AllReadyH.nil
      go_simp
      go_at_call 81
      refine (JM.out _ (by first | with_reducible assumption | with_reducible exact HFF.out | with_reducible exact bD HFF.out)).mono ?_
      rintro e w6 ⟨ab, kb, lb, ca2, ck2, cl2, rfl, hia, hik, hil, hab, hkb, hlb, hb⟩
      have hbW6 : Below w3.heap.size w3 w6 := eb_of (by first | with_reducible assumption | with_reducible exact HFF.out | with_reducible exact bD HFF.out) hb (Nat.le_refl _)
      have HIA := Lib.hid hia
      have HIK := Lib.hid hik
      have HIL := Lib.hid hil
      have HAB := Lib.hid (And.intro hab (And.intro hkb hlb))
      have r6 := HFZ.out w6 hbW6
      have k0 := r6.c0
      have k1 := r6.c1
      have k2 := r6.c2
      have k3 := r6.c3
      have z0 := r6.fz 0
      have z1 := r6.fz 1
      have z2 := r6.fz 2
      have z3 := r6.fz 3
      clear hia hik hil hab hkb hlb hb r6
      (try go_wp2_with fail)
      refine hK.out _ _ ?_ (fun hHeld => ?_)
      · (try dsimp only)
        first | (refine HS.out _ ?_; first | with_reducible assumption | with_reducible exact HFF.out | with_reducible exact bD HFF.out) | (refine HS2.out _ _ _ _ _ ?_; with_reducible assumption)
      clear hK K
      (try simp only [Act.put, List.setIfInBounds_toArray, List.set_cons_zero, List.set_cons_succ])
      refine wpAnyH_take (i := 18) (oi := _) (v := ?_) rfl (by kernel_rfl) (by kernel_rfl) (by kernel_rfl) (fun _ _ _ h => h) (Or.inl ⟨by rfl, ?_⟩) (by assumption) ?_
      rotate_left
      · intro w hSw
        try dsimp only at hSw
        go_simp
        try with_reducible rfl
      (try simp only [Act.put, List.setIfInBounds_toArray, List.set_cons_zero, List.set_cons_succ])
      refine wpAnyH_ready (rs := [19]) (by kernel_rfl) (by simp) ?_
      refine AllReadyH.cons (o := _) rfl (fun K hK => ?_) ?_
      rotate_left
      · exact AllReadyH.nil
      go_simp
      refine hK.out _ _ ?_ (fun hHeld => ?_)
      · (try dsimp only)
        first | (refine HS.out _ ?_; first | with_reducible assumption | with_reducible exact HFF.out | with_reducible exact bD HFF.out) | (refine HS2.out _ _ _ _ _ ?_; with_reducible assumption)
      clear hK K
      (try simp only [Act.put, List.setIfInBounds_toArray, List.set_cons_zero, List.set_cons_succ])
      refine wpAnyH_done (by kernel_rfl) ?_ _
      refine NoPanic.normal ?_
      have h6 : Below Wj.heap.size Wj w6 := eb_of HBj3.out hbW6 (Nat.le_refl _)
      obtain ⟨wv, hwv⟩ : ∃ wv, winA (ess rs) (nextA (ess rs) a) = wv := ⟨_, rfl⟩
      have HWV := Lib.hid hwv
      obtain ⟨F, hF⟩ : ∃ F, F = (((w6.setCell ⟨B, 0, none⟩ (.slice (some ⟨ab, 0, none⟩) n ca2)).setCell ⟨B, 1, none⟩ (.slice (some ⟨kb, 0, none⟩) n ck2)).setCell ⟨B, 2, none⟩ (.slice (some ⟨lb, 0, none⟩) n cl2)).setCell ⟨B, 3, none⟩ (.int .i64 (wv : Int)) := ⟨_, rfl⟩
      have hcF : Chg (fun k => k = B) w6 F := hF ▸ set4C w6 B _ _ _ _
      have HROWF : Hid (Rw5 F B 83 (.slice (some ⟨ab, 0, none⟩) n ca2) (.slice (some ⟨kb, 0, none⟩) n ck2) (.slice (some ⟨lb, 0, none⟩) n cl2) (.int .i64 (wv : Int)) (.slice (some ⟨b2, o2, none⟩) n cr)) := Lib.hid (hF ▸ (HFZ.out w6 hbW6).set4 _ _ _ _)
      have HNF := Lib.hid ((HN3.out.below hbW6 (Nat.le_refl _)).chg hcF HNB.out.2.2)
      have hbF : Below Wj.heap.size Wj F := h6.trans (hcF.below (fun k hk => by rw [hk]; exact HBJ.out) h6.size)
      have HJF := Lib.hid (HJ.out _ _ _ HJJ.out hbF)
      have HOF : Hid (∀ k, Own F k → Own Wj k) := Lib.hid (HOS.out _ _ _ HJJ.out hbF)
      have HOJ : Hid (∀ k, Own Wj k → k < Wj.heap.size) := Lib.hid (HOB.out _ _ HJJ.out)
      have HRDF : Hid (RdN (Own Wj) F (some ⟨ab, 0, none⟩) (some ⟨kb, 0, none⟩) (some ⟨lb, 0, none⟩) (some ⟨b2, o2, none⟩) rs (nextA (ess rs) a)) := Lib.hid (by
        obtain ⟨q1, q2, q3⟩ := HAB.out
        have s5 := hbW5.size
        have sF := hcF.size
        have hno : ∀ y, B < y → y < F.heap.size → NO (Own Wj) F (some ⟨y, 0, none⟩) := fun y h1 h2 b e => by
          cases e
          exact ⟨h2, fun g => by have h9 : y < Wj.heap.size := HOJ.out y g; have := HBJ.out; omega⟩
        exact ⟨⟨HIA.out.chg hcF (fun b e => by cases e; simp only; omega), HIK.out.chg hcF (fun b e => by cases e; simp only; omega), HIL.out.chg hcF (fun b e => by cases e; simp only; omega), HRR.out w6 h6 F hcF⟩, hno ab (by omega) (by omega), hno kb (by omega) (by omega), hno lb (by omega) (by omega), HRJ.out.nr.mono hbF.size, fun r hr he => (HRJ.out.ns r hr he).mono hbF.size⟩)
      have hnB : ¬ Own F B := fun g => by have := HOJ.out _ (HOF.out _ g); have := HBJ.out; omega
      have HPRE : Hid (S = (pre ++ [(x, p, nextA (ess rs) a)]) ++ mS (ess rs) (nextA (ess rs) a)) := Lib.hid (by rw [HSS.out, HST.out, HX.out, HP.out]; simp)
      obtain ⟨fn, tmps, assign, body, hy, hR⟩ := HY.out pre (x, p, nextA (ess rs) a) #[nxtV (x, p, nextA (ess rs) a), .agg #[.slice (some ⟨ab, 0, none⟩) n ca2, .slice (some ⟨kb, 0, none⟩) n ck2, .slice (some ⟨lb, 0, none⟩) n cl2, .int .i64 (wv : Int), .slice (some ⟨b2, o2, none⟩) n cr]] F HJF.out ⟨_, HPRE.out.symm⟩ ⟨some ⟨ab, 0, none⟩, some ⟨kb, 0, none⟩, some ⟨lb, 0, none⟩, ca2, ck2, cl2, by rw [HWV.out], HRDF.out.sub HOF.out, HNX.out⟩
      dsimp only [nxtV] at hy
      have f0 := HROWF.out.c0
      have f1 := HROWF.out.c1
      have f2 := HROWF.out.c2
      have f3 := HROWF.out.c3
      have f4 := HROWF.out.c4
      have g0 := HNF.out.c0
      have g1 := HNF.out.c1
      have g2 := HNF.out.c2
      have g3 := HNF.out.c3
      have g4 := HNF.out.c4
      rw [hwv]
      rw [← hF]
      clear hF hwv y0 y1 y2 y3 k0 k1 k2 k3 z0 z1 z2 z3 hcF h6 hbF HS HS2 HFZ HIA HIK HIL HAB HRR hHeld hbW5 hbW6 JN JM
      gi_wp2
      refine ⟨(fun h => by cases h), hR.mono ?_⟩
      rintro e W7 (⟨rfl, hJ7, hK7⟩ | ⟨rfl, hx7⟩)
      · have HRD7 := Lib.hid (HRDF.out.kept HOF.out hK7)
        have hr7 := HROWF.out.chg hK7.1 hnB
        have HNEW : Hid (RestR n (some ⟨b2, o2, none⟩) cr rs S Own J (left (ess rs) (nextA (ess rs) a)) (.pointer (some ⟨W7.heap.size, 0, none⟩)) (W7.alloc (.cells #[.slice (some ⟨ab, 0, none⟩) n ca2, .slice (some ⟨kb, 0, none⟩) n ck2, .slice (some ⟨lb, 0, none⟩) n cl2, .int .i64 (wv : Int), .slice (some ⟨b2, o2, none⟩) n cr] 83))) :=
          Lib.hid ⟨pre ++ [(x, p, nextA (ess rs) a)], nextA (ess rs) a, W7, W7.heap.size, some ⟨ab, 0, none⟩, some ⟨kb, 0, none⟩, some ⟨lb, 0, none⟩, ca2, ck2, cl2, rfl, Lib.hid ⟨HPRE.out, HNX.out, rfl, hJ7, alloc_below _ _, Nat.le_refl _, by rw [HWV.out]; exact heap_alloc_new _ _, HRD7.out⟩⟩
        clear f0 f1 f2 f3 f4 g0 g1 g2 g3 g4 hJ7 hK7 hy hR
        have f0 := hr7.c0
        have f1 := hr7.c1
        have f2 := hr7.c2
        have f3 := hr7.c3
        have f4 := hr7.c4
        clear hr7
        gi_wp2
        go_roundw
        case rel => exact ⟨_, HNEW.out⟩
        case measure => exact Nat.lt_of_le_of_lt ((leastOf_spec ⟨_, HNEW.out⟩).2 _ HNEW.out) (by have h1 := HM0.out; have h2 := HML.out; have h3 := HLF.out; rw [h1]; omega)
      · have HX7 := Lib.hid hx7
        clear hx7 hy hR f0 f1 f2 f3 f4 g0 g1 g2 g3 g4
        gi_wp2
        refine bodyPost_ret (v := .tuple #[]) (by simp [results, Try.f78, go_sem]) rfl ?_
        exact ⟨⟨_, rfl⟩, .inr ⟨_, ⟨_, HPRE.out.symm⟩, HX7.out⟩⟩
    refine AllReadyH.cons (o := _) rfl (fun K hK => ?_) ?_
    rotate_left
    · exact AllReadyH.nil
    go_simp
    refine hK.out _ _ ?_ (fun hHeld => ?_)
    · (try dsimp only)
      first | (refine HS.out _ ?_; first | with_reducible assumption | with_reducible exact HFF.out | with_reducible exact bD HFF.out) | (refine HS2.out _ _ _ _ _ ?_; with_reducible assumption)
    clear hK K
    (try simp only [Act.put, List.setIfInBounds_toArray, List.set_cons_zero, List.set_cons_succ])
    refine wpAnyH_take (i := 13) (oi := _) (v := ?_) rfl (by kernel_rfl) (by kernel_rfl) (by kernel_rfl) (fun _ _ _ h => h) (Or.inl ⟨by rfl, ?_⟩) (by assumption) ?_
    rotate_left
    · intro w hSw
      try dsimp only at hSw
      go_simp
      try with_reducible rfl
    (try simp only [Act.put, List.setIfInBounds_toArray, List.set_cons_zero, List.set_cons_succ])
    refine wpAnyH_take (i := 14) (oi := _) (v := ?_) rfl (by kernel_rfl) (by kernel_rfl) (by kernel_rfl) (fun _ _ _ h => h) (Or.inl ⟨by rfl, ?_⟩) (by assumption) ?_
    rotate_left
    · intro w hSw
      try dsimp only at hSw
      go_simp
      try with_reducible rfl
    (try simp only [Act.put, List.setIfInBounds_toArray, List.set_cons_zero, List.set_cons_succ])
    refine wpAnyH_take (i := 15) (oi := _) (v := ?_) rfl (by kernel_rfl) (by kernel_rfl) (by kernel_rfl) (fun _ _ _ h => h) (Or.inl ⟨by rfl, ?_⟩) (by assumption) ?_
    rotate_left
    · intro w hSw
      try dsimp only at hSw
      go_simp
      try with_reducible rfl
    (try simp only [Act.put, List.setIfInBounds_toArray, List.set_cons_zero, List.set_cons_succ])
    refine wpAnyH_ready (rs := [1, 16]) (by kernel_rfl) (by simp) ?_
    refine AllReadyH.cons (o := _) rfl (fun K hK => ?_) ?_
    · go_simp
      refine hK.out _ _ ?_ (fun hHeld => ?_)
      · (try dsimp only)
        first | (refine HS.out _ ?_; first | with_reducible assumption | with_reducible exact HFF.out | with_reducible exact bD HFF.out) | (refine HS2.out _ _ _ _ _ ?_; with_reducible assumption)
      clear hK K
      (try simp only [Act.put, List.setIfInBounds_toArray, List.set_cons_zero, List.set_cons_succ])
      refine wpAnyH_ready (rs := [16]) (by kernel_rfl) (by simp) ?_
      refine AllReadyH.cons (o := _) rfl (fun K hK => ?_) ?_
      rotate_left
      · exact AllReadyH.nil
      go_simp
      go_at_call 82
      refine (JN.out _ (by first | with_reducible assumption | with_reducible exact HFF.out | with_reducible exact bD HFF.out)).mono ?_
      rintro e w5 ⟨rfl, hb⟩
      have hbW5 : Below w3.heap.size w3 w5 := eb_of (by first | with_reducible assumption | with_reducible exact HFF.out | with_reducible exact bD HFF.out) hb (Nat.le_refl _)
      have r5 := HFZ.out w5 hbW5
      have y0 := r5.c0
      have y1 := r5.c1
      have y2 := r5.c2
      have y3 := r5.c3
      clear hb r5
      (try go_wp2_with fail)
      refine hK.out _ _ ?_ (fun hHeld => ?_)
      · (try dsimp only)
        first | (refine HS.out _ ?_; first | with_reducible assumption | with_reducible exact HFF.out | with_reducible exact bD HFF.out) | (refine HS2.out _ _ _ _ _ ?_; with_reducible assumption)
      clear hK K
      (try simp only [Act.put, List.setIfInBounds_toArray, List.set_cons_zero, List.set_cons_succ])
      refine wpAnyH_ready (rs := [17]) (by kernel_rfl) (by simp) ?_
      refine AllReadyH.cons (o := _) rfl (fun K hK => ?_) ?_
      rotate_left
      · exact AllReadyH.nil
      go_simp
      go_at_call 81
      refine (JM.out _ (by first | with_reducible assumption | with_reducible exact HFF.out | with_reducible exact bD HFF.out)).mono ?_
      rintro e w6 ⟨ab, kb, lb, ca2, ck2, cl2, rfl, hia, hik, hil, hab, hkb, hlb, hb⟩
      have hbW6 : Below w3.heap.size w3 w6 := eb_of (by first | with_reducible assumption | with_reducible exact HFF.out | with_reducible exact bD HFF.out) hb (Nat.le_refl _)
      have HIA := Lib.hid hia
      have HIK := Lib.hid hik
      have HIL := Lib.hid hil
      have HAB := Lib.hid (And.intro hab (And.intro hkb hlb))
      have r6 := HFZ.out w6 hbW6
      have k0 := r6.c0
      have k1 := r6.c1
      have k2 := r6.c2
      have k3 := r6.c3
      have z0 := r6.fz 0
      have z1 := r6.fz 1
      have z2 := r6.fz 2
      have z3 := r6.fz 3
      clear hia hik hil hab hkb hlb hb r6
      (try go_wp2_with fail)
      refine hK.out _ _ ?_ (fun hHeld => ?_)
      · (try dsimp only)
        first | (refine HS.out _ ?_; first | with_reducible assumption | with_reducible exact HFF.out | with_reducible exact bD HFF.out) | (refine HS2.out _ _ _ _ _ ?_; with_reducible assumption)
      clear hK K
      (try simp only [Act.put, List.setIfInBounds_toArray, List.set_cons_zero, List.set_cons_succ])
      refine wpAnyH_take (i := 18) (oi := _) (v := ?_) rfl (by kernel_rfl) (by kernel_rfl) (by kernel_rfl) (fun _ _ _ h => h) (Or.inl ⟨by rfl, ?_⟩) (by assumption) ?_
      rotate_left
      · intro w hSw
        try dsimp only at hSw
        go_simp
        try with_reducible rfl
      (try simp only [Act.put, List.setIfInBounds_toArray, List.set_cons_zero, List.set_cons_succ])
      refine wpAnyH_ready (rs := [19]) (by kernel_rfl) (by simp) ?_
      refine AllReadyH.cons (o := _) rfl (fun K hK => ?_) ?_
      rotate_left
      · exact AllReadyH.nil
      go_simp
      refine hK.out _ _ ?_ (fun hHeld => ?_)
      · (try dsimp only)
        first | (refine HS.out _ ?_; first | with_reducible assumption | with_reducible exact HFF.out | with_reducible exact bD HFF.out) | (refine HS2.out _ _ _ _ _ ?_; with_reducible assumption)
      clear hK K
      (try simp only [Act.put, List.setIfInBounds_toArray, List.set_cons_zero, List.set_cons_succ])
      refine wpAnyH_done (by kernel_rfl) ?_ _
      refine NoPanic.normal ?_
      have h6 : Below Wj.heap.size Wj w6 := eb_of HBj3.out hbW6 (Nat.le_refl _)
      obtain ⟨wv, hwv⟩ : ∃ wv, winA (ess rs) (nextA (ess rs) a) = wv := ⟨_, rfl⟩
      have HWV := Lib.hid hwv
      obtain ⟨F, hF⟩ : ∃ F, F = (((w6.setCell ⟨B, 0, none⟩ (.slice (some ⟨ab, 0, none⟩) n ca2)).setCell ⟨B, 1, none⟩ (.slice (some ⟨kb, 0, none⟩) n ck2)).setCell ⟨B, 2, none⟩ (.slice (some ⟨lb, 0, none⟩) n cl2)).setCell ⟨B, 3, none⟩ (.int .i64 (wv : Int)) := ⟨_, rfl⟩
      have hcF : Chg (fun k => k = B) w6 F := hF ▸ set4C w6 B _ _ _ _
      have HROWF : Hid (Rw5 F B 83 (.slice (some ⟨ab, 0, none⟩) n ca2) (.slice (some ⟨kb, 0, none⟩) n ck2) (.slice (some ⟨lb, 0, none⟩) n cl2) (.int .i64 (wv : Int)) (.slice (some ⟨b2, o2, none⟩) n cr)) := Lib.hid (hF ▸ (HFZ.out w6 hbW6).set4 _ _ _ _)
      have HNF := Lib.hid ((HN3.out.below hbW6 (Nat.le_refl _)).chg hcF HNB.out.2.2)
      have hbF : Below Wj.heap.size Wj F := h6.trans (hcF.below (fun k hk => by rw [hk]; exact HBJ.out) h6.size)
      have HJF := Lib.hid (HJ.out _ _ _ HJJ.out hbF)
      have HOF : Hid (∀ k, Own F k → Own Wj k) := Lib.hid (HOS.out _ _ _ HJJ.out hbF)
      have HOJ : Hid (∀ k, Own Wj k → k < Wj.heap.size) := Lib.hid (HOB.out _ _ HJJ.out)
      have HRDF : Hid (RdN (Own Wj) F (some ⟨ab, 0, none⟩) (some ⟨kb, 0, none⟩) (some ⟨lb, 0, none⟩) (some ⟨b2, o2, none⟩) rs (nextA (ess rs) a)) := Lib.hid (by
        obtain ⟨q1, q2, q3⟩ := HAB.out
        have s5 := hbW5.size
        have sF := hcF.size
        have hno : ∀ y, B < y → y < F.heap.size → NO (Own Wj) F (some ⟨y, 0, none⟩) := fun y h1 h2 b e => by
          cases e
          exact ⟨h2, fun g => by have h9 : y < Wj.heap.size := HOJ.out y g; have := HBJ.out; omega⟩
        exact ⟨⟨HIA.out.chg hcF (fun b e => by cases e; simp only; omega), HIK.out.chg hcF (fun b e => by cases e; simp only; omega), HIL.out.chg hcF (fun b e => by cases e; simp only; omega), HRR.out w6 h6 F hcF⟩, hno ab (by omega) (by omega), hno kb (by omega) (by omega), hno lb (by omega) (by omega), HRJ.out.nr.mono hbF.size, fun r hr he => (HRJ.out.ns r hr he).mono hbF.size⟩)
      have hnB : ¬ Own F B := fun g => by have := HOJ.out _ (HOF.out _ g); have := HBJ.out; omega
      have HPRE : Hid (S = (pre ++ [(x, p, nextA (ess rs) a)]) ++ mS (ess rs) (nextA (ess rs) a)) := Lib.hid (by rw [HSS.out, HST.out, HX.out, HP.out]; simp)
      obtain ⟨fn, tmps, assign, body, hy, hR⟩ := HY.out pre (x, p, nextA (ess rs) a) #[nxtV (x, p, nextA (ess rs) a), .agg #[.slice (some ⟨ab, 0, none⟩) n ca2, .slice (some ⟨kb, 0, none⟩) n ck2, .slice (some ⟨lb, 0, none⟩) n cl2, .int .i64 (wv : Int), .slice (some ⟨b2, o2, none⟩) n cr]] F HJF.out ⟨_, HPRE.out.symm⟩ ⟨some ⟨ab, 0, none⟩, some ⟨kb, 0, none⟩, some ⟨lb, 0, none⟩, ca2, ck2, cl2, by rw [HWV.out], HRDF.out.sub HOF.out, HNX.out⟩
      dsimp only [nxtV] at hy
      have f0 := HROWF.out.c0
      have f1 := HROWF.out.c1
      have f2 := HROWF.out.c2
      have f3 := HROWF.out.c3
      have f4 := HROWF.out.c4
      have g0 := HNF.out.c0
      have g1 := HNF.out.c1
      have g2 := HNF.out.c2
      have g3 := HNF.out.c3
      have g4 := HNF.out.c4
      rw [hwv]
      rw [← hF]
      clear hF hwv y0 y1 y2 y3 k0 k1 k2 k3 z0 z1 z2 z3 hcF h6 hbF HS HS2 HFZ HIA HIK HIL HAB HRR hHeld hbW5 hbW6 JN JM
      gi_wp2
      refine ⟨(fun h => by cases h), hR.mono ?_⟩
      rintro e W7 (⟨rfl, hJ7, hK7⟩ | ⟨rfl, hx7⟩)
      · have HRD7 := Lib.hid (HRDF.out.kept HOF.out hK7)
        have hr7 := HROWF.out.chg hK7.1 hnB
        have HNEW : Hid (RestR n (some ⟨b2, o2, none⟩) cr rs S Own J (left (ess rs) (nextA (ess rs) a)) (.pointer (some ⟨W7.heap.size, 0, none⟩)) (W7.alloc (.cells #[.slice (some ⟨ab, 0, none⟩) n ca2, .slice (some ⟨kb, 0, none⟩) n ck2, .slice (some ⟨lb, 0, none⟩) n cl2, .int .i64 (wv : Int), .slice (some ⟨b2, o2, none⟩) n cr] 83))) :=
          Lib.hid ⟨pre ++ [(x, p, nextA (ess rs) a)], nextA (ess rs) a, W7, W7.heap.size, some ⟨ab, 0, none⟩, some ⟨kb, 0, none⟩, some ⟨lb, 0, none⟩, ca2, ck2, cl2, rfl, Lib.hid ⟨HPRE.out, HNX.out, rfl, hJ7, alloc_below _ _, Nat.le_refl _, by rw [HWV.out]; exact heap_alloc_new _ _, HRD7.out⟩⟩
        clear f0 f1 f2 f3 f4 g0 g1 g2 g3 g4 hJ7 hK7 hy hR
        have f0 := hr7.c0
        have f1 := hr7.c1
        have f2 := hr7.c2
        have f3 := hr7.c3
        have f4 := hr7.c4
        clear hr7
        gi_wp2
        go_roundw
        case rel => exact ⟨_, HNEW.out⟩
        case measure => exact Nat.lt_of_le_of_lt ((leastOf_spec ⟨_, HNEW.out⟩).2 _ HNEW.out) (by have h1 := HM0.out; have h2 := HML.out; have h3 := HLF.out; rw [h1]; omega)
      · have HX7 := Lib.hid hx7
        clear hx7 hy hR f0 f1 f2 f3 f4 g0 g1 g2 g3 g4
        gi_wp2
        refine bodyPost_ret (v := .tuple #[]) (by simp [results, Try.f78, go_sem]) rfl ?_
        exact ⟨⟨_, rfl⟩, .inr ⟨_, ⟨_, HPRE.out.symm⟩, HX7.out⟩⟩
    refine AllReadyH.cons (o := _) rfl (fun K hK => ?_) ?_
    rotate_left
    · exact AllReadyH.nil
    go_simp
    go_at_call 82
    refine (JN.out _ (by first | with_reducible assumption | with_reducible exact HFF.out | with_reducible exact bD HFF.out)).mono ?_
    rintro e w5 ⟨rfl, hb⟩
    have hbW5 : Below w3.heap.size w3 w5 := eb_of (by first | with_reducible assumption | with_reducible exact HFF.out | with_reducible exact bD HFF.out) hb (Nat.le_refl _)
    have r5 := HFZ.out w5 hbW5
    have y0 := r5.c0
    have y1 := r5.c1
    have y2 := r5.c2
    have y3 := r5.c3
    clear hb r5
    (try go_wp2_with fail)
    refine hK.out _ _ ?_ (fun hHeld => ?_)
    · (try dsimp only)
      first | (refine HS.out _ ?_; first | with_reducible assumption | with_reducible exact HFF.out | with_reducible exact bD HFF.out) | (refine HS2.out _ _ _ _ _ ?_; with_reducible assumption)
    clear hK K
    (try simp only [Act.put, List.setIfInBounds_toArray, List.set_cons_zero, List.set_cons_succ])
    refine wpAnyH_ready (rs := [1]) (by kernel_rfl) (by simp) ?_
    refine AllReadyH.cons (o := _) rfl (fun K hK => ?_) ?_
    rotate_left
    · exact AllReadyH.nil
    go_simp
    refine hK.out _ _ ?_ (fun hHeld => ?_)
    · (try dsimp only)
      first | (refine HS.out _ ?_; first | with_reducible assumption | with_reducible exact HFF.out | with_reducible exact bD HFF.out) | (refine HS2.out _ _ _ _ _ ?_; with_reducible assumption)
    clear hK K
    (try simp only [Act.put, List.setIfInBounds_toArray, List.set_cons_zero, List.set_cons_succ])
    refine wpAnyH_ready (rs := [17]) (by kernel_rfl) (by simp) ?_
    refine AllReadyH.cons (o := _) rfl (fun K hK => ?_) ?_
    rotate_left
    · exact AllReadyH.nil
    go_simp
    go_at_call 81
    refine (JM.out _ (by first | with_reducible assumption | with_reducible exact HFF.out | with_reducible exact bD HFF.out)).mono ?_
    rintro e w6 ⟨ab, kb, lb, ca2, ck2, cl2, rfl, hia, hik, hil, hab, hkb, hlb, hb⟩
    have hbW6 : Below w3.heap.size w3 w6 := eb_of (by first | with_reducible assumption | with_reducible exact HFF.out | with_reducible exact bD HFF.out) hb (Nat.le_refl _)
    have HIA := Lib.hid hia
    have HIK := Lib.hid hik
    have HIL := Lib.hid hil
    have HAB := Lib.hid (And.intro hab (And.intro hkb hlb))
    have r6 := HFZ.out w6 hbW6
    have k0 := r6.c0
    have k1 := r6.c1
    have k2 := r6.c2
    have k3 := r6.c3
    have z0 := r6.fz 0
    have z1 := r6.fz 1
    have z2 := r6.fz 2
    have z3 := r6.fz 3
    clear hia hik hil hab hkb hlb hb r6
    (try go_wp2_with fail)
    refine hK.out _ _ ?_ (fun hHeld => ?_)
    · (try dsimp only)
      first | (refine HS.out _ ?_; first | with_reducible assumption | with_reducible exact HFF.out | with_reducible exact bD HFF.out) | (refine HS2.out _ _ _ _ _ ?_; with_reducible assumption)
    clear hK K
    (try simp only [Act.put, List.setIfInBounds_toArray, List.set_cons_zero, List.set_cons_succ])
    refine wpAnyH_take (i := 18) (oi := _) (v := ?_) rfl (by kernel_rfl) (by kernel_rfl) (by kernel_rfl) (fun _ _ _ h => h) (Or.inl ⟨by rfl, ?_⟩) (by assumption) ?_
    rotate_left
    · intro w hSw
      try dsimp only at hSw
      go_simp
      try with_reducible rfl
    (try simp only [Act.put, List.setIfInBounds_toArray, List.set_cons_zero, List.set_cons_succ])
    refine wpAnyH_ready (rs := [19]) (by kernel_rfl) (by simp) ?_
    refine AllReadyH.cons (o := _) rfl (fun K hK => ?_) ?_
    rotate_left
    · exact AllReadyH.nil
    go_simp
    refine hK.out _ _ ?_ (fun hHeld => ?_)
    · (try dsimp only)
      first | (refine HS.out _ ?_; first | with_reducible assumption | with_reducible exact HFF.out | with_reducible exact bD HFF.out) | (refine HS2.out _ _ _ _ _ ?_; with_reducible assumption)
    clear hK K
    (try simp only [Act.put, List.setIfInBounds_toArray, List.set_cons_zero, List.set_cons_succ])
    refine wpAnyH_done (by kernel_rfl) ?_ _
    refine NoPanic.normal ?_
    have h6 : Below Wj.heap.size Wj w6 := eb_of HBj3.out hbW6 (Nat.le_refl _)
    obtain ⟨wv, hwv⟩ : ∃ wv, winA (ess rs) (nextA (ess rs) a) = wv := ⟨_, rfl⟩
    have HWV := Lib.hid hwv
    obtain ⟨F, hF⟩ : ∃ F, F = (((w6.setCell ⟨B, 0, none⟩ (.slice (some ⟨ab, 0, none⟩) n ca2)).setCell ⟨B, 1, none⟩ (.slice (some ⟨kb, 0, none⟩) n ck2)).setCell ⟨B, 2, none⟩ (.slice (some ⟨lb, 0, none⟩) n cl2)).setCell ⟨B, 3, none⟩ (.int .i64 (wv : Int)) := ⟨_, rfl⟩
    have hcF : Chg (fun k => k = B) w6 F := hF ▸ set4C w6 B _ _ _ _
    have HROWF : Hid (Rw5 F B 83 (.slice (some ⟨ab, 0, none⟩) n ca2) (.slice (some ⟨kb, 0, none⟩) n ck2) (.slice (some ⟨lb, 0, none⟩) n cl2) (.int .i64 (wv : Int)) (.slice (some ⟨b2, o2, none⟩) n cr)) := Lib.hid (hF ▸ (HFZ.out w6 hbW6).set4 _ _ _ _)
    have HNF := Lib.hid ((HN3.out.below hbW6 (Nat.le_refl _)).chg hcF HNB.out.2.2)
    have hbF : Below Wj.heap.size Wj F := h6.trans (hcF.below (fun k hk => by rw [hk]; exact HBJ.out) h6.size)
    have HJF := Lib.hid (HJ.out _ _ _ HJJ.out hbF)
    have HOF : Hid (∀ k, Own F k → Own Wj k) := Lib.hid (HOS.out _ _ _ HJJ.out hbF)
    have HOJ : Hid (∀ k, Own Wj k → k < Wj.heap.size) := Lib.hid (HOB.out _ _ HJJ.out)
    have HRDF : Hid (RdN (Own Wj) F (some ⟨ab, 0, none⟩) (some ⟨kb, 0, none⟩) (some ⟨lb, 0, none⟩) (some ⟨b2, o2, none⟩) rs (nextA (ess rs) a)) := Lib.hid (by
      obtain ⟨q1, q2, q3⟩ := HAB.out
      have s5 := hbW5.size
      have sF := hcF.size
      have hno : ∀ y, B < y → y < F.heap.size → NO (Own Wj) F (some ⟨y, 0, none⟩) := fun y h1 h2 b e => by
        cases e
        exact ⟨h2, fun g => by have h9 : y < Wj.heap.size := HOJ.out y g; have := HBJ.out; omega⟩
      exact ⟨⟨HIA.out.chg hcF (fun b e => by cases e; simp only; omega), HIK.out.chg hcF (fun b e => by cases e; simp only; omega), HIL.out.chg hcF (fun b e => by cases e; simp only; omega), HRR.out w6 h6 F hcF⟩, hno ab (by omega) (by omega), hno kb (by omega) (by omega), hno lb (by omega) (by omega), HRJ.out.nr.mono hbF.size, fun r hr he => (HRJ.out.ns r hr he).mono hbF.size⟩)
    have hnB : ¬ Own F B := fun g => by have := HOJ.out _ (HOF.out _ g); have := HBJ.out; omega
    have HPRE : Hid (S = (pre ++ [(x, p, nextA (ess rs) a)]) ++ mS (ess rs) (nextA (ess rs) a)) := Lib.hid (by rw [HSS.out, HST.out, HX.out, HP.out]; simp)
    obtain ⟨fn, tmps, assign, body, hy, hR⟩ := HY.out pre (x, p, nextA (ess rs) a) #[nxtV (x, p, nextA (ess rs) a), .agg #[.slice (some ⟨ab, 0, none⟩) n ca2, .slice (some ⟨kb, 0, none⟩) n ck2, .slice (some ⟨lb, 0, none⟩) n cl2, .int .i64 (wv : Int), .slice (some ⟨b2, o2, none⟩) n cr]] F HJF.out ⟨_, HPRE.out.symm⟩ ⟨some ⟨ab, 0, none⟩, some ⟨kb, 0, none⟩, some ⟨lb, 0, none⟩, ca2, ck2, cl2, by rw [HWV.out], HRDF.out.sub HOF.out, HNX.out⟩
    dsimp only [nxtV] at hy
    have f0 := HROWF.out.c0
    have f1 := HROWF.out.c1
    have f2 := HROWF.out.c2
    have f3 := HROWF.out.c3
    have f4 := HROWF.out.c4
    have g0 := HNF.out.c0
    have g1 := HNF.out.c1
    have g2 := HNF.out.c2
    have g3 := HNF.out.c3
    have g4 := HNF.out.c4
    rw [hwv]
    rw [← hF]
    clear hF hwv y0 y1 y2 y3 k0 k1 k2 k3 z0 z1 z2 z3 hcF h6 hbF HS HS2 HFZ HIA HIK HIL HAB HRR hHeld hbW5 hbW6 JN JM
    gi_wp2
    refine ⟨(fun h => by cases h), hR.mono ?_⟩
    rintro e W7 (⟨rfl, hJ7, hK7⟩ | ⟨rfl, hx7⟩)
    · have HRD7 := Lib.hid (HRDF.out.kept HOF.out hK7)
      have hr7 := HROWF.out.chg hK7.1 hnB
      have HNEW : Hid (RestR n (some ⟨b2, o2, none⟩) cr rs S Own J (left (ess rs) (nextA (ess rs) a)) (.pointer (some ⟨W7.heap.size, 0, none⟩)) (W7.alloc (.cells #[.slice (some ⟨ab, 0, none⟩) n ca2, .slice (some ⟨kb, 0, none⟩) n ck2, .slice (some ⟨lb, 0, none⟩) n cl2, .int .i64 (wv : Int), .slice (some ⟨b2, o2, none⟩) n cr] 83))) :=
        Lib.hid ⟨pre ++ [(x, p, nextA (ess rs) a)], nextA (ess rs) a, W7, W7.heap.size, some ⟨ab, 0, none⟩, some ⟨kb, 0, none⟩, some ⟨lb, 0, none⟩, ca2, ck2, cl2, rfl, Lib.hid ⟨HPRE.out, HNX.out, rfl, hJ7, alloc_below _ _, Nat.le_refl _, by rw [HWV.out]; exact heap_alloc_new _ _, HRD7.out⟩⟩
      clear f0 f1 f2 f3 f4 g0 g1 g2 g3 g4 hJ7 hK7 hy hR
      have f0 := hr7.c0
      have f1 := hr7.c1
      have f2 := hr7.c2
      have f3 := hr7.c3
      have f4 := hr7.c4
      clear hr7
      gi_wp2
      go_roundw
      case rel => exact ⟨_, HNEW.out⟩
      case measure => exact Nat.lt_of_le_of_lt ((leastOf_spec ⟨_, HNEW.out⟩).2 _ HNEW.out) (by have h1 := HM0.out; have h2 := HML.out; have h3 := HLF.out; rw [h1]; omega)
    · have HX7 := Lib.hid hx7
      clear hx7 hy hR f0 f1 f2 f3 f4 g0 g1 g2 g3 g4
      gi_wp2
      refine bodyPost_ret (v := .tuple #[]) (by simp [results, Try.f78, go_sem]) rfl ?_
      exact ⟨⟨_, rfl⟩, .inr ⟨_, ⟨_, HPRE.out.symm⟩, HX7.out⟩⟩
end Go.Proofs.Ytebjhjmlpodkgaa.KK
