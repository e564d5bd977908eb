/-
  Merges: Skip.
-/
import Derived.Test.YtebjhjmlpodkgaaPs
namespace Go.Proofs.Ytebjhjmlpodkgaa.KK
open Go.ChangeShapes Go.WideShapes Go.ChangeAt Go.RowKit Go.Proofs
attribute [local go_sem] Oper.semAt_some

def lessK (key : ByteArray) (x : St) : Bool := Kl.lt (Kl.L x.1.1) (Kl.L key)
/-- how many entries are skipped -/
def skN (S : List St) (key : ByteArray) : Nat := (S.takeWhile (lessK key)).length
theorem take_split {α : Type} {p : α → Bool} : ∀ {S pre : List α}, pre <+: S → (∀ x ∈ pre, p x = true) → (∀ x, (pre ++ [x]) <+: S → p x = false) → (S.takeWhile p).length = pre.length
  | [], pre, h, _, _ => by simp at h; subst h; rfl
  | y :: S, [], _, _, h => by
    have := h y (by simp)
    simp [List.takeWhile, this]
  | y :: S, z :: pre, h, g, k => by
    obtain ⟨rfl, h'⟩ := List.cons_prefix_cons.1 h
    have hz := g z (by simp)
    have ih := take_split h' (fun x hx => g x (by simp [hx])) (fun x hx => k x (by simpa using hx))
    simp [List.takeWhile, hz, ih]
theorem mS_pre {xss : List (List El.En)} {a : List Int} (h : Gd xss a) {pre : List St} {x : St} (hp : (pre ++ [x]) <+: mS xss a) : pre.length < left xss a ∧ x.2.2 = pN xss a (pre.length + 1) := by
  have hl : pre.length < (mS xss a).length := by have := hp.length_le; simp at this; omega
  refine ⟨by rw [← h.mS_len]; exact hl, ?_⟩
  have e : (mS xss a)[pre.length] = x := by
    obtain ⟨t, ht⟩ := hp
    have : (mS xss a)[pre.length]? = some x := by rw [← ht]; simp
    rw [List.getElem?_eq_getElem hl] at this
    exact Option.some.inj this
  have := h.mS_get hl
  rw [e] at this
  rw [this]
/-- the variable between two rounds -/
def SkI (w : World) (N rB n : Nat) (R : Option Addr) (cr : Nat) (rs : List Rn) (a0 : List Int) (key : ByteArray) (pre : List St) (W : World) : Prop :=
  ∃ (A K L : Option Addr) (ca ck cl : Nat), (∀ x ∈ pre, lessK key x = true) ∧ pre.length ≤ left (ess rs) a0 ∧ Rw1 W (w.heap.size + 1) 9 (.string key) ∧ Rw5 W (w.heap.size + 2) 30 (.slice none 0 0) (.slice none 0 0) (.slice none 0 0) (.slice none 0 0) (.int .i64 0) ∧
    Rw5 W rB 83 (.slice A n ca) (.slice K n ck) (.slice L n cl) (.int .i64 (winA (ess rs) (pN (ess rs) a0 pre.length) : Nat)) (.slice R n cr) ∧ RdN (fun k => k = N ∨ k = N + 1 ∨ k = rB) W A K L R rs (pN (ess rs) a0 pre.length) ∧ Below w.heap.size w W
def SkX (w : World) (N rB n : Nat) (R : Option Addr) (cr : Nat) (rs : List Rn) (a0 : List Int) (key : ByteArray) (c : Code) (pre : List St) (W : World) : Prop :=
  c = .exit 0 ∧ ∃ (pre' : List St) (x : St), pre = pre' ++ [x] ∧ lessK key x = false ∧ SkI w N rB n R cr rs a0 key pre' W
theorem SkI.kept {w A A' : World} {N rB n : Nat} {R : Option Addr} {cr : Nat} {rs : List Rn} {a0 : List Int} {key : ByteArray} {pre : List St} {row : Option Nat} (h : SkI w N rB n R cr rs a0 key pre A) (hN : w.heap.size + 3 ≤ N ∧ rB < N) (hg : A.grownBy A' row) (hr : ∀ r, row = some r → N ≤ r ∧ r ≤ N + 1) : SkI w N rB n R cr rs a0 key pre A' := by
  obtain ⟨A1, K1, L1, ca, ck, cl, h1, h2, h3, h4, h5, h6, h7⟩ := h
  exact ⟨A1, K1, L1, ca, ck, cl, h1, h2, h3.chg (cgr hg) (fun e => by have := hr _ e.symm; omega), h4.chg (cgr hg) (fun e => by have := hr _ e.symm; omega), h5.chg (cgr hg) (fun e => by have := hr _ e.symm; omega), h6.chg (cgr hg) (fun k e => by have := hr _ e.symm; omega), h7.grown hg h7.size (fun k e => by have := hr k e; omega)⟩
def SkA (n : Nat) (R : Option Addr) (cr : Nat) (rs : List Rn) (N rB : Nat) (F : Value → Value → Value → Value → Act) (x : St) (a' : Act) (W : World) : Prop :=
  ∃ (B : Nat) (A K L : Option Addr) (ca ck cl : Nat), N + 2 ≤ B ∧ Rw5 W B 91 (.string x.1.1) (.string x.1.2.1) (.bool x.1.2.2.1) (.int .i64 x.1.2.2.2) (.int .i64 (x.2.1 : Int)) ∧ Rw5 W (B + 1) 83 (.slice A n ca) (.slice K n ck) (.slice L n cl) (.int .i64 (winA (ess rs) x.2.2 : Nat)) (.slice R n cr) ∧ RdN (fun k => k = N ∨ k = N + 1 ∨ k = rB) W A K L R rs x.2.2 ∧
    a' = F (.pointer (some ⟨B, 0, none⟩)) (.pointer (some ⟨B + 1, 0, none⟩)) (nxtV x) (.agg #[.slice A n ca, .slice K n ck, .slice L n cl, .int .i64 (winA (ess rs) x.2.2 : Nat), .slice R n cr])
/-- what Skip answers of a good state -/
def SkipOut (n : Nat) (rs : List Rn) (a : List Int) (key : ByteArray) (w : World) (e : Ending) (w' : World) : Prop :=
  ∃ gr ga gk gl c1 c2 c3 c4 : Nat, e = .returned (.tuple #[stV gr ga gk gl c1 c2 c3 c4 n (winA (ess rs) (pN (ess rs) a (skN (mS (ess rs) a) key))), .int .i64 0]) ∧ StN w w' gr ga gk gl rs (pN (ess rs) a (skN (mS (ess rs) a) key))
theorem sk_round {w W : World} {N rB n : Nat} {R A K L : Option Addr} {cr ca ck cl : Nat} {rs : List Rn} {a0 : List Int} {key : ByteArray} {pre : List St} {x : St} {v0 v1 v2 v3 : Value} (hN : w.heap.size + 3 ≤ rB ∧ rB < N) (hs : N + 2 ≤ W.heap.size)
    (h1 : ∀ x ∈ pre, lessK key x = true) (hx : lessK key x = true) (hl : pre.length + 1 ≤ left (ess rs) a0) (hp : x.2.2 = pN (ess rs) a0 (pre.length + 1)) (h3 : Rw1 W (w.heap.size + 1) 9 (.string key)) (h4 : Rw5 W (w.heap.size + 2) 30 (.slice none 0 0) (.slice none 0 0) (.slice none 0 0) (.slice none 0 0) (.int .i64 0))
    (h5 : Rw5 W rB 83 v0 v1 v2 v3 (.slice R n cr)) (h6 : RdN (fun k => k = N ∨ k = N + 1 ∨ k = rB) W A K L R rs x.2.2) (h7 : Below w.heap.size w W) {F : World} (hF : F = (((((W.setCell ⟨rB, 0, none⟩ (.slice A n ca)).setCell ⟨rB, 1, none⟩ (.slice K n ck)).setCell ⟨rB, 2, none⟩ (.slice L n cl)).setCell ⟨rB, 3, none⟩ (.int .i64 (winA (ess rs) x.2.2 : Nat))).setCell ⟨rB, 4, none⟩ (.slice R n cr))) :
    Two N W F ∧ Kpt (fun _ k => k = N ∨ k = N + 1 ∨ k = rB) W F ∧ SkI w N rB n R cr rs a0 key (pre ++ [x]) F := by
  have hc : Chg (fun k => k = rB) W F := hF ▸ set5C W rB _ _ _ _ _
  refine ⟨⟨hc.size, hc.block _ (by omega) (by omega), hc.block _ (by omega) (by omega)⟩, ⟨hc.mono (fun k e => .inr (.inr e)), fun _ _ h => h⟩, A, K, L, ca, ck, cl, ?_, ?_, h3.chg hc (by omega), h4.chg hc (by omega), ?_, ?_, h7.trans (hc.below (fun k e => by omega) h7.size)⟩
  · intro y hy
    rcases List.mem_append.1 hy with hy | hy
    · exact h1 y hy
    · simp at hy; subst hy; exact hx
  · simpa using hl
  · rw [List.length_append, List.length_singleton, ← hp, hF]; exact h5.set _ _ _ _ _
  · rw [List.length_append, List.length_singleton, ← hp]; exact h6.chg hc (fun k e => .inr (.inr e))
theorem sk_fin {w W w6 F : World} {N D n gr ga gk gl c1 c2 c3 c4 : Nat} {rs : List Rn} {a : List Int} {pw : Int} (hD : N ≤ D ∧ D ≤ N + 1) (hN : w.heap.size + 3 ≤ N) (hst : StN W w6 gr ga gk gl rs a) (h4 : Rw5 W (w.heap.size + 2) 30 (.slice none 0 0) (.slice none 0 0) (.slice none 0 0) (.slice none 0 0) (.int .i64 0)) (h7 : Below w.heap.size w W) (hK : W.heap[D]? = some (.deferred (some [])))
    (hF : F = (((((w6.setCell ⟨w.heap.size + 2, 0, none⟩ (.slice (some ⟨gr, 0, none⟩) n c1)).setCell ⟨w.heap.size + 2, 1, none⟩ (.slice (some ⟨ga, 0, none⟩) n c2)).setCell ⟨w.heap.size + 2, 2, none⟩ (.slice (some ⟨gk, 0, none⟩) n c3)).setCell ⟨w.heap.size + 2, 3, none⟩ (.slice (some ⟨gl, 0, none⟩) n c4)).setCell ⟨w.heap.size + 2, 4, none⟩ (.int .i64 pw))) :
    F.heap[D]? = some (.deferred (some [])) ∧ Rw5 (F.putObj D (.deferred none)) (w.heap.size + 2) 30 (.slice (some ⟨gr, 0, none⟩) n c1) (.slice (some ⟨ga, 0, none⟩) n c2) (.slice (some ⟨gk, 0, none⟩) n c3) (.slice (some ⟨gl, 0, none⟩) n c4) (.int .i64 pw) ∧ StN w (F.putObj D (.deferred none)) gr ga gk gl rs a := by
  have hc : Chg (fun k => k = w.heap.size + 2) w6 F := hF ▸ set5C w6 _ _ _ _ _ _
  have hr : Rw5 F (w.heap.size + 2) 30 (.slice (some ⟨gr, 0, none⟩) n c1) (.slice (some ⟨ga, 0, none⟩) n c2) (.slice (some ⟨gk, 0, none⟩) n c3) (.slice (some ⟨gl, 0, none⟩) n c4) (.int .i64 pw) := hF ▸ (h4.below hst.below (Nat.le_refl _)).set _ _ _ _ _
  have hlt := (Array.getElem?_eq_some_iff.1 hK).1
  have h6 : w6.heap[D]? = some (.deferred (some [])) := (hst.below.block _ hlt).trans hK
  have hD6 : D < w6.heap.size := Nat.lt_of_lt_of_le hlt hst.below.size
  have kF : F.heap[D]? = some (.deferred (some [])) := (hc.block _ hD6 (by omega)).trans h6
  have hg : Chg (fun k => some k = some D) F (F.putObj D (.deferred none)) := cgr (grownBy_putObj' _ _ _)
  have ho := hst.ord
  have hs := hst.below.size
  have h7s := h7.size
  have hb6 : Below w.heap.size w w6 := eb_of h7 hst.below (Nat.le_refl _)
  have hbF : Below w.heap.size w F := hb6.trans (hc.below (fun k e => by omega) hb6.size)
  refine ⟨kF, hr.chg hg (by simp; omega), ⟨(hst.runs.chg hc (by omega)).chg hg (by simp; omega), (hst.ats.chg hc (by omega)).chg hg (by simp; omega), (hst.keys.chg hc (by omega)).chg hg (by simp; omega), (hst.lose.chg hc (by omega)).chg hg (by simp; omega), ⟨by omega, ho.2.1, ho.2.2.1, ho.2.2.2⟩, hbF.trans (hg.below (fun k e => by simp at e; omega) hbF.size)⟩⟩
set_option maxRecDepth 100000 in
set_option maxHeartbeats 8000000 in
theorem skip_good (R A0 K0 L0 : Option Addr) (cr ca0 ck0 cl0 n : Nat) (rs : List Rn) (a : List Int) (key : ByteArray) (w : World) (hn : rs.length = n) (hg : Gd (ess rs) a) (hv : Inv (ess rs) a) (hr : RdOk w A0 K0 L0 R rs a) (hsr : SizedR rs) (hc : CapR rs) :
    Calls Try.prog 30 #[.agg #[.slice R n cr, .slice A0 n ca0, .slice K0 n ck0, .slice L0 n cl0, .int .i64 (winA (ess rs) a : Nat)], .string key] w (SkipOut n rs a key w) := by
  have HCK := Lib.hid (chk_good R A0 K0 L0 cr ca0 ck0 cl0 n rs a w hn hg hv hr hsr)
  have HRD := Lib.hid (rdn_of hr hg)
  have HG := Lib.hid hg
  have HN := Lib.hid hn
  have HSR := Lib.hid hsr
  have HCP := Lib.hid hc
  have HP0 : Hid (pN (ess rs) a 0 = a) := Lib.hid rfl
  clear hr hv hsr hc hg
  obtain ⟨p, hp⟩ : ∃ p, winA (ess rs) a = p := ⟨_, rfl⟩
  have HP := Lib.hid hp
  rw [hp] at HCK ⊢
  clear hp
  obtain ⟨post, hpost⟩ : ∃ post, SkipOut n rs a key w = post := ⟨_, rfl⟩
  have HPOST := Lib.hid hpost
  rw [hpost]
  clear hpost
  obtain ⟨w1, hw1⟩ : ∃ w1, ((w.alloc (.cells #[.slice R n cr, .slice A0 n ca0, .slice K0 n ck0, .slice L0 n cl0, .int .i64 (p : Int)] 30)).alloc (.cells #[.string key] 9)).alloc (.cells #[.slice none 0 0, .slice none 0 0, .slice none 0 0, .slice none 0 0, .int .i64 0] 30) = w1 := ⟨_, rfl⟩
  have HB : Hid (Below w.heap.size w w1) := Lib.hid (hw1 ▸ bA (bA (alloc_below w _) _) _)
  have HS : Hid (Rw5 w1 w.heap.size 30 (.slice R n cr) (.slice A0 n ca0) (.slice K0 n ck0) (.slice L0 n cl0) (.int .i64 (p : Int))) := Lib.hid (hw1 ▸ (heap_alloc_old _ _ (by first | (simp; done) | (simp; omega))).trans (hp2 w _ _))
  have HKY : Hid (Rw1 w1 (w.heap.size + 1) 9 (.string key)) := Lib.hid (hw1 ▸ (heap_alloc_old _ _ (by first | (simp; done) | (simp; omega))).trans (hp3 w _ _ rfl))
  have HRS : Hid (Rw5 w1 (w.heap.size + 2) 30 (.slice none 0 0) (.slice none 0 0) (.slice none 0 0) (.slice none 0 0) (.int .i64 0)) := Lib.hid (hw1 ▸ hp1 _ _ (by simp))
  have x0 := HS.out.c0
  have x1 := HS.out.c1
  have x2 := HS.out.c2
  have x3 := HS.out.c3
  have x4 := HS.out.c4
  refine (callsIn_wide (n := 9)).1 ?_
  refine callsIn_of_wp_marks Try.func30 rfl trivial ?_
  simp only [Try.ntmps30, List.size_toArray, List.length_cons, List.length_nil, Nat.reduceAdd, Nat.reduceSub, Array.replicate_succ, Array.replicate_zero, List.push_toArray, List.append_toArray, List.nil_append, List.cons_append]
  gi_wp2_with fail
  refine ⟨trivial, ?_⟩
  refine (callsIn_wide.2 (HCK.out _ HB.out)).mono ?_
  rintro e w2 ⟨rfl, hb⟩
  have HS2 := Lib.hid (HS.out.below hb (Nat.le_refl _))
  have HKY2 := Lib.hid (HKY.out.below hb (Nat.le_refl _))
  have HRS2 := Lib.hid (HRS.out.below hb (Nat.le_refl _))
  have HB2 := Lib.hid (eb_of HB.out hb (Nat.le_refl _))
  clear hb x0 x1 x2 x3 x4 HS HKY HRS HB hw1 HCK
  have x0 := HS2.out.c0
  have x1 := HS2.out.c1
  have x2 := HS2.out.c2
  have x3 := HS2.out.c3
  have x4 := HS2.out.c4
  gi_wp2_with fail
  refine ⟨trivial, ?_⟩
  refine (callsIn_wide.2 (resume_any (.slice R n cr) (.slice A0 n ca0) (.slice K0 n ck0) (.slice L0 n cl0) (.int .i64 (p : Int)) w2 ⟨_, _, _, rfl⟩ ⟨_, _, _, rfl⟩ ⟨_, _, _, rfl⟩ ⟨_, _, _, rfl⟩ ⟨_, rfl⟩)).mono ?_
  rintro e w3 ⟨rfl, hb⟩
  have HKY3 := Lib.hid (HKY2.out.below hb (Nat.le_refl _))
  have HRS3 := Lib.hid (HRS2.out.below hb (Nat.le_refl _))
  have HB3 := Lib.hid (eb_of HB2.out hb (Nat.le_refl _))
  clear hb x0 x1 x2 x3 x4 HS2 HKY2 HRS2 HB2
  obtain ⟨w4, hw4⟩ : ∃ w4, w3.alloc (.cells #[.slice A0 n ca0, .slice K0 n ck0, .slice L0 n cl0, .int .i64 (p : Int), .slice R n cr] 83) = w4 := ⟨_, rfl⟩
  have hb : Below w3.heap.size w3 w4 := hw4 ▸ alloc_below _ _
  have HRB4 : Hid (Rw5 w4 w3.heap.size 83 (.slice A0 n ca0) (.slice K0 n ck0) (.slice L0 n cl0) (.int .i64 (p : Int)) (.slice R n cr)) := Lib.hid (hw4 ▸ heap_alloc_new w3 _)
  have HKY4 := Lib.hid (HKY3.out.below hb (Nat.le_refl _))
  have HRS4 := Lib.hid (HRS3.out.below hb (Nat.le_refl _))
  have HB4 := Lib.hid (eb_of HB3.out hb (Nat.le_refl _))
  have hlt3 : w.heap.size + 3 ≤ w3.heap.size := by have := HRS3.out.lt; omega
  clear hb HKY3 HRS3 HB3
  have x0 := HRB4.out.c0
  have x1 := HRB4.out.c1
  have x2 := HRB4.out.c2
  have x3 := HRB4.out.c3
  have x4 := HRB4.out.c4
  gi_wp2_with fail
  refine ⟨trivial, ?_⟩
  refine (callsIn_wide.2 (rest_any (.slice A0 n ca0) (.slice K0 n ck0) (.slice L0 n cl0) (.int .i64 (p : Int)) (.slice R n cr) w4)).mono ?_
  rintro e w5 ⟨rfl, hw5⟩
  have hb : Below w4.heap.size w4 w5 := hw5 ▸ alloc_below _ _
  have HRB5 := Lib.hid (HRB4.out.below hb (Nat.le_refl _))
  have HKY5 := Lib.hid (HKY4.out.below hb (Nat.le_refl _))
  have HRS5 := Lib.hid (HRS4.out.below hb (Nat.le_refl _))
  have HB5 := Lib.hid (eb_of HB4.out hb (Nat.le_refl _))
  have HFB := Lib.hid (show Rw5 w5 w4.heap.size 83 (.slice A0 n ca0) (.slice K0 n ck0) (.slice L0 n cl0) (.int .i64 (p : Int)) (.slice R n cr) from hw5 ▸ heap_alloc_new w4 _)
  have HLT : Hid (w.heap.size + 3 ≤ w3.heap.size ∧ w3.heap.size < w4.heap.size ∧ w4.heap.size < w5.heap.size) := Lib.hid ⟨hlt3, HRB4.out.lt, HFB.out.lt⟩
  clear hb x0 x1 x2 x3 x4 HKY4 HRS4 HB4 hw4 hw5 HRB4 hlt3
  gi_wp2_with fail
  have HNN : Hid ((w.heap.size + 3 ≤ w5.heap.size ∧ w3.heap.size < w5.heap.size) ∧ (w.heap.size + 3 ≤ w3.heap.size ∧ w3.heap.size < w5.heap.size)) := Lib.hid (by have := HLT.out; omega)
  refine range_ownV (n := 9) (ps := #[24, 25]) (gf := 78) (lb := #[.pointer (some ⟨w4.heap.size, 0, none⟩)]) ?hg (enters_of Try.func78 (by kernel_rfl) rfl)
    (encs := encR n R cr rs (fun _ k => k = w5.heap.size ∨ k = w5.heap.size + 1 ∨ k = w3.heap.size)) ?hps (mS (ess rs) a) (Kpt (fun _ k => k = w5.heap.size ∨ k = w5.heap.size + 1 ∨ k = w3.heap.size)) (SkI w w5.heap.size w3.heap.size n R cr rs a key) (SkX w w5.heap.size w3.heap.size n R cr rs a key) (fun W => w5.heap.size + 2 ≤ W.heap.size) ?hIR
    ?hI ?hIx ?hKt ?hKb ?hKn ?h0 ?hseq (SkA n R cr rs w5.heap.size w3.heap.size (fun q9 q10 q24 q25 => { tmps := #[.agg #[.slice R n cr, .slice A0 n ca0, .slice K0 n ck0, .slice L0 n cl0, .int .i64 (p : Int)], .string key, .pointer (some ⟨w.heap.size, 0, none⟩), .pointer (some ⟨w.heap.size + 1, 0, none⟩), .pointer (some ⟨w.heap.size + 1 + 1, 0, none⟩), .int .i64 0, .int .i64 0, .int .i64 0, .pointer (some ⟨w3.heap.size, 0, none⟩), q9, q10, .tuple #[.int .i64 0, .int .i64 0], .agg #[.slice R n cr, .slice A0 n ca0, .slice K0 n ck0, .slice L0 n cl0, .int .i64 (p : Int)], .tuple #[.int .i64 0, .int .i64 0], .int .i64 0, .int .i64 0, .int .i64 0, .bool false, undef, undef, .agg #[.slice R n cr, .slice A0 n ca0, .slice K0 n ck0, .slice L0 n cl0, .int .i64 (p : Int)], .agg #[.slice A0 n ca0, .slice K0 n ck0, .slice L0 n cl0, .int .i64 (p : Int), .slice R n cr], .agg #[.slice A0 n ca0, .slice K0 n ck0, .slice L0 n cl0, .int .i64 (p : Int), .slice R n cr], .func (.func 78) #[] #[.pointer (some ⟨w4.heap.size, 0, none⟩)], q24, q25, undef, undef, undef, undef, undef, undef, undef, undef], defers := [] })) ?hAx ?hassign ?hbody ?hdone ?hstop
  case hg => rfl
  case hps =>
    rintro x vs W ⟨A', K', L', ca', ck', cl', rfl, h⟩
    rfl
  case hIR => exact fun _ _ _ h => h
  case hI => exact fun pre B B' row h hg hr => h.kept HNN.out.1 hg hr
  case hIx =>
    rintro c pre B B' row ⟨rfl, p', x, rfl, h1, h2⟩ hg hr
    exact ⟨rfl, p', x, rfl, h1, h2.kept HNN.out.1 hg hr⟩
  case hKt => exact fun h g => Kpt.trans h g
  case hKb => exact fun B B' hg hs => ⟨⟨hg.os, hg.tape, hg.output, hg.size, fun k hk hn => hg.block k hk (fun e => hn (.inr (.inl (by injection e))))⟩, fun _ _ h => h⟩
  case hKn => exact fun B B' hg hs => ⟨⟨hg.os, hg.tape, hg.output, hg.size, fun k hk hn => hg.block k hk (fun e => by cases e)⟩, fun _ _ h => h⟩
  case h0 =>
    have q := HRD.out.up HB5.out (O := fun k => k = w5.heap.size ∨ k = w5.heap.size + 1 ∨ k = w3.heap.size) (fun k hk e => by have := HLT.out; omega)
    refine ⟨A0, K0, L0, ca0, ck0, cl0, (fun x hx => by cases hx), Nat.zero_le _, HKY5.out, HRS5.out, ?_, q, HB5.out⟩
    show Rw5 _ _ _ _ _ _ (.int .i64 (winA (ess rs) a : Nat)) _
    rw [HP.out]
    exact HRB5.out
  case hseq =>
    intro l J Jx W hsz hbl hJ hJR hY h0
    have hbw : Below w.heap.size w W := eb_of HB5.out hbl (Nat.le_refl _)
    have hrd : RdN (fun k => k = w5.heap.size ∨ k = w5.heap.size + 1 ∨ k = w3.heap.size) W A0 K0 L0 R rs a := HRD.out.up hbw (fun k hk e => by have := HLT.out; omega)
    have hrb := HFB.out.below hbl (Nat.le_refl _)
    rw [← HP.out] at hrb
    exact rest1_any (9 - 1) l w4.heap.size n A0 K0 L0 R ca0 ck0 cl0 cr rs a W HN.out HG.out HSR.out (fun _ k => k = w5.heap.size ∨ k = w5.heap.size + 1 ∨ k = w3.heap.size) J Jx (fun pre B B' h hb => hJ pre B B' h (grown_of_below' hb))
      (fun pre B h k hk => by have := hJR pre B h; have := HLT.out; omega) (fun _ _ _ _ _ _ h => h) (fun pre x vs W1 hj hp he => yield_any' (hY pre x vs W1 hj hp he)) h0 hrb hrd
  case hAx =>
    rintro x a' B B' ⟨Bx, A', K', L', ca', ck', cl', hBx, h1, h2, h3, ha⟩ hg
    have hc := cgr hg
    exact ⟨Bx, A', K', L', ca', ck', cl', hBx, h1.chg hc (by simp; omega), h2.chg hc (by simp; omega), h3.chg hc (fun k e => by simp at e; exact .inr (.inl e)), ha⟩
  case hassign =>
    rintro l pre x vs W Q hi ⟨A', K', L', ca', ck', cl', rfl, hrd, hgd⟩ hsz hQ
    obtain ⟨⟨xk, xv, xd, xq⟩, xr, xa⟩ := x
    simp only [nxtV]
    gi_wp2
    refine hQ _ _ ((World.grownBy_alloc W _ none).trans (World.grownBy_alloc _ _ none)) ⟨W.heap.size, A', K', L', ca', ck', cl', hsz, ?_, ?_, ?_, rfl⟩
    · exact (heap_alloc_old _ _ (by first | (simp; done) | (simp; omega))).trans (heap_alloc_new W _)
    · exact hp3 W _ _ rfl
    · exact hrd.below (alloc2_below W _ _) (Nat.le_refl _)
  case hbody =>
    rintro l pre x a' W hpre ⟨A1, K1, L1, ca1, ck1, cl1, h1, h2, h3, h4, h5, h6, h7⟩ hsz ⟨Bx, A', K', L', ca', ck', cl', hBx, hx, hrw, hrd, rfl⟩
    obtain ⟨hlx, hpx⟩ := mS_pre HG.out hpre
    have hbn : Bx ≠ w3.heap.size := by have := HLT.out; omega
    have x0 := hx.c0
    have k0 := h3.c0
    have y0 := hrw.c0
    have y1 := hrw.c1
    have y2 := hrw.c2
    have y3 := hrw.c3
    have y4 := hrw.c4
    have f0 := h5.fz 0
    have f1 := h5.fz 1
    have f2 := h5.fz 2
    have f3 := h5.fz 3
    have f4 := h5.fz 4
    have t0 := h5.c0
    have t1 := h5.c1
    have t2 := h5.c2
    have t3 := h5.c3
    have t4 := h5.c4
    obtain ⟨⟨xk, xv, xd, xq⟩, xr, xa⟩ := x
    cases hb : lessK key ((xk, xv, xd, xq), xr, xa) with
    | false =>
      have hl : Op.bytesLess xk.toList key.toList = false := by rw [less_L]; exact hb
      have HFIN : Hid (Two w5.heap.size W W ∧ SkX w w5.heap.size w3.heap.size n R cr rs a key (.exit 0) (pre ++ [((xk, xv, xd, xq), xr, xa)]) W) := Lib.hid ⟨⟨Nat.le_refl _, rfl, rfl⟩, rfl, pre, _, rfl, hb, A1, K1, L1, ca1, ck1, cl1, h1, h2, h3, h4, h5, h6, h7⟩
      clear h1 h2 h3 h4 h5 h6 h7 hx hrw hrd hb hpre hlx hpx hsz y0 y1 y2 y3 y4 f0 f1 f2 f3 f4 t0 t1 t2 t3 t4
      simp only [nxtV]
      gi_wp2_with fail
      simp only [roundEnd]
      exact HFIN.out
    | true =>
      have hl : Op.bytesLess xk.toList key.toList = true := by rw [less_L]; exact hb
      have HFIN := Lib.hid (fun F hF => sk_round (F := F) (ca := ca') (ck := ck') (cl := cl') (x := ((xk, xv, xd, xq), xr, xa)) (pre := pre) HNN.out.2 hsz h1 hb hlx hpx h3 h4 h5 hrd h7 hF)
      simp only at x0 y3 HFIN
      obtain ⟨pw, hpw⟩ : ∃ pw, winA (ess rs) xa = pw := ⟨_, rfl⟩
      rw [hpw] at y3 HFIN
      clear h1 h2 h3 h4 h5 h6 h7 hx hrw hrd hb hpre hlx hpx hsz
      simp only [nxtV, hpw]
      clear hpw
      gi_wp2_with fail
      simp only [roundEnd]
      exact HFIN.out _ rfl
  case hdone =>
    rintro D W hD1 hD2 ⟨A1, K1, L1, ca1, ck1, cl1, h1, h2, h3, h4, h5, h6, h7⟩ hK
    have hpl : skN (mS (ess rs) a) key = (mS (ess rs) a).length := take_split (List.prefix_refl _) h1 (fun x hx => by have q := hx.length_le; rw [List.length_append, List.length_singleton] at q; omega)
    have hgd := (HG.out.pN h2).1
    have JT := Lib.hid (state_new A1 K1 L1 R n ca1 ck1 cl1 cr rs (pN (ess rs) a (mS (ess rs) a).length) W HN.out hgd h6.ok HCP.out)
    have HE := Lib.hid (fun (w6 : World) (gr ga gk gl c1 c2 c3 c4 : Nat) (hst : StN W w6 gr ga gk gl rs (pN (ess rs) a (mS (ess rs) a).length)) F hF => sk_fin (F := F) (n := n) (c1 := c1) (c2 := c2) (c3 := c3) (c4 := c4) (pw := (winA (ess rs) (pN (ess rs) a (mS (ess rs) a).length) : Nat)) ⟨hD1, hD2⟩ HNN.out.1.1 hst h4 h7 hK hF)
    have HPS : Hid (∀ (gr ga gk gl c1 c2 c3 c4 : Nat) (w' : World), StN w w' gr ga gk gl rs (pN (ess rs) a (mS (ess rs) a).length) → post (.returned (.tuple #[stV gr ga gk gl c1 c2 c3 c4 n (winA (ess rs) (pN (ess rs) a (mS (ess rs) a).length)), .int .i64 0])) w') := Lib.hid (fun gr ga gk gl c1 c2 c3 c4 w' h => by
      rw [← HPOST.out]; unfold SkipOut; rw [hpl]; exact ⟨gr, ga, gk, gl, c1, c2, c3, c4, rfl, h⟩)
    have H4 := Lib.hid h4
    generalize pN (ess rs) a (mS (ess rs) a).length = a' at *
    obtain ⟨pw, hpw⟩ : ∃ pw, winA (ess rs) a' = pw := ⟨_, rfl⟩
    rw [hpw] at h5 JT HE HPS
    have x0 := h5.c0
    have x1 := h5.c1
    have x2 := h5.c2
    have x3 := h5.c3
    have x4 := h5.c4
    clear h1 h2 h3 h4 h5 h6 h7 hK hD1 hD2 hpl hgd hpw
    gi_wp2_with fail
    refine ⟨trivial, ?_⟩
    refine (callsIn_wide.2 JT.out).mono ?_
    rintro e w6 ⟨gr, ga, gk, gl, c1, c2, c3, c4, rfl, hst⟩
    have q := H4.out.below hst.below (Nat.le_refl _)
    have HF := Lib.hid (HE.out w6 gr ga gk gl c1 c2 c3 c4 hst)
    have u0 := q.c0
    have u1 := q.c1
    have u2 := q.c2
    have u3 := q.c3
    have u4 := q.c4
    have f0 := q.fz 0
    have f1 := q.fz 1
    have f2 := q.fz 2
    have f3 := q.fz 3
    have f4 := q.fz 4
    clear x0 x1 x2 x3 x4 q hst JT HE
    unfold stV
    gi_wp2_with fail
    obtain ⟨k1, k2, k3⟩ := HF.out _ rfl
    refine ⟨by simp, .inl ⟨_, _, rfl, run_takeDeferred k1, ?_⟩⟩
    refine ⟨.tuple #[stV gr ga gk gl c1 c2 c3 c4 n pw, .int .i64 0], ?_, HPS.out _ _ _ _ _ _ _ _ _ k3⟩
    have e0 := k2.c0
    have e1 := k2.c1
    have e2 := k2.c2
    have e3 := k2.c3
    have e4 := k2.c4
    simp [results, stV, Try.f30, go_sem, e0, e1, e2, e3, e4]
  case hstop =>
    rintro D c' pre W hD1 hD2 hpre ⟨rfl, p', x, rfl, hx, A1, K1, L1, ca1, ck1, cl1, h1, h2, h3, h4, h5, h6, h7⟩ hK
    have hpl : skN (mS (ess rs) a) key = p'.length := take_split ((List.prefix_append _ _).trans hpre) h1 (fun y hy => by
      have e : x = y := by
        obtain ⟨t, ht⟩ := hpre
        obtain ⟨u, hu⟩ := hy
        have h8 : (mS (ess rs) a)[p'.length]? = some x := by rw [← ht]; simp
        have h9 : (mS (ess rs) a)[p'.length]? = some y := by rw [← hu]; simp
        rw [h8] at h9; exact Option.some.inj h9
      rw [← e]; exact hx)
    clear hpre hx
    have hgd := (HG.out.pN h2).1
    have JT := Lib.hid (state_new A1 K1 L1 R n ca1 ck1 cl1 cr rs (pN (ess rs) a p'.length) W HN.out hgd h6.ok HCP.out)
    have HE := Lib.hid (fun (w6 : World) (gr ga gk gl c1 c2 c3 c4 : Nat) (hst : StN W w6 gr ga gk gl rs (pN (ess rs) a p'.length)) F hF => sk_fin (F := F) (n := n) (c1 := c1) (c2 := c2) (c3 := c3) (c4 := c4) (pw := (winA (ess rs) (pN (ess rs) a p'.length) : Nat)) ⟨hD1, hD2⟩ HNN.out.1.1 hst h4 h7 hK hF)
    have HPS : Hid (∀ (gr ga gk gl c1 c2 c3 c4 : Nat) (w' : World), StN w w' gr ga gk gl rs (pN (ess rs) a p'.length) → post (.returned (.tuple #[stV gr ga gk gl c1 c2 c3 c4 n (winA (ess rs) (pN (ess rs) a p'.length)), .int .i64 0])) w') := Lib.hid (fun gr ga gk gl c1 c2 c3 c4 w' h => by
      rw [← HPOST.out]; unfold SkipOut; rw [hpl]; exact ⟨gr, ga, gk, gl, c1, c2, c3, c4, rfl, h⟩)
    have H4 := Lib.hid h4
    generalize pN (ess rs) a p'.length = a' at *
    obtain ⟨pw, hpw⟩ : ∃ pw, winA (ess rs) a' = pw := ⟨_, rfl⟩
    rw [hpw] at h5 JT HE HPS
    have x0 := h5.c0
    have x1 := h5.c1
    have x2 := h5.c2
    have x3 := h5.c3
    have x4 := h5.c4
    clear h1 h2 h3 h4 h5 h6 h7 hK hD1 hD2 hpl hgd hpw
    gi_wp2_with fail
    refine ⟨trivial, ?_⟩
    refine (callsIn_wide.2 JT.out).mono ?_
    rintro e w6 ⟨gr, ga, gk, gl, c1, c2, c3, c4, rfl, hst⟩
    have q := H4.out.below hst.below (Nat.le_refl _)
    have HF := Lib.hid (HE.out w6 gr ga gk gl c1 c2 c3 c4 hst)
    have u0 := q.c0
    have u1 := q.c1
    have u2 := q.c2
    have u3 := q.c3
    have u4 := q.c4
    have f0 := q.fz 0
    have f1 := q.fz 1
    have f2 := q.fz 2
    have f3 := q.fz 3
    have f4 := q.fz 4
    clear x0 x1 x2 x3 x4 q hst JT HE
    unfold stV
    gi_wp2_with fail
    obtain ⟨k1, k2, k3⟩ := HF.out _ rfl
    refine ⟨by simp, .inl ⟨_, _, rfl, run_takeDeferred k1, ?_⟩⟩
    refine ⟨.tuple #[stV gr ga gk gl c1 c2 c3 c4 n pw, .int .i64 0], ?_, HPS.out _ _ _ _ _ _ _ _ _ k3⟩
    have e0 := k2.c0
    have e1 := k2.c1
    have e2 := k2.c2
    have e3 := k2.c3
    have e4 := k2.c4
    simp [results, stV, Try.f30, go_sem, e0, e1, e2, e3, e4]
end Go.Proofs.Ytebjhjmlpodkgaa.KK
