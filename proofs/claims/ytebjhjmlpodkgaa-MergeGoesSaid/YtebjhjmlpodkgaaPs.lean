/-
  Merges: states that were reached: Check, Next, Left, Peek.
-/
import Derived.Test.YtebjhjmlpodkgaaPr
import Derived.Test.YtebjhjmlpodkgaaHb
import Derived.Test.YtebjhjmlpodkgaaPo
namespace Go.Proofs.Ytebjhjmlpodkgaa.KK
open Go.ChangeShapes Go.WideShapes Go.ChangeAt Go.RowKit Go.Proofs

theorem fit_of {rs : List Rn} {a : List Int} (g : Gd (ess rs) a) (hs : SizedR rs) : StFit rs a (nks (ess rs) a) (loL (nks (ess rs) a)) := by
  have h1 := g.len1
  have h2 := g.at_.1
  have h3 := g.len
  have h4 : (loL (nks (ess rs) a)).length = (nks (ess rs) a).length := loL_len _
  rw [ess_len] at h2 h3
  refine ⟨by omega, by omega, by omega, by omega, hs, fun x hx => ?_⟩
  obtain ⟨i, hi, rfl⟩ := List.getElem_of_mem hx
  have h5 := g.at_.2 i (by rw [ess_len]; omega) hi
  have h6 := (list_ok (g.list (i := i) (by rw [ess_len]; omega))).1
  rw [xsA_eq (by rw [ess_len]; omega)] at h6
  omega
theorem st_of {w : World} {R A K L : Option Addr} {rs : List Rn} {a : List Int} (h : RdOk w A K L R rs a) : StAt w R A K L rs a (nks (ess rs) a) (loL (nks (ess rs) a)) := ⟨h.runs, h.ats, h.keys, h.lose⟩
theorem chk_good (R A K L : Option Addr) (cr ca ck cl n : Nat) (rs : List Rn) (a : List Int) (w : World) (hn : rs.length = n) (hg : Gd (ess rs) a) (hv : Inv (ess rs) a) (hr : RdOk w A K L R rs a) (hs : SizedR rs) :
    ∀ w', Below w.heap.size w w' → Calls Try.prog 22 #[.agg #[.slice R n cr, .slice A n ca, .slice K n ck, .slice L n cl, .int .i64 (winA (ess rs) a : Nat)]] w' fun e w'' => e = .returned (.tuple #[.int .i64 0, .int .i64 0]) ∧ Below w'.heap.size w' w'' := by
  intro w' hb
  have K := check11_any R A K L cr ca ck cl rs a (nks (ess rs) a) (loL (nks (ess rs) a)) (winA (ess rs) a : Nat) w' (st_of (hr.below hb (Nat.le_refl _))) (fit_of hg hs)
  rw [hg.chk_inv hv, loL_len, hg.len, ess_len, show a.length = n by rw [hg.at_.1, ess_len, hn], hn] at K
  exact K
theorem rdn_of {w : World} {A K L R : Option Addr} {rs : List Rn} {a : List Int} (h : RdOk w A K L R rs a) (g : Gd (ess rs) a) : RdN (fun _ => False) w A K L R rs a :=
  have q := h.lts g
  ⟨h, fun b e => ⟨q.1 b e, id⟩, fun b e => ⟨q.2.1 b e, id⟩, fun b e => ⟨q.2.2.1 b e, id⟩, fun b e => ⟨q.2.2.2.1 b e, id⟩, fun r hr hne b e => ⟨q.2.2.2.2 r hr hne b e, id⟩⟩
theorem next_good (R A K L : Option Addr) (cr ca ck cl n : Nat) (rs : List Rn) (a : List Int) (w : World) (hn : rs.length = n) (hg : Gd (ess rs) a) (hv : Inv (ess rs) a) (hr : RdOk w A K L R rs a) (hs : SizedR rs) (hc : CapR rs) :
    Calls Try.prog 26 #[.agg #[.slice R n cr, .slice A n ca, .slice K n ck, .slice L n cl, .int .i64 (winA (ess rs) a : Nat)]] w (NextOut n rs a w) :=
  next_ok R A K L cr ca ck cl n rs a w hn hg (rdn_of hr hg) hs hc (chk_good R A K L cr ca ck cl n rs a w hn hg hv hr hs)
theorem left_good (R A K L : Option Addr) (cr ca ck cl n : Nat) (rs : List Rn) (a : List Int) (w : World) (hn : rs.length = n) (hg : Gd (ess rs) a) (hv : Inv (ess rs) a) (hr : RdOk w A K L R rs a) (hs : SizedR rs) :
    Calls Try.prog 28 #[.agg #[.slice R n cr, .slice A n ca, .slice K n ck, .slice L n cl, .int .i64 (winA (ess rs) a : Nat)]] w fun e w' => e = .returned (.tuple #[.int .i64 (left (ess rs) a : Int), .int .i64 0]) ∧ Below w.heap.size w w' := by
  have K := left11_any R A K L cr ca ck cl rs a (nks (ess rs) a) (loL (nks (ess rs) a)) (winA (ess rs) a : Nat) w (st_of hr) (fit_of hg hs)
  rw [hg.chk_inv hv, loL_len, hg.len, ess_len, show a.length = n by rw [hg.at_.1, ess_len, hn], hn, if_pos rfl] at K
  exact K
theorem clip_clip (rs : List Rn) : (rs.map clipR).map clipR = rs.map clipR := by simp [clipR, Function.comp_def]
theorem sizedR_clip {rs : List Rn} (h : SizedR rs) : SizedR (rs.map clipR) := fun r hr => by
  obtain ⟨q, hq, rfl⟩ := List.mem_map.1 hr
  exact h q hq
theorem capR_clip {rs : List Rn} (h : CapR rs) : CapR (rs.map clipR) := fun r hr => by
  obtain ⟨q, hq, rfl⟩ := List.mem_map.1 hr
  have := h q hq
  exact ⟨Nat.le_refl _, fun e => by have := this.2 e; simp only [clipR]; omega⟩
theorem RsAt.each {w : World} {A : Option Addr} {rs : List Rn} (h : RsAt w A rs) : ∀ r ∈ rs, EsAt w r.1 r.2.2 := by
  intro r hr
  rcases h with e | ⟨b, o, _, _, hh⟩
  · rw [e] at hr; cases hr
  · obtain ⟨i, hi, rfl⟩ := List.getElem_of_mem hr
    exact (hh i hi).2
/-- a new state is a reading over its own runs -/
theorem StN.rd {w w' : World} {gr ga gk gl : Nat} {rs : List Rn} {a : List Int} (h : StN w w' gr ga gk gl rs a) (hes : ∀ r ∈ rs, EsAt w r.1 r.2.2) : RdOk w' (some ⟨ga, 0, none⟩) (some ⟨gk, 0, none⟩) (some ⟨gl, 0, none⟩) (some ⟨gr, 0, none⟩) (rs.map clipR) a := by
  refine ⟨h.ats.is, by rw [ess_clip]; exact h.keys.ks, by rw [ess_clip]; exact h.lose.is, ?_⟩
  by_cases h0 : rs.map clipR = []
  · exact .inl h0
  · refine .inr ⟨gr, 0, rfl, h.runs.lt, fun i hi => ⟨?_, ?_⟩⟩
    · have := h.runs.cell i (by rw [hdsV_len]; exact hi)
      rw [Nat.zero_add, this]; simp [hdsV]
    · have hi' : i < rs.length := by simpa using hi
      have := (hes _ (List.getElem_mem hi')).below h.below (Nat.le_refl _)
      simpa [clipR] using this
/-- what Peek answers of a good state -/
def PeekOut (rs : List Rn) (a : List Int) (w : World) (e : Ending) (w' : World) : Prop :=
  (doneB (ess rs) a = true ∧ e = .returned (.tuple #[.agg #[.string ⟨#[]⟩, .string ⟨#[]⟩, .bool false, .int .i64 0], .int .i64 0, .int .i64 12]) ∧ Below w.heap.size w w') ∨
  (doneB (ess rs) a = false ∧ e = .returned (.tuple #[.agg #[.string (entA (ess rs) a).1, .string (entA (ess rs) a).2.1, .bool (entA (ess rs) a).2.2.1, .int .i64 (entA (ess rs) a).2.2.2], .int .i64 (winA (ess rs) a : Nat), .int .i64 0]) ∧ Below w.heap.size w w')
theorem set4B {B : Nat} {w w1 : World} {g : Nat} (h : Below B w w1) (hg : B ≤ g) (a b c d : Value) : Below B w ((((w1.setCell ⟨g, 0, none⟩ a).setCell ⟨g, 1, none⟩ b).setCell ⟨g, 2, none⟩ c).setCell ⟨g, 3, none⟩ d) := (((h.setCell hg _).setCell hg _).setCell hg _).setCell hg _
set_option maxRecDepth 100000 in
set_option maxHeartbeats 4000000 in
theorem peek_good (R A K L : Option Addr) (cr ca ck cl n : Nat) (rs : List Rn) (a : List Int) (w : World) (hn : rs.length = n) (hg : Gd (ess rs) a) (hv : Inv (ess rs) a) (hr : RdOk w A K L R rs a) (hs : SizedR rs) (hc : CapR rs) :
    Calls Try.prog 24 #[.agg #[.slice R n cr, .slice A n ca, .slice K n ck, .slice L n cl, .int .i64 (winA (ess rs) a : Nat)]] w (PeekOut rs a w) := by
  have J := Lib.hid (fun w' (hb : Below w.heap.size w w') => next_good R A K L cr ca ck cl n rs a w' hn hg hv (hr.below hb (Nat.le_refl _)) hs hc)
  clear hn hg hv hr hs hc
  obtain ⟨p, hp⟩ : ∃ p, winA (ess rs) a = p := ⟨_, rfl⟩
  have HP := Lib.hid hp
  rw [hp] at J ⊢
  clear hp
  obtain ⟨w1, hw1⟩ : ∃ w1, (w.alloc (.cells #[.slice R n cr, .slice A n ca, .slice K n ck, .slice L n cl, .int .i64 (p : Int)] 30)).alloc (.cells #[.string ⟨#[]⟩, .string ⟨#[]⟩, .bool false, .int .i64 0] 45) = w1 := ⟨_, rfl⟩
  have hr0 : Rw5 w1 w.heap.size 30 (.slice R n cr) (.slice A n ca) (.slice K n ck) (.slice L n cl) (.int .i64 (p : Int)) := hw1 ▸ hp2 w _ _
  have HX : Hid (Rw4 w1 (w.heap.size + 1) 45 (.string ⟨#[]⟩) (.string ⟨#[]⟩) (.bool false) (.int .i64 0)) := Lib.hid (hw1 ▸ hp3 w _ _ rfl)
  have HB := Lib.hid (show Below w.heap.size w w1 from hw1 ▸ alloc2_below _ _ _)
  have x0 := hr0.c0
  have x1 := hr0.c1
  have x2 := hr0.c2
  have x3 := hr0.c3
  have x4 := hr0.c4
  clear hr0
  obtain ⟨post, hpost⟩ : ∃ post, PeekOut rs a w = post := ⟨_, rfl⟩
  have HPOST := Lib.hid hpost
  rw [hpost]
  clear hpost
  go_enter Try.func24, Try.ntmps24
  go_wp2_with fail
  refine (J.out _ HB.out).mono ?_
  rintro e w2 hq
  obtain ⟨k, v, d, q, r, a1, n1, c1, a2, n2, c2, a3, n3, c3, a4, n4, c4, wn, er, rfl, hb, hout⟩ : ∃ (k v : ByteArray) (d : Bool) (q r : Int) (a1 : Option Addr) (n1 c1 : Nat) (a2 : Option Addr) (n2 c2 : Nat) (a3 : Option Addr) (n3 c3 : Nat) (a4 : Option Addr) (n4 c4 : Nat) (wn er : Int),
      e = .returned (.tuple #[.agg #[.string k, .string v, .bool d, .int .i64 q], .int .i64 r, .agg #[.slice a1 n1 c1, .slice a2 n2 c2, .slice a3 n3 c3, .slice a4 n4 c4, .int .i64 wn], .int .i64 er]) ∧ Below w1.heap.size w1 w2 ∧ ∀ w', Below w.heap.size w w' → post (.returned (.tuple #[.agg #[.string k, .string v, .bool d, .int .i64 q], .int .i64 r, .int .i64 er])) w' := by
    rcases hq with ⟨hd, rfl, hb⟩ | ⟨hd, gr, ga, gk, gl, c1, c2, c3, c4, rfl, hst⟩
    · exact ⟨_, _, _, _, _, _, _, _, _, _, _, _, _, _, _, _, _, _, _, rfl, hb, fun w' h => by rw [← HPOST.out]; exact .inl ⟨hd, rfl, h⟩⟩
    · exact ⟨_, _, _, _, _, _, _, _, _, _, _, _, _, _, _, _, _, _, _, rfl, hst.below, fun w' h => by rw [← HPOST.out]; exact .inr ⟨hd, rfl, h⟩⟩
  have HX2 := Lib.hid (HX.out.below hb (Nat.le_refl _))
  have HB2 := Lib.hid (eb_of HB.out hb (Nat.le_refl _))
  have HO := Lib.hid hout
  clear hb hout hq hw1 x0 x1 x2 x3 x4 HX HB J
  have y0 := HX2.out.c0
  have y1 := HX2.out.c1
  have y2 := HX2.out.c2
  have y3 := HX2.out.c3
  have f0 := HX2.out.fz 0
  have f1 := HX2.out.fz 1
  have f2 := HX2.out.fz 2
  have f3 := HX2.out.fz 3
  go_wp2_with fail
  have e1 := HX2.out.set (.string k) (.string v) (.bool d) (.int .i64 q)
  have e2 := e1.set (.string k) (.string v) (.bool d) (.int .i64 q)
  have b1 := set4B HB2.out (g := w.heap.size + 1) (by omega) (.string k) (.string v) (.bool d) (.int .i64 q)
  have b2 := set4B b1 (g := w.heap.size + 1) (by omega) (.string k) (.string v) (.bool d) (.int .i64 q)
  have u0 := e2.c0
  have u1 := e2.c1
  have u2 := e2.c2
  have u3 := e2.c3
  have HQ := Lib.hid (HO.out _ b2)
  clear e1 e2 b1 b2
  refine bodyPost_ret (v := .tuple #[.agg #[.string k, .string v, .bool d, .int .i64 q], .int .i64 r, .int .i64 er]) (by simp [results, Try.results24, go_sem, u0, u1, u2, u3]) rfl ?_
  exact HQ.out
end Go.Proofs.Ytebjhjmlpodkgaa.KK
