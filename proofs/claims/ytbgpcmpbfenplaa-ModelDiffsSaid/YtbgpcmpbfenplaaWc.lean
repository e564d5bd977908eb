/-
  Diff of the reference.
-/
import Derived.Test.YtbgpcmpbfenplaaWb
import Derived.BigRegion
namespace Go.Proofs.Ytbgpcmpbfenplaa.KK
open Go.ChangeShapes Go.WideShapes Go.ChangeAt Go.RowKit Go.Proofs

def slen : Value → Nat
  | .slice _ n _ => n
  | _ => 0
theorem diffP_nn : diffP [] [] = [] := by unfold diffP; rfl
theorem diffP_cn (x : Pr) (xs : List Pr) : diffP (x :: xs) [] = (2, x.1, x.2, ⟨#[]⟩) :: diffP xs [] := by rw [diffP]
theorem diffP_nc (y : Pr) (ys : List Pr) : diffP [] (y :: ys) = (1, y.1, ⟨#[]⟩, y.2) :: diffP [] ys := by rw [diffP]
theorem diffP_lt {x y : Pr} {xs ys : List Pr} (h : Kl.lt (Kl.L x.1) (Kl.L y.1) = true) : diffP (x :: xs) (y :: ys) = (2, x.1, x.2, ⟨#[]⟩) :: diffP xs (y :: ys) := by rw [diffP, if_pos h]
theorem diffP_gt {x y : Pr} {xs ys : List Pr} (h : Kl.lt (Kl.L x.1) (Kl.L y.1) = false) (g : Kl.lt (Kl.L y.1) (Kl.L x.1) = true) : diffP (x :: xs) (y :: ys) = (1, y.1, ⟨#[]⟩, y.2) :: diffP (x :: xs) ys := by rw [diffP, if_neg (by rw [h]; simp), if_pos g]
theorem diffP_eq {x y : Pr} {xs ys : List Pr} (h : Kl.lt (Kl.L x.1) (Kl.L y.1) = false) (g : Kl.lt (Kl.L y.1) (Kl.L x.1) = false) : diffP (x :: xs) (y :: ys) = (if x.2 = y.2 then [] else [(3, x.1, x.2, y.2)]) ++ diffP xs ys := by rw [diffP, if_neg (by rw [h]; simp), if_neg (by rw [g]; simp)]
theorem diffE_no {xs ys : List Pr} (h : (mapE xs).2 ≠ 0) : diffE xs ys = (mapE xs).2 := if_pos h
theorem diffE_ok {xs ys : List Pr} (h : (mapE xs).2 = 0) : diffE xs ys = (mapE ys).2 := if_neg (by rw [h]; simp)
/-- behind a call of Diff -/
def DOut (xs ys : List Pr) (w : World) (e : Ending) (w' : World) : Prop := ∃ A c, e = .returned (.tuple #[.slice A (diffM xs ys).length c, .int .i64 (diffE xs ys)]) ∧ ItAt w' A (diffM xs ys) ∧ Below w.heap.size w w'
theorem DOut.no {xs ys : List Pr} {w w' : World} {r : Int} (h : diffE xs ys = r) (hr : r ≠ 0) (hb : Below w.heap.size w w') : DOut xs ys w (.returned (.tuple #[.slice none 0 0, .int .i64 r])) w' := by
  have hM := diffM_no (xs := xs) (ys := ys) (by rw [h]; exact hr)
  exact ⟨none, 0, by rw [hM, h]; rfl, .inl hM, hb⟩
theorem DOut.ok {xs ys : List Pr} {w w' : World} {A : Option Addr} {n c : Nat} (h : diffE xs ys = 0) (hn : n = (diffP xs ys).length) (hf : ItAt w' A (diffP xs ys)) (hb : Below w.heap.size w w') : DOut xs ys w (.returned (.tuple #[.slice A n c, .int .i64 0])) w' := by
  have hM : diffM xs ys = diffP xs ys := if_pos h
  exact ⟨A, c, by rw [hM, h, hn], by rw [hM]; exact hf, hb⟩
theorem own_drew {w : World} {base n sz : Nat} {v : Value} {e : TypeId} {xs : List Value} (h : w.ownsRow base e sz v n xs) : w.drew.ownsRow base e sz v n xs := h
theorem ps_tail2 {w w' : World} {A : Option Addr} {x : Pr} {t : List Pr} (h : PsAt w A (x :: t)) (hb : Below w.heap.size w w') : ∃ b off, A = some ⟨b, off, none⟩ ∧ b < w'.heap.size ∧ w'.cell? ⟨b, off, none⟩ = some (.string x.1) ∧ w'.cell? ⟨b, off + 1, none⟩ = some (.string x.2) ∧ PsAt w (some ⟨b, off + 2, none⟩) t := by
  have h' := h.below hb (Nat.le_refl _)
  rcases h with h | ⟨b, off, rfl, hlt, hc⟩
  · cases h
  rcases h' with h' | ⟨b2, off2, e, hlt2, hc2⟩
  · cases h'
  injection e with e; injection e with e1 e2
  subst e1; subst e2
  have h0 := hc2 0 (by simp)
  refine ⟨b, off, rfl, hlt2, by simpa using h0.1, by simpa using h0.2, .inr ⟨b, off + 2, rfl, hlt, fun i hi => ?_⟩⟩
  have := hc (i + 1) (by simpa using hi)
  rw [show off + (i + 1) * 2 = off + 2 + i * 2 by omega] at this
  simpa using this
/-- at a step of a region that draws -/
theorem step_append_it {ops : Array Oper} {o : Oper} {a : Act} {w : World} {K : Act → World → Prop} {Q : Exit → Act → World → Prop} {E : Prop} (hgd : o.guard = none) (s x : Operand)
    (ho : o.op = .call { callee := .builtin .append, args := #[s, x], argTypes := #[38, 38] })
    (base : Nat) (v : Value) (n : Nat) (ls : List It) (hs : a.eval s = v) (hv : w.ownsRow base 74 4 v n (cellsI ls)) (y : It) (ad : Addr) (c : Nat) (hx : a.eval x = .slice (some ad) 1 c)
    (hnews : ∀ j u, (itC y)[j]? = some u → w.cell? (ad.add j) = some u) (hlen : n ≤ 100000) (hbase : base ≤ w.heap.size)
    (h : ∀ v' w', w'.ownsRow base 74 4 v' (n + 1) (cellsI (ls ++ [y])) → w.grownBy w' v.ownBlock → K (a.put o.dst v') w') :
    if Region.wanted o (yielded ops a.tmps) = true then Oper.wp Try.prog o a w K Q else E := by
  have hw : Region.wanted o (yielded ops a.tmps) = true := by simp [Region.wanted, hgd]
  rw [if_pos hw]
  obtain ⟨i0, hi0, hz0, hz1, hz2⟩ := info_parts infoD
  obtain ⟨v', w', hr, h2, h3, h4⟩ := run_append_own (P := Try.prog) w base 38 o.type 74 i0 (.agg #[.int .i64 0, .string ⟨#[]⟩, .string ⟨#[]⟩, .string ⟨#[]⟩]) 4 56 Try.underlying38 hi0 hz0 hz1 hz2 rfl (by decide) v n _ hv ad 1 c (itC y) rfl hnews (by intro u hu; simp [itC] at hu; rcases hu with rfl | rfl | rfl | rfl <;> rfl) (by unfold maxLen; omega) (by omega) hbase
  unfold Oper.wp execOp
  simp only [ho, resolve, invoke, builtin, Sem.run_bind, Sem.run_pure, Result.andThen_ok, List.map_toArray, List.map_cons, List.map_nil, hs, hx, hr]
  exact h v' w' (by rw [cellsI_snoc]; exact h2) h3
theorem ps_if {w : World} {b off cx : Nat} {t : List Pr} (h : PsAt w (some ⟨b, off + 2, none⟩) t) (g : t.length + 1 ≤ cx) : PsAt w (if cx = 1 then some ⟨b, off, none⟩ else some ⟨b, off + 2, none⟩) t := by
  by_cases hc : cx = 1
  · have ht : t = [] := List.eq_nil_of_length_eq_zero (by omega)
    subst ht
    exact .inl rfl
  · rw [if_neg hc]; exact h
set_option maxRecDepth 100000 in
set_option maxHeartbeats 8000000 in
theorem rDiff_any (A B : Option Addr) (c c2 : Nat) (xs ys : List Pr) (w : World) (hf : PsAt w A xs) (hn : xs.length ≤ 4294967295) (hs : SizedP xs) (hcx : xs.length ≤ c) (hg : PsAt w B ys) (hn2 : ys.length ≤ 4294967295) (hs2 : SizedP ys) (hcy : ys.length ≤ c2) :
    Calls Try.prog 21 #[.slice A xs.length c, .slice B ys.length c2] w (DOut xs ys w) := by
  have J1 := Lib.hid (fun w1 (h : Below w.heap.size w w1) => rfCheck_any A c xs w1 (hf.below h (Nat.le_refl _)) hn hs)
  have J2 := Lib.hid (fun w1 (h : Below w.heap.size w w1) => rfCheck_any B c2 ys w1 (hg.below h (Nat.le_refl _)) hn2 hs2)
  by_cases h1 : (mapE xs).2 = 0
  rotate_left
  · have HL := Lib.hid (diffE_no (ys := ys) h1)
    obtain ⟨b1, b2⟩ := ne_b h1
    clear hf hg hs hs2
    generalize (mapE xs).1 = r0 at *
    generalize (mapE xs).2 = r at *
    generalize xs.length = nx at *
    generalize ys.length = ny at *
    go_enter Try.func21, Try.ntmps21
    go_wp2_with fail
    refine (J1.out _ (Below.refl _ _)).mono ?_
    rintro e w1 ⟨rfl, hb⟩
    have HB1 := Lib.hid hb
    clear hb
    go_wp2_with fail
    go_ret2
    exact DOut.no HL.out h1 HB1.out
  rw [h1] at J1
  by_cases h2 : (mapE ys).2 = 0
  rotate_left
  · have HL := Lib.hid (diffE_ok (ys := ys) h1)
    obtain ⟨b1, b2⟩ := ne_b h2
    clear hf hg hs hs2 h1
    generalize (mapE xs).1 = r0 at *
    generalize (mapE ys).1 = r1 at *
    generalize (mapE ys).2 = r at *
    generalize xs.length = nx at *
    generalize ys.length = ny at *
    go_enter Try.func21, Try.ntmps21
    go_wp2_with fail
    refine (J1.out _ (Below.refl _ _)).mono ?_
    rintro e w1 ⟨rfl, hb⟩
    have HB1 := Lib.hid hb
    clear hb
    go_wp2_with fail
    refine (J2.out _ HB1.out).mono ?_
    rintro e w2 ⟨rfl, hb⟩
    have HB2 := Lib.hid (eb_of HB1.out hb (Nat.le_refl _))
    clear hb
    go_wp2_with fail
    go_ret2
    exact DOut.no HL.out h2 HB2.out
  have HL : Hid (diffE xs ys = 0) := Lib.hid (by rw [diffE_ok h1]; exact h2)
  rw [h2] at J2
  obtain ⟨x4, _, _⟩ := map_ok h1
  obtain ⟨y4, _, _⟩ := map_ok h2
  obtain ⟨i0, hi0, hz0, hz1, hz2⟩ := info_parts infoD
  have HF := Lib.hid hf
  have HG := Lib.hid hg
  clear hf hg hs hs2 h1 h2
  generalize (mapE xs).1 = r0 at *
  generalize (mapE ys).1 = r1 at *
  go_enter Try.func21, Try.ntmps21
  go_wp2_with fail
  refine (J1.out _ (Below.refl _ _)).mono ?_
  rintro e w1 ⟨rfl, hb⟩
  have HB1 := Lib.hid hb
  clear hb
  go_wp2_with fail
  refine (J2.out _ HB1.out).mono ?_
  rintro e w2 ⟨rfl, hb⟩
  have HB2 := Lib.hid (eb_of HB1.out hb (Nat.le_refl _))
  clear hb
  go_wp2_with fail
  go_loopw [0, 1, 8] (fun a b v wr => ∃ (X Y V : Option Addr) (cx cy cv n : Nat) (ps qs : List Pr) (ls : List It), a = .slice X ps.length cx ∧ b = .slice Y qs.length cy ∧ v = .slice V n cv ∧ ps.length ≤ cx ∧ qs.length ≤ cy ∧ PsAt w X ps ∧ PsAt w Y qs ∧ n = ls.length ∧ n + ps.length + qs.length ≤ 8000 ∧ wr.ownsRow w.heap.size 74 4 (.slice V n cv) n (cellsI ls) ∧ Below w.heap.size w wr ∧ Hid (diffP xs ys = ls ++ diffP ps qs)) (fun a b _ _ => slen a + slen b)
  case atStart => exact ⟨A, B, none, c, c2, 0, 0, xs, ys, [], rfl, rfl, rfl, hcx, hcy, HF.out, HG.out, rfl, by omega, World.ownsRow_nil _ _ _ _, HB2.out, Lib.hid rfl⟩
  case round =>
    obtain ⟨X, Y, V, cx, cy, cv, n, ps, qs, ls, rfl, rfl, rfl, hpc, hqc, hp, hq, hnl, hsum, hown, hb, HD⟩ := hrel
    have HB := Lib.hid hb
    have hsz := hb.size
    have HNL := Lib.hid hnl
    clear hb hnl
    cases ps with
    | nil =>
      cases qs with
      | nil =>
        have HE : Hid (diffP xs ys = ls) := Lib.hid (by rw [HD.out, diffP_nn, List.append_nil])
        have HI := Lib.hid (ItAt.of_own hown)
        clear hown
        simp only [List.length_nil] at *
        go_wp2_with fail
        go_ret2
        exact DOut.ok HL.out (by rw [HE.out]; exact HNL.out) (by rw [HE.out]; exact HI.out) HB.out
      | cons y u =>
        obtain ⟨b2, off2, rfl, hbl2, f0, f1, hu⟩ := ps_tail2 hq HB.out
        obtain ⟨yk, yv⟩ := y
        simp only at f0 f1
        have HU := Lib.hid hu
        have HQ := Lib.hid hq
        clear hu hq
        have HE : Hid (diffP xs ys = (ls ++ [(1, yk, ⟨#[]⟩, yv)]) ++ diffP [] u) := Lib.hid (by rw [HD.out, diffP_nc, List.append_assoc]; rfl)
        have hz1 : ¬ ((u.length : Int) + 1 = 0) := by omega
        have hz2 : ((u.length : Int) + 1 == 0) = false := by rw [beq_eq_false_iff_ne]; omega
        simp only [List.length_nil, List.length_cons] at *
        have HOW := Lib.hid (fun (w' : World) (hb : Below wr.heap.size wr w') => own_bel hown hb)
        have HD1 := Lib.hid (fun q => show Below wr.heap.size wr ((wr.drewN q).alloc (.cells #[.int .i64 1, .string yk, .string ⟨#[]⟩, .string yv] 74)) from (below_drewN' q).alloc (by simp) _)
        have HLT := Lib.hid (fun g hg => (hown.lt g hg).1)
        clear hown
        go_wp2_with fail
        go_quiet (fail)
        go_wp2_with fail
        go_quiet (fail)
        go_wp2_with fail
        go_region_law ((refine step_append_it (by rfl) (.tmp 110) (.tmp 120) (by rfl) w.heap.size _ n ls (by rfl) (HOW.out _ (HD1.out _)) (1, yk, ⟨#[]⟩, yv) ⟨wr.heap.size, 0, none⟩ 1 (by rfl) (World.news_of_block (cs := #[.int .i64 1, .string yk, .string ⟨#[]⟩, .string yv]) (t := 74) (fr := (0, 0)) (heap_alloc_new _ _)) (by omega) (by simp; omega) ?_; intro v5 w5 hown5 hg5; obtain ⟨A5, c5, hv5, _, _⟩ := own_cap2 hown5; subst hv5; have HB5 := Lib.hid ((HB.out.trans ((HD1.out _).mono hsz)).grown hg5 (by simp; omega) HLT.out); have HO5 := Lib.hid hown5; clear hg5 hown5))
        all_goals
          go_wp2_with fail
          go_roundw
          case rel => exact ⟨X, (if cy = 1 then some ⟨b2, off2, none⟩ else some ⟨b2, off2 + 2, none⟩), A5, cx, cy - 1, c5, n + 1, [], u, ls ++ [(1, yk, ⟨#[]⟩, yv)], rfl, rfl, rfl, by first | omega | (simp only [List.length_nil, List.length_cons]; omega), by first | omega | (simp only [List.length_nil, List.length_cons]; omega), hp, ps_if HU.out hqc, by rw [List.length_append, HNL.out]; rfl, by first | omega | (simp only [List.length_nil, List.length_cons]; omega), HO5.out, HB5.out, HE⟩
          case measure => simp only [slen]; omega
    | cons x t =>
      cases qs with
      | nil =>
        obtain ⟨b, off, rfl, hbl, g0, g1, ht⟩ := ps_tail2 hp HB.out
        obtain ⟨xk, xv⟩ := x
        simp only at g0 g1
        have HT := Lib.hid ht
        have HP := Lib.hid hp
        clear ht hp
        have HE : Hid (diffP xs ys = (ls ++ [(2, xk, xv, ⟨#[]⟩)]) ++ diffP t []) := Lib.hid (by rw [HD.out, diffP_cn, List.append_assoc]; rfl)
        simp only [List.length_nil, List.length_cons] at *
        have HOW := Lib.hid (fun (w' : World) (hb : Below wr.heap.size wr w') => own_bel hown hb)
        have HD1 := Lib.hid (fun q => show Below wr.heap.size wr ((wr.drewN q).alloc (.cells #[.int .i64 2, .string xk, .string xv, .string ⟨#[]⟩] 74)) from (below_drewN' q).alloc (by simp) _)
        have HLT := Lib.hid (fun g hg => (hown.lt g hg).1)
        clear hown
        go_wp2_with fail
        go_quiet (fail)
        go_wp2_with fail
        go_region_law ((refine step_append_it (by rfl) (.tmp 81) (.tmp 91) (by rfl) w.heap.size _ n ls (by rfl) (HOW.out _ (HD1.out _)) (2, xk, xv, ⟨#[]⟩) ⟨wr.heap.size, 0, none⟩ 1 (by rfl) (World.news_of_block (cs := #[.int .i64 2, .string xk, .string xv, .string ⟨#[]⟩]) (t := 74) (fr := (0, 0)) (heap_alloc_new _ _)) (by omega) (by simp; omega) ?_; intro v5 w5 hown5 hg5; obtain ⟨A5, c5, hv5, _, _⟩ := own_cap2 hown5; subst hv5; have HB5 := Lib.hid ((HB.out.trans ((HD1.out _).mono hsz)).grown hg5 (by simp; omega) HLT.out); have HO5 := Lib.hid hown5; clear hg5 hown5))
        all_goals
          go_wp2_with fail
          go_roundw
          case rel => exact ⟨(if cx = 1 then some ⟨b, off, none⟩ else some ⟨b, off + 2, none⟩), Y, A5, cx - 1, cy, c5, n + 1, t, [], ls ++ [(2, xk, xv, ⟨#[]⟩)], rfl, rfl, rfl, by first | omega | (simp only [List.length_nil, List.length_cons]; omega), by first | omega | (simp only [List.length_nil, List.length_cons]; omega), ps_if HT.out hpc, hq, by rw [List.length_append, HNL.out]; rfl, by first | omega | (simp only [List.length_nil, List.length_cons]; omega), HO5.out, HB5.out, HE⟩
          case measure => simp only [slen]; omega
      | cons y u =>
        obtain ⟨b, off, rfl, hbl, g0, g1, ht⟩ := ps_tail2 hp HB.out
        obtain ⟨xk, xv⟩ := x
        simp only at g0 g1
        have HT := Lib.hid ht
        have HP := Lib.hid hp
        clear ht hp
        obtain ⟨b2, off2, rfl, hbl2, f0, f1, hu⟩ := ps_tail2 hq HB.out
        obtain ⟨yk, yv⟩ := y
        simp only at f0 f1
        have HU := Lib.hid hu
        have HQ := Lib.hid hq
        clear hu hq
        have e1 := less_L xk yk
        have e2 := less_L yk xk
        cases h1 : Kl.lt (Kl.L xk) (Kl.L yk) with
        | true =>
          rw [h1] at e1
          clear e2
          have HE : Hid (diffP xs ys = (ls ++ [(2, xk, xv, ⟨#[]⟩)]) ++ diffP t ((yk, yv) :: u)) := Lib.hid (by rw [HD.out, diffP_lt h1, List.append_assoc]; rfl)
          simp only [List.length_nil, List.length_cons] at *
          have HOW := Lib.hid (fun (w' : World) (hb : Below wr.heap.size wr w') => own_bel hown hb)
          have HD1 := Lib.hid (fun q => show Below wr.heap.size wr ((wr.drewN q).alloc (.cells #[.int .i64 2, .string xk, .string xv, .string ⟨#[]⟩] 74)) from (below_drewN' q).alloc (by simp) _)
          have HLT := Lib.hid (fun g hg => (hown.lt g hg).1)
          clear hown
          go_wp2_with fail
          go_quiet (fail)
          go_wp2_with fail
          go_region_law ((refine step_append_it (by rfl) (.tmp 81) (.tmp 91) (by rfl) w.heap.size _ n ls (by rfl) (HOW.out _ (HD1.out _)) (2, xk, xv, ⟨#[]⟩) ⟨wr.heap.size, 0, none⟩ 1 (by rfl) (World.news_of_block (cs := #[.int .i64 2, .string xk, .string xv, .string ⟨#[]⟩]) (t := 74) (fr := (0, 0)) (heap_alloc_new _ _)) (by omega) (by simp; omega) ?_; intro v5 w5 hown5 hg5; obtain ⟨A5, c5, hv5, _, _⟩ := own_cap2 hown5; subst hv5; have HB5 := Lib.hid ((HB.out.trans ((HD1.out _).mono hsz)).grown hg5 (by simp; omega) HLT.out); have HO5 := Lib.hid hown5; clear hg5 hown5))
          all_goals
            go_wp2_with fail
            go_roundw
            case rel => exact ⟨(if cx = 1 then some ⟨b, off, none⟩ else some ⟨b, off + 2, none⟩), _, A5, cx - 1, cy, c5, n + 1, t, (yk, yv) :: u, ls ++ [(2, xk, xv, ⟨#[]⟩)], rfl, rfl, rfl, by first | omega | (simp only [List.length_nil, List.length_cons]; omega), by first | omega | (simp only [List.length_nil, List.length_cons]; omega), ps_if HT.out hpc, HQ.out, by rw [List.length_append, HNL.out]; rfl, by first | omega | (simp only [List.length_nil, List.length_cons]; omega), HO5.out, HB5.out, HE⟩
            case measure => simp only [slen]; omega
        | false =>
          rw [h1] at e1
          cases h2 : Kl.lt (Kl.L yk) (Kl.L xk) with
          | true =>
            rw [h2] at e2
            have HE : Hid (diffP xs ys = (ls ++ [(1, yk, ⟨#[]⟩, yv)]) ++ diffP ((xk, xv) :: t) u) := Lib.hid (by rw [HD.out, diffP_gt h1 h2, List.append_assoc]; rfl)
            simp only [List.length_nil, List.length_cons] at *
            have HOW := Lib.hid (fun (w' : World) (hb : Below wr.heap.size wr w') => own_bel hown hb)
            have HD1 := Lib.hid (fun q => show Below wr.heap.size wr ((wr.drewN q).alloc (.cells #[.int .i64 1, .string yk, .string ⟨#[]⟩, .string yv] 74)) from (below_drewN' q).alloc (by simp) _)
            have HLT := Lib.hid (fun g hg => (hown.lt g hg).1)
            clear hown
            go_wp2_with fail
            go_quiet (fail)
            go_wp2_with fail
            go_quiet (fail)
            go_wp2_with fail
            go_region_law ((refine step_append_it (by rfl) (.tmp 110) (.tmp 120) (by rfl) w.heap.size _ n ls (by rfl) (HOW.out _ (HD1.out _)) (1, yk, ⟨#[]⟩, yv) ⟨wr.heap.size, 0, none⟩ 1 (by rfl) (World.news_of_block (cs := #[.int .i64 1, .string yk, .string ⟨#[]⟩, .string yv]) (t := 74) (fr := (0, 0)) (heap_alloc_new _ _)) (by omega) (by simp; omega) ?_; intro v5 w5 hown5 hg5; obtain ⟨A5, c5, hv5, _, _⟩ := own_cap2 hown5; subst hv5; have HB5 := Lib.hid ((HB.out.trans ((HD1.out _).mono hsz)).grown hg5 (by simp; omega) HLT.out); have HO5 := Lib.hid hown5; clear hg5 hown5))
            all_goals
              go_wp2_with fail
              go_roundw
              case rel => exact ⟨_, (if cy = 1 then some ⟨b2, off2, none⟩ else some ⟨b2, off2 + 2, none⟩), A5, cx, cy - 1, c5, n + 1, (xk, xv) :: t, u, ls ++ [(1, yk, ⟨#[]⟩, yv)], rfl, rfl, rfl, by first | omega | (simp only [List.length_nil, List.length_cons]; omega), by first | omega | (simp only [List.length_nil, List.length_cons]; omega), HP.out, ps_if HU.out hqc, by rw [List.length_append, HNL.out]; rfl, by first | omega | (simp only [List.length_nil, List.length_cons]; omega), HO5.out, HB5.out, HE⟩
              case measure => simp only [slen]; omega
          | false =>
            rw [h2] at e2
            by_cases hv : xv = yv
            · have HE : Hid (diffP xs ys = ls ++ diffP t u) := Lib.hid (by rw [HD.out, diffP_eq h1 h2, if_pos hv]; rfl)
              subst hv
              have HO5 := Lib.hid hown
              clear hown
              simp only [List.length_nil, List.length_cons] at *
              go_wp2_with fail
              go_quiet (fail)
              go_wp2_with fail
              go_quiet (fail)
              go_wp2_with fail
              go_quiet (fail)
              go_wp2_with fail
              go_quiet (fail)
              go_wp2_with fail
              go_roundw
              case rel => exact ⟨(if cx = 1 then some ⟨b, off, none⟩ else some ⟨b, off + 2, none⟩), (if cy = 1 then some ⟨b2, off2, none⟩ else some ⟨b2, off2 + 2, none⟩), V, cx - 1, cy - 1, cv, n, t, u, ls, rfl, rfl, rfl, by omega, by omega, ps_if HT.out hpc, ps_if HU.out hqc, HNL.out, by omega, HO5.out, below_drewN (below_drewN (below_drewN (below_drewN HB.out _) _) _) _, HE⟩
              case measure => simp only [slen]; omega
            · have HE : Hid (diffP xs ys = (ls ++ [(3, xk, xv, yv)]) ++ diffP t u) := Lib.hid (by rw [HD.out, diffP_eq h1 h2, if_neg hv, List.append_assoc])
              have hv2 := str_beq_ne hv
              have hb1 : (1 : Int) ≤ (t.length : Int) + 1 := by omega
              have hb2 : (1 : Int) ≤ (u.length : Int) + 1 := by omega
              simp only [List.length_nil, List.length_cons] at *
              have HOW := Lib.hid (fun (w' : World) (hb : Below wr.heap.size wr w') => own_bel hown hb)
              have HD1 := Lib.hid (fun q => show Below wr.heap.size wr ((wr.drewN q).alloc (.cells #[.int .i64 3, .string xk, .string xv, .string yv] 74)) from (below_drewN' q).alloc (by simp) _)
              have HLT := Lib.hid (fun g hg => (hown.lt g hg).1)
              clear hown
              go_wp2_with fail
              go_quiet (fail)
              go_wp2_with fail
              go_quiet (fail)
              go_wp2_with fail
              go_quiet (fail)
              go_wp2_with fail
              go_region_law ((refine step_append_it (by rfl) (.tmp 41) (.tmp 55) (by rfl) w.heap.size _ n ls (by rfl) (HOW.out _ (HD1.out _)) (3, xk, xv, yv) ⟨wr.heap.size, 0, none⟩ 1 (by rfl) (World.news_of_block (cs := #[.int .i64 3, .string xk, .string xv, .string yv]) (t := 74) (fr := (0, 0)) (heap_alloc_new _ _)) (by omega) (by simp; omega) ?_; intro v5 w5 hown5 hg5; obtain ⟨A5, c5, hv5, _, _⟩ := own_cap2 hown5; subst hv5; have HB5 := Lib.hid ((HB.out.trans ((HD1.out _).mono hsz)).grown hg5 (by simp; omega) HLT.out); have HO5 := Lib.hid hown5; clear hg5 hown5))
              all_goals
                go_wp2_with fail
                go_quiet (fail)
                go_wp2_with fail
                go_roundw
                case rel => exact ⟨(if cx = 1 then some ⟨b, off, none⟩ else some ⟨b, off + 2, none⟩), (if cy = 1 then some ⟨b2, off2, none⟩ else some ⟨b2, off2 + 2, none⟩), A5, cx - 1, cy - 1, c5, n + 1, t, u, ls ++ [(3, xk, xv, yv)], rfl, rfl, rfl, by first | omega | (simp only [List.length_nil, List.length_cons]; omega), by first | omega | (simp only [List.length_nil, List.length_cons]; omega), ps_if HT.out hpc, ps_if HU.out hqc, by rw [List.length_append, HNL.out]; rfl, by first | omega | (simp only [List.length_nil, List.length_cons]; omega), HO5.out, below_drewN HB5.out _, HE⟩
                case measure => simp only [slen]; omega
end Go.Proofs.Ytbgpcmpbfenplaa.KK
