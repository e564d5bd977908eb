/-
  The contract of readSpans.
-/
import Derived.Test.YthifbihmogjjpaaDoorXv
import Derived.Deep.RegionHeld3
namespace Go.Proofs.YthifbihmogjjpaaDoor
open Go.ChangeShapes Go.WideShapes Go.ChangeAt Go.RowKit Go.Proofs

theorem infoP : (Tryd.prog.info? 69).map (fun i => (i.zero, i.size, i.bytes)) = some (some (.agg #[.string ⟨#[]⟩, .string ⟨#[]⟩]), 2, 32) := by kernel_rfl
theorem cellw_lt {w : World} {a : Addr} {v : Value} (h : w.cell? a = some v) : a.block < w.heap.size := by
  rcases Nat.lt_or_ge a.block w.heap.size with h' | h'
  · exact h'
  · simp [World.cell?, Array.getElem?_eq_none h'] at h
theorem keep2 {w w1 : World} {a b : Addr} {u v : Value} (hb : Below w.heap.size w w1) (h : w.cell? a = some u ∧ w.cell? b = some v) : w1.cell? a = some u ∧ w1.cell? b = some v :=
  ⟨(hb.cell (p := a) (cellw_lt h.1)).trans h.1, (hb.cell (p := b) (cellw_lt h.2)).trans h.2⟩
def cellsP (xs : List (List UInt8 × List UInt8)) : List Value := xs.flatMap fun x => [.string ⟨x.1.toArray⟩, .string ⟨x.2.toArray⟩]
theorem cellsP_snoc (xs : List (List UInt8 × List UInt8)) (x : List UInt8 × List UInt8) : cellsP (xs ++ [x]) = cellsP xs ++ [.string ⟨x.1.toArray⟩, .string ⟨x.2.toArray⟩] := by simp [cellsP]
theorem cellsP_len (xs : List (List UInt8 × List UInt8)) : (cellsP xs).length = xs.length * 2 := by
  induction xs with
  | nil => rfl
  | cons x xs ih => simp only [cellsP, List.flatMap_cons, List.length_append, List.length_cons, List.length_nil] at ih ⊢; omega
theorem cellsP_get : ∀ (xs : List (List UInt8 × List UInt8)) (i : Nat) (h : i < xs.length), (cellsP xs)[i * 2]? = some (.string ⟨xs[i].1.toArray⟩) ∧ (cellsP xs)[i * 2 + 1]? = some (.string ⟨xs[i].2.toArray⟩)
  | f :: fs, 0, _ => by simp [cellsP]
  | f :: fs, i + 1, h => by
    have := cellsP_get fs i (by simpa using h)
    have e : ∀ j, (cellsP (f :: fs))[j + 2]? = (cellsP fs)[j]? := fun j => by simp [cellsP]
    rw [show (i + 1) * 2 = i * 2 + 2 by omega, show i * 2 + 2 + 1 = (i * 2 + 1) + 2 by omega, e, e]
    simpa using this
/-- a slice value that reads as spans -/
def SpansAt (w : World) (A : Option Addr) (xs : List (List UInt8 × List UInt8)) : Prop :=
  xs = [] ∨ ∃ b, A = some ⟨b, 0, none⟩ ∧ b < w.heap.size ∧ ∀ (i : Nat) (h : i < xs.length), w.cell? ⟨b, i * 2, none⟩ = some (.string ⟨xs[i].1.toArray⟩) ∧ w.cell? ⟨b, i * 2 + 1, none⟩ = some (.string ⟨xs[i].2.toArray⟩)
theorem SpansAt.below {B : Nat} {w w' : World} {A : Option Addr} {xs : List (List UInt8 × List UInt8)} (h : SpansAt w A xs) (hb : Below B w w') (hB : w.heap.size ≤ B) : SpansAt w' A xs := by
  rcases h with h | ⟨b, hA, hlt, hc⟩
  · exact .inl h
  · refine .inr ⟨b, hA, Nat.lt_of_lt_of_le hlt hb.size, fun i hi => ⟨?_, ?_⟩⟩
    · rw [hb.cell (p := ⟨b, i * 2, none⟩) (by simp; omega)]; exact (hc i hi).1
    · rw [hb.cell (p := ⟨b, i * 2 + 1, none⟩) (by simp; omega)]; exact (hc i hi).2
theorem SpansAt.of_own {w : World} {base : Nat} {v : Value} {n : Nat} {xs : List (List UInt8 × List UInt8)} (h : w.ownsRow base 69 2 v n (cellsP xs)) : ∃ A c, v = .slice A xs.length c ∧ SpansAt w A xs := by
  have hn : n = xs.length := by
    have := h.1
    rw [cellsP_len] at this
    omega
  subst hn
  obtain ⟨A, c, rfl⟩ := own_slice h
  refine ⟨A, c, rfl, ?_⟩
  by_cases h0 : xs = []
  · exact .inl h0
  · have hpos : 0 < xs.length := List.length_pos_iff.2 h0
    have hform : ∃ g cap, Value.slice A xs.length c = .slice (some ⟨g, 0, none⟩) xs.length cap ∧ g < w.heap.size := by
      rcases h.2 with ⟨_, h1⟩ | ⟨g, cap, cur, hv, _, hh, _⟩
      · omega
      · exact ⟨g, cap, hv, (Array.getElem?_eq_some_iff.1 hh).1⟩
    obtain ⟨g, cap, hv, hlt⟩ := hform
    have hA : A = some ⟨g, 0, none⟩ := by injection hv
    refine .inr ⟨g, hA, hlt, fun i hi => ?_⟩
    have hcell := h.cells (g := g) (by rw [hv]; rfl)
    obtain ⟨a0, a1⟩ := cellsP_get xs i hi
    have hadd : ∀ j, (⟨g, 0, none⟩ : Addr).add j = ⟨g, j, none⟩ := fun j => by unfold Addr.add; split <;> simp_all
    have b0 := hcell _ _ a0
    have b1 := hcell _ _ a1
    rw [hadd] at b0 b1
    exact ⟨b0, b1⟩
/-- what has been read so far -/
def Read (ps : List (List UInt8)) (k : Nat) (xs : List (List UInt8 × List UInt8)) : Prop :=
  Pl.spansFrom none ps = (Pl.spansFrom (xs.getLast?.map (·.2)) (ps.drop k)).map (xs ++ ·) ∧ xs.length = k ∧ ∀ x ∈ xs, Pl.nat x.2 = true ∧ x.1.length ≤ 1000000000 ∧ x.2.length ≤ 1000000000 ∧ Pl.nat x.1 = true
theorem Read.start (ps : List (List UInt8)) : Read ps 0 [] := ⟨by simp, rfl, by simp⟩
theorem Read.none_ {ps : List (List UInt8)} {k : Nat} {xs : List (List UInt8 × List UInt8)} (h : Read ps k xs) (hk : k < ps.length) (hr : Pl.rs ps[k] = none) : Pl.spansFrom none ps = none := by
  rw [h.1, List.drop_eq_getElem_cons hk, Pl.spansFrom, hr]; rfl
theorem Read.bad {ps : List (List UInt8)} {k : Nat} {xs : List (List UInt8 × List UInt8)} {y x : List UInt8 × List UInt8} (h : Read ps k (xs ++ [y])) (hk : k < ps.length) (hr : Pl.rs ps[k] = some x) (hl : Pl.lessB (Pl.suc y.2) x.1 = false) : Pl.spansFrom none ps = none := by
  rw [h.1, List.drop_eq_getElem_cons hk, Pl.spansFrom, hr]
  simp [hl]
theorem Read.first {ps : List (List UInt8)} {k : Nat} {x : List UInt8 × List UInt8} (h : Read ps k []) (hk : k < ps.length) (hr : Pl.rs ps[k] = some x) (hb : ps[k].length ≤ 1000000000) : Read ps (k + 1) ([] ++ [x]) := by
  have hk0 : k = 0 := by have := h.2.1; simp at this; omega
  refine ⟨?_, by subst hk0; rfl, fun z hz => ?_⟩
  · rw [h.1, List.drop_eq_getElem_cons hk, Pl.spansFrom, hr]
    simp [Function.comp_def]
  · simp at hz; subst hz; have g := Pl.rs_len hr; exact ⟨g.2.2.2, by omega, by omega, g.2.2.1⟩
theorem Read.next {ps : List (List UInt8)} {k : Nat} {xs : List (List UInt8 × List UInt8)} {y x : List UInt8 × List UInt8} (h : Read ps k (xs ++ [y])) (hk : k < ps.length) (hr : Pl.rs ps[k] = some x) (hl : Pl.lessB (Pl.suc y.2) x.1 = true) (hb : ps[k].length ≤ 1000000000) : Read ps (k + 1) ((xs ++ [y]) ++ [x]) := by
  refine ⟨?_, by rw [List.length_append, h.2.1]; rfl, fun z hz => ?_⟩
  · rw [h.1, List.drop_eq_getElem_cons hk, Pl.spansFrom, hr]
    simp [hl, Option.map_map, Function.comp_def]
  · rcases List.mem_append.1 hz with hz | hz
    · exact h.2.2 z hz
    · simp at hz; subst hz; have g := Pl.rs_len hr; exact ⟨g.2.2.2, by omega, by omega, g.2.2.1⟩
theorem Read.done {ps : List (List UInt8)} {k : Nat} {xs : List (List UInt8 × List UInt8)} (h : Read ps k xs) (hk : ps.length ≤ k) : Pl.spansFrom none ps = some xs := by
  rw [h.1, List.drop_of_length_le hk, Pl.spansFrom]; simp
theorem nat_digs {l : List UInt8} (h : Pl.nat l = true) : ∀ (j : Nat) (hj : j < l.length), l[j].toNat ≤ 57 := by
  obtain ⟨c, r, rfl, hd⟩ := Pl.nat_parts h
  intro j hj
  have := List.all_eq_true.1 hd _ (List.getElem_mem hj)
  unfold Pl.dig at this
  simp at this
  omega
theorem suc_f (t : List UInt8) (w : World) (hs : t.length ≤ 4294967295) (hn : Pl.nat t = true) :
    Calls Tryd.prog 59 #[.string ⟨t.toArray⟩] w fun e w' => e = .returned (.string ⟨(Pl.suc t).toArray⟩) ∧ Below w.heap.size w w' := by
  have := successor_any ⟨t.toArray⟩ w (by rw [size_mk]; exact hs) (by rw [L_mk]; exact nat_digs hn)
  rwa [L_mk] at this

def spansV (r : Option (List (List UInt8 × List UInt8))) (A : Option Addr) (c : Nat) : Value := .tuple #[.slice A (r.getD []).length c, .bool r.isSome]
def SpansOut (r : Option (List (List UInt8 × List UInt8))) (w : World) (e : Ending) (w' : World) : Prop :=
  ∃ A c, e = .returned (.tuple #[.slice A (r.getD []).length c, .bool r.isSome]) ∧ SpansAt w' A (r.getD []) ∧ Below w.heap.size w w'

theorem snoc_or {α : Type} (xs : List α) : xs = [] ∨ ∃ ys y, xs = ys ++ [y] := by
  by_cases h : xs = []
  · exact .inl h
  · exact .inr ⟨xs.dropLast, xs.getLast h, (List.dropLast_concat_getLast h).symm⟩
theorem spansG {r q : Option (List (List UInt8 × List UInt8))} (w w' : World) (A : Option Addr) (c : Nat) (h : r = q) (hf : SpansAt w' A (q.getD [])) (hb : Below w.heap.size w w') (E : Ending) (hE : E = .returned (.tuple #[.slice A (q.getD []).length c, .bool q.isSome])) : SpansOut r w E w' := by
  subst h; exact ⟨A, c, hE, hf, hb⟩

set_option maxRecDepth 100000 in
set_option maxHeartbeats 4000000 in
theorem readSpans_any (t : List UInt8) (w : World) (he : Env w) (h4 : C4 w) (hs : t.length ≤ 1000000000) :
    Calls Tryd.prog 37 #[.string ⟨t.toArray⟩] w (SpansOut (Pl.spans t) w) := by
  have K1 := fun w h4 => split_at 44 t w h4 (by omega)
  have hpl := Pl.segs_len 44 t
  have hpm := Pl.segs_mem_len 44 t
  have HSP : Hid (Pl.spans t = Pl.spansFrom none (Pl.segs 44 t)) := Lib.hid rfl
  obtain ⟨ps, hps⟩ : ∃ ps, Pl.segs 44 t = ps := ⟨_, rfl⟩
  rw [hps] at K1 hpl hpm HSP
  have J1 := Lib.hid K1
  have HPM := Lib.hid hpm
  have HE := Lib.hid he
  have H4 := Lib.hid h4
  clear hps K1 hpm he h4
  obtain ⟨i0, hi, hz0, hz1, hz2⟩ := info_parts infoP
  go_enter Tryd.func37, Tryd.ntmps37
  go_wp2_with fail
  refine (J1.out _ H4.out).mono ?_
  rintro e w1 ⟨rfl, hst, hb1⟩
  have HST := Lib.hid hst
  have HB1 := Lib.hid hb1
  have H4 := Lib.hid (H4.out.below HE.out hb1)
  have HE := Lib.hid (HE.out.below hb1)
  have hsz1 := hb1.size
  clear hst hb1
  go_wp2_with fail
  go_loopw [4, 12] (fun v i wr => ∃ (k : Nat) (xs : List (List UInt8 × List UInt8)), k ≤ ps.length ∧ i = .int .i64 k ∧ wr.ownsRow w1.heap.size 69 2 v xs.length (cellsP xs) ∧ Below w1.heap.size w1 wr ∧ Hid (Read ps k xs)) (fun _ i _ => ps.length - (intOf i).toNat)
  case atStart => exact ⟨0, [], Nat.zero_le _, rfl, World.ownsRow_nil _ _ _ _, Below.refl _ _, Lib.hid (Read.start ps)⟩
  case round =>
    obtain ⟨k, xs, hk, rfl, hown, hb, HR⟩ := hrel
    have hsz := hb.size
    have HB := Lib.hid hb
    have HEr := Lib.hid (HE.out.below hb)
    have H4r := Lib.hid (H4.out.below HE.out hb)
    have hst := HST.out.below hb (Nat.le_refl _)
    have hxk : xs.length = k := HR.out.2.1
    clear hb
    by_cases hlt : k < ps.length
    · rcases hst with h0 | ⟨bp, offp, hA, hbl, hc⟩
      · subst h0; simp at hlt
      have hA' : (⟨w.heap.size, 0, none⟩ : Addr) = ⟨bp, offp, none⟩ := Option.some.inj hA
      injection hA' with e1 e2 e3
      subst e1 e2
      have g0 := hc k hlt
      rw [Nat.zero_add] at g0
      have hbp := hbl
      have l1 : (k : Int) < (ps.length : Int) := by omega
      clear hc hA e3
      have hpl2 := HPM.out _ (List.getElem_mem hlt)
      obtain ⟨p, hp⟩ : ∃ p, ps[k] = p := ⟨_, rfl⟩
      rw [hp] at g0 hpl2
      have HP := Lib.hid hp
      cases hrs : Pl.rs p with
      | none =>
        have HNO := Lib.hid (HSP.out.trans (HR.out.none_ hlt (by rw [HP.out]; exact hrs)))
        have K2 : ∀ w, Env w → C4 w → Calls Tryd.prog 57 #[.string ⟨p.toArray⟩] w fun e w' => e = .returned (.tuple #[.agg #[.string ⟨#[]⟩, .string ⟨#[]⟩], .bool false]) ∧ Below w.heap.size w w' := fun w he h4 => by
          have := readSpan_any p w he h4 (by omega)
          rwa [hrs] at this
        have J2 := Lib.hid K2
        clear hrs hp K2
        go_wp2_with fail
        refine (J2.out _ HEr.out H4r.out).mono ?_
        rintro e w2 ⟨rfl, hb2⟩
        have HB2 := Lib.hid (below_of HB.out hb2 (Nat.le_refl _))
        clear hb2
        go_wp2_with fail
        go_ret2
        exact spansG w _ none 0 HNO.out (.inl rfl) (below_of HB1.out (HB2.out.alloc (by have := HB2.out.size; omega) _) (Nat.le_refl _)) _ rfl
      | some x =>
        obtain ⟨x1, x2⟩ := x
        have hxl := Pl.rs_len hrs
        replace hxl : x1.length ≤ p.length ∧ x2.length ≤ p.length ∧ Pl.nat x1 = true ∧ Pl.nat x2 = true := hxl
        have HRS := Lib.hid hrs
        have K2 : ∀ w, Env w → C4 w → Calls Tryd.prog 57 #[.string ⟨p.toArray⟩] w fun e w' => e = .returned (.tuple #[.agg #[.string ⟨x1.toArray⟩, .string ⟨x2.toArray⟩], .bool true]) ∧ Below w.heap.size w w' := fun w he h4 => by
          have := readSpan_any p w he h4 (by omega)
          rwa [hrs] at this
        have J2 := Lib.hid K2
        clear hrs hp K2
        go_wp2_with fail
        refine (J2.out _ HEr.out H4r.out).mono ?_
        rintro e w2 ⟨rfl, hb2⟩
        have hown2 := own_below hown hb2
        have hsz2 := hb2.size
        have HB2 := Lib.hid (below_of HB.out hb2 (Nat.le_refl _))
        clear hb2 hown
        -- the struct in memory
        have hownA := hown2.alloc (.cells #[.string ⟨x1.toArray⟩, .string ⟨x2.toArray⟩] 69)
        have hbA := HB2.out.alloc (by omega) (.cells #[.string ⟨x1.toArray⟩, .string ⟨x2.toArray⟩] 69)
        have c0 := cell_of_row (w2.alloc (.cells #[.string ⟨x1.toArray⟩, .string ⟨x2.toArray⟩] 69)) w2.heap.size 0 _ _ _ (heap_alloc_new w2 _)
        have c1 := cell_of_row (w2.alloc (.cells #[.string ⟨x1.toArray⟩, .string ⟨x2.toArray⟩] 69)) w2.heap.size 1 _ _ _ (heap_alloc_new w2 _)
        have hsa : (w2.alloc (.cells #[.string ⟨x1.toArray⟩, .string ⟨x2.toArray⟩] 69)).heap.size = w2.heap.size + 1 := by simp
        obtain ⟨wa, hwa⟩ : ∃ wa, w2.alloc (.cells #[.string ⟨x1.toArray⟩, .string ⟨x2.toArray⟩] 69) = wa := ⟨_, rfl⟩
        rw [hwa] at hownA hbA c0 c1 hsa
        replace c0 : wa.cell? ⟨w2.heap.size, 0, none⟩ = some (.string ⟨x1.toArray⟩) := c0
        replace c1 : wa.cell? ⟨w2.heap.size, 1, none⟩ = some (.string ⟨x2.toArray⟩) := c1
        have HBA := Lib.hid hbA
        have hnb : ∀ {wx : World} {vv : Value} {nn : Nat} {zz : List Value}, w2.ownsRow w1.heap.size 69 2 vv nn zz → some w2.heap.size ≠ Value.ownBlock vv := fun h e => by have := (h.lt _ e.symm).2; omega
        rcases snoc_or xs with rfl | ⟨ys, y, rfl⟩
        · obtain ⟨A0, q0, hv0⟩ := own_slice hown2
          replace hv0 : u4 = .slice A0 0 q0 := hv0
          subst hv0
          have HOA := Lib.hid hownA
          have hd : decide ((0 : Int) < ((0 : Nat) : Int)) = false := by decide
          have hd2 : decide ((0 : Int) < 0) = false := by decide
          have hn2 : ∀ (n j : Nat) (u : Value), [Value.string ⟨x1.toArray⟩, Value.string ⟨x2.toArray⟩][j]? = some u → ((wa.drewN n).alloc (.cells #[.string ⟨x1.toArray⟩, .string ⟨x2.toArray⟩] 69)).cell? ((⟨w2.heap.size + 1, 0, none⟩ : Addr).add j) = some u := fun n => by
            have e : (wa.drewN n).heap.size = w2.heap.size + 1 := hsa
            rw [← e]; exact cell_two_new (wa.drewN n) _ _ _
          have N2 := Lib.hid hn2
          have HNX := Lib.hid (HR.out.first hlt (by rw [HP.out]; exact HRS.out) (by rw [HP.out]; omega))
          clear hbA hn2 hnb hownA
          go_wp2_with fail
          go_quiet (fail)
          go_wp2_with (at_builtin; go_loud (refine wpList_append_own _ rfl (.tmp 40) (.tmp 42) 65 rfl w1.heap.size 69 i0 (.agg #[.string ⟨#[]⟩, .string ⟨#[]⟩]) 2 32 Tryd.underlying65 hi hz0 hz1 hz2 rfl (by decide) _ 0 _ rfl ((own_below HOA.out (below_drewN' _)).alloc _) ⟨w2.heap.size + 1, 0, none⟩ 1 1 [.string ⟨x1.toArray⟩, .string ⟨x2.toArray⟩] rfl rfl (N2.out _) (by simp [Value.oneCell']) (by unfold maxLen; omega) (by omega) (by simp; omega) ?_; intro v3 w3 hown3 hg3 _; have hb3 := ((below_drewN HBA.out _).alloc (by simp; omega) (.cells #[.string ⟨x1.toArray⟩, .string ⟨x2.toArray⟩] 69)).grown hg3 (by simp; omega) (fun g hg => (HOA.out.lt g hg).1); have HB3 := Lib.hid hb3; have HO3 := Lib.hid hown3; clear hg3 hb3 hown3))
          go_roundw
          case rel => exact ⟨k + 1, [] ++ [(x1, x2)], by omega, by go_num, by rw [cellsP_snoc]; exact HO3.out, HB3.out, HNX⟩
          case measure => simp [intOf]; omega
        · obtain ⟨y1, y2⟩ := y
          obtain ⟨A0, q0, hv0, hsp⟩ := SpansAt.of_own hown2
          rcases hsp with h | ⟨gs, rfl, hgl, hcs⟩
          · exact absurd h (by simp)
          have hlast := (hcs ys.length (by simp)).2
          rw [List.getElem_append_right (by simp)] at hlast
          simp only [Nat.sub_self, List.getElem_cons_zero] at hlast
          obtain ⟨n, hn⟩ : ∃ n, ys.length = n := ⟨_, rfl⟩
          have hn1 : (ys ++ [(y1, y2)]).length = n + 1 := by simp [hn]
          have hnk : n + 1 ≤ ps.length := by omega
          rw [hn] at hlast
          rw [hn1] at hv0 hownA
          subst hv0
          have cl : wa.cell? ⟨gs, n * 2 + 1, none⟩ = some (.string ⟨y2.toArray⟩) := by
            rw [← hwa]; exact (World.cell?_alloc_lt _ _ _ hgl).trans hlast
          have HOA := Lib.hid hownA
          have hd : decide ((0 : Int) < ((n + 1 : Nat) : Int)) = true := by first | (simp; done) | (simp; omega)
          have hb0 : (0 : Int) ≤ (n : Int) := by omega
          have hb1 : (n : Int) < ((n + 1 : Nat) : Int) := by omega
          have hb2 : (n : Int) < (n : Int) + 1 := by omega
          have hs1 : ((n + 1 : Nat) : Int) - 1 = (n : Int) := by omega
          have hs2 : IntKind.i64.wrap (n : Int) = (n : Int) := IntWalk.i64_in _ (by omega)
          have hs3 : IntKind.i64.wrap (((n + 1 : Nat) : Int) - 1) = (n : Int) := by rw [hs1]; exact hs2
          have HN1 := Lib.hid hn1
          have hny := (HR.out.2.2 (y1, y2) (by simp)).1
          have HY : Hid (y2.length ≤ 4294967295) := Lib.hid (by have := (HR.out.2.2 (y1, y2) (by simp)).2.2.1; simp only at this; omega)
          have J3 := Lib.hid (fun w => suc_f y2 w HY.out hny)
          cases hle : Pl.lessB (Pl.suc y2) x1 with
          | false =>
            have K4 : ∀ w, Calls Tryd.prog 58 #[.string ⟨(Pl.suc y2).toArray⟩, .string ⟨x1.toArray⟩] w fun e w' => e = .returned (.bool false) ∧ w = w' := fun w => by
              have h := less_f (Pl.suc y2) x1 w (by have := Pl.suc_len y2; have := (HR.out.2.2 (y1, y2) (by simp)).2.2.1; simp only at this; omega) (by omega)
              rwa [hle] at h
            have J4 := Lib.hid K4
            have HNO := Lib.hid (HSP.out.trans (HR.out.bad hlt (by rw [HP.out]; exact HRS.out) hle))
            clear K4 hle hny hn hn1 hcs hlast hnb hbA hownA hown2
            go_wp2_with fail
            go_region_held3 (fun w' => w'.cell? ⟨gs, n * 2 + 1, none⟩ = some (.string ⟨y2.toArray⟩) ∧ w'.cell? ⟨w2.heap.size, 0, none⟩ = some (.string ⟨x1.toArray⟩))
              (first
                | go_keep
                | (exact keep2 (undrew (by assumption)) ⟨cl, c0⟩)
                | (exact keep2 (by assumption) (by assumption)))
              (first
                | (go_at_call 59; refine (J3.out _).mono ?_; rintro e w4 ⟨rfl, hb4⟩)
                | (go_at_call 58; refine (J4.out _).mono ?_; rintro e w5 ⟨rfl, rfl⟩))
            all_goals
              go_wp2_with fail
              go_ret2
              first
                | exact spansG w _ none 0 HNO.out (.inl rfl) (below_of HB1.out (below_of HBA.out (undrew hb4) (Nat.le_refl _)) (Nat.le_refl _)) _ rfl
                | exact spansG w _ none 0 HNO.out (.inl rfl) (below_of HB1.out (redrew (below_of HBA.out hb4 (Nat.le_refl _))) (Nat.le_refl _)) _ rfl
                | exact spansG w _ none 0 HNO.out (.inl rfl) (below_of HB1.out (below_of HBA.out hb4 (Nat.le_refl _)) (Nat.le_refl _)) _ rfl
          | true =>
            have K4 : ∀ w, Calls Tryd.prog 58 #[.string ⟨(Pl.suc y2).toArray⟩, .string ⟨x1.toArray⟩] w fun e w' => e = .returned (.bool true) ∧ w = w' := fun w => by
              have h := less_f (Pl.suc y2) x1 w (by have := Pl.suc_len y2; have := (HR.out.2.2 (y1, y2) (by simp)).2.2.1; simp only at this; omega) (by omega)
              rwa [hle] at h
            have J4 := Lib.hid K4
            have HNX := Lib.hid (HR.out.next hlt (by rw [HP.out]; exact HRS.out) hle (by rw [HP.out]; omega))
            clear K4 hle hny hn hn1 hcs hlast hnb hbA hownA hown2
            go_wp2_with fail
            go_region_held3 (fun w' => w'.cell? ⟨gs, n * 2 + 1, none⟩ = some (.string ⟨y2.toArray⟩) ∧ w'.cell? ⟨w2.heap.size, 0, none⟩ = some (.string ⟨x1.toArray⟩))
              (first
                | go_keep
                | (exact keep2 (undrew (by assumption)) ⟨cl, c0⟩)
                | (exact keep2 (by assumption) (by assumption)))
              (first
                | (go_at_call 59; refine (J3.out _).mono ?_; rintro e w4 ⟨rfl, hb4⟩)
                | (go_at_call 58; refine (J4.out _).mono ?_; rintro e w5 ⟨rfl, rfl⟩))
            all_goals
              have hb4' := undrew hb4
              have hw4 := own_below HOA.out hb4'
              have hs4 := hb4'.size
              have d0 := (hb4'.cell (p := ⟨w2.heap.size, 0, none⟩) (by simp; omega)).trans c0
              have d1 := (hb4'.cell (p := ⟨w2.heap.size, 1, none⟩) (by simp; omega)).trans c1
              have HB4 := Lib.hid (below_of HBA.out hb4' (Nat.le_refl _))
              clear hb4 hb4'
              go_wp2_with (at_builtin; go_loud (refine wpList_append_own _ rfl (.tmp 40) (.tmp 42) 65 rfl w1.heap.size 69 i0 (.agg #[.string ⟨#[]⟩, .string ⟨#[]⟩]) 2 32 Tryd.underlying65 hi hz0 hz1 hz2 rfl (by decide) _ (n + 1) _ rfl (hw4.alloc _) ⟨w4.heap.size, 0, none⟩ 1 1 [.string ⟨x1.toArray⟩, .string ⟨x2.toArray⟩] rfl rfl (cell_two_new w4 _ _ _) (by simp [Value.oneCell']) (by unfold maxLen; omega) (by omega) (by simp; omega) ?_; intro v3 w3 hown3 hg3 _; have hb3 := (HB4.out.alloc (by omega) (.cells #[.string ⟨x1.toArray⟩, .string ⟨x2.toArray⟩] 69)).grown hg3 (by simp; omega) (fun g hg => (hw4.lt g hg).1); have HB3 := Lib.hid hb3; have HO3 := Lib.hid hown3; clear hg3 hb3 hown3))
              go_roundw
              case rel => exact ⟨k + 1, (ys ++ [(y1, y2)]) ++ [(x1, x2)], by omega, by go_num, by rw [cellsP_snoc, List.length_append, HN1.out]; exact HO3.out, HB3.out, HNX⟩
              case measure => simp [intOf]; omega
    · have hdn := HR.out.done (by omega)
      have HD := Lib.hid (HSP.out.trans hdn)
      obtain ⟨A3, c3, hv, hsp⟩ := SpansAt.of_own hown
      subst hv
      have HSA := Lib.hid hsp
      clear hdn hsp hst
      go_wp2_with fail
      go_ret2
      exact spansG w _ _ _ HD.out HSA.out (below_of HB1.out HB.out (Nat.le_refl _)) _ rfl
end Go.Proofs.YthifbihmogjjpaaDoor
