/-
  Fences: Make, on both sides.
-/
import Derived.Test.YtpgngiegpigfiaaFp
import Derived.Laws.AppendOwnNone
import Derived.Deep.AppendLies
namespace Go.Proofs.Ytpgngiegpigfiaa.KK
open Go.ChangeShapes Go.WideShapes Go.ChangeAt Go.RowKit Go.Proofs

theorem alloc_below (w : World) (o : Obj) : Below w.heap.size w (w.alloc o) := (Below.refl _ _).alloc (Nat.le_refl _) _
theorem cell_lt {w : World} {b o : Nat} {v : Value} (h : w.cell? ⟨b, o, none⟩ = some v) : b < w.heap.size := World.block_lt_of_cell? w _ h
theorem abv_c {w1 : World} {b o : Nat} {v : Value} (h : w1.cell? ⟨b, o, none⟩ = some v) : ∀ p : Abv w1, p.world.cell? ⟨b, o, none⟩ = some v := abv_cell (cell_lt h) h
/-- what lies outside S is as it was -/
structure Chg (S : Nat → Prop) (w w' : World) : Prop where
  os : w'.os = w.os
  tape : w'.tape = w.tape
  output : w'.output = w.output
  size : w.heap.size ≤ w'.heap.size
  block : ∀ k, k < w.heap.size → ¬ S k → w'.heap[k]? = w.heap[k]?
theorem Chg.of_below {S : Nat → Prop} {w w' : World} (h : Below w.heap.size w w') : Chg S w w' := ⟨h.os, h.tape, h.output, h.size, fun k hk _ => h.block k hk⟩
theorem Chg.refl {S : Nat → Prop} (w : World) : Chg S w w := .of_below (Below.refl _ _)
theorem Chg.of_grown {w w' : World} {r : Option Nat} (h : w.grownBy w' r) : Chg (fun k => some k = r) w w' := ⟨h.os, h.tape, h.output, h.size, fun k hk hn => h.block k hk hn⟩
theorem Chg.trans {S : Nat → Prop} {a b c : World} (h : Chg S a b) (k : Chg S b c) : Chg S a c :=
  ⟨k.os.trans h.os, k.tape.trans h.tape, k.output.trans h.output, Nat.le_trans h.size k.size, fun i hi hn => (k.block i (Nat.lt_of_lt_of_le hi h.size) hn).trans (h.block i hi hn)⟩
theorem Chg.mono {S T : Nat → Prop} {a b : World} (h : Chg S a b) (hs : ∀ k, S k → T k) : Chg T a b := ⟨h.os, h.tape, h.output, h.size, fun k hk hn => h.block k hk (fun g => hn (hs k g))⟩
/-- what was made on the way may be written: it is new -/
theorem Chg.trans_new {S T : Nat → Prop} {a b c : World} (h : Chg S a b) (k : Chg T b c) (hn : ∀ i, T i → S i ∨ a.heap.size ≤ i) : Chg S a c :=
  ⟨k.os.trans h.os, k.tape.trans h.tape, k.output.trans h.output, Nat.le_trans h.size k.size, fun i hi hs => (k.block i (Nat.lt_of_lt_of_le hi h.size) (fun g => by rcases hn i g with g | g; exact hs g; omega)).trans (h.block i hi hs)⟩
theorem Chg.below {S : Nat → Prop} {B : Nat} {w w' : World} (h : Chg S w w') (hS : ∀ k, S k → B ≤ k) (hB : B ≤ w.heap.size) : Below B w w' :=
  ⟨h.os, h.tape, h.output, h.size, fun k hk => h.block k (by omega) (fun g => by have := hS k g; omega)⟩
theorem Chg.cell {S : Nat → Prop} {w w' : World} (h : Chg S w w') {b o : Nat} {v : Value} (hc : w.cell? ⟨b, o, none⟩ = some v) (hn : ¬ S b) : w'.cell? ⟨b, o, none⟩ = some v :=
  (World.cell?_of_block (a := ⟨b, o, none⟩) (h.block b (cell_lt hc) hn)).trans hc
theorem Chg.es {S : Nat → Prop} {w w' : World} {A : Option Addr} {xs : List El.En} (h : Chg S w w') (hf : EsAt w A xs) (hn : ∀ a, A = some a → ¬ S a.block) : EsAt w' A xs := by
  rcases hf with hf | ⟨b, off, rfl, hb, hc⟩
  · exact .inl hf
  · refine .inr ⟨b, off, rfl, Nat.lt_of_lt_of_le hb h.size, fun i hi => ?_⟩
    have hs : ¬ S b := hn _ rfl
    obtain ⟨a0, a1, a2, a3⟩ := hc i hi
    exact ⟨h.cell a0 hs, h.cell a1 hs, h.cell a2 hs, h.cell a3 hs⟩
theorem Chg.own {S : Nat → Prop} {w w' : World} {base sz n : Nat} {e : TypeId} {v : Value} {xs : List Value} (h : Chg S w w') (hf : w.ownsRow base e sz v n xs) (hn : ∀ g, v.ownBlock = some g → ¬ S g) : w'.ownsRow base e sz v n xs := by
  refine ⟨hf.1, ?_⟩
  rcases hf.2 with h1 | ⟨g, cap, cur, rfl, hb, hg, rest⟩
  · exact .inl h1
  · exact .inr ⟨g, cap, cur, rfl, hb, (h.block g (Array.getElem?_eq_some_iff.1 hg).1 (hn g rfl)).trans hg, rest⟩
theorem chg_set {w : World} (b o : Nat) (u : Value) : Chg (fun k => k = b) w (w.setCell ⟨b, o, none⟩ u) :=
  ⟨rfl, rfl, rfl, by simp [World.setCell], fun k _ hn => by simp [World.setCell, Array.getElem?_modify]; intro h; exact absurd h.symm hn⟩

/-- a row of two cells -/
def Row2 (W : World) (B : Nat) (t : TypeId) (v0 v1 : Value) : Prop := W.heap[B]? = some (.cells #[v0, v1] t (0, 0))
theorem Row2.lt {W : World} {B : Nat} {t : TypeId} {v0 v1 : Value} (h : Row2 W B t v0 v1) : B < W.heap.size := (Array.getElem?_eq_some_iff.1 h).1
theorem Row2.c0 {W : World} {B : Nat} {t : TypeId} {v0 v1 : Value} (h : Row2 W B t v0 v1) : W.cell? ⟨B, 0, none⟩ = some v0 := by unfold Row2 at h; simp [World.cell?, h]
theorem Row2.c1 {W : World} {B : Nat} {t : TypeId} {v0 v1 : Value} (h : Row2 W B t v0 v1) : W.cell? ⟨B, 1, none⟩ = some v1 := by unfold Row2 at h; simp [World.cell?, h]
theorem Row2.fz {W : World} {B : Nat} {t : TypeId} {v0 v1 : Value} (h : Row2 W B t v0 v1) (i : Nat) : W.frozen? ⟨B, i, none⟩ = false := by unfold Row2 at h; simp [World.frozen?, h]
theorem Row2.set {W : World} {B : Nat} {t : TypeId} {v0 v1 : Value} (h : Row2 W B t v0 v1) (u0 u1 : Value) : Row2 ((W.setCell ⟨B, 0, none⟩ u0).setCell ⟨B, 1, none⟩ u1) B t u0 u1 := by
  unfold Row2 at h ⊢; simp [World.setCell, Array.getElem?_modify, h]
theorem Row2.new (w : World) (t : TypeId) (v0 v1 : Value) : Row2 (w.alloc (.cells #[v0, v1] t)) w.heap.size t v0 v1 := heap_alloc_new w _
theorem Row2.below {W W' : World} {B n : Nat} {t : TypeId} {v0 v1 : Value} (h : Row2 W B t v0 v1) (hb : Below n W W') (hn : W.heap.size ≤ n) : Row2 W' B t v0 v1 := (hb.block B (Nat.lt_of_lt_of_le h.lt hn)).trans h
theorem set2_below {B : Nat} {w w1 : World} {g : Nat} (h : Below B w w1) (hg : B ≤ g) (a b : Value) : Below B w ((w1.setCell ⟨g, 0, none⟩ a).setCell ⟨g, 1, none⟩ b) :=
  (h.setCell (p := ⟨g, 0, none⟩) hg _).setCell (p := ⟨g, 1, none⟩) hg _
theorem Row2.chg {S : Nat → Prop} {W W' : World} {B : Nat} {t : TypeId} {v0 v1 : Value} (h : Row2 W B t v0 v1) (hc : Chg S W W') (hn : ¬ S B) : Row2 W' B t v0 v1 := (hc.block B h.lt hn).trans h
theorem Row2.set1 {W : World} {B : Nat} {t : TypeId} {v0 v1 : Value} (h : Row2 W B t v0 v1) (u1 : Value) : Row2 (W.setCell ⟨B, 1, none⟩ u1) B t v0 u1 := by
  unfold Row2 at h ⊢; simp [World.setCell, Array.getElem?_modify, h]
theorem infoSt : (Try.prog.info? 9).map (fun i => (i.zero, i.size, i.bytes)) = some (some (.string ⟨#[]⟩), 1, 16) := by kernel_rfl
theorem cell_one_str (w : World) (v : Value) : ∀ (j : Nat) (u : Value), [v][j]? = some u → (w.alloc (.cells #[v] 9)).cell? ((⟨w.heap.size, 0, none⟩ : Addr).add j) = some u :=
  World.news_of_block (cs := #[v]) (t := 9) (fr := (0, 0)) (heap_alloc_new w _)
theorem own_bel {w w' : World} {base n sz : Nat} {v : Value} {e : TypeId} {xs : List Value} (h : w.ownsRow base e sz v n xs) (hb : Below w.heap.size w w') : w'.ownsRow base e sz v n xs := (Chg.of_below (S := fun _ => False) hb).own h (fun _ _ h => h)
def strs (ms : List ByteArray) : List Value := ms.map Value.string
theorem strs_snoc (ms : List ByteArray) (m : ByteArray) : strs (ms ++ [m]) = strs ms ++ [.string m] := by simp [strs]
theorem own_slice {w : World} {base n : Nat} {v : Value} {e : TypeId} {sz : Nat} {xs : List Value} (h : w.ownsRow base e sz v n xs) : ∃ A c, v = .slice A n c := by
  rcases h.2 with ⟨rfl, h0⟩ | ⟨g, cap, cur, rfl, _⟩
  · subst h0; exact ⟨_, _, rfl⟩
  · exact ⟨_, _, rfl⟩
theorem SsAt.of_own {w : World} {base n : Nat} {A : Option Addr} {c : Nat} {ts : List ByteArray} (hn : n = ts.length) (h : w.ownsRow base 9 1 (.slice A n c) n (strs ts)) : SsAt w A ts ∧ ∀ a, A = some a → base ≤ a.block := by
  subst hn
  refine ⟨?_, fun a ha => ?_⟩
  · by_cases h0 : ts = []
    · exact .inl h0
    · have hpos : 0 < ts.length := List.length_pos_iff.2 h0
      have hform : ∃ g cap, Value.slice A ts.length c = .slice (some ⟨g, 0, none⟩) ts.length cap ∧ g < w.heap.size := by
        rcases h.2 with ⟨_, h1⟩ | ⟨g, cap, cur, hv, _, hh, _⟩
        · omega
        · exact ⟨g, cap, hv, (Array.getElem?_eq_some_iff.1 hh).1⟩
      obtain ⟨g, cap, hv, hlt⟩ := hform
      have hA : A = some ⟨g, 0, none⟩ := by injection hv
      refine .inr ⟨g, 0, hA, hlt, fun i hi => ?_⟩
      have hcell := h.cells (g := g) (by rw [hv]; rfl)
      have hadd : ∀ j, (⟨g, 0, none⟩ : Addr).add j = ⟨g, 0 + j, none⟩ := fun j => by unfold Addr.add; split <;> simp_all
      have b0 := hcell i (.string ts[i]) (by unfold strs; rw [List.getElem?_map, List.getElem?_eq_getElem hi]; rfl)
      rwa [hadd] at b0
  · rcases h.2 with ⟨h1, _⟩ | ⟨g, cap, cur, hv, hg, _⟩
    · injection h1 with h1; rw [h1] at ha; cases ha
    · injection hv with h1 _ _; rw [h1] at ha; injection ha with ha; subst ha; exact hg
theorem SsAt.chg {S : Nat → Prop} {w w' : World} {A : Option Addr} {ms : List ByteArray} (hf : SsAt w A ms) (h : Chg S w w') (hn : ∀ a, A = some a → ¬ S a.block) : SsAt w' A ms := by
  rcases hf with hf | ⟨b, off, rfl, hb, hc⟩
  · exact .inl hf
  · exact .inr ⟨b, off, rfl, Nat.lt_of_lt_of_le hb h.size, fun i hi => h.cell (hc i hi) (hn _ rfl)⟩
theorem btw_call (a b : ByteArray) (w : World) (h : ltK a b = true) (ha : a.size ≤ 32) (hb : b.size ≤ 32) :
    Calls Try.prog 39 #[.string a, .string b] w fun e w' => e = .returned (.tuple #[.string (btwK a b), .int .i64 0]) ∧ Below w.heap.size w w' := by
  have K := kBetween_any a b w (by omega) (by omega)
  have e : btwE (Kl.L a) (Kl.L b) = (0, Kl.btw (Kl.L a) (Kl.L b)) := by
    unfold btwE; rw [Kl.L_length, Kl.L_length, if_neg (by simp; omega), if_pos (show Kl.lt (Kl.L a) (Kl.L b) = true from h)]
  rw [e] at K; exact K
theorem rbtw_call (a b : ByteArray) (w : World) (h : ltK a b = true) (ha : a.size ≤ 32) (hb : b.size ≤ 32) :
    Calls Try.prog 41 #[.string a, .string b] w fun e w' => e = .returned (.tuple #[.string (btwK a b), .int .i64 0]) ∧ Below w.heap.size w w' := by
  have K := rBetween_any a b w (by omega) (by omega)
  have e : btwE (Kl.L a) (Kl.L b) = (0, Kl.btw (Kl.L a) (Kl.L b)) := by
    unfold btwE; rw [Kl.L_length, Kl.L_length, if_neg (by simp; omega), if_pos (show Kl.lt (Kl.L a) (Kl.L b) = true from h)]
  rw [e] at K; exact K
theorem make_take {st : Nat} {xs : List El.En} {k : Nat} (h : k < mk xs.length st) : (makeM st xs).take (k + 1) = (makeM st xs).take k ++ [btwK (keyAt xs ((k + 1) * st - 1)) (keyAt xs ((k + 1) * st))] := by
  have h' : k < (makeM st xs).length := by rw [makeM_len]; exact h
  rw [List.take_succ_eq_append_getElem h', makeM_at h']
def mkEr (s : Int) (xs : List El.En) : Int := if (listE xs).2 ≠ 0 then (listE xs).2 else if stepB s = true then 0 else 7
def mkSt (s : Int) (xs : List El.En) : Int := if mkEr s xs = 0 then s else 0
def mkMs (s : Int) (xs : List El.En) : List ByteArray := if mkEr s xs = 0 then makeM s.toNat xs else []
theorem mkEr_list {s : Int} {xs : List El.En} (h : (listE xs).2 ≠ 0) : mkEr s xs = (listE xs).2 := if_pos h
theorem mkEr_step {s : Int} {xs : List El.En} (h : (listE xs).2 = 0) (g : stepB s = false) : mkEr s xs = 7 := by unfold mkEr; rw [if_neg (by rw [h]; simp), if_neg (by rw [g]; simp)]
theorem mkEr_ok {s : Int} {xs : List El.En} (h : (listE xs).2 = 0) (g : stepB s = true) : mkEr s xs = 0 := by unfold mkEr; rw [if_neg (by rw [h]; simp), if_pos g]
/-- behind a call that makes a fence -/
def MakeOut (s : Int) (xs : List El.En) (w : World) (e : Ending) (w' : World) : Prop :=
  ∃ A c, e = .returned (.tuple #[.agg #[.int .i64 (mkSt s xs), .slice A (mkMs s xs).length c], .int .i64 (mkEr s xs)]) ∧ SsAt w' A (mkMs s xs) ∧ Below w.heap.size w w'
theorem MakeOut.err {s : Int} {xs : List El.En} {w w' : World} {e : Ending} {r : Int} (hr : mkEr s xs = r) (h0 : r ≠ 0) (he : e = .returned (.tuple #[.agg #[.int .i64 0, .slice none 0 0], .int .i64 r])) (hb : Below w.heap.size w w') : MakeOut s xs w e w' := by
  unfold MakeOut mkSt mkMs
  rw [hr, if_neg h0, if_neg h0]
  exact ⟨none, 0, he, .inl rfl, hb⟩
theorem MakeOut.ok {st : Nat} {xs : List El.En} {w w' : World} {e : Ending} {A : Option Addr} {c : Nat} (hr : mkEr st xs = 0) (he : e = .returned (.tuple #[.agg #[.int .i64 (st : Int), .slice A (mk xs.length st) c], .int .i64 0])) (hf : SsAt w' A (makeM st xs)) (hb : Below w.heap.size w w') : MakeOut st xs w e w' := by
  unfold MakeOut mkSt mkMs
  rw [hr, if_pos rfl, if_pos rfl, show ((st : Nat) : Int).toNat = st by omega]
  exact ⟨A, c, by rw [makeM_len]; exact he, hf, hb⟩
set_option maxRecDepth 100000 in
set_option maxHeartbeats 4000000 in
theorem pMake7_any (A : Option Addr) (c : Nat) (xs : List El.En) (s : Int) (w : World) (hf : EsAt w A xs) (hn : xs.length ≤ 4294967295) (hs : Sized xs) (hcap : xs.length ≤ c) :
    Calls Try.prog 13 #[.slice A xs.length c, .int .i64 s] w (MakeOut s xs w) := by
  have hb0 := alloc_below w (.cells #[.int .i64 0, .slice none 0 0] 25)
  have HR := Row2.new w 25 (.int .i64 0) (.slice none 0 0)
  have J := Lib.hid (fun (w' : World) (hb : Below w.heap.size w w') => eList_any A c xs w' (hf.below hb (Nat.le_refl _)) hn hs)
  have JS := Lib.hid (fun w => isStep_any s w)
  by_cases hl : (listE xs).2 = 0
  rotate_left
  · have HL := Lib.hid (mkEr_list (s := s) hl)
    obtain ⟨b1, b2⟩ := ne_b hl
    clear hf hs
    generalize (listE xs).1 = r0' at *
    generalize (listE xs).2 = r at *
    go_enter Try.func13, Try.ntmps13
    go_wp2_with fail
    refine (J.out _ hb0).mono ?_
    rintro e w1 ⟨rfl, hb⟩
    have HB1 := Lib.hid (eb_of hb0 hb (Nat.le_refl _))
    have HR2 := HR.below hb (Nat.le_refl _)
    clear hb hb0 HR
    have r0 := HR2.c0
    have r1 := HR2.c1
    have z0 := HR2.fz 0
    have z1 := HR2.fz 1
    go_wp2_with fail
    have HX := HR2.set (.int .i64 0) (.slice none 0 0)
    have k0 := HX.c0
    have k1 := HX.c1
    refine bodyPost_ret (v := .tuple #[.agg #[.int .i64 0, .slice none 0 0], .int .i64 r]) (by simp [results, Try.f13, go_sem, k0, k1]) rfl ?_
    exact MakeOut.err HL.out (by first | assumption | decide) rfl (set2_below HB1.out (Nat.le_refl _) _ _)
  cases hst : stepB s with
  | false =>
    have HL := Lib.hid (mkEr_step hl hst)
    rw [hl] at J
    rw [hst] at JS
    clear hf hs hl hst
    generalize (listE xs).1 = r0' at *
    go_enter Try.func13, Try.ntmps13
    go_wp2_with fail
    refine (J.out _ hb0).mono ?_
    rintro e w1 ⟨rfl, hb⟩
    have HB1 := Lib.hid (eb_of hb0 hb (Nat.le_refl _))
    have HR2 := HR.below hb (Nat.le_refl _)
    clear hb hb0 HR
    go_wp2_with fail
    refine (JS.out _).mono ?_
    rintro e w2 ⟨rfl, rfl⟩
    have r0 := HR2.c0
    have r1 := HR2.c1
    have z0 := HR2.fz 0
    have z1 := HR2.fz 1
    go_wp2_with fail
    have HX := HR2.set (.int .i64 0) (.slice none 0 0)
    have k0 := HX.c0
    have k1 := HX.c1
    refine bodyPost_ret (v := .tuple #[.agg #[.int .i64 0, .slice none 0 0], .int .i64 7]) (by simp [results, Try.f13, go_sem, k0, k1]) rfl ?_
    exact MakeOut.err HL.out (by first | assumption | decide) rfl (set2_below HB1.out (Nat.le_refl _) _ _)
  | true =>
    have HL := Lib.hid (mkEr_ok hl hst)
    obtain ⟨st, rfl⟩ : ∃ st : Nat, s = (st : Int) := ⟨s.toNat, by simp [stepB] at hst; omega⟩
    have hst2 : 1 ≤ st ∧ st ≤ 64 := by simp [stepB] at hst; omega
    obtain ⟨hl5, hchk, hasc⟩ := list_ok hl
    have JM := Lib.hid (fun w => marksFor_any xs.length st w hn hst2.1 hst2.2)
    rw [hl] at J
    rw [hst] at JS
    clear hl hst
    generalize (listE xs).1 = r0' at *
    go_enter Try.func13, Try.ntmps13
    go_wp2_with fail
    refine (J.out _ hb0).mono ?_
    rintro e w1 ⟨rfl, hb⟩
    have HB1 := Lib.hid (eb_of hb0 hb (Nat.le_refl _))
    have HR2 := HR.below hb (Nat.le_refl _)
    clear hb hb0 HR
    go_wp2_with fail
    refine (JS.out _).mono ?_
    rintro e w2 ⟨rfl, rfl⟩
    go_wp2_with fail
    refine (JM.out _).mono ?_
    rintro e w3 ⟨rfl, rfl⟩
    go_wp2_with fail
    have hF : w.heap.size < w1.heap.size := HR2.lt
    have hF1 : w.heap.size ≤ w1.heap.size + 1 := by omega
    have HRF := Row2.new w1 25 (.int .i64 (st : Int)) (.slice none 0 0)
    have HR3 := HR2.below (alloc_below w1 (.cells #[.int .i64 (st : Int), .slice none 0 0] 25)) (Nat.le_refl _)
    have HB3 := Lib.hid (HB1.out.alloc HB1.out.size (.cells #[.int .i64 (st : Int), .slice none 0 0] 25))
    obtain ⟨i0, hi, hz0, hz1, hz2⟩ := info_parts infoSt
    have HG := Lib.hid hf
    have hmk5 : mk xs.length st ≤ xs.length := mk_le
    clear HR2 hf
    go_loopw [33] (fun i wr => ∃ (k : Nat) (v : Value), k ≤ mk xs.length st ∧ i = .int .i64 k ∧ Row2 wr w.heap.size 25 (.int .i64 0) (.slice none 0 0) ∧ Row2 wr w1.heap.size 25 (.int .i64 (st : Int)) v ∧ wr.ownsRow (w1.heap.size + 1) 9 1 v k (strs ((makeM st xs).take k)) ∧ Below w.heap.size w wr) (fun i _ => mk xs.length st - (intOf i).toNat)
    case atStart => exact ⟨0, .slice none 0 0, Nat.zero_le _, rfl, HR3, HRF, World.ownsRow_nil _ _ _ _, HB3.out⟩
    case round =>
      obtain ⟨k, v, hk, rfl, HR4, HRF, hown, hb⟩ := hrel
      have HB := Lib.hid hb
      clear hb HR3
      by_cases hlt : k < mk xs.length st
      · have hix := mk_idx hst2.1 hlt
        have hord := makeM_ok hst2.1 hasc hlt
        have J1 := Lib.hid (border_any A c xs st k wr (HG.out.below HB.out (Nat.le_refl _)) hl5 hcap hst2.2 hst2.1 hix)
        have J2 := Lib.hid (fun w => btw_call (keyAt xs ((k + 1) * st - 1)) (keyAt xs ((k + 1) * st)) w hord (keyAt_size (fun x hx => (El.chk_of (hchk x hx)).1) (by omega)) (keyAt_size (fun x hx => (El.chk_of (hchk x hx)).1) hix))
        have HT := Lib.hid (make_take hlt)
        clear hord
        generalize btwK (keyAt xs ((k + 1) * st - 1)) (keyAt xs ((k + 1) * st)) = m at *
        generalize keyAt xs ((k + 1) * st - 1) = a1 at *
        generalize keyAt xs ((k + 1) * st) = a2 at *
        clear hix
        go_wp2_with fail
        refine J1.out.mono ?_
        rintro e w3 ⟨rfl, hb⟩
        have HB3 := Lib.hid (eb_of HB.out hb (Nat.le_refl _))
        have hown := own_bel hown hb
        have HRF := HRF.below hb (Nat.le_refl _)
        have HR4 := HR4.below hb (Nat.le_refl _)
        clear hb
        go_wp2_with fail
        refine (J2.out _).mono ?_
        rintro e w4 ⟨rfl, hb⟩
        have HB4 := Lib.hid (eb_of HB3.out hb (Nat.le_refl _))
        have hown := own_bel hown hb
        have HRF := HRF.below hb (Nat.le_refl _)
        have HR4 := HR4.below hb (Nat.le_refl _)
        have f0 := HRF.c0
        have f1 := HRF.c1
        have N2 := Lib.hid (cell_one_str w4 (.string m))
        have hsz4 := HB4.out.size
        have hF4 := HRF.lt
        clear hb
        go_wp2_with (at_builtin; go_loud (refine wpList_append_own _ rfl (.tmp 50) (.tmp 52) 23 rfl (w1.heap.size + 1) 9 i0 (.string ⟨#[]⟩) 1 16 Try.underlying23 hi hz0 hz1 hz2 rfl (by decide) _ k _ rfl (hown.alloc _) ⟨w4.heap.size, 0, none⟩ 1 1 [.string m] rfl rfl N2.out (by simp [Value.oneCell']) (by unfold maxLen; omega) (by omega) (by simp; omega) ?_; intro v5 w5 hown5 hg5 _; obtain ⟨A5, c5, hv5⟩ := own_slice hown5; subst hv5; have hne : ∀ g, v.ownBlock = some g → w1.heap.size + 1 ≤ g := (fun g hg => (hown.lt g hg).1); have hb5 := (HB4.out.alloc HB4.out.size (.cells #[.string m] 9)).grown hg5 (by simp; omega) (fun g hg => Nat.le_trans hF1 (hne g hg)); have HB5 := Lib.hid hb5; have HRF5 := (HRF.below (alloc_below w4 (.cells #[.string m] 9)) (Nat.le_refl _)).chg (Chg.of_grown hg5) (fun e => absurd (hne _ e.symm) (by omega)); have HR5 := (HR4.below (alloc_below w4 (.cells #[.string m] 9)) (Nat.le_refl _)).chg (Chg.of_grown hg5) (fun e => absurd (hne _ e.symm) (by omega)); have p0 := HRF5.c0; have p1 := HRF5.c1; have z1 := HRF5.fz 1; have HO5 := Lib.hid hown5; clear hg5 hb5 hown5))
        go_roundw
        case rel => exact ⟨k + 1, .slice A5 (k + 1) c5, by omega, by go_num, HR5.chg (chg_set w1.heap.size 1 _) (by omega), HRF5.set1 _, by rw [HT.out, strs_snoc]; exact (chg_set w1.heap.size 1 _).own HO5.out (fun g hg e => by have := (HO5.out.lt g hg).1; omega), HB5.out.setCell (p := ⟨w1.heap.size, 1, none⟩) (by simp; omega) _⟩
        case measure => simp [intOf]; omega
      · have hke : k = mk xs.length st := by omega
        obtain ⟨A2, c2, rfl⟩ := own_slice hown
        rw [show (makeM st xs).take k = makeM st xs from List.take_of_length_le (by rw [makeM_len]; omega)] at hown
        subst hke
        obtain ⟨hss, hge⟩ := SsAt.of_own (makeM_len st xs).symm hown
        have HSS := Lib.hid hss
        have HGE := Lib.hid hge
        have f0 := HRF.c0
        have f1 := HRF.c1
        have r0 := HR4.c0
        have r1 := HR4.c1
        have z0 := HR4.fz 0
        have z1 := HR4.fz 1
        clear hown hss hge
        go_wp2_with fail
        have HX := HR4.set (.int .i64 (st : Int)) (.slice A2 (mk xs.length st) c2)
        have k0 := HX.c0
        have k1 := HX.c1
        refine bodyPost_ret (v := .tuple #[.agg #[.int .i64 (st : Int), .slice A2 (mk xs.length st) c2], .int .i64 0]) (by simp [results, Try.f13, go_sem, k0, k1]) rfl ?_
        exact MakeOut.ok HL.out rfl ((HSS.out.chg (chg_set w.heap.size 0 _) (fun a h e => by have := HGE.out a h; omega)).chg (chg_set w.heap.size 1 _) (fun a h e => by have := HGE.out a h; omega)) (set2_below HB.out (Nat.le_refl _) _ _)
end Go.Proofs.Ytpgngiegpigfiaa.KK
