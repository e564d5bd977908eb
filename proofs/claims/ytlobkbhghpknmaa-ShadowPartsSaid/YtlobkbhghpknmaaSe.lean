/-
  Shadow: what an outcome holds; add.
-/
import Derived.Test.YtlobkbhghpknmaaSc
import Derived.Deep.AppendLies
namespace Go.Proofs.Ytlobkbhghpknmaa.KK
open Go.ChangeShapes Go.WideShapes Go.ChangeAt Go.RowKit Go.Proofs

theorem cell_lt {w : World} {b o : Nat} {v : Value} (h : w.cell? ⟨b, o, none⟩ = some v) : b < w.heap.size := by
  unfold World.cell? at h
  rcases hb : w.heap[b]? with _ | x
  · simp [hb] at h
  · exact (Array.getElem?_eq_some_iff.1 hb).1
/-- w' is w, but for the blocks of S and what is new -/
structure Chg (S : Nat → Prop) (w w' : World) : Prop where
  os : w'.os = w.os
  tape : w'.tape = w.tape
  output : w'.output = w.output
  size : w.heap.size ≤ w'.heap.size
  block : ∀ k, k < w.heap.size → ¬ S k → w'.heap[k]? = w.heap[k]?
theorem Chg.of_below {S : Nat → Prop} {w w' : World} (h : Below w.heap.size w w') : Chg S w w' := ⟨h.os, h.tape, h.output, h.size, fun k hk _ => h.block k hk⟩
theorem Chg.refl {S : Nat → Prop} (w : World) : Chg S w w := .of_below (Below.refl _ _)
theorem Chg.trans {S : Nat → Prop} {a b c : World} (h : Chg S a b) (k : Chg S b c) : Chg S a c :=
  ⟨k.os.trans h.os, k.tape.trans h.tape, k.output.trans h.output, Nat.le_trans h.size k.size, fun i hi hn => (k.block i (Nat.lt_of_lt_of_le hi h.size) hn).trans (h.block i hi hn)⟩
theorem Chg.mono {S T : Nat → Prop} {a b : World} (h : Chg S a b) (hs : ∀ k, S k → T k) : Chg T a b := ⟨h.os, h.tape, h.output, h.size, fun k hk hn => h.block k hk (fun g => hn (hs k g))⟩
theorem Chg.below {S : Nat → Prop} {B : Nat} {w w' : World} (h : Chg S w w') (hS : ∀ k, S k → B ≤ k) (hB : B ≤ w.heap.size) : Below B w w' :=
  ⟨h.os, h.tape, h.output, h.size, fun k hk => h.block k (by omega) (fun g => by have := hS k g; omega)⟩
theorem Chg.cell {S : Nat → Prop} {w w' : World} (h : Chg S w w') {b o : Nat} {v : Value} (hc : w.cell? ⟨b, o, none⟩ = some v) (hn : ¬ S b) : w'.cell? ⟨b, o, none⟩ = some v :=
  (World.cell?_of_block (a := ⟨b, o, none⟩) (h.block b (cell_lt hc) hn)).trans hc
theorem chg_set {w : World} (b o : Nat) (u : Value) : Chg (fun k => k = b) w (w.setCell ⟨b, o, none⟩ u) :=
  ⟨rfl, rfl, rfl, by simp [World.setCell], fun k _ hn => by simp [World.setCell, Array.getElem?_modify]; intro h; exact absurd h.symm hn⟩


theorem Row3.chg {S : Nat → Prop} {W W' : World} {B : Nat} {t : TypeId} {v0 v1 v2 : Value} (h : Row3 W B t v0 v1 v2) (hg : Chg S W W') (hn : ¬ S B) : Row3 W' B t v0 v1 v2 := (hg.block B h.lt hn).trans h
theorem Row4.chg {S : Nat → Prop} {W W' : World} {B : Nat} {t : TypeId} {v0 v1 v2 v3 : Value} (h : Row4 W B t v0 v1 v2 v3) (hg : Chg S W W') (hn : ¬ S B) : Row4 W' B t v0 v1 v2 v3 := (hg.block B h.lt hn).trans h
theorem Row3.set0 {W : World} {B : Nat} {t : TypeId} {v0 v1 v2 : Value} (h : Row3 W B t v0 v1 v2) (u : Value) : Row3 (W.setCell ⟨B, 0, none⟩ u) B t u v1 v2 := by
  unfold Row3 at h ⊢; simp [World.setCell, Array.getElem?_modify, h]
theorem Row3.set1 {W : World} {B : Nat} {t : TypeId} {v0 v1 v2 : Value} (h : Row3 W B t v0 v1 v2) (u : Value) : Row3 (W.setCell ⟨B, 1, none⟩ u) B t v0 u v2 := by
  unfold Row3 at h ⊢; simp [World.setCell, Array.getElem?_modify, h]
theorem Row3.set2 {W : World} {B : Nat} {t : TypeId} {v0 v1 v2 : Value} (h : Row3 W B t v0 v1 v2) (u : Value) : Row3 (W.setCell ⟨B, 2, none⟩ u) B t v0 v1 u := by
  unfold Row3 at h ⊢; simp [World.setCell, Array.getElem?_modify, h]
theorem gb_of {w w' : World} (h : Below w.heap.size w w') : w.grownBy w' none := ⟨h.os, h.tape, h.output, h.size, fun k hk _ => h.block k hk⟩
theorem own_below {w w' : World} {base : Nat} {e : TypeId} {size n : Nat} {v : Value} {xs : List Value} (h : w.ownsRow base e size v n xs) (hb : Below w.heap.size w w') : w'.ownsRow base e size v n xs := by
  cases hv : v.ownBlock with
  | none => exact h.kept (gb_of hb) (.inl hv)
  | some g => exact h.kept (gb_of hb) (.inr (by rw [hv]; simp))
theorem chg_grown {w w' : World} {row : Option Nat} (h : w.grownBy w' row) : Chg (fun k => row = some k) w w' := ⟨h.os, h.tape, h.output, h.size, fun k hk hn => h.block k hk (fun e => hn e.symm)⟩

/-- the kept ones, how many are shadowed, how many dropped -/
abbrev Oc := List El.En × Nat × Nat
def addO (o : Oc) (x : El.En) : Fate → Oc
  | .kept => (o.1 ++ [x], o.2.1, o.2.2)
  | .shad => (o.1, o.2.1 + 1, o.2.2)
  | .drop => (o.1, o.2.1, o.2.2 + 1)
/-- an outcome in memory: its row, and that of the kept ones -/
def OcAt (base B : Nat) (w : World) (v : Value) (o : Oc) : Prop :=
  Row3 w B 58 v (.int .i64 (o.2.1 : Int)) (.int .i64 (o.2.2 : Int)) ∧ w.ownsRow base 25 4 v o.1.length (cellsE o.1)
theorem OcAt.below {base B : Nat} {w w' : World} {v : Value} {o : Oc} (h : OcAt base B w v o) (hb : Below w.heap.size w w') : OcAt base B w' v o := ⟨h.1.below hb (Nat.le_refl _), own_below h.2 hb⟩
/-- behind add -/
def AddPost (base B : Nat) (w : World) (v : Value) (o' : Oc) (w' : World) : Prop := ∃ A' c', OcAt base B w' (.slice A' o'.1.length c') o' ∧ Chg (fun k => k = B ∨ v.ownBlock = some k) w w'
theorem AddPost.pre {base B : Nat} {w w1 w' : World} {v : Value} {o' : Oc} (h : AddPost base B w1 v o' w') (hb : Below w.heap.size w w1) : AddPost base B w v o' w' := by
  obtain ⟨A, c, h1, h2⟩ := h
  exact ⟨A, c, h1, (Chg.of_below hb).trans h2⟩
theorem AddPost.post {base B : Nat} {w w1 w' : World} {v : Value} {o' : Oc} (h : AddPost base B w v o' w1) (hb : Below w1.heap.size w1 w') : AddPost base B w v o' w' := by
  obtain ⟨A, c, h1, h2⟩ := h
  exact ⟨A, c, h1.below hb, h2.trans (Chg.of_below hb)⟩
theorem add_count {base B : Nat} {w : World} {A : Option Addr} {c : Nat} {o : Oc} (h : OcAt base B w (.slice A o.1.length c) o) (hB : B < base) (x : El.En) : AddPost base B w (.slice A o.1.length c) (addO o x .shad) (w.setCell ⟨B, 1, none⟩ (.int .i64 ((o.2.1 : Int) + 1))) ∧ AddPost base B w (.slice A o.1.length c) (addO o x .drop) (w.setCell ⟨B, 2, none⟩ (.int .i64 ((o.2.2 : Int) + 1))) :=
  ⟨⟨A, c, ⟨by have := h.1.set1 (.int .i64 ((o.2.1 : Int) + 1)); exact this, ownsRow_setCell_below h.2 hB _⟩, (chg_set B 1 _).mono fun k hk => .inl hk⟩, ⟨A, c, ⟨by have := h.1.set2 (.int .i64 ((o.2.2 : Int) + 1)); exact this, ownsRow_setCell_below h.2 hB _⟩, (chg_set B 2 _).mono fun k hk => .inl hk⟩⟩
theorem add_kept {base B : Nat} {w w6 : World} {v : Value} {o : Oc} {x : El.En} {g cap : Nat} (h : OcAt base B w v o) (hB : B < base) (hgrow : w.grownBy w6 v.ownBlock) (hown : w6.ownsRow base 25 4 (.slice (some ⟨g, 0, none⟩) (o.1.length + 1) cap) (o.1.length + 1) (cellsE o.1 ++ [.string x.1, .string x.2.1, .bool x.2.2.1, .int .i64 x.2.2.2])) :
    w6.cell? ⟨B, 0, none⟩ = some v ∧ w6.frozen? ⟨B, 0, none⟩ = false ∧ AddPost base B w v (addO o x .kept) (w6.setCell ⟨B, 0, none⟩ (.slice (some ⟨g, 0, none⟩) (o.1.length + 1) cap)) := by
  have hne : ¬ v.ownBlock = some B := fun e => by have := (h.2.lt B e).1; omega
  have hr : Row3 w6 B 58 v (.int .i64 (o.2.1 : Int)) (.int .i64 (o.2.2 : Int)) := h.1.chg (chg_grown hgrow) hne
  have hlen : (addO o x .kept).1.length = o.1.length + 1 := by simp [addO]
  refine ⟨hr.c0, hr.fz 0, some ⟨g, 0, none⟩, cap, ⟨?_, ?_⟩, ?_⟩
  · rw [hlen]; exact hr.set0 _
  · rw [hlen]; exact ownsRow_setCell_below (own_snoc hown) hB _
  · exact ((chg_grown hgrow).mono fun k hk => .inr hk).trans ((chg_set B 0 _).mono fun k hk => .inl hk)
theorem bl_al {B : Nat} {w w' : World} (h : Below B w w') (hB : B ≤ w.heap.size) (o : Obj) : Below B w (w'.alloc o) := eb_of h (al1 w' o) hB

set_option maxRecDepth 100000 in
set_option maxHeartbeats 1000000 in
theorem add_any (base B : Nat) (A : Option Addr) (c : Nat) (o : Oc) (k v : ByteArray) (d : Bool) (q : Int) (f : Fate) (w : World) (hB : B < base) (hbase : base ≤ w.heap.size) (h : OcAt base B w (.slice A o.1.length c) o) (hl : o.1.length ≤ 100000) (hs : o.2.1 ≤ 100000) (hd : o.2.2 ≤ 100000) :
    Calls Try.prog 34 #[.pointer (some ⟨B, 0, none⟩), .iface f.ty (.agg #[.string k, .string v, .bool d, .int .i64 q])] w fun e w' => e = .returned (.tuple #[]) ∧ AddPost base B w (.slice A o.1.length c) (addO o (k, v, d, q) f) w' := by
  obtain ⟨i0, hi, hz0, hz1, hz2⟩ := info_parts infoE
  have c0 := h.1.c0
  have c1 := h.1.c1
  have c2 := h.1.c2
  have f0 := h.1.fz 0
  have f1 := h.1.fz 1
  have f2 := h.1.fz 2
  have hlt := h.1.lt
  have hw1 : IntKind.i64.wrap ((o.2.1 : Int) + 1) = (o.2.1 : Int) + 1 := by rw [IntKind.wrap_i64]; omega
  have hw2 : IntKind.i64.wrap ((o.2.2 : Int) + 1) = (o.2.2 : Int) + 1 := by rw [IntKind.wrap_i64]; omega
  have H := Lib.hid h
  clear h hs hd
  cases f with
  | shad =>
    have hA := asK_s k v d q
    have hA2 := asS_s k v d q
    simp only [Fate.ty]
    go_enter Try.func34, Try.ntmps34
    go_wp2_with fail
    go_end0
    exact ⟨rfl, (add_count H.out hB (k, v, d, q)).1.post (al1 _ _)⟩
  | drop =>
    have hA := asK_d k v d q
    have hA2 := asS_d k v d q
    have hA3 := asD_d k v d q
    simp only [Fate.ty]
    go_enter Try.func34, Try.ntmps34
    go_wp2_with fail
    go_end0
    exact ⟨rfl, (add_count H.out hB (k, v, d, q)).2.post (al1 _ _)⟩
  | kept =>
    have hA := asK_k k v d q
    have JE := Lib.hid (fun w => entry_any (k, v, d, q) w)
    simp only [Fate.ty]
    go_enter Try.func34, Try.ntmps34
    go_wp2_with fail
    obtain ⟨wa, hwa⟩ : ∃ wa, w.alloc (.cells #[.string k, .string v, .bool d, .int .i64 q] 53) = wa := ⟨_, rfl⟩
    have HBa : Hid (Below w.heap.size w wa) := Lib.hid (by rw [← hwa]; exact al1 _ _)
    have HE : Hid (Row4 wa w.heap.size 53 (.string k) (.string v) (.bool d) (.int .i64 q)) := Lib.hid (by rw [← hwa]; exact heap_alloc_new _ _)
    have hsz : wa.heap.size = w.heap.size + 1 := by rw [← hwa, World.size_alloc]
    rw [hwa]
    clear hwa c0 c1 c2 f0 f1 f2
    have HO : Hid (∀ w', Below wa.heap.size wa w' → OcAt base B w' (.slice A o.1.length c) o ∧ Row4 w' w.heap.size 53 (.string k) (.string v) (.bool d) (.int .i64 q)) := Lib.hid fun w' hb => ⟨(H.out.below HBa.out).below hb, HE.out.below hb (Nat.le_refl _)⟩
    have HD := Lib.hid (show Below wa.heap.size wa wa.drew from (Below.refl _ _).drew)
    have c0 := (HO.out _ (Below.refl _ _)).1.1.c0
    have e0 := (HO.out _ (Below.refl _ _)).2.c0
    have e1 := (HO.out _ (Below.refl _ _)).2.c1
    have e2 := (HO.out _ (Below.refl _ _)).2.c2
    have e3 := (HO.out _ (Below.refl _ _)).2.c3
    go_wp2_with fail
    go_region_law (first
      | (refine step_append_lies _ (by rfl) (.tmp 15) (.tmp 19) _ (by rfl) base 25 i0 _ 4 48 Try.underlying33 hi hz0 hz1 hz2 rfl (by decide) (.slice A o.1.length c) o.1.length (cellsE o.1) (by rfl) (HO.out _ (bl_al (by assumption) (Nat.le_refl _) _)).1.2 ⟨w5.heap.size, 0, none⟩ 1 1 [.string k, .string v, .bool d, .int .i64 q] (by rfl) rfl (World.news_of_block (cs := #[.string k, .string v, .bool d, .int .i64 q]) (t := 25) (fr := (0, 0)) (heap_alloc_new _ _)) (by simp [Value.oneCell']) (by omega) (by unfold maxLen; omega) (by omega) (by simp; omega) _ rfl ?_; intro g cap w6 hown hgrow _ _; obtain ⟨g0, g1, hap⟩ := add_kept (x := (k, v, d, q)) (HO.out _ (bl_al (by assumption) (Nat.le_refl _) _)).1 hB hgrow hown; have HP := Lib.hid (hap.pre (bl_al (by assumption) (Nat.le_refl _) _)); clear hap hown hgrow)
      | (go_simp; go_at_call 37; refine (JE.out _).mono ?_; rintro e w5 ⟨rfl, hb5⟩; have hb6 : Below wa.heap.size wa w5 := eb_of HD.out hb5 (Nat.le_refl _); have d0 := (HO.out _ hb6).1.1.c0; have hz5 := hb6.size; have hB5 : B < w5.heap.size := (by omega); clear hb5; dsimp only))
    all_goals
      go_wp2_with fail
      go_end0
      exact ⟨rfl, HP.out.pre HBa.out⟩
end Go.Proofs.Ytlobkbhghpknmaa.KK
