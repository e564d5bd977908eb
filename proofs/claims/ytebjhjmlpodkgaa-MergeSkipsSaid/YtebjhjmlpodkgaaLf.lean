/-
  Trees of losers: how a tree is made.
-/
import Derived.Test.YtebjhjmlpodkgaaLd
import Derived.Test.YtebjhjmlpodkgaaLe
import Derived.Test.YtebjhjmlpodkgaaLq
import Derived.Deep.DeepCutAuto
import Derived.Deep.RegionWith
namespace Go.Proofs.Ytebjhjmlpodkgaa.KK
open Go.ChangeShapes Go.WideShapes Go.ChangeAt Go.RowKit Go.Proofs

theorem make_row (n : Nat) (hn : n ≤ 16777216) : ∃ Z : Array Value, Hid (Z.toList = intsV (List.replicate n 0)) ∧ ∀ w : World, (Instr.makeSlice 25 (.int .i64 (n : Int)) (.int .i64 (n : Int))).run Try.prog w = .ok (.slice (some ⟨w.heap.size, 0, none⟩) n n) (w.alloc (.cells Z 3)) := by
  obtain ⟨i0, hi, hz0, hz1, hz2⟩ := info_parts infoIn
  refine ⟨madeCells (Value.int .i64 0).cells (n * 1), Lib.hid ?_, fun w => ?_⟩
  · have e : (Value.int .i64 0).cells = #[.int .i64 0] := rfl
    rw [e, Nat.mul_one]
    apply List.ext_getElem?
    intro j
    simp only [madeCells, intsV]
    by_cases hj : j < n <;> simp [hj, Nat.mod_one]
  · have := run_make (P := Try.prog) w 25 3 i0 _ Try.underlying25 hi hz0 .i64 .i64 n n (by omega) (by omega) (by rw [hz2]; omega) (by omega)
    rw [hz1] at this
    simpa using this
theorem bcell {B : Nat} {w w' : World} (h : Below B w w') : (∀ b o, b < B → w'.cell? ⟨b, o, none⟩ = w.cell? ⟨b, o, none⟩) ∧ (∀ b o, b < B → w'.frozen? ⟨b, o, none⟩ = w.frozen? ⟨b, o, none⟩) :=
  ⟨fun b o hb => h.cell (p := ⟨b, o, none⟩) hb, fun b o hb => h.frozen (p := ⟨b, o, none⟩) hb⟩
/-- a tree that is being made lies at tb; its keys at kb, its losers at lb; all is new -/
structure Made (w wx : World) (ks : List LK) (L : List Int) (win : Int) (n tb kb lb cp : Nat) : Prop where
  row : Row3 wx tb 28 (.slice (some ⟨kb, 0, none⟩) n cp) (.slice (some ⟨lb, 0, none⟩) n n) (.int .i64 win)
  keys : CR wx kb (keysV ks)
  lose : CR wx lb (intsV L)
  ne : tb ≠ kb ∧ tb ≠ lb ∧ kb ≠ lb
  new : w.heap.size ≤ tb ∧ w.heap.size ≤ kb ∧ w.heap.size ≤ lb
  below : Below w.heap.size w wx
theorem made_of {w0 W1 w5 F : World} {ks : List LK} {Z : Array Value} {n tb lb g cp : Nat} (HZ : Hid (Z.toList = intsV (List.replicate n 0))) (hw : Below w0.heap.size w0 W1) (hb : Below W1.heap.size W1 w5) (hF : Chg (fun k => k = tb) w5 F) (hg : W1.heap.size ≤ g) (hcr : CR w5 g (keysV ks))
    (ht : Row3 F tb 28 (.slice (some ⟨g, 0, none⟩) n cp) (.slice (some ⟨lb, 0, none⟩) n n) (.int .i64 0))
    (hl : (lb < W1.heap.size ∧ W1.heap[lb]? = some (.cells Z 3)) ∨ (F.heap[lb]? = some (.cells Z 3) ∧ w5.heap.size ≤ lb))
    (hn : tb ≠ g ∧ tb ≠ lb) (h0 : w0.heap.size ≤ tb ∧ w0.heap.size ≤ lb) : Made w0 F ks (List.replicate n 0) 0 n tb g lb cp := by
  have hl' : F.heap[lb]? = some (.cells Z 3) ∧ g ≠ lb := by
    rcases hl with ⟨h1, h2⟩ | ⟨h1, h2⟩
    · exact ⟨(hF.block lb (Nat.lt_of_lt_of_le h1 hb.size) (fun e => hn.2 e.symm)).trans ((hb.block lb h1).trans h2), by omega⟩
    · exact ⟨h1, by have := hcr.lt; omega⟩
  refine ⟨ht, hcr.chg hF (fun e => hn.1 e.symm), ?_, ⟨hn.1, hn.2, hl'.2⟩, ⟨h0.1, by have := hw.size; omega, h0.2⟩, ?_⟩
  · refine ⟨(Array.getElem?_eq_some_iff.1 hl'.1).1, fun i hi => ?_, fun i hi => ?_⟩
    · refine (cell_of_row F lb i _ _ _ hl'.1).trans ?_
      rw [← Array.getElem?_toList, HZ.out]
      exact List.getElem?_eq_getElem hi
    · simp [World.frozen?, hl'.1]
  · exact (hw.trans (hb.mono hw.size)).trans (hF.below (fun k hk => by rw [hk]; exact h0.1) (by have := hw.size; have := hb.size; omega))
theorem Row3.of_zero {W1 w5 F : World} {tb : Nat} {u0 u1 u2 : Value} (hb : Below W1.heap.size W1 w5) (h : W1.heap[tb]? = some (.cells #[.slice none 0 0, .slice none 0 0, .int .i64 0] 28)) (hlt : tb < W1.heap.size)
    (hF : Row3 w5 tb 28 (.slice none 0 0) (.slice none 0 0) (.int .i64 0) → Row3 F tb 28 u0 u1 u2) : Row3 F tb 28 u0 u1 u2 := hF ((hb.block tb hlt).trans h)
theorem hp2 (w : World) (o o' : Obj) : ((w.alloc o).alloc o').heap[w.heap.size]? = some o := (heap_alloc_old _ _ (by simp)).trans (heap_alloc_new _ _)
theorem hp3 (w : World) (o o' : Obj) {k : Nat} (hk : k = w.heap.size + 1) : ((w.alloc o).alloc o').heap[k]? = some o' := by
  have := heap_alloc_new (w.alloc o) o'
  rw [World.size_alloc] at this
  rw [hk]; exact this
theorem hp1 (w : World) (o : Obj) {k : Nat} (hk : k = w.heap.size) : (w.alloc o).heap[k]? = some o := by rw [hk]; exact heap_alloc_new _ _
theorem hp2' (w : World) (o o' : Obj) {k : Nat} (hk : k = w.heap.size) : ((w.alloc o).alloc o').heap[k]? = some o := by rw [hk]; exact hp2 _ _ _
theorem hpm {w : World} {b o k : Nat} {u : Value} (hk : k ≠ b) : (w.setCell ⟨b, o, none⟩ u).heap[k]? = w.heap[k]? := Below.heap_setCell _ _ _ _ (by simpa using hk)
theorem alloc2_below (w : World) (o o' : Obj) : Below w.heap.size w ((w.alloc o).alloc o') := (alloc_below w o).alloc (by rw [World.size_alloc]; omega) o'
theorem alloc3_below (w : World) (o o' o'' : Obj) : Below w.heap.size w (((w.alloc o).alloc o').alloc o'') := (alloc2_below w o o').alloc (by rw [World.size_alloc, World.size_alloc]; omega) o''
theorem hdr (w : World) : w.drew.heap.size = w.heap.size := rfl
theorem made1 {w0 w5 : World} {ks : List LK} {Z : Array Value} {n g cp s : Nat} (HZ : Hid (Z.toList = intsV (List.replicate n 0))) (hs : w0.heap.size = s) (HG : Hid ((w0.drew).heap.size ≤ g)) (HCR : Hid (CR w5 g (keysV ks))) (HB5 : Hid (Below (w0.drew).heap.size (w0.drew) w5)) :
    Made w0 ((w5.alloc (.cells Z 3)).alloc (.cells #[.slice (some ⟨g, 0, none⟩) n cp, .slice (some ⟨w5.heap.size, 0, none⟩) n n, .int .i64 0] 28)) ks (List.replicate n 0) 0 n (w5.heap.size + 1) g (w5.heap.size) cp := by
  have h1 := HG.out; have h2 := HB5.out.size; have h3 := HCR.out.lt; simp only [World.size_alloc, hdr] at h1 h2
  exact made_of HZ (below_drewN' 1) HB5.out (.of_below (alloc2_below _ _ _)) HG.out HCR.out (hp3 _ _ _ rfl) (.inr ⟨hp2 _ _ _, Nat.le_refl _⟩) ⟨by omega, by omega⟩ ⟨by omega, by omega⟩
theorem made2 {w0 w5 : World} {ks : List LK} {Z : Array Value} {n g cp s : Nat} (HZ : Hid (Z.toList = intsV (List.replicate n 0))) (hs : w0.heap.size = s) (HG : Hid ((w0.drew).heap.size ≤ g)) (HCR : Hid (CR w5 g (keysV ks))) (HB5 : Hid (Below (w0.drew).heap.size (w0.drew) w5)) :
    Made w0 ((w5.alloc (.cells #[.slice (some ⟨g, 0, none⟩) n cp, .slice (some ⟨w5.heap.size + 1, 0, none⟩) n n, .int .i64 0] 28)).alloc (.cells Z 3)) ks (List.replicate n 0) 0 n (w5.heap.size) g (w5.heap.size + 1) cp := by
  have h1 := HG.out; have h2 := HB5.out.size; have h3 := HCR.out.lt; simp only [World.size_alloc, hdr] at h1 h2
  exact made_of HZ (below_drewN' 1) HB5.out (.of_below (alloc2_below _ _ _)) HG.out HCR.out (hp2 _ _ _) (.inr ⟨hp3 _ _ _ rfl, by omega⟩) ⟨by omega, by omega⟩ ⟨by omega, by omega⟩
theorem made3 {w0 w5 : World} {ks : List LK} {Z : Array Value} {n g cp s : Nat} (HZ : Hid (Z.toList = intsV (List.replicate n 0))) (hs : w0.heap.size = s) (HG : Hid (((w0.alloc (.cells Z 3)).drew).heap.size ≤ g)) (HCR : Hid (CR w5 g (keysV ks))) (HB5 : Hid (Below ((w0.alloc (.cells Z 3)).drew).heap.size ((w0.alloc (.cells Z 3)).drew) w5)) :
    Made w0 (w5.alloc (.cells #[.slice (some ⟨g, 0, none⟩) n cp, .slice (some ⟨s, 0, none⟩) n n, .int .i64 0] 28)) ks (List.replicate n 0) 0 n (w5.heap.size) g (s) cp := by
  have h1 := HG.out; have h2 := HB5.out.size; have h3 := HCR.out.lt; simp only [World.size_alloc, hdr] at h1 h2
  subst hs
  exact made_of HZ (alloc_below _ _).drew HB5.out (.of_below (alloc_below _ _)) HG.out HCR.out (hp1 _ _ rfl) (.inl ⟨by simp only [World.size_alloc, hdr]; omega, hp1 w0 _ rfl⟩) ⟨by omega, by omega⟩ ⟨by omega, by omega⟩
theorem made4 {w0 w5 : World} {ks : List LK} {Z : Array Value} {n g cp s : Nat} (HZ : Hid (Z.toList = intsV (List.replicate n 0))) (hs : w0.heap.size = s) (HG : Hid ((((w0.alloc (.cells Z 3)).alloc (.cells #[.slice none 0 0, .slice none 0 0, .int .i64 0] 28)).drew).heap.size ≤ g)) (HCR : Hid (CR w5 g (keysV ks))) (HB5 : Hid (Below (((w0.alloc (.cells Z 3)).alloc (.cells #[.slice none 0 0, .slice none 0 0, .int .i64 0] 28)).drew).heap.size (((w0.alloc (.cells Z 3)).alloc (.cells #[.slice none 0 0, .slice none 0 0, .int .i64 0] 28)).drew) w5)) :
    Made w0 (((w5.setCell ⟨s + 1, 0, none⟩ (.slice (some ⟨g, 0, none⟩) n cp)).setCell ⟨s + 1, 1, none⟩ (.slice (some ⟨s, 0, none⟩) n n)).setCell ⟨s + 1, 2, none⟩ (.int .i64 0)) ks (List.replicate n 0) 0 n (s + 1) g (s) cp := by
  have h1 := HG.out; have h2 := HB5.out.size; have h3 := HCR.out.lt; simp only [World.size_alloc, hdr] at h1 h2
  subst hs
  exact made_of HZ (alloc2_below _ _ _).drew HB5.out (((chg_set _ 0 _).trans (chg_set _ 1 _)).trans (chg_set _ 2 _)) HG.out HCR.out (Row3.of_zero HB5.out (hp3 w0 _ _ rfl) (by simp only [World.size_alloc, hdr]; omega) (fun h => h.set _ _ _)) (.inl ⟨by simp only [World.size_alloc, hdr]; omega, hp2 w0 _ _⟩) ⟨by omega, by omega⟩ ⟨by omega, by omega⟩
theorem made5 {w0 w5 : World} {ks : List LK} {Z : Array Value} {n g cp s : Nat} (HZ : Hid (Z.toList = intsV (List.replicate n 0))) (hs : w0.heap.size = s) (HG : Hid (((w0.alloc (.cells #[.slice none 0 0, .slice none 0 0, .int .i64 0] 28)).drew).heap.size ≤ g)) (HCR : Hid (CR w5 g (keysV ks))) (HB5 : Hid (Below ((w0.alloc (.cells #[.slice none 0 0, .slice none 0 0, .int .i64 0] 28)).drew).heap.size ((w0.alloc (.cells #[.slice none 0 0, .slice none 0 0, .int .i64 0] 28)).drew) w5)) :
    Made w0 ((((w5.setCell ⟨s, 0, none⟩ (.slice (some ⟨g, 0, none⟩) n cp)).setCell ⟨s, 1, none⟩ (.slice (some ⟨w5.heap.size, 0, none⟩) n n)).setCell ⟨s, 2, none⟩ (.int .i64 0)).alloc (.cells Z 3)) ks (List.replicate n 0) 0 n (s) g (w5.heap.size) cp := by
  have h1 := HG.out; have h2 := HB5.out.size; have h3 := HCR.out.lt; simp only [World.size_alloc, hdr] at h1 h2
  subst hs
  exact made_of HZ (alloc_below _ _).drew HB5.out ((((chg_set _ 0 _).trans (chg_set _ 1 _)).trans (chg_set _ 2 _)).trans (.of_below (alloc_below _ _))) HG.out HCR.out (Row3.of_zero HB5.out (hp1 w0 _ rfl) (by simp only [World.size_alloc, hdr]; omega) (fun h => (h.set _ _ _).below (alloc_below _ _) (Nat.le_refl _))) (.inr ⟨hp1 _ _ (by simp [World.setCell]), Nat.le_refl _⟩) ⟨by omega, by omega⟩ ⟨by omega, by omega⟩
theorem made6 {w0 w5 : World} {ks : List LK} {Z : Array Value} {n g cp s : Nat} (HZ : Hid (Z.toList = intsV (List.replicate n 0))) (hs : w0.heap.size = s) (HG : Hid ((((w0.alloc (.cells #[.slice none 0 0, .slice none 0 0, .int .i64 0] 28)).alloc (.cells Z 3)).drew).heap.size ≤ g)) (HCR : Hid (CR w5 g (keysV ks))) (HB5 : Hid (Below (((w0.alloc (.cells #[.slice none 0 0, .slice none 0 0, .int .i64 0] 28)).alloc (.cells Z 3)).drew).heap.size (((w0.alloc (.cells #[.slice none 0 0, .slice none 0 0, .int .i64 0] 28)).alloc (.cells Z 3)).drew) w5)) :
    Made w0 (((w5.setCell ⟨s, 0, none⟩ (.slice (some ⟨g, 0, none⟩) n cp)).setCell ⟨s, 1, none⟩ (.slice (some ⟨s + 1, 0, none⟩) n n)).setCell ⟨s, 2, none⟩ (.int .i64 0)) ks (List.replicate n 0) 0 n (s) g (s + 1) cp := by
  have h1 := HG.out; have h2 := HB5.out.size; have h3 := HCR.out.lt; simp only [World.size_alloc, hdr] at h1 h2
  subst hs
  exact made_of HZ (alloc2_below _ _ _).drew HB5.out (((chg_set _ 0 _).trans (chg_set _ 1 _)).trans (chg_set _ 2 _)) HG.out HCR.out (Row3.of_zero HB5.out (hp2 w0 _ _) (by simp only [World.size_alloc, hdr]; omega) (fun h => h.set _ _ _)) (.inl ⟨by simp only [World.size_alloc, hdr]; omega, hp3 w0 _ _ rfl⟩) ⟨by omega, by omega⟩ ⟨by omega, by omega⟩
theorem Made.set {w wx : World} {ks : List LK} {L : List Int} {win : Int} {n tb kb lb cp : Nat} (h : Made w wx ks L win n tb kb lb cp) {i : Nat} (hi : i < L.length) (v : Int) :
    Made w (wx.setCell ⟨lb, i, none⟩ (.int .i64 v)) ks (L.set i v) win n tb kb lb cp :=
  ⟨h.row.chg (chg_set lb i _) h.ne.2.1, h.keys.chg (chg_set lb i _) h.ne.2.2, h.lose.put hi v, h.ne, h.new, h.below.trans ((chg_set lb i _).below (fun k hk => by rw [hk]; exact h.new.2.2) h.below.size)⟩
/-- the losers of a tree, its winner -/
def loL (ks : List LK) : List Int := (List.range ks.length).map fun i => if i = 0 then 0 else (Lo.lo (wn ks) ks.length i : Int)
def wnr (ks : List LK) : Nat := Lo.pl (wn ks) ks.length 1
theorem loL_len (ks : List LK) : (loL ks).length = ks.length := by simp [loL]
theorem loL_row (ks : List LK) : Lo.Row ks.length (fun i => (Lo.lo (wn ks) ks.length i : Int)) (loL ks) := by
  refine ⟨loL_len ks, ?_, fun i h1 h2 => ?_⟩
  · by_cases h : 0 < ks.length
    · simp [loL, h]
    · simp [loL, List.length_eq_zero_iff.1 (by omega : ks.length = 0)]
  · have : i ≠ 0 := by omega
    simp [loL, h2, this]
theorem Row_eq {n : Nat} {f : Nat → Int} {L L' : List Int} (h : Lo.Row n f L) (g : Lo.Row n f L') : L = L' := by
  refine List.ext_getElem (h.len.trans g.len.symm) fun i hi hj => ?_
  have e : L.getD i 0 = L'.getD i 0 := by
    by_cases h0 : i = 0
    · rw [h0, h.zero, g.zero]
    · rw [h.all i (by omega) (by rw [← h.len]; exact hi), g.all i (by omega) (by rw [← h.len]; exact hi)]
  simpa [hi, hj] using e
theorem st_in {W : Nat → Nat → Bool} {n p : Nat} {L : List Int} (h : Lo.Row n (Lo.st W n p) L) : ∀ x ∈ L, -1 ≤ x ∧ x < n := fun x hx => by
  obtain ⟨i, hi, rfl⟩ := List.getElem_of_mem hx
  have hn : i < n := by rw [← h.len]; exact hi
  have e : L[i] = L.getD i 0 := by simp [hi]
  rw [e]
  by_cases h0 : i = 0
  · rw [h0, h.zero]; omega
  · rw [h.all i (by omega) hn]
    unfold Lo.st
    have a := Lo.pl_lt (W := W) (n := n) (i := 2 * i) (by omega) (by omega)
    have b := Lo.pl_lt (W := W) (n := n) (i := 2 * i + 1) (by omega) (by omega)
    have c := Lo.lo_lt (W := W) (n := n) (i := i) (by omega) hn
    split <;> (try split) <;> omega
/-- a tree lies in two rows that are new -/
structure Tree (w w' : World) (kb lb : Nat) (ks : List LK) (L : List Int) : Prop where
  keys : CR w' kb (keysV ks)
  lose : CR w' lb (intsV L)
  ne : kb ≠ lb
  new : w.heap.size ≤ kb ∧ w.heap.size ≤ lb
  below : Below w.heap.size w w'
theorem Made.tree {w wx : World} {ks : List LK} {L : List Int} {win : Int} {n tb kb lb cp : Nat} (h : Made w wx ks L win n tb kb lb cp) : Tree w wx kb lb ks L := ⟨h.keys, h.lose, h.ne.2.2, h.new.2, h.below⟩
theorem wn_tot (ks : List LK) : Lo.Tot (wn ks) := fun a b hab => by
  have hk : Kl.ord (Kl.L (kAt ks a).1) (Kl.L (kAt ks b).1) = 0 ∧ Kl.ord (Kl.L (kAt ks b).1) (Kl.L (kAt ks a).1) = 0 ∨ Kl.ord (Kl.L (kAt ks a).1) (Kl.L (kAt ks b).1) = -1 ∧ Kl.ord (Kl.L (kAt ks b).1) (Kl.L (kAt ks a).1) = 1 ∨ Kl.ord (Kl.L (kAt ks a).1) (Kl.L (kAt ks b).1) = 1 ∧ Kl.ord (Kl.L (kAt ks b).1) (Kl.L (kAt ks a).1) = -1 := by
    unfold Kl.ord
    cases h1 : Kl.lt (Kl.L (kAt ks a).1) (Kl.L (kAt ks b).1) <;> cases h2 : Kl.lt (Kl.L (kAt ks b).1) (Kl.L (kAt ks a).1) <;> simp
    rw [Kl.lt_asymm h1] at h2; cases h2
  unfold wn cf
  by_cases hd : (kAt ks a).2 = (kAt ks b).2
  · rw [if_pos hd, if_pos hd.symm]
    rcases hk with ⟨h1, h2⟩ | ⟨h1, h2⟩ | ⟨h1, h2⟩
    · rw [h1, h2, if_pos rfl, if_pos rfl]
      unfold Lib.compareInt
      by_cases h : a < b
      · have h' : ¬ b < a := by omega
        simp [h, h']
      · have h' : b < a := by omega
        simp [h, h']
    · rw [h1, h2]; rfl
    · rw [h1, h2]; rfl
  · rw [if_neg hd, if_neg (Ne.symm hd)]
    cases h1 : (kAt ks a).2 <;> cases h2 : (kAt ks b).2 <;> simp_all
set_option maxRecDepth 100000 in
set_option maxHeartbeats 4000000 in
theorem play_any (A : Option Addr) (c : Nat) (ks : List LK) (w : World) (hf : KsAt w A ks) (h1 : 1 ≤ ks.length) (hn : ks.length ≤ 5000) :
    Calls Try.prog 97 #[.slice A ks.length c] w fun e w' => ∃ kb lb cp cl, e = .returned (.agg #[.slice (some ⟨kb, 0, none⟩) ks.length cp, .slice (some ⟨lb, 0, none⟩) ks.length cl, .int .i64 (wnr ks : Nat)]) ∧ Tree w w' kb lb ks (loL ks) := by
  have HRW := Lib.hid (loL_row ks)
  have HTT := Lib.hid (wn_tot ks)
  have HWR : Hid (wnr ks = Lo.pl (wn ks) ks.length 1) := Lib.hid rfl
  have hne : ks ≠ [] := fun e => by subst e; simp at h1
  have JK := Lib.hid (fun w' (hb : Below w.heap.size w w') => cloneK_any A c ks w' (hf.below hb (Nat.le_refl _)) hne hn)
  obtain ⟨n, hnn⟩ : ∃ n, ks.length = n := ⟨_, rfl⟩
  rw [hnn] at JK h1 hn HRW HWR ⊢
  generalize wnr ks = ww at *
  generalize loL ks = LL at *
  obtain ⟨Z, HZ, hmk⟩ := make_row n (by omega)
  have HN := Lib.hid hnn
  have HMK := Lib.hid hmk
  clear hf hne hnn
  go_enter Try.func97, Try.ntmps97
  go_upto_region 1 with fail
  go_cut [3] (fun tv wx => ∃ tb kb lb cp, tv = .pointer (some ⟨tb, 0, none⟩) ∧ Made (w.alloc (.cells #[.slice none 0 0, .slice none 0 0, .int .i64 0] 28)) wx ks (List.replicate n 0) 0 n tb kb lb cp)
  case first =>
    go_region_with (go_at_call 75; refine (JK.out _ (by first | exact alloc_below _ _ | exact (alloc_below _ _).drew | exact (alloc2_below _ _ _).drew | exact (alloc3_below _ _ _ _).drew)).mono ?_; rintro e w5 ⟨g, cp, rfl, hg, hcr, hb5⟩; have HG := Lib.hid hg; have HCR := Lib.hid hcr; have HB5 := Lib.hid hb5; obtain ⟨hcc, hff⟩ := bcell hb5; (try have : w.heap.size + 1 < w5.heap.size := by have := hb5.size; first | omega | (simp at this; omega)); (try have : w.heap.size + 1 + 1 < w5.heap.size := by have := hb5.size; first | omega | (simp at this; omega)); clear hg hcr hb5)
    all_goals
      go_wp2_with fail
      go_meet
      case rel =>
        first
        | exact ⟨_, g, _, cp, rfl, made1 HZ rfl HG HCR HB5⟩
        | exact ⟨_, g, _, cp, rfl, made2 HZ rfl HG HCR HB5⟩
        | exact ⟨_, g, _, cp, rfl, made3 HZ (by simp) HG HCR HB5⟩
        | exact ⟨_, g, _, cp, rfl, made4 HZ (by simp) HG HCR HB5⟩
        | exact ⟨_, g, _, cp, rfl, made5 HZ (by simp) HG HCR HB5⟩
        | exact ⟨_, g, _, cp, rfl, made6 HZ (by simp) HG HCR HB5⟩
  case rest =>
    obtain ⟨tb, kb, lb, cp, rfl, hM⟩ := hcut
    have HM := Lib.hid hM
    clear hM hmk HMK JK
    go_wp2_with fail
    go_loopw [4] (fun nv wr => ∃ (m : Nat) (L1 : List Int), nv = .int .i64 m ∧ 1 ≤ m ∧ m ≤ n ∧ Hid (L1.length = n ∧ L1.getD 0 0 = 0 ∧ (∀ i, 1 ≤ i → i < m → L1.getD i 0 = -1) ∧ Made (w.alloc (.cells #[.slice none 0 0, .slice none 0 0, .int .i64 0] 28)) wr ks L1 0 n tb kb lb cp)) (fun nv _ => n - (intOf nv).toNat)
    case atStart => exact ⟨1, List.replicate n 0, rfl, Nat.le_refl _, h1, Lib.hid ⟨by simp, by rw [List.getD_eq_getElem?_getD, List.getElem?_replicate]; split <;> rfl, fun i _ _ => by omega, HM.out⟩⟩
    case round =>
      obtain ⟨m, L1, rfl, hm1, hmn, HS⟩ := hrel
      by_cases hlt : m < n
      · have hr := HS.out.2.2.2.row
        have t1 := hr.c1
        obtain ⟨_, lf⟩ := HS.out.2.2.2.lose.int (i := m) (by rw [HS.out.1]; exact hlt)
        obtain ⟨lc, _⟩ := HS.out.2.2.2.lose.int (i := m) (by rw [HS.out.1]; exact hlt)
        clear hr
        go_wp2_with fail
        go_roundw
        case rel =>
          refine ⟨m + 1, L1.set m (-1), by go_num, by omega, by omega, Lib.hid ⟨by simp [HS.out.1], ?_, fun i a b => ?_, HS.out.2.2.2.set (by rw [HS.out.1]; exact hlt) _⟩⟩
          · rw [Lo.getD_set (by rw [HS.out.1]; exact hlt), if_neg (by omega)]; exact HS.out.2.1
          · rw [Lo.getD_set (by rw [HS.out.1]; exact hlt)]
            split
            · rfl
            · exact HS.out.2.2.1 i a (by omega)
        case measure => simp [intOf]; omega
      · have HR0 : Hid (Lo.Row n (Lo.st (wn ks) n 0) L1 ∧ Made (w.alloc (.cells #[.slice none 0 0, .slice none 0 0, .int .i64 0] 28)) wr ks L1 0 n tb kb lb cp) := Lib.hid
          ⟨⟨HS.out.1, HS.out.2.1, fun i a b => by rw [Lo.st_zero a b]; exact HS.out.2.2.1 i a (by omega)⟩, HS.out.2.2.2⟩
        clear HS HM hmn hm1
        go_wp2_with fail
        go_loopw [5, 24] (fun _ iv wr => ∃ (p : Nat) (L1 : List Int), iv = .int .i64 p ∧ p ≤ n ∧ Hid (Lo.Row n (Lo.st (wn ks) n p) L1 ∧ Made (w.alloc (.cells #[.slice none 0 0, .slice none 0 0, .int .i64 0] 28)) wr ks L1 (if p = n then (ww : Int) else 0) n tb kb lb cp)) (fun _ iv _ => n - (intOf iv).toNat)
        case atStart => exact ⟨0, L1, rfl, Nat.zero_le _, Lib.hid ⟨HR0.out.1, by rw [if_neg (by omega)]; exact HR0.out.2⟩⟩
        case round =>
          obtain ⟨p, L2, rfl, hp, HS⟩ := hrel
          clear HR0
          by_cases hlt2 : p < n
          · have JC : Hid (Calls Try.prog 106 #[.pointer (some ⟨tb, 0, none⟩), .int .i64 p] wr fun e w' => ∃ r : Int, e = .returned (.int .i64 r) ∧ ∃ L3, Lo.Row n (Lo.st (wn ks) n (p + 1)) L3 ∧
                Made (w.alloc (.cells #[.slice none 0 0, .slice none 0 0, .int .i64 0] 28)) w' ks L3 (if p + 1 = n then (ww : Int) else 0) n tb kb lb cp) := Lib.hid (by
              have hM := HS.out.2
              have hR := HS.out.1
              refine (climb_any tb lb (some ⟨kb, 0, none⟩) cp n ks n HN.out L2 p _ wr hM.row hM.lose hR.len (st_in hR) hM.keys.ks (fun a ha => by obtain rfl := Option.some.inj ha; exact ⟨hM.ne.1.symm, hM.ne.2.2⟩) hM.ne.2.1 hlt2 (by omega)).mono ?_
              rintro e w1 ⟨R, hRR, rfl, hl, ht, hc⟩
              obtain ⟨L', o, g', hE, hrow, ho⟩ := Lo.climb_make' HTT.out hlt2 hR 0
              rw [hE] at hRR
              subst hRR
              refine ⟨_, rfl, L', hrow, ?_, hM.keys.chg hc (fun h => by have := hM.ne; omega), hl, hM.ne, hM.new, hM.below.trans (hc.below (fun k hk => by rcases hk with rfl | rfl; exact hM.new.1; exact hM.new.2.2) hM.below.size)⟩
              have e2 : (if p + 1 = n then (ww : Int) else 0) = oW o (if p = n then (ww : Int) else 0) := by
                rw [ho]
                by_cases h : p + 1 = n
                · rw [if_pos h, if_pos h, HWR.out]; rfl
                · rw [if_neg h, if_neg h, if_neg (by omega : ¬ p = n)]; rfl
              rw [e2]; exact ht)
            clear HS
            go_wp2_with fail
            refine JC.out.mono ?_
            rintro e w1 ⟨r, rfl, L3, hr3, hm3⟩
            have HS := Lib.hid (And.intro hr3 hm3)
            clear hr3 hm3 JC
            go_wp2_with fail
            go_roundw
            case rel => exact ⟨p + 1, L3, by go_num, by omega, HS⟩
            case measure => simp [intOf]; omega
          · obtain rfl : p = n := by omega
            have HT : Hid (L2 = LL ∧ Made (w.alloc (.cells #[.slice none 0 0, .slice none 0 0, .int .i64 0] 28)) wr ks L2 ww p tb kb lb cp) := Lib.hid ⟨Row_eq ⟨HS.out.1.len, HS.out.1.zero, fun i a b => by rw [HS.out.1.all i a b, Lo.st_full]⟩ HRW.out, by have := HS.out.2; rwa [if_pos rfl] at this⟩
            have hr := HT.out.2.row
            have t0 := hr.c0
            have t1 := hr.c1
            have t2 := hr.c2
            have HR0 : Hid (Row3 wr w.heap.size 28 (.slice none 0 0) (.slice none 0 0) (.int .i64 0)) := Lib.hid ((HT.out.2.below.block _ (by simp)).trans (heap_alloc_new w _))
            have r0 := HR0.out.c0
            have r1 := HR0.out.c1
            have r2 := HR0.out.c2
            have z0 := HR0.out.fz 0
            have z1 := HR0.out.fz 1
            have z2 := HR0.out.fz 2
            clear hr HS
            go_wp2_with fail
            have HX := HR0.out.set (.slice (some ⟨kb, 0, none⟩) p cp) (.slice (some ⟨lb, 0, none⟩) p p) (.int .i64 (ww : Int))
            have k0 := HX.c0
            have k1 := HX.c1
            have k2 := HX.c2
            refine bodyPost_ret (v := .agg #[.slice (some ⟨kb, 0, none⟩) p cp, .slice (some ⟨lb, 0, none⟩) p p, .int .i64 (ww : Int)]) (by simp [results, Try.f97, go_sem, k0, k1, k2]) rfl ?_
            have hm := HT.out.2
            rw [HT.out.1] at hm
            have hc : Chg (fun k => k = w.heap.size) wr _ := ((chg_set w.heap.size 0 (.slice (some ⟨kb, 0, none⟩) p cp)).trans (chg_set w.heap.size 1 (.slice (some ⟨lb, 0, none⟩) p p))).trans (chg_set w.heap.size 2 (.int .i64 (ww : Int)))
            have hnw := hm.new
            simp only [World.size_alloc] at hnw
            exact ⟨kb, lb, cp, p, rfl, hm.keys.chg hc (by omega), hm.lose.chg hc (by omega), hm.ne.2.2, ⟨by omega, by omega⟩, ((alloc_below w _).trans (hm.below.mono (by simp))).trans (hc.below (fun k hk => by omega) (by have := hm.below.size; simp at this; omega))⟩
end Go.Proofs.Ytebjhjmlpodkgaa.KK
