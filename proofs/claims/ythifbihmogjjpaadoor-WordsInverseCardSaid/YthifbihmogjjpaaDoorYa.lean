/-
  From what the rows list to what the contracts ask of the world.
-/
import Derived.Test.YthifbihmogjjpaaDoorRows
import Derived.Test.YthifbihmogjjpaaDoorWs
import Derived.Lib.LaidU8
import Derived.MakeChecks
import Derived.Deep.DeepHandedRow
import Derived.Lay
namespace Go.Proofs.YthifbihmogjjpaaDoor
open Go.ChangeShapes Go.WideShapes Go.ChangeAt Go.RowKit Go.Proofs Go.Lib

theorem ynEsc : Tryd.prog.globalNamed "bookend/words.escapes" = some 0 := by kernel_rfl
theorem ytEsc : (Tryd.prog.globals[(0 : Nat)]?).map (·.type) = some 104 := by kernel_rfl
theorem ytPow : (Tryd.prog.globals[(3 : Nat)]?).map (·.type) = some 132 := by kernel_rfl
theorem ytRange : (Tryd.prog.globals[(2 : Nat)]?).map (·.type) = some 72 := by kernel_rfl
theorem ycEscs : Tryd.prog.cellsOf 104 = 10 := by kernel_rfl
theorem ycEsc : Tryd.prog.cellsOf 103 = 2 := by kernel_rfl
theorem ycByte : Tryd.prog.cellsOf 5 = 1 := by kernel_rfl
theorem ycU64 : Tryd.prog.cellsOf 109 = 1 := by kernel_rfl
theorem ycPow : Tryd.prog.cellsOf 132 = 20 := by kernel_rfl

theorem pow_of_reads {W : World} (h : VarReads Tryd.prog W "internal/strconv.uint64pow10" Rows.laid_internal_strconv_uint64pow10) : Lib.TabIs Tryd.prog W "internal/strconv.uint64pow10" .u64 Lib.pow10Tab := by
  obtain ⟨g, t, cs, fuel, p, hg, hty, hvar, hd⟩ := h
  obtain rfl := Option.some.inj (gPow.symm.trans hg)
  obtain rfl := Option.some.inj (ytPow.symm.trans hty)
  unfold Lib.TabIs
  rw [hvar, ← cells_of_tab (zs := Lib.pow10Tab) Tryd.underlying132 Tryd.underlying109 ycU64 ycPow hd]

theorem range_of_reads {W : World} {nm : String} {d : DataW Unit} (h : VarReads Tryd.prog W "strconv.ErrRange" (.iface nm d)) : ∃ tp p, W.var? Tryd.prog "strconv.ErrRange" = some #[.iface tp p] := by
  obtain ⟨g, t, cs, fuel, p, hg, hty, hvar, hd⟩ := h
  obtain rfl := Option.some.inj (gRange.symm.trans hg)
  obtain rfl := Option.some.inj (ytRange.symm.trans hty)
  obtain ⟨f1, u, v, he, _, _⟩ := iface_of_trod Tryd.underlying72 hd
  refine ⟨u, v, ?_⟩
  have e : cs = #[.iface u v] := Array.toList_inj.1 he
  rw [hvar, e]

theorem heap_of_var {P : Program} {W : World} {n : String} {g : Nat} {cs : Array Value} (hg : P.globalNamed n = some g) (h : W.var? P n = some cs) : ∃ t fr, W.heap[g]? = some (.cells cs t fr) := by
  unfold World.var? at h
  rw [hg] at h
  simp only [Option.bind_some] at h
  split at h
  · rename_i c t fr hh
    cases h
    exact ⟨_, _, hh⟩
  · cases h

theorem esc_elem {W : World} {fuel : Nat} {cs : List Value} {ds : List (DataW Unit)} {p : List MemPlace} (hd : DataW.trod (fun _ => ()) Tryd.prog W 0 (fun _ => true) false fuel 104 cs = some (.agg ds, p)) (i : Nat) (hi : i < 5) (a b : Int)
    (hds : ds[i]? = some (.agg ([a, b].map fun z => .lit (.int .u8 z)))) : (cs.drop (i * 2)).take 2 = [.int .u8 a, .int .u8 b] := by
  obtain ⟨f', d, q, h1, h2⟩ := array_elem Tryd.underlying104 hd i hi
  obtain rfl := Option.some.inj (hds.symm.trans h1)
  rw [ycEsc] at h2
  exact ints_of_struct Tryd.underlying103 (fun j f hj => by
    match j, hj with
    | 0, hj => simp at hj; subst hj; exact ⟨Tryd.underlying5, rfl, ycByte⟩
    | 1, hj => simp at hj; subst hj; exact ⟨Tryd.underlying5, rfl, ycByte⟩
    | j + 2, hj => simp at hj) (by rw [ycEsc]; rfl) h2

theorem esc_of_reads {W : World} (h : VarReads Tryd.prog W "bookend/words.escapes" Rows.laid_bookend_words_escapes) : EscAt W := by
  obtain ⟨g, t, cs, fuel, p, hg, hty, hvar, hd⟩ := h
  obtain rfl := Option.some.inj (ynEsc.symm.trans hg)
  obtain rfl := Option.some.inj (ytEsc.symm.trans hty)
  have hl : cs.toList.length = 10 := by
    obtain ⟨xs, m, _, _, hl, _⟩ := DataW.trod_array Tryd.underlying104 hd
    rw [hl, ycEscs]
  have e0 := esc_elem hd 0 (by decide) 34 34 rfl
  have e1 := esc_elem hd 1 (by decide) 92 92 rfl
  have e2 := esc_elem hd 2 (by decide) 10 110 rfl
  have e3 := esc_elem hd 3 (by decide) 13 114 rfl
  have e4 := esc_elem hd 4 (by decide) 9 116 rfl
  clear hd
  have hcs : cs = escCells := by
    apply Array.toList_inj.1
    generalize cs.toList = l at hl e0 e1 e2 e3 e4
    match l, hl with
    | [x0, x1, x2, x3, x4, x5, x6, x7, x8, x9], _ =>
      simp at e0 e1 e2 e3 e4
      obtain ⟨rfl, rfl⟩ := e0
      obtain ⟨rfl, rfl⟩ := e1
      obtain ⟨rfl, rfl⟩ := e2
      obtain ⟨rfl, rfl⟩ := e3
      obtain ⟨rfl, rfl⟩ := e4
      rfl
  obtain ⟨t, fr, hh⟩ := heap_of_var ynEsc hvar
  rw [hcs] at hh
  exact ⟨t, fr, hh⟩

theorem heap9 {W : World} (h : W.ShapedOpen Tryd.prog) : 9 ≤ W.heap.size := by
  obtain ⟨z, hz⟩ : ∃ z, ((begin Tryd.prog (fun _ _ => 0) default).world.heap[8]?).bind Obj.row? = some z := Option.isSome_iff_exists.1 (by kernel_rfl)
  obtain ⟨cs, hcs, _⟩ := h.1 8 z.1 z.2 (of_decide_eq_true (by kernel_rfl)) hz
  rcases Nat.lt_or_ge 8 W.heap.size with h | h
  · exact h
  · rw [Array.getElem?_eq_none h] at hcs; cases hcs

/-- what the rows' first six variables give -/
theorem env_of_reads {W : World} (hsh : W.ShapedOpen Tryd.prog) (h1 : VarReads Tryd.prog W "internal/strconv.uint64pow10" Rows.laid_internal_strconv_uint64pow10) (h2 : VarReads Tryd.prog W "strconv.ErrRange" Rows.laid_strconv_ErrRange)
    (h3 : VarReads Tryd.prog W "bookend/words.escapes" Rows.laid_bookend_words_escapes) : Env W :=
  ⟨esc_of_reads h3, ⟨range_of_reads h2, pow_of_reads h1⟩, heap9 hsh⟩
end Go.Proofs.YthifbihmogjjpaaDoor
