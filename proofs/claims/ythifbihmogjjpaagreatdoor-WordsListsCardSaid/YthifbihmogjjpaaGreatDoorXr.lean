/-
  Contracts of Lines, of the reference's Lines, and of 'lines'.
-/
import Derived.Test.YthifbihmogjjpaaGreatDoorQa
import Derived.Test.YthifbihmogjjpaaGreatDoorXh
import Derived.Test.YthifbihmogjjpaaGreatDoorWs
import Derived.Test.YthifbihmogjjpaaGreatDoorShelf
import Derived.Deep.Cut
import Derived.BigQuiet
namespace Go.Proofs.YthifbihmogjjpaaGreatDoor
open Go.ChangeShapes Go.WideShapes Go.ChangeAt Go.RowKit Go.Proofs

/-- a slice value that reads as strings -/
def StrsAt (w : World) (A : Option Addr) (ts : List (List UInt8)) : Prop :=
  ts = [] ∨ ∃ b off, A = some ⟨b, off, none⟩ ∧ b < w.heap.size ∧ ∀ (i : Nat) (h : i < ts.length), w.cell? ⟨b, off + i, none⟩ = some (.string ⟨ts[i].toArray⟩)
theorem StrsAt.below {B : Nat} {w w' : World} {A : Option Addr} {ts : List (List UInt8)} (h : StrsAt w A ts) (hb : Below B w w') (hB : w.heap.size ≤ B) : StrsAt w' A ts := by
  rcases h with h | ⟨b, off, hA, hlt, hc⟩
  · exact .inl h
  · exact .inr ⟨b, off, hA, Nat.lt_of_lt_of_le hlt hb.size, fun i hi => by rw [hb.cell (p := ⟨b, off + i, none⟩) (by simp; omega)]; exact hc i hi⟩
def strV (ts : List (List UInt8)) : List Value := ts.map fun t => .string ⟨t.toArray⟩
theorem strV_snoc (ts : List (List UInt8)) (t : List UInt8) : strV (ts ++ [t]) = strV ts ++ [.string ⟨t.toArray⟩] := by simp [strV]
theorem StrsAt.of_own {w : World} {base : Nat} {A : Option Addr} {c : Nat} {ts : List (List UInt8)} (h : w.ownsRow base 9 1 (.slice A ts.length c) ts.length (strV ts)) : StrsAt w A ts := by
  by_cases h0 : ts = []
  · exact .inl h0
  · have hpos : 0 < ts.length := List.length_pos_iff.2 h0
    have hform : ∃ g cap, Value.slice A ts.length c = .slice (some ⟨g, 0, none⟩) ts.length cap ∧ g < w.heap.size := by
      rcases h.2 with ⟨_, h1⟩ | ⟨g, cap, cur, hv, _, hh, _⟩
      · omega
      · exact ⟨g, cap, hv, (Array.getElem?_eq_some_iff.1 hh).1⟩
    obtain ⟨g, cap, hv, hlt⟩ := hform
    have hA : A = some ⟨g, 0, none⟩ := by injection hv
    refine .inr ⟨g, 0, hA, hlt, fun i hi => ?_⟩
    have hcell := h.cells (g := g) (by rw [hv]; rfl)
    have hadd : ∀ j, (⟨g, 0, none⟩ : Addr).add j = ⟨g, 0 + j, none⟩ := fun j => by unfold Addr.add; split <;> simp_all
    have b0 := hcell i (.string ⟨ts[i].toArray⟩) (by unfold strV; rw [List.getElem?_map, List.getElem?_eq_getElem hi]; rfl)
    rwa [hadd] at b0
/-- the listed number at which strings.Split looks -/
def C4 (w : World) : Prop := ∃ m : Int, w.cell? ⟨3, 0, none⟩ = some (.int .i64 m)
theorem C4.below {w w' : World} (h : C4 w) (he : Env w) (hb : Below w.heap.size w w') : C4 w' := by
  obtain ⟨m, hm⟩ := h
  exact ⟨m, (hb.cell (p := ⟨3, 0, none⟩) (by have := he.2.2; simp; omega)).trans hm⟩

def LinesOut (r : Int × List (List UInt8)) (w : World) (e : Ending) (w' : World) : Prop :=
  ∃ A c, e = .returned (.tuple #[.slice A r.2.length c, .int .i64 r.1]) ∧ StrsAt w' A r.2 ∧ Below w.heap.size w w'
theorem linesG {r : Int × List (List UInt8)} {e : Int} {ts : List (List UInt8)} (w w' : World) (A : Option Addr) (c : Nat) (h : r = (e, ts)) (hf : StrsAt w' A ts) (hb : Below w.heap.size w w') (E : Ending) (hE : E = .returned (.tuple #[.slice A ts.length c, .int .i64 e])) : LinesOut r w E w' := by
  subst h; exact ⟨A, c, hE, hf, hb⟩
theorem str_ne {s : ByteArray} (h : 0 < s.size) : s.toList ≠ [] := by
  rw [Lib.toList_data]; intro e
  have := congrArg List.length e
  rw [Array.length_toList] at this
  have h0' : 0 < s.data.size := h
  simp only [List.length_nil] at this
  omega
theorem split_at (c : UInt8) (t : List UInt8) (w : World) (h4 : C4 w) (hl : t.length ≤ 4000000000) :
    Calls Tryz.prog 38 #[.string ⟨t.toArray⟩, .string ⟨#[c]⟩] w fun e w' => e = .returned (.slice (some ⟨w.heap.size, 0, none⟩) (Pl.segs c t).length (Pl.segs c t).length) ∧ StrsAt w' (some ⟨w.heap.size, 0, none⟩) (Pl.segs c t) ∧ Below w.heap.size w w' := by
  obtain ⟨m, hm⟩ := h4
  refine (Tryz.strings_Split ⟨t.toArray⟩ ⟨#[c]⟩ m w (by rw [size_mk]; omega) hm (Nat.le_refl 1)).mono ?_
  rintro e w' ⟨rfl, rfl⟩
  have hs := Pl.splitB_segs c _ ⟨t.toArray⟩ rfl
  have hc := Pl.countB_segs c ⟨t.toArray⟩
  rw [L_mk] at hs hc
  rw [hc, hs]
  refine ⟨rfl, .inr ⟨w.heap.size, 0, rfl, by simp, fun i hi => ?_⟩, (Below.refl _ _).alloc (Nat.le_refl _) _⟩
  have := cell_of_row (w.alloc (.cells ((List.map Value.string (List.map (fun t => (⟨t.toArray⟩ : ByteArray)) (Pl.segs c t))).toArray) 9)) w.heap.size i _ _ _ (heap_alloc_new w _)
  rw [show 0 + i = i by omega, this]
  simp [hi]

end Go.Proofs.YthifbihmogjjpaaGreatDoor
