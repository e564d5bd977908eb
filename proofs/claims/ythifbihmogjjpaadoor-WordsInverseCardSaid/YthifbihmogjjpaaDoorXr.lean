/-
  Contracts of Lines, of the reference's Lines, and of 'lines'.
-/
import Derived.Test.YthifbihmogjjpaaDoorPt
import Derived.Test.YthifbihmogjjpaaDoorXh
import Derived.Test.YthifbihmogjjpaaDoorWs
import Derived.Test.YthifbihmogjjpaaDoorShelf
import Derived.Deep.Cut
import Derived.BigQuiet
namespace Go.Proofs.YthifbihmogjjpaaDoor
open Go.ChangeShapes Go.WideShapes Go.ChangeAt Go.RowKit Go.Proofs

/-- a slice value that reads as strings -/
def StrsAt (w : World) (A : Option Addr) (ts : List (List UInt8)) : Prop :=
  ts = [] ∨ ∃ b off, A = some ⟨b, off, none⟩ ∧ b < w.heap.size ∧ ∀ (i : Nat) (h : i < ts.length), w.cell? ⟨b, off + i, none⟩ = some (.string ⟨ts[i].toArray⟩)
theorem StrsAt.below {B : Nat} {w w' : World} {A : Option Addr} {ts : List (List UInt8)} (h : StrsAt w A ts) (hb : Below B w w') (hB : w.heap.size ≤ B) : StrsAt w' A ts := by
  rcases h with h | ⟨b, off, hA, hlt, hc⟩
  · exact .inl h
  · exact .inr ⟨b, off, hA, Nat.lt_of_lt_of_le hlt hb.size, fun i hi => by rw [hb.cell (p := ⟨b, off + i, none⟩) (by simp; omega)]; exact hc i hi⟩
def strV (ts : List (List UInt8)) : List Value := ts.map fun t => .string ⟨t.toArray⟩
theorem strV_snoc (ts : List (List UInt8)) (t : List UInt8) : strV (ts ++ [t]) = strV ts ++ [.string ⟨t.toArray⟩] := by simp [strV]
theorem StrsAt.of_own {w : World} {base : Nat} {A : Option Addr} {c : Nat} {ts : List (List UInt8)} (h : w.ownsRow base 9 1 (.slice A ts.length c) ts.length (strV ts)) : StrsAt w A ts := by
  by_cases h0 : ts = []
  · exact .inl h0
  · have hpos : 0 < ts.length := List.length_pos_iff.2 h0
    have hform : ∃ g cap, Value.slice A ts.length c = .slice (some ⟨g, 0, none⟩) ts.length cap ∧ g < w.heap.size := by
      rcases h.2 with ⟨_, h1⟩ | ⟨g, cap, cur, hv, _, hh, _⟩
      · omega
      · exact ⟨g, cap, hv, (Array.getElem?_eq_some_iff.1 hh).1⟩
    obtain ⟨g, cap, hv, hlt⟩ := hform
    have hA : A = some ⟨g, 0, none⟩ := by injection hv
    refine .inr ⟨g, 0, hA, hlt, fun i hi => ?_⟩
    have hcell := h.cells (g := g) (by rw [hv]; rfl)
    have hadd : ∀ j, (⟨g, 0, none⟩ : Addr).add j = ⟨g, 0 + j, none⟩ := fun j => by unfold Addr.add; split <;> simp_all
    have b0 := hcell i (.string ⟨ts[i].toArray⟩) (by unfold strV; rw [List.getElem?_map, List.getElem?_eq_getElem hi]; rfl)
    rwa [hadd] at b0
/-- the listed number at which strings.Split looks -/
def C4 (w : World) : Prop := ∃ m : Int, w.cell? ⟨4, 0, none⟩ = some (.int .i64 m)
theorem C4.below {w w' : World} (h : C4 w) (he : Env w) (hb : Below w.heap.size w w') : C4 w' := by
  obtain ⟨m, hm⟩ := h
  exact ⟨m, (hb.cell (p := ⟨4, 0, none⟩) (by have := he.2.2; simp; omega)).trans hm⟩

def LinesOut (r : Int × List (List UInt8)) (w : World) (e : Ending) (w' : World) : Prop :=
  ∃ A c, e = .returned (.tuple #[.slice A r.2.length c, .int .i64 r.1]) ∧ StrsAt w' A r.2 ∧ Below w.heap.size w w'
theorem linesG {r : Int × List (List UInt8)} {e : Int} {ts : List (List UInt8)} (w w' : World) (A : Option Addr) (c : Nat) (h : r = (e, ts)) (hf : StrsAt w' A ts) (hb : Below w.heap.size w w') (E : Ending) (hE : E = .returned (.tuple #[.slice A ts.length c, .int .i64 e])) : LinesOut r w E w' := by
  subst h; exact ⟨A, c, hE, hf, hb⟩
theorem str_ne {s : ByteArray} (h : 0 < s.size) : s.toList ≠ [] := by
  rw [Lib.toList_data]; intro e
  have := congrArg List.length e
  rw [Array.length_toList] at this
  have h0' : 0 < s.data.size := h
  simp only [List.length_nil] at this
  omega
theorem split_at (c : UInt8) (t : List UInt8) (w : World) (h4 : C4 w) (hl : t.length ≤ 4000000000) :
    Calls Tryd.prog 49 #[.string ⟨t.toArray⟩, .string ⟨#[c]⟩] w fun e w' => e = .returned (.slice (some ⟨w.heap.size, 0, none⟩) (Pl.segs c t).length (Pl.segs c t).length) ∧ StrsAt w' (some ⟨w.heap.size, 0, none⟩) (Pl.segs c t) ∧ Below w.heap.size w w' := by
  obtain ⟨m, hm⟩ := h4
  refine (Tryd.strings_Split ⟨t.toArray⟩ ⟨#[c]⟩ m w (by rw [size_mk]; omega) hm (Nat.le_refl 1)).mono ?_
  rintro e w' ⟨rfl, rfl⟩
  have hs := Pl.splitB_segs c _ ⟨t.toArray⟩ rfl
  have hc := Pl.countB_segs c ⟨t.toArray⟩
  rw [L_mk] at hs hc
  rw [hc, hs]
  refine ⟨rfl, .inr ⟨w.heap.size, 0, rfl, by simp, fun i hi => ?_⟩, (Below.refl _ _).alloc (Nat.le_refl _) _⟩
  have := cell_of_row (w.alloc (.cells ((List.map Value.string (List.map (fun t => (⟨t.toArray⟩ : ByteArray)) (Pl.segs c t))).toArray) 9)) w.heap.size i _ _ _ (heap_alloc_new w _)
  rw [show 0 + i = i by omega, this]
  simp [hi]

set_option maxRecDepth 100000 in
set_option maxHeartbeats 1000000 in
theorem Lines_any (s : ByteArray) (w : World) (he : Env w) (h4 : C4 w) (hs : s.size ≤ 4000000000) :
    Calls Tryd.prog 27 #[.string s] w (LinesOut (Pl.lns (Pl.L s)) w) := by
  by_cases hlong : 1048576 < s.size
  · have H := Lib.hid (Pl.lns_long (l := Pl.L s) (by rw [Pl.L_length]; exact hlong))
    go_enter Tryd.func27, Tryd.ntmps27
    go_wp2_with fail
    go_ret2
    exact linesG w w none 0 H.out (.inl rfl) (Below.refl _ _) _ rfl
  by_cases h0 : s.size = 0
  · obtain rfl : s = ⟨#[]⟩ := by
      obtain ⟨d⟩ := s
      have : d = #[] := Array.size_eq_zero_iff.1 h0
      rw [this]
    go_enter Tryd.func27, Tryd.ntmps27
    go_wp2_with fail
    go_ret2
    exact linesG w w none 0 Pl.lns_nil (.inl rfl) (Below.refl _ _) _ rfl
  have t1 := str_ne (s := s) (by omega)
  have t2 : (s.toList == []) = false := by simpa using t1
  have hl0 : Pl.L s ≠ [] := fun e => h0 (by rw [← Pl.L_length, e]; rfl)
  by_cases hlast : (Pl.L s).getLast? = some 10
  · obtain ⟨b, hb⟩ := Pl.last_split hlast
    have hbl : b.length + 1 = s.size := by rw [← Pl.L_length, hb]; simp
    obtain ⟨y1, y2⟩ := Pl.suf_yes b
    have K1 : ∀ w, Calls Tryd.prog 48 #[.string s, .string ⟨#[10]⟩] w fun e w' => e = .returned (.tuple #[.string ⟨b.toArray⟩, .bool true]) ∧ w = w' := fun w => by
      refine (Tryd.strings_CutSuffix s ⟨#[10]⟩ w (by omega)).mono ?_
      rintro e w' ⟨rfl, rfl⟩
      have e1 : s.data.toList = b ++ [10] := hb
      have e2 : (⟨#[10]⟩ : ByteArray).data.toList = [10] := rfl
      rw [e1, e2, y1, y2]
      exact ⟨rfl, rfl⟩
    have J1 := Lib.hid K1
    have J2 := Lib.hid (split_at 10 b w h4 (by omega))
    have HL : Hid (Pl.lns (Pl.L s) = if 5000 < (Pl.segs 10 b).length then (3, []) else (0, Pl.segs 10 b)) := Lib.hid (by
      have hn : ¬ 1048576 < (b ++ [10]).length := by simp; omega
      rw [hb]
      split
      · rename_i h; exact Pl.lns_many hn h
      · rename_i h; exact Pl.lns_ok hn h)
    obtain ⟨p, hp⟩ : ∃ p, Pl.segs 10 b = p := ⟨_, rfl⟩
    rw [hp] at J2 HL
    have hpl : p.length ≤ b.length + 1 := by rw [← hp]; exact Pl.segs_len 10 b
    clear K1 hb y1 y2 hlast hl0 hp he h4
    by_cases h5 : 5000 < p.length
    all_goals
      go_enter Tryd.func27, Tryd.ntmps27
      go_wp2_with fail
      refine (J1.out _).mono ?_
      rintro e w' ⟨rfl, rfl⟩
      go_wp2_with fail
      refine J2.out.mono ?_
      rintro e w1 ⟨rfl, hst, hb1⟩
      have HST := Lib.hid hst
      have HB := Lib.hid hb1
      clear hst hb1
      go_wp2_with fail
      go_ret2
    · exact linesG w _ none 0 (by rw [HL.out, if_pos h5]) (.inl rfl) HB.out _ rfl
    · exact linesG w _ _ _ (by rw [HL.out, if_neg h5]) HST.out HB.out _ rfl
  · have hno := Pl.suf_no hlast
    have HL := Lib.hid (Pl.lns_no (l := Pl.L s) (by rw [Pl.L_length]; exact hlong) hl0 hlast)
    have K1 : ∀ w, Calls Tryd.prog 48 #[.string s, .string ⟨#[10]⟩] w fun e w' => (∃ t, e = .returned (.tuple #[.string t, .bool false])) ∧ w = w' := fun w => by
      refine (Tryd.strings_CutSuffix s ⟨#[10]⟩ w (by omega)).mono ?_
      rintro e w' ⟨rfl, rfl⟩
      have e2 : (⟨#[10]⟩ : ByteArray).data.toList = [10] := rfl
      have hno' : Lib.hasSuffix s.data.toList [10] = false := hno
      rw [e2, hno']
      exact ⟨⟨_, rfl⟩, rfl⟩
    have J1 := Lib.hid K1
    clear K1 hno hlast hl0
    go_enter Tryd.func27, Tryd.ntmps27
    go_wp2_with fail
    refine (J1.out _).mono ?_
    rintro e w' ⟨⟨t, rfl⟩, rfl⟩
    go_wp2_with fail
    go_ret2
    exact linesG w w none 0 HL.out (.inl rfl) (Below.refl _ _) _ rfl
end Go.Proofs.YthifbihmogjjpaaDoor
