/-
  EntriesSorted: the walk's parts: a row of bools; what fails and what is far.
-/
import Derived.Test.YtchgmpmlbncmbaaDoorGk
import Derived.Test.YtchgmpmlbncmbaaDoorGj
import Derived.Laws.OwnMore
namespace Go.Proofs.YtchgmpmlbncmbaaDoor.KK
open Go.ChangeShapes Go.WideShapes Go.ChangeAt Go.RowKit Go.Proofs Go.Sort

def BRow (w : World) (b : Nat) (us : List Bool) : Prop := Holds id w b 0 (us.map Value.bool).toArray
theorem BRow.at {w : World} {b k : Nat} {us : List Bool} {x : Bool} (h : BRow w b us) (hx : us[k]? = some x) : w.cell? ⟨b, k, none⟩ = some (.bool x) ∧ w.frozen? ⟨b, k, none⟩ = false := by
  have hk : k < us.length := (List.getElem?_eq_some_iff.1 hx).1
  have := h k (by simpa using hk)
  rw [Nat.zero_add] at this
  refine ⟨this.1.trans ?_, this.2⟩
  have e : ((us.map Value.bool).toArray)[k]! = .bool x := by
    rw [getElem!_pos _ _ (by simpa using hk)]
    have := (List.getElem?_eq_some_iff.1 hx).2
    simp [this]
  exact congrArg some e
theorem BRow.below {B : Nat} {w w' : World} {b : Nat} {us : List Bool} (h : BRow w b us) (hb : Below B w w') (hB : b < B) : BRow w' b us := fun j hj =>
  ⟨(hb.cell (p := ⟨b, 0 + j, none⟩) hB).trans (h j hj).1, (hb.frozen (p := ⟨b, 0 + j, none⟩) hB).trans (h j hj).2⟩
theorem BRow.set {w : World} {b k : Nat} {us : List Bool} (h : BRow w b us) (hk : k < us.length) : BRow (w.setCell ⟨b, k, none⟩ (.bool true)) b (us.set k true) := by
  have := holds_setCells_c h k [.bool true] (by simp; omega)
  rw [Nat.zero_add] at this
  have e : setMany (us.map Value.bool).toArray k [.bool true] = ((us.set k true).map Value.bool).toArray := by
    apply Array.toList_inj.1
    simp [setMany, List.map_set]
  rw [e] at this
  exact this
theorem infoBo : (Tryd.prog.info? 4).map (fun i => (i.zero, i.size, i.bytes)) = some (some (.bool false), 1, 1) := by kernel_rfl
set_option maxRecDepth 100000 in
theorem make_bools (n : Nat) (w : World) (hn : n ≤ 16777216) :
    ∃ w' : World, (Instr.makeSlice 42 (.int .i64 (n : Int)) (.int .i64 (n : Int))).run Tryd.prog w = .ok (.slice (some ⟨w.heap.size, 0, none⟩) n n) w' ∧ BRow w' w.heap.size (List.replicate n false) ∧ Below w.heap.size w w' ∧ w.heap.size < w'.heap.size := by
  obtain ⟨i0, hi, hz0, hz1, hz2⟩ := info_parts infoBo
  obtain ⟨w', h1, h2, h3⟩ := run_makeSlice_full w w.heap.size 42 4 i0 _ 1 Tryd.underlying42 hi hz0 hz1 .i64 .i64 n (by omega) (by rw [hz2]; omega) (by unfold maxLen; omega) (Nat.le_refl _)
  refine ⟨w', h1, ?_, (Below.refl _ _).grown h3 (Nat.le_refl _) (fun k hk => by cases hk), (h2.lt _ rfl).2⟩
  intro j hj
  have hj' : j < n := by simpa using hj
  have hm : (madeCells (Value.bool false).cells (n * 1)).toList[j]? = some (.bool false) := by
    have e : (Value.bool false).cells = #[.bool false] := rfl
    rw [e, Nat.mul_one]
    simp [madeCells, hj', Nat.mod_one]
  have hc := h2.cells (g := w.heap.size) rfl j _ hm
  rw [add_at'] at hc
  refine ⟨hc.trans ?_, ?_⟩
  · have e : ((List.replicate n false).map Value.bool).toArray[j]! = .bool false := by
      rw [getElem!_pos ((List.replicate n false).map Value.bool).toArray j hj]; simp
    exact (congrArg some e).symm
  · rcases h2.2 with ⟨q1, _⟩ | ⟨g', cap', cur, hv, hb, hh, _⟩
    · cases q1
    · have hg : w.heap.size = g' := by injection hv with q1; injection q1 with q1; injection q1
      subst hg
      simp [World.frozen?, hh]
set_option maxRecDepth 100000 in
set_option maxHeartbeats 4000000 in
theorem sorted_far (A : Option Addr) (c : Nat) (xs : List El.En) (w : World) (he : EnvE w) (hf : EsAt w A xs) (hn : xs.length ≤ 9223372036854775807) (hs : Sized xs) (h1 : farE xs = true) :
    Calls Tryd.prog 7 #[.slice A xs.length c] w fun e w' => e = .returned (.bool true) ∧ Below w.heap.size w w' := by
  have HE := Lib.hid he
  have J := Lib.hid (far_any A c xs w hf hn hs)
  rw [h1] at J
  clear he hf hs h1
  go_enter Tryd.func7, Tryd.ntmps7
  go_wp2_with fail
  refine J.out.mono ?_
  rintro e w1 ⟨rfl, hb⟩
  have HB := Lib.hid hb
  clear hb J
  go_wp2_with fail
  refine (awake_any _ (HE.out.below HB.out)).mono ?_
  rintro e w2 ⟨rfl, hb⟩
  have HB := Lib.hid (eb_of HB.out hb (Nat.le_refl _))
  clear hb
  go_wp2_with fail
  go_ret
  exact ⟨rfl, HB.out⟩
set_option maxRecDepth 100000 in
set_option maxHeartbeats 4000000 in
theorem sorted_bad (A : Option Addr) (c : Nat) (xs : List El.En) (w : World) (he : EnvE w) (hf : EsAt w A xs) (hs : Sized xs) (h1 : farE xs = false) (h2 : allE xs ≠ 0) :
    Calls Tryd.prog 7 #[.slice A xs.length c] w fun e w' => e = .returned (.bool true) ∧ Below w.heap.size w w' := by
  have hn := farE_len h1
  have HE := Lib.hid he
  have J := Lib.hid (far_any A c xs w hf (by omega) hs)
  rw [h1] at J
  have J1 := Lib.hid (fun w1 (h : Below w.heap.size w w1) => sort_err A c xs w1 (hf.below h (Nat.le_refl _)) (by omega) hs h2)
  obtain ⟨b1, b2⟩ := ne_b h2
  clear he hf hs h1 h2
  generalize allE xs = r at *
  go_enter Tryd.func7, Tryd.ntmps7
  go_wp2_with fail
  refine J.out.mono ?_
  rintro e w1 ⟨rfl, hb⟩
  have HB := Lib.hid hb
  clear hb J
  go_wp2_with fail
  refine (J1.out _ HB.out).mono ?_
  rintro e w2 ⟨rfl, hb⟩
  have HB := Lib.hid (eb_of HB.out hb (Nat.le_refl _))
  clear hb J1
  go_wp2_with fail
  refine (awake_any _ (HE.out.below HB.out)).mono ?_
  rintro e w3 ⟨rfl, hb⟩
  have HB := Lib.hid (eb_of HB.out hb (Nat.le_refl _))
  clear hb
  go_wp2_with fail
  go_ret
  exact ⟨by first | rfl | simp, HB.out⟩
end Go.Proofs.YtchgmpmlbncmbaaDoor.KK
