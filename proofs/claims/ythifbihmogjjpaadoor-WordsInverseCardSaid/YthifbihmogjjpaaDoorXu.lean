/-
  Contracts of less, successor and readSpan.
-/
import Derived.Test.YthifbihmogjjpaaDoorPu
import Derived.Test.YthifbihmogjjpaaDoorXr
import Derived.Lib.ConvBytes
import Derived.Lib.SmallJoins
import Derived.WalkLawsBesides
namespace Go.Proofs.YthifbihmogjjpaaDoor
open Go.ChangeShapes Go.WideShapes Go.ChangeAt Go.RowKit Go.Proofs

theorem less_any (a b : ByteArray) (w : World) (ha : a.size ≤ 9223372036854775807) (hb : b.size ≤ 9223372036854775807) :
    Calls Tryd.prog 58 #[.string a, .string b] w fun e w' => e = .returned (.bool (Pl.lessB (Pl.L a) (Pl.L b))) ∧ w = w' := by
  by_cases h : a.size = b.size
  · have H : Hid (Pl.lessB (Pl.L a) (Pl.L b) = Op.bytesLess a.toList b.toList) := Lib.hid (by
      unfold Pl.lessB
      rw [if_pos (by rw [Pl.L_length, Pl.L_length]; exact h), Lib.toList_data, Lib.toList_data]; rfl)
    have h1 : ((a.size : Int) == (b.size : Int)) = true := by rw [beq_iff_eq]; omega
    have h2 : ((a.size : Int) != (b.size : Int)) = false := by rw [bne_eq_false_iff_eq]; omega
    clear h
    go_enter Tryd.func58, Tryd.ntmps58
    go_wp2_with fail
    go_ret
    exact retBW H.out
  · have H : Hid (Pl.lessB (Pl.L a) (Pl.L b) = decide ((a.size : Int) < (b.size : Int))) := Lib.hid (by
      unfold Pl.lessB
      rw [if_neg (by rw [Pl.L_length, Pl.L_length]; exact h), Pl.L_length, Pl.L_length, decide_eq_decide]; omega)
    have h1 : ((a.size : Int) == (b.size : Int)) = false := by rw [beq_eq_false_iff_ne]; omega
    have h2 : ((a.size : Int) != (b.size : Int)) = true := by rw [bne_iff_ne]; omega
    clear h
    go_enter Tryd.func58, Tryd.ntmps58
    go_wp2_with fail
    go_ret
    exact retBW (by rw [H.out, decide_eq_decide]; omega)

/-- bytes in a row of memory of the call's own -/
def BytesAt (w : World) (g : Nat) (l : List UInt8) : Prop :=
  g < w.heap.size ∧ ∀ (j : Nat) (h : j < l.length), w.cell? ⟨g, j, none⟩ = some (.int .u8 (l[j].toNat : Int)) ∧ w.frozen? ⟨g, j, none⟩ = false
theorem BytesAt.set {w : World} {g : Nat} {l : List UInt8} (h : BytesAt w g l) {k : Nat} (hk : k < l.length) (c : UInt8) : BytesAt (w.setCell ⟨g, k, none⟩ (.int .u8 (c.toNat : Int))) g (l.set k c) := by
  refine ⟨by simpa using h.1, fun j hj => ?_⟩
  have hj' : j < l.length := by rwa [List.length_set] at hj
  rw [World.frozen?_setCell]
  refine ⟨?_, (h.2 j hj').2⟩
  by_cases e : j = k
  · subst e
    rw [World.cell?_setCell_same _ _ _ (h.2 j hj').1, List.getElem_set_self]
  · have hne : (⟨g, k, none⟩ : Addr) ≠ ⟨g, j, none⟩ := fun h' => e (by injection h' with _ h2 _; exact h2.symm)
    rw [World.cell?_setCell_other _ _ _ _ hne, (h.2 j hj').1, List.getElem_set_ne (Ne.symm e)]
theorem conv_str (s : ByteArray) (w : World) : ∃ cap w1, (convert 9 29 (.string s)).run Tryd.prog w = .ok (.slice (some ⟨w.heap.size, 0, none⟩) s.size cap) w1 ∧ BytesAt w1 w.heap.size (Pl.L s) ∧ Below w.heap.size w w1 := by
  refine ⟨_, _, Lib.run_convert_string_bytes w _ _ _ s Tryd.underlying9 Tryd.underlying29 Tryd.underlying5, ⟨by rw [Lib.bytesWorld_size]; omega, fun j hj => ?_⟩, Go.Joins.below_bytesWorld _ w _ s (Nat.le_refl _)⟩
  rw [Pl.L_length] at hj
  refine ⟨?_, ?_⟩
  · rw [Lib.bytesWorld_cell w _ s j hj]
    have hj' : j < (Pl.L s).length := by rw [Pl.L_length]; exact hj
    have : s.data.toList.getD j 0 = (Pl.L s)[j] := by
      show (Pl.L s).getD j 0 = _
      rw [List.getD_eq_getElem?_getD, List.getElem?_eq_getElem hj']; rfl
    rw [this]
  · have hn := Lib.bytesWorld_at_new w 5 s
    have hc := Lib.bytesWorld_cell w 5 s j hj
    have hl : j < (Lib.bytesCells w 5 s).size := by
      unfold World.cell? at hc
      rw [hn] at hc
      rcases Nat.lt_or_ge j (Lib.bytesCells w 5 s).size with h | h
      · exact h
      · simp [Array.getElem?_eq_none h] at hc
    unfold World.frozen?
    rw [hn]
    simp; omega
theorem conv_back {w : World} {g cap n : Nat} {l : List UInt8} (h : BytesAt w g l) (hn : n = l.length) : (convert 29 9 (.slice (some ⟨g, 0, none⟩) n cap)).run Tryd.prog w = .ok (.string ⟨l.toArray⟩) w := by
  rw [run_convert_bytes_arg w _ _ Tryd.underlying29 Tryd.underlying5 g 0 n cap (l.map fun c => (c.toNat : Int)) (by simp [hn]) (fun i hi => ?_) _ Tryd.underlying9, str_nums]
  rw [Nat.zero_add, (h.2 i (by omega)).1]
  simp [List.getElem?_eq_getElem (show i < l.length by omega)]

/-- the bytes at hand while the nines are passed -/
def Nines (l m : List UInt8) (k : Nat) : Prop := m = l.take k ++ List.replicate (l.length - k) 48 ∧ k ≤ l.length ∧ ∀ (j : Nat) (h : j < l.length), k ≤ j → l[j] = 57
theorem Nines.start (l : List UInt8) : Nines l l l.length := ⟨by simp, Nat.le_refl _, fun j h g => by omega⟩
theorem Nines.len {l m : List UInt8} {k : Nat} (h : Nines l m k) : m.length = l.length := by
  obtain ⟨h1, h2, _⟩ := h
  rw [h1]; simp; omega
theorem Nines.at_ {l m : List UInt8} {k : Nat} (h : Nines l m (k + 1)) (hk : k < l.length) (hm : k < m.length) : m[k] = l[k] := by
  obtain ⟨rfl, h2, _⟩ := h
  rw [List.getElem_append_left (by rw [List.length_take]; omega), List.getElem_take]
theorem Nines.step {l m : List UInt8} {k : Nat} (h : Nines l m (k + 1)) (hk : k < l.length) (hc : l[k] = 57) : Nines l (m.set k 48) k := by
  obtain ⟨rfl, h2, h3⟩ := h
  refine ⟨?_, by omega, fun j hj g => ?_⟩
  · rw [List.set_append_left _ _ (by rw [List.length_take]; omega), List.take_succ_eq_append_getElem hk, List.set_append_right _ _ (by rw [List.length_take]; omega)]
    rw [show l.length - k = (l.length - (k + 1)) + 1 by omega, List.replicate_succ, List.length_take, show k - min k l.length = 0 by omega]
    simp
  · rcases Nat.lt_or_ge k j with g' | g'
    · exact h3 j hj g'
    · obtain rfl : j = k := by omega
      exact hc
theorem Nines.stop {l m : List UInt8} {k : Nat} (h : Nines l m (k + 1)) (hk : k < l.length) (hc : ¬ l[k] = 57) : Pl.suc l = m.set k (UInt8.ofNat (l[k].toNat + 1)) := by
  obtain ⟨rfl, h2, h3⟩ := h
  rw [Pl.suc_at hk (fun j hj g => h3 j hj g) hc]
  rw [List.set_append_left _ _ (by rw [List.length_take]; omega), List.take_succ_eq_append_getElem hk, List.set_append_right _ _ (by rw [List.length_take]; omega), List.length_take, show k - min k l.length = 0 by omega]
  rw [show l.length - (k + 1) = l.length - 1 - k by omega]
  simp
theorem Nines.all {l m : List UInt8} (h : Nines l m 0) : Pl.suc l = 49 :: m := by
  obtain ⟨rfl, h2, h3⟩ := h
  rw [Pl.suc_all (fun j hj => h3 j hj (Nat.zero_le _))]
  simp

set_option maxRecDepth 100000 in
set_option maxHeartbeats 1000000 in
theorem successor_any (s : ByteArray) (w : World) (hs : s.size ≤ 4294967295) (hd : ∀ (j : Nat) (h : j < (Pl.L s).length), (Pl.L s)[j].toNat ≤ 57) :
    Calls Tryd.prog 59 #[.string s] w fun e w' => e = .returned (.string ⟨(Pl.suc (Pl.L s)).toArray⟩) ∧ Below w.heap.size w w' := by
  obtain ⟨cap, w1, hcv, hb1, hbl1⟩ := conv_str s w
  have hl := Pl.L_length s
  have HD := Lib.hid hd
  have HB1 := Lib.hid hb1
  have HBL1 := Lib.hid hbl1
  clear hd hb1 hbl1
  go_enter Tryd.func59, Tryd.ntmps59
  go_wp2_with fail
  go_loopw [4] (fun i wr => ∃ (k : Nat) (m : List UInt8), k ≤ s.size ∧ i = .int .i64 ((k : Int) - 1) ∧ Hid (Nines (Pl.L s) m k) ∧ Hid (BytesAt wr w.heap.size m) ∧ Below w.heap.size w wr) (fun i _ => (intOf i + 1).toNat)
  case atStart => exact ⟨s.size, Pl.L s, Nat.le_refl _, rfl, Lib.hid (by rw [← hl]; exact Nines.start _), HB1, HBL1.out⟩
  case round =>
    obtain ⟨k, m, hk, rfl, HN, HBA, hb⟩ := hrel
    have HB := Lib.hid hb
    have hsz := hb.size
    have hml := HN.out.len
    rw [hl] at hml
    clear hb
    cases k with
    | zero =>
      have hcv2 := conv_back (cap := cap) (n := s.size) HBA.out hml.symm
      have hneg : ¬ (0 : Int) ≤ ((0 : Nat) : Int) - 1 := by omega
      have HR : Hid (Pl.suc (Pl.L s) = 49 :: m) := Lib.hid HN.out.all
      have hov : ¬ 9223372036854775807 < 1 + m.length := by omega
      go_wp2_with fail
      go_ret
      exact ⟨by rw [HR.out, show (⟨#[49]⟩ : ByteArray) = ⟨[49].toArray⟩ from rfl, bytes_app]; rfl, HB.out⟩
    | succ k =>
      have e : ((k + 1 : Nat) : Int) - 1 = (k : Int) := by omega
      rw [e]
      have hkl : k < (Pl.L s).length := by omega
      have hkm : k < m.length := by omega
      obtain ⟨g0, f0⟩ := HBA.out.2 k hkm
      have hd := HD.out k hkl
      have hat := HN.out.at_ hkl hkm
      rw [hat] at g0
      obtain ⟨c, hc⟩ : ∃ c, (Pl.L s)[k] = c := ⟨_, rfl⟩
      rw [hc] at g0 hd
      have HC := Lib.hid hc
      clear hat hc e
      have hlt : (k : Int) < (s.size : Int) := by omega
      by_cases h9 : c = 57
      · have e2 : ((c.toNat : Int) == 57) = true := Pl.num_eq _ 57 h9
        have e3 : ((c.toNat : Int) != 57) = false := Pl.num_nbne _ 57 h9
        have HN2 := Lib.hid (HN.out.step hkl (HC.out.trans h9))
        clear h9
        go_wp2_with fail
        have hset := HBA.out.set hkm 48
        go_roundw
        case rel => exact ⟨k, m.set k 48, by omega, by go_num, HN2, Lib.hid hset, HB.out.setCell (p := ⟨w.heap.size, k, none⟩) (Nat.le_refl _) _⟩
        case measure => first | (simp [intOf]; done) | (simp [intOf]; omega)
      · have e2 : ((c.toNat : Int) == 57) = false := Pl.num_ne _ 57 h9
        have e3 : ((c.toNat : Int) != 57) = true := Pl.num_bne _ 57 h9
        have HR := Lib.hid (HN.out.stop hkl (by rw [HC.out]; exact h9))
        have hw : IntKind.u8.wrap ((c.toNat : Int) + 1) = (c.toNat : Int) + 1 := IntWalk.u8_in _ (by omega)
        have hcn : (UInt8.ofNat (c.toNat + 1)).toNat = c.toNat + 1 := UInt8.toNat_ofNat_of_lt' (by have : UInt8.size = 256 := rfl; omega)
        have hset := HBA.out.set hkm (UInt8.ofNat (c.toNat + 1))
        rw [hcn, Int.natCast_add, Int.natCast_one] at hset
        have hcv2 := conv_back (cap := cap) (n := s.size) hset (by simp [hml])
        have HSET := Lib.hid hset
        clear h9 hset hcn
        go_wp2_with fail
        go_ret
        exact ⟨by rw [HR.out, HC.out]; rfl, HB.out.setCell (p := ⟨w.heap.size, k, none⟩) (Nat.le_refl _) _⟩
end Go.Proofs.YthifbihmogjjpaaDoor
