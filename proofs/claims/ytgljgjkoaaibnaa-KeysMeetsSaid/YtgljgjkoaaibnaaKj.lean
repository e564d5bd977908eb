/-
  Contracts of textOf and Show.
-/
import Derived.Test.YtgljgjkoaaibnaaKi
import Derived.Lib.OthersKept
namespace Go.Proofs.Ytgljgjkoaaibnaa.KK
open Go.ChangeShapes Go.WideShapes Go.ChangeAt Go.RowKit Go.Proofs

theorem L_from (s : ByteArray) (n : Nat) (h : n ≤ s.size) : Kl.L (s.extract n s.size) = (Kl.L s).drop n := by
  unfold Kl.L
  rw [Lib.extract_eq s n s.size]
  show ((s.data.toList.drop n).take (s.size - n)) = _
  rw [List.take_of_length_le (by rw [List.length_drop, ← Lib.size_eq]; omega)]
theorem drop_ne (s : ByteArray) (n : Nat) (h : n < s.size) : (Kl.L s).drop n ≠ [] := by
  intro e
  have := congrArg List.length e
  rw [List.length_drop, Kl.L_length] at this
  simp at this; omega
theorem dec_at (s : ByteArray) (pos : Nat) : Utf8.decode s pos = (Kl.rn ((Kl.L s).drop pos), Kl.wid ((Kl.L s).drop pos)) := by
  unfold Kl.rn Kl.wid Kl.L
  rw [Lib.decodeL_drop]

set_option maxRecDepth 100000 in
set_option maxHeartbeats 1000000 in
theorem textOf_any (s : ByteArray) (w : World) (hs : s.size ≤ 4294967295) :
    Calls Try.prog 51 #[.string s] w fun e w' => e = .returned (.string ⟨(Kl.txt (Kl.L s)).toArray⟩) ∧ Below w.heap.size w w' := by
  go_enter Try.func51, Try.ntmps51
  go_wp2_with fail
  go_loopw [3] (fun v wr => ∃ (pos : Nat) (acc : List UInt8), pos ≤ s.size ∧ wr.ownsRow (w.heap.size + 1) 5 1 v acc.length (acc.map B8) ∧ wr.heap[w.heap.size]? = some (.stringIter s pos) ∧ Below w.heap.size w wr ∧ acc ++ Kl.txt ((Kl.L s).drop pos) = Kl.txt (Kl.L s) ∧ acc.length ≤ 4 * pos) (fun _ wr => s.size - wr.iterPos w.heap.size)
  case atStart =>
    refine ⟨0, [], Nat.zero_le _, World.ownsRow_nil _ _ _ _, ?_, (Below.refl _ w).alloc (Nat.le_refl _) _, by simp, by simp⟩
    have := World.iter_heap w s 0
    simpa using this
  case round =>
    obtain ⟨pos, acc, hpos, hown, hit, hbl, hacc, hal⟩ := hrel
    have hsz := hbl.size
    have hlt0 : w.heap.size < wr.heap.size := (Array.getElem?_eq_some_iff.1 hit).1
    have HB := Lib.hid hbl
    have HA := Lib.hid hacc
    clear hbl hacc
    by_cases hp : pos < s.size
    · have hne := drop_ne s pos hp
      have hw1 := Kl.wid_pos ((Kl.L s).drop pos)
      have hw2 := Kl.wid_le hne
      have hpl := Kl.piece_length hne
      have hst := Kl.txt_step hne
      have hd := dec_at s pos
      have hnx := fun ty => Lib.run_next_any_at (P := Try.prog) wr w.heap.size s pos ty hit hp
      rw [List.length_drop, Kl.L_length] at hw2
      rw [List.drop_drop] at hst
      have K2 : ∀ (v : Value) (w9 : World), w9.ownsRow (w.heap.size + 1) 5 1 v acc.length (acc.map B8) → w.heap.size + 1 ≤ w9.heap.size →
          Calls Try.prog 56 #[v, .int .i32 (Kl.rn ((Kl.L s).drop pos) : Int), .string (s.extract pos s.size)] w9 fun e w' => ∃ v', e = .returned v' ∧ w'.ownsRow (w.heap.size + 1) 5 1 v' (acc ++ Kl.piece ((Kl.L s).drop pos)).length ((acc ++ Kl.piece ((Kl.L s).drop pos)).map B8) ∧ Below (w.heap.size + 1) w9 w' := by
        intro v w9 ho hb
        have := appendRune_any (s.extract pos s.size) v acc (w.heap.size + 1) w9 (by simp; omega) (by simp; omega) ho hb (by omega)
        rw [L_from s pos hpos] at this
        exact this
      rw [hd] at hnx
      have HN : Hid (acc ++ Kl.piece ((Kl.L s).drop pos) ++ Kl.txt ((Kl.L s).drop (pos + Kl.wid ((Kl.L s).drop pos))) = Kl.txt (Kl.L s)) := Lib.hid (by rw [← HA.out, hst, List.append_assoc])
      have HK := Lib.hid K2
      obtain ⟨r, hr⟩ : ∃ r, Kl.rn ((Kl.L s).drop pos) = r := ⟨_, rfl⟩
      obtain ⟨wd, hwd⟩ : ∃ wd, Kl.wid ((Kl.L s).drop pos) = wd := ⟨_, rfl⟩
      obtain ⟨pc, hpc⟩ : ∃ pc, Kl.piece ((Kl.L s).drop pos) = pc := ⟨_, rfl⟩
      rw [hr, hwd] at hnx
      rw [hr, hpc] at HK
      rw [hwd] at HN hw1 hw2 hpl
      rw [hpc] at HN hpl
      dsimp only at hnx
      clear hst hd hne hr hwd hpc K2
      have hown2 := own_iter hown (k := w.heap.size) (by omega) s (pos + wd)
      have hit2 := Lib.iterAt_heap wr w.heap.size s pos (pos + wd) hit
      have HB2 := Lib.hid (Lib.below_iterAt HB.out (k := w.heap.size) (Nat.le_refl _) s (pos + wd))
      have hsz2 : w.heap.size + 1 ≤ (wr.iterAt w.heap.size s (pos + wd)).heap.size := by rw [Lib.iterAt_size]; omega
      have HI := Lib.hid hit2
      clear hit2
      go_wp2_with (go_at_call 56; refine (HK.out _ _ hown2 hsz2).mono ?_; rintro e w1 ⟨v1, rfl, hown1, hb1⟩; have HB1 := Lib.hid hb1; clear hb1)
      have hit3 : w1.heap[w.heap.size]? = some (.stringIter s (pos + wd)) := by rw [HB1.out.block w.heap.size (by omega)]; exact HI.out
      go_roundw
      case rel =>
        exact ⟨pos + wd, acc ++ pc, by omega, hown1, hit3, HB2.out.trans (HB1.out.mono (by omega)), HN.out, by simp; omega⟩
      case measure =>
        simp only [World.iterPos, hit3, hit]
        omega
    · have hnx := fun ty => Lib.run_next_end_at (P := Try.prog) wr w.heap.size s pos ty hit hp
      have hcv := conv_own hown
      have H : Hid (acc = Kl.txt (Kl.L s)) := Lib.hid (by
        have := HA.out
        rw [List.drop_of_length_le (by rw [Kl.L_length]; omega), Kl.txt_nil, List.append_nil] at this
        exact this)
      go_wp2_with fail
      go_ret
      exact ⟨by rw [← H.out]; rfl, HB.out⟩
end Go.Proofs.Ytgljgjkoaaibnaa.KK
