/-
  The reference's text of a key.
-/
import Derived.Test.YtgljgjkoaaibnaaMb
namespace Go.Proofs.Ytgljgjkoaaibnaa.KK
open Go.ChangeShapes Go.WideShapes Go.ChangeAt Go.RowKit Go.Proofs

theorem size_any (r : Nat) (w : World) (hr : r ≤ 1114111) :
    Calls Try.prog 57 #[.int .i32 (r : Int)] w fun e w' => e = .returned (.int .i64 (Kl.siz r : Nat)) ∧ w = w' := by
  by_cases h1 : r < 128
  · have H : Hid (Kl.siz r = 1) := Lib.hid (by unfold Kl.siz; rw [if_pos h1])
    have d1 : (r : Int) < 128 := by omega
    go_enter Try.func57, Try.ntmps57
    go_wp2_with fail
    go_ret
    exact ⟨by rw [H.out]; rfl, rfl⟩
  have d1 : decide ((r : Int) < 128) = false := by simp; omega
  by_cases h2 : r < 2048
  · have H : Hid (Kl.siz r = 2) := Lib.hid (by unfold Kl.siz; rw [if_neg h1, if_pos h2])
    have d2 : (r : Int) < 2048 := by omega
    go_enter Try.func57, Try.ntmps57
    go_wp2_with fail
    go_ret
    exact ⟨by rw [H.out]; rfl, rfl⟩
  have d2 : decide ((r : Int) < 2048) = false := by simp; omega
  by_cases h3 : r < 65536
  · have H : Hid (Kl.siz r = 3) := Lib.hid (by unfold Kl.siz; rw [if_neg h1, if_neg h2, if_pos h3])
    have d3 : (r : Int) < 65536 := by omega
    go_enter Try.func57, Try.ntmps57
    go_wp2_with fail
    go_ret
    exact ⟨by rw [H.out]; rfl, rfl⟩
  have d3 : decide ((r : Int) < 65536) = false := by simp; omega
  have H : Hid (Kl.siz r = 4) := Lib.hid (by unfold Kl.siz; rw [if_neg h1, if_neg h2, if_neg h3])
  go_enter Try.func57, Try.ntmps57
  go_wp2_with fail
  go_ret
  exact ⟨by rw [H.out]; rfl, rfl⟩
/-- string([]byte{a, b}) -/
theorem conv_two (w : World) (B : Nat) (a b : UInt8) (h0 : w.cell? ⟨B, 0, none⟩ = some (.int .u8 (a.toNat : Int))) (h1 : w.cell? ⟨B, 1, none⟩ = some (.int .u8 (b.toNat : Int))) :
    (convert 51 9 (.slice (some ⟨B, 0, none⟩) 2 2)).run Try.prog w = .ok (.string ⟨[a, b].toArray⟩) w := by
  rw [run_convert_bytes_arg _ _ _ Try.underlying51 Try.underlying5 B 0 2 2 [(a.toNat : Int), (b.toNat : Int)] rfl (fun i hi => ?_) _ Try.underlying9]
  · exact congrArg (fun t => Result.ok (Value.string t) _) (str_nums [a, b])
  · match i, hi with
    | 0, _ => exact h0
    | 1, _ => exact h1
    | j + 2, hi => exact absurd hi (by simp)
theorem cells_two (w : World) (a b : Value) (t : TypeId) : (w.alloc (.cells #[a, b] t)).cell? ⟨w.heap.size, 0, none⟩ = some a ∧ (w.alloc (.cells #[a, b] t)).cell? ⟨w.heap.size, 1, none⟩ = some b :=
  ⟨World.news_of_block (cs := #[a, b]) (t := t) (fr := (0, 0)) (heap_alloc_new w _) 0 _ rfl, World.news_of_block (cs := #[a, b]) (t := t) (fr := (0, 0)) (heap_alloc_new w _) 1 _ rfl⟩
theorem kl_drop (s : ByteArray) (pos j : Nat) (hp : pos ≤ j) (h : j < s.size) : ((Kl.L s).drop pos).take (j + 1 - pos) = ((Kl.L s).drop pos).take (j - pos) ++ [s[j]] := by
  have h' : j - pos < ((Kl.L s).drop pos).length := by rw [List.length_drop, Kl.L_length]; omega
  rw [show j + 1 - pos = (j - pos) + 1 by omega, List.take_succ_eq_append_getElem h']
  congr 2
  rw [List.getElem_drop]
  have : pos + (j - pos) = j := by omega
  simp only [this]
  rfl

theorem lt_of_row' {w : World} {g : Nat} {o : Obj} (h : w.heap[g]? = some o) : g < w.heap.size := (Array.getElem?_eq_some_iff.1 h).1
set_option maxRecDepth 100000 in
set_option maxHeartbeats 4000000 in
theorem rtext_any (s : ByteArray) (w : World) (hs : s.size ≤ 4294967295) :
    Calls Try.prog 52 #[.string s] w fun e w' => e = .returned (.string ⟨(Kl.txt (Kl.L s)).toArray⟩) ∧ Below w.heap.size w w' := by
  go_enter Try.func52, Try.ntmps52
  go_wp2_with fail
  go_loopw [3] (fun v wr => ∃ (pos : Nat) (acc : List UInt8), pos ≤ s.size ∧ v = .string ⟨acc.toArray⟩ ∧ wr.heap[w.heap.size]? = some (.stringIter s pos) ∧ Below w.heap.size w wr ∧ acc ++ Kl.txt ((Kl.L s).drop pos) = Kl.txt (Kl.L s) ∧ acc.length ≤ 4 * pos) (fun _ wr => s.size - wr.iterPos w.heap.size)
  case atStart =>
    refine ⟨0, [], Nat.zero_le _, rfl, ?_, (Below.refl _ w).alloc (Nat.le_refl _) _, by simp, by simp⟩
    have := World.iter_heap w s 0
    simpa using this
  case round =>
    obtain ⟨pos, acc, hpos, rfl, hit, hbl, hacc, hal⟩ := hrel
    have hsz := hbl.size
    have hlt0 : w.heap.size < wr.heap.size := (Array.getElem?_eq_some_iff.1 hit).1
    have HB := Lib.hid hbl
    have HA := Lib.hid hacc
    clear hbl hacc
    by_cases hp : pos < s.size
    · have hne := drop_ne s pos hp
      have hw1 := Kl.wid_pos ((Kl.L s).drop pos)
      have hw2 := Kl.wid_le hne
      have hrl := Kl.rn_le ((Kl.L s).drop pos)
      have hst := Kl.txt_step hne
      have hd := dec_at s pos
      have hnx := fun ty => Lib.run_next_any_at (P := Try.prog) wr w.heap.size s pos ty hit hp
      have hbdi := Kl.bd_iff hne
      have hsw := Kl.siz_wid hne
      rw [List.length_drop, Kl.L_length] at hw2
      rw [List.drop_drop] at hst
      rw [hd] at hnx
      dsimp only at hnx
      have HN : Hid (acc ++ Kl.piece ((Kl.L s).drop pos) ++ Kl.txt ((Kl.L s).drop (pos + Kl.wid ((Kl.L s).drop pos))) = Kl.txt (Kl.L s)) := Lib.hid (by rw [← HA.out, hst, List.append_assoc])
      have JS := Lib.hid (fun w => size_any (Kl.rn ((Kl.L s).drop pos)) w hrl)
      obtain ⟨r, hr⟩ : ∃ r, Kl.rn ((Kl.L s).drop pos) = r := ⟨_, rfl⟩
      obtain ⟨wd, hwd⟩ : ∃ wd, Kl.wid ((Kl.L s).drop pos) = wd := ⟨_, rfl⟩
      have hit2 := Lib.iterAt_heap wr w.heap.size s pos (pos + wd) hit
      have HB2 := Lib.hid (Lib.below_iterAt HB.out (k := w.heap.size) (Nat.le_refl _) s (pos + wd))
      have HI := Lib.hid hit2
      have hsz2 : w.heap.size ≤ (wr.iterAt w.heap.size s (pos + wd)).heap.size := by rw [Lib.iterAt_size]; omega
      clear hit2 hst hd
      cases hb : Kl.bd ((Kl.L s).drop pos) with
      | true =>
        have hr65 : r = 65533 := by rw [← hr]; unfold Kl.bd at hb; simp at hb; exact hb.1
        have hw11 : wd = 1 := by rw [← hwd]; unfold Kl.bd at hb; simp at hb; exact hb.2
        have htk := hbdi (by rw [hr, hr65])
        rw [hb] at htk
        have hpc : Kl.piece ((Kl.L s).drop pos) = Kl.hx s[pos] := by
          rw [piece_bd hb]
          congr 1
          have := List.drop_eq_getElem_cons (show pos < (Kl.L s).length by rw [Kl.L_length]; exact hp)
          rw [this]; rfl
        have hnb : Kl.hx s[pos] = Kl.hxs (((Kl.L s).drop pos).take wd) := by
          have := List.drop_eq_getElem_cons (show pos < (Kl.L s).length by rw [Kl.L_length]; exact hp)
          rw [hw11, this]
          show _ = Kl.hxs [(Kl.L s)[pos]]
          simp [Kl.hxs]
          rfl
        rw [hpc, hnb, hwd] at HN
        obtain ⟨pc, hpc2⟩ : ∃ pc, Kl.hxs (((Kl.L s).drop pos).take wd) = pc := ⟨_, rfl⟩
        have HPC : Hid (Kl.hxs (((Kl.L s).drop pos).take wd) = pc) := Lib.hid hpc2
        rw [hpc2] at HN
        rw [hr, hwd] at hnx
        rw [hr] at JS
        have hs3 : Kl.siz r = 3 := by rw [hr65]; rfl
        rw [hs3] at JS
        rw [hwd] at hw1 hw2
        have e3 : ((s.extract pos (pos + 3)).toList == [239, 191, 189]) = false := by
          rw [Lib.toList_data, Lib.extract_eq s pos (pos + 3)]
          show (((Kl.L s).drop pos).take (pos + 3 - pos) == [239, 191, 189]) = false
          rw [show pos + 3 - pos = 3 by omega]
          cases h : (((Kl.L s).drop pos).take 3 == [239, 191, 189])
          · rfl
          · rw [h] at htk; cases htk
        clear hr hwd hb hbdi hpc hnb hne htk hpc2 hs3 hsw
        subst hr65
        subst hw11
        rw [show ((65533 : Nat) : Int) = 65533 from rfl] at JS hnx
        by_cases h2 : pos + 2 < s.size
        · have g1 : decide ((pos : Int) + 2 < (s.size : Int)) = true := by simp; omega
          have g2 : decide (pos + 2 < s.size) = true := by simp; omega
          have g3 : pos + 3 ≤ s.size := by omega
          have g4 : (pos : Int) + 3 ≤ (s.size : Int) := by omega
          go_wp2_with fail
          refine (JS.out _).mono ?_
          rintro e w' ⟨rfl, rfl⟩
          go_wp2_with fail
          clear g1 g2 g3 g4 e3
          obtain ⟨w2, hw2⟩ : ∃ w2, wr.iterAt w.heap.size s (pos + 1) = w2 := ⟨_, rfl⟩
          rw [hw2] at HI HB2 hsz2
          rw [hw2]
          obtain ⟨wo, rfl⟩ : ∃ wo : World, wo = wr := ⟨_, rfl⟩
          go_loopw [3, 7] (fun v m wx => ∃ j : Nat, pos ≤ j ∧ j ≤ pos + 1 ∧ m = .int .i64 j ∧ v = .string ⟨(acc ++ Kl.hxs (((Kl.L s).drop pos).take (j - pos))).toArray⟩ ∧ wx.heap[w.heap.size]? = some (.stringIter s (pos + 1)) ∧ Below w.heap.size w wx) (fun _ m _ => pos + 1 - (intOf m).toNat)
          case atStart => exact ⟨pos, Nat.le_refl _, by omega, rfl, by simp [Kl.hxs], HI.out, HB2.out⟩
          case round =>
            obtain ⟨j, hj1, hj2, rfl, rfl, hitx, hbx⟩ := hrel
            have hszx := hbx.size
            have HBX := Lib.hid hbx
            have HIX := Lib.hid hitx
            clear hbx hitx
            by_cases hjl : j < pos + 1
            · have hjs : j < s.size := by omega
              have c1 : (0 : Int) ≤ (j : Int) := by omega
              have c2 : (j : Int) < (s.size : Int) := by omega
              have c3 : decide ((j : Int) < (pos : Int) + 1) = true := by simp; omega
              have c4 : decide (j < pos + 1) = true := by simp; omega
              have hb256 : s[j].toNat < 256 := s[j].toNat_lt
              obtain ⟨n1, hn1⟩ : ∃ n1, s[j].toNat / 16 = n1 := ⟨_, rfl⟩
              obtain ⟨n2, hn2⟩ : ∃ n2, s[j].toNat % 16 = n2 := ⟨_, rfl⟩
              have l1 : n1 < 16 := by omega
              have l2 : n2 < 16 := by omega
              have a1 : Int.tdiv (s[j].toNat : Int) 16 = (n1 : Int) := by rw [Int.tdiv_eq_ediv_of_nonneg (by omega)]; omega
              have a2 : Int.tmod (s[j].toNat : Int) 16 = (n2 : Int) := by rw [Int.tmod_eq_emod_of_nonneg (by omega)]; omega
              have a3 : (s[j].toNat : Int) / 16 = (n1 : Int) := by omega
              have a4 : (s[j].toNat : Int) % 16 = (n2 : Int) := by omega
              have HS : Hid (Kl.hxs (((Kl.L s).drop pos).take (j + 1 - pos)) = Kl.hxs (((Kl.L s).drop pos).take (j - pos)) ++ [92, 120, Kl.hxD n1, Kl.hxD n2]) := Lib.hid (by rw [kl_drop s pos j hj1 hjs, hxs_snoc]; unfold Kl.hx; rw [hn1, hn2])
              have hlen : (Kl.hxs (((Kl.L s).drop pos).take (j - pos))).length ≤ 4 * s.size := by
                rw [Kl.hxs_length, List.length_take, List.length_drop, Kl.L_length]; omega
              obtain ⟨hx, hhx⟩ : ∃ hx, Kl.hxs (((Kl.L s).drop pos).take (j - pos)) = hx := ⟨_, rfl⟩
              rw [hhx] at HS hlen
              rw [hhx]
              have w1 : IntKind.u8.wrap (n1 : Int) = (n1 : Int) := IntWalk.u8_in _ (by omega)
              have w2 : IntKind.u8.wrap (n2 : Int) = (n2 : Int) := IntWalk.u8_in _ (by omega)
              have x1 := hex_index n1 l1
              have x2 := hex_index n2 l2
              obtain ⟨al, hal2⟩ : ∃ al, acc ++ hx = al := ⟨_, rfl⟩
              have hll : al.length ≤ 4 * s.size + 4 * s.size := by rw [← hal2, List.length_append]; omega
              rw [hal2]
              have HC : Hid ((⟨(al ++ [92, 120, Kl.hxD n1, Kl.hxD n2]).toArray⟩ : ByteArray) = ⟨al.toArray⟩ ++ ⟨#[92, 120]⟩ ++ ⟨#[Kl.hxD n1, Kl.hxD n2]⟩) := Lib.hid (by
                have e1 := bytes_app al [92, 120]
                have e2 := bytes_app (al ++ [92, 120]) [Kl.hxD n1, Kl.hxD n2]
                rw [List.append_assoc] at e2
                rw [show (al ++ [92, 120, Kl.hxD n1, Kl.hxD n2]) = al ++ ([92, 120] ++ [Kl.hxD n1, Kl.hxD n2]) from rfl, ← e2, ← e1])
              have HS2 : Hid (acc ++ Kl.hxs (((Kl.L s).drop pos).take (j + 1 - pos)) = al ++ [92, 120, Kl.hxD n1, Kl.hxD n2]) := Lib.hid (by rw [HS.out, ← hal2, List.append_assoc])
              have z1 : ¬ 9223372036854775807 < al.length + 2 := by omega
              have z2 : ¬ 9223372036854775807 < al.length + 2 + 2 := by omega
              have cv := fun (w : World) (B : Nat) => conv_two w B (Kl.hxD n1) (Kl.hxD n2)
              have t1 := cells_two wr (.int .u8 ((Kl.hxD n1).toNat : Int)) (.int .u8 ((Kl.hxD n2).toNat : Int)) 5
              have y1 := cv (wr.alloc (.cells #[.int .u8 ((Kl.hxD n1).toNat : Int), .int .u8 ((Kl.hxD n2).toNat : Int)] 5)) wr.heap.size t1.1 t1.2
              have y2 := cv (wr.drew.alloc (.cells #[.int .u8 ((Kl.hxD n1).toNat : Int), .int .u8 ((Kl.hxD n2).toNat : Int)] 5)) wr.heap.size t1.1 t1.2
              have y3 := cv (wr.alloc (.cells #[.int .u8 ((Kl.hxD n1).toNat : Int), .int .u8 ((Kl.hxD n2).toNat : Int)] 5)).drew wr.heap.size t1.1 t1.2
              have HIA : Hid ((wr.alloc (.cells #[.int .u8 ((Kl.hxD n1).toNat : Int), .int .u8 ((Kl.hxD n2).toNat : Int)] 5)).heap[w.heap.size]? = some (.stringIter s (pos + 1))) := Lib.hid (by
                rw [((Below.refl wr.heap.size wr).alloc (Nat.le_refl _) _).block w.heap.size (lt_of_row' HIX.out)]; exact HIX.out)
              clear cv t1 hn1 hn2 hhx hal2 HS
              go_wp2_with fail
              go_region_with (fail)
              all_goals
                go_wp2_with fail
                go_roundw
                case rel =>
                  refine ⟨j + 1, by omega, by omega, by go_num, by rw [HS2.out, HC.out], HIA.out, ?_⟩
                  first
                    | exact HBX.out.alloc hszx _
                    | exact below_drewN (HBX.out.alloc hszx _) 1
                case measure => simp [intOf]; omega
            · have hje : j = pos + 1 := by omega
              have c3 : decide ((j : Int) < (pos : Int) + 1) = false := by simp; omega
              have c4 : decide (j < pos + 1) = false := by simp; omega
              have HF : Hid (acc ++ Kl.hxs (((Kl.L s).drop pos).take (j - pos)) = acc ++ pc) := Lib.hid (by rw [hje, show pos + 1 - pos = 1 by omega, HPC.out])
              have hit3 := HIX.out
              have HLN : Hid ((acc ++ Kl.hxs (((Kl.L s).drop pos).take (j - pos))).length ≤ 4 * (pos + 1)) := Lib.hid (by
                rw [List.length_append, Kl.hxs_length, List.length_take]; omega)
              clear hje
              go_wp2_with fail
              go_roundw
              case rel => exact ⟨pos + 1, _, by omega, rfl, hit3, HBX.out, by rw [HF.out]; exact HN.out, HLN.out⟩
              case measure =>
                simp only [World.iterPos, hit3, hit]
                omega
        · have g1 : decide ((pos : Int) + 2 < (s.size : Int)) = false := by simp; omega
          have g2 : decide (pos + 2 < s.size) = false := by simp; omega
          go_wp2_with fail
          refine (JS.out _).mono ?_
          rintro e w' ⟨rfl, rfl⟩
          go_wp2_with fail
          clear g1 g2 e3
          obtain ⟨w2, hw2⟩ : ∃ w2, wr.iterAt w.heap.size s (pos + 1) = w2 := ⟨_, rfl⟩
          rw [hw2] at HI HB2 hsz2
          rw [hw2]
          obtain ⟨wo, rfl⟩ : ∃ wo : World, wo = wr := ⟨_, rfl⟩
          go_loopw [3, 7] (fun v m wx => ∃ j : Nat, pos ≤ j ∧ j ≤ pos + 1 ∧ m = .int .i64 j ∧ v = .string ⟨(acc ++ Kl.hxs (((Kl.L s).drop pos).take (j - pos))).toArray⟩ ∧ wx.heap[w.heap.size]? = some (.stringIter s (pos + 1)) ∧ Below w.heap.size w wx) (fun _ m _ => pos + 1 - (intOf m).toNat)
          case atStart => exact ⟨pos, Nat.le_refl _, by omega, rfl, by simp [Kl.hxs], HI.out, HB2.out⟩
          case round =>
            obtain ⟨j, hj1, hj2, rfl, rfl, hitx, hbx⟩ := hrel
            have hszx := hbx.size
            have HBX := Lib.hid hbx
            have HIX := Lib.hid hitx
            clear hbx hitx
            by_cases hjl : j < pos + 1
            · have hjs : j < s.size := by omega
              have c1 : (0 : Int) ≤ (j : Int) := by omega
              have c2 : (j : Int) < (s.size : Int) := by omega
              have c3 : decide ((j : Int) < (pos : Int) + 1) = true := by simp; omega
              have c4 : decide (j < pos + 1) = true := by simp; omega
              have hb256 : s[j].toNat < 256 := s[j].toNat_lt
              obtain ⟨n1, hn1⟩ : ∃ n1, s[j].toNat / 16 = n1 := ⟨_, rfl⟩
              obtain ⟨n2, hn2⟩ : ∃ n2, s[j].toNat % 16 = n2 := ⟨_, rfl⟩
              have l1 : n1 < 16 := by omega
              have l2 : n2 < 16 := by omega
              have a1 : Int.tdiv (s[j].toNat : Int) 16 = (n1 : Int) := by rw [Int.tdiv_eq_ediv_of_nonneg (by omega)]; omega
              have a2 : Int.tmod (s[j].toNat : Int) 16 = (n2 : Int) := by rw [Int.tmod_eq_emod_of_nonneg (by omega)]; omega
              have a3 : (s[j].toNat : Int) / 16 = (n1 : Int) := by omega
              have a4 : (s[j].toNat : Int) % 16 = (n2 : Int) := by omega
              have HS : Hid (Kl.hxs (((Kl.L s).drop pos).take (j + 1 - pos)) = Kl.hxs (((Kl.L s).drop pos).take (j - pos)) ++ [92, 120, Kl.hxD n1, Kl.hxD n2]) := Lib.hid (by rw [kl_drop s pos j hj1 hjs, hxs_snoc]; unfold Kl.hx; rw [hn1, hn2])
              have hlen : (Kl.hxs (((Kl.L s).drop pos).take (j - pos))).length ≤ 4 * s.size := by
                rw [Kl.hxs_length, List.length_take, List.length_drop, Kl.L_length]; omega
              obtain ⟨hx, hhx⟩ : ∃ hx, Kl.hxs (((Kl.L s).drop pos).take (j - pos)) = hx := ⟨_, rfl⟩
              rw [hhx] at HS hlen
              rw [hhx]
              have w1 : IntKind.u8.wrap (n1 : Int) = (n1 : Int) := IntWalk.u8_in _ (by omega)
              have w2 : IntKind.u8.wrap (n2 : Int) = (n2 : Int) := IntWalk.u8_in _ (by omega)
              have x1 := hex_index n1 l1
              have x2 := hex_index n2 l2
              obtain ⟨al, hal2⟩ : ∃ al, acc ++ hx = al := ⟨_, rfl⟩
              have hll : al.length ≤ 4 * s.size + 4 * s.size := by rw [← hal2, List.length_append]; omega
              rw [hal2]
              have HC : Hid ((⟨(al ++ [92, 120, Kl.hxD n1, Kl.hxD n2]).toArray⟩ : ByteArray) = ⟨al.toArray⟩ ++ ⟨#[92, 120]⟩ ++ ⟨#[Kl.hxD n1, Kl.hxD n2]⟩) := Lib.hid (by
                have e1 := bytes_app al [92, 120]
                have e2 := bytes_app (al ++ [92, 120]) [Kl.hxD n1, Kl.hxD n2]
                rw [List.append_assoc] at e2
                rw [show (al ++ [92, 120, Kl.hxD n1, Kl.hxD n2]) = al ++ ([92, 120] ++ [Kl.hxD n1, Kl.hxD n2]) from rfl, ← e2, ← e1])
              have HS2 : Hid (acc ++ Kl.hxs (((Kl.L s).drop pos).take (j + 1 - pos)) = al ++ [92, 120, Kl.hxD n1, Kl.hxD n2]) := Lib.hid (by rw [HS.out, ← hal2, List.append_assoc])
              have z1 : ¬ 9223372036854775807 < al.length + 2 := by omega
              have z2 : ¬ 9223372036854775807 < al.length + 2 + 2 := by omega
              have cv := fun (w : World) (B : Nat) => conv_two w B (Kl.hxD n1) (Kl.hxD n2)
              have t1 := cells_two wr (.int .u8 ((Kl.hxD n1).toNat : Int)) (.int .u8 ((Kl.hxD n2).toNat : Int)) 5
              have y1 := cv (wr.alloc (.cells #[.int .u8 ((Kl.hxD n1).toNat : Int), .int .u8 ((Kl.hxD n2).toNat : Int)] 5)) wr.heap.size t1.1 t1.2
              have y2 := cv (wr.drew.alloc (.cells #[.int .u8 ((Kl.hxD n1).toNat : Int), .int .u8 ((Kl.hxD n2).toNat : Int)] 5)) wr.heap.size t1.1 t1.2
              have y3 := cv (wr.alloc (.cells #[.int .u8 ((Kl.hxD n1).toNat : Int), .int .u8 ((Kl.hxD n2).toNat : Int)] 5)).drew wr.heap.size t1.1 t1.2
              have HIA : Hid ((wr.alloc (.cells #[.int .u8 ((Kl.hxD n1).toNat : Int), .int .u8 ((Kl.hxD n2).toNat : Int)] 5)).heap[w.heap.size]? = some (.stringIter s (pos + 1))) := Lib.hid (by
                rw [((Below.refl wr.heap.size wr).alloc (Nat.le_refl _) _).block w.heap.size (lt_of_row' HIX.out)]; exact HIX.out)
              clear cv t1 hn1 hn2 hhx hal2 HS
              go_wp2_with fail
              go_region_with (fail)
              all_goals
                go_wp2_with fail
                go_roundw
                case rel =>
                  refine ⟨j + 1, by omega, by omega, by go_num, by rw [HS2.out, HC.out], HIA.out, ?_⟩
                  first
                    | exact HBX.out.alloc hszx _
                    | exact below_drewN (HBX.out.alloc hszx _) 1
                case measure => simp [intOf]; omega
            · have hje : j = pos + 1 := by omega
              have c3 : decide ((j : Int) < (pos : Int) + 1) = false := by simp; omega
              have c4 : decide (j < pos + 1) = false := by simp; omega
              have HF : Hid (acc ++ Kl.hxs (((Kl.L s).drop pos).take (j - pos)) = acc ++ pc) := Lib.hid (by rw [hje, show pos + 1 - pos = 1 by omega, HPC.out])
              have hit3 := HIX.out
              have HLN : Hid ((acc ++ Kl.hxs (((Kl.L s).drop pos).take (j - pos))).length ≤ 4 * (pos + 1)) := Lib.hid (by
                rw [List.length_append, Kl.hxs_length, List.length_take]; omega)
              clear hje
              go_wp2_with fail
              go_roundw
              case rel => exact ⟨pos + 1, _, by omega, rfl, hit3, HBX.out, by rw [HF.out]; exact HN.out, HLN.out⟩
              case measure =>
                simp only [World.iterPos, hit3, hit]
                omega
      | false =>
        have hsw := hsw hb
        rw [hr, hwd] at hsw
        by_cases h92 : r = 92
        · have hpc := piece_92 hb (by rw [hr, h92])
          rw [hpc, hwd] at HN
          rw [hr, hwd] at hnx
          rw [hr, hsw] at JS
          rw [hwd] at hw1 hw2
          have q1 : ((r : Int) == 65533) = false := by rw [beq_eq_false_iff_ne]; omega
          have q2 : ((r : Int) == 92) = true := by rw [beq_iff_eq]; omega
          have hz : ¬ 9223372036854775807 < acc.length + 2 := by omega
          have HC : Hid ((⟨(acc ++ [92, 92]).toArray⟩ : ByteArray) = ⟨acc.toArray⟩ ++ ⟨#[92, 92]⟩) := Lib.hid (bytes_app acc [92, 92]).symm
          clear hr hwd hb hbdi hsw h92 hpc hne
          go_wp2_with fail
          refine (JS.out _).mono ?_
          rintro e w' ⟨rfl, rfl⟩
          go_wp2_with fail
          have hit3 := HI.out
          go_roundw
          case rel => exact ⟨pos + wd, acc ++ [92, 92], by omega, by rw [HC.out], hit3, HB2.out, HN.out, by simp; omega⟩
          case measure =>
            simp only [World.iterPos, hit3, hit]
            omega
        · rw [hr, hwd] at hnx
          rw [hr, hsw] at JS
          rw [hwd] at hw1 hw2 HN
          have q2 : ((r : Int) == 92) = false := by rw [beq_eq_false_iff_ne]; omega
          by_cases r32 : 32 ≤ r
          · by_cases r126 : r ≤ 126
            · have hok : Kl.okR r = true := by unfold Kl.okR; simp; omega
              have hpc := piece_ok hb (by rw [hr]; exact h92) (by rw [hr]; exact hok)
              rw [hwd] at hpc
              have HX : Hid (s.extract pos (pos + wd) = ⟨(((Kl.L s).drop pos).take wd).toArray⟩) := Lib.hid (by rw [Lib.extract_eq s pos (pos + wd), Nat.add_sub_cancel_left]; rfl)
              obtain ⟨pc, hpc2⟩ : ∃ pc, ((Kl.L s).drop pos).take wd = pc := ⟨_, rfl⟩
              have hpl : pc.length ≤ wd := by rw [← hpc2, List.length_take]; omega
              have hpl2 : pc.length = wd := by rw [← hpc2, List.length_take, List.length_drop, Kl.L_length]; omega
              rw [hpc, hpc2] at HN
              rw [hpc2] at HX
              have HC : Hid ((⟨(acc ++ pc).toArray⟩ : ByteArray) = ⟨acc.toArray⟩ ++ s.extract pos (pos + wd)) := Lib.hid (by rw [HX.out]; exact (bytes_app acc pc).symm)
              have hz : ¬ 9223372036854775807 < acc.length + wd := by omega
              have g5 : (0 : Int) ≤ (pos : Int) := by omega
              have g6 : pos + wd ≤ s.size := by omega
              have g7 : (pos : Int) + (wd : Int) ≤ (s.size : Int) := by omega
              have q1 : ((r : Int) == 65533) = false := by rw [beq_eq_false_iff_ne]; omega
              have d1 : (32 : Int) ≤ (r : Int) := by omega
              have d2 : (r : Int) ≤ 126 := by omega
              clear hr hwd hb hbdi hsw h92 hne hpc hpc2 hok HX
              go_wp2_with fail
              refine (JS.out _).mono ?_
              rintro e w' ⟨rfl, rfl⟩
              go_wp2_with fail
              have hit3 := HI.out
              go_roundw
              case rel => exact ⟨pos + wd, acc ++ pc, by omega, by rw [HC.out], hit3, HB2.out, HN.out, by simp; omega⟩
              case measure =>
                simp only [World.iterPos, hit3, hit]
                omega
            · by_cases r160 : 160 ≤ r
              · by_cases h655 : r = 65533
                · have hok : Kl.okR r = true := by unfold Kl.okR; simp; omega
                  have hpc := piece_ok hb (by rw [hr]; exact h92) (by rw [hr]; exact hok)
                  rw [hwd] at hpc
                  have HX : Hid (s.extract pos (pos + wd) = ⟨(((Kl.L s).drop pos).take wd).toArray⟩) := Lib.hid (by rw [Lib.extract_eq s pos (pos + wd), Nat.add_sub_cancel_left]; rfl)
                  obtain ⟨pc, hpc2⟩ : ∃ pc, ((Kl.L s).drop pos).take wd = pc := ⟨_, rfl⟩
                  have hpl : pc.length ≤ wd := by rw [← hpc2, List.length_take]; omega
                  have hpl2 : pc.length = wd := by rw [← hpc2, List.length_take, List.length_drop, Kl.L_length]; omega
                  rw [hpc, hpc2] at HN
                  rw [hpc2] at HX
                  have HC : Hid ((⟨(acc ++ pc).toArray⟩ : ByteArray) = ⟨acc.toArray⟩ ++ s.extract pos (pos + wd)) := Lib.hid (by rw [HX.out]; exact (bytes_app acc pc).symm)
                  have hz : ¬ 9223372036854775807 < acc.length + wd := by omega
                  have g5 : (0 : Int) ≤ (pos : Int) := by omega
                  have g6 : pos + wd ≤ s.size := by omega
                  have g7 : (pos : Int) + (wd : Int) ≤ (s.size : Int) := by omega
                  have hw3 : wd = 3 := by rw [← hsw, h655]; rfl
                  have htk := hbdi (by rw [hr, h655])
                  rw [hb] at htk
                  have e3 : ((s.extract pos (pos + 3)).toList == [239, 191, 189]) = true := by
                    rw [Lib.toList_data, Lib.extract_eq s pos (pos + 3)]
                    show (((Kl.L s).drop pos).take (pos + 3 - pos) == [239, 191, 189]) = true
                    rw [show pos + 3 - pos = 3 by omega]
                    cases h : (((Kl.L s).drop pos).take 3 == [239, 191, 189])
                    · rw [h] at htk; cases htk
                    · rfl
                  have g1 : decide ((pos : Int) + 2 < (s.size : Int)) = true := by simp; omega
                  have g2 : decide (pos + 2 < s.size) = true := by simp; omega
                  have g3 : pos + 3 ≤ s.size := by omega
                  have g4 : (pos : Int) + 3 ≤ (s.size : Int) := by omega
                  subst h655
                  subst hw3
                  rw [show ((65533 : Nat) : Int) = 65533 from rfl] at JS hnx
                  clear hr hwd htk hb hbdi hsw h92 hne hpc hpc2 hok HX q2
                  go_wp2_with fail
                  refine (JS.out _).mono ?_
                  rintro e w' ⟨rfl, rfl⟩
                  go_wp2_with fail
                  have hit3 := HI.out
                  go_roundw
                  case rel => exact ⟨pos + 3, acc ++ pc, by omega, by rw [HC.out], hit3, HB2.out, HN.out, by simp; omega⟩
                  case measure =>
                    simp only [World.iterPos, hit3, hit]
                    omega
                · have hok : Kl.okR r = true := by unfold Kl.okR; simp; omega
                  have hpc := piece_ok hb (by rw [hr]; exact h92) (by rw [hr]; exact hok)
                  rw [hwd] at hpc
                  have HX : Hid (s.extract pos (pos + wd) = ⟨(((Kl.L s).drop pos).take wd).toArray⟩) := Lib.hid (by rw [Lib.extract_eq s pos (pos + wd), Nat.add_sub_cancel_left]; rfl)
                  obtain ⟨pc, hpc2⟩ : ∃ pc, ((Kl.L s).drop pos).take wd = pc := ⟨_, rfl⟩
                  have hpl : pc.length ≤ wd := by rw [← hpc2, List.length_take]; omega
                  have hpl2 : pc.length = wd := by rw [← hpc2, List.length_take, List.length_drop, Kl.L_length]; omega
                  rw [hpc, hpc2] at HN
                  rw [hpc2] at HX
                  have HC : Hid ((⟨(acc ++ pc).toArray⟩ : ByteArray) = ⟨acc.toArray⟩ ++ s.extract pos (pos + wd)) := Lib.hid (by rw [HX.out]; exact (bytes_app acc pc).symm)
                  have hz : ¬ 9223372036854775807 < acc.length + wd := by omega
                  have g5 : (0 : Int) ≤ (pos : Int) := by omega
                  have g6 : pos + wd ≤ s.size := by omega
                  have g7 : (pos : Int) + (wd : Int) ≤ (s.size : Int) := by omega
                  have q1 : ((r : Int) == 65533) = false := by rw [beq_eq_false_iff_ne]; omega
                  have d1 : (32 : Int) ≤ (r : Int) := by omega
                  have d2 : decide ((r : Int) ≤ 126) = false := by simp; omega
                  have d3 : (160 : Int) ≤ (r : Int) := by omega
                  clear hr hwd hb hbdi hsw h92 hne hpc hpc2 hok HX
                  go_wp2_with fail
                  refine (JS.out _).mono ?_
                  rintro e w' ⟨rfl, rfl⟩
                  go_wp2_with fail
                  have hit3 := HI.out
                  go_roundw
                  case rel => exact ⟨pos + wd, acc ++ pc, by omega, by rw [HC.out], hit3, HB2.out, HN.out, by simp; omega⟩
                  case measure =>
                    simp only [World.iterPos, hit3, hit]
                    omega
              · have hok : Kl.okR r = false := by unfold Kl.okR; simp; omega
                have hpc := piece_no hb (by rw [hr]; exact h92) (by rw [hr]; exact hok)
                rw [hwd] at hpc
                obtain ⟨pc, hpc2⟩ : ∃ pc, Kl.hxs (((Kl.L s).drop pos).take wd) = pc := ⟨_, rfl⟩
                have HPC : Hid (Kl.hxs (((Kl.L s).drop pos).take wd) = pc) := Lib.hid hpc2
                rw [hpc, hpc2] at HN
                have q1 : ((r : Int) == 65533) = false := by rw [beq_eq_false_iff_ne]; omega
                have d1 : (32 : Int) ≤ (r : Int) := by omega
                have d2 : decide ((r : Int) ≤ 126) = false := by simp; omega
                have d3 : decide ((160 : Int) ≤ (r : Int)) = false := by simp; omega
                clear hr hwd hb hbdi hsw h92 hne hpc hpc2 hok
                go_wp2_with fail
                refine (JS.out _).mono ?_
                rintro e w' ⟨rfl, rfl⟩
                go_wp2_with fail
                obtain ⟨w2, hw2⟩ : ∃ w2, wr.iterAt w.heap.size s (pos + wd) = w2 := ⟨_, rfl⟩
                rw [hw2] at HI HB2 hsz2
                rw [hw2]
                obtain ⟨wo, rfl⟩ : ∃ wo : World, wo = wr := ⟨_, rfl⟩
                go_loopw [3, 7] (fun v m wx => ∃ j : Nat, pos ≤ j ∧ j ≤ pos + wd ∧ m = .int .i64 j ∧ v = .string ⟨(acc ++ Kl.hxs (((Kl.L s).drop pos).take (j - pos))).toArray⟩ ∧ wx.heap[w.heap.size]? = some (.stringIter s (pos + wd)) ∧ Below w.heap.size w wx) (fun _ m _ => pos + wd - (intOf m).toNat)
                case atStart => exact ⟨pos, Nat.le_refl _, by omega, rfl, by simp [Kl.hxs], HI.out, HB2.out⟩
                case round =>
                  obtain ⟨j, hj1, hj2, rfl, rfl, hitx, hbx⟩ := hrel
                  have hszx := hbx.size
                  have HBX := Lib.hid hbx
                  have HIX := Lib.hid hitx
                  clear hbx hitx
                  by_cases hjl : j < pos + wd
                  · have hjs : j < s.size := by omega
                    have c1 : (0 : Int) ≤ (j : Int) := by omega
                    have c2 : (j : Int) < (s.size : Int) := by omega
                    have c3 : decide ((j : Int) < (pos : Int) + (wd : Int)) = true := by simp; omega
                    have c4 : decide (j < pos + wd) = true := by simp; omega
                    have hb256 : s[j].toNat < 256 := s[j].toNat_lt
                    obtain ⟨n1, hn1⟩ : ∃ n1, s[j].toNat / 16 = n1 := ⟨_, rfl⟩
                    obtain ⟨n2, hn2⟩ : ∃ n2, s[j].toNat % 16 = n2 := ⟨_, rfl⟩
                    have l1 : n1 < 16 := by omega
                    have l2 : n2 < 16 := by omega
                    have a1 : Int.tdiv (s[j].toNat : Int) 16 = (n1 : Int) := by rw [Int.tdiv_eq_ediv_of_nonneg (by omega)]; omega
                    have a2 : Int.tmod (s[j].toNat : Int) 16 = (n2 : Int) := by rw [Int.tmod_eq_emod_of_nonneg (by omega)]; omega
                    have a3 : (s[j].toNat : Int) / 16 = (n1 : Int) := by omega
                    have a4 : (s[j].toNat : Int) % 16 = (n2 : Int) := by omega
                    have HS : Hid (Kl.hxs (((Kl.L s).drop pos).take (j + 1 - pos)) = Kl.hxs (((Kl.L s).drop pos).take (j - pos)) ++ [92, 120, Kl.hxD n1, Kl.hxD n2]) := Lib.hid (by rw [kl_drop s pos j hj1 hjs, hxs_snoc]; unfold Kl.hx; rw [hn1, hn2])
                    have hlen : (Kl.hxs (((Kl.L s).drop pos).take (j - pos))).length ≤ 4 * s.size := by
                      rw [Kl.hxs_length, List.length_take, List.length_drop, Kl.L_length]; omega
                    obtain ⟨hx, hhx⟩ : ∃ hx, Kl.hxs (((Kl.L s).drop pos).take (j - pos)) = hx := ⟨_, rfl⟩
                    rw [hhx] at HS hlen
                    rw [hhx]
                    have w1 : IntKind.u8.wrap (n1 : Int) = (n1 : Int) := IntWalk.u8_in _ (by omega)
                    have w2 : IntKind.u8.wrap (n2 : Int) = (n2 : Int) := IntWalk.u8_in _ (by omega)
                    have x1 := hex_index n1 l1
                    have x2 := hex_index n2 l2
                    obtain ⟨al, hal2⟩ : ∃ al, acc ++ hx = al := ⟨_, rfl⟩
                    have hll : al.length ≤ 4 * s.size + 4 * s.size := by rw [← hal2, List.length_append]; omega
                    rw [hal2]
                    have HC : Hid ((⟨(al ++ [92, 120, Kl.hxD n1, Kl.hxD n2]).toArray⟩ : ByteArray) = ⟨al.toArray⟩ ++ ⟨#[92, 120]⟩ ++ ⟨#[Kl.hxD n1, Kl.hxD n2]⟩) := Lib.hid (by
                      have e1 := bytes_app al [92, 120]
                      have e2 := bytes_app (al ++ [92, 120]) [Kl.hxD n1, Kl.hxD n2]
                      rw [List.append_assoc] at e2
                      rw [show (al ++ [92, 120, Kl.hxD n1, Kl.hxD n2]) = al ++ ([92, 120] ++ [Kl.hxD n1, Kl.hxD n2]) from rfl, ← e2, ← e1])
                    have HS2 : Hid (acc ++ Kl.hxs (((Kl.L s).drop pos).take (j + 1 - pos)) = al ++ [92, 120, Kl.hxD n1, Kl.hxD n2]) := Lib.hid (by rw [HS.out, ← hal2, List.append_assoc])
                    have z1 : ¬ 9223372036854775807 < al.length + 2 := by omega
                    have z2 : ¬ 9223372036854775807 < al.length + 2 + 2 := by omega
                    have cv := fun (w : World) (B : Nat) => conv_two w B (Kl.hxD n1) (Kl.hxD n2)
                    have t1 := cells_two wr (.int .u8 ((Kl.hxD n1).toNat : Int)) (.int .u8 ((Kl.hxD n2).toNat : Int)) 5
                    have y1 := cv (wr.alloc (.cells #[.int .u8 ((Kl.hxD n1).toNat : Int), .int .u8 ((Kl.hxD n2).toNat : Int)] 5)) wr.heap.size t1.1 t1.2
                    have y2 := cv (wr.drew.alloc (.cells #[.int .u8 ((Kl.hxD n1).toNat : Int), .int .u8 ((Kl.hxD n2).toNat : Int)] 5)) wr.heap.size t1.1 t1.2
                    have y3 := cv (wr.alloc (.cells #[.int .u8 ((Kl.hxD n1).toNat : Int), .int .u8 ((Kl.hxD n2).toNat : Int)] 5)).drew wr.heap.size t1.1 t1.2
                    have HIA : Hid ((wr.alloc (.cells #[.int .u8 ((Kl.hxD n1).toNat : Int), .int .u8 ((Kl.hxD n2).toNat : Int)] 5)).heap[w.heap.size]? = some (.stringIter s (pos + wd))) := Lib.hid (by
                      rw [((Below.refl wr.heap.size wr).alloc (Nat.le_refl _) _).block w.heap.size (lt_of_row' HIX.out)]; exact HIX.out)
                    clear cv t1 hn1 hn2 hhx hal2 HS
                    go_wp2_with fail
                    go_region_with (fail)
                    all_goals
                      go_wp2_with fail
                      go_roundw
                      case rel =>
                        refine ⟨j + 1, by omega, by omega, by go_num, by rw [HS2.out, HC.out], HIA.out, ?_⟩
                        first
                          | exact HBX.out.alloc hszx _
                          | exact below_drewN (HBX.out.alloc hszx _) 1
                      case measure => simp [intOf]; omega
                  · have hje : j = pos + wd := by omega
                    have c3 : decide ((j : Int) < (pos : Int) + (wd : Int)) = false := by simp; omega
                    have c4 : decide (j < pos + wd) = false := by simp; omega
                    have HF : Hid (acc ++ Kl.hxs (((Kl.L s).drop pos).take (j - pos)) = acc ++ pc) := Lib.hid (by rw [hje, show pos + wd - pos = wd by omega, HPC.out])
                    have hit3 := HIX.out
                    have HLN : Hid ((acc ++ Kl.hxs (((Kl.L s).drop pos).take (j - pos))).length ≤ 4 * (pos + wd)) := Lib.hid (by
                      rw [List.length_append, Kl.hxs_length, List.length_take]; omega)
                    clear hje
                    go_wp2_with fail
                    go_roundw
                    case rel => exact ⟨pos + wd, _, by omega, rfl, hit3, HBX.out, by rw [HF.out]; exact HN.out, HLN.out⟩
                    case measure =>
                      simp only [World.iterPos, hit3, hit]
                      omega
          · have hok : Kl.okR r = false := by unfold Kl.okR; simp; omega
            have hpc := piece_no hb (by rw [hr]; exact h92) (by rw [hr]; exact hok)
            rw [hwd] at hpc
            obtain ⟨pc, hpc2⟩ : ∃ pc, Kl.hxs (((Kl.L s).drop pos).take wd) = pc := ⟨_, rfl⟩
            have HPC : Hid (Kl.hxs (((Kl.L s).drop pos).take wd) = pc) := Lib.hid hpc2
            rw [hpc, hpc2] at HN
            have q1 : ((r : Int) == 65533) = false := by rw [beq_eq_false_iff_ne]; omega
            have d1 : decide ((32 : Int) ≤ (r : Int)) = false := by simp; omega
            have d3 : decide ((160 : Int) ≤ (r : Int)) = false := by simp; omega
            clear hr hwd hb hbdi hsw h92 hne hpc hpc2 hok
            go_wp2_with fail
            refine (JS.out _).mono ?_
            rintro e w' ⟨rfl, rfl⟩
            go_wp2_with fail
            obtain ⟨w2, hw2⟩ : ∃ w2, wr.iterAt w.heap.size s (pos + wd) = w2 := ⟨_, rfl⟩
            rw [hw2] at HI HB2 hsz2
            rw [hw2]
            obtain ⟨wo, rfl⟩ : ∃ wo : World, wo = wr := ⟨_, rfl⟩
            go_loopw [3, 7] (fun v m wx => ∃ j : Nat, pos ≤ j ∧ j ≤ pos + wd ∧ m = .int .i64 j ∧ v = .string ⟨(acc ++ Kl.hxs (((Kl.L s).drop pos).take (j - pos))).toArray⟩ ∧ wx.heap[w.heap.size]? = some (.stringIter s (pos + wd)) ∧ Below w.heap.size w wx) (fun _ m _ => pos + wd - (intOf m).toNat)
            case atStart => exact ⟨pos, Nat.le_refl _, by omega, rfl, by simp [Kl.hxs], HI.out, HB2.out⟩
            case round =>
              obtain ⟨j, hj1, hj2, rfl, rfl, hitx, hbx⟩ := hrel
              have hszx := hbx.size
              have HBX := Lib.hid hbx
              have HIX := Lib.hid hitx
              clear hbx hitx
              by_cases hjl : j < pos + wd
              · have hjs : j < s.size := by omega
                have c1 : (0 : Int) ≤ (j : Int) := by omega
                have c2 : (j : Int) < (s.size : Int) := by omega
                have c3 : decide ((j : Int) < (pos : Int) + (wd : Int)) = true := by simp; omega
                have c4 : decide (j < pos + wd) = true := by simp; omega
                have hb256 : s[j].toNat < 256 := s[j].toNat_lt
                obtain ⟨n1, hn1⟩ : ∃ n1, s[j].toNat / 16 = n1 := ⟨_, rfl⟩
                obtain ⟨n2, hn2⟩ : ∃ n2, s[j].toNat % 16 = n2 := ⟨_, rfl⟩
                have l1 : n1 < 16 := by omega
                have l2 : n2 < 16 := by omega
                have a1 : Int.tdiv (s[j].toNat : Int) 16 = (n1 : Int) := by rw [Int.tdiv_eq_ediv_of_nonneg (by omega)]; omega
                have a2 : Int.tmod (s[j].toNat : Int) 16 = (n2 : Int) := by rw [Int.tmod_eq_emod_of_nonneg (by omega)]; omega
                have a3 : (s[j].toNat : Int) / 16 = (n1 : Int) := by omega
                have a4 : (s[j].toNat : Int) % 16 = (n2 : Int) := by omega
                have HS : Hid (Kl.hxs (((Kl.L s).drop pos).take (j + 1 - pos)) = Kl.hxs (((Kl.L s).drop pos).take (j - pos)) ++ [92, 120, Kl.hxD n1, Kl.hxD n2]) := Lib.hid (by rw [kl_drop s pos j hj1 hjs, hxs_snoc]; unfold Kl.hx; rw [hn1, hn2])
                have hlen : (Kl.hxs (((Kl.L s).drop pos).take (j - pos))).length ≤ 4 * s.size := by
                  rw [Kl.hxs_length, List.length_take, List.length_drop, Kl.L_length]; omega
                obtain ⟨hx, hhx⟩ : ∃ hx, Kl.hxs (((Kl.L s).drop pos).take (j - pos)) = hx := ⟨_, rfl⟩
                rw [hhx] at HS hlen
                rw [hhx]
                have w1 : IntKind.u8.wrap (n1 : Int) = (n1 : Int) := IntWalk.u8_in _ (by omega)
                have w2 : IntKind.u8.wrap (n2 : Int) = (n2 : Int) := IntWalk.u8_in _ (by omega)
                have x1 := hex_index n1 l1
                have x2 := hex_index n2 l2
                obtain ⟨al, hal2⟩ : ∃ al, acc ++ hx = al := ⟨_, rfl⟩
                have hll : al.length ≤ 4 * s.size + 4 * s.size := by rw [← hal2, List.length_append]; omega
                rw [hal2]
                have HC : Hid ((⟨(al ++ [92, 120, Kl.hxD n1, Kl.hxD n2]).toArray⟩ : ByteArray) = ⟨al.toArray⟩ ++ ⟨#[92, 120]⟩ ++ ⟨#[Kl.hxD n1, Kl.hxD n2]⟩) := Lib.hid (by
                  have e1 := bytes_app al [92, 120]
                  have e2 := bytes_app (al ++ [92, 120]) [Kl.hxD n1, Kl.hxD n2]
                  rw [List.append_assoc] at e2
                  rw [show (al ++ [92, 120, Kl.hxD n1, Kl.hxD n2]) = al ++ ([92, 120] ++ [Kl.hxD n1, Kl.hxD n2]) from rfl, ← e2, ← e1])
                have HS2 : Hid (acc ++ Kl.hxs (((Kl.L s).drop pos).take (j + 1 - pos)) = al ++ [92, 120, Kl.hxD n1, Kl.hxD n2]) := Lib.hid (by rw [HS.out, ← hal2, List.append_assoc])
                have z1 : ¬ 9223372036854775807 < al.length + 2 := by omega
                have z2 : ¬ 9223372036854775807 < al.length + 2 + 2 := by omega
                have cv := fun (w : World) (B : Nat) => conv_two w B (Kl.hxD n1) (Kl.hxD n2)
                have t1 := cells_two wr (.int .u8 ((Kl.hxD n1).toNat : Int)) (.int .u8 ((Kl.hxD n2).toNat : Int)) 5
                have y1 := cv (wr.alloc (.cells #[.int .u8 ((Kl.hxD n1).toNat : Int), .int .u8 ((Kl.hxD n2).toNat : Int)] 5)) wr.heap.size t1.1 t1.2
                have y2 := cv (wr.drew.alloc (.cells #[.int .u8 ((Kl.hxD n1).toNat : Int), .int .u8 ((Kl.hxD n2).toNat : Int)] 5)) wr.heap.size t1.1 t1.2
                have y3 := cv (wr.alloc (.cells #[.int .u8 ((Kl.hxD n1).toNat : Int), .int .u8 ((Kl.hxD n2).toNat : Int)] 5)).drew wr.heap.size t1.1 t1.2
                have HIA : Hid ((wr.alloc (.cells #[.int .u8 ((Kl.hxD n1).toNat : Int), .int .u8 ((Kl.hxD n2).toNat : Int)] 5)).heap[w.heap.size]? = some (.stringIter s (pos + wd))) := Lib.hid (by
                  rw [((Below.refl wr.heap.size wr).alloc (Nat.le_refl _) _).block w.heap.size (lt_of_row' HIX.out)]; exact HIX.out)
                clear cv t1 hn1 hn2 hhx hal2 HS
                go_wp2_with fail
                go_region_with (fail)
                all_goals
                  go_wp2_with fail
                  go_roundw
                  case rel =>
                    refine ⟨j + 1, by omega, by omega, by go_num, by rw [HS2.out, HC.out], HIA.out, ?_⟩
                    first
                      | exact HBX.out.alloc hszx _
                      | exact below_drewN (HBX.out.alloc hszx _) 1
                  case measure => simp [intOf]; omega
              · have hje : j = pos + wd := by omega
                have c3 : decide ((j : Int) < (pos : Int) + (wd : Int)) = false := by simp; omega
                have c4 : decide (j < pos + wd) = false := by simp; omega
                have HF : Hid (acc ++ Kl.hxs (((Kl.L s).drop pos).take (j - pos)) = acc ++ pc) := Lib.hid (by rw [hje, show pos + wd - pos = wd by omega, HPC.out])
                have hit3 := HIX.out
                have HLN : Hid ((acc ++ Kl.hxs (((Kl.L s).drop pos).take (j - pos))).length ≤ 4 * (pos + wd)) := Lib.hid (by
                  rw [List.length_append, Kl.hxs_length, List.length_take]; omega)
                clear hje
                go_wp2_with fail
                go_roundw
                case rel => exact ⟨pos + wd, _, by omega, rfl, hit3, HBX.out, by rw [HF.out]; exact HN.out, HLN.out⟩
                case measure =>
                  simp only [World.iterPos, hit3, hit]
                  omega
    · have hnx := fun ty => Lib.run_next_end_at (P := Try.prog) wr w.heap.size s pos ty hit hp
      have H : Hid (acc = Kl.txt (Kl.L s)) := Lib.hid (by
        have := HA.out
        rw [List.drop_of_length_le (by rw [Kl.L_length]; omega), Kl.txt_nil, List.append_nil] at this
        exact this)
      go_wp2_with fail
      go_ret
      exact ⟨by rw [← H.out]; rfl, HB.out⟩
end Go.Proofs.Ytgljgjkoaaibnaa.KK
