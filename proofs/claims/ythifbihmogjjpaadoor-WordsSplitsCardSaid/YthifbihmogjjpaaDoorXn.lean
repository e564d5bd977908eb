/-
  The contract of the reference's Split.
-/
import Derived.Test.YthifbihmogjjpaaDoorXe
import Derived.Test.YthifbihmogjjpaaDoorXg
import Derived.Test.YthifbihmogjjpaaDoorXh
import Derived.Test.YthifbihmogjjpaaDoorWn
import Derived.Test.YthifbihmogjjpaaDoorPq
namespace Go.Proofs.YthifbihmogjjpaaDoor
open Go.ChangeShapes Go.WideShapes Go.ChangeAt Go.RowKit Go.Proofs

theorem ext_mk (s : ByteArray) (k m : Nat) : s.extract k (k + m) = ⟨(((Pl.L s).drop k).take m).toArray⟩ := by
  have e : (s.extract k (k + m)).data.toList = ((Pl.L s).drop k).take m := by
    rw [Lib.extract_data, Nat.add_sub_cancel_left]; rfl
  rw [← e]
theorem Pl.splitG {s : ByteArray} {e : Int} {fs : List (List UInt8 × Bool)} (w w' : World) (A : Option Addr) (c : Nat) (h : Pl.split (Pl.L s) = (e, fs)) (hf : FldsAt w' A fs) (hb : Below w.heap.size w w') (E : Ending) (hE : E = .returned (.tuple #[.slice A fs.length c, .int .i64 e])) : SplitOut (Pl.L s) w E w' := by
  refine ⟨A, c, ?_, ?_, hb⟩
  · rw [h]; exact hE
  · rw [h]; exact hf

theorem rSplit_long (s : ByteArray) (w : World) (h : 8192 < s.size) (hs : s.size ≤ 4294967295) :
    Calls Tryd.prog 10 #[.string s] w (SplitOut (Pl.L s) w) := by
  have H : Hid (Pl.split (Pl.L s) = (3, [])) := Lib.hid (by unfold Pl.split; rw [Pl.L_length, if_pos h])
  go_enter Tryd.func10, Tryd.ntmps10
  go_wp2_with fail
  go_ret2
  exact Pl.splitG w w none 0 H.out (.inl rfl) (Below.refl _ _) _ rfl

theorem rSplit_nil (s : ByteArray) (w : World) (h : s.size = 0) :
    Calls Tryd.prog 10 #[.string s] w (SplitOut (Pl.L s) w) := by
  obtain rfl : s = ⟨#[]⟩ := by
    obtain ⟨d⟩ := s
    have : d = #[] := Array.size_eq_zero_iff.1 h
    rw [this]
  have H : Hid (Pl.split (Pl.L ⟨#[]⟩) = (0, [])) := Lib.hid (by rfl)
  go_enter Tryd.func10, Tryd.ntmps10
  go_wp2_with fail
  go_ret2
  exact Pl.splitG w w none 0 H.out (.inl rfl) (Below.refl _ _) _ rfl

set_option maxRecDepth 100000 in
set_option maxHeartbeats 4000000 in
theorem rSplit_main (s : ByteArray) (w : World) (h8 : s.size ≤ 8192) (h0 : 0 < s.size) :
    Calls Tryd.prog 10 #[.string s] w (SplitOut (Pl.L s) w) := by
  have t1 : s.toList ≠ [] := by
    rw [Lib.toList_data]; intro e
    have := congrArg List.length e
    rw [Array.length_toList] at this
    have h0' : 0 < s.data.size := h0
    simp only [List.length_nil] at this
    omega
  have t2 : (s.toList == []) = false := by simpa using t1
  obtain ⟨i0, hi, hz0, hz1, hz2⟩ := info_parts infoF
  go_enter Tryd.func10, Tryd.ntmps10
  go_wp2_with fail
  go_loopw [4, 5, 6] (fun v l a wr => ∃ (k : Nat) (fs : List (List UInt8 × Bool)), k ≤ s.size ∧ a = .int .i64 k ∧ l = .bool (fs.any fun f => decide (2000 < f.1.length)) ∧ fs.length ≤ k ∧ wr.ownsRow w.heap.size 48 2 v fs.length (cellsF fs) ∧ Below w.heap.size w wr ∧ Hid (Pl.its (Pl.L s) = fs.map some ++ Pl.its ((Pl.L s).drop k))) (fun _ _ a _ => s.size + 1 - (intOf a).toNat)
  case atStart => exact ⟨0, [], Nat.zero_le _, rfl, rfl, Nat.le_refl _, World.ownsRow_nil _ _ _ _, Below.refl _ _, Lib.hid (by simp)⟩
  case round =>
    obtain ⟨k, fs, hk, rfl, rfl, hfl, hown, hb, HR⟩ := hrel
    have HB := Lib.hid hb
    have hsz := hb.size
    obtain ⟨t, ht⟩ : ∃ t, Pl.rqT ((Pl.L s).drop k) = t := ⟨_, rfl⟩
    obtain ⟨n, hn⟩ : ∃ n, Pl.rqN ((Pl.L s).drop k) = n := ⟨_, rfl⟩
    have hnk : k + n ≤ s.size := by
      rcases Nat.eq_zero_or_pos n with h | h
      · omega
      · have := Pl.rfld_len (rfld_q ht hn (by omega))
        rw [List.length_drop, Pl.L_length] at this; omega
    have K1 : ∀ w, Calls Tryd.prog 25 #[.string (s.extract k s.size)] w fun e w' => e = .returned (.tuple #[.string ⟨t.toArray⟩, .int .i64 (n : Int)]) ∧ Below w.heap.size w w' := fun w => by
      have := quoted_any (s.extract k s.size) w (by rw [ByteArray.size_extract]; omega)
      rwa [Pl.L_extract, ht, hn] at this
    have HK := Lib.hid K1
    have HT := Lib.hid ht
    have HN := Lib.hid hn
    have htl := size_mk t
    obtain ⟨lg, hlg⟩ : ∃ b, (fs.any fun f => decide (2000 < f.1.length)) = b := ⟨_, rfl⟩
    rw [hlg]
    have HL := Lib.hid hlg
    clear hb ht hn K1 hlg
    go_wp2_with fail
    refine (HK.out _).mono ?_
    rintro e w1 ⟨rfl, hb1⟩
    have hown1 := own_below hown hb1
    have hsz1 := hb1.size
    have HB1 := Lib.hid (below_of HB.out hb1 (Nat.le_refl _))
    clear hb1
    by_cases hn0 : n = 0
    · subst hn0
      have hownA := hown1.alloc (.cells #[.string ⟨t.toArray⟩, .bool true] 48)
      have hbA := HB1.out.alloc (by omega) (.cells #[.string ⟨t.toArray⟩, .bool true] 48)
      have c0 := cell_of_row (w1.alloc (.cells #[.string ⟨t.toArray⟩, .bool true] 48)) w1.heap.size 0 _ _ _ (heap_alloc_new w1 _)
      have c1 := cell_of_row (w1.alloc (.cells #[.string ⟨t.toArray⟩, .bool true] 48)) w1.heap.size 1 _ _ _ (heap_alloc_new w1 _)
      have hsa : (w1.alloc (.cells #[.string ⟨t.toArray⟩, .bool true] 48)).heap.size = w1.heap.size + 1 := by simp
      have hnb : some w1.heap.size ≠ Value.ownBlock u4 := fun e => by have := (hown1.lt _ e.symm).2; omega
      have HBA := Lib.hid hbA
      clear hbA
      go_wp2_with fail
      go_loop [8] (fun n' => ∃ m : Nat, n' = .int .i64 m ∧ m ≤ Pl.spN ((Pl.L s).drop k)) (fun n' => s.size + 1 - (intOf n').toNat)
      case atStart => exact ⟨0, rfl, Nat.zero_le _⟩
      case round =>
        obtain ⟨m, rfl, hm⟩ := hrel
        have hml := Pl.spN_le ((Pl.L s).drop k)
        rw [List.length_drop, Pl.L_length] at hml
        by_cases hgo : ∃ h : k + m < s.size, ¬ s[k + m] = 32
        · obtain ⟨hlt, hc⟩ := hgo
          have e2 : ((s[k + m].toNat : Int) == 32) = false := Pl.num_ne _ 32 hc
          have e3 : ((s[k + m].toNat : Int) != 32) = true := Pl.num_bne _ 32 hc
          have hm1 := spN_more hm hlt hc
          clear hc
          go_wp2_with fail
          go_round
          case rel => exact ⟨m + 1, by go_num, hm1⟩
          case measure => simp [intOf]; omega
        · have hsp : Pl.spN ((Pl.L s).drop k) = m := by
            rcases Nat.lt_or_ge (k + m) s.size with h | h
            · exact spN_stop hm h (Classical.not_not.1 fun hc => hgo ⟨h, hc⟩)
            · exact spN_end hk hm h
          have HSP := Lib.hid hsp
          have hmk : k + m ≤ s.size := by omega
          obtain ⟨x, hx⟩ : ∃ x, ((Pl.L s).drop k).take m = x := ⟨_, rfl⟩
          have HX := Lib.hid hx
          have hxl := size_mk x
          have KB : ∀ w, Calls Tryd.prog 26 #[.string ⟨x.toArray⟩] w fun e w' => e = .returned (.bool (Pl.bareS x)) ∧ w = w' := fun w => by
            have h := rbare_any ⟨x.toArray⟩ w (by rw [size_mk, ← hx, List.length_take, List.length_drop, Pl.L_length]; omega)
            rwa [L_mk] at h
          have HKB := Lib.hid KB
          clear KB hx
          rcases Nat.lt_or_ge (k + m) s.size with hlt | hlt
          case' inl =>
            have hc : s[k + m] = 32 := Classical.not_not.1 fun hc => hgo ⟨hlt, hc⟩
            have e2 : ((s[k + m].toNat : Int) == 32) = true := Pl.num_eq _ 32 hc
            have e3 : ((s[k + m].toNat : Int) != 32) = false := Pl.num_nbne _ 32 hc
            clear hc hgo hsp hm
            go_wp2_with fail
            clear e2 e3 hlt
          case' inr =>
            clear hgo hsp hm
            go_wp2_with fail
            clear hlt
          all_goals
            simp only [ext_mk, HX.out]
            clear c0 c1 hsa hownA HBA
            cases hbx : Pl.bareS x with
            | false =>
              have HS := Lib.hid (split_none h8 h0 HR.out (rfld_x HN.out HSP.out (by rw [HX.out]; exact hbx)))
              have HBX := Lib.hid hbx
              clear hbx
              refine (HKB.out _).mono ?_
              rw [HBX.out]
              rintro e w' ⟨rfl, rfl⟩
              go_wp2_with fail
              go_ret2
              exact Pl.splitG w _ none 0 HS.out (.inl rfl) (HB1.out.alloc (by omega) _) _ rfl
            | true =>
              have HF : Hid (Pl.rfld ((Pl.L s).drop k) = some ((x, false), m)) := Lib.hid (by
                have h := rfld_b HN.out HSP.out (by rw [HX.out]; exact hbx)
                rwa [HX.out] at h)
              have HBX := Lib.hid hbx
              clear hbx
              refine (HKB.out _).mono ?_
              rw [HBX.out]
              rintro e w' ⟨rfl, rfl⟩
              have hownA := hown1.alloc (.cells #[.string ⟨x.toArray⟩, .bool false] 48)
              have hbA := HB1.out.alloc (by omega) (.cells #[.string ⟨x.toArray⟩, .bool false] 48)
              have c0 := cell_of_row (w1.alloc (.cells #[.string ⟨x.toArray⟩, .bool false] 48)) w1.heap.size 0 _ _ _ (heap_alloc_new w1 _)
              have c1 := cell_of_row (w1.alloc (.cells #[.string ⟨x.toArray⟩, .bool false] 48)) w1.heap.size 1 _ _ _ (heap_alloc_new w1 _)
              have hsa : (w1.alloc (.cells #[.string ⟨x.toArray⟩, .bool false] 48)).heap.size = w1.heap.size + 1 := by simp
              obtain ⟨wa, hwa⟩ : ∃ wa, w1.alloc (.cells #[.string ⟨x.toArray⟩, .bool false] 48) = wa := ⟨_, rfl⟩
              rw [hwa] at hownA hbA c0 c1 hsa
              replace c0 : wa.cell? ⟨w1.heap.size, 0, none⟩ = some (.string ⟨x.toArray⟩) := c0
              replace c1 : wa.cell? ⟨w1.heap.size, 1, none⟩ = some (.bool false) := c1
              have n2 : ∀ (j : Nat) (u : Value), [Value.string ⟨x.toArray⟩, Value.bool false][j]? = some u → (wa.alloc (.cells #[.string ⟨x.toArray⟩, .bool false] 48)).cell? ((⟨w1.heap.size + 1, 0, none⟩ : Addr).add j) = some u := by rw [← hsa]; exact cell_two_new wa _ _ _
              have N2 := Lib.hid n2
              clear n2
              have hnb : some w1.heap.size ≠ Value.ownBlock u4 := fun e => by have := (hown1.lt _ e.symm).2; omega
              have HBA := Lib.hid hbA
              clear hbA
              have hfA : ∀ (w3 : World) (A3 : Option Addr) (c3 : Nat), w3.ownsRow w.heap.size 48 2 (.slice A3 (fs.length + 1) c3) (fs.length + 1) (cellsF fs ++ [.string ⟨x.toArray⟩, .bool false]) → FldsAt w3 A3 (fs ++ [(x, false)]) := fun _ _ _ h => FldsAt.of_own (by rw [cellsF_snoc, List.length_append]; exact h)
              have HFA := Lib.hid hfA
              clear hfA
              have HA2 : Hid (((fs ++ [(x, false)]).any fun f => decide (2000 < f.1.length)) = (lg || decide (2000 < (x).length))) := Lib.hid (by rw [List.any_append, HL.out]; simp)
              by_cases hl : 2000 < (x).length
              all_goals
                by_cases hend : k + m = s.size
                · have hsp := split_end h8 h0 HR.out HF.out (by omega)
                  have HS := Lib.hid hsp
                  have hend' : ((k : Int) + (m : Int)) = (s.size : Int) := by omega
                  have e1 : (((k : Int) + (m : Int)) == (s.size : Int)) = true := by rw [beq_iff_eq]; exact hend'
                  clear hsp hend hend'
                  by_cases h64 : 64 < fs.length + 1
                  all_goals
                    cases lg
                    all_goals
                      go_wp2_with ((at_builtin; go_loud (refine wpList_append_own _ rfl (.tmp 53) (.tmp 55) 23 rfl w.heap.size 48 i0 (.agg #[.string ⟨#[]⟩, .bool false]) 2 24 Tryd.underlying23 hi hz0 hz1 hz2 rfl (by decide) _ fs.length _ rfl (hownA.alloc _) ⟨w1.heap.size + 1, 0, none⟩ 1 1 [.string ⟨x.toArray⟩, .bool false] rfl rfl N2.out (by simp [Value.oneCell']) (by unfold maxLen; omega) (by omega) (by simp; omega) ?_; intro v3 w3 hown3 hg3 _; have d0 := hg3.cell (a := ⟨w1.heap.size, 0, none⟩) ((World.cell?_alloc_lt _ _ _ (by simp; omega)).trans c0) hnb; have hb3 := (HBA.out.alloc (by omega) (.cells #[.string ⟨x.toArray⟩, .bool false] 48)).grown hg3 (by simp; omega) (fun g hg => (hownA.lt g hg).1); have HB3 := Lib.hid hb3; obtain ⟨A3, c3, rfl⟩ := own_slice hown3; have HO3 := Lib.hid hown3; clear hg3 hb3 hown3)))
                      go_ret2
                      first
                        | exact Pl.splitG w _ none 0 (by rw [HS.out, tooL_t HA2.out (by first | exact .inl h64 | exact .inr (.inl rfl) | exact .inr (.inr hl))]; rfl) (.inl rfl) HB3.out _ rfl
                        | exact Pl.splitG w _ _ _ (by rw [HS.out, tooL_f HA2.out h64 rfl hl]; rfl) (HFA.out _ _ _ HO3.out) HB3.out _ (by rw [List.length_append]; rfl)
                · have hlt : k + m < s.size := by omega
                  try (exfalso; omega)
                  all_goals
                    have e1 : (((k : Int) + (m : Int)) == (s.size : Int)) = false := by rw [beq_eq_false_iff_ne]; omega
                    by_cases hc : s[k + m] = 32
                    · have HS := Lib.hid (split_step HR.out HF.out hlt hc)
                      have e2 : ((s[k + m].toNat : Int) == 32) = true := Pl.num_eq _ 32 hc
                      have e3 : ((s[k + m].toNat : Int) != 32) = false := Pl.num_nbne _ 32 hc
                      clear hc hend
                      cases lg
                      all_goals
                        go_wp2_with ((at_builtin; go_loud (refine wpList_append_own _ rfl (.tmp 53) (.tmp 55) 23 rfl w.heap.size 48 i0 (.agg #[.string ⟨#[]⟩, .bool false]) 2 24 Tryd.underlying23 hi hz0 hz1 hz2 rfl (by decide) _ fs.length _ rfl (hownA.alloc _) ⟨w1.heap.size + 1, 0, none⟩ 1 1 [.string ⟨x.toArray⟩, .bool false] rfl rfl N2.out (by simp [Value.oneCell']) (by unfold maxLen; omega) (by omega) (by simp; omega) ?_; intro v3 w3 hown3 hg3 _; have d0 := hg3.cell (a := ⟨w1.heap.size, 0, none⟩) ((World.cell?_alloc_lt _ _ _ (by simp; omega)).trans c0) hnb; have hb3 := (HBA.out.alloc (by omega) (.cells #[.string ⟨x.toArray⟩, .bool false] 48)).grown hg3 (by simp; omega) (fun g hg => (hownA.lt g hg).1); have HB3 := Lib.hid hb3; obtain ⟨A3, c3, rfl⟩ := own_slice hown3; have HO3 := Lib.hid hown3; clear hg3 hb3 hown3)))
                        go_roundw
                        case rel => exact ⟨k + m + 1, fs ++ [(x, false)], by omega, by go_num, by rw [HA2.out]; first | (simp [hl]; done) | (simp [hl]; omega), by rw [List.length_append]; simp; omega, by rw [cellsF_snoc, List.length_append]; exact HO3.out, HB3.out, HS⟩
                        case measure => simp [intOf]; omega
                    · have HS := Lib.hid (split_bad h8 h0 HR.out HF.out hlt hc)
                      have e2 : ((s[k + m].toNat : Int) == 32) = false := Pl.num_ne _ 32 hc
                      have e3 : ((s[k + m].toNat : Int) != 32) = true := Pl.num_bne _ 32 hc
                      clear hc hend
                      cases lg
                      all_goals
                        go_wp2_with ((at_builtin; go_loud (refine wpList_append_own _ rfl (.tmp 53) (.tmp 55) 23 rfl w.heap.size 48 i0 (.agg #[.string ⟨#[]⟩, .bool false]) 2 24 Tryd.underlying23 hi hz0 hz1 hz2 rfl (by decide) _ fs.length _ rfl (hownA.alloc _) ⟨w1.heap.size + 1, 0, none⟩ 1 1 [.string ⟨x.toArray⟩, .bool false] rfl rfl N2.out (by simp [Value.oneCell']) (by unfold maxLen; omega) (by omega) (by simp; omega) ?_; intro v3 w3 hown3 hg3 _; have d0 := hg3.cell (a := ⟨w1.heap.size, 0, none⟩) ((World.cell?_alloc_lt _ _ _ (by simp; omega)).trans c0) hnb; have hb3 := (HBA.out.alloc (by omega) (.cells #[.string ⟨x.toArray⟩, .bool false] 48)).grown hg3 (by simp; omega) (fun g hg => (hownA.lt g hg).1); have HB3 := Lib.hid hb3; obtain ⟨A3, c3, rfl⟩ := own_slice hown3; have HO3 := Lib.hid hown3; clear hg3 hb3 hown3)))
                        go_ret2
                        exact Pl.splitG w _ none 0 HS.out (.inl rfl) HB3.out _ rfl
    · have HF : Hid (Pl.rfld ((Pl.L s).drop k) = some ((t, true), n)) := Lib.hid (rfld_q HT.out HN.out hn0)
      have z0 : ((n : Int) == 0) = false := by rw [beq_eq_false_iff_ne]; omega
      have z1 : ((n : Int) != 0) = true := by rw [bne_iff_ne]; omega
      have hownA := hown1.alloc (.cells #[.string ⟨t.toArray⟩, .bool true] 48)
      have hbA := HB1.out.alloc (by omega) (.cells #[.string ⟨t.toArray⟩, .bool true] 48)
      have c0 := cell_of_row (w1.alloc (.cells #[.string ⟨t.toArray⟩, .bool true] 48)) w1.heap.size 0 _ _ _ (heap_alloc_new w1 _)
      have c1 := cell_of_row (w1.alloc (.cells #[.string ⟨t.toArray⟩, .bool true] 48)) w1.heap.size 1 _ _ _ (heap_alloc_new w1 _)
      have hsa : (w1.alloc (.cells #[.string ⟨t.toArray⟩, .bool true] 48)).heap.size = w1.heap.size + 1 := by simp
      obtain ⟨wa, hwa⟩ : ∃ wa, w1.alloc (.cells #[.string ⟨t.toArray⟩, .bool true] 48) = wa := ⟨_, rfl⟩
      rw [hwa] at hownA hbA c0 c1 hsa
      replace c0 : wa.cell? ⟨w1.heap.size, 0, none⟩ = some (.string ⟨t.toArray⟩) := c0
      replace c1 : wa.cell? ⟨w1.heap.size, 1, none⟩ = some (.bool true) := c1
      have n2 : ∀ (j : Nat) (u : Value), [Value.string ⟨t.toArray⟩, Value.bool true][j]? = some u → (wa.alloc (.cells #[.string ⟨t.toArray⟩, .bool true] 48)).cell? ((⟨w1.heap.size + 1, 0, none⟩ : Addr).add j) = some u := by rw [← hsa]; exact cell_two_new wa _ _ _
      have N2 := Lib.hid n2
      clear n2
      have hnb : some w1.heap.size ≠ Value.ownBlock u4 := fun e => by have := (hown1.lt _ e.symm).2; omega
      have HBA := Lib.hid hbA
      clear hbA
      clear hn0
      have hfA : ∀ (w3 : World) (A3 : Option Addr) (c3 : Nat), w3.ownsRow w.heap.size 48 2 (.slice A3 (fs.length + 1) c3) (fs.length + 1) (cellsF fs ++ [.string ⟨t.toArray⟩, .bool true]) → FldsAt w3 A3 (fs ++ [(t, true)]) := fun _ _ _ h => FldsAt.of_own (by rw [cellsF_snoc, List.length_append]; exact h)
      have HFA := Lib.hid hfA
      clear hfA
      have HA2 : Hid (((fs ++ [(t, true)]).any fun f => decide (2000 < f.1.length)) = (lg || decide (2000 < (t).length))) := Lib.hid (by rw [List.any_append, HL.out]; simp)
      by_cases hl : 2000 < (t).length
      all_goals
        by_cases hend : k + n = s.size
        · have hsp := split_end h8 h0 HR.out HF.out (by omega)
          have HS := Lib.hid hsp
          have hend' : ((k : Int) + (n : Int)) = (s.size : Int) := by omega
          have e1 : (((k : Int) + (n : Int)) == (s.size : Int)) = true := by rw [beq_iff_eq]; exact hend'
          clear hsp hend hend'
          by_cases h64 : 64 < fs.length + 1
          all_goals
            cases lg
            all_goals
              go_wp2_with ((at_builtin; go_loud (refine wpList_append_own _ rfl (.tmp 53) (.tmp 55) 23 rfl w.heap.size 48 i0 (.agg #[.string ⟨#[]⟩, .bool false]) 2 24 Tryd.underlying23 hi hz0 hz1 hz2 rfl (by decide) _ fs.length _ rfl (hownA.alloc _) ⟨w1.heap.size + 1, 0, none⟩ 1 1 [.string ⟨t.toArray⟩, .bool true] rfl rfl N2.out (by simp [Value.oneCell']) (by unfold maxLen; omega) (by omega) (by simp; omega) ?_; intro v3 w3 hown3 hg3 _; have d0 := hg3.cell (a := ⟨w1.heap.size, 0, none⟩) ((World.cell?_alloc_lt _ _ _ (by simp; omega)).trans c0) hnb; have hb3 := (HBA.out.alloc (by omega) (.cells #[.string ⟨t.toArray⟩, .bool true] 48)).grown hg3 (by simp; omega) (fun g hg => (hownA.lt g hg).1); have HB3 := Lib.hid hb3; obtain ⟨A3, c3, rfl⟩ := own_slice hown3; have HO3 := Lib.hid hown3; clear hg3 hb3 hown3)))
              go_ret2
              first
                | exact Pl.splitG w _ none 0 (by rw [HS.out, tooL_t HA2.out (by first | exact .inl h64 | exact .inr (.inl rfl) | exact .inr (.inr hl))]; rfl) (.inl rfl) HB3.out _ rfl
                | exact Pl.splitG w _ _ _ (by rw [HS.out, tooL_f HA2.out h64 rfl hl]; rfl) (HFA.out _ _ _ HO3.out) HB3.out _ (by rw [List.length_append]; rfl)
        · have hlt : k + n < s.size := by omega
          try (exfalso; omega)
          all_goals
            have e1 : (((k : Int) + (n : Int)) == (s.size : Int)) = false := by rw [beq_eq_false_iff_ne]; omega
            by_cases hc : s[k + n] = 32
            · have HS := Lib.hid (split_step HR.out HF.out hlt hc)
              have e2 : ((s[k + n].toNat : Int) == 32) = true := Pl.num_eq _ 32 hc
              have e3 : ((s[k + n].toNat : Int) != 32) = false := Pl.num_nbne _ 32 hc
              clear hc hend
              cases lg
              all_goals
                go_wp2_with ((at_builtin; go_loud (refine wpList_append_own _ rfl (.tmp 53) (.tmp 55) 23 rfl w.heap.size 48 i0 (.agg #[.string ⟨#[]⟩, .bool false]) 2 24 Tryd.underlying23 hi hz0 hz1 hz2 rfl (by decide) _ fs.length _ rfl (hownA.alloc _) ⟨w1.heap.size + 1, 0, none⟩ 1 1 [.string ⟨t.toArray⟩, .bool true] rfl rfl N2.out (by simp [Value.oneCell']) (by unfold maxLen; omega) (by omega) (by simp; omega) ?_; intro v3 w3 hown3 hg3 _; have d0 := hg3.cell (a := ⟨w1.heap.size, 0, none⟩) ((World.cell?_alloc_lt _ _ _ (by simp; omega)).trans c0) hnb; have hb3 := (HBA.out.alloc (by omega) (.cells #[.string ⟨t.toArray⟩, .bool true] 48)).grown hg3 (by simp; omega) (fun g hg => (hownA.lt g hg).1); have HB3 := Lib.hid hb3; obtain ⟨A3, c3, rfl⟩ := own_slice hown3; have HO3 := Lib.hid hown3; clear hg3 hb3 hown3)))
                go_roundw
                case rel => exact ⟨k + n + 1, fs ++ [(t, true)], by omega, by go_num, by rw [HA2.out]; first | (simp [hl]; done) | (simp [hl]; omega), by rw [List.length_append]; simp; omega, by rw [cellsF_snoc, List.length_append]; exact HO3.out, HB3.out, HS⟩
                case measure => simp [intOf]; omega
            · have HS := Lib.hid (split_bad h8 h0 HR.out HF.out hlt hc)
              have e2 : ((s[k + n].toNat : Int) == 32) = false := Pl.num_ne _ 32 hc
              have e3 : ((s[k + n].toNat : Int) != 32) = true := Pl.num_bne _ 32 hc
              clear hc hend
              cases lg
              all_goals
                go_wp2_with ((at_builtin; go_loud (refine wpList_append_own _ rfl (.tmp 53) (.tmp 55) 23 rfl w.heap.size 48 i0 (.agg #[.string ⟨#[]⟩, .bool false]) 2 24 Tryd.underlying23 hi hz0 hz1 hz2 rfl (by decide) _ fs.length _ rfl (hownA.alloc _) ⟨w1.heap.size + 1, 0, none⟩ 1 1 [.string ⟨t.toArray⟩, .bool true] rfl rfl N2.out (by simp [Value.oneCell']) (by unfold maxLen; omega) (by omega) (by simp; omega) ?_; intro v3 w3 hown3 hg3 _; have d0 := hg3.cell (a := ⟨w1.heap.size, 0, none⟩) ((World.cell?_alloc_lt _ _ _ (by simp; omega)).trans c0) hnb; have hb3 := (HBA.out.alloc (by omega) (.cells #[.string ⟨t.toArray⟩, .bool true] 48)).grown hg3 (by simp; omega) (fun g hg => (hownA.lt g hg).1); have HB3 := Lib.hid hb3; obtain ⟨A3, c3, rfl⟩ := own_slice hown3; have HO3 := Lib.hid hown3; clear hg3 hb3 hown3)))
                go_ret2
                exact Pl.splitG w _ none 0 HS.out (.inl rfl) HB3.out _ rfl
end Go.Proofs.YthifbihmogjjpaaDoor
