/-
  Contracts of the reference's Lines, and of 'lines'.
-/
import Derived.Test.YthifbihmogjjpaaDoorXr
namespace Go.Proofs.YthifbihmogjjpaaDoor
open Go.ChangeShapes Go.WideShapes Go.ChangeAt Go.RowKit Go.Proofs

theorem infoSt : (Tryd.prog.info? 9).map (fun i => (i.zero, i.size, i.bytes)) = some (some (.string ⟨#[]⟩), 1, 16) := by kernel_rfl
theorem cell_one_str (w : World) (v : Value) : ∀ (j : Nat) (u : Value), [v][j]? = some u → (w.alloc (.cells #[v] 9)).cell? ((⟨w.heap.size, 0, none⟩ : Addr).add j) = some u :=
  World.news_of_block (cs := #[v]) (t := 9) (fr := (0, 0)) (heap_alloc_new w _)
theorem ext_mk' (s : ByteArray) (a b : Nat) (h : a ≤ b) : s.extract a b = ⟨(((Pl.L s).drop a).take (b - a)).toArray⟩ := by
  have e : (s.extract a b).data.toList = ((Pl.L s).drop a).take (b - a) := by rw [Lib.extract_data]; rfl
  rw [← e]

set_option maxRecDepth 100000 in
set_option maxHeartbeats 2000000 in
theorem rLines_any (s : ByteArray) (w : World) (hs : s.size ≤ 4000000000) :
    Calls Tryd.prog 28 #[.string s] w (LinesOut (Pl.lns (Pl.L s)) w) := by
  by_cases hlong : 1048576 < s.size
  · have H := Lib.hid (Pl.lns_long (l := Pl.L s) (by rw [Pl.L_length]; exact hlong))
    go_enter Tryd.func28, Tryd.ntmps28
    go_wp2_with fail
    go_ret2
    exact linesG w w none 0 H.out (.inl rfl) (Below.refl _ _) _ rfl
  by_cases h0 : s.size = 0
  · obtain rfl : s = ⟨#[]⟩ := by
      obtain ⟨d⟩ := s
      have : d = #[] := Array.size_eq_zero_iff.1 h0
      rw [this]
    go_enter Tryd.func28, Tryd.ntmps28
    go_wp2_with fail
    go_ret2
    exact linesG w w none 0 Pl.lns_nil (.inl rfl) (Below.refl _ _) _ rfl
  have t1 := str_ne (s := s) (by omega)
  have t2 : (s.toList == []) = false := by simpa using t1
  have hl0 : Pl.L s ≠ [] := fun e => h0 (by rw [← Pl.L_length, e]; rfl)
  have hpos : 0 < s.size := by omega
  have hlast' : (Pl.L s).getLast? = some s[s.size - 1] := by
    rw [List.getLast?_eq_getElem?, Pl.L_length, List.getElem?_eq_getElem (by rw [Pl.L_length]; omega)]; rfl
  by_cases hc : s[s.size - 1] = 10
  · obtain ⟨b, hb⟩ := Pl.last_split (hlast'.trans (by rw [hc]))
    have HBB := Lib.hid hb
    have HL : Hid (Pl.lns (Pl.L s) = if 5000 < (Pl.segs 10 b).length then (3, []) else (0, Pl.segs 10 b)) := Lib.hid (by
      have hn : ¬ 1048576 < (b ++ [10]).length := by
        have := congrArg List.length hb
        rw [Pl.L_length] at this
        omega
      rw [hb]
      split
      · rename_i h; exact Pl.lns_many hn h
      · rename_i h; exact Pl.lns_ok hn h)
    have x1 : ((s[s.size - 1].toNat : Int) == 10) = true := Pl.num_eq _ 10 hc
    have x2 : ((s[s.size - 1].toNat : Int) != 10) = false := Pl.num_nbne _ 10 hc
    have x3 : IntKind.i64.wrap ((s.size : Int) - 1) = ((s.size - 1 : Nat) : Int) := by
      rw [show ((s.size : Int) - 1) = ((s.size - 1 : Nat) : Int) by omega]
      exact IntWalk.i64_in _ (by omega)
    clear hb hlast' hc hl0
    obtain ⟨i0, hi, hz0, hz1, hz2⟩ := info_parts infoSt
    go_enter Tryd.func28, Tryd.ntmps28
    go_wp2_with fail
    go_loopw [4, 5, 6] (fun v f i wr => ∃ (a k : Nat) (d : List (List UInt8)), k ≤ s.size ∧ f = .int .i64 a ∧ i = .int .i64 k ∧ a ≤ k ∧ d.length ≤ k ∧ wr.ownsRow w.heap.size 9 1 v d.length (strV d) ∧ Below w.heap.size w wr ∧ Hid (Pl.SoFar 10 s a k d)) (fun _ _ i _ => s.size - (intOf i).toNat)
    case atStart => exact ⟨0, 0, [], Nat.zero_le _, rfl, rfl, Nat.le_refl _, Nat.le_refl _, World.ownsRow_nil _ _ _ _, Below.refl _ _, Lib.hid (Pl.SoFar.start 10 s)⟩
    case round =>
      obtain ⟨a, k, d, hk, rfl, rfl, hak, hdk, hown, hb, HS⟩ := hrel
      have hsz := hb.size
      have HB := Lib.hid hb
      clear hb
      by_cases hlt : k < s.size
      · by_cases hc : s[k] = 10
        · have HS2 := Lib.hid (HS.out.cut hlt hc)
          obtain ⟨x, hx⟩ : ∃ x, ((Pl.L s).drop a).take (k - a) = x := ⟨_, rfl⟩
          rw [hx] at HS2
          have hext : s.extract a k = ⟨x.toArray⟩ := by rw [ext_mk' s a k hak, hx]
          have e2 : ((s[k].toNat : Int) == 10) = true := Pl.num_eq _ 10 hc
          clear hc hx
          have n2 := cell_one_str wr (.string ⟨x.toArray⟩)
          have N2 := Lib.hid n2
          clear n2
          go_wp2_with (at_builtin; go_loud (refine wpList_append_own _ rfl (.tmp 28) (.tmp 33) 54 rfl w.heap.size 9 i0 (.string ⟨#[]⟩) 1 16 Tryd.underlying54 hi hz0 hz1 hz2 rfl (by decide) _ d.length _ rfl (hown.alloc _) ⟨wr.heap.size, 0, none⟩ 1 1 [.string ⟨x.toArray⟩] rfl rfl N2.out (by simp [Value.oneCell']) (by unfold maxLen; omega) (by omega) (by simp; omega) ?_; intro v3 w3 hown3 hg3 _; have hb3 := (HB.out.alloc hsz (.cells #[.string ⟨x.toArray⟩] 9)).grown hg3 (by simp; omega) (fun g hg => (hown.lt g hg).1); have HB3 := Lib.hid hb3; have HO3 := Lib.hid hown3; clear hg3 hb3 hown3))
          go_roundw
          case rel => exact ⟨k + 1, k + 1, d ++ [x], by omega, by go_num, by go_num, Nat.le_refl _, by rw [List.length_append]; simp; omega, by rw [strV_snoc, List.length_append]; exact HO3.out, HB3.out, HS2⟩
          case measure => simp [intOf]; omega
        · have HS2 := Lib.hid (HS.out.pass hlt hc)
          have e2 : ((s[k].toNat : Int) == 10) = false := Pl.num_ne _ 10 hc
          clear hc
          go_wp2_with fail
          go_roundw
          case rel => exact ⟨a, k + 1, d, by omega, rfl, by go_num, by omega, by omega, hown, HB.out, HS2⟩
          case measure => simp [intOf]; omega
      · have HD : Hid (Pl.segs 10 b = d) := Lib.hid (HS.out.lines (by omega) HBB.out)
        have hown2 := hown
        obtain ⟨A3, c3, hv⟩ := own_slice hown2
        subst hv
        have HST := Lib.hid (StrsAt.of_own hown2)
        by_cases h5 : 5000 < d.length
        all_goals
          go_wp2_with fail
          go_ret2
        · exact linesG w _ none 0 (by rw [HL.out, HD.out, if_pos h5]) (.inl rfl) HB.out _ rfl
        · exact linesG w _ _ _ (by rw [HL.out, HD.out, if_neg h5]) HST.out HB.out _ rfl
  · have HL := Lib.hid (Pl.lns_no (l := Pl.L s) (by rw [Pl.L_length]; exact hlong) hl0 (fun e => hc (Option.some.inj (hlast'.symm.trans e))))
    have x1 : ((s[s.size - 1].toNat : Int) == 10) = false := Pl.num_ne _ 10 hc
    have x2 : ((s[s.size - 1].toNat : Int) != 10) = true := Pl.num_bne _ 10 hc
    clear hlast' hc hl0
    go_enter Tryd.func28, Tryd.ntmps28
    go_wp2_with fail
    go_ret2
    exact linesG w w none 0 HL.out (.inl rfl) (Below.refl _ _) _ rfl

set_option maxRecDepth 100000 in
set_option maxHeartbeats 1000000 in
theorem lines_any (s : ByteArray) (w : World) (he : Env w) (h4 : C4 w) (hs : s.size ≤ 4000000000) :
    Calls Tryd.prog 12 #[.string s] w fun e w' => e = .returned (.bool true) ∧ Below w.heap.size w w' := by
  have hfew := Pl.lns_few (Pl.L s)
  have K1 := fun w he h4 => Lines_any s w he h4 hs
  have K2 := fun w => rLines_any s w hs
  obtain ⟨⟨ev, ts⟩, hj⟩ : ∃ y, Pl.lns (Pl.L s) = y := ⟨_, rfl⟩
  rw [hj] at K1 K2 hfew
  replace hfew : ts.length ≤ 5000 := hfew
  unfold LinesOut at K1 K2
  have J1 := Lib.hid K1
  have J2 := Lib.hid K2
  have HE := Lib.hid he
  have H4 := Lib.hid h4
  have z1 : (ev != ev) = false := by simp
  clear K1 K2 hj he h4
  go_enter Tryd.func12, Tryd.ntmps12
  go_wp2_with fail
  refine (J1.out _ HE.out H4.out).mono ?_
  rintro e w1 ⟨A, c, rfl, hf, hb1⟩
  have HB := Lib.hid hb1
  have HF := Lib.hid hf
  clear hb1 hf
  go_wp2_with fail
  refine (J2.out _).mono ?_
  rintro e w2 ⟨B, d, rfl, hg, hb1⟩
  have HB := Lib.hid (below_of HB.out hb1 (Nat.le_refl _))
  have HF := Lib.hid (HF.out.below hb1 (Nat.le_refl _))
  have HG := Lib.hid hg
  clear hb1 hg
  have hsz := HB.out.size
  go_wp2_with fail
  go_loopw [7] (fun i wr => ∃ k : Nat, k ≤ ts.length ∧ i = .int .i64 k ∧ Below w2.heap.size w2 wr) (fun i _ => ts.length - (intOf i).toNat)
  case atStart => exact ⟨0, Nat.zero_le _, rfl, Below.refl _ _⟩
  case round =>
    obtain ⟨k, hk, rfl, hb⟩ := hrel
    have HBR := Lib.hid hb
    have hsr := hb.size
    have hf := HF.out.below hb (Nat.le_refl _)
    have hg := HG.out.below hb (Nat.le_refl _)
    clear hb
    by_cases hlt : k < ts.length
    · rcases hf with h0 | ⟨b, off, rfl, hbl, hc⟩
      · subst h0; simp at hlt
      rcases hg with h0 | ⟨b', off', rfl, hbl', hc'⟩
      · subst h0; simp at hlt
      have g0 := hc k hlt
      have g1 := hc' k hlt
      have l1 : (k : Int) < (ts.length : Int) := by omega
      clear hc hc'
      go_wp2_with fail
      go_quiet (fail)
      go_wp2_with fail
      go_roundw
      case rel => exact ⟨k + 1, by omega, by go_num, HBR.out.trans ((below_drewN' _).mono hsr)⟩
      case measure => simp [intOf]; omega
    · go_wp2_with fail
      go_ret
      exact ⟨retB rfl, below_of HB.out HBR.out (Nat.le_refl _)⟩
end Go.Proofs.YthifbihmogjjpaaDoor
