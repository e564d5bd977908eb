/-
  The walk of WordsLines.
-/
import Derived.Test.YthifbihmogjjpaaDoorXs
import Derived.Laws.OwnMore
import Derived.Laws.MakeOwn
namespace Go.Proofs.YthifbihmogjjpaaDoor
open Go.ChangeShapes Go.WideShapes Go.ChangeAt Go.RowKit Go.Proofs

theorem own_frozen {w : World} {base : Nat} {e : TypeId} {g n cap : Nat} {xs : List Value} (h : w.ownsRow base e 1 (.slice (some ⟨g, 0, none⟩) n cap) n xs) (j : Nat) : w.frozen? ⟨g, j, none⟩ = false := by
  rcases h.2 with ⟨h', _⟩ | ⟨g', cap', cur, h', hb, hg, _⟩
  · simp at h'
  · simp only [Value.slice.injEq, Option.some.injEq, Addr.mk.injEq, and_true, true_and] at h'
    obtain ⟨rfl, rfl⟩ := h'
    simp [World.frozen?, hg]
theorem own_cell {w : World} {base : Nat} {e : TypeId} {g n cap : Nat} {xs : List Value} (h : w.ownsRow base e 1 (.slice (some ⟨g, 0, none⟩) n cap) n xs) {j : Nat} {u : Value} (hj : xs[j]? = some u) : w.cell? ⟨g, j, none⟩ = some u := by
  have := h.cells (g := g) rfl j u hj
  have hadd : (⟨g, 0, none⟩ : Addr).add j = ⟨g, j, none⟩ := by unfold Addr.add; split <;> simp_all
  rwa [hadd] at this
theorem make_own (n : Nat) (w : World) (hn : n ≤ 16777216) :
    ∃ (w' : World) (xs : List Value), (Instr.makeSlice 29 (.int .i64 (n : Int)) (.int .i64 (n : Int))).run Tryd.prog w = .ok (.slice (some ⟨w.heap.size, 0, none⟩) n n) w' ∧
      w'.ownsRow w.heap.size 5 1 (.slice (some ⟨w.heap.size, 0, none⟩) n n) n xs ∧ w.grownBy w' none := by
  obtain ⟨i0, hi, hz0, hz1, hz2⟩ := info_parts infoB
  obtain ⟨w', h1, h2, h3⟩ := run_makeSlice_full w w.heap.size 29 5 i0 _ 1 Tryd.underlying29 hi hz0 hz1 .i64 .i64 n (by omega) (by rw [hz2]; omega) (by unfold maxLen; omega) (Nat.le_refl _)
  exact ⟨w', _, h1, h2, h3⟩
theorem take_set {xs : List Value} {k : Nat} {u : Value} {bs : List UInt8} {c : UInt8} (hk : k < xs.length) (h : xs.take k = bs.map B8) (hu : u = B8 c) : (xs.set k u).take (k + 1) = (bs ++ [c]).map B8 := by
  rw [List.take_succ_eq_append_getElem (by simpa using hk), List.take_set_of_le (Nat.le_refl _), h]
  simp [hu]
theorem own_len {w : World} {base : Nat} {e : TypeId} {v : Value} {n : Nat} {xs : List Value} (h : w.ownsRow base e 1 v n xs) : xs.length = n := by
  have := h.1; simpa using this

theorem wlines_far (s t : ByteArray) (lg : Bool) (w : World) (he : Env w) (hs : s.size ≤ 9223372036854775807) (ht : t.size ≤ 9223372036854775807) (hf : 12000 < s.size ∨ 100 < t.size) :
    Calls Tryd.prog 4 #[.string s, .string t, .bool lg] w fun e w' => e = .returned (.bool true) ∧ Below w.heap.size w w' := by
  have HE := Lib.hid he
  clear he
  by_cases h1 : 12000 < s.size
  all_goals
    (try have h2 : 100 < t.size := by omega)
    clear hf
    go_enter Tryd.func4, Tryd.ntmps4
    go_wp2_with fail
    refine (shown_any _ HE.out).mono ?_
    rintro e w9 ⟨rfl, hb⟩
    have HB := Lib.hid hb
    clear hb
    go_wp2_with fail
    go_ret
    exact ⟨by simp [Array.getD], HB.out⟩

set_option maxRecDepth 100000 in
set_option maxHeartbeats 2000000 in
theorem wlines_false (s t : ByteArray) (w : World) (he : Env w) (h4 : C4 w) (hs : s.size ≤ 12000) (ht : t.size ≤ 100) :
    Calls Tryd.prog 4 #[.string s, .string t, .bool false] w fun e w' => e = .returned (.bool true) ∧ Below w.heap.size w w' := by
  obtain ⟨wa, xa, hma, hoa, hga⟩ := make_own 5000 w (by omega)
  replace hma : (Instr.makeSlice 29 (.int .i64 5000) (.int .i64 5000)).run Tryd.prog w = .ok (.slice (some ⟨w.heap.size, 0, none⟩) 5000 5000) wa := hma
  have hba : Below w.heap.size w wa := (Below.refl _ _).grown hga (Nat.le_refl _) (fun k hk => by cases hk)
  have HB0 := Lib.hid hba
  have HO0 := Lib.hid hoa
  have hgs := Nat.le_refl w.heap.size
  clear hoa hga hba
  have HE := Lib.hid he
  have HE0 := Lib.hid he
  have H4 := Lib.hid h4
  clear he h4
  go_enter Tryd.func4, Tryd.ntmps4
  go_wp2_with fail
  go_loopw [8] (fun i wr => ∃ (k : Nat) (xs : List Value) (bs : List UInt8), k ≤ 5000 ∧ i = .int .i64 k ∧ bs.length = k ∧ Hid (xs.take k = bs.map B8) ∧ wr.ownsRow w.heap.size 5 1 (.slice (some ⟨w.heap.size, 0, none⟩) 5000 5000) 5000 xs ∧ Below w.heap.size w wr) (fun i _ => 5000 - (intOf i).toNat)
  case atStart => exact ⟨0, xa, [], Nat.zero_le _, rfl, rfl, Lib.hid rfl, HO0.out, HB0.out⟩
  case round =>
    obtain ⟨k, xs, bs, hk, rfl, hbl, HT, hown, hb⟩ := hrel
    have hxl := own_len hown
    have HB := Lib.hid hb
    clear hb
    by_cases hlt : k < 5000
    · obtain ⟨u, hu⟩ : ∃ u, xs[k]? = some u := ⟨xs[k]'(by omega), List.getElem?_eq_getElem (by omega)⟩
      have c0 := own_cell hown hu
      have f0 := own_frozen hown k
      have l1 : (k : Int) < 5000 := by omega
      go_wp2_with fail
      have hs2 := (hown.stored k (.int .u8 10))
      go_roundw
      case rel => exact ⟨k + 1, xs.set k (.int .u8 10), bs ++ [10], by omega, by go_num, by rw [List.length_append, hbl]; rfl, Lib.hid (take_set (by omega) HT.out rfl), hs2.1, HB.out.grown hs2.2 (by have := HB.out.size; omega) (fun r hr => by cases hr; exact hgs)⟩
      case measure => simp [intOf]; omega
    · have hkn : k = 5000 := by omega
      have hxs : xs = bs.map B8 := by have h := HT.out; rwa [List.take_of_length_le (by omega)] at h
      have hown2 : wr.ownsRow w.heap.size 5 1 (.slice (some ⟨w.heap.size, 0, none⟩) 5000 5000) 5000 (bs.map B8) := by rw [← hxs]; exact hown
      have hbl2 : bs.length = 5000 := by omega
      have HO := Lib.hid hown2
      have HE := Lib.hid (HE.out.below HB.out)
      have H4 := Lib.hid (H4.out.below HE0.out HB.out)
      have hlt2 : ¬ (k : Int) < 5000 := by omega
      clear hxs hown2 hown hkn hbl hlt hk HT
      have hcat : ((⟨bs.toArray⟩ : ByteArray) ++ t).size ≤ 4000000000 := by rw [ByteArray.size_append, size_mk]; omega
      have hov : ¬ 9223372036854775807 < bs.length + t.size := by omega
      have hov2 : ¬ 9223372036854775807 < (⟨bs.toArray⟩ : ByteArray).size + t.size := by rw [size_mk]; omega
      have HC := Lib.hid hcat
      clear hcat hbl2 hxl
      go_wp2_with fail
      refine (lines_any s _ HE.out H4.out (by omega)).mono ?_
      rintro e w1 ⟨rfl, hb⟩
      have HB := Lib.hid (below_of HB.out hb (Nat.le_refl _))
      have H4 := Lib.hid (H4.out.below HE.out hb)
      have HE := Lib.hid (HE.out.below hb)
      have hcv := conv_own (own_below HO.out hb)
      clear hb
      go_wp2_with fail
      refine (lines_any _ _ HE.out H4.out HC.out).mono ?_
      rintro e w2 ⟨rfl, hb⟩
      have HB := Lib.hid (below_of HB.out hb (Nat.le_refl _))
      have HE := Lib.hid (HE.out.below hb)
      clear hb hcv
      go_wp2_with fail
      refine (shown_any _ HE.out).mono ?_
      rintro e w9 ⟨rfl, hb⟩
      have HB := Lib.hid (below_of HB.out hb (Nat.le_refl _))
      clear hb
      go_wp2_with fail
      go_ret
      exact ⟨by simp [Array.getD], HB.out⟩

set_option maxRecDepth 100000 in
set_option maxHeartbeats 2000000 in
theorem wlines_true (s t : ByteArray) (w : World) (he : Env w) (h4 : C4 w) (hs : s.size ≤ 12000) (ht : t.size ≤ 100) :
    Calls Tryd.prog 4 #[.string s, .string t, .bool true] w fun e w' => e = .returned (.bool true) ∧ Below w.heap.size w w' := by
  obtain ⟨wa, xa, hma, hoa, hga⟩ := make_own 5000 w (by omega)
  replace hma : (Instr.makeSlice 29 (.int .i64 5000) (.int .i64 5000)).run Tryd.prog w = .ok (.slice (some ⟨w.heap.size, 0, none⟩) 5000 5000) wa := hma
  have hba : Below w.heap.size w wa := (Below.refl _ _).grown hga (Nat.le_refl _) (fun k hk => by cases hk)
  obtain ⟨wb, xb, hmb, hob, hgb⟩ := make_own 1048556 wa (by omega)
  replace hmb : (Instr.makeSlice 29 (.int .i64 1048556) (.int .i64 1048556)).run Tryd.prog wa = .ok (.slice (some ⟨wa.heap.size, 0, none⟩) 1048556 1048556) wb := hmb
  have hbb : Below wa.heap.size wa wb := (Below.refl _ _).grown hgb (Nat.le_refl _) (fun k hk => by cases hk)
  have HB0 := Lib.hid (below_of hba hbb (Nat.le_refl _))
  have HO0 := Lib.hid hob
  have hgs := hba.size
  clear hoa hga hba hob hgb hbb
  have HE := Lib.hid he
  have HE0 := Lib.hid he
  have H4 := Lib.hid h4
  clear he h4
  go_enter Tryd.func4, Tryd.ntmps4
  go_wp2_with fail
  obtain ⟨g, hg⟩ : ∃ g, wa.heap.size = g := ⟨_, rfl⟩
  rw [hg] at HO0 hgs
  have HG := Lib.hid hg
  go_loopw [8] (fun i wr => ∃ (k : Nat) (xs : List Value) (bs : List UInt8), k ≤ 1048556 ∧ i = .int .i64 k ∧ bs.length = k ∧ Hid (xs.take k = bs.map B8) ∧ wr.ownsRow g 5 1 (.slice (some ⟨g, 0, none⟩) 1048556 1048556) 1048556 xs ∧ Below w.heap.size w wr) (fun i _ => 1048556 - (intOf i).toNat)
  case atStart => exact ⟨0, xb, [], Nat.zero_le _, rfl, rfl, Lib.hid rfl, HO0.out, HB0.out⟩
  case round =>
    obtain ⟨k, xs, bs, hk, rfl, hbl, HT, hown, hb⟩ := hrel
    rw [hg]
    have hxl := own_len hown
    have HB := Lib.hid hb
    clear hb
    by_cases hlt : k < 1048556
    · obtain ⟨u, hu⟩ : ∃ u, xs[k]? = some u := ⟨xs[k]'(by omega), List.getElem?_eq_getElem (by omega)⟩
      have c0 := own_cell hown hu
      have f0 := own_frozen hown k
      have l1 : (k : Int) < 1048556 := by omega
      by_cases hr : k % 1000 = 0
      · have r1 : ((k : Int) % 1000 == 0) = true := by rw [beq_iff_eq]; omega
        have r2 : ((k : Int) % 1000 != 0) = false := by rw [bne_eq_false_iff_eq]; omega
        clear hr
        go_wp2_with fail
        have hs2 := (hown.stored k (.int .u8 10))
        go_roundw
        case rel => exact ⟨k + 1, xs.set k (.int .u8 10), bs ++ [10], by omega, by go_num, by rw [List.length_append, hbl]; rfl, Lib.hid (take_set (by omega) HT.out rfl), hs2.1, HB.out.grown hs2.2 (by have := HB.out.size; omega) (fun r hr => by cases hr; exact hgs)⟩
        case measure => simp [intOf]; omega
      · have r1 : ((k : Int) % 1000 == 0) = false := by rw [beq_eq_false_iff_ne]; omega
        have r2 : ((k : Int) % 1000 != 0) = true := by rw [bne_iff_ne]; omega
        clear hr
        have hs1 := (hown.stored k (.int .u8 10))
        have c1 := own_cell hs1.1 (j := k) (u := .int .u8 10) (by rw [List.getElem?_set_self (by omega)])
        have f1 := own_frozen hs1.1 k
        go_wp2_with fail
        have hs2 := (hs1.1.stored k (.int .u8 120))
        go_roundw
        case rel => exact ⟨k + 1, (xs.set k (.int .u8 10)).set k (.int .u8 120), bs ++ [120], by omega, by go_num, by rw [List.length_append, hbl]; rfl, Lib.hid (by rw [List.set_set]; exact take_set (by omega) HT.out rfl), hs2.1, (HB.out.grown hs1.2 (by have := HB.out.size; omega) (fun r hr => by cases hr; exact hgs)).grown hs2.2 (by have := HB.out.size; simp; omega) (fun r hr => by cases hr; exact hgs)⟩
        case measure => simp [intOf]; omega
    · have hkn : k = 1048556 := by omega
      have hxs : xs = bs.map B8 := by have h := HT.out; rwa [List.take_of_length_le (by omega)] at h
      have hown2 : wr.ownsRow g 5 1 (.slice (some ⟨g, 0, none⟩) 1048556 1048556) 1048556 (bs.map B8) := by rw [← hxs]; exact hown
      have hbl2 : bs.length = 1048556 := by omega
      have HO := Lib.hid hown2
      have HE := Lib.hid (HE.out.below HB.out)
      have H4 := Lib.hid (H4.out.below HE0.out HB.out)
      have hlt2 : ¬ (k : Int) < 1048556 := by omega
      clear hxs hown2 hown hkn hbl hlt hk HT
      have hcat : ((⟨bs.toArray⟩ : ByteArray) ++ t).size ≤ 4000000000 := by rw [ByteArray.size_append, size_mk]; omega
      have hov : ¬ 9223372036854775807 < bs.length + t.size := by omega
      have hov2 : ¬ 9223372036854775807 < (⟨bs.toArray⟩ : ByteArray).size + t.size := by rw [size_mk]; omega
      have HC := Lib.hid hcat
      clear hcat hbl2 hxl
      go_wp2_with fail
      refine (lines_any s _ HE.out H4.out (by omega)).mono ?_
      rintro e w1 ⟨rfl, hb⟩
      have HB := Lib.hid (below_of HB.out hb (Nat.le_refl _))
      have H4 := Lib.hid (H4.out.below HE.out hb)
      have HE := Lib.hid (HE.out.below hb)
      have hcv := conv_own (own_below HO.out hb)
      clear hb
      go_wp2_with fail
      refine (lines_any _ _ HE.out H4.out HC.out).mono ?_
      rintro e w2 ⟨rfl, hb⟩
      have HB := Lib.hid (below_of HB.out hb (Nat.le_refl _))
      have HE := Lib.hid (HE.out.below hb)
      clear hb hcv
      go_wp2_with fail
      refine (shown_any _ HE.out).mono ?_
      rintro e w9 ⟨rfl, hb⟩
      have HB := Lib.hid (below_of HB.out hb (Nat.le_refl _))
      clear hb
      go_wp2_with fail
      go_ret
      exact ⟨by simp [Array.getD], HB.out⟩

theorem wlines_any (s t : ByteArray) (lg : Bool) (w : World) (he : Env w) (h4 : C4 w) (hs : s.size ≤ 9223372036854775807) (ht : t.size ≤ 9223372036854775807) :
    Calls Tryd.prog 4 #[.string s, .string t, .bool lg] w fun e w' => e = .returned (.bool true) ∧ Below w.heap.size w w' := by
  by_cases hf : 12000 < s.size ∨ 100 < t.size
  · exact wlines_far s t lg w he hs ht hf
  · cases lg
    · exact wlines_false s t w he h4 (by omega) (by omega)
    · exact wlines_true s t w he h4 (by omega) (by omega)
end Go.Proofs.YthifbihmogjjpaaDoor
