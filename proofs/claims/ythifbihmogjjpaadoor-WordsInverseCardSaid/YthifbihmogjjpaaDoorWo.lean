/-
  Contracts of Int and Digits.
-/
import Derived.Test.YthifbihmogjjpaaDoorWg
import Derived.Test.YthifbihmogjjpaaDoorPh
import Derived.Lib.AtoiErrMem
import Derived.Lib.SmallJoins
import Derived.Lib.AppendIntMem
namespace Go.Proofs.YthifbihmogjjpaaDoor
open Go.ChangeShapes Go.WideShapes Go.ChangeAt Go.RowKit Go.Proofs

/-- the variables of the library that are read -/
def LibAt (w : World) : Prop := (∃ tp p, w.var? Tryd.prog "strconv.ErrRange" = some #[.iface tp p]) ∧ Lib.TabIs Tryd.prog w "internal/strconv.uint64pow10" .u64 Lib.pow10Tab
theorem gRange : Tryd.prog.globalNamed "strconv.ErrRange" = some 2 := by kernel_rfl
theorem gPow : Tryd.prog.globalNamed "internal/strconv.uint64pow10" = some 3 := by kernel_rfl
theorem LibAt.below {B : Nat} {w w' : World} (h : LibAt w) (hb : Below B w w') (hB : 9 ≤ B) : LibAt w' := by
  obtain ⟨⟨tp, p, h1⟩, h2⟩ := h
  exact ⟨⟨tp, p, var?_below hb gRange (by omega) h1⟩, var?_below hb gPow (by omega) h2⟩

theorem ParseInt_ok (s : ByteArray) (w : World) (hs : s.size ≤ 4294967295) (v : Int) (h : Lib.parseIntB 64 s.data.toList = .ok v) :
    Calls Tryd.prog 40 #[.string s, .int .i64 10, .int .i64 64] w fun e w' => e = .returned (.tuple #[.int .i64 v, .nilIface]) ∧ Below w.heap.size w w' :=
  (Tryd.strconv_ParseInt_10_at64_ok s (by omega) v h w).mono fun e w' ⟨h1, h2⟩ => ⟨h1, by
    rcases h2 with rfl | ⟨t, rfl⟩
    · exact Below.refl _ _
    · exact Lib.bytesWorld_below _ _ _⟩
theorem ParseInt_range (s : ByteArray) (w : World) (hl : LibAt w) (hs : s.size ≤ 4294967295) (h : Lib.parseIntB 64 s.data.toList = .range) :
    Calls Tryd.prog 40 #[.string s, .int .i64 10, .int .i64 64] w fun e w' => ∃ N, e = .returned (.tuple #[.int .i64 (Lib.intSat 64 s.data.toList), .iface 112 (.pointer (some ⟨N, 0, none⟩))]) ∧ Below w.heap.size w w' := by
  obtain ⟨⟨tp, p, h1⟩, _⟩ := hl
  exact (Tryd.strconv_ParseInt_10_at64_range_var s (by omega) h tp p w h1).mono fun e w' ⟨N, a, _, _, b⟩ => ⟨N, a, b⟩

theorem Int_any (s : ByteArray) (lo hi : Int) (w : World) (hl : LibAt w) (hs : s.size ≤ 4294967295) (l0 : -9223372036854775808 ≤ lo) (l1 : lo ≤ 9223372036854775807) (h0 : -9223372036854775808 ≤ hi) (h1 : hi ≤ 9223372036854775807) :
    Calls Tryd.prog 20 #[.string s, .int .i64 lo, .int .i64 hi] w fun e w' => e = .returned (.tuple #[.int .i64 (Pl.intE (Pl.L s) lo hi).2, .int .i64 (Pl.intE (Pl.L s) lo hi).1]) ∧ Below w.heap.size w w' := by
  cases hd : Pl.dec (Pl.L s) with
  | false =>
    have H : Hid (Pl.intE (Pl.L s) lo hi = (6, 0)) := Lib.hid (by unfold Pl.intE; rw [hd]; rfl)
    go_enter Tryd.func20, Tryd.ntmps20
    go_wp2_with (go_at_call 39; refine (isDecimal_any _ _ (by omega)).mono ?_; rintro e w' ⟨rfl, rfl⟩)
    go_ret2
    exact ⟨by rw [H.out]; rfl, Below.refl _ _⟩
  | true =>
    have hp := Pl.parse_dec _ hd
    by_cases hr : -9223372036854775808 ≤ Pl.ival (Pl.L s) ∧ Pl.ival (Pl.L s) ≤ 9223372036854775807
    · rw [if_pos hr] at hp
      obtain ⟨r0, r1⟩ := hr
      have HP := Lib.hid hp
      obtain ⟨v, hv⟩ : ∃ v, Pl.ival (Pl.L s) = v := ⟨_, rfl⟩
      rw [hv] at r0 r1
      have HV := Lib.hid hv
      clear hp hv
      by_cases hin : lo ≤ v ∧ v ≤ hi
      · have H : Hid (Pl.intE (Pl.L s) lo hi = (0, v)) := Lib.hid (by unfold Pl.intE; rw [hd, HV.out, if_pos rfl, if_pos hin])
        obtain ⟨i0, i1⟩ := hin
        go_enter Tryd.func20, Tryd.ntmps20
        go_wp2_with (first | (go_at_call 39; refine (isDecimal_any _ _ (by omega)).mono ?_; rintro e w' ⟨rfl, rfl⟩) | (go_at_call 40; refine (ParseInt_ok s _ hs v (by have := HP.out; rw [HV.out] at this; exact this)).mono ?_; rintro e w1 ⟨rfl, hb⟩; have HB := Lib.hid hb; clear hb))
        go_ret2
        exact ⟨by rw [H.out]; rfl, HB.out⟩
      · have H : Hid (Pl.intE (Pl.L s) lo hi = (7, 0)) := Lib.hid (by unfold Pl.intE; rw [hd, HV.out, if_pos rfl, if_neg hin])
        have HI := Lib.hid hin
        clear hin
        by_cases i0 : v < lo
        all_goals (try (have i1 : hi < v := by have := HI.out; omega))
        all_goals
          go_enter Tryd.func20, Tryd.ntmps20
          go_wp2_with (first | (go_at_call 39; refine (isDecimal_any _ _ (by omega)).mono ?_; rintro e w' ⟨rfl, rfl⟩) | (go_at_call 40; refine (ParseInt_ok s _ hs v (by have := HP.out; rw [HV.out] at this; exact this)).mono ?_; rintro e w1 ⟨rfl, hb⟩; have HB := Lib.hid hb; clear hb))
          go_ret2
          exact ⟨by rw [H.out]; rfl, HB.out⟩
    · rw [if_neg hr] at hp
      have H : Hid (Pl.intE (Pl.L s) lo hi = (7, 0)) := Lib.hid (by unfold Pl.intE; rw [hd, if_pos rfl, if_neg (by omega)])
      have HP := Lib.hid hp
      have HL := Lib.hid hl
      clear hp hr hl
      go_enter Tryd.func20, Tryd.ntmps20
      go_wp2_with (first | (go_at_call 39; refine (isDecimal_any _ _ (by omega)).mono ?_; rintro e w' ⟨rfl, rfl⟩) | (go_at_call 40; refine (ParseInt_range s _ HL.out hs HP.out).mono ?_; rintro e w1 ⟨N, rfl, hb⟩; have HB := Lib.hid hb; clear hb))
      all_goals
        go_ret2
        exact ⟨by rw [H.out]; rfl, HB.out⟩

theorem FormatInt_any (n : Int) (w : World) (hl : LibAt w) (h0 : -9223372036854775808 ≤ n) (h1 : n ≤ 9223372036854775807) :
    Calls Tryd.prog 41 #[.int .i64 n, .int .i64 10] w fun e w' => e = .returned (.string ⟨(Lib.itoa n).toArray⟩) ∧ Below w.heap.size w w' :=
  (Tryd.strconv_FormatInt_10 n h0 h1 w hl.2).mono fun e w' ⟨a, k, os, b⟩ => ⟨a, by rw [b]; exact Lib.below_grow _ _ (Nat.le_refl _) _ _⟩
theorem Digits_any (n : Int) (w : World) (hl : LibAt w) (h0 : -9223372036854775808 ≤ n) (h1 : n ≤ 9223372036854775807) :
    Calls Tryd.prog 21 #[.int .i64 n] w fun e w' => e = .returned (.string ⟨(Lib.itoa n).toArray⟩) ∧ Below w.heap.size w w' := by
  have HL := Lib.hid hl
  clear hl
  go_enter Tryd.func21, Tryd.ntmps21
  go_wp2_with (go_at_call 41; refine (FormatInt_any n _ HL.out h0 h1).mono ?_; rintro e w1 ⟨rfl, hb⟩; have HB := Lib.hid hb; clear hb)
  go_ret
  exact ⟨rfl, HB.out⟩
end Go.Proofs.YthifbihmogjjpaaDoor
