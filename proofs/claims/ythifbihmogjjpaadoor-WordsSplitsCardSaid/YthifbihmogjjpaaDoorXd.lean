/-
  The contract of the reference's quoted.
-/
import Derived.Test.YthifbihmogjjpaaDoorXc
import Derived.Test.YthifbihmogjjpaaDoorPo
namespace Go.Proofs.YthifbihmogjjpaaDoor.Pl
open Go.Lib
def rqT (l : List UInt8) : List UInt8 := match rq l with | none => [] | some (t, _) => t
def rqN (l : List UInt8) : Nat := match rq l with | none => 0 | some (_, m) => m
theorem rqT_none {l : List UInt8} (h : rq l = none) : rqT l = [] ∧ rqN l = 0 := by unfold rqT rqN; rw [h]; exact ⟨rfl, rfl⟩
theorem rqT_some {l : List UInt8} {t : List UInt8} {m : Nat} (h : rq l = some (t, m)) : rqT l = t ∧ rqN l = m := by unfold rqT rqN; rw [h]; exact ⟨rfl, rfl⟩
/-- whether these bytes stand at a place -/
def At (s : ByteArray) (k : Nat) (u : List UInt8) : Prop := ∃ r, (L s).drop k = u ++ r
theorem at_rb {s : ByteArray} {k : Nat} {c : UInt8} (h : At s k (esc c)) : rb ((L s).drop k) = some (c, (esc c).length) := by
  obtain ⟨r, h⟩ := h
  rw [h]; exact rb_of_esc c r
theorem at_none {s : ByteArray} {k : Nat} (h : ∀ x : UInt8, x.toNat < 256 → ¬ At s k (esc x)) : rb ((L s).drop k) = none := by
  cases hr : rb ((L s).drop k) with
  | none => rfl
  | some x =>
    obtain ⟨c, n⟩ := x
    obtain ⟨r, h1, _⟩ := esc_of_rb _ c n hr
    exact absurd ⟨r, h1⟩ (h c c.toNat_lt)
theorem at_short {s : ByteArray} {k : Nat} {u : List UInt8} (h : s.size - k < u.length) : ¬ At s k u := by
  rintro ⟨r, h1⟩
  have := congrArg List.length h1
  rw [List.length_drop, L_length, List.length_append] at this
  omega
theorem at_ext {s : ByteArray} {k : Nat} {u : List UInt8} : At s k u ↔ (s.extract k (k + u.length)).toList = u := by
  have e1 : (s.extract k (k + u.length)).toList = ((L s).drop k).take u.length := by
    rw [ByteArray.toList_eq]
    show (s.extract k (k + u.length)).data.toList = _
    rw [extract_data, Nat.add_sub_cancel_left]; rfl
  rw [e1]
  constructor
  · rintro ⟨r, h⟩
    rw [h]; simp
  · intro h
    exact ⟨((L s).drop k).drop u.length, by conv => lhs; rw [← List.take_append_drop u.length ((L s).drop k), h]⟩
end Go.Proofs.YthifbihmogjjpaaDoor.Pl
namespace Go.Proofs.YthifbihmogjjpaaDoor
open Go.ChangeShapes Go.WideShapes Go.ChangeAt Go.RowKit Go.Proofs

set_option maxRecDepth 100000 in
set_option maxHeartbeats 2000000 in
theorem quoted_some (s : ByteArray) (w : World) (hs : s.size ≤ 4294967295) (hk : 0 < s.size) (hc : s[0] = 34) :
    Calls Tryd.prog 25 #[.string s] w fun e w' => e = .returned (.tuple #[.string ⟨(Pl.rqT (Pl.L s)).toArray⟩, .int .i64 (Pl.rqN (Pl.L s) : Int)]) ∧ Below w.heap.size w w' := by
  have q1 : ((s[0].toNat : Int) == 34) = true := Pl.num_eq _ 34 hc
  have q2 : ((s[0].toNat : Int) != 34) = false := Pl.num_nbne _ 34 hc
  have qz : ((s.size : Int) == 0) = false := by rw [beq_eq_false_iff_ne]; omega
  have HC := Lib.hid hc
  obtain ⟨i0, hi, hz0, hz1, hz2⟩ := info_parts infoB
  clear hc
  go_enter Tryd.func25, Tryd.ntmps25
  go_wp2_with fail
  go_loopw [4, 5] (fun v i wr => ∃ (k : Nat) (t : List UInt8), 1 ≤ k ∧ k ≤ s.size ∧ t.length ≤ k ∧ i = .int .i64 k ∧ wr.ownsRow w.heap.size 5 1 v t.length (t.map B8) ∧ Below w.heap.size w wr ∧ Pl.More s 1 k t) (fun _ i _ => s.size - (intOf i).toNat)
  case atStart => exact ⟨1, [], Nat.le_refl _, hk, Nat.zero_le _, rfl, World.ownsRow_nil _ _ _ _, Below.refl _ _, Pl.More.start s _⟩
  case round =>
    obtain ⟨k, t, hk1, hks, htk, rfl, hown, hb, hm⟩ := hrel
    have HM := Lib.hid hm
    have HB := Lib.hid hb
    have hsz := hb.size
    clear hm hb
    by_cases hlt : k < s.size
    · by_cases hq : s[k] = 34
      · have HQ := Lib.hid hq
        have q3 : ((s[k].toNat : Int) == 34) = true := Pl.num_eq _ 34 hq
        have q4 : ((s[k].toNat : Int) != 34) = false := Pl.num_nbne _ 34 hq
        have q5 : ((k : Int) == (s.size : Int)) = false := by rw [beq_eq_false_iff_ne]; omega
        clear hq
        have hcv := conv_own hown
        have hres2 := Pl.rq_some s 0 hk HC.out (HM.out.quote hlt HQ.out)
        rw [List.drop_zero] at hres2
        have HR := Lib.hid (Pl.rqT_some hres2)
        clear hres2
        go_wp2_with fail
        go_ret2
        exact ⟨by rw [HR.out.1, HR.out.2, show ((k - 1 + 1 + 1 : Nat) : Int) = (k : Int) + 1 from by omega]; rfl, HB.out⟩
      · have HQ := Lib.hid hq
        have q3 : ((s[k].toNat : Int) == 34) = false := Pl.num_ne _ 34 hq
        have q4 : ((s[k].toNat : Int) != 34) = true := Pl.num_bne _ 34 hq
        clear hq
        go_wp2_with fail
        go_loopw [4, 5, 6, 7] (fun v2 i2 f c wr2 => ∃ j : Nat, j ≤ 256 ∧ c = .int .i64 j ∧ Below w.heap.size w wr2 ∧
          ((f = .bool false ∧ i2 = .int .i64 k ∧ wr2.ownsRow w.heap.size 5 1 v2 t.length (t.map B8) ∧ ∀ x : UInt8, x.toNat < j → ¬ Pl.At s k (Pl.esc x)) ∨
           (f = .bool true ∧ ∃ (x : UInt8) (n : Nat), Pl.rb ((Pl.L s).drop k) = some (x, n) ∧ i2 = .int .i64 (k + n : Nat) ∧ wr2.ownsRow w.heap.size 5 1 v2 (t ++ [x]).length ((t ++ [x]).map B8)))) (fun _ _ _ c _ => 256 - (intOf c).toNat)
        case atStart => exact ⟨0, by omega, rfl, HB.out, .inl ⟨rfl, rfl, hown, fun x hx => absurd hx (Nat.not_lt_zero _)⟩⟩
        case round =>
          obtain ⟨j, hj, rfl, hb2, hor⟩ := hrel
          have HB2 := Lib.hid hb2
          have hsz2 := hb2.size
          clear hb2
          rcases hor with ⟨rfl, rfl, hown2, hno⟩ | ⟨rfl, x, n, hr, rfl, hown2⟩
          · have HNO := Lib.hid hno
            clear hno
            by_cases hj2 : j < 256
            · obtain ⟨c, hcj⟩ : ∃ c : UInt8, c.toNat = j := ⟨UInt8.ofNat j, UInt8.toNat_ofNat_of_lt' (by show _ < 256; omega)⟩
              obtain ⟨u, hu⟩ : ∃ u, Pl.esc c = u := ⟨_, rfl⟩
              have hesc : ∀ w, Calls Tryd.prog 46 #[.int .u8 (j : Int)] w fun e w' => e = .returned (.string ⟨u.toArray⟩) ∧ Below w.heap.size w w' := by rw [← hu, ← hcj]; exact escaped_any c
              have hel := (Pl.esc_len c).1
              have hel1 := (Pl.esc_len c).2
              rw [hu] at hel hel1
              have HESC := Lib.hid hesc
              have HU := Lib.hid hu
              have HCJ := Lib.hid hcj
              have hnext : ¬ Pl.At s k u → ∀ x : UInt8, x.toNat < j + 1 → ¬ Pl.At s k (Pl.esc x) := fun h x hx => by
                rcases Nat.lt_or_ge x.toNat j with h1 | h1
                · exact HNO.out x h1
                · have : x = c := UInt8.toNat_inj.1 (by rw [HCJ.out]; omega)
                  rw [this, HU.out]; exact h
              have HNX := Lib.hid hnext
              clear hesc hu hcj hnext
              by_cases hfit : u.length ≤ s.size - k
              · by_cases hat : Pl.At s k u
                · have e1 : ((s.extract k (k + u.length)).toList == u) = true := by rw [beq_iff_eq]; exact Pl.at_ext.1 hat
                  have HAT := Lib.hid hat
                  clear hat
                  go_wp2_with (first | (go_at_call 46; refine (HESC.out _).mono ?_; rintro e w1 ⟨rfl, hb1⟩; have hown3 := own_below hown2 hb1; have hsz1 := hb1.size; have HB1 := Lib.hid hb1; clear hb1) | (at_builtin; refine wpList_append_own _ rfl (.tmp 56) (.tmp 59) 29 rfl w.heap.size 5 i0 (.int .u8 0) 1 1 Tryd.underlying29 hi hz0 hz1 hz2 rfl (by decide) _ t.length _ rfl (hown3.alloc _) ⟨w1.heap.size, 0, none⟩ 1 1 [.int .u8 (j : Int)] rfl rfl (cell_one_new _ _ _) (by simp [Value.oneCell']) (by unfold maxLen; omega) (by omega) (by simp; omega) ?_; intro v3 w3 hown4 hg3 _; have HG3 := Lib.hid hg3; clear hg3))
                  go_roundw
                  case rel =>
                    have hat2 : Pl.At s k (Pl.esc c) := by rw [HU.out]; exact HAT.out
                    have hrb := Pl.at_rb hat2
                    rw [HU.out] at hrb
                    exact ⟨j + 1, by omega, by go_num, ((HB2.out.trans (HB1.out.mono hsz2)).alloc (by omega) _).grown HG3.out (by simp; omega) (fun g hg => (hown3.lt g hg).1), .inr ⟨rfl, c, u.length, hrb, by go_num, own_app (u := [c]) rfl rfl (by rw [← HCJ.out]; rfl) hown4⟩⟩
                  case measure => simp [intOf]; omega
                · have e1 : ((s.extract k (k + u.length)).toList == u) = false := by rw [beq_eq_false_iff_ne]; exact fun h => hat (Pl.at_ext.2 h)
                  have HAT := Lib.hid hat
                  clear hat
                  go_wp2_with (go_at_call 46; refine (HESC.out _).mono ?_; rintro e w1 ⟨rfl, hb1⟩; have hown3 := own_below hown2 hb1; have hsz1 := hb1.size; have HB1 := Lib.hid hb1; clear hb1)
                  go_roundw
                  case rel => exact ⟨j + 1, by omega, by go_num, HB2.out.trans (HB1.out.mono hsz2), .inl ⟨rfl, rfl, hown3, HNX.out HAT.out⟩⟩
                  case measure => simp [intOf]; omega
              · have HAT := Lib.hid (Pl.at_short (s := s) (k := k) (u := u) (by omega))
                go_wp2_with (go_at_call 46; refine (HESC.out _).mono ?_; rintro e w1 ⟨rfl, hb1⟩; have hown3 := own_below hown2 hb1; have hsz1 := hb1.size; have HB1 := Lib.hid hb1; clear hb1)
                go_roundw
                case rel => exact ⟨j + 1, by omega, by go_num, HB2.out.trans (HB1.out.mono hsz2), .inl ⟨rfl, rfl, hown3, HNX.out HAT.out⟩⟩
                case measure => simp [intOf]; omega
            · have hres2 := Pl.rq_none s 0 hk (HM.out.stop hlt HQ.out (Pl.at_none fun x hx => HNO.out x (by omega)))
              rw [List.drop_zero] at hres2
              have HR := Lib.hid (Pl.rqT_none hres2)
              clear hres2
              go_wp2_with fail
              go_ret2
              exact ⟨by rw [HR.out.1, HR.out.2]; rfl, HB2.out⟩
          · obtain ⟨hn1, hn2⟩ := Pl.rb_bound hlt hr
            have HR := Lib.hid hr
            clear hr
            by_cases hj2 : j < 256
            all_goals
              go_wp2_with fail
              go_roundw
              case rel => exact ⟨k + n, t ++ [x], by omega, by omega, by simp; omega, by go_num, hown2, HB2.out, HM.out.step hlt hk1 HQ.out HR.out⟩
              case measure => simp [intOf]; omega
    · have hres2 := Pl.rq_none s 0 hk (HM.out.end_ (by omega))
      rw [List.drop_zero] at hres2
      have HR := Lib.hid (Pl.rqT_none hres2)
      have q5 : ((k : Int) == (s.size : Int)) = true := by rw [beq_iff_eq]; omega
      clear hres2
      go_wp2_with fail
      go_ret2
      exact ⟨by rw [HR.out.1, HR.out.2]; rfl, HB.out⟩
end Go.Proofs.YthifbihmogjjpaaDoor
