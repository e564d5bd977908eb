/-
  Contracts of the functions on quoted strings: readQuoted, Unquote.
-/
import Derived.Test.YthifbihmogjjpaaDoorWe
import Derived.Test.YthifbihmogjjpaaDoorPf
import Derived.Maps.AppendAt
namespace Go.Proofs.YthifbihmogjjpaaDoor
open Go.ChangeShapes Go.WideShapes Go.ChangeAt Go.RowKit Go.Proofs

def B8 (c : UInt8) : Value := .int .u8 (c.toNat : Int)
theorem B8_one (c : UInt8) : ∀ u ∈ [B8 c], u.oneCell' = true := by simp [B8, Value.oneCell']
theorem infoB : (Tryd.prog.info? 5).map (fun i => (i.zero, i.size, i.bytes)) = some (some (.int .u8 0), 1, 1) := by kernel_rfl
theorem str_nums (t : List UInt8) : strOfNums (t.map fun c => (c.toNat : Int)) = ⟨t.toArray⟩ := by
  have : (strOfNums (t.map fun c => (c.toNat : Int))).data.toList = t := by
    rw [strOfNums_data, List.map_map]
    conv => rhs; rw [← List.map_id t]
    apply List.map_congr_left
    intro c _
    simp
  rw [← Lib.mk_data (strOfNums _), this]
/-- string(b) of a row of the call's own -/
theorem conv_own {w : World} {base : Nat} {v : Value} {n : Nat} {t : List UInt8} (hown : w.ownsRow base 5 1 v n (t.map B8)) :
    (convert 29 9 v).run Tryd.prog w = .ok (.string ⟨t.toArray⟩) w := by
  have hn : n = t.length := by have := hown.1; simpa using this.symm
  rcases hown.2 with ⟨rfl, h0⟩ | ⟨g, cap, cur, rfl, _⟩
  · have : t = [] := List.eq_nil_of_length_eq_zero (by omega)
    subst this
    exact run_convert_bytes_nil w _ _ Tryd.underlying29 Tryd.underlying5 0 0 _ Tryd.underlying9
  · rw [run_convert_bytes_arg w _ _ Tryd.underlying29 Tryd.underlying5 g 0 n cap (t.map fun c => (c.toNat : Int)) (by simp [hn]) (fun i hi => ?_) _ Tryd.underlying9, str_nums]
    have hc := hown.cells (g := g) rfl i (B8 (t[i]'(by omega))) (by rw [List.getElem?_map, List.getElem?_eq_getElem (by omega)]; rfl)
    rw [Nat.zero_add]
    have hadd : (⟨g, 0, none⟩ : Addr).add i = ⟨g, i, none⟩ := by unfold Addr.add; split <;> simp_all
    rw [hadd] at hc
    rw [hc, B8]
    congr 2
    rw [List.getD_eq_getElem?_getD, List.getElem?_map, List.getElem?_eq_getElem (by omega)]
    rfl

theorem own_below {w w' : World} {B e size n : Nat} {v : Value} {xs : List Value} (h : w.ownsRow B e size v n xs) (hb : Below w.heap.size w w') : w'.ownsRow B e size v n xs := by
  obtain ⟨h1, h2⟩ := h
  refine ⟨h1, ?_⟩
  rcases h2 with h2 | ⟨g, cap, cur, hv, hg, hh, r⟩
  · exact .inl h2
  · refine .inr ⟨g, cap, cur, hv, hg, ?_, r⟩
    rw [hb.block g (by
      rcases Nat.lt_or_ge g w.heap.size with h | h
      · exact h
      · rw [Array.getElem?_eq_none h] at hh; cases hh)]
    exact hh
theorem below_of {B : Nat} {w w1 w2 : World} (hb : Below B w w1) (h : Below w1.heap.size w1 w2) (hB : B ≤ w.heap.size) : Below B w w2 := hb.trans (h.mono (Nat.le_trans hB hb.size))
theorem own_snoc {w : World} {base : Nat} {v : Value} {t : List UInt8} {c : UInt8} (h : w.ownsRow base 5 1 v (t.length + 1) (t.map B8 ++ [.int .u8 (c.toNat : Int)])) : w.ownsRow base 5 1 v (t ++ [c]).length ((t ++ [c]).map B8) := by
  simpa [B8] using h

set_option maxRecDepth 100000 in
set_option maxHeartbeats 800000 in
theorem readQuoted_yes (s : ByteArray) (k0 : Nat) (T : List UInt8) (M : Nat) (w : World) (he : EscAt w) (hs : s.size ≤ 4294967295) (hk0 : k0 ≤ s.size) (h : Pl.rq ((Pl.L s).drop k0) = some (T, M)) :
    Calls Tryd.prog 31 #[.string s, .int .i64 (k0 : Int)] w fun e w' => e = .returned (.tuple #[.string ⟨T.toArray⟩, .int .i64 ((k0 : Int) + (M : Int)), .bool true]) ∧ Below w.heap.size w w' := by
  have hk : k0 < s.size := by
    rcases Nat.lt_or_ge k0 s.size with h1 | h1
    · exact h1
    · rw [Pl.rq_end s k0 h1] at h; cases h
  have hc : s[k0] = 34 := by
    by_cases hc : s[k0] = 34
    · exact hc
    · rw [Pl.rq_not s k0 hk hc] at h; cases h
  have q1 : ((s[k0].toNat : Int) == 34) = true := Pl.num_eq _ 34 hc
  have q2 : ((s[k0].toNat : Int) != 34) = false := Pl.num_nbne _ 34 hc
  have H := Lib.hid h
  have HC := Lib.hid hc
  have HE := Lib.hid he
  have hlt0 := he.lt
  obtain ⟨i0, hi, hz0, hz1, hz2⟩ := info_parts infoB
  clear h hc he
  have hdec : decide (s.size ≤ k0) = false := by simp; omega
  go_enter Tryd.func31, Tryd.ntmps31
  go_wp2_with fail
  go_loopw [1, 7] (fun i v wr => ∃ (k : Nat) (t : List UInt8), k0 + 1 ≤ k ∧ k ≤ s.size ∧ t.length ≤ k ∧ i = .int .i64 k ∧ wr.ownsRow w.heap.size 5 1 v t.length (t.map B8) ∧ Below w.heap.size w wr ∧ Pl.More s (k0 + 1) k t) (fun i _ _ => s.size - (intOf i).toNat)
  case atStart => exact ⟨k0 + 1, [], Nat.le_refl _, hk, Nat.zero_le _, by go_num, World.ownsRow_nil _ _ _ _, Below.refl _ _, Pl.More.start s _⟩
  case round =>
    obtain ⟨k, t, hk1, hks, htk, rfl, hown, hb, hm⟩ := hrel
    have HM := Lib.hid hm
    have HB := Lib.hid hb
    clear hm
    by_cases hlt : k < s.size
    · by_cases hq : s[k] = 34
      · have HQ := Lib.hid hq
        have q3 : ((s[k].toNat : Int) == 34) = true := Pl.num_eq _ 34 hq
        have q4 : ((s[k].toNat : Int) != 34) = false := Pl.num_nbne _ 34 hq
        clear hq
        have hcv := conv_own hown
        clear hb
        have hres := HM.out.quote hlt HQ.out
        have hres2 := Pl.rq_some s k0 hk HC.out hres
        rw [H.out] at hres2
        have HR := Lib.hid hres2
        clear hres hres2
        go_wp2_with fail
        go_ret3
        have := HR.out
        simp only [Option.some.injEq, Prod.mk.injEq] at this
        obtain ⟨rfl, rfl⟩ := this
        exact ⟨by rw [show ((k : Int) + 1) = (k0 : Int) + ((k - (k0 + 1) + 1 + 1 : Nat) : Int) from by omega]; rfl, HB.out⟩
      · have HQ := Lib.hid hq
        have q3 : ((s[k].toNat : Int) == 34) = false := Pl.num_ne _ 34 hq
        have q4 : ((s[k].toNat : Int) != 34) = true := Pl.num_bne _ 34 hq
        clear hq
        cases hr : Pl.rb ((Pl.L s).drop k) with
        | none =>
          exfalso
          have := Pl.rq_none s k0 hk (HM.out.stop hlt HQ.out hr)
          rw [H.out] at this; cases this
        | some x =>
          obtain ⟨v, n⟩ := x
          obtain ⟨hn1, hn2⟩ := Pl.rb_bound hlt hr
          have HR := Lib.hid hr
          clear hr
          have hsz := hb.size
          clear hb
          go_wp2_with (first
            | (go_at_call 51; refine (readByte_yes s k v n _ (HE.out.below HB.out hlt0) hs hlt HR.out).mono ?_; rintro e w1 ⟨rfl, hb1⟩; have hown1 := own_below hown hb1; have hsz1 := hb1.size; have HB1 := Lib.hid hb1; clear hb1)
            | (at_builtin; refine wpList_append_own _ rfl (.tmp 42) (.tmp 44) 29 rfl w.heap.size 5 i0 (.int .u8 0) 1 1 Tryd.underlying29 hi hz0 hz1 hz2 rfl (by decide) _ t.length _ rfl (hown1.alloc _) ⟨w1.heap.size, 0, none⟩ 1 1 [.int .u8 (v.toNat : Int)] rfl rfl (cell_one_new _ _ _) (by simp [Value.oneCell']) (by unfold maxLen; omega) (by omega) (by simp; omega) ?_; intro v2 w2 hown2 hg2 _; have HG2 := Lib.hid hg2; clear hg2))
          go_roundw
          case rel =>
            have hB2 : Below w.heap.size w w2 := ((below_of HB.out HB1.out (Nat.le_refl _)).alloc (by omega) _).grown HG2.out (by simp; omega) (fun g hg => (hown1.lt g hg).1)
            exact ⟨k + n, t ++ [v], by omega, by omega, by simp; omega, by go_num, own_snoc hown2, hB2, HM.out.step hlt hk1 HQ.out HR.out⟩
          case measure => simp [intOf]; omega
    · exfalso
      have := Pl.rq_none s k0 hk (HM.out.end_ (by omega))
      rw [H.out] at this; cases this
end Go.Proofs.YthifbihmogjjpaaDoor
