/-
  The contract of numbersOf.
-/
import Derived.Test.YthifbihmogjjpaaDoorPv
import Derived.Test.YthifbihmogjjpaaDoorXw
import Derived.Test.YthifbihmogjjpaaDoorWq
namespace Go.Proofs.YthifbihmogjjpaaDoor
open Go.ChangeShapes Go.WideShapes Go.ChangeAt Go.RowKit Go.Proofs

theorem infoI : (Tryd.prog.info? 3).map (fun i => (i.zero, i.size, i.bytes)) = some (some (.int .i64 0), 1, 8) := by kernel_rfl
def intV (l : List Int) : List Value := l.map fun n => .int .i64 n
theorem intV_snoc (l : List Int) (n : Int) : intV (l ++ [n]) = intV l ++ [.int .i64 n] := by simp [intV]
theorem intV_len (l : List Int) : (intV l).length = l.length := by simp [intV]
theorem IntsAt.of_own {w : World} {base : Nat} {v : Value} {n : Nat} {l : List Int} (h : w.ownsRow base 3 1 v n (intV l)) : ∃ A c, v = .slice A l.length c ∧ IntsAt w A l := by
  have hn : n = l.length := by
    have := h.1
    rw [intV_len] at this
    omega
  subst hn
  obtain ⟨A, c, rfl⟩ := own_slice h
  refine ⟨A, c, rfl, ?_⟩
  by_cases h0 : l = []
  · exact .inl h0
  · have hpos : 0 < l.length := List.length_pos_iff.2 h0
    have hform : ∃ g cap, Value.slice A l.length c = .slice (some ⟨g, 0, none⟩) l.length cap ∧ g < w.heap.size := by
      rcases h.2 with ⟨_, h1⟩ | ⟨g, cap, cur, hv, _, hh, _⟩
      · omega
      · exact ⟨g, cap, hv, (Array.getElem?_eq_some_iff.1 hh).1⟩
    obtain ⟨g, cap, hv, hlt⟩ := hform
    have hA : A = some ⟨g, 0, none⟩ := by injection hv
    refine .inr ⟨g, 0, hA, hlt, fun i hi => ?_⟩
    have hcell := h.cells (g := g) (by rw [hv]; rfl)
    have hadd : ∀ j, (⟨g, 0, none⟩ : Addr).add j = ⟨g, 0 + j, none⟩ := fun j => by unfold Addr.add; split <;> simp_all
    have b0 := hcell i (.int .i64 (Pl.el l i)) (by unfold intV Pl.el; rw [List.getElem?_map, List.getElem?_eq_getElem hi]; rfl)
    rwa [hadd] at b0
theorem cell_one_int (w : World) (v : Value) : ∀ (j : Nat) (u : Value), [v][j]? = some u → (w.alloc (.cells #[v] 3)).cell? ((⟨w.heap.size, 0, none⟩ : Addr).add j) = some u :=
  World.news_of_block (cs := #[v]) (t := 3) (fr := (0, 0)) (heap_alloc_new w _)
def IntsOut (r : Int × List Int) (w : World) (e : Ending) (w' : World) : Prop :=
  ∃ A c, e = .returned (.tuple #[.slice A r.2.length c, .int .i64 r.1]) ∧ IntsAt w' A r.2 ∧ Below w.heap.size w w'
theorem intsG {r : Int × List Int} {e : Int} {ts : List Int} (w w' : World) (A : Option Addr) (c : Nat) (h : r = (e, ts)) (hf : IntsAt w' A ts) (hb : Below w.heap.size w w') (E : Ending) (hE : E = .returned (.tuple #[.slice A ts.length c, .int .i64 e])) : IntsOut r w E w' := by
  subst h; exact ⟨A, c, hE, hf, hb⟩
theorem Int_f (t : List UInt8) (w : World) (hl : LibAt w) (hs : t.length ≤ 4294967295) :
    Calls Tryd.prog 20 #[.string ⟨t.toArray⟩, .int .i64 0, .int .i64 1000000000] w fun e w' => e = .returned (.tuple #[.int .i64 (Pl.iv t), .int .i64 (Pl.intE t 0 1000000000).1]) ∧ Below w.heap.size w w' := by
  have := Int_any ⟨t.toArray⟩ 0 1000000000 w hl (by rw [size_mk]; exact hs) (by decide) (by decide) (by decide) (by decide)
  rwa [L_mk] at this

set_option maxRecDepth 100000 in
set_option maxHeartbeats 4000000 in
theorem numbersOf_any (A : Option Addr) (c : Nat) (xs : List (List UInt8 × List UInt8)) (w : World) (he : Env w) (hf : SpansAt w A xs) (hn : xs.length ≤ 4294967295) (hxl : ∀ x ∈ xs, x.1.length ≤ 1000000000 ∧ x.2.length ≤ 1000000000) :
    Calls Tryd.prog 38 #[.slice A xs.length c] w (IntsOut (Pl.numsF [] xs) w) := by
  have HE := Lib.hid he
  have HF := Lib.hid hf
  have HXL := Lib.hid hxl
  clear he hf hxl
  obtain ⟨i0, hi, hz0, hz1, hz2⟩ := info_parts infoI
  go_enter Tryd.func38, Tryd.ntmps38
  go_wp2_with fail
  go_loopw [4, 14] (fun v i wr => ∃ (k : Nat) (acc : List Int), k ≤ xs.length ∧ i = .int .i64 k ∧ acc.length ≤ 500 ∧ wr.ownsRow w.heap.size 3 1 v acc.length (intV acc) ∧ Below w.heap.size w wr ∧ Hid (Pl.numsF [] xs = Pl.numsF acc (xs.drop k))) (fun _ i _ => xs.length - (intOf i).toNat)
  case atStart => exact ⟨0, [], Nat.zero_le _, rfl, Nat.zero_le _, World.ownsRow_nil _ _ _ _, Below.refl _ _, Lib.hid rfl⟩
  case round =>
    obtain ⟨k, acc, hk, rfl, hacc, hown, hb, HN⟩ := hrel
    have hsz := hb.size
    have HB := Lib.hid hb
    have HEr := Lib.hid (HE.out.below hb)
    have hf' := HF.out.below hb (Nat.le_refl _)
    clear hb
    by_cases hlt : k < xs.length
    · rcases hf' with h0 | ⟨bp, rfl, hbl, hc⟩
      · subst h0; simp at hlt
      obtain ⟨g0, g1⟩ := hc k hlt
      have hxx := HXL.out xs[k] (List.getElem_mem hlt)
      obtain ⟨⟨x1, x2⟩, hx⟩ : ∃ y, xs[k] = y := ⟨_, rfl⟩
      rw [hx] at g0 g1 hxx
      replace hxx : x1.length ≤ 1000000000 ∧ x2.length ≤ 1000000000 := hxx
      have HN2 : Hid (Pl.numsF [] xs = if (500 : Int) - acc.length ≤ Pl.iv x2 - Pl.iv x1 then (3, []) else Pl.numsF (acc ++ Pl.from_ (Pl.iv x1) (Pl.cnt (x1, x2))) (xs.drop (k + 1))) := Lib.hid (by
        rw [HN.out, List.drop_eq_getElem_cons hlt, hx, Pl.numsF])
      have l1 : (k : Int) < (xs.length : Int) := by omega
      have b1 := Pl.iv_b x1
      have b2 := Pl.iv_b x2
      have J1 := Lib.hid (fun w hl => Int_f x1 w hl (by omega))
      have J2 := Lib.hid (fun w hl => Int_f x2 w hl (by omega))
      have HCN : Hid (Pl.cnt (x1, x2) = (Pl.iv x2 - Pl.iv x1 + 1).toNat) := Lib.hid rfl
      obtain ⟨f, hf⟩ : ∃ f, Pl.iv x1 = f := ⟨_, rfl⟩
      obtain ⟨l, hl⟩ : ∃ l, Pl.iv x2 = l := ⟨_, rfl⟩
      obtain ⟨q, hq⟩ : ∃ q, Pl.cnt (x1, x2) = q := ⟨_, rfl⟩
      obtain ⟨r1, hr1⟩ : ∃ r, (Pl.intE x1 0 1000000000).1 = r := ⟨_, rfl⟩
      obtain ⟨r2, hr2⟩ : ∃ r, (Pl.intE x2 0 1000000000).1 = r := ⟨_, rfl⟩
      rw [hf, hl, hq] at HN2
      rw [hf, hl, hq] at HCN
      rw [hf, hr1] at J1
      rw [hl, hr2] at J2
      rw [hf] at b1
      rw [hl] at b2
      have hcq := HCN.out
      clear hc hx hf hl hq hr1 hr2 HCN
      obtain ⟨wa, hwa⟩ : ∃ wa, wr.alloc (.cells #[.string ⟨x1.toArray⟩, .string ⟨x2.toArray⟩] 69) = wa := ⟨_, rfl⟩
      have hownA := hown.alloc (.cells #[.string ⟨x1.toArray⟩, .string ⟨x2.toArray⟩] 69)
      have hbA := HB.out.alloc hsz (.cells #[.string ⟨x1.toArray⟩, .string ⟨x2.toArray⟩] 69)
      have c0 := cell_of_row (wr.alloc (.cells #[.string ⟨x1.toArray⟩, .string ⟨x2.toArray⟩] 69)) wr.heap.size 0 _ _ _ (heap_alloc_new wr _)
      have c1 := cell_of_row (wr.alloc (.cells #[.string ⟨x1.toArray⟩, .string ⟨x2.toArray⟩] 69)) wr.heap.size 1 _ _ _ (heap_alloc_new wr _)
      have hsa : (wr.alloc (.cells #[.string ⟨x1.toArray⟩, .string ⟨x2.toArray⟩] 69)).heap.size = wr.heap.size + 1 := by simp
      rw [hwa] at hownA hbA c0 c1 hsa
      replace c0 : wa.cell? ⟨wr.heap.size, 0, none⟩ = some (.string ⟨x1.toArray⟩) := c0
      replace c1 : wa.cell? ⟨wr.heap.size, 1, none⟩ = some (.string ⟨x2.toArray⟩) := c1
      have HBA := Lib.hid hbA
      have hEA := HEr.out.below (show Below wr.heap.size wr wa by rw [← hwa]; exact (Below.refl _ _).alloc (Nat.le_refl _) _)
      have HEA := Lib.hid hEA
      clear hbA hEA hown
      go_wp2_with fail
      refine (J1.out _ HEA.out.2.1).mono ?_
      rintro e w1 ⟨rfl, hb1⟩
      have ho1 := own_below hownA hb1
      have d1 := (hb1.cell (p := ⟨wr.heap.size, 1, none⟩) (by simp; omega)).trans c1
      have HE1 := Lib.hid (HEA.out.below hb1)
      have HB1 := Lib.hid (below_of HBA.out hb1 (Nat.le_refl _))
      have hs1 := hb1.size
      clear hb1 hownA
      go_wp2_with fail
      refine (J2.out _ HE1.out.2.1).mono ?_
      rintro e w2 ⟨rfl, hb1⟩
      have ho2 := own_below ho1 hb1
      have HB2 := Lib.hid (below_of HB1.out hb1 (Nat.le_refl _))
      have hs2 := hb1.size
      clear hb1 ho1
      obtain ⟨A0, q0, hv0, _⟩ := IntsAt.of_own ho2
      subst hv0
      have hsub : (500 : Int) - (acc.length : Int) ≤ 500 := by omega
      by_cases hbig : (500 : Int) - acc.length ≤ l - f
      · have hr := HN2.out
        rw [if_pos hbig] at hr
        have HR := Lib.hid hr
        clear hr
        go_wp2_with fail
        go_ret2
        exact intsG w _ none 0 HR.out (.inl rfl) HB2.out _ rfl
      · have hr := HN2.out
        rw [if_neg hbig] at hr
        have HR := Lib.hid hr
        clear hr
        go_wp2_with fail
        have HH0 : Hid (w2.ownsRow w.heap.size 3 1 (.slice A0 acc.length q0) (acc.length + 0) (intV (acc ++ Pl.from_ f 0))) := Lib.hid (by
          rw [show Pl.from_ f 0 = [] from rfl, List.append_nil]; exact ho2)
        clear ho2
        go_loopw [4, 11] (fun v n wx => ∃ m : Nat, n = .int .i64 (f + (m : Int)) ∧ m ≤ q ∧ wx.ownsRow w.heap.size 3 1 v (acc.length + m) (intV (acc ++ Pl.from_ f m)) ∧ Below w.heap.size w wx) (fun _ n _ => (l + 1 - intOf n).toNat)
        case atStart => exact ⟨0, by simp, Nat.zero_le _, HH0.out, HB2.out⟩
        case round =>
          obtain ⟨m, rfl, hm, howx, hbx⟩ := hrel
          have HBX := Lib.hid hbx
          have hsx := hbx.size
          clear hbx
          by_cases hgo : f + (m : Int) ≤ l
          · have hx0 : (0 : Int) ≤ f + m := by omega
            have hx1 : f + (m : Int) ≤ 1000000000 := by omega
            go_wp2_with (at_builtin; go_loud (refine wpList_append_own _ rfl (.tmp 43) (.tmp 45) 31 rfl w.heap.size 3 i0 (.int .i64 0) 1 8 Tryd.underlying31 hi hz0 hz1 hz2 rfl (by decide) _ (acc.length + m) _ rfl (howx.alloc _) ⟨wr.heap.size, 0, none⟩ 1 1 [.int .i64 (f + (m : Int))] rfl rfl (cell_one_int wr _) (by simp [Value.oneCell']) (by unfold maxLen; omega) (by omega) (by simp; omega) ?_; intro v3 w3 hown3 hg3 _; have hb3 := (HBX.out.alloc hsx (.cells #[.int .i64 (f + (m : Int))] 3)).grown hg3 (by simp; omega) (fun g hg => (howx.lt g hg).1); have HB3 := Lib.hid hb3; have HO3 := Lib.hid hown3; clear hg3 hb3 hown3))
            go_roundw
            case rel => exact ⟨m + 1, congrArg (Value.int .i64) (by omega), by omega, by rw [Pl.from_succ, ← List.append_assoc, intV_snoc]; exact HO3.out, HB3.out⟩
            case measure => simp [intOf]; omega
          · have hmq : m = q := by omega
            subst hmq
            have HO4 := Lib.hid howx
            go_wp2_with fail
            go_roundw
            case rel => exact ⟨k + 1, acc ++ Pl.from_ f m, by omega, by go_num, by rw [List.length_append, Pl.from_len]; omega, by rw [List.length_append, Pl.from_len]; exact HO4.out, HBX.out, HR⟩
            case measure => simp [intOf]; omega
    · have HR : Hid (Pl.numsF [] xs = (0, acc)) := Lib.hid (by rw [HN.out, List.drop_of_length_le (by omega)]; rfl)
      obtain ⟨A3, c3, hv, hsp⟩ := IntsAt.of_own hown
      subst hv
      have HSA := Lib.hid hsp
      clear hsp hf'
      go_wp2_with fail
      go_ret2
      exact intsG w _ _ _ HR.out HSA.out HB.out _ rfl
end Go.Proofs.YthifbihmogjjpaaDoor
