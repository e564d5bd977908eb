/-
  Contracts of spanEnd and List.
-/
import Derived.Test.YthifbihmogjjpaaDoorWp
import Derived.Deep.RegionHeld3
import Derived.Deep.AppendLies
import Derived.OwnWalk
import Derived.Test.YthifbihmogjjpaaDoorPj
namespace Go.Proofs.YthifbihmogjjpaaDoor
open Go.ChangeShapes Go.WideShapes Go.ChangeAt Go.RowKit Go.Proofs

set_option maxRecDepth 100000 in
set_option maxHeartbeats 1000000 in
theorem spanEnd_any (A : Option Addr) (c : Nat) (l : List Int) (a : Nat) (w : World) (hl : IntsAt w A l) (hr : l.any Pl.outR = false) (hn : l.length ≤ 4294967295) (ha : a < l.length) :
    Calls Tryd.prog 34 #[.slice A l.length c, .int .i64 (a : Int)] w fun e w' => e = .returned (.int .i64 (Pl.spanE l a : Int)) ∧ Below w.heap.size w w' := by
  go_enter Tryd.func34, Tryd.ntmps34
  go_wp2_with fail
  go_loopw [5] (fun i wr => ∃ k : Nat, a + 1 ≤ k ∧ k ≤ l.length ∧ i = .int .i64 k ∧ Below w.heap.size w wr ∧ Pl.spanE l a = k + Pl.goOn (Pl.el l (k - 1)) (l.drop k)) (fun i _ => l.length - (intOf i).toNat)
  case atStart => exact ⟨a + 1, Nat.le_refl _, ha, by go_num, Below.refl _ _, rfl⟩
  case round =>
    obtain ⟨k, hk1, hk, rfl, hb, hs⟩ := hrel
    have HS := Lib.hid hs
    have HB := Lib.hid hb
    have hsz := hb.size
    have hl' := hl.below hb (Nat.le_refl _)
    clear hs hb hl
    by_cases hlt : k < l.length
    · rcases hl' with h0 | ⟨b, off, rfl, hbl, hc⟩
      · subst h0; simp at hlt
      obtain ⟨m, rfl⟩ : ∃ m, k = m + 1 := ⟨k - 1, by omega⟩
      have g0 := hc m (by omega)
      have g1 := hc (m + 1) hlt
      clear hc
      have r0 := Pl.outR_el l hr m
      have r1 := Pl.outR_el l hr (m + 1)
      have HR := Lib.hid hr
      clear hr
      obtain ⟨x, hx⟩ : ∃ x, Pl.el l m = x := ⟨_, rfl⟩
      obtain ⟨y, hy⟩ : ∃ y, Pl.el l (m + 1) = y := ⟨_, rfl⟩
      rw [hx] at g0 r0
      rw [hy] at g1 r1
      have HX := Lib.hid hx
      have HY := Lib.hid hy
      clear hx hy
      obtain ⟨r00, r01⟩ := r0
      obtain ⟨r10, r11⟩ := r1
      have e1 : (m : Int) < (l.length : Int) := by omega
      have e2 : (m : Int) + 1 < (l.length : Int) := by omega
      have d1 : decide ((m : Int) + 1 < (l.length : Int)) = true := by simp; omega
      by_cases hxy : y = x + 1
      · have q : (y == x + 1) = true := by simpa using hxy
        have H : Hid (Pl.spanE l a = m + 1 + 1 + Pl.goOn (Pl.el l (m + 1 + 1 - 1)) (l.drop (m + 1 + 1))) := Lib.hid (by
          rw [HS.out, Pl.goOn_step l (m + 1) hlt (by omega) (by rw [HY.out, Nat.add_sub_cancel, HX.out]; exact hxy)]
          simp only [Nat.add_sub_cancel]; omega)
        clear hxy
        go_wp2_with fail
        go_quiet (fail)
        go_wp2_with fail
        go_roundw
        case rel => exact ⟨m + 1 + 1, by omega, by omega, by go_num, HB.out.trans ((below_drewN' _).mono hsz), H.out⟩
        case measure => simp [intOf]; omega
      · have q : (y == x + 1) = false := by simpa using hxy
        have H : Hid (Pl.spanE l a = m + 1) := Lib.hid (by
          rw [HS.out, Pl.goOn_stop l (m + 1) hlt (by rw [HY.out, Nat.add_sub_cancel, HX.out]; exact hxy)])
        clear hxy
        go_wp2_with fail
        go_quiet (fail)
        go_wp2_with fail
        go_ret
        exact retI (by rw [H.out]) (HB.out.trans ((below_drewN' _).mono hsz))
    · have H : Hid (Pl.spanE l a = k) := Lib.hid (by rw [HS.out, Pl.goOn_end l k (by omega)]; rfl)
      have d1 : decide ((k : Int) < (l.length : Int)) = false := by simp; omega
      go_wp2_with fail
      go_quiet (fail)
      go_wp2_with fail
      go_ret
      exact retI (by rw [H.out]) (HB.out.trans ((below_drewN' _).mono hsz))

def SV (t : List UInt8) : Value := .string ⟨t.toArray⟩
theorem infoS : (Tryd.prog.info? 9).map (fun i => (i.zero, i.size, i.bytes)) = some (some (.string ⟨#[]⟩), 1, 16) := by kernel_rfl
theorem own_snocS {w : World} {base : Nat} {v : Value} {ts : List (List UInt8)} {t : List UInt8} (h : w.ownsRow base 9 1 v (ts.length + 1) (ts.map SV ++ [.string ⟨t.toArray⟩])) : w.ownsRow base 9 1 v (ts ++ [t]).length ((ts ++ [t]).map SV) := by
  simpa [SV] using h

set_option maxRecDepth 100000 in
set_option maxHeartbeats 1000000 in
theorem List_bad (A : Option Addr) (c : Nat) (l : List Int) (w : World) (hl : IntsAt w A l) (hf : Fits l) (hn : l.length ≤ 4294967295) (h : ¬ Pl.chk l = 0) :
    Calls Tryd.prog 17 #[.slice A l.length c] w fun e w' => e = .returned (.tuple #[.string ⟨#[]⟩, .int .i64 (Pl.chk l)]) ∧ Below w.heap.size w w' := by
  obtain ⟨x, hx⟩ : ∃ x, Pl.chk l = x := ⟨_, rfl⟩
  rw [hx] at h ⊢
  have HX := Lib.hid hx
  have q1 : (x == 0) = false := by simpa using h
  have q2 : (x != 0) = true := by simpa using h
  clear hx h
  go_enter Tryd.func17, Tryd.ntmps17
  go_wp2_with (go_at_call 33; refine (checkList_any A c l _ hl hf hn).mono ?_; rw [HX.out]; rintro e w1 ⟨rfl, hb⟩; have HB := Lib.hid hb; clear hb)
  go_ret2
  exact ⟨rfl, HB.out⟩

set_option maxRecDepth 100000 in
set_option maxHeartbeats 1000000 in
theorem List_good (A : Option Addr) (c : Nat) (l : List Int) (w : World) (hlb : LibAt w) (h9 : 9 ≤ w.heap.size) (hl : IntsAt w A l) (hf : Fits l) (hn : l.length ≤ 4294967295) (h : Pl.chk l = 0) :
    Calls Tryd.prog 17 #[.slice A l.length c] w fun e w' => e = .returned (.tuple #[.string ⟨(Pl.listE l).2.toArray⟩, .int .i64 0]) ∧ Below w.heap.size w w' := by
  have HX := Lib.hid h
  by_cases h0 : l = []
  · have H : Hid (Pl.listE l = (0, [45])) := Lib.hid (by unfold Pl.listE; rw [if_pos h, if_pos h0])
    have hlen : l.length = 0 := by rw [h0]; rfl
    have q : ((l.length : Int) == 0) = true := by simpa using hlen
    have HL := Lib.hid hlen
    clear h h0 hlen
    go_enter Tryd.func17, Tryd.ntmps17
    go_wp2_with (go_at_call 33; refine (checkList_any _ c l _ hl hf hn).mono ?_; rw [HX.out]; rintro e w1 ⟨rfl, hb⟩; have HB := Lib.hid hb; clear hb)
    go_ret2
    exact ⟨by rw [H.out]; rfl, HB.out⟩
  have H : Hid (Pl.listE l = (0, Lib.join (Pl.parts l) [44])) := Lib.hid (by unfold Pl.listE; rw [if_pos h, if_neg h0])
  have hpos : 0 < l.length := List.length_pos_iff.2 h0
  have q : ((l.length : Int) == 0) = false := by simp; omega
  have h500 : l.length ≤ 500 := by
    unfold Pl.chk at h
    by_cases h5 : 500 < l.length
    · rw [if_pos h5] at h; cases h
    · omega
  have hr : l.any Pl.outR = false := by
    unfold Pl.chk at h
    rw [if_neg (by omega)] at h
    cases hh : l.any Pl.outR with
    | true => rw [hh] at h; simp at h
    | false => rfl
  have HR := Lib.hid hr
  obtain ⟨i0, hi, hz0, hz1, hz2⟩ := info_parts infoS
  have hA : ∃ b off, A = some ⟨b, off, none⟩ ∧ b < w.heap.size := by
    rcases hl with h1 | ⟨b, off, hA, hbl, _⟩
    · exact absurd h1 h0
    · exact ⟨b, off, hA, hbl⟩
  obtain ⟨b, off, rfl, hbl⟩ := hA
  clear h h0 hr
  go_enter Tryd.func17, Tryd.ntmps17
  go_wp2_with (go_at_call 33; refine (checkList_any _ c l _ hl hf hn).mono ?_; rw [HX.out]; rintro e w1 ⟨rfl, hb⟩; have hl1 := hl.below hb (Nat.le_refl _); have hlb1 := hlb.below hb h9; have hsz1 := hb.size; have HB := Lib.hid hb; clear hb hl hlb)
  go_loopw [5, 6] (fun v i wr => ∃ (k : Nat) (ts : List (List UInt8)), k ≤ l.length ∧ ts.length ≤ k ∧ i = .int .i64 k ∧ wr.ownsRow w1.heap.size 9 1 v ts.length (ts.map SV) ∧ Below w1.heap.size w1 wr ∧ Pl.parts l = ts ++ Pl.parts (l.drop k) ∧ (∀ t ∈ ts, t.length ≤ 100)) (fun _ i _ => l.length - (intOf i).toNat)
  case atStart => exact ⟨0, [], Nat.zero_le _, Nat.zero_le _, rfl, World.ownsRow_nil _ _ _ _, Below.refl _ _, by simp, by simp⟩
  case round =>
    obtain ⟨k, ts, hk, htk, rfl, hown, hb, hp, ht⟩ := hrel
    have HP := Lib.hid hp
    have HT := Lib.hid ht
    have hsz := hb.size
    have HB1 := Lib.hid hb
    have hl2 := hl1.below hb (Nat.le_refl _)
    have hlb2 := hlb1.below hb (by omega)
    clear hp ht hb hl1 hlb1
    by_cases hlt : k < l.length
    · have hse := Pl.spanE_bound l k hlt
      obtain ⟨e1, e2⟩ := hse
      have HPA := Lib.hid (Pl.parts_at l k hlt)
      go_wp2_with (go_at_call 34; refine (spanEnd_any _ c l k _ hl2 HR.out hn hlt).mono ?_; rintro e w2 ⟨rfl, hb2⟩; have hl3 := hl2.below hb2 (Nat.le_refl _); have hlb3 := hlb2.below hb2 (by omega); have hsz2 := hb2.size; have hown2 := own_below hown hb2; have HB2 := Lib.hid hb2; clear hb2 hl2 hlb2 hown)
      rcases hl3 with h0 | ⟨b', off', hA', _, hc⟩
      · subst h0; simp at hlt
      injection hA' with hA'
      injection hA' with e3 e4
      subst e3 e4
      obtain ⟨m, hm⟩ : ∃ m, Pl.spanE l k = m + 1 := ⟨Pl.spanE l k - 1, by omega⟩
      have g0 := hc k hlt
      have g1 := hc m (by omega)
      clear hc
      rw [hm] at e1 e2
      have HM := Lib.hid hm
      rw [hm]
      clear hm
      have r0 := Pl.outR_el l HR.out k
      have r1 := Pl.outR_el l HR.out m
      obtain ⟨x, hx⟩ : ∃ x, Pl.el l k = x := ⟨_, rfl⟩
      obtain ⟨y, hy⟩ : ∃ y, Pl.el l m = y := ⟨_, rfl⟩
      rw [hx] at g0 r0
      rw [hy] at g1 r1
      have HXX := Lib.hid hx
      have HYY := Lib.hid hy
      clear hx hy
      obtain ⟨r00, r01⟩ := r0
      obtain ⟨r10, r11⟩ := r1
      have l1 : (k : Int) < (l.length : Int) := by omega
      have l2 : (m : Int) < (l.length : Int) := by omega
      go_wp2_with fail
      have l3 : (0 : Int) ≤ (m : Int) := Int.natCast_nonneg _
      have l4 : (0 : Int) ≤ (k : Int) := Int.natCast_nonneg _
      have lw : IntKind.i64.wrap (m : Int) = (m : Int) := IntWalk.i64_in _ (by omega)
      have lw2 : IntKind.i64.wrap ((m : Int) + 1 - 1) = (m : Int) := by rw [Int.add_sub_cancel]; exact lw
      have hnb : some b ≠ u5.ownBlock := fun e => by have := (hown2.lt _ e.symm).1; omega
      go_region_held3 (fun w' => w'.cell? ⟨b, off + k, none⟩ = some (.int .i64 x) ∧ w'.cell? ⟨b, off + m, none⟩ = some (.int .i64 y))
        (first
          | go_keep
          | (exact ⟨q0, q1⟩)
          | (exact ⟨(hgrow.cell (a := ⟨b, off + k, none⟩) (World.cell?_alloc_lt _ _ _ (by simp; omega) |>.trans q0) hnb), (hgrow.cell (a := ⟨b, off + m, none⟩) (World.cell?_alloc_lt _ _ _ (by simp; omega) |>.trans q1) hnb)⟩))
        (first
          | (go_at_call 35; refine (writtenSpan_any x y _ (by exact hlb3) (by simp; omega) r00 r01 r10 r11).mono ?_; rintro e w3 ⟨rfl, hb3⟩; have q0 := (hb3.cell (p := ⟨b, off + k, none⟩) (by simp; omega)).trans g0; have q1 := (hb3.cell (p := ⟨b, off + m, none⟩) (by simp; omega)).trans g1; have hown3 := own_below (w := w2.drew) hown2 hb3; have hsz3 : w2.heap.size ≤ w3.heap.size := hb3.size; have HB3 := Lib.hid hb3; clear hb3)
          | (refine step_append_lies _ (by rfl) _ _ _ (by rfl) w1.heap.size 9 i0 _ 1 16 Tryd.underlying54 hi hz0 hz1 hz2 rfl (by omega) u5 ts.length (ts.map SV) (by rfl) (hown3.alloc _)
              ⟨w3.heap.size, 0, none⟩ 1 1 [.string ⟨(Pl.wr2 x y).toArray⟩] (by rfl) (by rfl) (World.news_of_block (cs := #[.string ⟨(Pl.wr2 x y).toArray⟩]) (t := 9) (fr := (0, 0)) (heap_alloc_new w3 _)) (by simp [Value.oneCell'])
              (by omega) (by unfold maxLen; omega) (by omega) (by simp; omega) (w3.heap.size + 1) (by simp) ?_; intro g9 cap9 w4 hown4 hgrow hat hlt4))
      go_wp2_with fail
      go_roundw
      case rel =>
        have h1 : Below w1.heap.size w1 w2 := below_of HB1.out HB2.out (Nat.le_refl _)
        have h2 : Below w1.heap.size w1 w3 := h1.trans (Below.mono (B := w2.heap.size) ⟨HB3.out.os, HB3.out.tape, HB3.out.output, HB3.out.size, HB3.out.block⟩ (by omega))
        have h3 := (h2.alloc (by omega) (.cells #[.string ⟨(Pl.wr2 x y).toArray⟩] 9)).grown hgrow (by simp; omega) (fun q hq => (hown3.lt q hq).1)
        refine ⟨m + 1, ts ++ [Pl.wr2 x y], by omega, by simp; omega, by go_num, own_snocS hown4, h3, ?_, ?_⟩
        · rw [HP.out, HPA.out, HM.out, Nat.add_sub_cancel, HXX.out, HYY.out]; simp
        · intro t hm
          rcases List.mem_append.1 hm with h | h
          · exact HT.out t h
          · rw [List.mem_singleton.1 h]; exact Pl.wr2_len x y (by omega) (by omega) (by omega) (by omega)
      case measure => simp [intOf]; omega
    · have hall : Pl.parts l = ts := by
        have := HP.out
        rw [List.drop_eq_nil_of_le (by omega)] at this
        simpa [Pl.parts, Pl.parts'] using this
      have hne : ts ≠ [] := by
        rw [← hall]
        cases l with
        | nil => simp at hpos
        | cons x r => rw [Pl.parts_cons]; simp
      have hn1 : 0 < ts.length := List.length_pos_iff.2 hne
      obtain ⟨g, cap, rfl, hcells⟩ : ∃ g cap, u5 = .slice (some ⟨g, 0, none⟩) ts.length cap ∧ (∀ (j : Nat) (u : Value), (ts.map SV)[j]? = some u → wr.cell? ⟨g, 0 + j, none⟩ = some u) ∧ ts.length ≤ cap ∧ g < wr.heap.size := by
        rcases hown.2 with ⟨_, h0⟩ | ⟨g, cap, cur, hv, _, hh, hcap, _⟩
        · omega
        · refine ⟨g, cap, hv, fun j u hu => ?_, hcap, (Array.getElem?_eq_some_iff.1 hh).1⟩
          have := hown.cells (g := g) (by rw [hv]; rfl) j u hu
          have hadd : (⟨g, 0, none⟩ : Addr).add j = ⟨g, 0 + j, none⟩ := by unfold Addr.add; split <;> simp_all
          rwa [hadd] at this
      obtain ⟨hcells, hcap, hg⟩ := hcells
      have hj : Calls Tryd.prog 36 #[.slice (some ⟨g, 0, none⟩) ts.length cap, .string ⟨#[44]⟩] wr fun e w' => e = .returned (.string ⟨(Lib.join ts [44]).toArray⟩) ∧ Below wr.heap.size wr w' := by
        have hmap : (ts.map fun t => (⟨t.toArray⟩ : ByteArray)).map (·.data.toList) = ts := by
          rw [List.map_map]; conv => rhs; rw [← List.map_id ts]
          exact List.map_congr_left (fun t _ => by simp)
        have hln : (ts.map fun t => (⟨t.toArray⟩ : ByteArray)).length = ts.length := List.length_map _
        have := Tryd.strings_Join g 0 cap (ts.map fun t => (⟨t.toArray⟩ : ByteArray)) ⟨#[44]⟩ wr (fun j u hu => hcells j _ (by rw [List.getElem?_map] at hu ⊢; cases hh : ts[j]? with | none => rw [hh] at hu; cases hu | some t => rw [hh] at hu; simp at hu; rw [← hu]; rfl)) hg (by omega) (by omega) (by
            rw [hmap]
            have := Pl.join_len ts HT.out
            show (Lib.join ts [44]).length ≤ _
            omega)
        rw [hmap, hln] at this
        exact this
      have HJ := Lib.hid hj
      have HALL := Lib.hid hall
      clear hj hall hcells
      go_wp2_with (go_at_call 36; refine HJ.out.mono ?_; rintro e w5 ⟨rfl, hb5⟩; have HB5 := Lib.hid hb5; clear hb5)
      go_ret2
      exact ⟨by rw [H.out, HALL.out]; rfl, HB.out.trans ((HB1.out.mono hsz1).trans (HB5.out.mono (by omega)))⟩

/-- List, of a list that fits -/
theorem List_any (A : Option Addr) (c : Nat) (l : List Int) (w : World) (hlb : LibAt w) (h9 : 9 ≤ w.heap.size) (hl : IntsAt w A l) (hf : Fits l) (hn : l.length ≤ 4294967295) :
    Calls Tryd.prog 17 #[.slice A l.length c] w fun e w' => e = .returned (.tuple #[.string ⟨(Pl.listE l).2.toArray⟩, .int .i64 (Pl.listE l).1]) ∧ Below w.heap.size w w' := by
  by_cases h : Pl.chk l = 0
  · have h1 : (Pl.listE l).1 = 0 := by unfold Pl.listE; rw [if_pos h]; split <;> rfl
    rw [h1]
    exact List_good A c l w hlb h9 hl hf hn h
  · have h1 : Pl.listE l = (Pl.chk l, []) := by unfold Pl.listE; rw [if_neg h]
    rw [h1]
    exact List_bad A c l w hl hf hn h
end Go.Proofs.YthifbihmogjjpaaDoor
