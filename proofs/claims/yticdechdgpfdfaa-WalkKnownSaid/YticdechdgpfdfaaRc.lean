/-
  Runs: before, indexOf, the two searches.
-/
import Derived.Test.YticdechdgpfdfaaRb
namespace Go.Proofs.Yticdechdgpfdfaa.KK
open Go.ChangeShapes Go.WideShapes Go.ChangeAt Go.RowKit Go.Proofs

/-- a run's index lies in boxes: entries, fence -/
theorem boxI3 (B : Option Addr) (n d : Nat) (s : Int) (A : Option Addr) (m c : Nat) (key : ByteArray) (past : Bool) (w : World) : Hid (∀ w', Below (((w.alloc (.cells #[.slice B n d, .int .i64 s, .slice A m c] 75)).alloc (.cells #[.string key] 9)).alloc (.cells #[.bool past] 4)).heap.size (((w.alloc (.cells #[.slice B n d, .int .i64 s, .slice A m c] 75)).alloc (.cells #[.string key] 9)).alloc (.cells #[.bool past] 4)) w' →
    w'.cell? ⟨w.heap.size, 0, none⟩ = some (.slice B n d) ∧ w'.cell? ⟨w.heap.size, 1, none⟩ = some (.int .i64 s) ∧ w'.cell? ⟨w.heap.size, 2, none⟩ = some (.slice A m c) ∧ w'.cell? ⟨w.heap.size + 1, 0, none⟩ = some (.string key) ∧ w'.cell? ⟨w.heap.size + 2, 0, none⟩ = some (.bool past) ∧ w.heap.size + 2 < w'.heap.size ∧ Below w.heap.size w w') := Lib.hid fun w' h => by
  have b1 := alloc_below w (.cells #[.slice B n d, .int .i64 s, .slice A m c] 75)
  have b2 := alloc_below (w.alloc (.cells #[.slice B n d, .int .i64 s, .slice A m c] 75)) (.cells #[.string key] 9)
  have b3 := alloc_below ((w.alloc (.cells #[.slice B n d, .int .i64 s, .slice A m c] 75)).alloc (.cells #[.string key] 9)) (.cells #[.bool past] 4)
  have c2 : Below ((w.alloc (.cells #[.slice B n d, .int .i64 s, .slice A m c] 75)).alloc (.cells #[.string key] 9)).heap.size ((w.alloc (.cells #[.slice B n d, .int .i64 s, .slice A m c] 75)).alloc (.cells #[.string key] 9)) w' := b3.trans (h.mono (by simp))
  have c1 : Below (w.alloc (.cells #[.slice B n d, .int .i64 s, .slice A m c] 75)).heap.size (w.alloc (.cells #[.slice B n d, .int .i64 s, .slice A m c] 75)) w' := b2.trans (c2.mono (by simp))
  refine ⟨?_, ?_, ?_, ?_, ?_, ?_, b1.trans (c1.mono (by simp))⟩
  · exact (c1.cell (p := ⟨w.heap.size, 0, none⟩) (by simp)).trans (cell_of_row _ w.heap.size 0 _ _ _ (heap_alloc_new w _))
  · exact (c1.cell (p := ⟨w.heap.size, 1, none⟩) (by simp)).trans (cell_of_row _ w.heap.size 1 _ _ _ (heap_alloc_new w _))
  · exact (c1.cell (p := ⟨w.heap.size, 2, none⟩) (by simp)).trans (cell_of_row _ w.heap.size 2 _ _ _ (heap_alloc_new w _))
  · exact (c2.cell (p := ⟨w.heap.size + 1, 0, none⟩) (by simp)).trans (by simp)
  · refine (h.cell (p := ⟨w.heap.size + 2, 0, none⟩) (by simp)).trans ?_
    have e := heap_alloc_new ((w.alloc (.cells #[.slice B n d, .int .i64 s, .slice A m c] 75)).alloc (.cells #[.string key] 9)) (.cells #[.bool past] 4)
    rw [show ((w.alloc (.cells #[.slice B n d, .int .i64 s, .slice A m c] 75)).alloc (.cells #[.string key] 9)).heap.size = w.heap.size + 2 by simp] at e
    exact cell_of_row _ (w.heap.size + 2) 0 _ _ _ e
  · have := h.size; simp at this; omega
theorem search_nil (pa pb pc : Option Addr) (w : World) :
    Calls Try.prog 61 #[.int .i64 0, .func (.func 62) #[] #[.pointer pa, .pointer pb, .pointer pc]] w fun e w' => e = .returned (.int .i64 0) ∧ Below w.heap.size w w' := by
  refine (Search_R 0 (fun _ => true) pa pb pc w (by omega) (fun i hi => by omega) (fun a b _ hb => by omega)).mono ?_
  rintro e w' ⟨⟨r, rfl, g1, _⟩, hb⟩
  obtain rfl : r = 0 := by omega
  exact ⟨rfl, hb⟩
/-- what an index knows -/
structure IxOk (B : Option Addr) (d : Nat) (xs : List El.En) (ms : List ByteArray) : Prop where
  cap : xs.length ≤ d
  nil : B = none → d = 0
  len : xs.length ≤ 5000
  key : ∀ x ∈ xs, x.1.size ≤ 32
  asc : SK xs
  good : Good (16 : Nat) ms
  fit : fitsF 16 ms xs = true
theorem span_ok {B : Option Addr} {d : Nat} {xs : List El.En} {ms : List ByteArray} (I : IxOk B d xs ms) {key : ByteArray} (hk : key.size ≤ 32) :
    spanE ((16 : Nat) : Int) ms ((xs.length : Nat) : Int) key = (((upN ms key * 16 : Nat) : Int), ((min (upN ms key * 16 + 16) xs.length : Nat) : Int), 0) := by
  have h := spanE_ok (s := ((16 : Nat) : Int)) (ms := ms) (n := ((xs.length : Nat) : Int)) (key := key) (by rw [keyE_ok (by rw [good_chk I.good])]; exact chk1_ok hk) (by have := I.len; omega) (by
    rw [show ((16 : Nat) : Int).toNat = 16 by omega, show ((xs.length : Nat) : Int).toNat = xs.length by omega]; exact fits_len I.fit)
  rw [show ((16 : Nat) : Int).toNat = 16 by omega, show ((xs.length : Nat) : Int).toNat = xs.length by omega] at h
  exact h
theorem Good.sized {s : Int} {ms : List ByteArray} (h : Good s ms) : SizedS ms := fun m hm => by have := h.key m hm; omega
set_option maxRecDepth 100000 in
set_option maxHeartbeats 2000000 in
theorem before_any (B : Option Addr) (d : Nat) (xs : List El.En) (A : Option Addr) (c : Nat) (ms : List ByteArray) (key : ByteArray) (past : Bool) (w : World) (hg : EsAt w B xs) (hf : SsAt w A ms) (I : IxOk B d xs ms) (hk : key.size ≤ 32) :
    Calls Try.prog 51 #[.agg #[.slice B xs.length d, .int .i64 16, .slice A ms.length c], .string key, .bool past] w fun e w' => e = .returned (.int .i64 (befN xs key past)) ∧ Below w.heap.size w w' := by
  have hms := fits_len I.fit
  obtain ⟨p1, p2⟩ := part_len (key := key) (st := 16) (by omega) hms
  have hp := bef_part (by omega) I.asc I.fit key past
  have hbl := befN_le (partE 16 ms xs key) key past
  obtain ⟨n, hn⟩ : ∃ n, xs.length = n := ⟨_, rfl⟩
  obtain ⟨f, hfr⟩ : ∃ f, upN ms key * 16 = f := ⟨_, rfl⟩
  obtain ⟨t, hto⟩ : ∃ t, min (f + 16) n = t := ⟨_, rfl⟩
  have J1 : Hid (∀ w1, Below w.heap.size w w1 → Calls Try.prog 60 #[.agg #[.int .i64 16, .slice A ms.length c], .int .i64 (n : Int), .string key] w1 fun e w' => e = .returned (.tuple #[.int .i64 (f : Int), .int .i64 (t : Int), .int .i64 0]) ∧ Below w1.heap.size w1 w') := Lib.hid (fun w1 (h : Below w.heap.size w w1) => by
    have K := pSpan7_any ((16 : Nat) : Int) A c ms ((xs.length : Nat) : Int) key w1 (hf.below h (Nat.le_refl _)) (by have := I.good.len; omega) I.good.sized (by omega)
    rw [span_ok I hk, hfr, hn, hto] at K; exact K)
  have HS := Lib.hid (fun (h : f < n) => hg.sub (from_ := f) (n := t - f) (by omega) (by omega))
  have hpk : ∀ x ∈ partE 16 ms xs key, x.1.size ≤ 32 := sub_key I.key _ _
  have hps : SK (partE 16 ms xs key) := sub_sk I.asc _ _
  rw [hfr, hn] at p1
  rw [hfr, hn, hto] at p2
  have J2 := Lib.hid (fun A' w1 (lb : Nat) (hE : EsAt w1 A' (partE 16 ms xs key)) C (hl : w1.cell? ⟨lb, 0, none⟩ = some (.slice A' (partE 16 ms xs key).length C)) (hlb : lb < w1.heap.size) (hkc : w1.cell? ⟨w.heap.size + 1, 0, none⟩ = some (.string key)) (hpc : w1.cell? ⟨w.heap.size + 2, 0, none⟩ = some (.bool past)) (hkb : w.heap.size + 2 < w1.heap.size) => search_any A' C (partE 16 ms xs key) key past lb (w.heap.size + 1) (w.heap.size + 2) w1 hE hl hlb hkc (by omega) hpc hkb (by have := I.len; rw [p2]; omega) hpk hk hps)
  have hcap := I.cap
  have hnil := I.nil
  have hlen := I.len
  have HE : Hid (partE 16 ms xs key = (xs.drop f).take (t - f)) := Lib.hid (by unfold partE; rw [hfr, hn, hto])
  have hlt' : n ≠ 0 → f < n := fun h0 => by
    have hup := upN_le ms key
    by_cases e : upN ms key = 0
    · omega
    · obtain ⟨q, hq⟩ : ∃ q, upN ms key = q + 1 := ⟨upN ms key - 1, by omega⟩
      have := mk_idx (n := n) (st := 16) (i := q) (by omega) (by rw [← hn, ← hms]; omega)
      rw [← hq, hfr] at this; exact this
  rw [hn] at hcap hlen ⊢
  rw [hfr] at hp
  rw [p2] at J2 hbl
  rw [hp]
  clear hf hpk hps I hk hn hms hfr hp
  generalize partE 16 ms xs key = pt at *
  have HX := boxI3 B n d 16 A ms.length c key past w
  obtain ⟨x0, x1, x2, x3, x4, x5, x6⟩ := HX.out _ (Below.refl _ _)
  have HB := Lib.hid x6
  clear x6 x5
  by_cases h0 : n = 0
  · subst h0
    obtain rfl : f = 0 := by omega
    obtain rfl : t = 0 := by omega
    obtain rfl : pt = [] := by rw [HE.out]; simp
    have e1 : befN ([] : List El.En) key past = 0 := by omega
    rw [e1]
    clear J2 HS HE hg hbl p1 p2 e1 hto
    cases B with
    | none =>
      obtain rfl := hnil rfl
      go_enter Try.func51, Try.ntmps51
      go_wp2_with fail
      refine (J1.out _ HB.out).mono ?_
      rintro e w1 ⟨rfl, hb⟩
      obtain ⟨y0, y1, y2, y3, y4, y5, y6⟩ := HX.out _ hb
      have HB1 := Lib.hid y6
      clear hb x0 x1 x2 x3 x4 y6
      go_wp2_with fail
      refine (search_nil _ _ _ _).mono ?_
      rintro e w2 ⟨rfl, hb⟩
      have HB2 := Lib.hid (eb_of HB1.out ((alloc_below w1 _).trans (hb.mono (by simp))) (Nat.le_refl _))
      clear hb
      go_wp2_with fail
      go_ret
      exact ⟨by first | rfl | simp, HB2.out⟩
    | some a =>
      by_cases h0 : d = 0
      · subst h0
        go_enter Try.func51, Try.ntmps51
        go_wp2_with fail
        refine (J1.out _ HB.out).mono ?_
        rintro e w1 ⟨rfl, hb⟩
        obtain ⟨y0, y1, y2, y3, y4, y5, y6⟩ := HX.out _ hb
        have HB1 := Lib.hid y6
        clear hb x0 x1 x2 x3 x4 y6
        go_wp2_with fail
        refine (search_nil _ _ _ _).mono ?_
        rintro e w2 ⟨rfl, hb⟩
        have HB2 := Lib.hid (eb_of HB1.out ((alloc_below w1 _).trans (hb.mono (by simp))) (Nat.le_refl _))
        clear hb
        go_wp2_with fail
        go_ret
        exact ⟨by first | rfl | simp, HB2.out⟩
      · go_enter Try.func51, Try.ntmps51
        go_wp2_with fail
        refine (J1.out _ HB.out).mono ?_
        rintro e w1 ⟨rfl, hb⟩
        obtain ⟨y0, y1, y2, y3, y4, y5, y6⟩ := HX.out _ hb
        have HB1 := Lib.hid y6
        clear hb x0 x1 x2 x3 x4 y6
        go_wp2_with fail
        refine (search_nil _ _ _ _).mono ?_
        rintro e w2 ⟨rfl, hb⟩
        have HB2 := Lib.hid (eb_of HB1.out ((alloc_below w1 _).trans (hb.mono (by simp))) (Nat.le_refl _))
        clear hb
        go_wp2_with fail
        go_ret
        exact ⟨by first | rfl | simp, HB2.out⟩
  · have hlt := hlt' h0
    obtain ⟨b, off, rfl, hsub⟩ := HS.out hlt
    rw [← HE.out] at hsub
    have HG := Lib.hid hsub
    have hft : f < t := by omega
    have htd : (t : Int) ≤ (d : Int) := by omega
    have hft' : (f : Int) ≤ (t : Int) := by omega
    have htn : t ≤ n := by omega
    generalize befN pt key past = r at *
    clear HS HE hg hsub hto hnil
    go_enter Try.func51, Try.ntmps51
    go_wp2_with fail
    refine (J1.out _ HB.out).mono ?_
    rintro e w1 ⟨rfl, hb⟩
    obtain ⟨y0, y1, y2, y3, y4, y5, y6⟩ := HX.out _ hb
    have HB1 := Lib.hid y6
    clear hb x0 x1 x2 x3 x4 y6
    go_wp2_with fail
    refine (J2.out _ _ w1.heap.size (HG.out.below (HB1.out.trans ((alloc_below w1 _).mono HB1.out.size)) (Nat.le_refl _)) _ (str_box _ _ _) (by simp) (Lib.cell?_alloc_some _ y3) (Lib.cell?_alloc_some _ y4) (by simp; omega)).mono ?_
    rintro e w2 ⟨rfl, hb⟩
    have HB2 := Lib.hid (eb_of HB1.out ((alloc_below w1 _).trans (hb.mono (by simp))) (Nat.le_refl _))
    clear hb
    go_wp2_with fail
    go_ret
    exact ⟨retI (by go_num), HB2.out⟩
end Go.Proofs.Yticdechdgpfdfaa.KK
