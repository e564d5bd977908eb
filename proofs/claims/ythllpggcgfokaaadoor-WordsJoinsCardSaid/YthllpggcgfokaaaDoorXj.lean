/-
  The contract of the reference's Join.
-/
import Derived.Test.YthllpggcgfokaaaDoorXi
namespace Go.Proofs.YthllpggcgfokaaaDoor
open Go.ChangeShapes Go.WideShapes Go.ChangeAt Go.RowKit Go.Proofs

theorem rbare_f (t : List UInt8) (w : World) (hs : t.length ≤ 4294967295) :
    Calls Tryd.prog 46 #[.string ⟨t.toArray⟩] w fun e w' => e = .returned (.bool (Pl.bareS t)) ∧ w = w' := by
  have := rbare_any ⟨t.toArray⟩ w (by rw [size_mk]; exact hs)
  rwa [L_mk] at this
theorem rQuote_f (t : List UInt8) (w : World) (hs : t.length ≤ 4294967295) :
    Calls Tryd.prog 21 #[.string ⟨t.toArray⟩] w fun e w' => e = .returned (.string ⟨(Pl.quote t).toArray⟩) ∧ Below w.heap.size w w' := by
  have := rQuote_any ⟨t.toArray⟩ w (by rw [size_mk]; exact hs)
  rwa [L_mk] at this
theorem cat3 (t u : List UInt8) : (⟨t.toArray⟩ : ByteArray) ++ ⟨#[32]⟩ ++ ⟨u.toArray⟩ = ⟨(t ++ 32 :: u).toArray⟩ := by
  rw [show (⟨#[32]⟩ : ByteArray) = ⟨[32].toArray⟩ from rfl, bytes_app, bytes_app]
  simp
theorem tooF_len (fs : List (List UInt8 × Bool)) (h : 64 < fs.length) : Pl.join fs = (3, []) := by
  unfold Pl.join Pl.tooF
  rw [if_pos]; simp [h]
theorem tooF_one (fs : List (List UInt8 × Bool)) (k : Nat) (hk : k < fs.length) (h : 2000 < fs[k].1.length) : Pl.join fs = (3, []) := by
  unfold Pl.join Pl.tooF
  rw [if_pos]
  rw [any_at fs k hk (by simpa using h)]; simp

set_option maxRecDepth 100000 in
set_option maxHeartbeats 2000000 in
theorem rJoin_any (A : Option Addr) (c : Nat) (fs : List (List UInt8 × Bool)) (w : World) (hf : FldsAt w A fs) (hn : fs.length ≤ 4294967295) :
    Calls Tryd.prog 27 #[.slice A fs.length c] w fun e w' => e = .returned (.tuple #[.string ⟨(Pl.join fs).2.toArray⟩, .int .i64 (Pl.join fs).1]) ∧ Below w.heap.size w w' := by
  by_cases h64 : 64 < fs.length
  · have H := Lib.hid (tooF_len fs h64)
    go_enter Tryd.func27, Tryd.ntmps27
    go_wp2_with fail
    go_ret2
    exact ⟨by rw [H.out]; rfl, Below.refl _ w⟩
  have HF := Lib.hid hf
  clear hf
  go_enter Tryd.func27, Tryd.ntmps27
  go_wp2_with fail
  go_loop [4] (fun i => ∃ k : Nat, k ≤ fs.length ∧ i = .int .i64 k ∧ (fs.take k).any (fun f => decide (2000 < f.1.length)) = false) (fun i => fs.length - (intOf i).toNat)
  case atStart => exact ⟨0, Nat.zero_le _, rfl, rfl⟩
  case round =>
    obtain ⟨k, hk, rfl, ha⟩ := hrel
    have HA := Lib.hid ha
    clear ha
    by_cases hlt : k < fs.length
    · rcases HF.out with h0 | ⟨b, off, rfl, hbl, hc⟩
      · subst h0; simp at hlt
      obtain ⟨g0, g1⟩ := hc k hlt
      clear hc
      obtain ⟨⟨x, q⟩, hfk⟩ : ∃ y, fs[k] = y := ⟨_, rfl⟩
      rw [hfk] at g0 g1
      have HFK := Lib.hid hfk
      clear hfk
      by_cases hl : 2000 < x.length
      · have H := Lib.hid (tooF_one fs k hlt (by rw [HFK.out]; exact hl))
        go_wp2_with fail
        go_ret2
        exact ⟨by rw [H.out]; rfl, Below.refl _ w⟩
      · go_wp2_with fail
        go_round
        case rel => exact ⟨k + 1, by omega, by go_num, by rw [any_take_succ fs k hlt, HA.out, HFK.out]; simpa using hl⟩
        case measure => simp [intOf]; omega
    · have htoo : Pl.tooF fs = false := by
        have h1 := HA.out
        rw [List.take_of_length_le (by omega)] at h1
        unfold Pl.tooF
        rw [h1]; simp [h64]
      obtain ⟨_, h2000⟩ := Pl.tooF_no htoo
      have HTOO := Lib.hid htoo
      have H2000 := Lib.hid h2000
      clear htoo h2000
      go_wp2_with fail
      go_loopw [5, 6] (fun v i wr => ∃ (k : Nat) (t : List UInt8), k ≤ fs.length ∧ i = .int .i64 k ∧ v = .string ⟨t.toArray⟩ ∧ t = Pl.jn (fs.take k) ∧ t.length ≤ k * 8003 ∧ Below w.heap.size w wr ∧ (fs.take k).all Pl.okF = true) (fun _ i _ => fs.length - (intOf i).toNat)
      case atStart => exact ⟨0, [], Nat.zero_le _, rfl, rfl, rfl, by simp, Below.refl _ w, rfl⟩
      case round =>
        obtain ⟨k, t, hk, rfl, rfl, ht, htl, hb, hok⟩ := hrel
        have HT := Lib.hid ht
        have HB := Lib.hid hb
        have HOK := Lib.hid hok
        have hsz := hb.size
        clear ht hb hok
        by_cases hlt : k < fs.length
        · have hf' := HF.out.below HB.out (Nat.le_refl _)
          rcases hf' with h0 | ⟨b, off, rfl, hbl, hc⟩
          · subst h0; simp at hlt
          obtain ⟨g0, g1⟩ := hc k hlt
          clear hc
          have h20 := H2000.out k hlt
          obtain ⟨⟨x, q⟩, hfk⟩ : ∃ y, fs[k] = y := ⟨_, rfl⟩
          rw [hfk] at g0 g1 h20
          replace h20 : x.length ≤ 2000 := h20
          have HFK := Lib.hid hfk
          clear hfk
          have l1 : (k : Int) < (fs.length : Int) := by omega
          have hul := Pl.quote_len x
          obtain ⟨u, hu⟩ : ∃ u, Pl.quote x = u := ⟨_, rfl⟩
          rw [hu] at hul
          have hq := fun w => rQuote_f x w (by omega)
          rw [hu] at hq
          have HQ := Lib.hid hq
          have HU := Lib.hid hu
          clear hq hu
          cases q with
          | true =>
            have HN : Hid (Pl.jn (fs.take (k + 1)) = t ++ (if 0 < k then 32 :: u else u)) := Lib.hid (by rw [Pl.jn_succ fs k hlt, HFK.out, ← HT.out, ← HU.out]; rfl)
            have HG : Hid (Pl.okF fs[k] = true) := Lib.hid (by rw [HFK.out]; rfl)
            by_cases hk0 : 0 < k
            · go_wp2_with (go_at_call 21; refine (HQ.out _).mono ?_; rintro e w2 ⟨rfl, hb2⟩; have HB2 := Lib.hid hb2; have hsz2 := hb2.size; clear hb2)
              go_roundw
              case rel => exact ⟨k + 1, t ++ 32 :: u, by omega, by go_num, by rw [cat3], by rw [HN.out, if_pos hk0], by simp; omega, HB.out.trans (HB2.out.mono hsz), Pl.okF_take fs k hlt HOK.out HG.out⟩
              case measure => simp [intOf]; omega
            · go_wp2_with (go_at_call 21; refine (HQ.out _).mono ?_; rintro e w2 ⟨rfl, hb2⟩; have HB2 := Lib.hid hb2; have hsz2 := hb2.size; clear hb2)
              go_roundw
              case rel => exact ⟨k + 1, t ++ u, by omega, by go_num, by rw [bytes_app], by rw [HN.out, if_neg hk0], by simp; omega, HB.out.trans (HB2.out.mono hsz), Pl.okF_take fs k hlt HOK.out HG.out⟩
              case measure => simp [intOf]; omega
          | false =>
            have HN : Hid (Pl.jn (fs.take (k + 1)) = t ++ (if 0 < k then 32 :: x else x)) := Lib.hid (by rw [Pl.jn_succ fs k hlt, HFK.out, ← HT.out]; rfl)
            cases hbs : Pl.bareS x with
            | false =>
              have H : Hid (Pl.join fs = (6, [])) := Lib.hid (by
                unfold Pl.join
                rw [HTOO.out, Pl.okF_not fs k hlt (by rw [HFK.out]; unfold Pl.okF; rw [hbs]; rfl)]; rfl)
              have HBS := Lib.hid hbs
              clear hbs
              go_wp2_with (go_at_call 46; refine (rbare_f x _ (by omega)).mono ?_; rw [HBS.out]; rintro e w' ⟨rfl, rfl⟩)
              go_ret2
              exact ⟨by rw [H.out]; rfl, HB.out⟩
            | true =>
              have HG : Hid (Pl.okF fs[k] = true) := Lib.hid (by rw [HFK.out]; unfold Pl.okF; rw [hbs]; rfl)
              have HBS := Lib.hid hbs
              clear hbs
              by_cases hk0 : 0 < k
              · go_wp2_with (go_at_call 46; refine (rbare_f x _ (by omega)).mono ?_; rw [HBS.out]; rintro e w' ⟨rfl, rfl⟩)
                go_roundw
                case rel => exact ⟨k + 1, t ++ 32 :: x, by omega, by go_num, by rw [cat3], by rw [HN.out, if_pos hk0], by simp; omega, HB.out, Pl.okF_take fs k hlt HOK.out HG.out⟩
                case measure => simp [intOf]; omega
              · go_wp2_with (go_at_call 46; refine (rbare_f x _ (by omega)).mono ?_; rw [HBS.out]; rintro e w' ⟨rfl, rfl⟩)
                go_roundw
                case rel => exact ⟨k + 1, t ++ x, by omega, by go_num, by rw [bytes_app], by rw [HN.out, if_neg hk0], by simp; omega, HB.out, Pl.okF_take fs k hlt HOK.out HG.out⟩
                case measure => simp [intOf]; omega
        · have hall : Pl.jn fs = t := by rw [HT.out, List.take_of_length_le (by omega)]
          have hok : fs.all Pl.okF = true := by have := HOK.out; rwa [List.take_of_length_le (by omega)] at this
          have hus := size_mk t
          by_cases h8 : 8192 < t.length
          · have H : Hid (Pl.join fs = (3, [])) := Lib.hid (by unfold Pl.join; rw [HTOO.out, hok, hall]; exact if_pos h8)
            clear hall hok
            go_wp2_with fail
            go_ret2
            exact ⟨by rw [H.out]; rfl, HB.out⟩
          · have H : Hid (Pl.join fs = (0, t)) := Lib.hid (by unfold Pl.join; rw [HTOO.out, hok, hall]; exact if_neg h8)
            clear hall hok
            go_wp2_with fail
            go_ret2
            exact ⟨by rw [H.out]; rfl, HB.out⟩
end Go.Proofs.YthllpggcgfokaaaDoor
