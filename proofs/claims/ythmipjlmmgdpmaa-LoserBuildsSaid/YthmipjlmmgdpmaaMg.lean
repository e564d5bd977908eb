/-
  Trees of losers: both sides answer alike.
-/
import Derived.Test.YthmipjlmmgdpmaaMf
namespace Go.Proofs.Ythmipjlmmgdpmaa.KK
open Go.ChangeShapes Go.WideShapes Go.ChangeAt Go.RowKit Go.Proofs

/-- what a function returns that makes a tree -/
def TreeBack (w : World) (KV : List LK) (LV : List Int) (wv gg er : Int) (e : Ending) (w' : World) : Prop :=
  ∃ B D c d, e = .returned (.tuple #[.agg #[.slice B KV.length c, .slice D LV.length d, .int .i64 wv], .int .i64 gg, .int .i64 er]) ∧ KsAt w' B KV ∧ IsAt w' D LV ∧ Below w.heap.size w w'
theorem TreeBack.zero {w w' : World} {r : Int} {e : Ending} (h : e = .returned (.tuple #[.agg #[.slice none 0 0, .slice none 0 0, .int .i64 0], .int .i64 0, .int .i64 r]) ∧ Below w.heap.size w w') : TreeBack w [] [] 0 0 r e w' :=
  ⟨none, none, 0, 0, h.1, .inl rfl, .inl rfl, h.2⟩
theorem both_winner (ks : List LK) (ls : List Int) (win : Int) (hn : ks.length ≤ 4294967295) (hm : ls.length ≤ 4294967295) : ∃ (p : Int) (a : ByteArray) (er : Int),
    (∀ (A B : Option Addr) (c d : Nat) (w : World), KsAt w A ks → IsAt w B ls → Calls Try.prog 21 #[.agg #[.slice A ks.length c, .slice B ls.length d, .int .i64 win]] w fun e w' => e = .returned (.tuple #[.int .i64 p, .string a, .int .i64 er]) ∧ Below w.heap.size w w') ∧
    (∀ (A B : Option Addr) (c d : Nat) (w : World), KsAt w A ks → IsAt w B ls → Calls Try.prog 22 #[.agg #[.slice A ks.length c, .slice B ls.length d, .int .i64 win]] w fun e w' => e = .returned (.tuple #[.int .i64 p, .string a, .int .i64 er]) ∧ Below w.heap.size w w') := by
  by_cases h : (chkT ks ls win).2 = 0
  · obtain ⟨hk, rfl, rfl, _⟩ := chkT_good h
    cases hd : (kAt ks (wnr ks)).2 with
    | true =>
      refine ⟨0, ⟨#[]⟩, 12, fun A B c d w hf hg => ?_, fun A B c d w hf hg => ?_⟩
      · have K := winner_any A B c d ks w hf hg hk
        rw [hd, if_pos rfl] at K
        rw [loL_len]; exact K
      · rw [loL_len]
        refine rwinner_w A B ks.length c ks.length d (wnr ks) w 12 (by decide) (fun w' hb => ?_)
        have K := rended_any A B c d ks w' (hf.below hb (Nat.le_refl _)) (hg.below hb (Nat.le_refl _)) hk
        rw [hd, if_pos rfl] at K
        exact K
    | false =>
      refine ⟨((wnr ks : Nat) : Int), (kAt ks (wnr ks)).1, 0, fun A B c d w hf hg => ?_, fun A B c d w hf hg => ?_⟩
      · have K := winner_any A B c d ks w hf hg hk
        rw [hd, if_neg (by simp)] at K
        rw [loL_len]; exact K
      · rw [loL_len]; exact rwinner_ok A B c d ks w hf hg hk hd
  · exact ⟨0, ⟨#[]⟩, (chkT ks ls win).2, fun A B c d w hf hg => winner_bad A B c d ks ls win w hf hg hn hm h, fun A B c d w hf hg => rwinner_w A B ks.length c ls.length d win w _ h (fun w' hb => rended_bad A B c d ks ls win w' (hf.below hb (Nat.le_refl _)) (hg.below hb (Nat.le_refl _)) hn hm h)⟩
theorem both_replace (ks : List LK) (ls : List Int) (win : Int) (k : ByteArray) (b : Bool) (hn : ks.length ≤ 4294967295) (hm : ls.length ≤ 4294967295) : ∃ (KV : List LK) (LV : List Int) (wv gg er : Int), KV.length ≤ 4294967295 ∧ LV.length ≤ 4294967295 ∧
    (∀ (A B : Option Addr) (c d : Nat) (w : World), KsAt w A ks → IsAt w B ls → Calls Try.prog 23 #[.agg #[.slice A ks.length c, .slice B ls.length d, .int .i64 win], .agg #[.string k, .bool b]] w (TreeBack w KV LV wv gg er)) ∧
    (∀ (A B : Option Addr) (c d : Nat) (w : World), KsAt w A ks → IsAt w B ls → Calls Try.prog 24 #[.agg #[.slice A ks.length c, .slice B ls.length d, .int .i64 win], .agg #[.string k, .bool b]] w (TreeBack w KV LV wv gg er)) := by
  by_cases h : (chkT ks ls win).2 = 0
  · obtain ⟨hk, rfl, rfl, _⟩ := chkT_good h
    cases hd : (kAt ks (wnr ks)).2 with
    | true =>
      refine ⟨[], [], 0, 0, 12, by simp, by simp, fun A B c d w hf hg => ?_, fun A B c d w hf hg => ?_⟩
      · rw [loL_len]
        have hr : repE ks (k, b) = 12 := if_pos hd
        have K := replace_no A B c d ks k b w hf hg hk (by rw [hr]; decide)
        rw [hr] at K
        exact K.mono fun e w' h => .zero h
      · rw [loL_len]
        refine (rreplace_w A B ks.length c ks.length d (wnr ks) k b w 12 (by decide) (fun w' hb => ?_)).mono fun e w' h => .zero h
        have K := rended_any A B c d ks w' (hf.below hb (Nat.le_refl _)) (hg.below hb (Nat.le_refl _)) hk
        rw [hd, if_pos rfl] at K
        exact K
    | false =>
      by_cases hr : repE ks (k, b) = 0
      · refine ⟨ks.set (wnr ks) (k, b), loL (ks.set (wnr ks) (k, b)), ((wnr (ks.set (wnr ks) (k, b)) : Nat) : Int), ((Lo.gm ((ks.length + wnr ks) / 2) : Nat) : Int), 0, by rw [List.length_set]; exact hn, by rw [loL_len, List.length_set]; exact hn, fun A B c d w hf hg => ?_, fun A B c d w hf hg => ?_⟩
        · rw [loL_len]
          refine (replace_ok A B c d ks k b w hf hg hk hr).mono ?_
          rintro e w' ⟨kb, lb, cp, cl, rfl, ht⟩
          exact ⟨_, _, cp, cl, by rw [loL_len, List.length_set], ht.keys.ks, ht.lose.is, ht.below⟩
        · rw [loL_len]
          refine (rreplace_ok A B c d ks k b w hf hg hk hr).mono ?_
          rintro e w' ⟨kb, lb, cp, cl, rfl, ht⟩
          exact ⟨_, _, cp, cl, by rw [loL_len, List.length_set], ht.keys.ks, ht.lose.is, ht.below⟩
      · refine ⟨[], [], 0, 0, repE ks (k, b), by simp, by simp, fun A B c d w hf hg => ?_, fun A B c d w hf hg => ?_⟩
        · rw [loL_len]; exact (replace_no A B c d ks k b w hf hg hk hr).mono fun e w' h => .zero h
        · rw [loL_len]; exact (rreplace_no A B c d ks k b w hf hg hk hd hr).mono fun e w' h => .zero h
  · refine ⟨[], [], 0, 0, (chkT ks ls win).2, by simp, by simp, fun A B c d w hf hg => ?_, fun A B c d w hf hg => ?_⟩
    · exact (replace_w A B ks.length c ls.length d win k b w _ h (fun w' hb => winner_bad A B c d ks ls win w' (hf.below hb (Nat.le_refl _)) (hg.below hb (Nat.le_refl _)) hn hm h)).mono fun e w' h => .zero h
    · exact (rreplace_w A B ks.length c ls.length d win k b w _ h (fun w' hb => rended_bad A B c d ks ls win w' (hf.below hb (Nat.le_refl _)) (hg.below hb (Nat.le_refl _)) hn hm h)).mono fun e w' h => .zero h
end Go.Proofs.Ythmipjlmmgdpmaa.KK
