/-
  Merges: is a tree that of the keys that come next? Check.
-/
import Derived.Test.YtebjhjmlpodkgaaPk
import Derived.Test.YtebjhjmlpodkgaaPg
import Derived.Test.YtebjhjmlpodkgaaLi
namespace Go.Proofs.Ytebjhjmlpodkgaa.KK
open Go.ChangeShapes Go.WideShapes Go.ChangeAt Go.RowKit Go.Proofs

/-- is this the tree of the keys that come next? -/
def nxB (xss : List (List El.En)) (a : List Int) (ks : List LK) (ls : List Int) (win : Int) : Bool := decide (ks = nks xss a) && decide ((chkT ks ls win).2 = 0)
set_option maxRecDepth 100000 in
set_option maxHeartbeats 4000000 in
theorem isNext_any (R A K L : Option Addr) (cr ca ck cl : Nat) (rs : List Rn) (a : List Int) (ks : List LK) (ls : List Int) (win : Int) (w : World) (hr : RsAt w R rs) (ha : IsAt w A a) (hk : KsAt w K ks) (hl : IsAt w L ls) (hn : rs.length ≤ 5000) (hs : SizedR rs) (hat : AtOk (ess rs) a) (h1 : ks.length ≤ 4294967295) (h2 : ls.length ≤ 4294967295) :
    Calls Try.prog 53 #[.agg #[.slice K ks.length ck, .slice L ls.length cl, .int .i64 win], .slice R rs.length cr, .slice A a.length ca] w fun e w' => e = .returned (.bool (nxB (ess rs) a ks ls win)) ∧ Below w.heap.size w w' := by
  obtain ⟨W, hW⟩ : ∃ W, W = w.alloc (.cells #[.slice K ks.length ck, .slice L ls.length cl, .int .i64 win] 28) := ⟨_, rfl⟩
  have hbW : Below w.heap.size w W := hW ▸ alloc_below _ _
  have HR0 : Hid (Row3 W w.heap.size 28 (.slice K ks.length ck) (.slice L ls.length cl) (.int .i64 win)) := Lib.hid (hW ▸ heap_alloc_new w _)
  have hlen : a.length = rs.length := by rw [hat.1, ess_len]
  have hkn : (nks (ess rs) a).length = rs.length := by rw [nks_len hat.1, ess_len]
  have JN := Lib.hid (fun w' (hb : Below W.heap.size W w') => by
    have q := nextKeys_any R A cr ca rs a w' ((hr.below hbW (Nat.le_refl _)).below hb (Nat.le_refl _)) ((ha.below hbW (Nat.le_refl _)).below hb (Nat.le_refl _)) hn hs hat
    exact q)
  have JE := Lib.hid (fun w' (hb : Below W.heap.size W w') (B : Option Addr) (d : Nat) (hB : KsAt w' B (nks (ess rs) a)) => by
    have q := equalK_any K B ck d ks (nks (ess rs) a) w' ((hk.below hbW (Nat.le_refl _)).below hb (Nat.le_refl _)) hB h1 (by rw [hkn]; omega)
    rw [hkn] at q; exact q)
  have JC := Lib.hid (fun w' (hb : Below W.heap.size W w') => check_any K L ck cl ks ls win w' ((hk.below hbW (Nat.le_refl _)).below hb (Nat.le_refl _)) ((hl.below hbW (Nat.le_refl _)).below hb (Nat.le_refl _)) h1 h2)
  have HBW := Lib.hid hbW
  have HV : Hid (nxB (ess rs) a ks ls win = (decide (ks = nks (ess rs) a) && decide ((chkT ks ls win).2 = 0))) := Lib.hid rfl
  rw [HV.out]
  rw [hlen]
  clear hr ha hk hl hs hat hbW hlen hkn h1 h2 HV
  generalize nks (ess rs) a = kk at *
  generalize (chkT ks ls win).1 = g1 at *
  generalize (chkT ks ls win).2 = g2 at *
  obtain ⟨q, hq⟩ : ∃ q, decide (ks = kk) = q := ⟨_, rfl⟩
  rw [hq] at JE ⊢
  clear hq
  generalize rs.length = n at *
  generalize ks.length = nk at *
  generalize ls.length = nl at *
  have HS : Hid (∀ w', Below W.heap.size W w' → Below W.heap.size W w' ∧ w'.cell? ⟨w.heap.size, 0, none⟩ = some (.slice K nk ck)) := Lib.hid (fun w' h => ⟨h, (HR0.out.below h (Nat.le_refl _)).c0⟩)
  have HFF := Lib.hid (Below.refl W.heap.size W)
  go_enter Try.func53, Try.ntmps53
  go_wp2_with fail
  rw [← hW]
  clear hW
  go_region_held3 (fun w' => Below W.heap.size W w' ∧ w'.cell? ⟨w.heap.size, 0, none⟩ = some (.slice K nk ck))
    ((refine HS.out _ ?_; first | with_reducible assumption | with_reducible exact HFF.out | with_reducible exact bD HFF.out))
    (first
      | (go_at_call 72; refine (JN.out _ (by first | with_reducible assumption | with_reducible exact HFF.out | with_reducible exact bD HFF.out)).mono ?_; rintro e w5 ⟨B, d, rfl, hB, _, hb⟩; have hb5 : Below W.heap.size W w5 := eb_of (by first | with_reducible assumption | with_reducible exact HFF.out | with_reducible exact bD HFF.out) hb (Nat.le_refl _); have HBK := Lib.hid hB; clear hB hb)
      | (go_at_call 83; refine (JE.out _ hb5 _ _ HBK.out).mono ?_; rintro e w6 ⟨rfl, hb⟩; have hb6 : Below W.heap.size W w6 := eb_of hb5 hb (Nat.le_refl _); clear hb))
  all_goals
    have r6 := HR0.out.below hb6 (Nat.le_refl _)
    have y0 := r6.c0
    have y1 := r6.c1
    have y2 := r6.c2
    have HB6 := Lib.hid (eb_of HBW.out hb6 (Nat.le_refl _))
    have HC6 := Lib.hid (JC.out _ hb6)
    clear r6 hb5 hb6 HS HFF JN JE JC HR0 HBK
    cases q with
    | false =>
      go_wp2_with fail
      go_ret
      exact ⟨rfl, HB6.out⟩
    | true =>
      by_cases hz : g2 = 0
      · subst hz
        go_wp2_with fail
        refine HC6.out.mono ?_
        rintro e w7 ⟨rfl, hb⟩
        have HB7 := Lib.hid (eb_of HB6.out hb (Nat.le_refl _))
        clear hb y0 y1 y2
        go_wp2_with fail
        go_ret
        exact ⟨rfl, HB7.out⟩
      · have hz1 : (g2 == 0) = false := by rw [beq_eq_false_iff_ne]; exact hz
        go_wp2_with fail
        refine HC6.out.mono ?_
        rintro e w7 ⟨rfl, hb⟩
        have HB7 := Lib.hid (eb_of HB6.out hb (Nat.le_refl _))
        clear hb y0 y1 y2
        go_wp2_with fail
        go_ret
        exact ⟨by simp [hz], HB7.out⟩
end Go.Proofs.Ytebjhjmlpodkgaa.KK
