/-
  Merges: the walk of MergeGoes.
-/
import Derived.Test.YtebjhjmlpodkgaaPw
import Derived.Test.YtebjhjmlpodkgaaPx
import Derived.Test.YtebjhjmlpodkgaaPy
import Derived.Deep.QuietTactic
import Derived.IntWalk
namespace Go.Proofs.Ytebjhjmlpodkgaa.KK
open Go.ChangeShapes Go.WideShapes Go.ChangeAt Go.RowKit Go.Proofs

/-- a state in a variable at B, its parts outside of O -/
def SB (w : World) (B : Nat) (O : Nat → Prop) (n : Nat) (rs : List Rn) (a : List Int) : Prop :=
  ∃ gr ga gk gl c1 c2 c3 c4 : Nat, Rw5 w B 30 (.slice (some ⟨gr, 0, none⟩) n c1) (.slice (some ⟨ga, 0, none⟩) n c2) (.slice (some ⟨gk, 0, none⟩) n c3) (.slice (some ⟨gl, 0, none⟩) n c4) (.int .i64 (winA (ess rs) a : Nat)) ∧
    RdN O w (some ⟨ga, 0, none⟩) (some ⟨gk, 0, none⟩) (some ⟨gl, 0, none⟩) (some ⟨gr, 0, none⟩) rs a
theorem SB.below {B Bx n : Nat} {w w' : World} {O : Nat → Prop} {rs : List Rn} {a : List Int} (h : SB w Bx O n rs a) (hb : Below B w w') (hB : w.heap.size ≤ B) : SB w' Bx O n rs a :=
  let ⟨gr, ga, gk, gl, c1, c2, c3, c4, h1, h2⟩ := h
  ⟨gr, ga, gk, gl, c1, c2, c3, c4, h1.below hb hB, h2.below hb hB⟩
theorem SB.chg {Bx n : Nat} {w w' : World} {O S : Nat → Prop} {rs : List Rn} {a : List Int} (h : SB w Bx O n rs a) (hc : Chg S w w') (hS : ∀ k, S k → O k) (hB : ¬ S Bx) : SB w' Bx O n rs a :=
  let ⟨gr, ga, gk, gl, c1, c2, c3, c4, h1, h2⟩ := h
  ⟨gr, ga, gk, gl, c1, c2, c3, c4, h1.chg hc hB, h2.chg hc hS⟩
/-- a state that Next made -/
theorem StN.rdn {w w' : World} {O : Nat → Prop} {gr ga gk gl : Nat} {rs : List Rn} {a : List Int} (h : StN w w' gr ga gk gl rs a) (hcl : rs.map clipR = rs) (hes : ∀ r ∈ rs, EsAt w r.1 r.2.2) (hO : ∀ k, O k → k < w.heap.size) (hns : ∀ r ∈ rs, r.2.2 ≠ [] → NO O w r.1) : RdN O w' (some ⟨ga, 0, none⟩) (some ⟨gk, 0, none⟩) (some ⟨gl, 0, none⟩) (some ⟨gr, 0, none⟩) rs a := by
  have hr := h.rd hes
  rw [hcl] at hr
  have no : ∀ k, gr ≤ k → k < w'.heap.size → NO O w' (some ⟨k, 0, none⟩) := fun k h1 h2 b e => by
    cases e
    exact ⟨h2, fun g => by have q : k < w.heap.size := hO _ g; have := h.ord; omega⟩
  exact ⟨hr, no ga (by have := h.ord; omega) h.ats.lt, no gk (by have := h.ord; omega) h.keys.lt, no gl (by have := h.ord; omega) h.lose.lt, no gr (Nat.le_refl _) h.runs.lt, fun r hr hne => (hns r hr hne).mono h.below.size⟩
theorem clip_self {rs : List Rn} : (rs.map clipR).map clipR = rs.map clipR := clip_clip rs
/-- the states of a walk: runs that were clipped -/
structure Rs11 (rs : List Rn) (n : Nat) (z : List Int) : Prop where
  n : rs.length = n
  clip : rs.map clipR = rs
  sized : SizedR rs
  cap : CapR rs
  gd : Gd (ess rs) z
  inv : Inv (ess rs) z
theorem Rs11.at_ {rs : List Rn} {n : Nat} {z : List Int} (h : Rs11 rs n z) {k : Nat} (hk : k ≤ left (ess rs) z) : Gd (ess rs) (pN (ess rs) z k) ∧ Inv (ess rs) (pN (ess rs) z k) := ⟨(h.gd.pN hk).1, h.gd.pN_inv h.inv hk⟩
/-- Next's two ways in one form, over a state in a variable -/
theorem next_sb {rs : List Rn} {n : Nat} {z : List Int} (H : Rs11 rs n z) {k : Nat} (hk : k ≤ left (ess rs) z) {w : World} {O : Nat → Prop} {gr ga gk gl c1 c2 c3 c4 : Nat} (hO : ∀ j, O j → j < w.heap.size)
    (hr : RdN O w (some ⟨ga, 0, none⟩) (some ⟨gk, 0, none⟩) (some ⟨gl, 0, none⟩) (some ⟨gr, 0, none⟩) rs (pN (ess rs) z k)) :
    Calls Try.prog 26 #[.agg #[.slice (some ⟨gr, 0, none⟩) n c1, .slice (some ⟨ga, 0, none⟩) n c2, .slice (some ⟨gk, 0, none⟩) n c3, .slice (some ⟨gl, 0, none⟩) n c4, .int .i64 (winA (ess rs) (pN (ess rs) z k) : Nat)]] w fun e w' =>
      (k = left (ess rs) z ∧ e = .returned (.tuple #[.agg #[.string ⟨#[]⟩, .string ⟨#[]⟩, .bool false, .int .i64 0], .int .i64 0, .agg #[.slice none 0 0, .slice none 0 0, .slice none 0 0, .slice none 0 0, .int .i64 0], .int .i64 12]) ∧ Below w.heap.size w w') ∨
      (k < left (ess rs) z ∧ ∃ (x : El.En) (r : Nat) (hr ha hk hl d1 d2 d3 d4 : Nat), x = entA (ess rs) (pN (ess rs) z k) ∧ r = winA (ess rs) (pN (ess rs) z k) ∧
        e = .returned (.tuple #[.agg #[.string x.1, .string x.2.1, .bool x.2.2.1, .int .i64 x.2.2.2], .int .i64 (r : Int), .agg #[.slice (some ⟨hr, 0, none⟩) n d1, .slice (some ⟨ha, 0, none⟩) n d2, .slice (some ⟨hk, 0, none⟩) n d3, .slice (some ⟨hl, 0, none⟩) n d4, .int .i64 (winA (ess rs) (pN (ess rs) z (k + 1)) : Nat)], .int .i64 0]) ∧
        RdN O w' (some ⟨ha, 0, none⟩) (some ⟨hk, 0, none⟩) (some ⟨hl, 0, none⟩) (some ⟨hr, 0, none⟩) rs (pN (ess rs) z (k + 1)) ∧ Below w.heap.size w w') := by
  obtain ⟨hg, hv⟩ := H.at_ hk
  refine (next_good _ _ _ _ c1 c2 c3 c4 n rs (pN (ess rs) z k) w H.n hg hv hr.ok H.sized H.cap).mono ?_
  rintro e w' (⟨hd, he, hb⟩ | ⟨hd, r1, r2, r3, r4, d1, d2, d3, d4, he, hst⟩)
  · refine .inl ⟨?_, he, hb⟩
    rcases Nat.lt_or_ge k (left (ess rs) z) with h | h
    · rw [H.gd.pN_done h] at hd; cases hd
    · omega
  · refine .inr ⟨?_, _, _, r1, r2, r3, r4, d1, d2, d3, d4, rfl, rfl, he, hst.rdn H.clip hr.ok.runs.each hO hr.ns, hst.below⟩
    rcases Nat.lt_or_ge k (left (ess rs) z) with h | h
    · exact h
    · obtain rfl : k = left (ess rs) z := by omega
      rw [hg.done_iff, (H.gd.pN (Nat.le_refl _)).2] at hd; simp at hd
/-- what the walk reads of All's results -/
theorem goes_facts {w2 w5 wr : World} {B1 B2 : Option Addr} {rs : List Rn} {z : List Int} {b k : Nat} (hes : EsAt w2 B1 (ents_of (mS (ess rs) z))) (his : IsAt w2 B2 (runs_of (mS (ess rs) z))) (hg : Gd (ess rs) z) (hb2 : w2.heap.size ≤ b) (hbr : b + 2 ≤ wr.heap.size) (hb : Below w2.heap.size w2 w5) (hc : Chg (fun j => j = b ∨ j = b + 1) w5 wr) (hk : k < (mS (ess rs) z).length) :
    ∀ (x : El.En) (r : Nat), x = entA (ess rs) (pN (ess rs) z k) → r = winA (ess rs) (pN (ess rs) z k) → ∀ w6, Below wr.heap.size wr w6 → ∃ lb lo fb fo : Nat, B1 = some ⟨lb, lo, none⟩ ∧ B2 = some ⟨fb, fo, none⟩ ∧ w6.cell? ⟨lb, lo + k * 4, none⟩ = some (.string x.1) ∧ w6.cell? ⟨lb, lo + k * 4 + 1, none⟩ = some (.string x.2.1) ∧ w6.cell? ⟨lb, lo + k * 4 + 2, none⟩ = some (.bool x.2.2.1) ∧ w6.cell? ⟨lb, lo + k * 4 + 3, none⟩ = some (.int .i64 x.2.2.2) ∧ w6.cell? ⟨fb, fo + k, none⟩ = some (.int .i64 (r : Int)) := by
  rintro x r rfl rfl w6 h6
  have hx := hg.mS_get hk
  have hke : k < (ents_of (mS (ess rs) z)).length := by simpa [ents_of] using hk
  have hkr : k < (runs_of (mS (ess rs) z)).length := by simpa [runs_of] using hk
  have ee : (ents_of (mS (ess rs) z))[k] = entA (ess rs) (pN (ess rs) z k) := by simp [ents_of, hx]
  have er : (runs_of (mS (ess rs) z))[k] = ((winA (ess rs) (pN (ess rs) z k) : Nat) : Int) := by simp [runs_of, hx]
  have old : ∀ {b' o : Nat} {u : Value}, b' < w2.heap.size → w2.cell? ⟨b', o, none⟩ = some u → w6.cell? ⟨b', o, none⟩ = some u := fun {b' o u} hb' h =>
    (World.cell?_of_block (((h6.block _ (by show b' < _; omega)).trans (hc.block _ (Nat.lt_of_lt_of_le hb' hb.size) (by show ¬ (b' = b ∨ b' = b + 1); omega))).trans (hb.block _ hb'))).trans h
  rcases hes with h0 | ⟨lb, lo, rfl, hlb, hlc⟩
  · rw [h0] at hke; simp at hke
  rcases his with h0 | ⟨fb, fo, rfl, hfb, hfc⟩
  · rw [h0] at hkr; simp at hkr
  have l := hlc k hke
  have f := hfc k hkr
  rw [ee] at l
  rw [er] at f
  exact ⟨lb, lo, fb, fo, rfl, rfl, old hlb l.1, old hlb l.2.1, old hlb l.2.2.1, old hlb l.2.2.2, old hfb f⟩
theorem rdn_new {w : World} {A K L R : Option Addr} {rs : List Rn} {a : List Int} (h : RdOk w A K L R rs a) (g : Gd (ess rs) a) : RdN (fun k => w.heap.size ≤ k) w A K L R rs a :=
  have q := h.lts g
  ⟨h, fun b e => ⟨q.1 b e, Nat.not_le.2 (q.1 b e)⟩, fun b e => ⟨q.2.1 b e, Nat.not_le.2 (q.2.1 b e)⟩, fun b e => ⟨q.2.2.1 b e, Nat.not_le.2 (q.2.2.1 b e)⟩, fun b e => ⟨q.2.2.2.1 b e, Nat.not_le.2 (q.2.2.2.1 b e)⟩, fun r hr hne b e => ⟨q.2.2.2.2 r hr hne b e, Nat.not_le.2 (q.2.2.2.2 r hr hne b e)⟩⟩
theorem begin_sb (A : Option Addr) (c n : Nat) (rs0 rs : List Rn) (z : List Int) (w : World) (hn : rs0.length = n) (hz : zerosA n = z) (hrs : rs0.map clipR = rs) (hf : RsAt w A rs0) (hs : SizedR rs0) (hc : CapR rs0) (h : (runsE (ess rs0)).2 = 0) :
    Calls Try.prog 15 #[.slice A n c] w fun e w' => ∃ gr ga gk gl c1 c2 c3 c4 : Nat, e = .returned (.tuple #[.agg #[.slice (some ⟨gr, 0, none⟩) n c1, .slice (some ⟨ga, 0, none⟩) n c2, .slice (some ⟨gk, 0, none⟩) n c3, .slice (some ⟨gl, 0, none⟩) n c4, .int .i64 (winA (ess rs) z : Nat)], .int .i64 0, .int .i64 0]) ∧
      RdN (fun k => w'.heap.size ≤ k) w' (some ⟨ga, 0, none⟩) (some ⟨gk, 0, none⟩) (some ⟨gl, 0, none⟩) (some ⟨gr, 0, none⟩) rs z ∧ Below w.heap.size w w' := by
  subst hn hz hrs
  refine (begin_ok A c rs0 w hf hs hc h).mono ?_
  rintro e w' ⟨gr, ga, gk, gl, c1, c2, c3, c4, he, hst⟩
  refine ⟨gr, ga, gk, gl, c1, c2, c3, c4, by rw [ess_clip]; exact he, rdn_new (hst.rd hf.each) (by rw [ess_clip]; exact Gd.zeros h), hst.below⟩
set_option maxRecDepth 100000 in
set_option maxHeartbeats 8000000 in
theorem Goes_any (A : Option Addr) (c : Nat) (rs0 : List Rn) (u : Nat) (w : World) (hf : RsAt w A rs0) (hn : rs0.length ≤ 9223372036854775807) (hs : SizedM rs0) (hcp : CapR rs0) (hu : u ≤ 255) :
    Calls Try.prog 5 #[.slice A rs0.length c, .int .u8 (u : Int)] w fun e w' => e = .returned (.bool true) ∧ Below w.heap.size w w' := by
  have JF := Lib.hid (far11_any A c rs0 w hf hn hs)
  obtain ⟨n, hnn⟩ : ∃ n, rs0.length = n := ⟨_, rfl⟩
  rw [hnn] at JF ⊢
  have HN := Lib.hid hnn
  have HF := Lib.hid hf
  have HS := Lib.hid hs
  have HCP := Lib.hid hcp
  clear hnn hf hs hn hcp
  go_enter Try.func5, Try.ntmps5
  go_wp2_with fail
  refine JF.out.mono ?_
  rintro e w1 ⟨b, rfl, hnear, hb⟩
  have HB1 := Lib.hid hb
  cases b with
  | true =>
    clear hnear hb
    go_wp2_with fail
    refine (awake11_any _).mono ?_
    rintro e w2 ⟨rfl, hb2⟩
    have HB2 := Lib.hid (eb_of HB1.out hb2 (Nat.le_refl _))
    clear hb2
    go_wp2_with fail
    go_ret
    exact ⟨rfl, HB2.out⟩
  | false =>
  have hnr := hnear rfl
  have hsr := hnr.sized HS.out
  have hf1 := HF.out.below hb (Nat.le_refl _)
  clear hnear hb JF
  by_cases hk : (runsE (ess rs0)).2 = 0
  rotate_left
  · have J := Lib.hid (all_bad A c rs0 w1 hf1 (by have := hnr.1; omega) hsr hk)
    have J2 := Lib.hid (fun w' (hb : Below w1.heap.size w1 w') => begin_bad A c rs0 w' (hf1.below hb (Nat.le_refl _)) (by have := hnr.1; omega) hsr hk)
    rw [HN.out] at J J2
    obtain ⟨b1, b2⟩ := ne_b hk
    clear hk hnr hsr hf1
    generalize (runsE (ess rs0)).2 = r2 at *
    generalize (runsE (ess rs0)).1 = r1 at *
    go_wp2_with fail
    refine J.out.mono ?_
    rintro e w2 ⟨rfl, hb2⟩
    have HB2 := Lib.hid (eb_of HB1.out hb2 (Nat.le_refl _))
    have HB12 := Lib.hid hb2
    clear hb2
    go_wp2_with fail
    refine (J2.out _ HB12.out).mono ?_
    rintro e w3 ⟨rfl, hb3⟩
    have HB3 := Lib.hid (bA (eb_of HB2.out hb3 (Nat.le_refl _)) (.cells #[.slice none 0 0, .slice none 0 0, .slice none 0 0, .slice none 0 0, .int .i64 0] 30))
    clear hb3
    go_wp2_with fail
    refine (awake11_any _).mono ?_
    rintro e w4 ⟨rfl, hb4⟩
    have HB4 := Lib.hid (eb_of HB3.out hb4 (Nat.le_refl _))
    clear hb4
    go_wp2_with fail
    go_ret
    exact ⟨rfl, HB4.out⟩
  have J := Lib.hid (all_ok A c rs0 w1 hf1 hsr hk)
  have J2 := Lib.hid (fun w' (hb : Below w1.heap.size w1 w') => begin_sb A c n rs0 (rs0.map clipR) (zerosA n) w' HN.out rfl rfl (hf1.below hb (Nat.le_refl _)) hsr HCP.out hk)
  have hg := Gd.zeros hk
  have h1 := hg.len1
  have HL : Hid ((mS (ess rs0) (zerosA rs0.length)).length ≤ 160000) := Lib.hid (by
    rw [hg.mS_len]
    have := left_le (rs := rs0) (fun r hr => (list_ok ((runsE_ok hk).2.2.1 _ (by simp only [ess, List.mem_map]; exact ⟨_, hr, rfl⟩))).1) (zerosA rs0.length)
    have : rs0.length * 5000 ≤ 32 * 5000 := Nat.mul_le_mul_right _ (by omega)
    omega)
  have HR : Hid (Rs11 (rs0.map clipR) rs0.length (zerosA rs0.length)) := Lib.hid ⟨by simp, clip_clip rs0, sizedR_clip hsr, capR_clip HCP.out, by rw [ess_clip]; exact hg, by rw [ess_clip]; exact inv_zeros _⟩
  have HF1 := Lib.hid hf1
  unfold AllOut at J
  have hess : ess rs0 = ess (rs0.map clipR) := (ess_clip rs0).symm
  rw [HN.out] at J HL HR h1
  rw [hess] at J HL
  obtain ⟨z, hz⟩ : ∃ z, zerosA n = z := ⟨_, rfl⟩
  rw [hz] at J J2 HL HR
  clear hk hnr hsr hf1 hg hz hess
  obtain ⟨rs, hrs⟩ : ∃ rs, rs0.map clipR = rs := ⟨_, rfl⟩
  rw [hrs] at J J2 HL HR
  have HRS := Lib.hid hrs
  clear hrs
  obtain ⟨sl, hsl⟩ : ∃ sl, (mS (ess rs) z).length = sl := ⟨_, rfl⟩
  have HSL := Lib.hid hsl
  rw [hsl] at J HL
  have HLF : Hid (left (ess rs) z = sl) := Lib.hid (by rw [← hsl, HR.out.gd.mS_len])
  clear hsl
  have hl16 := HL.out
  go_wp2_with fail
  refine J.out.mono ?_
  rintro e w2 ⟨B1, B2, c1, c2, rfl, hes, his, _, _, _, _, hb2⟩
  have HB2 := Lib.hid (eb_of HB1.out hb2 (Nat.le_refl _))
  have HB12 := Lib.hid hb2
  have HES := Lib.hid hes
  have HIS := Lib.hid his
  clear hes his hb2 J
  go_wp2_with fail
  refine (J2.out _ HB12.out).mono ?_
  rintro e w3 ⟨sr, sa, sk, sl', d1, d2, d3, d4, rfl, hrd3, hb3⟩
  obtain ⟨p, hp⟩ : ∃ p, winA (ess rs) z = p := ⟨_, rfl⟩
  have HP := Lib.hid hp
  rw [hp]
  clear hp
  have HRD3 := Lib.hid hrd3
  have HB3 := Lib.hid (eb_of HB2.out hb3 (Nat.le_refl _))
  have HB23 := Lib.hid hb3
  clear hrd3 hb3
  obtain ⟨nn, hnn⟩ : ∃ nn, u % (sl + 1) = nn := ⟨_, rfl⟩
  have hnl : nn ≤ sl := by have := Nat.mod_lt u (show 0 < sl + 1 by omega); omega
  have hm1 : Int.tmod (u : Int) ((sl : Int) + 1) = (nn : Int) := by
    rw [← hnn, show ((sl : Int) + 1) = ((sl + 1 : Nat) : Int) by omega, Int.ofNat_tmod]
  have hm2 : IntKind.i64.wrap (u : Int) = (u : Int) := IntWalk.i64_in _ (by omega)
  have hm3 : ¬ ((sl : Int) + 1 = 0) := by omega
  have hm4 : IntKind.i64.wrap ((sl : Int) + 1) = (sl : Int) + 1 := IntWalk.i64_in _ (by omega)
  have hm5 : IntKind.i64.wrap (nn : Int) = (nn : Int) := IntWalk.i64_in _ (by omega)
  have hm6 : (((sl : Int) + 1) == 0) = false := by rw [beq_eq_false_iff_ne]; omega
  have hm7 : (((sl : Int) + 1) == -1) = false := by rw [beq_eq_false_iff_ne]; omega
  go_wp2_with fail
  -- LOOPS
  obtain ⟨w5, hw5⟩ : ∃ w5, (w3.alloc (.cells #[.slice (some ⟨sr, 0, none⟩) n d1, .slice (some ⟨sa, 0, none⟩) n d2, .slice (some ⟨sk, 0, none⟩) n d3, .slice (some ⟨sl', 0, none⟩) n d4, .int .i64 (p : Int)] 30)).alloc (.cells #[.slice (some ⟨sr, 0, none⟩) n d1, .slice (some ⟨sa, 0, none⟩) n d2, .slice (some ⟨sk, 0, none⟩) n d3, .slice (some ⟨sl', 0, none⟩) n d4, .int .i64 (p : Int)] 30) = w5 := ⟨_, rfl⟩
  have HB35 : Hid (Below w3.heap.size w3 w5) := Lib.hid (hw5 ▸ alloc2_below _ _ _)
  have HS5 : Hid (w5.heap.size = w3.heap.size + 2) := Lib.hid (by rw [← hw5]; simp)
  have HB5 := Lib.hid (eb_of HB3.out HB35.out (Nat.le_refl _))
  have HRD5 : Hid (RdN (fun j => j = w3.heap.size ∨ j = w3.heap.size + 1) w5 (some ⟨sa, 0, none⟩) (some ⟨sk, 0, none⟩) (some ⟨sl', 0, none⟩) (some ⟨sr, 0, none⟩) rs z) := Lib.hid ((HRD3.out.sub (fun j e => by omega)).below HB35.out (Nat.le_refl _))
  have HK1 : Hid (SB w5 w3.heap.size (fun j => j = w3.heap.size ∨ j = w3.heap.size + 1) n rs (pN (ess rs) z 0)) := Lib.hid ⟨sr, sa, sk, sl', d1, d2, d3, d4, by show Rw5 _ _ _ _ _ _ _ (.int .i64 (winA (ess rs) z : Nat)); rw [HP.out]; exact hw5 ▸ hp2 w3 _ _, HRD5.out⟩
  have HK2 : Hid (SB w5 (w3.heap.size + 1) (fun j => j = w3.heap.size ∨ j = w3.heap.size + 1) n rs (pN (ess rs) z 0)) := Lib.hid ⟨sr, sa, sk, sl', d1, d2, d3, d4, by show Rw5 _ _ _ _ _ _ _ (.int .i64 (winA (ess rs) z : Nat)); rw [HP.out]; exact hw5 ▸ hp3 w3 _ _ rfl, HRD5.out⟩
  rw [hw5]
  clear hw5 hm1 hm2 hm3 hm4 hm5 hm6 hm7
  go_loopw [13, 14, 15, 16, 17, 18, 19] (fun i _ _ _ _ _ _ wr => ∃ k : Nat, k ≤ sl ∧ i = .int .i64 k ∧ Hid (SB wr w3.heap.size (fun j => j = w3.heap.size ∨ j = w3.heap.size + 1) n rs (pN (ess rs) z k) ∧ SB wr (w3.heap.size + 1) (fun j => j = w3.heap.size ∨ j = w3.heap.size + 1) n rs (pN (ess rs) z (if nn < k then nn else 0)) ∧ Chg (fun j => j = w3.heap.size ∨ j = w3.heap.size + 1) w5 wr)) (fun i _ _ _ _ _ _ _ => sl + 1 - (intOf i).toNat)
  case atStart => exact ⟨0, Nat.zero_le _, rfl, Lib.hid ⟨HK1.out, by rw [if_neg (by omega)]; exact HK2.out, Chg.refl _⟩⟩
  case round =>
    obtain ⟨k, hk, rfl, HH⟩ := hrel
    have hkd : decide ((k : Int) ≤ (sl : Int)) = true := by rw [decide_eq_true_eq]; omega
    by_cases heq : k = nn
    · obtain ⟨gr, ga, gk, gl, e1, e2, e3, e4, hrow, hrd⟩ := HH.out.1
      obtain ⟨kr, ka, kk, kl, k1, k2, k3, k4, krow, _⟩ := HH.out.2.1
      obtain ⟨pw, hpw⟩ : ∃ pw, winA (ess rs) (pN (ess rs) z k) = pw := ⟨_, rfl⟩
      rw [hpw] at hrow
      obtain ⟨wa, hwa⟩ : ∃ wa, ((((wr.setCell ⟨w3.heap.size + 1, 0, none⟩ (.slice (some ⟨gr, 0, none⟩) n e1)).setCell ⟨w3.heap.size + 1, 1, none⟩ (.slice (some ⟨ga, 0, none⟩) n e2)).setCell ⟨w3.heap.size + 1, 2, none⟩ (.slice (some ⟨gk, 0, none⟩) n e3)).setCell ⟨w3.heap.size + 1, 3, none⟩ (.slice (some ⟨gl, 0, none⟩) n e4)).setCell ⟨w3.heap.size + 1, 4, none⟩ (.int .i64 (pw : Int)) = wa := ⟨_, rfl⟩
      have hca : Chg (fun j => j = w3.heap.size + 1) wr wa := hwa ▸ set5C wr _ _ _ _ _ _
      have HROW : Hid (Rw5 wa w3.heap.size 30 (.slice (some ⟨gr, 0, none⟩) n e1) (.slice (some ⟨ga, 0, none⟩) n e2) (.slice (some ⟨gk, 0, none⟩) n e3) (.slice (some ⟨gl, 0, none⟩) n e4) (.int .i64 (pw : Int))) := Lib.hid (hrow.chg hca (by omega))
      have HRDA := Lib.hid (hrd.chg hca (fun j e => .inr e))
      have HG2 : Hid (SB wa (w3.heap.size + 1) (fun j => j = w3.heap.size ∨ j = w3.heap.size + 1) n rs (pN (ess rs) z (if nn < k + 1 then nn else 0))) := Lib.hid ⟨gr, ga, gk, gl, e1, e2, e3, e4, by rw [if_pos (by omega), ← heq, hpw]; exact hwa ▸ krow.set _ _ _ _ _, by rw [if_pos (by omega), ← heq]; exact HRDA.out⟩
      have HCH : Hid (Chg (fun j => j = w3.heap.size ∨ j = w3.heap.size + 1) w5 wa) := Lib.hid (HH.out.2.2.trans (hca.mono (fun j e => .inr e)))
      have hsa : w3.heap.size + 2 ≤ wa.heap.size := by have := HCH.out.size; have := HS5.out; omega
      have y0 := hrow.c0
      have y1 := hrow.c1
      have y2 := hrow.c2
      have y3 := hrow.c3
      have y4 := hrow.c4
      have v0 := HROW.out.c0
      have v1 := HROW.out.c1
      have v2 := HROW.out.c2
      have v3 := HROW.out.c3
      have v4 := HROW.out.c4
      have q0 := krow.c0
      have q1 := krow.c1
      have q2 := krow.c2
      have q3 := krow.c3
      have q4 := krow.c4
      have z0 := krow.fz 0
      have z1 := krow.fz 1
      have z2 := krow.fz 2
      have z3 := krow.fz 3
      have z4 := krow.fz 4
      have hkn1 : ((k : Int) == (nn : Int)) = true := by rw [beq_iff_eq]; omega
      have JL := Lib.hid (left_good _ _ _ _ e1 e2 e3 e4 n rs (pN (ess rs) z k) wa HR.out.n (HR.out.at_ (by rw [HLF.out]; exact hk)).1 (HR.out.at_ (by rw [HLF.out]; exact hk)).2 HRDA.out.ok HR.out.sized)
      rw [hpw] at JL
      have HEQ := Lib.hid heq
      clear hrow hrd krow hca heq
      go_wp2_with fail
      have hleft : ((left (ess rs) (pN (ess rs) z k) : Nat) : Int) = (sl : Int) - (k : Int) := by
        rw [(HR.out.gd.pN (i := k) (by rw [HLF.out]; exact hk)).2, HLF.out]; omega
      rw [hleft] at JL
      refine JL.out.mono ?_
      rintro e w6 ⟨rfl, hb⟩
      have HROW6 := Lib.hid (HROW.out.below hb (Nat.le_refl _))
      have HRD6 := Lib.hid (HRDA.out.below hb (Nat.le_refl _))
      have HG6 := Lib.hid (HG2.out.below hb (Nat.le_refl _))
      have HC6 : Hid (Chg (fun j => j = w3.heap.size ∨ j = w3.heap.size + 1) w5 w6) := Lib.hid (HCH.out.trans (.of_below hb))
      have hs6 : w3.heap.size + 2 ≤ w6.heap.size := by have := hb.size; omega
      clear hwa q0 q1 q2 q3 q4 z0 z1 z2 z3 z4 v0 v1 v2 v3 v4
      clear hb JL HROW HRDA HG2 HCH hkn1 hleft HH y0 y1 y2 y3 y4
      have y0 := HROW6.out.c0
      have y1 := HROW6.out.c1
      have y2 := HROW6.out.c2
      have y3 := HROW6.out.c3
      have y4 := HROW6.out.c4
      have JN := Lib.hid (next_sb (c1 := e1) (c2 := e2) (c3 := e3) (c4 := e4) HR.out (k := k) (by rw [HLF.out]; exact hk) (O := (fun j => j = w3.heap.size ∨ j = w3.heap.size + 1)) (by intro j hj; omega) HRD6.out)
      rw [hpw] at JN
      have HPW := Lib.hid hpw
      clear hpw
      by_cases hks : k < sl
      rotate_left
      · obtain rfl : sl = k := by omega
        go_wp2_with fail
        refine JN.out.mono ?_
        rintro e w7 (⟨_, rfl, hb⟩ | ⟨h, _⟩)
        rotate_left
        · exact absurd h (by rw [HLF.out]; omega)
        have H2 : Hid (SB ((w7.alloc (.cells #[.string ⟨#[]⟩, .string ⟨#[]⟩, .bool false, .int .i64 0] 45)).alloc (.cells #[.slice none 0 0, .slice none 0 0, .slice none 0 0, .slice none 0 0, .int .i64 0] 30)) (w3.heap.size + 1) (fun j => j = w3.heap.size ∨ j = w3.heap.size + 1) n rs (pN (ess rs) z nn) ∧ Chg (fun j => j = w3.heap.size ∨ j = w3.heap.size + 1) w5 ((w7.alloc (.cells #[.string ⟨#[]⟩, .string ⟨#[]⟩, .bool false, .int .i64 0] 45)).alloc (.cells #[.slice none 0 0, .slice none 0 0, .slice none 0 0, .slice none 0 0, .int .i64 0] 30))) := Lib.hid (by
          have hg := HG6.out
          rw [if_pos (by omega)] at hg
          have hb2 := eb_of hb (alloc2_below w7 (.cells #[.string ⟨#[]⟩, .string ⟨#[]⟩, .bool false, .int .i64 0] 45) (.cells #[.slice none 0 0, .slice none 0 0, .slice none 0 0, .slice none 0 0, .int .i64 0] 30)) (Nat.le_refl _)
          exact ⟨hg.below hb2 (Nat.le_refl _), HC6.out.trans (.of_below hb2)⟩)
        clear hb y0 y1 y2 y3 y4 JN HROW6 HRD6 HG6 HC6
        have z1 : ((sl : Int) == (sl : Int)) = true := by simp
        go_wp2_with fail
        go_loopw [20, 21, 22, 23, 24] (fun i _ _ _ _ wr => ∃ q : Nat, nn ≤ q ∧ q ≤ sl ∧ i = .int .i64 q ∧ Hid (SB wr (w3.heap.size + 1) (fun j => j = w3.heap.size ∨ j = w3.heap.size + 1) n rs (pN (ess rs) z q) ∧ Chg (fun j => j = w3.heap.size ∨ j = w3.heap.size + 1) w5 wr)) (fun i _ _ _ _ _ => sl - (intOf i).toNat)
        case atStart => exact ⟨nn, Nat.le_refl _, hnl, rfl, H2⟩
        case round =>
          obtain ⟨q, hq1, hq, rfl, HQ⟩ := hrel
          have HBW : Hid (Below w.heap.size w wr) := Lib.hid (HB5.out.trans (HQ.out.2.below (fun j e => by have := HB3.out.size; omega) HB5.out.size))
          by_cases hqs : q < sl
          rotate_left
          · have hqi : ¬ ((q : Int) < (sl : Int)) := by omega
            have hqd : decide ((q : Int) < (sl : Int)) = false := by rw [decide_eq_false_iff_not]; omega
            go_wp2_with fail
            refine (awake11_any _).mono ?_
            rintro e w9 ⟨rfl, hb9⟩
            have HB9 := Lib.hid (eb_of HBW.out hb9 (Nat.le_refl _))
            clear hb9
            go_wp2_with fail
            go_ret
            exact ⟨rfl, HB9.out⟩
          exact absurd hqs (by have := HEQ.out; omega)
      have F := Lib.hid (goes_facts HES.out HIS.out HR.out.gd (by have := HB23.out.size; omega) hs6 (HB23.out.trans ((HB35.out.mono HB23.out.size))) HC6.out (k := k) (by rw [HSL.out]; exact hks))
      go_wp2_with fail
      refine JN.out.mono ?_
      rintro e w7 (⟨h, _⟩ | ⟨_, x, r, g1, g2, g3, g4, f1, f2, f3, f4, hx, hr, rfl, hrd, hb⟩)
      · exact absurd h (by rw [HLF.out]; omega)
      obtain ⟨lb, lo, fb, fo, rfl, rfl, l0, l1, l2, l3, f0⟩ := F.out x r hx (hr.trans HPW.out.symm) _ hb
      have HF0 := Lib.hid (And.intro l0 (And.intro l1 (And.intro l2 (And.intro l3 f0))))
      obtain ⟨xk, xv, xd, xq⟩ := x
      obtain ⟨pz, hpz⟩ : ∃ pz, winA (ess rs) (pN (ess rs) z (k + 1)) = pz := ⟨_, rfl⟩
      rw [hpz]
      have HPZ := Lib.hid hpz
      have HRD := Lib.hid hrd
      have HROW7 := Lib.hid (HROW6.out.below hb (Nat.le_refl _))
      have HG7 := Lib.hid (HG6.out.below hb (Nat.le_refl _))
      have HC7 : Hid (Chg (fun j => j = w3.heap.size ∨ j = w3.heap.size + 1) w5 w7) := Lib.hid (HC6.out.trans (.of_below hb))
      clear hx hr hrd hb hpz l0 l1 l2 l3 f0 y0 y1 y2 y3 y4 JN F HROW6 HRD6 HG6 HC6
      obtain ⟨w8, hw8⟩ : ∃ w8, (w7.alloc (.cells #[.string xk, .string xv, .bool xd, .int .i64 xq] 45)).alloc (.cells #[.slice (some ⟨g1, 0, none⟩) n f1, .slice (some ⟨g2, 0, none⟩) n f2, .slice (some ⟨g3, 0, none⟩) n f3, .slice (some ⟨g4, 0, none⟩) n f4, .int .i64 (pz : Int)] 30) = w8 := ⟨_, rfl⟩
      have hb78 : Below w7.heap.size w7 w8 := hw8 ▸ alloc2_below _ _ _
      have HX8 : Hid (Rw4 w8 w7.heap.size 45 (.string xk) (.string xv) (.bool xd) (.int .i64 xq)) := Lib.hid (hw8 ▸ hp2 w7 _ _)
      have HT8 : Hid (Rw5 w8 (w7.heap.size + 1) 30 (.slice (some ⟨g1, 0, none⟩) n f1) (.slice (some ⟨g2, 0, none⟩) n f2) (.slice (some ⟨g3, 0, none⟩) n f3) (.slice (some ⟨g4, 0, none⟩) n f4) (.int .i64 (pz : Int))) := Lib.hid (hw8 ▸ hp3 w7 _ _ rfl)
      have HK8 := Lib.hid (HROW7.out.below hb78 (Nat.le_refl _))
      have HG8 := Lib.hid (HG7.out.below hb78 (Nat.le_refl _))
      have HRD8 := Lib.hid (HRD.out.below hb78 (Nat.le_refl _))
      have HC8 : Hid (Chg (fun j => j = w3.heap.size ∨ j = w3.heap.size + 1) w5 w8) := Lib.hid (HC7.out.trans (.of_below hb78))
      obtain ⟨l0, l1, l2, l3, f0⟩ := HF0.out
      have l0 := (hb78.cell (p := ⟨lb, _, none⟩) (cell_lt l0)).trans l0
      have l1 := (hb78.cell (p := ⟨lb, _, none⟩) (cell_lt l1)).trans l1
      have l2 := (hb78.cell (p := ⟨lb, _, none⟩) (cell_lt l2)).trans l2
      have l3 := (hb78.cell (p := ⟨lb, _, none⟩) (cell_lt l3)).trans l3
      have f0 := (hb78.cell (p := ⟨fb, _, none⟩) (cell_lt f0)).trans f0
      have hlt7 : w3.heap.size < w7.heap.size := HROW7.out.lt
      have x0 := HX8.out.c0
      have x1 := HX8.out.c1
      have x2 := HX8.out.c2
      have x3 := HX8.out.c3
      have t0 := HT8.out.c0
      have t1 := HT8.out.c1
      have t2 := HT8.out.c2
      have t3 := HT8.out.c3
      have t4 := HT8.out.c4
      have qq0 := HK8.out.c0
      have qq1 := HK8.out.c1
      have qq2 := HK8.out.c2
      have qq3 := HK8.out.c3
      have qq4 := HK8.out.c4
      have z0 := HK8.out.fz 0
      have z1 := HK8.out.fz 1
      have z2 := HK8.out.fz 2
      have z3 := HK8.out.fz 3
      have z4 := HK8.out.fz 4
      have hki : (k : Int) < (sl : Int) := by omega
      have hke : ((k : Int) == (sl : Int)) = false := by rw [beq_eq_false_iff_ne]; omega
      have HEND : Hid (∀ nq, Hid (SB ((((((w8.drewN nq).setCell ⟨w3.heap.size, 0, none⟩ (.slice (some ⟨g1, 0, none⟩) n f1)).setCell ⟨w3.heap.size, 1, none⟩ (.slice (some ⟨g2, 0, none⟩) n f2)).setCell ⟨w3.heap.size, 2, none⟩ (.slice (some ⟨g3, 0, none⟩) n f3)).setCell ⟨w3.heap.size, 3, none⟩ (.slice (some ⟨g4, 0, none⟩) n f4)).setCell ⟨w3.heap.size, 4, none⟩ (.int .i64 (pz : Int))) w3.heap.size (fun j => j = w3.heap.size ∨ j = w3.heap.size + 1) n rs (pN (ess rs) z (k + 1)) ∧ SB ((((((w8.drewN nq).setCell ⟨w3.heap.size, 0, none⟩ (.slice (some ⟨g1, 0, none⟩) n f1)).setCell ⟨w3.heap.size, 1, none⟩ (.slice (some ⟨g2, 0, none⟩) n f2)).setCell ⟨w3.heap.size, 2, none⟩ (.slice (some ⟨g3, 0, none⟩) n f3)).setCell ⟨w3.heap.size, 3, none⟩ (.slice (some ⟨g4, 0, none⟩) n f4)).setCell ⟨w3.heap.size, 4, none⟩ (.int .i64 (pz : Int))) (w3.heap.size + 1) (fun j => j = w3.heap.size ∨ j = w3.heap.size + 1) n rs (pN (ess rs) z (if nn < k + 1 then nn else 0)) ∧ Chg (fun j => j = w3.heap.size ∨ j = w3.heap.size + 1) w5 ((((((w8.drewN nq).setCell ⟨w3.heap.size, 0, none⟩ (.slice (some ⟨g1, 0, none⟩) n f1)).setCell ⟨w3.heap.size, 1, none⟩ (.slice (some ⟨g2, 0, none⟩) n f2)).setCell ⟨w3.heap.size, 2, none⟩ (.slice (some ⟨g3, 0, none⟩) n f3)).setCell ⟨w3.heap.size, 3, none⟩ (.slice (some ⟨g4, 0, none⟩) n f4)).setCell ⟨w3.heap.size, 4, none⟩ (.int .i64 (pz : Int))))) := Lib.hid (fun nq => Lib.hid (by
        have b1 := below_drewN' (w := w8) nq
        have c1 := set5C (w8.drewN nq) w3.heap.size (.slice (some ⟨g1, 0, none⟩) n f1) (.slice (some ⟨g2, 0, none⟩) n f2) (.slice (some ⟨g3, 0, none⟩) n f3) (.slice (some ⟨g4, 0, none⟩) n f4) (.int .i64 (pz : Int))
        exact ⟨⟨g1, g2, g3, g4, f1, f2, f3, f4, by rw [HPZ.out]; exact (HK8.out.below b1 (Nat.le_refl _)).set _ _ _ _ _, (HRD8.out.below b1 (Nat.le_refl _)).chg c1 (fun j e => .inl e)⟩, (HG8.out.below b1 (Nat.le_refl _)).chg c1 (fun j e => .inl e) (by omega), (HC8.out.trans (.of_below b1)).trans (c1.mono (fun j e => .inl e))⟩))
      clear hb78 HROW7 HG7 HRD HC7 HF0
      go_wp2_with fail
      clear hw8
      go_quiet (fail)
      go_wp2_with fail
      go_roundw
      case rel => exact ⟨k + 1, by omega, by go_num, HEND.out _⟩
      case measure => simp [intOf]; omega
    · obtain ⟨gr, ga, gk, gl, e1, e2, e3, e4, hrow, hrd⟩ := HH.out.1
      obtain ⟨pw, hpw⟩ : ∃ pw, winA (ess rs) (pN (ess rs) z k) = pw := ⟨_, rfl⟩
      rw [hpw] at hrow
      have HROW := Lib.hid hrow
      have HRDA := Lib.hid hrd
      have HG2 : Hid (SB wr (w3.heap.size + 1) (fun j => j = w3.heap.size ∨ j = w3.heap.size + 1) n rs (pN (ess rs) z (if nn < k + 1 then nn else 0))) := Lib.hid (by
        have e : (if nn < k + 1 then nn else 0) = (if nn < k then nn else 0) := by
          by_cases g : nn < k
          · rw [if_pos g, if_pos (by omega)]
          · rw [if_neg g, if_neg (by omega)]
        rw [e]; exact HH.out.2.1)
      have HCH := Lib.hid HH.out.2.2
      have hsa : w3.heap.size + 2 ≤ wr.heap.size := by have := HCH.out.size; have := HS5.out; omega
      have y0 := hrow.c0
      have y1 := hrow.c1
      have y2 := hrow.c2
      have y3 := hrow.c3
      have y4 := hrow.c4
      have hkn1 : ((k : Int) == (nn : Int)) = false := by rw [beq_eq_false_iff_ne]; omega
      have JL := Lib.hid (left_good _ _ _ _ e1 e2 e3 e4 n rs (pN (ess rs) z k) wr HR.out.n (HR.out.at_ (by rw [HLF.out]; exact hk)).1 (HR.out.at_ (by rw [HLF.out]; exact hk)).2 HRDA.out.ok HR.out.sized)
      rw [hpw] at JL
      have HEQ := Lib.hid heq
      clear hrow hrd heq
      go_wp2_with fail
      generalize wr = wa at *
      have hleft : ((left (ess rs) (pN (ess rs) z k) : Nat) : Int) = (sl : Int) - (k : Int) := by
        rw [(HR.out.gd.pN (i := k) (by rw [HLF.out]; exact hk)).2, HLF.out]; omega
      rw [hleft] at JL
      refine JL.out.mono ?_
      rintro e w6 ⟨rfl, hb⟩
      have HROW6 := Lib.hid (HROW.out.below hb (Nat.le_refl _))
      have HRD6 := Lib.hid (HRDA.out.below hb (Nat.le_refl _))
      have HG6 := Lib.hid (HG2.out.below hb (Nat.le_refl _))
      have HC6 : Hid (Chg (fun j => j = w3.heap.size ∨ j = w3.heap.size + 1) w5 w6) := Lib.hid (HCH.out.trans (.of_below hb))
      have hs6 : w3.heap.size + 2 ≤ w6.heap.size := by have := hb.size; omega
      skip
      clear hb JL HROW HRDA HG2 HCH hkn1 hleft HH y0 y1 y2 y3 y4
      have y0 := HROW6.out.c0
      have y1 := HROW6.out.c1
      have y2 := HROW6.out.c2
      have y3 := HROW6.out.c3
      have y4 := HROW6.out.c4
      have JN := Lib.hid (next_sb (c1 := e1) (c2 := e2) (c3 := e3) (c4 := e4) HR.out (k := k) (by rw [HLF.out]; exact hk) (O := (fun j => j = w3.heap.size ∨ j = w3.heap.size + 1)) (by intro j hj; omega) HRD6.out)
      rw [hpw] at JN
      have HPW := Lib.hid hpw
      clear hpw
      by_cases hks : k < sl
      rotate_left
      · obtain rfl : sl = k := by omega
        go_wp2_with fail
        refine JN.out.mono ?_
        rintro e w7 (⟨_, rfl, hb⟩ | ⟨h, _⟩)
        rotate_left
        · exact absurd h (by rw [HLF.out]; omega)
        have H2 : Hid (SB ((w7.alloc (.cells #[.string ⟨#[]⟩, .string ⟨#[]⟩, .bool false, .int .i64 0] 45)).alloc (.cells #[.slice none 0 0, .slice none 0 0, .slice none 0 0, .slice none 0 0, .int .i64 0] 30)) (w3.heap.size + 1) (fun j => j = w3.heap.size ∨ j = w3.heap.size + 1) n rs (pN (ess rs) z nn) ∧ Chg (fun j => j = w3.heap.size ∨ j = w3.heap.size + 1) w5 ((w7.alloc (.cells #[.string ⟨#[]⟩, .string ⟨#[]⟩, .bool false, .int .i64 0] 45)).alloc (.cells #[.slice none 0 0, .slice none 0 0, .slice none 0 0, .slice none 0 0, .int .i64 0] 30))) := Lib.hid (by
          have hg := HG6.out
          rw [if_pos (by omega)] at hg
          have hb2 := eb_of hb (alloc2_below w7 (.cells #[.string ⟨#[]⟩, .string ⟨#[]⟩, .bool false, .int .i64 0] 45) (.cells #[.slice none 0 0, .slice none 0 0, .slice none 0 0, .slice none 0 0, .int .i64 0] 30)) (Nat.le_refl _)
          exact ⟨hg.below hb2 (Nat.le_refl _), HC6.out.trans (.of_below hb2)⟩)
        clear hb y0 y1 y2 y3 y4 JN HROW6 HRD6 HG6 HC6
        have z1 : ((sl : Int) == (sl : Int)) = true := by simp
        go_wp2_with fail
        go_loopw [20, 21, 22, 23, 24] (fun i _ _ _ _ wr => ∃ q : Nat, nn ≤ q ∧ q ≤ sl ∧ i = .int .i64 q ∧ Hid (SB wr (w3.heap.size + 1) (fun j => j = w3.heap.size ∨ j = w3.heap.size + 1) n rs (pN (ess rs) z q) ∧ Chg (fun j => j = w3.heap.size ∨ j = w3.heap.size + 1) w5 wr)) (fun i _ _ _ _ _ => sl - (intOf i).toNat)
        case atStart => exact ⟨nn, Nat.le_refl _, hnl, rfl, H2⟩
        case round =>
          obtain ⟨q, hq1, hq, rfl, HQ⟩ := hrel
          have HBW : Hid (Below w.heap.size w wr) := Lib.hid (HB5.out.trans (HQ.out.2.below (fun j e => by have := HB3.out.size; omega) HB5.out.size))
          by_cases hqs : q < sl
          rotate_left
          · have hqi : ¬ ((q : Int) < (sl : Int)) := by omega
            have hqd : decide ((q : Int) < (sl : Int)) = false := by rw [decide_eq_false_iff_not]; omega
            go_wp2_with fail
            refine (awake11_any _).mono ?_
            rintro e w9 ⟨rfl, hb9⟩
            have HB9 := Lib.hid (eb_of HBW.out hb9 (Nat.le_refl _))
            clear hb9
            go_wp2_with fail
            go_ret
            exact ⟨rfl, HB9.out⟩
          obtain ⟨gr, ga, gk, gl, e1, e2, e3, e4, hrow, hrd⟩ := HQ.out.1
          obtain ⟨pw, hpw⟩ : ∃ pw, winA (ess rs) (pN (ess rs) z q) = pw := ⟨_, rfl⟩
          have hO5 : w3.heap.size + 2 ≤ wr.heap.size := by have := HQ.out.2.size; have := HS5.out; omega
          have JN := Lib.hid (next_sb (c1 := e1) (c2 := e2) (c3 := e3) (c4 := e4) HR.out (k := q) (by rw [HLF.out]; exact hq) (O := (fun j => j = w3.heap.size ∨ j = w3.heap.size + 1)) (by intro j hj; omega) hrd)
          have HROW := Lib.hid hrow
          have HCH := Lib.hid HQ.out.2
          rw [hpw] at JN HROW
          have HPW := Lib.hid hpw
          have y0 := HROW.out.c0
          have y1 := HROW.out.c1
          have y2 := HROW.out.c2
          have y3 := HROW.out.c3
          have y4 := HROW.out.c4
          have F := Lib.hid (goes_facts HES.out HIS.out HR.out.gd (by have := HB23.out.size; omega) hO5 (HB23.out.trans ((HB35.out.mono HB23.out.size))) HQ.out.2 (k := q) (by rw [HSL.out]; exact hqs))
          clear hrow hrd hpw
          go_wp2_with fail
          refine JN.out.mono ?_
          rintro e w6 (⟨h, _⟩ | ⟨_, x, r, g1, g2, g3, g4, f1, f2, f3, f4, hx, hr, rfl, hrd, hb⟩)
          · exact absurd h (by rw [HLF.out]; omega)
          obtain ⟨lb, lo, fb, fo, rfl, rfl, l0, l1, l2, l3, f0⟩ := F.out x r hx (hr.trans HPW.out.symm) _ hb
          have HF0 := Lib.hid (And.intro l0 (And.intro l1 (And.intro l2 (And.intro l3 f0))))
          obtain ⟨xk, xv, xd, xq⟩ := x
          obtain ⟨pz, hpz⟩ : ∃ pz, winA (ess rs) (pN (ess rs) z (q + 1)) = pz := ⟨_, rfl⟩
          rw [hpz]
          have HPZ := Lib.hid hpz
          have HRD := Lib.hid hrd
          have HB6 := Lib.hid hb
          have HROW6 := Lib.hid (HROW.out.below hb (Nat.le_refl _))
          clear hx hr hrd hb hpz l0 l1 l2 l3 f0 y0 y1 y2 y3 y4 JN F
          obtain ⟨w7, hw7⟩ : ∃ w7, (w6.alloc (.cells #[.string xk, .string xv, .bool xd, .int .i64 xq] 45)).alloc (.cells #[.slice (some ⟨g1, 0, none⟩) n f1, .slice (some ⟨g2, 0, none⟩) n f2, .slice (some ⟨g3, 0, none⟩) n f3, .slice (some ⟨g4, 0, none⟩) n f4, .int .i64 (pz : Int)] 30) = w7 := ⟨_, rfl⟩
          have hb67 : Below w6.heap.size w6 w7 := hw7 ▸ alloc2_below _ _ _
          have HX7 : Hid (Rw4 w7 w6.heap.size 45 (.string xk) (.string xv) (.bool xd) (.int .i64 xq)) := Lib.hid (hw7 ▸ hp2 w6 _ _)
          have HT7 : Hid (Rw5 w7 (w6.heap.size + 1) 30 (.slice (some ⟨g1, 0, none⟩) n f1) (.slice (some ⟨g2, 0, none⟩) n f2) (.slice (some ⟨g3, 0, none⟩) n f3) (.slice (some ⟨g4, 0, none⟩) n f4) (.int .i64 (pz : Int))) := Lib.hid (hw7 ▸ hp3 w6 _ _ rfl)
          have HK7 := Lib.hid (HROW6.out.below hb67 (Nat.le_refl _))
          have HRD7 := Lib.hid (HRD.out.below hb67 (Nat.le_refl _))
          have HC7 : Hid (Chg (fun j => j = w3.heap.size ∨ j = w3.heap.size + 1) w5 w7) := Lib.hid (HCH.out.trans (.of_below (eb_of HB6.out hb67 (Nat.le_refl _))))
          obtain ⟨l0, l1, l2, l3, f0⟩ := HF0.out
          have l0 := (hb67.cell (p := ⟨lb, _, none⟩) (cell_lt l0)).trans l0
          have l1 := (hb67.cell (p := ⟨lb, _, none⟩) (cell_lt l1)).trans l1
          have l2 := (hb67.cell (p := ⟨lb, _, none⟩) (cell_lt l2)).trans l2
          have l3 := (hb67.cell (p := ⟨lb, _, none⟩) (cell_lt l3)).trans l3
          have f0 := (hb67.cell (p := ⟨fb, _, none⟩) (cell_lt f0)).trans f0
          have hlt6 : w3.heap.size + 1 < w6.heap.size := HROW6.out.lt
          have x0 := HX7.out.c0
          have x1 := HX7.out.c1
          have x2 := HX7.out.c2
          have x3 := HX7.out.c3
          have t0 := HT7.out.c0
          have t1 := HT7.out.c1
          have t2 := HT7.out.c2
          have t3 := HT7.out.c3
          have t4 := HT7.out.c4
          have qq0 := HK7.out.c0
          have qq1 := HK7.out.c1
          have qq2 := HK7.out.c2
          have qq3 := HK7.out.c3
          have qq4 := HK7.out.c4
          have z0 := HK7.out.fz 0
          have z1 := HK7.out.fz 1
          have z2 := HK7.out.fz 2
          have z3 := HK7.out.fz 3
          have z4 := HK7.out.fz 4
          have hqi : (q : Int) < (sl : Int) := by omega
          have hqd : decide ((q : Int) < (sl : Int)) = true := by rw [decide_eq_true_eq]; omega
          have HEND : Hid (∀ nq, Hid (SB (((((((w7.drewN nq).setCell ⟨w3.heap.size + 1, 0, none⟩ (.slice (some ⟨g1, 0, none⟩) n f1)).setCell ⟨w3.heap.size + 1, 1, none⟩ (.slice (some ⟨g2, 0, none⟩) n f2)).setCell ⟨w3.heap.size + 1, 2, none⟩ (.slice (some ⟨g3, 0, none⟩) n f3)).setCell ⟨w3.heap.size + 1, 3, none⟩ (.slice (some ⟨g4, 0, none⟩) n f4)).setCell ⟨w3.heap.size + 1, 4, none⟩ (.int .i64 (pz : Int)))) (w3.heap.size + 1) (fun j => j = w3.heap.size ∨ j = w3.heap.size + 1) n rs (pN (ess rs) z (q + 1)) ∧ Chg (fun j => j = w3.heap.size ∨ j = w3.heap.size + 1) w5 (((((((w7.drewN nq).setCell ⟨w3.heap.size + 1, 0, none⟩ (.slice (some ⟨g1, 0, none⟩) n f1)).setCell ⟨w3.heap.size + 1, 1, none⟩ (.slice (some ⟨g2, 0, none⟩) n f2)).setCell ⟨w3.heap.size + 1, 2, none⟩ (.slice (some ⟨g3, 0, none⟩) n f3)).setCell ⟨w3.heap.size + 1, 3, none⟩ (.slice (some ⟨g4, 0, none⟩) n f4)).setCell ⟨w3.heap.size + 1, 4, none⟩ (.int .i64 (pz : Int)))))) := Lib.hid (fun nq => Lib.hid (by
            have b1 := below_drewN' (w := w7) nq
            have c1 := set5C (w7.drewN nq) (w3.heap.size + 1) (.slice (some ⟨g1, 0, none⟩) n f1) (.slice (some ⟨g2, 0, none⟩) n f2) (.slice (some ⟨g3, 0, none⟩) n f3) (.slice (some ⟨g4, 0, none⟩) n f4) (.int .i64 (pz : Int))
            exact ⟨⟨g1, g2, g3, g4, f1, f2, f3, f4, by rw [HPZ.out]; exact (HK7.out.below b1 (Nat.le_refl _)).set _ _ _ _ _, (HRD7.out.below b1 (Nat.le_refl _)).chg c1 (fun j e => .inr e)⟩, (HC7.out.trans (.of_below b1)).trans (c1.mono (fun j e => .inr e))⟩))
          clear hb67 HROW HROW6 HCH HRD HB6 HF0
          go_wp2_with fail
          clear hw7
          go_quiet (fail)
          go_wp2_with fail
          go_roundw
          case rel => exact ⟨q + 1, by omega, by omega, by go_num, HEND.out _⟩
          case measure => simp [intOf]; omega
      have F := Lib.hid (goes_facts HES.out HIS.out HR.out.gd (by have := HB23.out.size; omega) hs6 (HB23.out.trans ((HB35.out.mono HB23.out.size))) HC6.out (k := k) (by rw [HSL.out]; exact hks))
      go_wp2_with fail
      refine JN.out.mono ?_
      rintro e w7 (⟨h, _⟩ | ⟨_, x, r, g1, g2, g3, g4, f1, f2, f3, f4, hx, hr, rfl, hrd, hb⟩)
      · exact absurd h (by rw [HLF.out]; omega)
      obtain ⟨lb, lo, fb, fo, rfl, rfl, l0, l1, l2, l3, f0⟩ := F.out x r hx (hr.trans HPW.out.symm) _ hb
      have HF0 := Lib.hid (And.intro l0 (And.intro l1 (And.intro l2 (And.intro l3 f0))))
      obtain ⟨xk, xv, xd, xq⟩ := x
      obtain ⟨pz, hpz⟩ : ∃ pz, winA (ess rs) (pN (ess rs) z (k + 1)) = pz := ⟨_, rfl⟩
      rw [hpz]
      have HPZ := Lib.hid hpz
      have HRD := Lib.hid hrd
      have HROW7 := Lib.hid (HROW6.out.below hb (Nat.le_refl _))
      have HG7 := Lib.hid (HG6.out.below hb (Nat.le_refl _))
      have HC7 : Hid (Chg (fun j => j = w3.heap.size ∨ j = w3.heap.size + 1) w5 w7) := Lib.hid (HC6.out.trans (.of_below hb))
      clear hx hr hrd hb hpz l0 l1 l2 l3 f0 y0 y1 y2 y3 y4 JN F HROW6 HRD6 HG6 HC6
      obtain ⟨w8, hw8⟩ : ∃ w8, (w7.alloc (.cells #[.string xk, .string xv, .bool xd, .int .i64 xq] 45)).alloc (.cells #[.slice (some ⟨g1, 0, none⟩) n f1, .slice (some ⟨g2, 0, none⟩) n f2, .slice (some ⟨g3, 0, none⟩) n f3, .slice (some ⟨g4, 0, none⟩) n f4, .int .i64 (pz : Int)] 30) = w8 := ⟨_, rfl⟩
      have hb78 : Below w7.heap.size w7 w8 := hw8 ▸ alloc2_below _ _ _
      have HX8 : Hid (Rw4 w8 w7.heap.size 45 (.string xk) (.string xv) (.bool xd) (.int .i64 xq)) := Lib.hid (hw8 ▸ hp2 w7 _ _)
      have HT8 : Hid (Rw5 w8 (w7.heap.size + 1) 30 (.slice (some ⟨g1, 0, none⟩) n f1) (.slice (some ⟨g2, 0, none⟩) n f2) (.slice (some ⟨g3, 0, none⟩) n f3) (.slice (some ⟨g4, 0, none⟩) n f4) (.int .i64 (pz : Int))) := Lib.hid (hw8 ▸ hp3 w7 _ _ rfl)
      have HK8 := Lib.hid (HROW7.out.below hb78 (Nat.le_refl _))
      have HG8 := Lib.hid (HG7.out.below hb78 (Nat.le_refl _))
      have HRD8 := Lib.hid (HRD.out.below hb78 (Nat.le_refl _))
      have HC8 : Hid (Chg (fun j => j = w3.heap.size ∨ j = w3.heap.size + 1) w5 w8) := Lib.hid (HC7.out.trans (.of_below hb78))
      obtain ⟨l0, l1, l2, l3, f0⟩ := HF0.out
      have l0 := (hb78.cell (p := ⟨lb, _, none⟩) (cell_lt l0)).trans l0
      have l1 := (hb78.cell (p := ⟨lb, _, none⟩) (cell_lt l1)).trans l1
      have l2 := (hb78.cell (p := ⟨lb, _, none⟩) (cell_lt l2)).trans l2
      have l3 := (hb78.cell (p := ⟨lb, _, none⟩) (cell_lt l3)).trans l3
      have f0 := (hb78.cell (p := ⟨fb, _, none⟩) (cell_lt f0)).trans f0
      have hlt7 : w3.heap.size < w7.heap.size := HROW7.out.lt
      have x0 := HX8.out.c0
      have x1 := HX8.out.c1
      have x2 := HX8.out.c2
      have x3 := HX8.out.c3
      have t0 := HT8.out.c0
      have t1 := HT8.out.c1
      have t2 := HT8.out.c2
      have t3 := HT8.out.c3
      have t4 := HT8.out.c4
      have qq0 := HK8.out.c0
      have qq1 := HK8.out.c1
      have qq2 := HK8.out.c2
      have qq3 := HK8.out.c3
      have qq4 := HK8.out.c4
      have z0 := HK8.out.fz 0
      have z1 := HK8.out.fz 1
      have z2 := HK8.out.fz 2
      have z3 := HK8.out.fz 3
      have z4 := HK8.out.fz 4
      have hki : (k : Int) < (sl : Int) := by omega
      have hke : ((k : Int) == (sl : Int)) = false := by rw [beq_eq_false_iff_ne]; omega
      have HEND : Hid (∀ nq, Hid (SB ((((((w8.drewN nq).setCell ⟨w3.heap.size, 0, none⟩ (.slice (some ⟨g1, 0, none⟩) n f1)).setCell ⟨w3.heap.size, 1, none⟩ (.slice (some ⟨g2, 0, none⟩) n f2)).setCell ⟨w3.heap.size, 2, none⟩ (.slice (some ⟨g3, 0, none⟩) n f3)).setCell ⟨w3.heap.size, 3, none⟩ (.slice (some ⟨g4, 0, none⟩) n f4)).setCell ⟨w3.heap.size, 4, none⟩ (.int .i64 (pz : Int))) w3.heap.size (fun j => j = w3.heap.size ∨ j = w3.heap.size + 1) n rs (pN (ess rs) z (k + 1)) ∧ SB ((((((w8.drewN nq).setCell ⟨w3.heap.size, 0, none⟩ (.slice (some ⟨g1, 0, none⟩) n f1)).setCell ⟨w3.heap.size, 1, none⟩ (.slice (some ⟨g2, 0, none⟩) n f2)).setCell ⟨w3.heap.size, 2, none⟩ (.slice (some ⟨g3, 0, none⟩) n f3)).setCell ⟨w3.heap.size, 3, none⟩ (.slice (some ⟨g4, 0, none⟩) n f4)).setCell ⟨w3.heap.size, 4, none⟩ (.int .i64 (pz : Int))) (w3.heap.size + 1) (fun j => j = w3.heap.size ∨ j = w3.heap.size + 1) n rs (pN (ess rs) z (if nn < k + 1 then nn else 0)) ∧ Chg (fun j => j = w3.heap.size ∨ j = w3.heap.size + 1) w5 ((((((w8.drewN nq).setCell ⟨w3.heap.size, 0, none⟩ (.slice (some ⟨g1, 0, none⟩) n f1)).setCell ⟨w3.heap.size, 1, none⟩ (.slice (some ⟨g2, 0, none⟩) n f2)).setCell ⟨w3.heap.size, 2, none⟩ (.slice (some ⟨g3, 0, none⟩) n f3)).setCell ⟨w3.heap.size, 3, none⟩ (.slice (some ⟨g4, 0, none⟩) n f4)).setCell ⟨w3.heap.size, 4, none⟩ (.int .i64 (pz : Int))))) := Lib.hid (fun nq => Lib.hid (by
        have b1 := below_drewN' (w := w8) nq
        have c1 := set5C (w8.drewN nq) w3.heap.size (.slice (some ⟨g1, 0, none⟩) n f1) (.slice (some ⟨g2, 0, none⟩) n f2) (.slice (some ⟨g3, 0, none⟩) n f3) (.slice (some ⟨g4, 0, none⟩) n f4) (.int .i64 (pz : Int))
        exact ⟨⟨g1, g2, g3, g4, f1, f2, f3, f4, by rw [HPZ.out]; exact (HK8.out.below b1 (Nat.le_refl _)).set _ _ _ _ _, (HRD8.out.below b1 (Nat.le_refl _)).chg c1 (fun j e => .inl e)⟩, (HG8.out.below b1 (Nat.le_refl _)).chg c1 (fun j e => .inl e) (by omega), (HC8.out.trans (.of_below b1)).trans (c1.mono (fun j e => .inl e))⟩))
      clear hb78 HROW7 HG7 HRD HC7 HF0
      go_wp2_with fail
      clear hw8
      go_quiet (fail)
      go_wp2_with fail
      go_roundw
      case rel => exact ⟨k + 1, by omega, by go_num, HEND.out _⟩
      case measure => simp [intOf]; omega
end Go.Proofs.Ytebjhjmlpodkgaa.KK
