/-
  Runs: the part from a key on, and up to it, plainly.
-/
import Derived.Test.YtjnbdeahmbkbnaaRy
namespace Go.Proofs.Ytjnbdeahmbkbnaa.KK
open Go.ChangeShapes Go.WideShapes Go.ChangeAt Go.RowKit Go.Proofs

def nxE (key : ByteArray) : Int := (nextE (Kl.L key)).1
def nxS (key : ByteArray) : ByteArray := ⟨(nextE (Kl.L key)).2.toArray⟩
theorem L_mk (l : List UInt8) : Kl.L ⟨l.toArray⟩ = l := by simp [Kl.L]
theorem nx_case {key : ByteArray} (hk : key.size ≤ 32) : (nxE key = 9 ∧ (nxS key).size ≤ 32) ∨ (nxE key = 0 ∧ (nxS key).size ≤ 32 ∧ ∀ x : ByteArray, x.size ≤ 32 → ltK x (nxS key) = !ltK key x) := by
  have hlen : (Kl.L key).length = key.size := Kl.L_length key
  unfold nxE nxS nextE
  rw [if_neg (by omega)]
  by_cases h : (Kl.L key).length < 32
  · rw [if_pos h]
    refine .inr ⟨rfl, ?_, fun x hx => ?_⟩
    · rw [← Kl.L_length, L_mk (Kl.L key ++ [0])]; simp; omega
    · show Kl.lt (Kl.L x) (Kl.L ⟨(Kl.L key ++ [0]).toArray⟩) = !Kl.lt (Kl.L key) (Kl.L x)
      rw [L_mk (Kl.L key ++ [0])]
      cases g : Kl.lt (Kl.L key) (Kl.L x) with
      | true => rw [Kl.zero_least _ _ g]; rfl
      | false => rw [Kl.le_lt g (Kl.zero_above (Kl.L key))]; rfl
  · rw [if_neg h]
    cases hr : Kl.rai (Kl.L key) with
    | none => exact .inl ⟨rfl, by simp; decide⟩
    | some p =>
      have hp := Kl.rai_length hr
      refine .inr ⟨rfl, ?_, fun x hx => ?_⟩
      · show (⟨p.toArray⟩ : ByteArray).size ≤ 32
        rw [← Kl.L_length, L_mk p]; omega
      · show Kl.lt (Kl.L x) (Kl.L ⟨p.toArray⟩) = !Kl.lt (Kl.L key) (Kl.L x)
        rw [L_mk p]
        have hxl : (Kl.L x).length = x.size := Kl.L_length x
        cases g : Kl.lt (Kl.L key) (Kl.L x) with
        | true => rw [Kl.rai_least hr (by omega) g]; rfl
        | false => rw [Kl.le_lt g (Kl.rai_above hr)]; rfl
theorem inN_empty (xs : List El.En) : inN xs ⟨#[]⟩ = 0 := by
  unfold inN
  refine List.countP_eq_zero.2 fun x _ => ?_
  unfold ltK
  have : Kl.L ⟨#[]⟩ = [] := by simp [Kl.L]
  rw [this, Kl.lt_nil]; simp
/-- what RunsEnds asks at one of its two rounds -/
structure EndR (id : Int) (xs : List El.En) (key s : ByteArray) (past : Bool) (P : Nat) : Prop where
  sz : s.size ≤ 32
  low : partR id xs s ⟨#[]⟩ false = ((P : Int), (xs.length : Int), 0)
  high : partR id xs ⟨#[]⟩ s true = (0, (P : Int), 0)
  up : if h : P < xs.length then ceilR id xs key past = (xs[P], 0) else ceilR id xs key past = (El.none, 4)
  dn : P = 0 → floorR id xs key (!past) = (El.none, 4)
  ds : ∀ j, P = j + 1 → ∃ g : j < xs.length, floorR id xs key (!past) = (xs[j], 0)
  le : P ≤ xs.length
theorem end_of {id : Int} {xs : List El.En} {key s : ByteArray} {past : Bool} (hr : (runE id xs).2 = 0) (hk : key.size ≤ 32) (hs : s.size ≤ 32) (h : inN xs s = befN xs key past) : EndR id xs key s past (befN xs key past) := by
  have ha : askR id xs key = 0 := by rw [askR_ok hr, chk1_ok hk]
  have hle := befN_le xs key past
  refine ⟨hs, ?_, ?_, ?_, fun e => ?_, fun j e => ?_, hle⟩
  · have hc : chkR s ⟨#[]⟩ false = 0 := by unfold chkR; rw [if_neg (fun g => g ⟨hs, by decide⟩), if_neg (fun g => g.2 rfl)]
    rw [partR_ok hr hc, h]; rfl
  · have hc : chkR ⟨#[]⟩ s true = 0 := by unfold chkR; rw [if_neg (fun g => g ⟨by decide, hs⟩), if_neg (fun g => by cases g.1)]
    rw [partR_ok hr hc]
    unfold toN
    rw [if_pos rfl, inN_empty, h]; simp
  · by_cases g : befN xs key past < xs.length
    · rw [dif_pos g]; exact high_some ha rfl g
    · rw [dif_neg g]; exact ceilR_none ha (by omega)
  · exact low_none ha (by rw [Bool.not_not]; exact e)
  · exact low_some ha (by rw [Bool.not_not]; exact e)
theorem end0 {id : Int} {xs : List El.En} {key : ByteArray} (hr : (runE id xs).2 = 0) (hk : key.size ≤ 32) : EndR id xs key key false (befN xs key false) := end_of hr hk hk rfl
theorem end1 {id : Int} {xs : List El.En} {key : ByteArray} (hr : (runE id xs).2 = 0) (hk : key.size ≤ 32) (h0 : nxE key = 0) : EndR id xs key (nxS key) true (befN xs key true) := by
  rcases nx_case hk with ⟨h, _⟩ | ⟨_, h1, h2⟩
  · rw [h] at h0; cases h0
  · refine end_of hr hk h1 ?_
    obtain ⟨_, hck, _⟩ := run_ok hr
    unfold inN befN
    refine List.countP_congr fun x hx => ?_
    rw [h2 x.1 (El.chk_of (hck x hx)).1]
    unfold lowB; simp
theorem end_err {id : Int} {xs : List El.En} {lo hi : ByteArray} {b : Bool} (hr : (runE id xs).2 ≠ 0) : partR id xs lo hi b = (0, 0, (runE id xs).2) := partR_no hr
end Go.Proofs.Ytjnbdeahmbkbnaa.KK
