/-
  Trees of losers: far, the example, awake.
-/
import Derived.Test.YtebjhjmlpodkgaaLn
import Derived.Test.YtebjhjmlpodkgaaLk
namespace Go.Proofs.Ytebjhjmlpodkgaa.KK
open Go.ChangeShapes Go.WideShapes Go.ChangeAt Go.RowKit Go.Proofs

/-- more than is looked at -/
def farK (ks : List LK) : Bool := decide (40 < ks.length) || ks.any fun k => decide (100 < k.1.size)
theorem farK_len {ks : List LK} (h : farK ks = false) : ks.length ≤ 40 ∧ ∀ k ∈ ks, k.1.size ≤ 100 := by
  unfold farK at h
  simp only [Bool.or_eq_false_iff, decide_eq_false_iff_not, List.any_eq_false, decide_eq_true_eq] at h
  exact ⟨by omega, fun k hk => by have := h.2 k hk; omega⟩
def exKs : List LK := [(⟨#[99]⟩, false), (⟨#[97]⟩, false), (⟨#[98]⟩, false), (⟨#[97]⟩, false)]
def exDs : List LK := [(⟨#[99]⟩, false), (⟨#[100]⟩, false), (⟨#[98]⟩, false), (⟨#[97]⟩, false)]
theorem pl4 (W : Nat → Nat → Bool) : Lo.pl W 4 2 = (if W 0 1 then 0 else 1) ∧ Lo.pl W 4 3 = (if W 2 3 then 2 else 3) ∧ Lo.lo W 4 2 = (if W 0 1 then 1 else 0) ∧ Lo.lo W 4 3 = (if W 2 3 then 3 else 2) := by
  have a := Lo.pl_leaf W 4 0
  have b := Lo.pl_leaf W 4 1
  have c := Lo.pl_leaf W 4 2
  have d := Lo.pl_leaf W 4 3
  refine ⟨?_, ?_, ?_, ?_⟩
  · rw [Lo.pl_node (by omega) (by omega)]; show (if W (Lo.pl W 4 (4 + 0)) (Lo.pl W 4 (4 + 1)) then Lo.pl W 4 (4 + 0) else Lo.pl W 4 (4 + 1)) = _; rw [a, b]
  · rw [Lo.pl_node (by omega) (by omega)]; show (if W (Lo.pl W 4 (4 + 2)) (Lo.pl W 4 (4 + 3)) then Lo.pl W 4 (4 + 2) else Lo.pl W 4 (4 + 3)) = _; rw [c, d]
  · unfold Lo.lo; show (if W (Lo.pl W 4 (4 + 0)) (Lo.pl W 4 (4 + 1)) then Lo.pl W 4 (4 + 1) else Lo.pl W 4 (4 + 0)) = _; rw [a, b]
  · unfold Lo.lo; show (if W (Lo.pl W 4 (4 + 2)) (Lo.pl W 4 (4 + 3)) then Lo.pl W 4 (4 + 3) else Lo.pl W 4 (4 + 2)) = _; rw [c, d]
theorem pl41 (W : Nat → Nat → Bool) (a b : Nat) (ha : Lo.pl W 4 2 = a) (hb : Lo.pl W 4 3 = b) : Lo.pl W 4 1 = (if W a b then a else b) ∧ Lo.lo W 4 1 = (if W a b then b else a) := by
  constructor
  · rw [Lo.pl_node (by omega) (by omega)]; show (if W (Lo.pl W 4 2) (Lo.pl W 4 3) then Lo.pl W 4 2 else Lo.pl W 4 3) = _; rw [ha, hb]
  · unfold Lo.lo; show (if W (Lo.pl W 4 2) (Lo.pl W 4 3) then Lo.pl W 4 3 else Lo.pl W 4 2) = _; rw [ha, hb]
theorem loL4 (ks : List LK) (h : ks.length = 4) (x y z : Nat) (h1 : Lo.lo (wn ks) 4 1 = x) (h2 : Lo.lo (wn ks) 4 2 = y) (h3 : Lo.lo (wn ks) 4 3 = z) : loL ks = [0, (x : Int), (y : Int), (z : Int)] := by
  unfold loL; rw [h]; simp [List.range, List.range.loop, h1, h2, h3]
theorem exE : keysE exKs = 0 := by decide +kernel
theorem ex01 : wn exKs 0 1 = false ∧ wn exKs 2 3 = false ∧ wn exKs 1 3 = true := by decide +kernel
theorem exd01 : wn exDs 0 1 = true ∧ wn exDs 2 3 = false ∧ wn exDs 0 3 = false := by decide +kernel
theorem exW : wnr exKs = 1 ∧ loL exKs = [0, 3, 0, 2] := by
  obtain ⟨a, b, c⟩ := ex01
  obtain ⟨p2, p3, l2, l3⟩ := pl4 (wn exKs)
  rw [a] at p2 l2; rw [b] at p3 l3
  obtain ⟨p1, l1⟩ := pl41 (wn exKs) 1 3 p2 p3
  rw [c] at p1 l1
  exact ⟨p1, loL4 exKs rfl 3 0 2 l1 l2 l3⟩
theorem exDW : wnr exDs = 3 ∧ loL exDs = [0, 0, 1, 2] := by
  obtain ⟨a, b, c⟩ := exd01
  obtain ⟨p2, p3, l2, l3⟩ := pl4 (wn exDs)
  rw [a] at p2 l2; rw [b] at p3 l3
  obtain ⟨p1, l1⟩ := pl41 (wn exDs) 0 3 p2 p3
  rw [c] at p1 l1
  exact ⟨p1, loL4 exDs rfl 0 1 2 l1 l2 l3⟩
theorem exK : kAt exKs 1 = (⟨#[97]⟩, false) := rfl
theorem exR : repE exKs (⟨#[100]⟩, false) = 0 ∧ repE exKs (⟨#[]⟩, false) = 6 := by
  unfold repE; rw [exW.1, exK]; exact ⟨by decide +kernel, by decide +kernel⟩
theorem exO : Ord exKs [1, 3, 2, 0] := ⟨by decide +kernel, by decide +kernel⟩
theorem gm2 : Lo.gm 2 = 2 := by rw [Lo.gm_pos (by omega), Lo.gm_pos (by omega), Lo.gm_zero]
theorem ex_build (A : Option Addr) (c : Nat) (w : World) (hf : KsAt w A exKs) : Calls Try.prog 71 #[.slice A 4 c] w fun e w' => ∃ kb lb cp cl, e = .returned (.tuple #[.agg #[.slice (some ⟨kb, 0, none⟩) 4 cp, .slice (some ⟨lb, 0, none⟩) 4 cl, .int .i64 1], .int .i64 0]) ∧ Tree w w' kb lb exKs [0, 3, 0, 2] := by
  have K := build_ok A c exKs w hf exE
  rw [exW.1, exW.2] at K
  exact K
theorem ex_winner (A B : Option Addr) (c d : Nat) (w : World) (hf : KsAt w A exKs) (hg : IsAt w B [0, 3, 0, 2]) : Calls Try.prog 85 #[.agg #[.slice A 4 c, .slice B 4 d, .int .i64 1]] w fun e w' => e = .returned (.tuple #[.int .i64 1, .string ⟨#[97]⟩, .int .i64 0]) ∧ Below w.heap.size w w' := by
  have K := winner_any A B c d exKs w hf (by rw [exW.2]; exact hg) exE
  rw [exW.1, exK] at K
  exact K
theorem ex_replace (A B : Option Addr) (c d : Nat) (w : World) (hf : KsAt w A exKs) (hg : IsAt w B [0, 3, 0, 2]) : Calls Try.prog 100 #[.agg #[.slice A 4 c, .slice B 4 d, .int .i64 1], .agg #[.string ⟨#[100]⟩, .bool false]] w fun e w' => ∃ kb lb cp cl,
    e = .returned (.tuple #[.agg #[.slice (some ⟨kb, 0, none⟩) 4 cp, .slice (some ⟨lb, 0, none⟩) 4 cl, .int .i64 3], .int .i64 2, .int .i64 0]) ∧ Tree w w' kb lb exDs [0, 0, 1, 2] := by
  have K := replace_ok A B c d exKs ⟨#[100]⟩ false w hf (by rw [exW.2]; exact hg) exE exR.1
  rw [exW.1, show exKs.set 1 (⟨#[100]⟩, false) = exDs from rfl, exDW.1, exDW.2, show (exKs.length + 1) / 2 = 2 from rfl, gm2] at K
  exact K
theorem ex_rep0 (A B : Option Addr) (c d : Nat) (w : World) (hf : KsAt w A exKs) (hg : IsAt w B [0, 3, 0, 2]) : Calls Try.prog 100 #[.agg #[.slice A 4 c, .slice B 4 d, .int .i64 1], .agg #[.string ⟨#[]⟩, .bool false]] w fun e w' =>
    e = .returned (.tuple #[.agg #[.slice none 0 0, .slice none 0 0, .int .i64 0], .int .i64 0, .int .i64 6]) ∧ Below w.heap.size w w' := by
  have K := replace_no A B c d exKs ⟨#[]⟩ false w hf (by rw [exW.2]; exact hg) exE (by rw [exR.2]; decide)
  rw [exW.1, exR.2] at K
  exact K
theorem nil_build (w : World) : Calls Try.prog 71 #[.slice none 0 0] w fun e w' => e = .returned (.tuple #[.agg #[.slice none 0 0, .slice none 0 0, .int .i64 0], .int .i64 6]) ∧ Below w.heap.size w w' :=
  build_no none 0 [] w (.inl rfl) (by simp) (by decide)
end Go.Proofs.Ytebjhjmlpodkgaa.KK
