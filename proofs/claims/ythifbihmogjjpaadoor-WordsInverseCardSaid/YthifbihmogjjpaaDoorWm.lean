/-
  Contract of Split.
-/
import Derived.Test.YthifbihmogjjpaaDoorWl
namespace Go.Proofs.YthifbihmogjjpaaDoor
open Go.ChangeShapes Go.WideShapes Go.ChangeAt Go.RowKit Go.Proofs
attribute [local go_sem] Oper.semAt_some

theorem fieldsOf_any (s : ByteArray) (w : World) :
    Calls Tryd.prog 23 #[.string s] w fun e w' => e = .returned (.func (.func 44) #[] #[.pointer (some ⟨w.heap.size, 0, none⟩)]) ∧ w' = w.alloc (.cells #[.string s] 9) := by
  go_enter Tryd.func23, Tryd.ntmps23
  go_wp2
  go_ret
  exact ⟨rfl, rfl⟩

/-- what fieldsOf yields of a line -/
def Pl.seq (l : List UInt8) : List (Option (List UInt8 × Bool)) := if l = [] then [] else Pl.its l

theorem Pl.seq_len (l : List UInt8) : (Pl.seq l).length ≤ l.length + 2 := by
  unfold Pl.seq; split
  · simp
  · exact Pl.its_len l

set_option maxHeartbeats 1000000 in
theorem fieldsOf1_in (n : Nat) (s : ByteArray) (l n0 Bn : Nat) (w : World) (he : EscAt w) (hs : s.size ≤ 4294967295) (hg : 0 < n0) (hn : n0 ≤ w.heap.size)
    (J Jx : List (Option (List UInt8 × Bool)) → World → Prop) (hc : w.cell? ⟨Bn, 0, none⟩ = some (.string s))
    (hJ : ∀ pre A A' row, J pre A → A.grownBy A' row → (∀ r, row = some r → r = w.heap.size) → J pre A')
    (hY : YieldsF (n - 1) l n0 w.heap.size (Pl.seq (Pl.L s)) J Jx) (h0 : J [] w) :
    CallsIn Fence.wide n Tryd.prog 44 #[.func (.yield l) #[] #[], .pointer (some ⟨Bn, 0, none⟩)] w fun e W' => (∃ v, e = .returned v) ∧ (J (Pl.seq (Pl.L s)) W' ∨ ∃ pre, pre <+: Pl.seq (Pl.L s) ∧ Jx pre W') := by
  refine callsIn_of_wp Tryd.func44 rfl trivial ?_ rfl
  simp only [Tryd.ntmps44, List.size_toArray, List.length_cons, List.length_nil, Nat.reduceAdd, Nat.reduceSub, Array.replicate_succ, Array.replicate_zero, List.push_toArray, List.append_toArray, List.nil_append, List.cons_append]
  have HJ := Lib.hid hJ
  have HY := Lib.hid hY
  have HE := Lib.hid he
  have H0 := Lib.hid h0
  clear hJ hY he h0
  by_cases h00 : s.size = 0
  · have h1 := Pl.empty_facts s h00
    have HN := Lib.hid (Pl.L_nil s h00)
    clear h00
    gi_wp2
    go_end0
    exact ⟨⟨_, rfl⟩, .inl (by rw [HN.out]; exact H0.out)⟩
  · have hp : 0 < s.size := by omega
    obtain ⟨h1, h2⟩ := Pl.full_facts s hp
    have HN : Hid (Pl.seq (Pl.L s) = Pl.its (Pl.L s)) := Lib.hid (by
      unfold Pl.seq; rw [if_neg]; rw [Pl.L_cons s hp]; simp)
    clear h00
    gi_wp2_with (refine ⟨trivial, (fun h => by cases h), ?_⟩; refine (parse_in (n - 1) s l n0 _ HE.out hs hg hn J Jx HJ.out (by have := HY.out; rwa [HN.out] at this) H0.out).mono ?_; rintro e w1 ⟨⟨v, rfl⟩, ho⟩; have HO := Lib.hid ho; clear ho)
    all_goals
      go_end0
      exact ⟨⟨_, rfl⟩, by rw [HN.out]; exact HO.out⟩

def cellsF (fs : List (List UInt8 × Bool)) : List Value := fs.flatMap fun f => [.string ⟨f.1.toArray⟩, .bool f.2]
theorem cellsF_snoc (fs : List (List UInt8 × Bool)) (f : List UInt8 × Bool) : cellsF (fs ++ [f]) = cellsF fs ++ [.string ⟨f.1.toArray⟩, .bool f.2] := by simp [cellsF]
theorem cellsF_len (fs : List (List UInt8 × Bool)) : (cellsF fs).length = fs.length * 2 := by
  induction fs with
  | nil => rfl
  | cons f fs ih => simp only [cellsF, List.flatMap_cons, List.length_append, List.length_cons, List.length_nil] at ih ⊢; omega
theorem cellsF_get : ∀ (fs : List (List UInt8 × Bool)) (i : Nat) (h : i < fs.length), (cellsF fs)[i * 2]? = some (.string ⟨fs[i].1.toArray⟩) ∧ (cellsF fs)[i * 2 + 1]? = some (.bool fs[i].2)
  | f :: fs, 0, _ => by simp [cellsF]
  | f :: fs, i + 1, h => by
    have := cellsF_get fs i (by simpa using h)
    have e : ∀ j, (cellsF (f :: fs))[j + 2]? = (cellsF fs)[j]? := fun j => by simp [cellsF]
    rw [show (i + 1) * 2 = i * 2 + 2 by omega, show i * 2 + 2 + 1 = (i * 2 + 1) + 2 by omega, e, e]
    simpa using this
theorem FldsAt.of_own {w : World} {base : Nat} {A : Option Addr} {c : Nat} {fs : List (List UInt8 × Bool)} (h : w.ownsRow base 48 2 (.slice A fs.length c) fs.length (cellsF fs)) : FldsAt w A fs := by
  by_cases h0 : fs = []
  · exact .inl h0
  · have hpos : 0 < fs.length := List.length_pos_iff.2 h0
    have hform : ∃ g cap, Value.slice A fs.length c = .slice (some ⟨g, 0, none⟩) fs.length cap ∧ g < w.heap.size := by
      rcases h.2 with ⟨_, h1⟩ | ⟨g, cap, cur, hv, _, hh, _⟩
      · omega
      · exact ⟨g, cap, hv, (Array.getElem?_eq_some_iff.1 hh).1⟩
    obtain ⟨g, cap, hv, hlt⟩ := hform
    have hA : A = some ⟨g, 0, none⟩ := by injection hv
    refine .inr ⟨g, 0, hA, hlt, fun i hi => ?_⟩
    have hcell := h.cells (g := g) (by rw [hv]; rfl)
    obtain ⟨a0, a1⟩ := cellsF_get fs i hi
    have hadd : ∀ j, (⟨g, 0, none⟩ : Addr).add j = ⟨g, 0 + j, none⟩ := fun j => by unfold Addr.add; split <;> simp_all
    have b0 := hcell _ _ a0
    have b1 := hcell _ _ a1
    rw [hadd] at b0 b1
    exact ⟨b0, by rw [show 0 + i * 2 + 1 = 0 + (i * 2 + 1) by omega]; exact b1⟩

def allS (S : List (Option (List UInt8 × Bool))) : Option (List (List UInt8 × Bool)) := if S.all Option.isSome then some (S.filterMap id) else none
theorem allS_map (fs : List (List UInt8 × Bool)) : allS (fs.map some) = some fs := by simp [allS, List.filterMap_map]
theorem allS_none {pre S : List (Option (List UInt8 × Bool))} (h : pre <+: S) (hn : none ∈ pre) : allS S = none := by
  unfold allS
  rw [if_neg]
  intro ha
  have := List.all_eq_true.1 ha none (h.subset hn)
  cases this
def Pl.tooL (fs : List (List UInt8 × Bool)) : Bool := decide (64 < fs.length) || fs.any fun f => decide (2000 < f.1.length)
/-- Split: the error, and the fields -/
def Pl.split (l : List UInt8) : Int × List (List UInt8 × Bool) :=
  if 8192 < l.length then (3, []) else match allS (Pl.seq l) with | none => (6, []) | some fs => if Pl.tooL fs then (3, []) else (0, fs)
def SplitOut (l : List UInt8) (w : World) (e : Ending) (w' : World) : Prop :=
  ∃ A c, e = .returned (.tuple #[.slice A (Pl.split l).2.length c, .int .i64 (Pl.split l).1]) ∧ FldsAt w' A (Pl.split l).2 ∧ Below w.heap.size w w'

theorem infoF : (Tryd.prog.info? 48).map (fun i => (i.zero, i.size, i.bytes)) = some (some (.agg #[.string ⟨#[]⟩, .bool false]), 2, 24) := by kernel_rfl

set_option maxRecDepth 100000 in
set_option maxHeartbeats 1000000 in
theorem Split_long (s : ByteArray) (w : World) (h : 8192 < s.size) (hs : s.size ≤ 4294967295) :
    Calls Tryd.prog 9 #[.string s] w (SplitOut (Pl.L s) w) := by
  have H : Hid (Pl.split (Pl.L s) = (3, [])) := Lib.hid (by unfold Pl.split; rw [Pl.L_length, if_pos h])
  go_enter Tryd.func9, Tryd.ntmps9
  go_wp2_with fail
  refine bodyPost_ret (v := .tuple #[.slice none 0 0, .int .i64 3]) (by simp [results, Tryd.f9, go_sem]) rfl ?_
  refine ⟨none, 0, by rw [H.out]; rfl, ?_, ((Below.refl _ _).alloc (Nat.le_refl _) _).alloc (by simp) _⟩
  rw [H.out]; exact .inl rfl
end Go.Proofs.YthifbihmogjjpaaDoor
