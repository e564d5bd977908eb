/-
  A region that draws its order, reads, and calls functions that lay blocks of their own: walked once. Slices of entries: where they lie. checkAll, far, Same.
-/
import Derived.Test.YtlobkbhghpknmaaEf
import Derived.Deep.QuietTactic
namespace Go.Proofs.Ytlobkbhghpknmaa.KK
open Go.ChangeShapes Go.WideShapes Go.ChangeAt Go.RowKit Go.Proofs

/-- a world that has whatever w has -/
structure Abv (w : World) where
  world : World
  h : Below w.heap.size w world
instance (w : World) : Inhabited (Abv w) := ⟨⟨w, Below.refl _ _⟩⟩
theorem wp_region_abv {P : Program} {id : Nat} {Q : Exit → Act → World → Prop} {a : Act} {w : World} {l : List Oper} (hm : P.follows .mixedOrders = true) (hB : Region.lexB .any l.toArray = true)
    (h : wpQuiet P l.toArray (fun w' => ∃ p : Abv w, w' = p.world) (fun a' => ∀ w', (∃ p : Abv w, w' = p.world) → Q .normal a' w') l a) : (Code.region id l.toArray true).wp P Q a w :=
  wp_region_quiet (C := fun w' => ∃ p : Abv w, w' = p.world) hm hB ⟨⟨_, below_drewN' 1⟩, rfl⟩ (by simpa using h)
theorem callAbv {P : Program} {f : FuncId} {args : Array Value} {w : World} {p : Abv w} {v : Value} (h : Calls P f args p.world fun e w' => e = .returned v ∧ Below p.world.heap.size p.world w') :
    Calls P f args p.world fun e w'' => e = .returned v ∧ ∃ p' : Abv w, w'' = p'.world :=
  h.mono fun _ _ ⟨he, hb⟩ => ⟨he, ⟨_, p.h.trans (hb.mono p.h.size)⟩, rfl⟩
theorem callAbv0 {P : Program} {f : FuncId} {args : Array Value} {w : World} {p : Abv w} {v : Value} (h : Calls P f args p.world fun e w' => e = .returned v ∧ p.world = w') :
    Calls P f args p.world fun e w'' => e = .returned v ∧ ∃ p' : Abv w, w'' = p'.world :=
  h.mono fun _ _ ⟨he, hb⟩ => ⟨he, p, hb.symm⟩

/-- a slice of entries lies there: its cells -/
def EsAt (w : World) (A : Option Addr) (xs : List El.En) : Prop :=
  xs = [] ∨ ∃ b off, A = some ⟨b, off, none⟩ ∧ b < w.heap.size ∧ ∀ (i : Nat) (h : i < xs.length),
    w.cell? ⟨b, off + i * 4, none⟩ = some (.string xs[i].1) ∧ w.cell? ⟨b, off + i * 4 + 1, none⟩ = some (.string xs[i].2.1) ∧ w.cell? ⟨b, off + i * 4 + 2, none⟩ = some (.bool xs[i].2.2.1) ∧ w.cell? ⟨b, off + i * 4 + 3, none⟩ = some (.int .i64 xs[i].2.2.2)
theorem EsAt.below {B : Nat} {w w' : World} {A : Option Addr} {xs : List El.En} (h : EsAt w A xs) (hb : Below B w w') (hB : w.heap.size ≤ B) : EsAt w' A xs := by
  rcases h with h | ⟨b, off, hA, hlt, hc⟩
  · exact .inl h
  · refine .inr ⟨b, off, hA, Nat.lt_of_lt_of_le hlt hb.size, fun i hi => ?_⟩
    have e : ∀ o, w'.cell? ⟨b, o, none⟩ = w.cell? ⟨b, o, none⟩ := fun o => hb.cell (p := ⟨b, o, none⟩) (by simp; omega)
    rw [e, e, e, e]; exact hc i hi
/-- sizes of strings that a machine has -/
def Sized (xs : List El.En) : Prop := ∀ x ∈ xs, x.1.size ≤ 9223372036854775807 ∧ x.2.1.size ≤ 9223372036854775807
theorem Sized.at {xs : List El.En} (h : Sized xs) {k : Nat} (hk : k < xs.length) : xs[k].1.size ≤ 9223372036854775807 ∧ xs[k].2.1.size ≤ 9223372036854775807 := h _ (List.getElem_mem hk)

/-- the error of a list in any order -/
def firstE : List El.En → Int
  | [] => 0
  | x :: t => if El.chk x = 0 then firstE t else El.chk x
def allE (xs : List El.En) : Int := if 5000 < xs.length then 3 else firstE xs
theorem firstE_ok {xs : List El.En} {k : Nat} (h : k < xs.length) (g : El.chk xs[k] = 0) : firstE (xs.drop k) = firstE (xs.drop (k + 1)) := by
  rw [List.drop_eq_getElem_cons h]; exact if_pos g
theorem firstE_no {xs : List El.En} {k : Nat} (h : k < xs.length) (g : El.chk xs[k] ≠ 0) : firstE (xs.drop k) = El.chk xs[k] := by
  rw [List.drop_eq_getElem_cons h]; exact if_neg g
theorem firstE_end {xs : List El.En} {k : Nat} (h : ¬ k < xs.length) : firstE (xs.drop k) = 0 := by
  rw [List.drop_eq_nil_of_le (by omega)]; rfl
theorem firstE_all : ∀ {xs : List El.En}, firstE xs = 0 → ∀ x ∈ xs, El.chk x = 0
  | [], _, _, h => by cases h
  | y :: t, h, x, hx => by
    by_cases g : El.chk y = 0
    · rcases List.mem_cons.1 hx with rfl | hx
      · exact g
      · exact firstE_all (by rw [firstE, if_pos g] at h; exact h) x hx
    · rw [firstE, if_neg g] at h; exact absurd h g
theorem retT1 {v : Value} {a b : Int} (h : a = b) : Ending.returned (.tuple #[v, .int .i64 a]) = .returned (.tuple #[v, .int .i64 b]) := by rw [h]

end Go.Proofs.Ytlobkbhghpknmaa.KK
