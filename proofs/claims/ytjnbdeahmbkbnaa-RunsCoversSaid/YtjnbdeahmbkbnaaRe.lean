/-
  Runs: find.
-/
import Derived.Test.YtjnbdeahmbkbnaaRd
import Derived.Handy
namespace Go.Proofs.Ytjnbdeahmbkbnaa.KK
open Go.ChangeShapes Go.WideShapes Go.ChangeAt Go.RowKit Go.Proofs

def entV (p : El.En × Int) : Value := .tuple #[.agg #[.string p.1.1, .string p.1.2.1, .bool p.1.2.2.1, .int .i64 p.1.2.2.2], .int .i64 p.2]
theorem retN {p : El.En × Int} {x : El.En} {r : Int} (h : p = (x, r)) : Ending.returned (.tuple #[.agg #[.string x.1, .string x.2.1, .bool x.2.2.1, .int .i64 x.2.2.2], .int .i64 r]) = .returned (entV p) := by rw [h]; rfl
theorem asT_nil (w : World) : Sem.run Try.prog (Instr.typeAssert .nilIface 20 3 true) w = .ok (.tuple #[.int .i64 0, .bool false]) w := by kernel_rfl
theorem asT_int (k : Int) (w : World) : Sem.run Try.prog (Instr.typeAssert (.iface 3 (.int .i64 k)) 20 3 true) w = .ok (.tuple #[.int .i64 k, .bool true]) w := by kernel_rfl
theorem nilF (n : Nat) (w : World) : Sem.run Try.prog (nilAhead (n + 1) 60 (Value.agg #[]) "bookend/runs.in") w = .ok (some false) w := by kernel_rfl
theorem nilF_m (n : Nat) (w : World) : Sem.run Try.prog (method (n + 1) 60 (Value.agg #[]) "bookend/runs.in") w = .ok (94, Value.agg #[]) w := by kernel_rfl
theorem nilC (n : Nat) (w : World) : Sem.run Try.prog (nilAhead (n + 1) 61 (Value.agg #[]) "bookend/runs.in") w = .ok (some false) w := by kernel_rfl
theorem nilC_m (n : Nat) (w : World) : Sem.run Try.prog (method (n + 1) 61 (Value.agg #[]) "bookend/runs.in") w = .ok (95, Value.agg #[]) w := by kernel_rfl
theorem floorO_r4 {id : Int} {xs : List El.En} {key : ByteArray} {s : Bool} (h : askR id xs key = 0) (g : floorO xs key s = none) : floorR id xs key s = (El.none, 4) := by
  unfold floorO at g
  by_cases k : befN xs key (!s) = 0
  · exact floorR_none h k
  · rw [if_neg k] at g; cases g
theorem ceilO_r4 {id : Int} {xs : List El.En} {key : ByteArray} {s : Bool} (h : askR id xs key = 0) (g : ceilO xs key s = none) : ceilR id xs key s = (El.none, 4) := by
  unfold ceilO at g
  by_cases k : befN xs key s = xs.length
  · exact ceilR_none h k
  · rw [if_neg k] at g; cases g
theorem floorO_r0 {id : Int} {xs : List El.En} {key : ByteArray} {s : Bool} {k : Nat} (h : askR id xs key = 0) (g : floorO xs key s = some k) : floorR id xs key s = (entR xs k, 0) ∧ k < xs.length := by
  unfold floorO at g
  by_cases e : befN xs key (!s) = 0
  · rw [if_pos e] at g; cases g
  · rw [if_neg e] at g
    obtain rfl := Option.some.inj g
    exact ⟨floorR_ok h e, by have := befN_le xs key (!s); omega⟩
theorem ceilO_r0 {id : Int} {xs : List El.En} {key : ByteArray} {s : Bool} {k : Nat} (h : askR id xs key = 0) (g : ceilO xs key s = some k) : ceilR id xs key s = (entR xs k, 0) ∧ k < xs.length := by
  unfold ceilO at g
  by_cases e : befN xs key s = xs.length
  · rw [if_pos e] at g; cases g
  · rw [if_neg e] at g
    obtain rfl := Option.some.inj g
    exact ⟨ceilR_ok h e, by have := befN_le xs key s; omega⟩
end Go.Proofs.Ytjnbdeahmbkbnaa.KK
