/-
  Contracts of appendByte and Quote.
-/
import Derived.Test.YthifbihmogjjpaaGreatDoorQa
import Derived.Test.YthifbihmogjjpaaGreatDoorWv
import Derived.Laws.OwnMore
namespace Go.Proofs.YthifbihmogjjpaaGreatDoor
open Go.ChangeShapes Go.WideShapes Go.ChangeAt Go.RowKit Go.Proofs

theorem hexi0 : ∀ w, (Instr.index 9 (.string ⟨#[48, 49, 50, 51, 52, 53, 54, 55, 56, 57, 97, 98, 99, 100, 101, 102]⟩) (.int .u8 ((0 : Nat) : Int))).run Tryz.prog w = .ok (.int .u8 ((Pl.hexd 0).toNat : Int)) w := fun _ => by kernel_rfl
theorem hexi1 : ∀ w, (Instr.index 9 (.string ⟨#[48, 49, 50, 51, 52, 53, 54, 55, 56, 57, 97, 98, 99, 100, 101, 102]⟩) (.int .u8 ((1 : Nat) : Int))).run Tryz.prog w = .ok (.int .u8 ((Pl.hexd 1).toNat : Int)) w := fun _ => by kernel_rfl
theorem hexi2 : ∀ w, (Instr.index 9 (.string ⟨#[48, 49, 50, 51, 52, 53, 54, 55, 56, 57, 97, 98, 99, 100, 101, 102]⟩) (.int .u8 ((2 : Nat) : Int))).run Tryz.prog w = .ok (.int .u8 ((Pl.hexd 2).toNat : Int)) w := fun _ => by kernel_rfl
theorem hexi3 : ∀ w, (Instr.index 9 (.string ⟨#[48, 49, 50, 51, 52, 53, 54, 55, 56, 57, 97, 98, 99, 100, 101, 102]⟩) (.int .u8 ((3 : Nat) : Int))).run Tryz.prog w = .ok (.int .u8 ((Pl.hexd 3).toNat : Int)) w := fun _ => by kernel_rfl
theorem hexi4 : ∀ w, (Instr.index 9 (.string ⟨#[48, 49, 50, 51, 52, 53, 54, 55, 56, 57, 97, 98, 99, 100, 101, 102]⟩) (.int .u8 ((4 : Nat) : Int))).run Tryz.prog w = .ok (.int .u8 ((Pl.hexd 4).toNat : Int)) w := fun _ => by kernel_rfl
theorem hexi5 : ∀ w, (Instr.index 9 (.string ⟨#[48, 49, 50, 51, 52, 53, 54, 55, 56, 57, 97, 98, 99, 100, 101, 102]⟩) (.int .u8 ((5 : Nat) : Int))).run Tryz.prog w = .ok (.int .u8 ((Pl.hexd 5).toNat : Int)) w := fun _ => by kernel_rfl
theorem hexi6 : ∀ w, (Instr.index 9 (.string ⟨#[48, 49, 50, 51, 52, 53, 54, 55, 56, 57, 97, 98, 99, 100, 101, 102]⟩) (.int .u8 ((6 : Nat) : Int))).run Tryz.prog w = .ok (.int .u8 ((Pl.hexd 6).toNat : Int)) w := fun _ => by kernel_rfl
theorem hexi7 : ∀ w, (Instr.index 9 (.string ⟨#[48, 49, 50, 51, 52, 53, 54, 55, 56, 57, 97, 98, 99, 100, 101, 102]⟩) (.int .u8 ((7 : Nat) : Int))).run Tryz.prog w = .ok (.int .u8 ((Pl.hexd 7).toNat : Int)) w := fun _ => by kernel_rfl
theorem hexi8 : ∀ w, (Instr.index 9 (.string ⟨#[48, 49, 50, 51, 52, 53, 54, 55, 56, 57, 97, 98, 99, 100, 101, 102]⟩) (.int .u8 ((8 : Nat) : Int))).run Tryz.prog w = .ok (.int .u8 ((Pl.hexd 8).toNat : Int)) w := fun _ => by kernel_rfl
theorem hexi9 : ∀ w, (Instr.index 9 (.string ⟨#[48, 49, 50, 51, 52, 53, 54, 55, 56, 57, 97, 98, 99, 100, 101, 102]⟩) (.int .u8 ((9 : Nat) : Int))).run Tryz.prog w = .ok (.int .u8 ((Pl.hexd 9).toNat : Int)) w := fun _ => by kernel_rfl
theorem hexi10 : ∀ w, (Instr.index 9 (.string ⟨#[48, 49, 50, 51, 52, 53, 54, 55, 56, 57, 97, 98, 99, 100, 101, 102]⟩) (.int .u8 ((10 : Nat) : Int))).run Tryz.prog w = .ok (.int .u8 ((Pl.hexd 10).toNat : Int)) w := fun _ => by kernel_rfl
theorem hexi11 : ∀ w, (Instr.index 9 (.string ⟨#[48, 49, 50, 51, 52, 53, 54, 55, 56, 57, 97, 98, 99, 100, 101, 102]⟩) (.int .u8 ((11 : Nat) : Int))).run Tryz.prog w = .ok (.int .u8 ((Pl.hexd 11).toNat : Int)) w := fun _ => by kernel_rfl
theorem hexi12 : ∀ w, (Instr.index 9 (.string ⟨#[48, 49, 50, 51, 52, 53, 54, 55, 56, 57, 97, 98, 99, 100, 101, 102]⟩) (.int .u8 ((12 : Nat) : Int))).run Tryz.prog w = .ok (.int .u8 ((Pl.hexd 12).toNat : Int)) w := fun _ => by kernel_rfl
theorem hexi13 : ∀ w, (Instr.index 9 (.string ⟨#[48, 49, 50, 51, 52, 53, 54, 55, 56, 57, 97, 98, 99, 100, 101, 102]⟩) (.int .u8 ((13 : Nat) : Int))).run Tryz.prog w = .ok (.int .u8 ((Pl.hexd 13).toNat : Int)) w := fun _ => by kernel_rfl
theorem hexi14 : ∀ w, (Instr.index 9 (.string ⟨#[48, 49, 50, 51, 52, 53, 54, 55, 56, 57, 97, 98, 99, 100, 101, 102]⟩) (.int .u8 ((14 : Nat) : Int))).run Tryz.prog w = .ok (.int .u8 ((Pl.hexd 14).toNat : Int)) w := fun _ => by kernel_rfl
theorem hexi15 : ∀ w, (Instr.index 9 (.string ⟨#[48, 49, 50, 51, 52, 53, 54, 55, 56, 57, 97, 98, 99, 100, 101, 102]⟩) (.int .u8 ((15 : Nat) : Int))).run Tryz.prog w = .ok (.int .u8 ((Pl.hexd 15).toNat : Int)) w := fun _ => by kernel_rfl
theorem hex_index (n : Nat) (h : n < 16) : ∀ w, (Instr.index 9 (.string ⟨#[48, 49, 50, 51, 52, 53, 54, 55, 56, 57, 97, 98, 99, 100, 101, 102]⟩) (.int .u8 (n : Int))).run Tryz.prog w = .ok (.int .u8 ((Pl.hexd n).toNat : Int)) w :=
  match n, h with
  | 0, _ => hexi0
  | 1, _ => hexi1
  | 2, _ => hexi2
  | 3, _ => hexi3
  | 4, _ => hexi4
  | 5, _ => hexi5
  | 6, _ => hexi6
  | 7, _ => hexi7
  | 8, _ => hexi8
  | 9, _ => hexi9
  | 10, _ => hexi10
  | 11, _ => hexi11
  | 12, _ => hexi12
  | 13, _ => hexi13
  | 14, _ => hexi14
  | 15, _ => hexi15
  | m + 16, h => absurd h (by omega)

theorem redrew {B : Nat} {w w1 : World} (h : Below B w w1) : Below B w w1.drew := ⟨h.os, h.tape, h.output, h.size, h.block⟩
theorem own_app {w : World} {base : Nat} {v : Value} {n m : Nat} {t u : List UInt8} {xs : List Value} (hn : n = t.length) (hm : m = u.length) (hx : xs = u.map B8) (h : w.ownsRow base 5 1 v (n + m) (t.map B8 ++ xs)) : w.ownsRow base 5 1 v (t ++ u).length ((t ++ u).map B8) := by
  subst hn hm hx
  simpa using h

theorem two_new (w : World) (a b : Value) : ∀ (j : Nat) (u : Value), [a, b][j]? = some u → (w.alloc (.cells #[a, b] 5)).cell? ((⟨w.heap.size, 0, none⟩ : Addr).add j) = some u :=
  World.news_of_block (cs := #[a, b]) (t := 5) (fr := (0, 0)) (heap_alloc_new w _)
theorem four_new (w : World) (a b c d : Value) : ∀ (j : Nat) (u : Value), [a, b, c, d][j]? = some u → (w.alloc (.cells #[a, b, c, d] 5)).cell? ((⟨w.heap.size, 0, none⟩ : Addr).add j) = some u :=
  World.news_of_block (cs := #[a, b, c, d]) (t := 5) (fr := (0, 0)) (heap_alloc_new w _)

theorem and_fin : ∀ x : Fin 256, bits BinOp.and IntKind.u8 (x.val : Int) 15 = ((x.val % 16 : Nat) : Int) := by decide +kernel

end Go.Proofs.YthifbihmogjjpaaGreatDoor
