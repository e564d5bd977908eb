/-
  Contract of parse, inside a fence: it yields the fields of a line, and none where its form is broken.
-/
import Derived.Test.YthifbihmogjjpaaDoorWh
import Derived.RangeFuncNested
import Derived.RangeFuncBound
import Derived.RangeFuncCalls
import Derived.RangeFuncLeaves
import Derived.Shelf.Abstract
import Derived.OwnWalkIn
import Derived.TacticsInMore
import Derived.LoopNIn
import Derived.LoopIn
namespace Go.Proofs.YthifbihmogjjpaaDoor
open Go.ChangeShapes Go.WideShapes Go.ChangeAt Go.RowKit Go.Proofs
attribute [local go_sem] Oper.semAt_some

def encF (x : Option (List UInt8 × Bool)) : Array Value := match x with
  | some (t, q) => #[.agg #[.string ⟨t.toArray⟩, .bool q], .bool true]
  | none => #[.agg #[.string ⟨#[]⟩, .bool false], .bool false]
theorem grown_of_below {A A' : World} (h : Below A.heap.size A A') : A.grownBy A' none := ⟨h.os, h.tape, h.output, h.size, fun k hk _ => h.block k hk⟩
/-- the block of the field that is being read -/
def Box2 (W : World) (bf : Nat) (c0 c1 : Value) : Prop := W.heap[bf]? = some (.cells #[c0, c1] 48 (0, 0))
theorem Box2.lt {W : World} {bf : Nat} {c0 c1 : Value} (h : Box2 W bf c0 c1) : bf < W.heap.size := (Array.getElem?_eq_some_iff.1 h).1
theorem Box2.c0 {W : World} {bf : Nat} {c0 c1 : Value} (h : Box2 W bf c0 c1) : W.cell? ⟨bf, 0, none⟩ = some c0 := by unfold Box2 at h; simp [World.cell?, h]
theorem Box2.c1 {W : World} {bf : Nat} {c0 c1 : Value} (h : Box2 W bf c0 c1) : W.cell? ⟨bf, 1, none⟩ = some c1 := by unfold Box2 at h; simp [World.cell?, h]
theorem Box2.fz {W : World} {bf : Nat} {c0 c1 : Value} (h : Box2 W bf c0 c1) (i : Nat) : W.frozen? ⟨bf, i, none⟩ = false := by unfold Box2 at h; simp [World.frozen?, h]
theorem Box2.set0 {W : World} {bf : Nat} {c0 c1 v : Value} (h : Box2 W bf c0 c1) : Box2 (W.setCell ⟨bf, 0, none⟩ v) bf v c1 := by
  unfold Box2 at h ⊢; simp [World.setCell, Array.getElem?_modify, h]
theorem Box2.set1 {W : World} {bf : Nat} {c0 c1 v : Value} (h : Box2 W bf c0 c1) : Box2 (W.setCell ⟨bf, 1, none⟩ v) bf c0 v := by
  unfold Box2 at h ⊢; simp [World.setCell, Array.getElem?_modify, h]
theorem Box2.below {W W' : World} {bf : Nat} {c0 c1 : Value} (h : Box2 W bf c0 c1) (hb : Below W.heap.size W W') : Box2 W' bf c0 c1 := (hb.block bf h.lt).trans h
theorem grown_set {W : World} {bf i : Nat} {v : Value} : W.grownBy (W.setCell ⟨bf, i, none⟩ v) (some bf) :=
  ⟨rfl, rfl, rfl, by simp [World.setCell], fun k _ hk => Below.heap_setCell _ _ _ _ (fun e => hk (by rw [e]))⟩

/-- parse's frame -/
def Fr (s : ByteArray) (l bf : Nat) (ok at_ : Value) (a : Act) : Prop :=
  ∃ u2 u3 u7 u8 u9 u10 u11 u12 u13 u14 u15 u16 u17 u18 u19 u20 u21 u22 u23 u24 u25 u26 u27 u28 u29 u30 u31 u32 u33 u34 u35 u36 u37 u38 u39 u40 u41 u42 u43 u44 u45 u46 u47 u48 u49 u50 u51 u52 u53 u54 u55 u56 u57 u58 : Value, a = { tmps := (.string s :: .func (.yield l) #[] #[] :: u2 :: u3 :: .pointer (some ⟨bf, 0, none⟩) :: ok :: at_ :: u7 :: u8 :: u9 :: u10 :: u11 :: u12 :: u13 :: u14 :: u15 :: u16 :: u17 :: u18 :: u19 :: u20 :: u21 :: u22 :: u23 :: u24 :: u25 :: u26 :: u27 :: u28 :: u29 :: u30 :: u31 :: u32 :: u33 :: u34 :: u35 :: u36 :: u37 :: u38 :: u39 :: u40 :: u41 :: u42 :: u43 :: u44 :: u45 :: u46 :: u47 :: u48 :: u49 :: u50 :: u51 :: u52 :: u53 :: u54 :: u55 :: u56 :: u57 :: u58 :: []).toArray, defers := [] }
/-- parse's world: what is known between two steps -/
def Wo (n0 bf : Nat) (w : World) (J : List (Option (List UInt8 × Bool)) → World → Prop) (pre : List (Option (List UInt8 × Bool))) (c0 c1 : Value) (W : World) : Prop :=
  J pre W ∧ Box2 W bf c0 c1 ∧ Below n0 w W
def PJ (s : ByteArray) (l n0 bf : Nat) (w : World) (J : List (Option (List UInt8 × Bool)) → World → Prop) : Nat → Act → World → Prop
  | 1, a, W => ∃ (k : Nat) (pre : List (Option (List UInt8 × Bool))) (ok c0 c1 : Value), k ≤ s.size ∧ Fr s l bf ok (.int .i64 (k : Int)) a ∧ Wo n0 bf w J pre c0 c1 W ∧ Pl.its (Pl.L s) = pre ++ Pl.its ((Pl.L s).drop k)
  | 0, a, W => ∃ (k : Nat) (pre : List (Option (List UInt8 × Bool))) (ok c0 c1 : Value), k ≤ s.size ∧ Fr s l bf ok (.int .i64 (k : Int)) a ∧ Wo n0 bf w J pre c0 c1 W ∧ Pl.its (Pl.L s) = pre ++ Pl.its ((Pl.L s).drop k) ∧ ∃ h : k < s.size, s[k] = 34
  | 2, a, W => (∃ (k : Nat) (pre : List (Option (List UInt8 × Bool))) (t : List UInt8) (q : Bool), k ≤ s.size ∧ Fr s l bf (.bool true) (.int .i64 (k : Int)) a ∧ Wo n0 bf w J pre (.string ⟨t.toArray⟩) (.bool q) W ∧ Pl.its (Pl.L s) = pre ++ some (t, q) :: Pl.tail ((Pl.L s).drop k)) ∨
      (∃ (pre : List (Option (List UInt8 × Bool))) (at_ c0 c1 : Value), Fr s l bf (.bool false) at_ a ∧ Wo n0 bf w J pre c0 c1 W ∧ Pl.its (Pl.L s) = pre ++ [none])
  | _, _, _ => False
def isTrue : Value → Bool
  | .bool b => b
  | _ => false
def PM (s : ByteArray) : Nat → Act → World → Nat
  | 1, a, _ => 3 * (s.size - (intOf (a.tmps.getD 6 undef)).toNat) + 2
  | 0, a, _ => 3 * (s.size - (intOf (a.tmps.getD 6 undef)).toNat) + 1
  | _, a, _ => if isTrue (a.tmps.getD 5 undef) then 3 * (s.size - (intOf (a.tmps.getD 6 undef)).toNat) else 0

noncomputable def parseC : Code := match Tryd.f45.body with | some (.scope c) => c | _ => .skip
def Out (s : ByteArray) (J Jx : List (Option (List UInt8 × Bool)) → World → Prop) (W : World) : Prop := J (Pl.its (Pl.L s)) W ∨ ∃ pre, pre <+: Pl.its (Pl.L s) ∧ Jx pre W
def YieldsF (n l n0 bf : Nat) (S : List (Option (List UInt8 × Bool))) (J Jx : List (Option (List UInt8 × Bool)) → World → Prop) : Prop :=
  ∀ pre x W1, J pre W1 → (pre ++ [x]) <+: S → YieldAt Fence.wide (n - 1) Tryd.prog l (encF x) W1 fun e W' =>
      (e = .returned (.bool true) ∧ J (pre ++ [x]) W' ∧ Below n0 W1 W' ∧ ∀ o, W1.heap[bf]? = some o → W'.heap[bf]? = some o) ∨ (e = .returned (.bool false) ∧ Jx (pre ++ [x]) W')
/-- the post of what stands behind a label -/
def LQ (s : ByteArray) (l n0 bf : Nat) (w : World) (J Jx : List (Option (List UInt8 × Bool)) → World → Prop) (B : Nat) (Q : Exit → Act → World → Prop) : Exit → Act → World → Prop :=
  jumps (fun l' a' w' => PJ s l n0 bf w J l' a' w' ∧ PM s l' a' w' < B) Q

theorem grown_none {J : List (Option (List UInt8 × Bool)) → World → Prop} {bf : Nat} (hJ : ∀ pre A A' row, J pre A → A.grownBy A' row → (∀ r, row = some r → r = bf) → J pre A') {pre : List (Option (List UInt8 × Bool))} {A A' : World} (h : J pre A) (hb : Below A.heap.size A A') : J pre A' :=
  hJ pre A A' none h (grown_of_below hb) (fun r e => by cases e)
theorem grown_box {J : List (Option (List UInt8 × Bool)) → World → Prop} {bf : Nat} (hJ : ∀ pre A A' row, J pre A → A.grownBy A' row → (∀ r, row = some r → r = bf) → J pre A') {pre : List (Option (List UInt8 × Bool))} {A : World} (h : J pre A) (i : Nat) (v : Value) : J pre (A.setCell ⟨bf, i, none⟩ v) :=
  hJ pre A _ (some bf) h grown_set (fun r e => by cases e; rfl)

set_option maxRecDepth 100000 in
set_option maxHeartbeats 2000000 in
theorem parse_2no (n : Nat) (s : ByteArray) (l n0 bf : Nat) (w : World) (J Jx : List (Option (List UInt8 × Bool)) → World → Prop) (Q : Exit → Act → World → Prop) (B : Nat)
    (hY : YieldsF n l n0 bf (Pl.its (Pl.L s)) J Jx) (hQ : ∀ a W, a.defers = [] → Out s J Jx W → Q .ret a W)
    (rest : Code) (hrest : findLabel parseC 2 = some (.seq .skip rest))
    (a : Act) (W : World) (pre : List (Option (List UInt8 × Bool))) (at_ c0 c1 : Value) (hfr : Fr s l bf (.bool false) at_ a) (hw : Wo n0 bf w J pre c0 c1 W) (hits : Pl.its (Pl.L s) = pre ++ [none]) :
    rest.wpIn Fence.wide n Tryd.prog (LQ s l n0 bf w J Jx B Q) a W := by
  have e : findLabel parseC 2 = some (.seq .skip _) := rfl
  rw [e] at hrest
  injection hrest with hrest
  injection hrest with _ hrest
  subst hrest
  clear e
  obtain ⟨u2, u3, u7, u8, u9, u10, u11, u12, u13, u14, u15, u16, u17, u18, u19, u20, u21, u22, u23, u24, u25, u26, u27, u28, u29, u30, u31, u32, u33, u34, u35, u36, u37, u38, u39, u40, u41, u42, u43, u44, u45, u46, u47, u48, u49, u50, u51, u52, u53, u54, u55, u56, u57, u58, rfl⟩ := hfr
  obtain ⟨hj, hbx, hbl⟩ := hw
  obtain ⟨fn, tmps, assign, body, hy, hR⟩ := hY pre none W hj (by rw [hits]; exact List.prefix_rfl)
  dsimp only [encF] at hy
  have HI := Lib.hid hits
  have HQ := Lib.hid hQ
  clear hits hQ hj hbx hbl hY
  gi_wp2
  refine ⟨(fun h => by cases h), hR.mono ?_⟩
  rintro e W3 (⟨rfl, hJ3, _, _⟩ | ⟨rfl, hx3⟩)
  · have H3 := Lib.hid hJ3
    clear hJ3
    gi_wp2
    exact HQ.out _ _ rfl (.inl (by rw [HI.out]; exact H3.out))
  · have H3 := Lib.hid hx3
    clear hx3
    gi_wp2
    exact HQ.out _ _ rfl (.inr ⟨_, by rw [HI.out]; exact List.prefix_rfl, H3.out⟩)

theorem Wo.after {n0 bf : Nat} {w W W3 : World} {J : List (Option (List UInt8 × Bool)) → World → Prop} {pre' : List (Option (List UInt8 × Bool))} {c0 c1 : Value} (hbx : Box2 W bf c0 c1) (hbl : Below n0 w W) (hJ : J pre' W3) (hk : Below n0 W W3) (hb : ∀ o, W.heap[bf]? = some o → W3.heap[bf]? = some o) : Wo n0 bf w J pre' c0 c1 W3 :=
  ⟨hJ, hb _ hbx, hbl.trans hk⟩

set_option maxRecDepth 100000 in
set_option maxHeartbeats 2000000 in
theorem parse_2yes (n : Nat) (s : ByteArray) (l n0 bf : Nat) (w : World) (hs : s.size ≤ 4294967295) (J Jx : List (Option (List UInt8 × Bool)) → World → Prop) (Q : Exit → Act → World → Prop) (B : Nat)
    (hY : YieldsF n l n0 bf (Pl.its (Pl.L s)) J Jx) (hQ : ∀ a W, a.defers = [] → Out s J Jx W → Q .ret a W)
    (rest : Code) (hrest : findLabel parseC 2 = some (.seq .skip rest))
    (a : Act) (W : World) (k : Nat) (pre : List (Option (List UInt8 × Bool))) (t : List UInt8) (q : Bool) (hk : k ≤ s.size) (hfr : Fr s l bf (.bool true) (.int .i64 (k : Int)) a) (hw : Wo n0 bf w J pre (.string ⟨t.toArray⟩) (.bool q) W)
    (hits : Pl.its (Pl.L s) = pre ++ some (t, q) :: Pl.tail ((Pl.L s).drop k)) (hB : 3 * (s.size - k) ≤ B) :
    rest.wpIn Fence.wide n Tryd.prog (LQ s l n0 bf w J Jx B Q) a W := by
  have e : findLabel parseC 2 = some (.seq .skip _) := rfl
  rw [e] at hrest
  injection hrest with hrest
  injection hrest with _ hrest
  subst hrest
  clear e
  obtain ⟨u2, u3, u7, u8, u9, u10, u11, u12, u13, u14, u15, u16, u17, u18, u19, u20, u21, u22, u23, u24, u25, u26, u27, u28, u29, u30, u31, u32, u33, u34, u35, u36, u37, u38, u39, u40, u41, u42, u43, u44, u45, u46, u47, u48, u49, u50, u51, u52, u53, u54, u55, u56, u57, u58, rfl⟩ := hfr
  obtain ⟨hj, hbx, hbl⟩ := hw
  obtain ⟨fn, tmps, assign, body, hy, hR⟩ := hY pre (some (t, q)) W hj (by rw [hits]; simp)
  dsimp only [encF] at hy
  have HI := Lib.hid hits
  have HQ := Lib.hid hQ
  have HB := Lib.hid hbl
  have HX := Lib.hid hbx
  have HY := Lib.hid hY
  have f0 := hbx.c0
  have f1 := hbx.c1
  clear hits hQ hj hbx hbl hY
  by_cases hlt : k < s.size
  · have g1 : ((k : Int) == (s.size : Int)) = false := by simp; omega
    gi_wp2
    refine ⟨(fun h => by cases h), hR.mono ?_⟩
    rintro e W3 (⟨rfl, hJ3, hb3, hx3⟩ | ⟨rfl, hx3⟩)
    · have H3 := Lib.hid hJ3
      have HB3 := Lib.hid hb3
      have HX3 := Lib.hid hx3
      clear hJ3 hb3 hx3 hy f0 f1
      by_cases hc : s[k] = 32
      · have HC := Lib.hid hc
        have q1 : ((s[k].toNat : Int) == 32) = true := Pl.num_eq _ 32 hc
        have q2 : ((s[k].toNat : Int) != 32) = false := Pl.num_nbne _ 32 hc
        clear hc
        gi_wp2
        refine wpIn_goto ?_
        refine ⟨⟨k + 1, pre ++ [some (t, q)], .bool true, .string ⟨t.toArray⟩, .bool q, by omega, ⟨_, _, _, _, _, _, _, _, _, _, _, _, _, _, _, _, _, _, _, _, _, _, _, _, _, _, _, _, _, _, _, _, _, _, _, _, _, _, _, _, _, _, _, _, _, _, _, _, _, _, _, _, _, _, rfl⟩, Wo.after HX.out HB.out H3.out HB3.out HX3.out, ?_⟩, ?_⟩
        · rw [HI.out, Pl.tail_sp s k hlt HC.out]; simp
        · simp [PM, intOf]; omega
      · have HC := Lib.hid hc
        have q1 : ((s[k].toNat : Int) == 32) = false := Pl.num_ne _ 32 hc
        have q2 : ((s[k].toNat : Int) != 32) = true := Pl.num_bne _ 32 hc
        clear hc
        obtain ⟨fn, tmps, assign, body, hy, hR⟩ := HY.out _ none W3 H3.out (by rw [HI.out, Pl.tail_no s k hlt HC.out]; simp)
        dsimp only [encF] at hy
        gi_wp2
        refine ⟨(fun h => by cases h), hR.mono ?_⟩
        rintro e W4 (⟨rfl, hJ4, _, _⟩ | ⟨rfl, hx4⟩)
        · have H4 := Lib.hid hJ4
          clear hJ4
          gi_wp2
          exact HQ.out _ _ rfl (.inl (by rw [HI.out, Pl.tail_no s k hlt HC.out]; simpa using H4.out))
        · have H4 := Lib.hid hx4
          clear hx4
          gi_wp2
          exact HQ.out _ _ rfl (.inr ⟨_, by rw [HI.out, Pl.tail_no s k hlt HC.out]; simp, H4.out⟩)
    · have H3 := Lib.hid hx3
      clear hx3
      gi_wp2
      exact HQ.out _ _ rfl (.inr ⟨_, by rw [HI.out]; simp, H3.out⟩)
  · have g1 : ((k : Int) == (s.size : Int)) = true := by simp; omega
    gi_wp2
    refine ⟨(fun h => by cases h), hR.mono ?_⟩
    rintro e W3 (⟨rfl, hJ3, hb3, hx3⟩ | ⟨rfl, hx3⟩)
    · have H3 := Lib.hid hJ3
      clear hJ3 hb3 hx3
      gi_wp2
      exact HQ.out _ _ rfl (.inl (by rw [HI.out, Pl.tail_end s k (by omega)]; exact H3.out))
    · have H3 := Lib.hid hx3
      clear hx3
      gi_wp2
      exact HQ.out _ _ rfl (.inr ⟨_, by rw [HI.out]; simp, H3.out⟩)

theorem readBare_yes (s : ByteArray) (k0 n : Nat) (w : World) (hs : s.size ≤ 4294967295) (hk0 : k0 ≤ s.size) (hn : Pl.bareN ((Pl.L s).drop k0) = n) (h0 : 0 < n) :
    Calls Tryd.prog 64 #[.string s, .int .i64 (k0 : Int)] w fun e w' => e = .returned (.tuple #[.string ⟨(((Pl.L s).drop k0).take n).toArray⟩, .int .i64 ((k0 : Int) + (n : Int)), .bool true]) ∧ w = w' :=
  (readBare_any s k0 w hs hk0).mono fun e w' ⟨h1, h2⟩ => ⟨by rw [h1, hn]; simp [h0], h2⟩
theorem readBare_no (s : ByteArray) (k0 : Nat) (w : World) (hs : s.size ≤ 4294967295) (hk0 : k0 ≤ s.size) (hn : Pl.bareN ((Pl.L s).drop k0) = 0) :
    Calls Tryd.prog 64 #[.string s, .int .i64 (k0 : Int)] w fun e w' => e = .returned (.tuple #[.string ⟨#[]⟩, .int .i64 (k0 : Int), .bool false]) ∧ w = w' :=
  (readBare_any s k0 w hs hk0).mono fun e w' ⟨h1, h2⟩ => ⟨by rw [h1, hn]; simp, h2⟩
theorem Wo.store {n0 bf : Nat} {w W : World} {J : List (Option (List UInt8 × Bool)) → World → Prop} {pre : List (Option (List UInt8 × Bool))} {c0 c1 v0 v1 : Value}
    (hJ : ∀ pre A A' row, J pre A → A.grownBy A' row → (∀ r, row = some r → r = bf) → J pre A') (hn : n0 ≤ bf) (h : Wo n0 bf w J pre c0 c1 W) : Wo n0 bf w J pre v0 v1 ((W.setCell ⟨bf, 0, none⟩ v0).setCell ⟨bf, 1, none⟩ v1) :=
  ⟨grown_box hJ (grown_box hJ h.1 0 v0) 1 v1, h.2.1.set0.set1, (h.2.2.setCell (p := ⟨bf, 0, none⟩) hn _).setCell (p := ⟨bf, 1, none⟩) hn _⟩
theorem Wo.below {n0 bf : Nat} {w W W' : World} {J : List (Option (List UInt8 × Bool)) → World → Prop} {pre : List (Option (List UInt8 × Bool))} {c0 c1 : Value}
    (hJ : ∀ pre A A' row, J pre A → A.grownBy A' row → (∀ r, row = some r → r = bf) → J pre A') (hn : n0 ≤ bf) (h : Wo n0 bf w J pre c0 c1 W) (hb : Below W.heap.size W W') : Wo n0 bf w J pre c0 c1 W' :=
  ⟨grown_none hJ h.1 hb, h.2.1.below hb, h.2.2.trans (hb.mono (by have := h.2.1.lt; omega))⟩

set_option maxRecDepth 100000 in
set_option maxHeartbeats 2000000 in
theorem parse_1 (n : Nat) (s : ByteArray) (l n0 bf : Nat) (w : World) (hs : s.size ≤ 4294967295) (J Jx : List (Option (List UInt8 × Bool)) → World → Prop) (Q : Exit → Act → World → Prop) (B : Nat)
    (hJ : ∀ pre A A' row, J pre A → A.grownBy A' row → (∀ r, row = some r → r = bf) → J pre A') (hn : n0 ≤ bf)
    (rest : Code) (hrest : findLabel parseC 1 = some (.seq .skip rest))
    (a : Act) (W : World) (k : Nat) (pre : List (Option (List UInt8 × Bool))) (ok c0 c1 : Value) (hk : k ≤ s.size) (hfr : Fr s l bf ok (.int .i64 (k : Int)) a) (hw : Wo n0 bf w J pre c0 c1 W)
    (hits : Pl.its (Pl.L s) = pre ++ Pl.its ((Pl.L s).drop k)) (hB : 3 * (s.size - k) + 2 ≤ B) :
    rest.wpIn Fence.wide n Tryd.prog (LQ s l n0 bf w J Jx B Q) a W := by
  have e : findLabel parseC 1 = some (.seq .skip _) := rfl
  rw [e] at hrest
  injection hrest with hrest
  injection hrest with _ hrest
  subst hrest
  clear e
  obtain ⟨u2, u3, u7, u8, u9, u10, u11, u12, u13, u14, u15, u16, u17, u18, u19, u20, u21, u22, u23, u24, u25, u26, u27, u28, u29, u30, u31, u32, u33, u34, u35, u36, u37, u38, u39, u40, u41, u42, u43, u44, u45, u46, u47, u48, u49, u50, u51, u52, u53, u54, u55, u56, u57, u58, rfl⟩ := hfr
  have f0 := hw.2.1.c0
  have f1 := hw.2.1.c1
  have z0 := hw.2.1.fz 0
  have z1 := hw.2.1.fz 1
  have HI := Lib.hid hits
  have HW := Lib.hid hw
  have HJ := Lib.hid hJ
  clear hits hw hJ
  by_cases hq : ∃ h : k < s.size, s[k] = 34
  · obtain ⟨hlt, hq⟩ := hq
    have HQ := Lib.hid hq
    have q1 : ((s[k].toNat : Int) == 34) = true := Pl.num_eq _ 34 hq
    clear hq
    gi_wp2
    refine wpIn_goto ?_
    refine ⟨⟨k, pre, ok, c0, c1, hk, ⟨_, _, _, _, _, _, _, _, _, _, _, _, _, _, _, _, _, _, _, _, _, _, _, _, _, _, _, _, _, _, _, _, _, _, _, _, _, _, _, _, _, _, _, _, _, _, _, _, _, _, _, _, _, _, rfl⟩, HW.out, HI.out, hlt, HQ.out⟩, ?_⟩
    simp [PM, intOf]; omega
  have hnb : s.size ≤ k ∨ ∃ h : k < s.size, ¬ s[k] = 34 := by
    by_cases h : k < s.size
    · exact .inr ⟨h, fun h1 => hq ⟨h, h1⟩⟩
    · exact .inl (by omega)
  have HF := Lib.hid (Pl.fld_b s k hnb)
  have HH := Lib.hid hq
  clear hnb hq
  by_cases hn0 : Pl.bareN ((Pl.L s).drop k) = 0
  · have HN := Lib.hid hn0
    have HIT : Hid (Pl.its ((Pl.L s).drop k) = [none]) := Lib.hid (Pl.its_none (by rw [HF.out, if_pos hn0]))
    clear hn0
    by_cases hlt : k < s.size
    all_goals (try (have q1 : ((s[k].toNat : Int) == 34) = false := Pl.num_ne _ 34 (fun h1 => HH.out ⟨hlt, h1⟩)))
    all_goals
      gi_wp2_with (refine ⟨trivial, (fun h => by cases h), ?_⟩; refine (callsIn_wide.2 (readBare_no s k _ hs hk HN.out)).mono ?_; rintro e w' ⟨rfl, rfl⟩)
      refine wpIn_goto ?_
      refine ⟨.inr ⟨pre, _, _, _, ⟨_, _, _, _, _, _, _, _, _, _, _, _, _, _, _, _, _, _, _, _, _, _, _, _, _, _, _, _, _, _, _, _, _, _, _, _, _, _, _, _, _, _, _, _, _, _, _, _, _, _, _, _, _, _, rfl⟩, HW.out.store HJ.out hn, by rw [HI.out, HIT.out]⟩, ?_⟩
      simp [PM, isTrue]; omega
  · obtain ⟨m, hm⟩ : ∃ m, Pl.bareN ((Pl.L s).drop k) = m := ⟨_, rfl⟩
    rw [hm] at hn0
    have hm0 : 0 < m := by omega
    have hle := Pl.bareN_le ((Pl.L s).drop k)
    rw [hm, List.length_drop, Pl.L_length] at hle
    have HM := Lib.hid hm
    have HIT : Hid (Pl.its ((Pl.L s).drop k) = some (((Pl.L s).drop k).take m, false) :: Pl.tail ((Pl.L s).drop (k + m))) := Lib.hid (by
      rw [Pl.its_some (by rw [HF.out, hm, if_neg hn0]), List.drop_drop])
    clear hn0 hm
    have hlt : k < s.size := by omega
    have q1 : ((s[k].toNat : Int) == 34) = false := Pl.num_ne _ 34 (fun h1 => HH.out ⟨hlt, h1⟩)
    · gi_wp2_with (refine ⟨trivial, (fun h => by cases h), ?_⟩; refine (callsIn_wide.2 (readBare_yes s k m _ hs hk HM.out hm0)).mono ?_; rintro e w' ⟨rfl, rfl⟩)
      refine wpIn_goto ?_
      refine ⟨.inl ⟨k + m, pre, _, _, by omega, ⟨_, _, _, _, _, _, _, _, _, _, _, _, _, _, _, _, _, _, _, _, _, _, _, _, _, _, _, _, _, _, _, _, _, _, _, _, _, _, _, _, _, _, _, _, _, _, _, _, _, _, _, _, _, _, rfl⟩, HW.out.store HJ.out hn, by rw [HI.out, HIT.out]⟩, ?_⟩
      simp [PM, isTrue, intOf]; omega
end Go.Proofs.YthifbihmogjjpaaDoor
