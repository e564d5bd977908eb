/-
  What the walks over the plain map need: helpers; pairs, where a slice of them lies; checkSizes, order.
-/
import Derived.Test.YtbgpcmpbfenplaaKc
import Derived.Deep.QuietTactic
import Derived.Laws.AppendOwnNone
import Derived.RangeFuncBox
namespace Go.Proofs.Ytbgpcmpbfenplaa.KK
open Go.ChangeShapes Go.WideShapes Go.ChangeAt Go.RowKit Go.Proofs

theorem eb_of {B : Nat} {w w1 w2 : World} (hb : Below B w w1) (h : Below w1.heap.size w1 w2) (hB : B ≤ w.heap.size) : Below B w w2 := hb.trans (h.mono (Nat.le_trans hB hb.size))
theorem ne_b {a : Int} (h : a ≠ 0) : (a == 0) = false ∧ (a != 0) = true := ⟨by rw [beq_eq_false_iff_ne]; exact h, by rw [bne_iff_ne]; exact h⟩
/-- a world that has whatever w has -/
structure Abv (w : World) where
  world : World
  h : Below w.heap.size w world
instance (w : World) : Inhabited (Abv w) := ⟨⟨w, Below.refl _ _⟩⟩
theorem wp_region_abv {P : Program} {id : Nat} {Q : Exit → Act → World → Prop} {a : Act} {w : World} {l : List Oper} (hm : P.follows .mixedOrders = true) (hB : Region.lexB .any l.toArray = true)
    (h : wpQuiet P l.toArray (fun w' => ∃ p : Abv w, w' = p.world) (fun a' => ∀ w', (∃ p : Abv w, w' = p.world) → Q .normal a' w') l a) : (Code.region id l.toArray true).wp P Q a w :=
  wp_region_quiet (C := fun w' => ∃ p : Abv w, w' = p.world) hm hB ⟨⟨_, below_drewN' 1⟩, rfl⟩ (by simpa using h)
theorem callAbv {P : Program} {f : FuncId} {args : Array Value} {w : World} {p : Abv w} {v : Value} (h : Calls P f args p.world fun e w' => e = .returned v ∧ Below p.world.heap.size p.world w') :
    Calls P f args p.world fun e w'' => e = .returned v ∧ ∃ p' : Abv w, w'' = p'.world :=
  h.mono fun _ _ ⟨he, hb⟩ => ⟨he, ⟨_, p.h.trans (hb.mono p.h.size)⟩, rfl⟩
theorem abv_cell {w1 : World} {b o : Nat} {v : Value} (hb : b < w1.heap.size) (h : w1.cell? ⟨b, o, none⟩ = some v) : ∀ p : Abv w1, p.world.cell? ⟨b, o, none⟩ = some v :=
  fun p => (p.h.cell (p := ⟨b, o, none⟩) hb).trans h
theorem cell_lt {w : World} {b o : Nat} {v : Value} (h : w.cell? ⟨b, o, none⟩ = some v) : b < w.heap.size := World.block_lt_of_cell? w _ h
theorem abv_c {w1 : World} {b o : Nat} {v : Value} (h : w1.cell? ⟨b, o, none⟩ = some v) : ∀ p : Abv w1, p.world.cell? ⟨b, o, none⟩ = some v := abv_cell (cell_lt h) h
theorem below_abv {B : Nat} {w0 w : World} (h : Below B w0 w) (hB : B ≤ w0.heap.size) (p : Abv w) : Below B w0 p.world := h.trans (p.h.mono (Nat.le_trans hB h.size))
theorem alloc_below (w : World) (o : Obj) : Below w.heap.size w (w.alloc o) := (Below.refl _ _).alloc (Nat.le_refl _) _
theorem cell_alloc_old {w : World} {o : Obj} {b i : Nat} (h : b < w.heap.size) : (w.alloc o).cell? ⟨b, i, none⟩ = w.cell? ⟨b, i, none⟩ := by
  unfold World.cell?; rw [heap_alloc_old w o h]
theorem add_at' (b off j : Nat) : (⟨b, off, none⟩ : Addr).add j = ⟨b, off + j, none⟩ := by unfold Addr.add; split <;> simp_all
theorem str_ne {a b : ByteArray} (h : a ≠ b) : ¬ a.toList = b.toList := fun e => by
  rw [Lib.toList_data, Lib.toList_data] at e
  exact h (ByteArray.ext (Array.toList_inj.1 e))
theorem str_beq_ne {a b : ByteArray} (h : a ≠ b) : (a.toList == b.toList) = false := by rw [beq_eq_false_iff_ne]; exact str_ne h
theorem str_beq_eq {a b : ByteArray} (h : a = b) : (a.toList == b.toList) = true := by rw [h]; simp
theorem grown_of_below' {A A' : World} (h : Below A.heap.size A A') : A.grownBy A' none := ⟨h.os, h.tape, h.output, h.size, fun k hk _ => h.block k hk⟩
theorem own_base' {w w' : World} {B e size n : Nat} {v : Value} {xs : List Value} {row : Option Nat} (h : w.ownsRow B e size v n xs) (hg : w.grownBy w' row) (hr : ∀ r, row = some r → r < B) : w'.ownsRow B e size v n xs := by
  refine ⟨h.1, ?_⟩
  rcases h.2 with hn | ⟨g, cap, cur, rfl, hg', hgg, rest⟩
  · exact .inl hn
  · exact .inr ⟨g, cap, cur, rfl, hg', by rw [hg.block g (Array.getElem?_eq_some_iff.1 hgg).1 (fun e => by have := hr g e.symm; omega)]; exact hgg, rest⟩
theorem own_cap2 {w : World} {base e size n : Nat} {v : Value} {xs : List Value} (h : w.ownsRow base e size v n xs) : ∃ A c, v = .slice A n c ∧ n ≤ c ∧ (A = none → c = 0) := by
  rcases h.2 with ⟨rfl, h1⟩ | ⟨g, cap, cur, hv, _, _, h5, _⟩
  · exact ⟨none, 0, by rw [h1], by omega, fun _ => rfl⟩
  · exact ⟨_, _, hv, h5, fun e => by cases e⟩

/-- a pair: key, value -/
abbrev Pr := ByteArray × ByteArray
def PsAt (w : World) (A : Option Addr) (xs : List Pr) : Prop :=
  xs = [] ∨ ∃ b off, A = some ⟨b, off, none⟩ ∧ b < w.heap.size ∧ ∀ (i : Nat) (h : i < xs.length),
    w.cell? ⟨b, off + i * 2, none⟩ = some (.string xs[i].1) ∧ w.cell? ⟨b, off + i * 2 + 1, none⟩ = some (.string xs[i].2)
theorem PsAt.below {B : Nat} {w w' : World} {A : Option Addr} {xs : List Pr} (h : PsAt w A xs) (hb : Below B w w') (hB : w.heap.size ≤ B) : PsAt w' A xs := by
  rcases h with h | ⟨b, off, hA, hlt, hc⟩
  · exact .inl h
  · refine .inr ⟨b, off, hA, Nat.lt_of_lt_of_le hlt hb.size, fun i hi => ?_⟩
    have e : ∀ o, w'.cell? ⟨b, o, none⟩ = w.cell? ⟨b, o, none⟩ := fun o => hb.cell (p := ⟨b, o, none⟩) (by simp; omega)
    rw [e, e]; exact hc i hi
def SizedP (xs : List Pr) : Prop := ∀ x ∈ xs, x.1.size ≤ 9223372036854775807 ∧ x.2.size ≤ 9223372036854775807
theorem SizedP.at {xs : List Pr} (h : SizedP xs) {k : Nat} (hk : k < xs.length) : xs[k].1.size ≤ 9223372036854775807 ∧ xs[k].2.size ≤ 9223372036854775807 := h _ (List.getElem_mem hk)
theorem infoP : (Try.prog.info? 31).map (fun i => (i.zero, i.size, i.bytes)) = some (some (.agg #[.string ⟨#[]⟩, .string ⟨#[]⟩]), 2, 32) := by kernel_rfl
def cellsP (xs : List Pr) : List Value := xs.flatMap fun x => [.string x.1, .string x.2]
theorem cellsP_cons (x : Pr) (xs : List Pr) : cellsP (x :: xs) = [.string x.1, .string x.2] ++ cellsP xs := rfl
theorem cellsP_len (xs : List Pr) : (cellsP xs).length = xs.length * 2 := by
  induction xs with
  | nil => rfl
  | cons x t ih => rw [cellsP_cons, List.length_append, ih, List.length_cons]; simp; omega
theorem cellsP_app (xs ys : List Pr) : cellsP (xs ++ ys) = cellsP xs ++ cellsP ys := by simp [cellsP]
theorem cellsP_get : ∀ (xs : List Pr) (i : Nat) (h : i < xs.length), (cellsP xs)[i * 2]? = some (.string xs[i].1) ∧ (cellsP xs)[i * 2 + 1]? = some (.string xs[i].2)
  | x :: t, 0, _ => by simp [cellsP]
  | x :: t, i + 1, h => by
    have := cellsP_get t i (by simpa using h)
    have e : ∀ j, (cellsP (x :: t))[j + 2]? = (cellsP t)[j]? := fun j => by simp [cellsP]
    rw [show (i + 1) * 2 = i * 2 + 2 by omega, show i * 2 + 2 + 1 = (i * 2 + 1) + 2 by omega, e, e]
    simpa using this
theorem cellsP_one (xs : List Pr) : ∀ u ∈ cellsP xs, u.oneCell' = true := fun u hu => by
  obtain ⟨x, _, hx⟩ := List.mem_flatMap.1 hu
  simp only [List.mem_cons, List.not_mem_nil, or_false] at hx
  rcases hx with rfl | rfl <;> rfl
theorem PsAt.cells {w : World} {A : Option Addr} {xs : List Pr} (h : PsAt w A xs) (hne : xs ≠ []) : ∃ b off, A = some ⟨b, off, none⟩ ∧ b < w.heap.size ∧ ∀ j u, (cellsP xs)[j]? = some u → w.cell? ⟨b, off + j, none⟩ = some u := by
  rcases h with h | ⟨b, off, hA, hb, hc⟩
  · exact absurd h hne
  · refine ⟨b, off, hA, hb, fun j u hj => ?_⟩
    have hl : j < xs.length * 2 := by rw [← cellsP_len]; exact (List.getElem?_eq_some_iff.1 hj).1
    have hi : j / 2 < xs.length := by omega
    obtain ⟨a0, a1⟩ := cellsP_get xs (j / 2) hi
    obtain ⟨c0, c1⟩ := hc (j / 2) hi
    rcases Nat.mod_two_eq_zero_or_one j with m | m
    · have e : j = j / 2 * 2 := by omega
      rw [← e] at a0 c0
      rw [a0] at hj
      rw [c0]; exact hj
    · have e : j = j / 2 * 2 + 1 := by omega
      rw [← e] at a1
      rw [show off + j / 2 * 2 + 1 = off + (j / 2 * 2 + 1) by omega, ← e] at c1
      rw [a1] at hj
      rw [c1]; exact hj
theorem PsAt.of_own {w : World} {base n : Nat} {A : Option Addr} {c : Nat} {ys : List Pr} (h : w.ownsRow base 31 2 (.slice A n c) n (cellsP ys)) : PsAt w A ys := by
  have hn : n = ys.length := by have := h.1; rw [cellsP_len] at this; omega
  by_cases h0 : ys = []
  · exact .inl h0
  · have hpos : 0 < ys.length := List.length_pos_iff.2 h0
    have hform : ∃ g cap, Value.slice A n c = .slice (some ⟨g, 0, none⟩) n cap ∧ g < w.heap.size := by
      rcases h.2 with ⟨_, h1⟩ | ⟨g, cap, cur, hv, _, hh, _⟩
      · omega
      · exact ⟨g, cap, hv, (Array.getElem?_eq_some_iff.1 hh).1⟩
    obtain ⟨g, cap, hv, hlt⟩ := hform
    have hA : A = some ⟨g, 0, none⟩ := by injection hv
    refine .inr ⟨g, 0, hA, hlt, fun i hi => ?_⟩
    have hcell := h.cells (g := g) (by rw [hv]; rfl)
    obtain ⟨a0, a1⟩ := cellsP_get ys i hi
    have b0 := hcell _ _ a0
    have b1 := hcell _ _ a1
    rw [add_at'] at b0 b1
    exact ⟨b0, by rw [Nat.add_assoc]; exact b1⟩
theorem psAt_new (w : World) (xs : List Pr) (t : TypeId) : PsAt (w.alloc (.cells (cellsP xs).toArray t)) (some ⟨w.heap.size, 0, none⟩) xs := by
  refine .inr ⟨w.heap.size, 0, rfl, by simp, fun i hi => ?_⟩
  have hr := fun c (hc : c < 2) => cell_of_row (w.alloc (.cells (cellsP xs).toArray t)) w.heap.size (0 + i * 2 + c) _ _ _ (heap_alloc_new w _)
  have hg := cellsP_get xs i hi
  refine ⟨(hr 0 (by omega)).trans ?_, (hr 1 (by omega)).trans ?_⟩
  · rw [List.getElem?_toArray, Nat.zero_add]; exact hg.1
  · rw [List.getElem?_toArray, Nat.zero_add]; exact hg.2
theorem psAt_one (w : World) (x : Pr) : PsAt (w.alloc (.cells #[.string x.1, .string x.2] 31)) (some ⟨w.heap.size, 0, none⟩) [x] := psAt_new w [x] 31
theorem made0 (W : World) : (W.alloc (.cells #[] 31)).ownsRow W.heap.size 31 2 (.slice (some ⟨W.heap.size, 0, none⟩) 0 0) 0 [] := World.ownsRow_made W #[] 0 (Nat.le_refl _) (Nat.zero_le _) rfl
theorem PsAt.take {w : World} {A : Option Addr} {xs : List Pr} (h : PsAt w A xs) (k : Nat) : PsAt w A (xs.take k) := by
  rcases h with h | ⟨b, off, hA, hb, hc⟩
  · subst h; exact .inl (by simp)
  · refine .inr ⟨b, off, hA, hb, fun i hi => ?_⟩
    have := hc i (by rw [List.length_take] at hi; omega)
    rw [List.getElem_take]; exact this
theorem PsAt.drop {w : World} {A : Option Addr} {xs : List Pr} (h : PsAt w A xs) (k : Nat) : PsAt w (Option.map (fun x => x.add (k * 2)) A) (xs.drop k) := by
  rcases h with h | ⟨b, off, rfl, hb, hc⟩
  · subst h; exact .inl (by simp)
  · refine .inr ⟨b, off + k * 2, by simp [add_at'], hb, fun i hi => ?_⟩
    have := hc (k + i) (by rw [List.length_drop] at hi; omega)
    rw [List.getElem_drop]
    rw [show off + k * 2 + i * 2 = off + (k + i) * 2 by omega]; exact this
set_option maxRecDepth 100000 in
/-- append of a whole list to one's own, wherever the list lies -/
theorem wpList_append_ps {ops : Array Oper} {rest : List Oper} {o : Oper} {a : Act} {w : World} {Q : Exit → Act → World → Prop} (hgd : o.guard = none) (s x : Operand)
    (ho : o.op = .call { callee := .builtin .append, args := #[s, x], argTypes := #[22, 22] })
    (base : Nat) (v : Value) (n : Nat) (ys : List Pr) (hs : a.eval s = v) (hown : w.ownsRow base 31 2 v n (cellsP ys))
    (A : Option Addr) (m c : Nat) (xs : List Pr) (hx : a.eval x = .slice A m c) (hm : m = xs.length) (hes : PsAt w A xs) (hnil : A = none → c = 0) (hlen : n + m ≤ 4294967295) (hbase : base ≤ w.heap.size)
    (h : ∀ v' w', w'.ownsRow base 31 2 v' (n + m) (cellsP (ys ++ xs)) → w.grownBy w' v.ownBlock → wpList Try.prog ops Q rest (a.put o.dst v') w') :
    wpList Try.prog ops Q (o :: rest) a w := by
  obtain ⟨i0, hi, hz0, hz1, hz2⟩ := info_parts infoP
  cases A with
  | none =>
    have hx0 : xs = [] := by
      rcases hes with h0 | ⟨b, off, e, _⟩
      · exact h0
      · cases e
    subst hx0
    have hc := hnil rfl
    subst hc hm
    refine wpList_append_own_none hgd s x 22 ho base 31 i0 2 Try.underlying22 hi v n (cellsP ys) hs hown hx ?_
    exact h v w (by simpa using hown) ⟨rfl, rfl, rfl, Nat.le_refl _, fun _ _ _ => rfl⟩
  | some ad =>
    have hnews : ∀ j u, (cellsP xs)[j]? = some u → w.cell? (ad.add j) = some u := fun j u hj => by
      have hne : xs ≠ [] := fun e => by rw [e] at hj; simp [cellsP] at hj
      obtain ⟨b, off, e, _, hc⟩ := hes.cells hne
      injection e with e
      subst e
      rw [add_at']; exact hc j u hj
    refine wpList_append_own w hgd s x 22 ho base 31 i0 (.agg #[.string ⟨#[]⟩, .string ⟨#[]⟩]) 2 32 Try.underlying22 hi hz0 hz1 hz2 rfl (by decide) v n (cellsP ys) hs hown ad m c (cellsP xs) hx (by rw [hm, cellsP_len]) hnews (cellsP_one _) (by unfold maxLen; omega) (by omega) hbase ?_
    intro v' w' hown' hg _
    exact h v' w' (by rw [cellsP_app]; exact hown') hg

/-- what is wrong with the sizes of a pair -/
def szE (k v : ByteArray) : Int := if 32 < k.size then 3 else if 64 < v.size then 3 else 0
theorem szE_of {k v : ByteArray} (h : szE k v = 0) : k.size ≤ 32 ∧ v.size ≤ 64 := by
  unfold szE at h
  split at h
  · cases h
  split at h
  · cases h
  omega
theorem sizes_any (k v : ByteArray) (w : World) (hk : k.size ≤ 9223372036854775807) (hv : v.size ≤ 9223372036854775807) :
    Calls Try.prog 83 #[.string k, .string v] w fun e w' => e = .returned (.int .i64 (szE k v)) ∧ w = w' := by
  have J := Lib.hid (fun w => kCheck_any k w hk)
  by_cases h : k.size ≤ 32
  · rw [chk1_ok h] at J
    by_cases h2 : 64 < v.size
    · have H : Hid (szE k v = 3) := Lib.hid (by unfold szE; rw [if_neg (by omega), if_pos h2])
      go_enter Try.func83, Try.ntmps83
      go_wp2_with fail
      refine (J.out _).mono ?_
      rintro e w1 ⟨rfl, rfl⟩
      go_wp2_with fail
      go_ret
      exact ⟨retI (by rw [H.out]), rfl⟩
    · have H : Hid (szE k v = 0) := Lib.hid (by unfold szE; rw [if_neg (by omega), if_neg h2])
      go_enter Try.func83, Try.ntmps83
      go_wp2_with fail
      refine (J.out _).mono ?_
      rintro e w1 ⟨rfl, rfl⟩
      go_wp2_with fail
      go_ret
      exact ⟨retI (by rw [H.out]), rfl⟩
  · have H : Hid (szE k v = 3) := Lib.hid (by unfold szE; rw [if_pos (by omega)])
    rw [chk1_no h] at J
    go_enter Try.func83, Try.ntmps83
    go_wp2_with fail
    refine (J.out _).mono ?_
    rintro e w1 ⟨rfl, rfl⟩
    go_wp2_with fail
    go_ret
    exact ⟨retI (by rw [H.out]), rfl⟩
theorem mOrder_any (a b : ByteArray) (w : World) (ha : a.size ≤ 32) (hb : b.size ≤ 32) :
    Calls Try.prog 82 #[.string a, .string b] w fun e w' => e = .returned (.int .i64 (Kl.ord (Kl.L a) (Kl.L b))) ∧ Below w.heap.size w w' := by
  have J := Lib.hid (kCompare_any a b w (by omega) (by omega))
  have H : Hid (cmpV a b = Kl.ord (Kl.L a) (Kl.L b)) := Lib.hid (cmpV_ok ha hb)
  rw [H.out] at J
  clear H
  generalize Kl.ord (Kl.L a) (Kl.L b) = r at *
  generalize chk2 a.size b.size = r2 at *
  go_enter Try.func82, Try.ntmps82
  go_wp2_with fail
  refine J.out.mono ?_
  rintro e w1 ⟨rfl, hb⟩
  have HB := Lib.hid hb
  clear hb J
  go_wp2_with fail
  go_ret
  exact ⟨rfl, HB.out⟩
end Go.Proofs.Ytbgpcmpbfenplaa.KK
