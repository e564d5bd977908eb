/-
  Merges: a region that draws its order, by what holds behind the operations that were done; two rows that grow in one region.
-/
import Derived.Test.YtebjhjmlpodkgaaPt
import Derived.Maps.AppendAt
import Derived.OrdersIn
namespace Go.Proofs.Ytebjhjmlpodkgaa.KK
open Go.ChangeShapes Go.WideShapes Go.ChangeAt Go.RowKit Go.Proofs

theorem count_set : ∀ (l : List Bool) (i : Nat), l[i]? = some false → (l.set i true).count false + 1 = l.count false
  | [], _, h => by simp at h
  | b :: t, 0, h => by
    simp at h; subst h; simp
  | b :: t, i + 1, h => by
    have := count_set t i (by simpa using h)
    simp only [List.set_cons_succ, List.count_cons]; omega
theorem getD_false {L : Array Bool} {i : Nat} (h : L.getD i true = false) : L.toList[i]? = some false := by
  unfold Array.getD at h
  split at h
  · rename_i hi
    have : L.toList[i]? = some L[i] := by simp [hi]
    rw [this]; exact congrArg some h
  · cases h
/-- what holds behind the operations that were done, whatever their order -/
theorem wpAnyIn_inv {F : Fence} {n : Nat} {P : Program} {ops : Array Oper} {Q : Exit → Act → World → Prop} {md : Region.Mode} (I : Array Bool → Act → World → Prop)
    (step : ∀ L a w, I L a w → ∀ i, i ∈ Region.ready md ops L → wpOpIn F n P ops Q i (fun a' w' => I (L.setIfInBounds i true) a' w') a w)
    (top : ((List.range ops.size).all fun i => match ops[i]? with | some o => o.after.all (fun e => decide (e.on < i)) | none => true) = true)
    (fin : ∀ L a w, I L a w → (∀ i, i < ops.size → L.getD i true = true) → Q .normal a w) :
    ∀ (fuel : Nat) (L : Array Bool) (a : Act) (w : World), I L a w → L.toList.count false ≤ fuel → wpAnyIn F n P md ops Q fuel L a w := by
  have all : ∀ L : Array Bool, Region.ready md ops L = [] → ∀ i, i < ops.size → L.getD i true = true := by
    intro L hr i
    induction i using Nat.strongRecOn with
    | ind i ih =>
      intro hi
      cases hb : L.getD i true with
      | true => rfl
      | false =>
        exfalso
        obtain ⟨o, ho⟩ : ∃ o, ops[i]? = some o := ⟨ops[i], by simp [hi]⟩
        have ht := List.all_eq_true.1 top i (List.mem_range.2 hi)
        rw [ho] at ht
        have hm : i ∈ Region.ready md ops L := mem_ready.2 ⟨hb, o, ho, fun e he _ => by
          have h1 : e.on < i := by
            have := Array.all_eq_true_iff_forall_mem.1 ht e he
            simpa using this
          have h2 := ih e.on h1 (by omega)
          have hs : i < L.size := by
            have := getD_false hb
            have := (List.getElem?_eq_some_iff.1 this).1
            simpa using this
          have h3 : e.on < L.size := by omega
          simp only [Array.getD, h3, dif_pos] at h2 ⊢
          exact h2⟩
        rw [hr] at hm; cases hm
  have cnt : ∀ (L : Array Bool) i, i ∈ Region.ready md ops L → (L.setIfInBounds i true).toList.count false + 1 = L.toList.count false := by
    intro L i hi
    have := count_set L.toList i (getD_false (mem_ready.1 hi).1)
    simpa using this
  intro fuel
  induction fuel with
  | zero =>
    intro L a w h hc
    have hr : Region.ready md ops L = [] := by
      rcases hl : Region.ready md ops L with _ | ⟨i, t⟩
      · rfl
      · have := cnt L i (by rw [hl]; simp)
        omega
    exact ⟨hr, fin _ _ _ h (all L hr)⟩
  | succ f ih =>
    intro L a w h hc
    refine ⟨fun hr => fin _ _ _ h (all L hr), fun i hi => wpOpIn_mono (fun a' w' h' => ih _ _ _ h' ?_) (step _ _ _ h i hi)⟩
    have := cnt L i hi
    omega
theorem dep_of {ops : Array Oper} {md : Region.Mode} {L : Array Bool} {i : Nat} (hi : i ∈ Region.ready md ops L) (k : Nat)
    (hk : (match ops[i]? with | none => false | some o => o.after.any fun e => Region.binds md e && (e.on == k)) = true) : L.getD k false = true := by
  obtain ⟨_, o, ho, h⟩ := mem_ready.1 hi
  rw [ho] at hk
  obtain ⟨e, he, hb⟩ := Array.any_eq_true'.1 hk
  simp only [Bool.and_eq_true, beq_iff_eq] at hb
  rw [← hb.2]; exact h e he hb.1
theorem ready_lt {ops : Array Oper} {md : Region.Mode} {L : Array Bool} {i : Nat} (hi : i ∈ Region.ready md ops L) : i < ops.size := by
  obtain ⟨_, o, ho, _⟩ := mem_ready.1 hi
  exact (Array.getElem?_eq_some_iff.1 ho).1

/-! rows of other types stay -/
theorem own_ty {w : World} {B e size n r : Nat} {v : Value} {xs : List Value} (h : w.ownsRow B e size v n xs) (hr : v.ownBlock = some r) : B ≤ r ∧ ∃ cur, w.heap[r]? = some (.cells cur e (0, 0)) := by
  rcases h.2 with ⟨rfl, _⟩ | ⟨g, cap, cur, rfl, h1, h2, _⟩
  · cases hr
  · cases hr; exact ⟨h1, _, h2⟩
theorem keep_ty {w w' : World} {B e size n k : Nat} {v : Value} {xs : List Value} {z : Array Value} {t : TypeId} {f : Nat × Nat} (h : w.ownsRow B e size v n xs) (hg : w.grownBy w' v.ownBlock) (hk : w.heap[k]? = some (.cells z t f)) (ht : t ≠ e) : w'.heap[k]? = some (.cells z t f) := by
  rw [hg.block k (Array.getElem?_eq_some_iff.1 hk).1 (fun e' => by
    obtain ⟨_, cur, hc⟩ := own_ty h e'.symm
    rw [hk] at hc
    injection hc with hc; injection hc with _ h2 _
    exact ht h2)]
  exact hk
theorem own_at {w w' : World} {B e size n : Nat} {v : Value} {xs : List Value} (h : w.ownsRow B e size v n xs) (hk : ∀ r cur, v.ownBlock = some r → w.heap[r]? = some (.cells cur e (0, 0)) → w'.heap[r]? = w.heap[r]?) : w'.ownsRow B e size v n xs := by
  refine ⟨h.1, ?_⟩
  rcases h.2 with hn | ⟨g, cap, cur, rfl, h1, h2, h3⟩
  · exact .inl hn
  · exact .inr ⟨g, cap, cur, rfl, h1, (hk g cur rfl h2).trans h2, h3⟩
theorem keep_row {w w' : World} {B e size n B' e' size' n' : Nat} {v v' : Value} {xs xs' : List Value} (h : w.ownsRow B e size v n xs) (hg : w.grownBy w' v.ownBlock) (h' : w.ownsRow B' e' size' v' n' xs') (ht : e' ≠ e) : w'.ownsRow B' e' size' v' n' xs' :=
  own_at h' fun r cur _ hc => (keep_ty h hg hc ht).trans hc.symm
theorem ne_ty {w : World} {k k' : Nat} {z z' : Array Value} {t t' : TypeId} {f f' : Nat × Nat} (h : w.heap[k]? = some (.cells z t f)) (h' : w.heap[k']? = some (.cells z' t' f')) (ht : t ≠ t') : k ≠ k' := by
  rintro rfl
  rw [h] at h'
  injection h' with h'; injection h' with _ h2 _
  exact ht h2
theorem set_ty {w : World} {k k' o : Nat} {z' : Array Value} {t' : TypeId} {f' : Nat × Nat} (v : Value) (h' : w.heap[k']? = some (.cells z' t' f')) (hne : k' ≠ k) : (w.setCell ⟨k, o, none⟩ v).heap[k']? = some (.cells z' t' f') :=
  (Below.heap_setCell _ _ _ _ (by simpa using hne)).trans h'
theorem set_row {w : World} {B e size n k o : Nat} {t : TypeId} {z : Array Value} {f : Nat × Nat} {v : Value} {xs : List Value} (u : Value) (h : w.ownsRow B e size v n xs) (hk : w.heap[k]? = some (.cells z t f)) (ht : t ≠ e) : (w.setCell ⟨k, o, none⟩ u).ownsRow B e size v n xs :=
  own_at h fun r cur _ hc => (set_ty u hc (ne_ty hc hk (Ne.symm ht))).trans hc.symm
/-- two rows that grow: what holds behind the operations that were done -/
structure AQ (W : World) (Bl Bf Bx base m : Nat) (v u : Value) (xs : List El.En) (fs : List Int) (x : El.En) (r : Nat) (b0 b1 b2 b3 b4 b5 b6 b7 b8 b9 b10 b11 : Bool) (q0 q1 q2 q3 q4 q5 q6 q7 q8 q9 : Value) (w : World) : Prop where
  chg : Chg (fun k => k = Bl ∨ k = Bf ∨ some k = v.ownBlock ∨ some k = u.ownBlock) W w
  boxA : Rw1 w Bl 34 (if b10 then q4 else v)
  boxB : Rw1 w Bf 25 (if b11 then q9 else u)
  rowA : w.ownsRow base 45 4 (if b4 then q4 else v) (if b4 then m + 1 else m) (if b4 then cellsE (xs ++ [x]) else cellsE xs)
  rowB : w.ownsRow base 3 1 (if b9 then q9 else u) (if b9 then m + 1 else m) (if b9 then intsV (fs ++ [(r : Int)]) else intsV fs)
  newA : b4 = true → q4.ownBlock = v.ownBlock ∨ ∃ g, q4.ownBlock = some g ∧ W.heap.size ≤ g
  newB : b9 = true → q9.ownBlock = u.ownBlock ∨ ∃ g, q9.ownBlock = some g ∧ W.heap.size ≤ g
  litA : b3 = true → b4 = false → ∃ g, q3 = .slice (some ⟨g, 0, none⟩) 1 1 ∧ w.heap[g]? = some (.cells #[.string x.1, .string x.2.1, .bool x.2.2.1, .int .i64 x.2.2.2] 45 (0, 0))
  litB : b8 = true → b9 = false → ∃ g, q8 = .slice (some ⟨g, 0, none⟩) 1 1 ∧ w.heap[g]? = some (.cells #[.int .i64 (r : Int)] 3 (0, 0))
  src : Rw5 w Bx 91 (.string x.1) (.string x.2.1) (.bool x.2.2.1) (.int .i64 x.2.2.2) (.int .i64 (r : Int))
  t0 : b0 = true → q0 = v
  t1 : b1 = true → q1 = .pointer (some ⟨Bx, 0, none⟩)
  t2 : b2 = true → q2 = .agg #[.string x.1, .string x.2.1, .bool x.2.2.1, .int .i64 x.2.2.2]
  t5 : b5 = true → q5 = u
  t6 : b6 = true → q6 = .pointer (some ⟨Bx, 4, none⟩)
  t7 : b7 = true → q7 = .int .i64 (r : Int)
  oA : b10 = true → b0 = true ∧ b4 = true
  oB : b11 = true → b5 = true ∧ b9 = true ∧ b10 = true
section
variable {W w : World} {Bl Bf Bx base m : Nat} {v u : Value} {xs : List El.En} {fs : List Int} {x : El.En} {r : Nat} {b0 b1 b2 b3 b4 b5 b6 b7 b8 b9 b10 b11 : Bool} {q0 q1 q2 q3 q4 q5 q6 q7 q8 q9 : Value}
/-- a block is made -/
theorem AQ.alloc (h : AQ W Bl Bf Bx base m v u xs fs x r b0 b1 b2 b3 b4 b5 b6 b7 b8 b9 b10 b11 q0 q1 q2 q3 q4 q5 q6 q7 q8 q9 w) (o : Obj) : AQ W Bl Bf Bx base m v u xs fs x r b0 b1 b2 b3 b4 b5 b6 b7 b8 b9 b10 b11 q0 q1 q2 q3 q4 q5 q6 q7 q8 q9 (w.alloc o) := by
  have hb := alloc_below w o
  have hk : ∀ {k : Nat} {y : Obj}, w.heap[k]? = some y → (w.alloc o).heap[k]? = some y := fun hy => (hb.block _ (Array.getElem?_eq_some_iff.1 hy).1).trans hy
  exact { h with
    chg := h.chg.trans (.of_below hb)
    boxA := hk h.boxA
    boxB := hk h.boxB
    rowA := own_bel h.rowA hb
    rowB := own_bel h.rowB hb
    litA := fun e1 e2 => let ⟨g, h1, h2⟩ := h.litA e1 e2; ⟨g, h1, hk h2⟩
    litB := fun e1 e2 => let ⟨g, h1, h2⟩ := h.litB e1 e2; ⟨g, h1, hk h2⟩
    src := hk h.src }
theorem AQ.appA {w' : World} {v' : Value} (h : AQ W Bl Bf Bx base m v u xs fs x r b0 b1 b2 b3 false b5 b6 b7 b8 b9 false b11 q0 q1 q2 q3 q4 q5 q6 q7 q8 q9 w) (h0 : b0 = true) (ho : w'.ownsRow base 45 4 v' (m + 1) (cellsE xs ++ [.string x.1, .string x.2.1, .bool x.2.2.1, .int .i64 x.2.2.2])) (hg : w.grownBy w' v.ownBlock) (hn : v'.ownBlock = v.ownBlock ∨ v'.ownBlock = some w.heap.size) :
    AQ W Bl Bf Bx base m v u xs fs x r b0 b1 b2 b3 true b5 b6 b7 b8 b9 false b11 q0 q1 q2 q3 v' q5 q6 q7 q8 q9 w' := by
  have hv : w.ownsRow base 45 4 v m (cellsE xs) := h.rowA
  exact {
    chg := h.chg.trans ((cgr hg).mono fun k hk => .inr (.inr (.inl hk)))
    boxA := keep_ty hv hg h.boxA (by decide)
    boxB := keep_ty hv hg h.boxB (by decide)
    rowA := own_snoc ho
    rowB := keep_row hv hg h.rowB (by decide)
    newA := fun _ => hn.imp_right fun e => ⟨_, e, h.chg.size⟩
    newB := h.newB
    litA := fun _ e => by cases e
    litB := fun e1 e2 => let ⟨g, h1, h2⟩ := h.litB e1 e2; ⟨g, h1, keep_ty hv hg h2 (by decide)⟩
    src := keep_ty hv hg h.src (by decide)
    t0 := h.t0, t1 := h.t1, t2 := h.t2, t5 := h.t5, t6 := h.t6, t7 := h.t7
    oA := fun e => by cases e
    oB := h.oB }
theorem AQ.appB {w' : World} {u' : Value} (h : AQ W Bl Bf Bx base m v u xs fs x r b0 b1 b2 b3 b4 b5 b6 b7 b8 false b10 false q0 q1 q2 q3 q4 q5 q6 q7 q8 q9 w) (ho : w'.ownsRow base 3 1 u' (m + 1) (intsV fs ++ [.int .i64 (r : Int)])) (hg : w.grownBy w' u.ownBlock) (hn : u'.ownBlock = u.ownBlock ∨ u'.ownBlock = some w.heap.size) :
    AQ W Bl Bf Bx base m v u xs fs x r b0 b1 b2 b3 b4 b5 b6 b7 b8 true b10 false q0 q1 q2 q3 q4 q5 q6 q7 q8 u' w' := by
  have hv : w.ownsRow base 3 1 u m (intsV fs) := h.rowB
  exact {
    chg := h.chg.trans ((cgr hg).mono fun k hk => .inr (.inr (.inr hk)))
    boxA := keep_ty hv hg h.boxA (by decide)
    boxB := keep_ty hv hg h.boxB (by decide)
    rowA := keep_row hv hg h.rowA (by decide)
    rowB := by rw [if_pos rfl, if_pos rfl, if_pos rfl]; simpa [intsV] using ho
    newA := h.newA
    newB := fun _ => hn.imp_right fun e => ⟨_, e, h.chg.size⟩
    litA := fun e1 e2 => let ⟨g, h1, h2⟩ := h.litA e1 e2; ⟨g, h1, keep_ty hv hg h2 (by decide)⟩
    litB := fun _ e => by cases e
    src := keep_ty hv hg h.src (by decide)
    t0 := h.t0, t1 := h.t1, t2 := h.t2, t5 := h.t5, t6 := h.t6, t7 := h.t7
    oA := h.oA
    oB := fun e => by cases e }
theorem AQ.setA (h : AQ W Bl Bf Bx base m v u xs fs x r true b1 b2 b3 true b5 b6 b7 b8 b9 false b11 q0 q1 q2 q3 q4 q5 q6 q7 q8 q9 w) :
    AQ W Bl Bf Bx base m v u xs fs x r true b1 b2 b3 true b5 b6 b7 b8 b9 true b11 q0 q1 q2 q3 q4 q5 q6 q7 q8 q9 (w.setCell ⟨Bl, 0, none⟩ q4) := by
  have hb : w.heap[Bl]? = some (.cells #[v] 34 (0, 0)) := h.boxA
  exact {
    chg := h.chg.trans ((chg_set _ _ _).mono fun k hk => .inl hk)
    boxA := Rw1.set hb _
    boxB := set_ty _ h.boxB (ne_ty h.boxB hb (by decide))
    rowA := set_row _ h.rowA hb (by decide)
    rowB := set_row _ h.rowB hb (by decide)
    newA := h.newA
    newB := h.newB
    litA := fun _ e => by cases e
    litB := fun e1 e2 => let ⟨g, h1, h2⟩ := h.litB e1 e2; ⟨g, h1, set_ty _ h2 (ne_ty h2 hb (by decide))⟩
    src := set_ty _ h.src (ne_ty h.src hb (by decide))
    t0 := h.t0, t1 := h.t1, t2 := h.t2, t5 := h.t5, t6 := h.t6, t7 := h.t7
    oA := fun _ => ⟨rfl, rfl⟩
    oB := fun e => let ⟨e1, e2, _⟩ := h.oB e; ⟨e1, e2, rfl⟩ }
theorem AQ.setB (h : AQ W Bl Bf Bx base m v u xs fs x r b0 b1 b2 b3 b4 true b6 b7 b8 true true false q0 q1 q2 q3 q4 q5 q6 q7 q8 q9 w) :
    AQ W Bl Bf Bx base m v u xs fs x r b0 b1 b2 b3 b4 true b6 b7 b8 true true true q0 q1 q2 q3 q4 q5 q6 q7 q8 q9 (w.setCell ⟨Bf, 0, none⟩ q9) := by
  have hb : w.heap[Bf]? = some (.cells #[u] 25 (0, 0)) := h.boxB
  exact {
    chg := h.chg.trans ((chg_set _ _ _).mono fun k hk => .inr (.inl hk))
    boxA := set_ty _ h.boxA (ne_ty h.boxA hb (by decide))
    boxB := Rw1.set hb _
    rowA := set_row _ h.rowA hb (by decide)
    rowB := set_row _ h.rowB hb (by decide)
    newA := h.newA
    newB := h.newB
    litA := fun e1 e2 => let ⟨g, h1, h2⟩ := h.litA e1 e2; ⟨g, h1, set_ty _ h2 (ne_ty h2 hb (by decide))⟩
    litB := fun _ e => by cases e
    src := set_ty _ h.src (ne_ty h.src hb (by decide))
    t0 := h.t0, t1 := h.t1, t2 := h.t2, t5 := h.t5, t6 := h.t6, t7 := h.t7
    oA := h.oA
    oB := fun _ => ⟨rfl, rfl, rfl⟩ }
end
theorem step_append_inR {F : Fence} {nF : Nat} {P : Program} {ops : Array Oper} {o : Oper} {a : Act} {w w' : World} {K : Act → World → Prop} {Q : Exit → Act → World → Prop} {E : Prop} {t : TypeId} {v x v' : Value} (hgd : o.guard = none) (s y : Operand)
    (ho : o.op = .call { callee := .builtin .append, args := #[s, y], argTypes := #[t, t] }) (hs : a.eval s = v) (hx : a.eval y = x) (hr : (Builtin.append_ #[t, t] o.type #[v, x]).run P w = .ok v' w') (hd : ∀ c, o.op ≠ .defer c)
    (h : K (a.put o.dst v') w') : if Region.wanted o (yielded ops a.tmps) = true then Oper.wpIn F nF P o a w K Q else E := by
  have hw : Region.wanted o (yielded ops a.tmps) = true := by simp [Region.wanted, hgd]
  rw [if_pos hw]
  unfold Oper.wpIn
  refine ⟨by simp [Oper.about, ho, resolve, Target.leads, Sem.run_pure], ?_⟩
  rw [Oper.semAt_plain F _ _ hd]
  simp [execOp, ho, resolve, invoke, builtin, hs, hx, hr, Result.andThen]
  exact h
end Go.Proofs.Ytebjhjmlpodkgaa.KK
