/-
  Walk: Take of a cursor of the run.
-/
import Derived.Test.YticdechdgpfdfaaTg
namespace Go.Proofs.Yticdechdgpfdfaa.KK
open Go.ChangeShapes Go.WideShapes Go.ChangeAt Go.RowKit Go.Proofs Go.Sort
attribute [local go_sem] Oper.semAt_some

/-- Take's cells between two rounds: base is where its own row may lie -/
def TkI (w : World) (N : Nat) (most : Nat) (A : Option Addr) (n c k : Nat) (back : Bool) (Bm Bt Bl Bw Bd : Nat) (pre : List (El.En × Nat)) (W : World) : Prop :=
  ∃ v, AhAt A n c k back Bl Bw Bd W ∧ Boxed W (w.heap.size + 1) 26 (.int .i64 ((plcW k back pre.length : Nat) : Int)) ∧ Boxed W (w.heap.size + 2) 26 (.int .i64 0) ∧ Boxed W Bm 3 (.int .i64 (most : Int)) ∧ Boxed W Bt 22 v ∧
    W.ownsRow (N + 3) 34 4 v pre.length (cellsE (pre.map (·.1))) ∧ Below w.heap.size w W ∧ pre.length ≤ most
def TkX (w : World) (N : Nat) (most : Nat) (A : Option Addr) (n c k : Nat) (back : Bool) (Bm Bt Bl Bw Bd : Nat) (e : Code) (pre : List (El.En × Nat)) (W : World) : Prop :=
  e = .exit 0 ∧ ∃ (pre' : List (El.En × Nat)) (x : El.En × Nat), pre = pre' ++ [x] ∧ pre'.length = most ∧ TkI w N most A n c k back Bm Bt Bl Bw Bd pre' W
theorem own_drew {w : World} {B e size n : Nat} {v : Value} {xs : List Value} (h : w.ownsRow B e size v n xs) : w.drew.ownsRow B e size v n xs := h
theorem grown_drew {w w' : World} {row : Option Nat} (h : w.grownBy w' row) : w.grownBy w'.drew row := ⟨h.os, h.tape, h.output, h.size, h.block⟩
theorem own_base' {w w' : World} {B e size n : Nat} {v : Value} {xs : List Value} {row : Option Nat} (h : w.ownsRow B e size v n xs) (hg : w.grownBy w' row) (hr : ∀ r, row = some r → r < B) : w'.ownsRow B e size v n xs := by
  refine ⟨h.1, ?_⟩
  rcases h.2 with hn | ⟨g, cap, cur, rfl, hg', hgg, rest⟩
  · exact .inl hn
  · exact .inr ⟨g, cap, cur, rfl, hg', by rw [hg.block g (Array.getElem?_eq_some_iff.1 hgg).1 (fun e => by have := hr g e.symm; omega)]; exact hgg, rest⟩
theorem own_cap {w : World} {base e size n : Nat} {v : Value} {xs : List Value} (h : w.ownsRow base e size v n xs) : ∃ A c, v = .slice A n c ∧ n ≤ c ∧ (A = none → c = 0) := by
  rcases h.2 with ⟨rfl, h1⟩ | ⟨g, cap, cur, hv, _, _, h5, _⟩
  · exact ⟨none, 0, by rw [h1], by omega, fun _ => rfl⟩
  · exact ⟨_, _, hv, h5, fun e => by cases e⟩
theorem TkI.kept {w A A' : World} {N most : Nat} {D : Option Addr} {n c k : Nat} {back : Bool} {Bm Bt Bl Bw Bd : Nat} {pre : List (El.En × Nat)} {row : Option Nat} (h : TkI w N most D n c k back Bm Bt Bl Bw Bd pre A) (hN : Bl < N ∧ Bw < N ∧ Bd < N ∧ Bm < N ∧ Bt < N ∧ w.heap.size + 2 < N) (hg : A.grownBy A' row) (hr : ∀ r, row = some r → N ≤ r ∧ r < N + 3) : TkI w N most D n c k back Bm Bt Bl Bw Bd pre A' := by
  obtain ⟨v, ⟨a1, a2, a3⟩, b1, b2, b3, b4, ho, hb, hl⟩ := h
  have ne : ∀ k, k < N → some k ≠ row := fun k hk e => by have := hr k e.symm; omega
  exact ⟨v, ⟨a1.kept hg (ne _ hN.1), a2.kept hg (ne _ hN.2.1), row2_kept a3 hg (ne _ hN.2.2.1)⟩, b1.kept hg (ne _ (by omega)), b2.kept hg (ne _ (by omega)), b3.kept hg (ne _ (by omega)), b4.kept hg (ne _ (by omega)),
    own_base' ho hg (fun r e => (hr r e).2), hb.grown hg hb.size (fun k e => by have := hr k e; omega), hl⟩
theorem TkX.kept {w A A' : World} {N most : Nat} {D : Option Addr} {n c k : Nat} {back : Bool} {Bm Bt Bl Bw Bd : Nat} {e : Code} {pre : List (El.En × Nat)} {row : Option Nat} (h : TkX w N most D n c k back Bm Bt Bl Bw Bd e pre A) (hN : Bl < N ∧ Bw < N ∧ Bd < N ∧ Bm < N ∧ Bt < N ∧ w.heap.size + 2 < N) (hg : A.grownBy A' row) (hr : ∀ r, row = some r → N ≤ r ∧ r < N + 3) : TkX w N most D n c k back Bm Bt Bl Bw Bd e pre A' := by
  obtain ⟨he, p', x, h1, h2, hi⟩ := h
  exact ⟨he, p', x, h1, h2, hi.kept hN hg hr⟩
theorem step_append_inR {F : Fence} {nF : Nat} {P : Program} {ops : Array Oper} {o : Oper} {a : Act} {w w' : World} {K : Act → World → Prop} {Q : Exit → Act → World → Prop} {E : Prop} {t : TypeId} {v x v' : Value} (hgd : o.guard = none) (s y : Operand)
    (ho : o.op = .call { callee := .builtin .append, args := #[s, y], argTypes := #[t, t] }) (hs : a.eval s = v) (hx : a.eval y = x) (hr : (Builtin.append_ #[t, t] o.type #[v, x]).run P w = .ok v' w') (hd : ∀ c, o.op ≠ .defer c)
    (h : K (a.put o.dst v') w') : if Region.wanted o (yielded ops a.tmps) = true then Oper.wpIn F nF P o a w K Q else E := by
  have hw : Region.wanted o (yielded ops a.tmps) = true := by simp [Region.wanted, hgd]
  rw [if_pos hw]
  unfold Oper.wpIn
  refine ⟨by simp [Oper.about, ho, resolve, Target.leads, Sem.run_pure], ?_⟩
  rw [Oper.semAt_plain F _ _ hd]
  simp [execOp, ho, resolve, invoke, builtin, hs, hx, hr, Result.andThen]
  exact h
def TkA (w w2 w3 : World) (B : Option Addr) (id : Int) (n d m : Nat) (c : Int) (most : Nat) (back : Bool) (Bd N : Nat) (x : El.En × Nat) (a' : Act) (W : World) : Prop := ∃ Bx, N + 2 ≤ Bx ∧ Z4 W Bx x.1 ∧ Boxed W (Bx + 1) 26 (.int .i64 (x.2 : Int)) ∧ a' = { tmps := (.agg #[.int .i64 id, .slice B n d] :: .agg #[.int .i64 (m : Int)] :: .int .i64 c :: .pointer (some ⟨w.heap.size, 0, none⟩) :: .pointer (some ⟨w.heap.size + 1, 0, none⟩) :: undef :: .slice none 0 0 :: .pointer (some ⟨w.heap.size + 1 + 1, 0, none⟩) :: .int .i64 0 :: .int .i64 0 :: .pointer (some ⟨w2.heap.size, 0, none⟩) :: .pointer (some ⟨w2.heap.size + 1, 0, none⟩) :: .pointer (some ⟨Bx, 0, none⟩) :: .pointer (some ⟨Bx + 1, 0, none⟩) :: .agg #[.int .i64 id, .slice B n d] :: .agg #[.int .i64 (m : Int)] :: .int .i64 0 :: .int .i64 0 :: .bool false :: undef :: undef :: .int .i64 c :: .bool false :: .bool false :: .int .i64 c :: .bool false :: .bool false :: undef :: .int .i64 c :: .int .i64 c :: .int .i64 (-c) :: .int .i64 (most : Int) :: .pointer (some ⟨w.heap.size, 1, none⟩) :: .slice B n d :: .agg #[.int .i64 (m : Int)] :: .int .i64 c :: .bool back :: .func (.func 54) #[] #[.pointer (some ⟨w3.heap.size + 1, 0, none⟩), .pointer (some ⟨Bd, 0, none⟩), .pointer (some ⟨w3.heap.size, 0, none⟩)] :: .agg #[.string x.1.1, .string x.1.2.1, .bool x.1.2.2.1, .int .i64 x.1.2.2.2] :: .agg #[.int .i64 (x.2 : Int)] :: undef :: undef :: undef :: undef :: undef :: undef :: undef :: undef :: undef :: undef :: undef :: []).toArray, defers := [] }
theorem tk_fin {w W w' : World} {N most n d m : Nat} {A : Option Addr} {back : Bool} {Bm Bt Bl Bw Bd : Nat} {pre : List (El.En × Nat)} {x : El.En × Nat} {v v' : Value}
    (hN : Bl < N ∧ Bw < N ∧ Bd < N ∧ Bm < N ∧ Bt < N ∧ w.heap.size + 2 < N) (hne : Bt ≠ w.heap.size + 1 ∧ Bt ≠ w.heap.size + 2 ∧ Bt ≠ Bl ∧ Bt ≠ Bw ∧ Bt ≠ Bd ∧ Bt ≠ Bm ∧ w.heap.size ≤ Bt) (hne2 : w.heap.size + 2 < Bl ∧ w.heap.size + 2 < Bw ∧ w.heap.size + 2 < Bd ∧ w.heap.size + 2 < Bm) (hsz : N + 2 ≤ W.heap.size)
    (ha : AhAt A n d m back Bl Bw Bd W) (b1 : Boxed W (w.heap.size + 1) 26 (.int .i64 ((plcW m back pre.length : Nat) : Int))) (b2 : Boxed W (w.heap.size + 2) 26 (.int .i64 0)) (b3 : Boxed W Bm 3 (.int .i64 (most : Int))) (b4 : Boxed W Bt 22 v)
    (ho : W.ownsRow (N + 3) 34 4 v pre.length (cellsE (pre.map (·.1)))) (hb : Below w.heap.size w W) (hl : pre.length < most) (hp : x.2 = plcW m back (pre.length + 1))
    (hg : W.grownBy w' v.ownBlock) (ho' : w'.ownsRow (N + 3) 34 4 v' (pre.length + 1) (cellsE (pre.map (·.1)) ++ [.string x.1.1, .string x.1.2.1, .bool x.1.2.2.1, .int .i64 x.1.2.2.2])) :
    Two N W ((w'.setCell ⟨Bt, 0, none⟩ v').setCell ⟨w.heap.size + 1, 0, none⟩ (.int .i64 (x.2 : Int))) ∧ True ∧ TkI w N most A n d m back Bm Bt Bl Bw Bd (pre ++ [x]) ((w'.setCell ⟨Bt, 0, none⟩ v').setCell ⟨w.heap.size + 1, 0, none⟩ (.int .i64 (x.2 : Int))) := by
  have hrow : ∀ r, v.ownBlock = some r → N + 3 ≤ r := fun r e => (ho.lt r e).1
  have keep0 : ∀ k, k < N + 2 → w'.heap[k]? = W.heap[k]? := fun k hk => hg.block k (by omega) (fun e => by have := hrow k e.symm; omega)
  have keep : ∀ k, k < N + 2 → k ≠ Bt → k ≠ w.heap.size + 1 → ((w'.setCell ⟨Bt, 0, none⟩ v').setCell ⟨w.heap.size + 1, 0, none⟩ (.int .i64 (x.2 : Int))).heap[k]? = W.heap[k]? := fun k hk h1 h2 => by
    rw [Below.heap_setCell _ _ _ _ (by simpa using h2), Below.heap_setCell _ _ _ _ (by simpa using h1), keep0 k hk]
  have c4 : Boxed (w'.setCell ⟨Bt, 0, none⟩ v') Bt 22 v' := Boxed.set _ ((keep0 Bt (by omega)).trans b4)
  have c1 : Boxed (w'.setCell ⟨Bt, 0, none⟩ v') (w.heap.size + 1) 26 (.int .i64 ((plcW m back pre.length : Nat) : Int)) := (Below.heap_setCell _ _ _ _ (by simpa using Ne.symm hne.1)).trans ((keep0 _ (by omega)).trans b1)
  have hB1 : Below w.heap.size W w' := (Below.refl _ _).grown hg hb.size (fun k e => by have := hrow k e; omega)
  refine ⟨⟨?_, keep N (by omega) (by omega) (by omega), keep (N + 1) (by omega) (by omega) (by omega)⟩, trivial, v', ⟨?_, ?_, ?_⟩, ?_, ?_, ?_, ?_, ?_, ?_, ?_⟩
  · have := hg.size
    simpa only [World.setCell, Array.size_modify] using this
  · exact (keep _ (by omega) (by omega) (by omega)).trans ha.1
  · exact (keep _ (by omega) (by omega) (by omega)).trans ha.2.1
  · exact (keep _ (by omega) (by omega) (by omega)).trans ha.2.2
  · have := Boxed.set (.int .i64 (x.2 : Int)) c1
    rw [hp] at this ⊢
    rw [List.length_append]
    exact this
  · exact (keep _ (by omega) (by omega) (by omega)).trans b2
  · exact (keep _ (by omega) (by omega) (by omega)).trans b3
  · exact (Below.heap_setCell _ _ _ _ (by simpa using hne.1)).trans c4
  · have := ownsRow_setCell_below (ownsRow_setCell_below ho' (a := ⟨Bt, 0, none⟩) (by first | (simp; done) | (simp; omega)) v') (a := ⟨w.heap.size + 1, 0, none⟩) (by first | (simp; done) | (simp; omega)) (.int .i64 (x.2 : Int))
    rw [List.length_append, List.map_append]
    exact own_snoc (x := x.1) this
  · exact ((hb.trans hB1).setCell (p := ⟨Bt, 0, none⟩) hne.2.2.2.2.2.2 _).setCell (p := ⟨w.heap.size + 1, 0, none⟩) (by simp) _
  · rw [List.length_append]; exact hl
theorem tk_end {w W : World} {N most n d m D : Nat} {A : Option Addr} {back : Bool} {Bm Bt Bl Bw Bd : Nat} {pre : List (El.En × Nat)} {A9 : Option Addr} {c9 : Nat}
    (hD : N ≤ D ∧ D ≤ N + 1) (hN : w.heap.size + 2 < N) (b2 : Boxed W (w.heap.size + 2) 26 (.int .i64 0))
    (ho : W.ownsRow (N + 3) 34 4 (.slice A9 pre.length c9) pre.length (cellsE (pre.map (·.1)))) (hb : Below w.heap.size w W) (hK : W.heap[D]? = some (.deferred (some []))) (z : Value) :
    (W.setCell ⟨w.heap.size + 2, 0, none⟩ z).drew.heap[D]? = some (.deferred (some [])) ∧ ((W.setCell ⟨w.heap.size + 2, 0, none⟩ z).drew.putObj D (.deferred none)).cell? ⟨w.heap.size + 2, 0, none⟩ = some z ∧
      EsAt ((W.setCell ⟨w.heap.size + 2, 0, none⟩ z).drew.putObj D (.deferred none)) A9 (pre.map (·.1)) ∧ Below w.heap.size w ((W.setCell ⟨w.heap.size + 2, 0, none⟩ z).drew.putObj D (.deferred none)) := by
  have h1 : Boxed (W.setCell ⟨w.heap.size + 2, 0, none⟩ z).drew (w.heap.size + 2) 26 z := Boxed.set z b2
  have h2 : (W.setCell ⟨w.heap.size + 2, 0, none⟩ z).drew.ownsRow (N + 3) 34 4 (.slice A9 pre.length c9) pre.length (cellsE (pre.map (·.1))) := ownsRow_setCell_below ho (a := ⟨w.heap.size + 2, 0, none⟩) (by first | (simp; done) | (simp; omega)) z
  have h3 : Below w.heap.size w (W.setCell ⟨w.heap.size + 2, 0, none⟩ z).drew := below_drew (hb.setCell (p := ⟨w.heap.size + 2, 0, none⟩) (by simp) z)
  refine ⟨(Below.heap_setCell _ _ _ _ (by simp; omega)).trans hK, Boxed.cell ((World.putObj_heap_other (by omega)).trans h1), ?_, h3.grown (grownBy_putObj' _ D (.deferred none)) h3.size (fun k e => by cases e; omega)⟩
  have h4 := own_base' h2 (grownBy_putObj' _ D (.deferred none)) (fun r e => by cases e; omega)
  have hl : (pre.map (·.1)).length = pre.length := List.length_map _
  rw [← hl] at h4
  exact EsAt.of_own h4
set_option maxRecDepth 100000 in
set_option maxHeartbeats 4000000 in
theorem take_main (id : Int) (B : Option Addr) (d : Nat) (xs : List El.En) (m : Nat) (c : Int) (most : Nat) (back : Bool) (w : World) (hf : EsAt w B xs) (hn : xs.length ≤ 4294967295) (hs : Sized xs) (h1 : curE id xs m = 0) (h2 : ¬ c < -5000) (h3 : ¬ 5000 < c) (hmost : c.natAbs = most) (hback : decide (c < 0) = back) :
    Calls Try.prog 27 #[.agg #[.int .i64 id, .slice B xs.length d], .agg #[.int .i64 (m : Int)], .int .i64 c] w (TakOut id xs m c w) := by
  obtain ⟨hr, m', hm', hml'⟩ := curE_zero h1
  have hml : m ≤ xs.length := by omega
  have h5 : xs.length ≤ 5000 := (list_ok (run_list hr)).1
  clear hml' hm' m' hr
  obtain ⟨w1, hw1, r0, b0, b2, hsz, hb⟩ := boxTk id B xs.length d m w
  have J := Lib.hid (fun w2 (h : Below w.heap.size w w2) => pCur_any id B d xs m w2 (hf.below h (Nat.le_refl _)) hn hs)
  rw [h1] at J
  have HE := Lib.hid (takE_ok (c := c) h1 (by omega))
  rw [hmost] at HE
  have HT : Hid (tknW xs.length m c = min most (ahN xs.length m back)) := Lib.hid (by unfold tknW; rw [hmost, hback])
  rw [hback] at HE
  have HF := Lib.hid hf
  have HB := Lib.hid hb
  have HR0 := Lib.hid r0
  have HK0 := Lib.hid b0
  have HK2 := Lib.hid b2
  have HSZ := Lib.hid hsz
  have x0 := r0.c0
  have x1 := r0.c1
  have x2 := b0.cell
  have t1 : decide (c < -5000) = false := by simpa using h2
  have t2 : decide (5000 < c) = false := by simpa using h3
  have HMX : Hid (max c (-c) = (most : Int)) := Lib.hid (by omega)
  have hm5 : most ≤ 5000 := by omega
  clear hf hs r0 b0 b2 hb hsz h1 hmost
  obtain ⟨n, hn'⟩ : ∃ n, xs.length = n := ⟨_, rfl⟩
  rw [hn'] at J HR0 x1 hml h5 hw1 hn ⊢
  have HN := Lib.hid hn'
  have JA := Lib.hid (fun w => ahead_any B n d (m : Int) back w)
  clear hn'
  refine (callsIn_wide (n := 9)).1 ?_
  refine callsIn_of_wp_marks Try.func27 rfl trivial ?_
  simp only [Try.ntmps27, List.size_toArray, List.length_cons, List.length_nil, Nat.reduceAdd, Nat.reduceSub, Array.replicate_succ, Array.replicate_zero, List.push_toArray, List.append_toArray, List.nil_append, List.cons_append]
  gi_wp2_with fail
  refine ⟨trivial, ?_⟩
  refine (callsIn_wide.2 (J.out _ HB.out)).mono ?_
  rintro e w2 ⟨rfl, hb⟩
  have HR2 := Lib.hid (HR0.out.below hb (Nat.le_refl _))
  have HL0 := Lib.hid (box_below HK0.out hb (Nat.le_refl _))
  have HL2 := Lib.hid (box_below HK2.out hb (Nat.le_refl _))
  have HB2 := Lib.hid (eb_of HB.out hb (by first | exact Nat.le_refl _ | exact HB.out.size))
  have HS2 : Hid (w.heap.size + 3 ≤ w2.heap.size) := Lib.hid (by have := hb.size; have := HSZ.out; omega)
  have y0 := HR2.out.c1
  have y1 := HL0.out.cell
  clear hb x0 x1 x2 HR0 HK0 HK2 HB HSZ hw1 J
  obtain ⟨w3, hw3⟩ : ∃ w3, (w2.alloc (.cells #[.int .i64 (most : Int)] 3)).alloc (.cells #[.slice none 0 0] 22) = w3 := ⟨_, rfl⟩
  have hs3 : w3.heap.size = w2.heap.size + 2 := by rw [← hw3]; simp
  have hb3 : Below w2.heap.size w2 w3 := by rw [← hw3]; exact eb_of (alloc_below w2 _) (alloc_below _ _) (Nat.le_refl _)
  have HM : Hid (Boxed w3 w2.heap.size 3 (.int .i64 (most : Int))) := Lib.hid (by rw [← hw3]; exact (Boxed.new w2 _ _).alloc _)
  have HT0 : Hid (Boxed w3 (w2.heap.size + 1) 22 (.slice none 0 0)) := Lib.hid (by
    rw [← hw3]
    have := Boxed.new (w2.alloc (.cells #[.int .i64 (most : Int)] 3)) 22 (.slice none 0 0)
    rwa [World.size_alloc] at this)
  have HR3 := Lib.hid (HR2.out.below hb3 (Nat.le_refl _))
  have HP0 := Lib.hid (box_below HL0.out hb3 (Nat.le_refl _))
  have HP2 := Lib.hid (box_below HL2.out hb3 (Nat.le_refl _))
  have HB3 := Lib.hid (eb_of HB2.out hb3 (by first | exact Nat.le_refl _ | exact HB2.out.size))
  have HS3 := Lib.hid hs3
  clear y0 y1 HR2 HL0 HL2 HB2 hb3 hs3
  have y0 := HR3.out.c1
  have y1 := HP0.out.cell
  have hmx := HMX.out
  gi_wp2_with fail
  refine ⟨trivial, ?_⟩
  refine (callsIn_wide.2 (JA.out _)).mono ?_
  rintro e w4 ⟨Bd, rfl, hBd, hA, hb⟩
  have HA := Lib.hid hA
  have HBD := Lib.hid hBd
  have HQ0 := Lib.hid (box_below HP0.out hb (Nat.le_refl _))
  have HQ2 := Lib.hid (box_below HP2.out hb (Nat.le_refl _))
  have HQM := Lib.hid (box_below HM.out hb (Nat.le_refl _))
  have HQT := Lib.hid (box_below HT0.out hb (Nat.le_refl _))
  have HB4 := Lib.hid (eb_of HB3.out hb (by first | exact Nat.le_refl _ | exact HB3.out.size))
  clear hb y0 y1 HR3 HP0 HP2 HM HT0 HB3 hA hBd JA hmx hw3
  gi_wp2_with fail
  have hN : w3.heap.size < w4.heap.size ∧ w3.heap.size + 1 < w4.heap.size ∧ Bd < w4.heap.size ∧ w2.heap.size < w4.heap.size ∧ w2.heap.size + 1 < w4.heap.size ∧ w.heap.size + 2 < w4.heap.size := by
    have h1 := HA.out.1.lt
    have h2 := HA.out.2.1.lt
    have h3 := HA.out.2.2.lt
    have h4 := HS2.out
    have h6 := HS3.out
    omega
  have HNN := Lib.hid hN
  refine range_ownR (n := 9) (ps := #[38, 39]) (gf := 54) (lb := #[.pointer (some ⟨w3.heap.size + 1, 0, none⟩), .pointer (some ⟨Bd, 0, none⟩), .pointer (some ⟨w3.heap.size, 0, none⟩)]) ?hg (enters_of Try.func54 (by kernel_rfl) rfl)
    (encs := encW) ?hps (ahL xs m back) (fun _ _ => True) (TkI w w4.heap.size most B n d m back w2.heap.size (w2.heap.size + 1) w3.heap.size (w3.heap.size + 1) Bd) (TkX w w4.heap.size most B n d m back w2.heap.size (w2.heap.size + 1) w3.heap.size (w3.heap.size + 1) Bd) (AhR B xs d m back w3.heap.size (w3.heap.size + 1) Bd) ?hIR
    ?hI ?hIx (fun _ _ => trivial) (fun _ _ _ _ => trivial) (fun _ _ _ _ => trivial) ?h0 ?hseq (TkA w w2 w3 B id n d m c most back Bd w4.heap.size) ?hAx ?hassign ?hbody ?hdone ?hstop
  case hg => rfl
  case hps => intro x; rfl
  case hIR =>
    intro pre W hi hs
    obtain ⟨v, h1, _, _, _, _, _, h2, _⟩ := hi
    exact ⟨by rw [HN.out]; exact h1, HF.out.below h2 (Nat.le_refl _)⟩
  case hI =>
    intro pre A A' row h hg hr
    exact h.kept hN hg (fun r e => by have := hr r e; omega)
  case hIx =>
    intro c pre A A' row h hg hr
    exact h.kept hN hg (fun r e => by have := hr r e; omega)
  case h0 => exact ⟨.slice none 0 0, HA.out, by simpa [plc_zero] using HQ0.out, HQ2.out, HQM.out, HQT.out, World.ownsRow_nil _ _ _ _, HB4.out, Nat.zero_le _⟩
  case hseq =>
    intro l J Jx W hsz hbl hJ hJR hY h0
    cases back with
    | false => exact ahead1_f (9 - 1) _ _ _ xs B d m l W (by rw [HN.out]; exact hml) (by rw [HN.out]; exact h5) J Jx (fun pre A A' h hb => hJ pre A A' none h (grown_of_below' hb) (fun r e => by cases e)) hJR (fun pre x W1 hj hp => (yield_any' (hY pre x W1 hj hp)).mono (fun e w' hr => hr.imp (fun h => ⟨h.1, h.2.1⟩) (fun h => h))) h0
    | true => exact ahead1_b (9 - 1) _ _ _ xs B d m l W (by rw [HN.out]; exact hml) (by rw [HN.out]; exact h5) J Jx (fun pre A A' h hb => hJ pre A A' none h (grown_of_below' hb) (fun r e => by cases e)) hJR (fun pre x W1 hj hp => (yield_any' (hY pre x W1 hj hp)).mono (fun e w' hr => hr.imp (fun h => ⟨h.1, h.2.1⟩) (fun h => h))) h0
  case hAx =>
    rintro x a' A A' ⟨Bx, hBx, hz, hbx, ha⟩ hg
    exact ⟨Bx, hBx, row4_kept hz hg (by simp; omega), hbx.kept hg (by simp; omega), ha⟩
  case hassign =>
    intro l pre x W K hi hsz hK
    obtain ⟨⟨xk, xv, xd, xq⟩, xb⟩ := x
    simp only [encW]
    gi_wp2
    refine hK _ _ ((World.grownBy_alloc W _ none).trans (World.grownBy_alloc _ _ none)) ⟨W.heap.size, hsz, (heap_alloc_new W (.cells #[.string xk, .string xv, .bool xd, .int .i64 xq] 34) |> fun h => (Below.heap_alloc _ _ _ (by simp)).trans h), ?_, rfl⟩
    have := Boxed.new (W.alloc (.cells #[.string xk, .string xv, .bool xd, .int .i64 xq] 34)) 26 (.int .i64 (xb : Int))
    rwa [World.size_alloc] at this
  case hbody =>
    rintro l pre x a' W hpre ⟨v, ha, b1, b2, b3, b4, ho, hb, hl⟩ hsz ⟨Bx, hBx, hz, hbx, rfl⟩
    obtain ⟨hpa, hpt, hpx⟩ := ahL_pre hpre
    have hpl : x.2 = plcW m back (pre.length + 1) := by rw [hpx]; exact plc_next hpa
    obtain ⟨A9, c9, rfl, hcap, hnil⟩ := own_cap ho
    have g4 := b4.cell
    have g3 := b3.cell
    have hn1 := HNN.out
    have hs2 := HS2.out
    have hs3 := HS3.out
    have hbd := HBD.out
    by_cases hlen : pre.length = most
    · have e1 : ((pre.length : Int) == (most : Int)) = true := by rw [beq_iff_eq]; omega
      have HFIN : Hid (Two w4.heap.size W W ∧ TkX w w4.heap.size most B n d m back w2.heap.size (w2.heap.size + 1) w3.heap.size (w3.heap.size + 1) Bd (.exit 0) (pre ++ [x]) W) := Lib.hid ⟨⟨Nat.le_refl _, rfl, rfl⟩, rfl, pre, x, rfl, hlen, _, ha, b1, b2, b3, b4, ho, hb, hl⟩
      clear ha b1 b2 b3 b4 ho hb hz hbx hpre hpa hpt hpx hpl hlen hN hn1 hs2 hs3 hbd hcap hnil
      gi_wp2_with fail
      simp only [roundEnd]
      exact HFIN.out
    · have e1 : ((pre.length : Int) == (most : Int)) = false := by rw [beq_eq_false_iff_ne]; omega
      have hlt : pre.length < most := by omega
      obtain ⟨i0, hi, hz0, hz1, hz2⟩ := info_parts infoE
      obtain ⟨⟨xk, xv, xd, xq⟩, xb⟩ := x
      obtain ⟨v', w', hr, ho', hg, _, _⟩ := run_append_own_at (P := Try.prog) (W.alloc (.cells #[.string xk, .string xv, .bool xd, .int .i64 xq] 34)).drew (w4.heap.size + 3) 22 22 34 i0 (.agg #[.string ⟨#[]⟩, .string ⟨#[]⟩, .bool false, .int .i64 0]) 4 48 Try.underlying22 hi hz0 hz1 hz2 rfl (by decide) (.slice A9 pre.length c9) pre.length (cellsE (pre.map (·.1))) (own_drew (ho.alloc _)) ⟨W.heap.size, 0, none⟩ 1 1 [.string xk, .string xv, .bool xd, .int .i64 xq] rfl (new4 W (xk, xv, xd, xq)) (by simp [Value.oneCell']) (by unfold maxLen; omega) (by omega) (by show _ ≤ (W.alloc _).heap.size; simp; omega)
      obtain ⟨g9, cap9, rfl⟩ := ownsRow_succ ho'
      have hgr : W.grownBy w' (Value.slice A9 pre.length c9).ownBlock := (grown_drew (World.grownBy_alloc W (.cells #[.string xk, .string xv, .bool xd, .int .i64 xq] 34) _)).trans hg
      have HFIN := Lib.hid (tk_fin (x := ((xk, xv, xd, xq), xb)) hn1 (by omega) (by omega) hsz ha b1 b2 b3 b4 ho hb hlt hpl hgr ho')
      have hrow : ∀ r, (Value.slice A9 pre.length c9).ownBlock = some r → w4.heap.size + 3 ≤ r := fun r e => (ho.lt r e).1
      have k4 : Boxed w' (w2.heap.size + 1) 22 (.slice A9 pre.length c9) := b4.kept hgr (fun e => by have := hrow _ e.symm; omega)
      have k1 : Boxed w' (w.heap.size + 1) 26 (.int .i64 ((plcW m back pre.length : Nat) : Int)) := b1.kept hgr (fun e => by have := hrow _ e.symm; omega)
      have kx : Boxed w' (Bx + 1) 26 (.int .i64 (xb : Int)) := hbx.kept hgr (hbx.not_row (by decide) ho)
      have p0 := hz.c0
      have p1 := hz.c1
      have p2 := hz.c2
      have p3 := hz.c3
      have p4 := hbx.cell
      have q1 := k4.cell
      have q2 := k4.frozen
      have q3 := k1.cell
      have q4 := k1.frozen
      have q5 := kx.cell
      simp only at p0 p1 p2 p3 p4
      have l1 := b4.lt
      have l2 := b1.lt
      have l3 := hbx.lt
      have l4 : Bx < W.heap.size := by omega
      have m1 : ¬ (w2.heap.size + 1 = w.heap.size + 1) := by omega
      have m2 : ¬ (w.heap.size + 1 = w2.heap.size + 1) := by omega
      have m3 : ¬ (w2.heap.size = w.heap.size) := by omega
      have m4 : ¬ (w.heap.size = w2.heap.size) := by omega
      have m5 : ¬ (Bx = w2.heap.size) := by omega
      have m6 : ¬ (w2.heap.size = Bx) := by omega
      have m7 : ¬ (Bx + 1 = w2.heap.size + 1) := by omega
      have m8 : ¬ (w2.heap.size + 1 = Bx + 1) := by omega
      have hmo : Try.prog.follows .mixedOrders = true := by kernel_rfl
      clear ha b1 b2 b3 b4 hb hz hbx hpre hpa hpt hpx hpl hlen hN hn1 hs2 hs3 hbd hcap hnil ho hg ho' hgr hrow k4 k1 kx hi hz0 hz1 hz2 hlt hl
      obtain ⟨ln, hln⟩ : ∃ ln, pre.length = ln := ⟨_, rfl⟩
      rw [hln] at g4 e1 hr q1 q3 HFIN
      obtain ⟨pl, hpl⟩ : ∃ pl : Int, ((plcW m back ln : Nat) : Int) = pl := ⟨_, rfl⟩
      rw [hpl] at q3
      clear hln hpl
      gi_wp2_with fail
      refine wpIn_region_any (by assumption) ?_
      change wpAnyIn _ _ _ _ _ _ _ _ _ (World.drew _)
      repeat' (first
        | refine wpAnyIn_done (by decide +kernel) ?_ _
        | refine wpAnyIn_ready (rs := [0, 1, 4]) (by decide +kernel) (by simp) ?_
        | refine wpAnyIn_ready (rs := [1, 4]) (by decide +kernel) (by simp) ?_
        | refine wpAnyIn_ready (rs := [0, 1]) (by decide +kernel) (by simp) ?_
        | refine wpAnyIn_ready (rs := [0, 2, 4]) (by decide +kernel) (by simp) ?_
        | refine wpAnyIn_ready (rs := [0, 4]) (by decide +kernel) (by simp) ?_
        | refine wpAnyIn_ready (rs := [0, 2]) (by decide +kernel) (by simp) ?_
        | refine wpAnyIn_ready (rs := [2, 4]) (by decide +kernel) (by simp) ?_
        | refine wpAnyIn_ready (rs := [3, 4]) (by decide +kernel) (by simp) ?_
        | refine wpAnyIn_ready (rs := [4, 5]) (by decide +kernel) (by simp) ?_
        | refine wpAnyIn_ready (rs := [0]) (by decide +kernel) (by simp) ?_
        | refine wpAnyIn_ready (rs := [1]) (by decide +kernel) (by simp) ?_
        | refine wpAnyIn_ready (rs := [2]) (by decide +kernel) (by simp) ?_
        | refine wpAnyIn_ready (rs := [3]) (by decide +kernel) (by simp) ?_
        | refine wpAnyIn_ready (rs := [4]) (by decide +kernel) (by simp) ?_
        | refine wpAnyIn_ready (rs := [5]) (by decide +kernel) (by simp) ?_
        | refine wpAnyIn_ready (rs := [6]) (by decide +kernel) (by simp) ?_
        | exact AllReadyIn.nil
        | (refine AllReadyIn.cons (i := 3) rfl (fun K hK => ?_) ?_; (refine step_append_inR rfl (.tmp 44) (.tmp 46) rfl rfl rfl hr (fun c hc => by cases hc) ?_; go_simp; refine hK _ _ ?_; clear hK K))
        | (refine AllReadyIn.cons rfl (fun K hK => ?_) ?_; (go_simp; refine hK _ _ ?_; clear hK K)))
      all_goals
        gi_wp2_with fail
        simp only [roundEnd]
        exact HFIN.out
  case hdone =>
    rintro D W hD1 hD2 ⟨v, ha, b1, b2, b3, b4, ho, hb, hl⟩ hK
    obtain ⟨A9, c9, rfl, hcap, hnil⟩ := own_cap ho
    have HK := Lib.hid (fun z => tk_end (most := most) (n := n) (d := d) (m := m) (A := B) (back := back) (Bm := w2.heap.size) (Bt := w2.heap.size + 1) (Bl := w3.heap.size) (Bw := w3.heap.size + 1) (Bd := Bd) ⟨hD1, hD2⟩ HNN.out.2.2.2.2.2 b2 ho hb hK z)
    have g1 := b1.cell
    have g2 := b2.cell
    have z2 := b2.frozen
    have g4 := b4.cell
    have HCAP := Lib.hid hcap
    have HNIL := Lib.hid hnil
    have HEND : Hid (takE id xs m c = ((ahL xs m back).map (·.1), ((plcW m back (ahL xs m back).length : Nat) : Int), 0)) := Lib.hid (by rw [HE.out, HT.out]; rw [ahL_length] at hl; rw [show min most (ahN xs.length m back) = (ahL xs m back).length by rw [ahL_length]; omega, List.take_of_length_le (by rw [ahL_length]; exact hl)])
    obtain ⟨ln, hln⟩ : ∃ ln, (ahL xs m back).length = ln := ⟨_, rfl⟩
    rw [hln] at g1 g4 HCAP HEND
    have hln2 : Hid (((ahL xs m back).map (·.1)).length = ln) := Lib.hid (by rw [List.length_map, hln])
    clear ha b1 b2 b3 b4 ho hb hl hK hcap hnil hln
    have hmo : Try.prog.follows .mixedOrders = true := by kernel_rfl
    obtain ⟨pl, hpl⟩ : ∃ pl : Int, ((plcW m back ln : Nat) : Int) = pl := ⟨_, rfl⟩
    rw [hpl] at g1 HEND
    clear hpl
    unfold TakOut
    gi_wp2_with fail
    gi_region
    all_goals
      gi_wp2_with fail
      obtain ⟨k1, k2, k3, k4⟩ := HK.out (.int .i64 pl)
      refine ⟨by simp, .inl ⟨_, _, rfl, run_takeDeferred k1, ?_⟩⟩
      refine ⟨.tuple #[.slice A9 ln c9, .agg #[.int .i64 pl], .int .i64 0], ?_, ⟨A9, c9, by rw [HEND.out]; simp only []; rw [hln2.out], by rw [HEND.out]; exact k3, by rw [HEND.out]; simp only []; rw [hln2.out]; exact HCAP.out, HNIL.out, k4⟩⟩
      simp [results, Try.f27, go_sem, k2]

  case hstop =>
    rintro D c' pre W hD1 hD2 hpre ⟨rfl, p', x, rfl, hpm, v, ha, b1, b2, b3, b4, ho, hb, hl⟩ hK
    obtain ⟨hpa, hpt, hpx⟩ := ahL_pre hpre
    obtain ⟨A9, c9, rfl, hcap, hnil⟩ := own_cap ho
    have HK := Lib.hid (fun z => tk_end (most := most) (n := n) (d := d) (m := m) (A := B) (back := back) (Bm := w2.heap.size) (Bt := w2.heap.size + 1) (Bl := w3.heap.size) (Bw := w3.heap.size + 1) (Bd := Bd) ⟨hD1, hD2⟩ HNN.out.2.2.2.2.2 b2 ho hb hK z)
    have g1 := b1.cell
    have g2 := b2.cell
    have z2 := b2.frozen
    have g4 := b4.cell
    have HCAP := Lib.hid hcap
    have HNIL := Lib.hid hnil
    have HEND : Hid (takE id xs m c = (p'.map (·.1), ((plcW m back p'.length : Nat) : Int), 0)) := Lib.hid (by rw [HE.out, HT.out]; rw [show min most (ahN xs.length m back) = p'.length by omega, ← hpm, ← hpt])
    obtain ⟨ln, hln⟩ : ∃ ln, p'.length = ln := ⟨_, rfl⟩
    rw [hln] at g1 g4 HCAP HEND
    have hln2 : Hid ((p'.map (·.1)).length = ln) := Lib.hid (by rw [List.length_map, hln])
    clear hpre hpa hpt hpx hpm
    clear ha b1 b2 b3 b4 ho hb hl hK hcap hnil hln
    have hmo : Try.prog.follows .mixedOrders = true := by kernel_rfl
    obtain ⟨pl, hpl⟩ : ∃ pl : Int, ((plcW m back ln : Nat) : Int) = pl := ⟨_, rfl⟩
    rw [hpl] at g1 HEND
    clear hpl
    unfold TakOut
    gi_wp2_with fail
    gi_region
    all_goals
      gi_wp2_with fail
      obtain ⟨k1, k2, k3, k4⟩ := HK.out (.int .i64 pl)
      refine ⟨by simp, .inl ⟨_, _, rfl, run_takeDeferred k1, ?_⟩⟩
      refine ⟨.tuple #[.slice A9 ln c9, .agg #[.int .i64 pl], .int .i64 0], ?_, ⟨A9, c9, by rw [HEND.out]; simp only []; rw [hln2.out], by rw [HEND.out]; exact k3, by rw [HEND.out]; simp only []; rw [hln2.out]; exact HCAP.out, HNIL.out, k4⟩⟩
      simp [results, Try.f27, go_sem, k2]

end Go.Proofs.Yticdechdgpfdfaa.KK
