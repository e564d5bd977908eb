/-
  Merges: All.
-/
import Derived.Test.YtebjhjmlpodkgaaPq
import Derived.Test.YtebjhjmlpodkgaaPp
namespace Go.Proofs.Ytebjhjmlpodkgaa.KK
open Go.ChangeShapes Go.WideShapes Go.ChangeAt Go.RowKit Go.Proofs
attribute [local go_sem] Oper.semAt_some

def runs_of (S : List St) : List Int := S.map fun x => (x.2.1 : Int)
def ents_of (S : List St) : List El.En := S.map (·.1)
theorem runs_snoc (S : List St) (x : St) : runs_of (S ++ [x]) = runs_of S ++ [(x.2.1 : Int)] := by simp [runs_of]
theorem ents_snoc (S : List St) (x : St) : ents_of (S ++ [x]) = ents_of S ++ [x.1] := by simp [ents_of]
theorem IsAt.of_own {w : World} {base n : Nat} {A : Option Addr} {c : Nat} {ys : List Int} (h : w.ownsRow base 3 1 (.slice A n c) n (intsV ys)) : IsAt w A ys := by
  rcases h.2 with ⟨h1, h2⟩ | ⟨g, cap, cur, he, h1, h2, h3⟩
  · have := h.1; rw [h2, intsV_len] at this; exact .inl (List.length_eq_zero_iff.1 (by omega))
  · injection he with e1 _ e3
    subst e1 e3
    exact (CR.of_own h (Array.getElem?_eq_some_iff.1 h2).1).is
theorem RdOk.lts {w : World} {A K L R : Option Addr} {rs : List Rn} {a : List Int} (h : RdOk w A K L R rs a) (g : Gd (ess rs) a) :
    (∀ b, A = some b → b.block < w.heap.size) ∧ (∀ b, K = some b → b.block < w.heap.size) ∧ (∀ b, L = some b → b.block < w.heap.size) ∧ (∀ b, R = some b → b.block < w.heap.size) ∧ ∀ r ∈ rs, r.2.2 ≠ [] → ∀ b, r.1 = some b → b.block < w.heap.size := by
  have h1 := g.len1
  have h2 := g.at_.1
  have h3 := g.len
  have h4 : (loL (nks (ess rs) a)).length = (nks (ess rs) a).length := loL_len _
  rw [ess_len] at h2 h3
  refine ⟨?_, ?_, ?_, ?_, ?_⟩
  · rcases h.ats with e | ⟨b, o, rfl, hb, _⟩
    · rw [e] at h2; simp at h2; omega
    · intro x e; cases e; exact hb
  · rcases h.keys with e | ⟨b, o, rfl, hb, _⟩
    · rw [e] at h3; simp at h3; omega
    · intro x e; cases e; exact hb
  · rcases h.lose with e | ⟨b, o, rfl, hb, _⟩
    · rw [e] at h4; simp at h4; omega
    · intro x e; cases e; exact hb
  · rcases h.runs with e | ⟨b, o, rfl, hb, _⟩
    · rw [e] at h1; simp at h1
    · intro x e; cases e; exact hb
  · rcases h.runs with e | ⟨b, o, rfl, hb, hh⟩
    · rw [e] at h1; simp at h1
    · intro r hr hne x e
      obtain ⟨i, hi, rfl⟩ := List.getElem_of_mem hr
      exact (hh i hi).2.lt hne x e
theorem lit4 {w : World} {g : Nat} {t : TypeId} {f : Nat × Nat} {a b c d : Value} (h : w.heap[g]? = some (.cells #[a, b, c, d] t f)) : ∀ j u, [a, b, c, d][j]? = some u → w.cell? ((⟨g, 0, none⟩ : Addr).add j) = some u := by
  intro j u hj
  rw [add_at']
  match j, hj with
  | 0, hj | 1, hj | 2, hj | 3, hj => simp at hj; subst hj; simp [World.cell?, h]
  | j + 4, hj => simp at hj
theorem lit1 {w : World} {g : Nat} {t : TypeId} {f : Nat × Nat} {a : Value} (h : w.heap[g]? = some (.cells #[a] t f)) : ∀ j u, [a][j]? = some u → w.cell? ((⟨g, 0, none⟩ : Addr).add j) = some u := by
  intro j u hj
  rw [add_at']
  match j, hj with
  | 0, hj => simp at hj; subst hj; simp [World.cell?, h]
  | j + 1, hj => simp at hj
theorem own_cap' {w : World} {base e size n : Nat} {v : Value} {xs : List Value} (h : w.ownsRow base e size v n xs) : ∃ A c, v = .slice A n c ∧ (∀ a, A = some a → base ≤ a.block) ∧ n ≤ c ∧ (A = none → c = 0) := by
  rcases h.2 with ⟨rfl, h1⟩ | ⟨g, cap, cur, hv, hb, _, h5, _⟩
  · exact ⟨none, 0, by rw [h1], (fun a e => by cases e), by omega, fun _ => rfl⟩
  · exact ⟨_, _, hv, (fun a e => by cases e; exact hb), h5, fun e => by cases e⟩
/-- the results of All between two rounds -/
def AlI (w : World) (N : Nat) (pre : List St) (W : World) : Prop :=
  ∃ v u, Rw1 W w.heap.size 34 v ∧ Rw1 W (w.heap.size + 1) 25 u ∧ W.ownsRow (N + 2) 45 4 v pre.length (cellsE (ents_of pre)) ∧ W.ownsRow (N + 2) 3 1 u pre.length (intsV (runs_of pre)) ∧ Below w.heap.size w W
/-- the blocks that a round may touch -/
def AlO (b N : Nat) (W : World) (k : Nat) : Prop := k = N ∨ k = N + 1 ∨ k = b ∨ k = b + 1 ∨ (∃ v, W.cell? ⟨b, 0, none⟩ = some v ∧ v.ownBlock = some k) ∨ ∃ u, W.cell? ⟨b + 1, 0, none⟩ = some u ∧ u.ownBlock = some k
theorem AlO.of {b N k : Nat} {W W' : World} (h : AlO b N W' k) (h1 : W'.heap[b]? = W.heap[b]?) (h2 : W'.heap[b + 1]? = W.heap[b + 1]?) : AlO b N W k := by
  rcases h with h | h | h | h | ⟨v, h, g⟩ | ⟨u, h, g⟩
  · exact .inl h
  · exact .inr (.inl h)
  · exact .inr (.inr (.inl h))
  · exact .inr (.inr (.inr (.inl h)))
  · exact .inr (.inr (.inr (.inr (.inl ⟨v, by rw [← h]; simp [World.cell?, h1], g⟩))))
  · exact .inr (.inr (.inr (.inr (.inr ⟨u, by rw [← h]; simp [World.cell?, h2], g⟩))))
theorem AlI.kept {w A A' : World} {N : Nat} {pre : List St} {row : Option Nat} (h : AlI w N pre A) (hN : w.heap.size + 2 ≤ N) (hg : A.grownBy A' row) (hr : ∀ r, row = some r → N ≤ r ∧ r ≤ N + 1) : AlI w N pre A' := by
  obtain ⟨v, u, h1, h2, h3, h4, h5⟩ := h
  refine ⟨v, u, h1.chg (cgr hg) (fun e => by have := hr _ e.symm; omega), h2.chg (cgr hg) (fun e => by have := hr _ e.symm; omega), own_at h3 (fun r cur e hc => ?_), own_at h4 (fun r cur e hc => ?_), h5.grown hg h5.size (fun k e => by have := hr k e; omega)⟩
  · exact hg.block _ (Array.getElem?_eq_some_iff.1 hc).1 (fun e' => by have := hr _ e'.symm; have := (own_ty h3 e).1; omega)
  · exact hg.block _ (Array.getElem?_eq_some_iff.1 hc).1 (fun e' => by have := hr _ e'.symm; have := (own_ty h4 e).1; omega)
/-- what holds of every world in which the iterator goes on -/
def AlR (w : World) (N : Nat) (A : World) : Prop := N + 2 ≤ A.heap.size ∧ ∃ v u, A.cell? ⟨w.heap.size, 0, none⟩ = some v ∧ A.cell? ⟨w.heap.size + 1, 0, none⟩ = some u ∧ (∀ r, v.ownBlock = some r → r < A.heap.size) ∧ ∀ r, u.ownBlock = some r → r < A.heap.size
theorem AlI.rest {w A : World} {N : Nat} {pre : List St} (h : AlI w N pre A) (hs : N + 2 ≤ A.heap.size) : AlR w N A := by
  obtain ⟨v, u, h1, h2, h3, h4, h5⟩ := h
  exact ⟨hs, v, u, h1.c0, h2.c0, fun r e => let ⟨_, _, hc⟩ := own_ty h3 e; (Array.getElem?_eq_some_iff.1 hc).1, fun r e => let ⟨_, _, hc⟩ := own_ty h4 e; (Array.getElem?_eq_some_iff.1 hc).1⟩
theorem AlR.lt {w A : World} {N : Nat} (h : AlR w N A) (hN : w.heap.size + 2 ≤ N) : ∀ k, AlO w.heap.size N A k → k < A.heap.size := by
  obtain ⟨hs, v, u, h1, h2, h3, h4⟩ := h
  rintro k (e | e | e | e | ⟨v', h, g⟩ | ⟨u', h, g⟩)
  · omega
  · omega
  · omega
  · omega
  · rw [h1] at h; injection h with h; subst h; exact h3 k g
  · rw [h2] at h; injection h with h; subst h; exact h4 k g
theorem AlO.kpt {w A A' : World} {N : Nat} {row : Option Nat} (hN : w.heap.size + 2 ≤ N) (hg : A.grownBy A' row) (hs : N + 2 ≤ A.heap.size) (hr : ∀ r, row = some r → r = N + 1) : Kpt (AlO w.heap.size N) A A' :=
  ⟨⟨hg.os, hg.tape, hg.output, hg.size, fun k hk hn => hg.block k hk (fun e => hn (.inr (.inl (hr k e.symm))))⟩,
   fun k _ hn h => hn (h.of (hg.block _ (by omega) (fun e => by have := hr _ e.symm; omega)) (hg.block _ (by omega) (fun e => by have := hr _ e.symm; omega)))⟩
/-- the frame behind the assignment -/
def AlA (N : Nat) (F : Value → Value → Value → Act) (x : St) (a' : Act) (W : World) : Prop :=
  ∃ (B : Nat) (q20 : Value), N + 2 ≤ B ∧ Rw5 W B 91 (.string x.1.1) (.string x.1.2.1) (.bool x.1.2.2.1) (.int .i64 x.1.2.2.2) (.int .i64 (x.2.1 : Int)) ∧ a' = F (.pointer (some ⟨B, 0, none⟩)) (nxtV x) q20
/-- what All answers of runs with nothing wrong -/
def AllOut (rs : List Rn) (w : World) (e : Ending) (w' : World) : Prop :=
  ∃ A B c d, e = .returned (.tuple #[.slice A (mS (ess rs) (zerosA rs.length)).length c, .slice B (mS (ess rs) (zerosA rs.length)).length d, .int .i64 0]) ∧ EsAt w' A (ents_of (mS (ess rs) (zerosA rs.length))) ∧ IsAt w' B (runs_of (mS (ess rs) (zerosA rs.length))) ∧
    (mS (ess rs) (zerosA rs.length)).length ≤ c ∧ (A = none → c = 0) ∧ (∀ a, A = some a → w.heap.size ≤ a.block) ∧ (∀ a, B = some a → w.heap.size ≤ a.block) ∧ Below w.heap.size w w'
theorem al_round {w W w' : World} {N m r Bx : Nat} {pre : List St} {x : St} {v u : Value} {q0 q1 q2 q3 q4 q5 q6 q7 q8 q9 : Value} (hm : pre.length = m) (hr : x.2.1 = r) (hN : w.heap.size + 2 ≤ N) (hs : N + 2 ≤ W.heap.size) (h1 : Rw1 W w.heap.size 34 v) (h2 : Rw1 W (w.heap.size + 1) 25 u) (h3 : W.ownsRow (N + 2) 45 4 v m (cellsE (ents_of pre))) (h4 : W.ownsRow (N + 2) 3 1 u m (intsV (runs_of pre))) (h5 : Below w.heap.size w W)
    (h : AQ W.drew w.heap.size (w.heap.size + 1) Bx (N + 2) m v u (ents_of pre) (runs_of pre) x.1 r true true true true true true true true true true true true q0 q1 q2 q3 q4 q5 q6 q7 q8 q9 w') :
    Two N W w' ∧ Kpt (AlO w.heap.size N) W w' ∧ AlI w N (pre ++ [x]) w' := by
  have hb : ∀ k, k < W.heap.size → ¬ (k = w.heap.size ∨ k = w.heap.size + 1 ∨ some k = v.ownBlock ∨ some k = u.ownBlock) → w'.heap[k]? = W.heap[k]? := h.chg.block
  have hsz : W.heap.size ≤ w'.heap.size := h.chg.size
  have hcW : Chg (fun k => k = w.heap.size ∨ k = w.heap.size + 1 ∨ some k = v.ownBlock ∨ some k = u.ownBlock) W w' := ⟨h.chg.os, h.chg.tape, h.chg.output, h.chg.size, h.chg.block⟩
  have nov : ∀ k, k < N + 2 → some k ≠ v.ownBlock := fun k hk e => by have := (own_ty h3 e.symm).1; omega
  have nou : ∀ k, k < N + 2 → some k ≠ u.ownBlock := fun k hk e => by have := (own_ty h4 e.symm).1; omega
  refine ⟨⟨hsz, hb N (by omega) (by rintro (e | e | e | e); omega; omega; exact nov N (by omega) e; exact nou N (by omega) e), hb (N + 1) (by omega) (by rintro (e | e | e | e); omega; omega; exact nov _ (by omega) e; exact nou _ (by omega) e)⟩, ⟨⟨h.chg.os, h.chg.tape, h.chg.output, hsz, fun k hk hn => hb k hk ?_⟩, ?_⟩, ?_⟩
  · rintro (e | e | e | e)
    · exact hn (.inr (.inr (.inl e)))
    · exact hn (.inr (.inr (.inr (.inl e))))
    · exact hn (.inr (.inr (.inr (.inr (.inl ⟨v, h1.c0, e.symm⟩)))))
    · exact hn (.inr (.inr (.inr (.inr (.inr ⟨u, h2.c0, e.symm⟩)))))
  · rintro k hk hn (e | e | e | e | ⟨v', e, g⟩ | ⟨u', e, g⟩)
    · exact hn (.inl e)
    · exact hn (.inr (.inl e))
    · exact hn (.inr (.inr (.inl e)))
    · exact hn (.inr (.inr (.inr (.inl e))))
    · have c : w'.cell? ⟨w.heap.size, 0, none⟩ = some q4 := Rw1.c0 h.boxA
      rw [c] at e; injection e with e; subst e
      rcases h.newA rfl with e | ⟨g', e, hg'⟩
      · rw [e] at g; exact hn (.inr (.inr (.inr (.inr (.inl ⟨v, h1.c0, g⟩)))))
      · rw [e] at g; injection g with g; subst g; exact absurd hk (Nat.not_lt.2 hg')
    · have c : w'.cell? ⟨w.heap.size + 1, 0, none⟩ = some q9 := Rw1.c0 h.boxB
      rw [c] at e; injection e with e; subst e
      rcases h.newB rfl with e | ⟨g', e, hg'⟩
      · rw [e] at g; exact hn (.inr (.inr (.inr (.inr (.inr ⟨u, h2.c0, g⟩)))))
      · rw [e] at g; injection g with g; subst g; exact absurd hk (Nat.not_lt.2 hg')
  · refine ⟨q4, q9, h.boxA, h.boxB, ?_, ?_, h5.trans (hcW.below (fun k hk => ?_) h5.size)⟩
    · rw [List.length_append, ents_snoc, hm]; exact h.rowA
    · rw [List.length_append, runs_snoc, hm, hr]; exact h.rowB
    · rcases hk with e | e | e | e
      · omega
      · omega
      · have := (own_ty h3 e.symm).1; omega
      · have := (own_ty h4 e.symm).1; omega
theorem al_end {w W : World} {N D m : Nat} {xs : List El.En} {fs : List Int} {A9 A8 : Option Addr} {c9 c8 : Nat} (hN : w.heap.size + 2 ≤ N) (hD : N ≤ D ∧ D ≤ N + 1) (h1 : Rw1 W w.heap.size 34 (.slice A9 m c9)) (h2 : Rw1 W (w.heap.size + 1) 25 (.slice A8 m c8)) (h3 : W.ownsRow (N + 2) 45 4 (.slice A9 m c9) m (cellsE xs)) (h4 : W.ownsRow (N + 2) 3 1 (.slice A8 m c8) m (intsV fs)) (h5 : Below w.heap.size w W) (hK : W.heap[D]? = some (.deferred (some []))) {F : World} (hF : F = ((W.setCell ⟨w.heap.size, 0, none⟩ (.slice A9 m c9)).setCell ⟨w.heap.size + 1, 0, none⟩ (.slice A8 m c8)).drew) :
    F.heap[D]? = some (.deferred (some [])) ∧ (F.putObj D (.deferred none)).cell? ⟨w.heap.size, 0, none⟩ = some (.slice A9 m c9) ∧ (F.putObj D (.deferred none)).cell? ⟨w.heap.size + 1, 0, none⟩ = some (.slice A8 m c8) ∧ EsAt (F.putObj D (.deferred none)) A9 xs ∧ IsAt (F.putObj D (.deferred none)) A8 fs ∧ Below w.heap.size w (F.putObj D (.deferred none)) := by
  obtain ⟨X, hX⟩ : ∃ X, X = (W.setCell ⟨w.heap.size, 0, none⟩ (.slice A9 m c9)).setCell ⟨w.heap.size + 1, 0, none⟩ (.slice A8 m c8) := ⟨_, rfl⟩
  have ne1 : w.heap.size + 1 ≠ w.heap.size := by omega
  have k1 : Rw1 X w.heap.size 34 (.slice A9 m c9) := hX ▸ set_ty _ (h1.set _) (Ne.symm ne1)
  have k2' : Rw1 (W.setCell ⟨w.heap.size, 0, none⟩ (.slice A9 m c9)) (w.heap.size + 1) 25 (.slice A8 m c8) := set_ty _ h2 ne1
  have k2 : Rw1 X (w.heap.size + 1) 25 (.slice A8 m c8) := hX ▸ k2'.set _
  have k3 : X.ownsRow (N + 2) 45 4 (.slice A9 m c9) m (cellsE xs) := hX ▸ set_row _ (set_row _ h3 h1 (by decide)) k2' (by decide)
  have k4 : X.ownsRow (N + 2) 3 1 (.slice A8 m c8) m (intsV fs) := hX ▸ set_row _ (set_row _ h4 h1 (by decide)) k2' (by decide)
  have k5 : Below w.heap.size w X := hX ▸ (h5.setCell (p := ⟨w.heap.size, 0, none⟩) (Nat.le_refl _) _).setCell (p := ⟨w.heap.size + 1, 0, none⟩) (by simp) _
  have kK : X.heap[D]? = some (.deferred (some [])) := hX ▸ (Below.heap_setCell _ _ _ _ (by simp; omega)).trans ((Below.heap_setCell _ _ _ _ (by simp; omega)).trans hK)
  obtain rfl : F = X.drew := by rw [hF, hX]
  clear hX hF h1 h2 h3 h4 h5 hK k2'
  have hg : X.drew.grownBy (X.drew.putObj D (.deferred none)) (some D) := grownBy_putObj' _ _ _
  have hk : ∀ k, k ≠ D → (X.drew.putObj D (.deferred none)).heap[k]? = X.heap[k]? := fun k hk => World.putObj_heap_other (w := X.drew) (by omega)
  refine ⟨kK, ?_, ?_, ?_, ?_, ?_⟩
  · exact Rw1.c0 ((hk _ (by omega)).trans k1)
  · exact Rw1.c0 ((hk _ (by omega)).trans k2)
  · have e := k3.1
    rw [cellsE_len] at e
    obtain rfl : m = xs.length := by omega
    exact EsAt.of_own (own_at k3 fun r cur he hc => hk r (fun e' => by have := (own_ty k3 he).1; omega))
  · exact IsAt.of_own (own_at k4 fun r cur he hc => hk r (fun e' => by have := (own_ty k4 he).1; omega))
  · exact k5.drew.grown hg k5.size (fun k e => by cases e; omega)
set_option maxRecDepth 100000 in
set_option maxHeartbeats 8000000 in
theorem all_ok (R : Option Addr) (cr : Nat) (rs : List Rn) (w : World) (hf : RsAt w R rs) (hsr : SizedR rs) (hk : (runsE (ess rs)).2 = 0) :
    Calls Try.prog 17 #[.slice R rs.length cr] w (AllOut rs w) := by
  have hg := Gd.zeros hk
  have h1 := hg.len1
  have JC := Lib.hid (fun w' (hb : Below w.heap.size w w') => by have K := pRuns_any R cr rs w' (hf.below hb (Nat.le_refl _)) (by omega) hsr; rw [(runsE_ok hk).2.2.2] at K; exact K)
  have JS := Lib.hid (fun w' (hb : Below w.heap.size w w') => start_any R cr rs w' (hf.below hb (Nat.le_refl _)) hsr hk)
  have HF := Lib.hid hf
  obtain ⟨post, hpost⟩ : ∃ post, AllOut rs w = post := ⟨_, rfl⟩
  have HPOST := Lib.hid hpost
  rw [hpost]
  clear hpost
  obtain ⟨z, hz⟩ : ∃ z, zerosA rs.length = z := ⟨_, rfl⟩
  have HZ := Lib.hid hz
  rw [hz] at hg JS
  clear hz
  obtain ⟨n, hn⟩ : ∃ n, rs.length = n := ⟨_, rfl⟩
  have HN := Lib.hid hn
  rw [hn] at JC JS h1 ⊢
  have HG := Lib.hid hg
  have HSR := Lib.hid hsr
  have HL : Hid ((mS (ess rs) z).length ≤ 160000) := Lib.hid (by
    rw [hg.mS_len]
    have := left_le (rs := rs) (fun r hr => (list_ok ((runsE_ok hk).2.2.1 _ (by simp only [ess, List.mem_map]; exact ⟨_, hr, rfl⟩))).1) z
    have : rs.length * 5000 ≤ 32 * 5000 := Nat.mul_le_mul_right _ (by omega)
    omega)
  obtain ⟨p, hp⟩ : ∃ p, winA (ess rs) z = p := ⟨_, rfl⟩
  have HP := Lib.hid hp
  rw [hp] at JS
  clear hf hsr hk hg hn hp
  obtain ⟨w1, hw1⟩ : ∃ w1, (w.alloc (.cells #[.slice none 0 0] 34)).alloc (.cells #[.slice none 0 0] 25) = w1 := ⟨_, rfl⟩
  have HBA : Hid (Rw1 w1 w.heap.size 34 (.slice none 0 0)) := Lib.hid (hw1 ▸ hp2 w _ _)
  have HBB : Hid (Rw1 w1 (w.heap.size + 1) 25 (.slice none 0 0)) := Lib.hid (hw1 ▸ hp3 w _ _ rfl)
  have HB := Lib.hid (show Below w.heap.size w w1 from hw1 ▸ alloc2_below _ _ _)
  refine (callsIn_wide (n := 9)).1 ?_
  refine callsIn_of_wp_marks Try.func17 rfl trivial ?_
  simp only [Try.ntmps17, List.size_toArray, List.length_cons, List.length_nil, Nat.reduceAdd, Nat.reduceSub, Array.replicate_succ, Array.replicate_zero, List.push_toArray, List.append_toArray, List.nil_append, List.cons_append]
  gi_wp2_with fail
  refine ⟨trivial, ?_⟩
  refine (callsIn_wide.2 (JC.out _ HB.out)).mono ?_
  rintro e w2 ⟨rfl, hb⟩
  have HBA2 := Lib.hid (HBA.out.below hb (Nat.le_refl _))
  have HBB2 := Lib.hid (HBB.out.below hb (Nat.le_refl _))
  have HB2 := Lib.hid (eb_of HB.out hb (Nat.le_refl _))
  clear hb HBA HBB HB hw1
  gi_wp2_with fail
  refine ⟨trivial, ?_⟩
  refine (callsIn_wide.2 (JS.out _ HB2.out)).mono ?_
  rintro e w3 ⟨ab, kb, lb, ca, ck, cl, rfl, hrn⟩
  have HRN := Lib.hid hrn.ok
  have HRW := Lib.hid hrn.new
  have HW2 : Hid (w.heap.size + 2 ≤ w2.heap.size) := Lib.hid (by have := HBB2.out.lt; omega)
  have HBA3 := Lib.hid (HBA2.out.below hrn.below (Nat.le_refl _))
  have HBB3 := Lib.hid (HBB2.out.below hrn.below (Nat.le_refl _))
  have HB3 := Lib.hid (eb_of HB2.out hrn.below (Nat.le_refl _))
  clear hrn HBA2 HBB2 HB2
  gi_wp2_with fail
  refine ⟨trivial, ?_⟩
  refine (callsIn_wide.2 (rest_any (.slice (some ⟨ab, 0, none⟩) n ca) (.slice (some ⟨kb, 0, none⟩) n ck) (.slice (some ⟨lb, 0, none⟩) n cl) (.int .i64 (p : Int)) (.slice R n cr) w3)).mono ?_
  rintro e w4 ⟨rfl, hw4⟩
  have hb4 : Below w3.heap.size w3 w4 := hw4 ▸ alloc_below _ _
  have HBA4 := Lib.hid (HBA3.out.below hb4 (Nat.le_refl _))
  have HBB4 := Lib.hid (HBB3.out.below hb4 (Nat.le_refl _))
  have HRB := Lib.hid (show Rw5 w4 w3.heap.size 83 (.slice (some ⟨ab, 0, none⟩) n ca) (.slice (some ⟨kb, 0, none⟩) n ck) (.slice (some ⟨lb, 0, none⟩) n cl) (.int .i64 (p : Int)) (.slice R n cr) from hw4 ▸ heap_alloc_new w3 _)
  have HB4 := Lib.hid (eb_of HB3.out hb4 (Nat.le_refl _))
  have HRD4 := Lib.hid (HRN.out.below hb4 (Nat.le_refl _))
  have HRN3 := HRN
  clear hb4 hw4 HBA3 HBB3 HRN
  gi_wp2_with fail
  have hN : w.heap.size + 2 ≤ w4.heap.size ∧ w3.heap.size < w4.heap.size := ⟨by have := HBB4.out.lt; omega, HRB.out.lt⟩
  have HNN := Lib.hid hN
  refine range_ownV (n := 9) (ps := #[19, 20]) (gf := 78) (lb := #[.pointer (some ⟨w3.heap.size, 0, none⟩)]) ?hg (enters_of Try.func78 (by kernel_rfl) rfl)
    (encs := encR n R cr rs (AlO w.heap.size w4.heap.size)) ?hps (mS (ess rs) z) (Kpt (AlO w.heap.size w4.heap.size)) (AlI w w4.heap.size) (fun _ _ _ => False) (AlR w w4.heap.size) ?hIR
    ?hI ?hIx ?hKt ?hKb ?hKn ?h0 ?hseq (AlA w4.heap.size (fun q7 q19 q20 => { tmps := #[.slice R n cr, undef, .pointer (some ⟨w.heap.size, 0, none⟩), .pointer (some ⟨w.heap.size + 1, 0, none⟩), .int .i64 0, .int .i64 0, .int .i64 0, q7, .tuple #[.int .i64 0, .int .i64 0], .slice R n cr, .tuple #[.int .i64 0, .int .i64 0], .int .i64 0, .int .i64 0, .int .i64 0, .bool false, undef, .slice R n cr, .agg #[.slice (some ⟨ab, 0, none⟩) n ca, .slice (some ⟨kb, 0, none⟩) n ck, .slice (some ⟨lb, 0, none⟩) n cl, .int .i64 (p : Int), .slice R n cr], .func (.func 78) #[] #[.pointer (some ⟨w3.heap.size, 0, none⟩)], q19, q20, undef, undef, undef, undef, undef, undef, undef, undef, undef, undef, undef, undef], defers := [] })) ?hAx ?hassign ?hbody ?hdone ?hstop
  case hg => rfl
  case hps =>
    rintro x vs W ⟨A', K', L', ca', ck', cl', rfl, h⟩
    rfl
  case hIR => exact fun pre A h hs => h.rest hs
  case hI => exact fun pre B B' row h hg hr => h.kept hN.1 hg hr
  case hIx => exact fun _ _ _ _ _ h => h.elim
  case hKt => exact fun h g => Kpt.trans h g
  case hKb => exact fun B B' hg hs => AlO.kpt hN.1 hg hs (fun r e => by injection e with e; exact e.symm)
  case hKn => exact fun B B' hg hs => AlO.kpt hN.1 hg hs (fun r e => by cases e)
  case h0 => exact ⟨_, _, HBA4.out, HBB4.out, World.ownsRow_nil _ _ _ _, World.ownsRow_nil _ _ _ _, HB4.out⟩
  case hseq =>
    intro l J Jx W hsz hbl hJ hJR hY h0
    have hrd0 := HRD4.out.below hbl (Nat.le_refl _)
    have hrd : RdN (AlO w.heap.size w4.heap.size W) W (some ⟨ab, 0, none⟩) (some ⟨kb, 0, none⟩) (some ⟨lb, 0, none⟩) R rs z := by
      have hl := HRN3.out.lts HG.out
      have hno : ∀ k, (k < w.heap.size ∨ (w.heap.size + 2 ≤ k ∧ k < w4.heap.size)) → k < W.heap.size ∧ ¬ AlO w.heap.size w4.heap.size W k := by
        have c1 := (HBA4.out.below hbl (Nat.le_refl _)).c0
        have c2 := (HBB4.out.below hbl (Nat.le_refl _)).c0
        have h9 := HNN.out
        rintro k hk
        refine ⟨by omega, ?_⟩
        rintro (e | e | e | e | ⟨v, e, g⟩ | ⟨u, e, g⟩)
        · omega
        · omega
        · omega
        · omega
        · rw [c1] at e; injection e with e; subst e; cases g
        · rw [c2] at e; injection e with e; subst e; cases g
      have hw := HRW.out
      have hw2 := HW2.out
      have h34 : w3.heap.size < w4.heap.size := HNN.out.2
      have hlf : (∀ b, R = some b → b.block < w.heap.size) ∧ ∀ r ∈ rs, r.2.2 ≠ [] → ∀ b, r.1 = some b → b.block < w.heap.size := by
        rcases HF.out with e | ⟨b, o, rfl, hb, hh⟩
        · have := HN.out; rw [e] at this; simp at this; omega
        · refine ⟨fun x e => by cases e; exact hb, fun r hr hne x e => ?_⟩
          obtain ⟨i, hi, rfl⟩ := List.getElem_of_mem hr
          exact (hh i hi).2.lt hne x e
      refine ⟨hrd0, ?_, ?_, ?_, fun b e => hno _ (.inl (hlf.1 b e)), fun r hr hne b e => hno _ (.inl (hlf.2 r hr hne b e))⟩
      · intro b e; have := hl.1 b e; cases e; exact hno _ (.inr ⟨by simp only; omega, by simp only at this ⊢; omega⟩)
      · intro b e; have := hl.2.1 b e; cases e; exact hno _ (.inr ⟨by simp only; omega, by simp only at this ⊢; omega⟩)
      · intro b e; have := hl.2.2.1 b e; cases e; exact hno _ (.inr ⟨by simp only; omega, by simp only at this ⊢; omega⟩)
    have hrb := HRB.out.below hbl (Nat.le_refl _)
    rw [← HP.out] at hrb
    exact rest1_any (9 - 1) l w3.heap.size n (some ⟨ab, 0, none⟩) (some ⟨kb, 0, none⟩) (some ⟨lb, 0, none⟩) R ca ck cl cr rs z W HN.out HG.out HSR.out (AlO w.heap.size w4.heap.size) J Jx (fun pre B B' h hb => hJ pre B B' h (grown_of_below' hb))
      (fun pre B h k hk => (hJR pre B h).lt HNN.out.1 k hk) (fun pre B B' h hb k hk => hk.of (hb.block _ (by have := (hJR pre B h).1; omega)) (hb.block _ (by have := (hJR pre B h).1; omega))) (fun pre x vs W1 hj hp he => yield_any' (hY pre x vs W1 hj hp he)) h0 hrb hrd
  case hAx =>
    rintro x a' B B' ⟨Bx, q20, hBx, h1, ha⟩ hg
    exact ⟨Bx, q20, hBx, h1.chg (cgr hg) (by simp; omega), ha⟩
  case hassign =>
    rintro l pre x vs W Q hi ⟨A', K', L', ca', ck', cl', rfl, hrd, hgd⟩ hsz hQ
    obtain ⟨⟨xk, xv, xd, xq⟩, xr, xa⟩ := x
    simp only [nxtV]
    gi_wp2
    exact hQ _ _ (World.grownBy_alloc W _ none) ⟨W.heap.size, _, hsz, heap_alloc_new W _, rfl⟩
  case hbody =>
    rintro l pre x a' W hpre ⟨v, u, h1, h2, h3, h4, h5⟩ hsz ⟨Bx, q20, hBx, hx, rfl⟩
    obtain ⟨A9, c9, rfl, _⟩ := own_form h3
    obtain ⟨A8, c8, rfl, _⟩ := own_form h4
    obtain ⟨m, hm⟩ : ∃ m, pre.length = m := ⟨_, rfl⟩
    obtain ⟨⟨xk, xv, xd, xq⟩, r, xa⟩ := x
    have hml : m + 1 ≤ 160000 := by
      have h6 := hpre.length_le
      have h7 := HL.out
      rw [List.length_append, hm] at h6
      simp only [List.length_cons, List.length_nil] at h6
      omega
    rw [hm] at h1 h2 h3 h4
    have hst : AQ W.drew w.heap.size (w.heap.size + 1) Bx (w4.heap.size + 2) m (.slice A9 m c9) (.slice A8 m c8) (ents_of pre) (runs_of pre) (xk, xv, xd, xq) r false false false false false false false false false false false false undef undef undef undef undef undef undef undef undef undef W.drew :=
      ⟨Chg.refl _, h1, h2, h3, h4, (fun e => by cases e), (fun e => by cases e), (fun e => by cases e), (fun e => by cases e), hx, (fun e => by cases e), (fun e => by cases e), (fun e => by cases e), (fun e => by cases e), (fun e => by cases e), (fun e => by cases e), (fun e => by cases e), (fun e => by cases e)⟩
    have HFIN := Lib.hid (fun (q0 q1 q2 q3 q4 q5 q6 q7 q8 q9 : Value) (w' : World) (h : AQ W.drew w.heap.size (w.heap.size + 1) Bx (w4.heap.size + 2) m (.slice A9 m c9) (.slice A8 m c8) (ents_of pre) (runs_of pre) (xk, xv, xd, xq) r true true true true true true true true true true true true q0 q1 q2 q3 q4 q5 q6 q7 q8 q9 w') => al_round (x := ((xk, xv, xd, xq), r, xa)) hm rfl HNN.out.1 hsz h1 h2 h3 h4 h5 h)
    have HST := Lib.hid hst
    have hmo : Try.prog.follows .mixedOrders = true := by kernel_rfl
    obtain ⟨i0, hi0, hz0, hz1, hz2⟩ := info_parts infoE
    obtain ⟨j0, hj0, hy0, hy1, hy2⟩ := info_parts infoIn
    clear hst h1 h2 h3 h4 h5 hx hpre hm hN
    gi_wp2_with fail
    refine wpIn_region_any (by assumption) ?_
    change wpAnyIn _ _ _ _ _ _ _ _ _ (World.drew _)
    refine wpAnyIn_inv (fun L a w' => ∃ (b0 b1 b2 b3 b4 b5 b6 b7 b8 b9 b10 b11 : Bool) (q0 q1 q2 q3 q4 q5 q6 q7 q8 q9 : Value), L = #[b0, b1, b2, b3, b4, b5, b6, b7, b8, b9, b10, b11] ∧ a = { tmps := #[.slice R n cr, undef, .pointer (some ⟨w.heap.size, 0, none⟩), .pointer (some ⟨w.heap.size + 1, 0, none⟩), .int .i64 0, .int .i64 0, .int .i64 0, (.pointer (some ⟨Bx, 0, none⟩)), .tuple #[.int .i64 0, .int .i64 0], .slice R n cr, .tuple #[.int .i64 0, .int .i64 0], .int .i64 0, .int .i64 0, .int .i64 0, .bool false, undef, .slice R n cr, .agg #[.slice (some ⟨ab, 0, none⟩) n ca, .slice (some ⟨kb, 0, none⟩) n ck, .slice (some ⟨lb, 0, none⟩) n cl, .int .i64 (p : Int), .slice R n cr], .func (.func 78) #[] #[.pointer (some ⟨w3.heap.size, 0, none⟩)], (nxtV ((xk, xv, xd, xq), r, xa)), q20, q0, q1, q2, q3, q4, q5, q6, q7, q8, q9, undef, undef], defers := [] } ∧ AQ W.drew w.heap.size (w.heap.size + 1) Bx (w4.heap.size + 2) m (.slice A9 m c9) (.slice A8 m c8) (ents_of pre) (runs_of pre) (xk, xv, xd, xq) r b0 b1 b2 b3 b4 b5 b6 b7 b8 b9 b10 b11 q0 q1 q2 q3 q4 q5 q6 q7 q8 q9 w') ?step (by kernel_rfl) ?fin _ _ _ _ ⟨false, false, false, false, false, false, false, false, false, false, false, false, undef, undef, undef, undef, undef, undef, undef, undef, undef, undef, rfl, rfl, HST.out⟩ (by decide)
    case fin =>
      rintro L a w' ⟨b0, b1, b2, b3, b4, b5, b6, b7, b8, b9, b10, b11, q0, q1, q2, q3, q4, q5, q6, q7, q8, q9, rfl, rfl, h⟩ H
      obtain rfl : b0 = true := by simpa using H 0 (by decide)
      obtain rfl : b1 = true := by simpa using H 1 (by decide)
      obtain rfl : b2 = true := by simpa using H 2 (by decide)
      obtain rfl : b3 = true := by simpa using H 3 (by decide)
      obtain rfl : b4 = true := by simpa using H 4 (by decide)
      obtain rfl : b5 = true := by simpa using H 5 (by decide)
      obtain rfl : b6 = true := by simpa using H 6 (by decide)
      obtain rfl : b7 = true := by simpa using H 7 (by decide)
      obtain rfl : b8 = true := by simpa using H 8 (by decide)
      obtain rfl : b9 = true := by simpa using H 9 (by decide)
      obtain rfl : b10 = true := by simpa using H 10 (by decide)
      obtain rfl : b11 = true := by simpa using H 11 (by decide)
      simp only [roundEnd]
      exact HFIN.out _ _ _ _ _ _ _ _ _ _ _ h
    case step =>
      rintro L a w' ⟨b0, b1, b2, b3, b4, b5, b6, b7, b8, b9, b10, b11, q0, q1, q2, q3, q4, q5, q6, q7, q8, q9, rfl, rfl, h⟩ i hi
      have hlt : i < 12 := ready_lt hi
      have hf := (mem_ready.1 hi).1
      rcases (show i = 0 ∨ i = 1 ∨ i = 2 ∨ i = 3 ∨ i = 4 ∨ i = 5 ∨ i = 6 ∨ i = 7 ∨ i = 8 ∨ i = 9 ∨ i = 10 ∨ i = 11 by omega) with rfl | rfl | rfl | rfl | rfl | rfl | rfl | rfl | rfl | rfl | rfl | rfl
      · obtain rfl : b0 = false := by simpa using hf
        obtain rfl : b10 = false := by cases b10 with | false => rfl | true => exact absurd (h.oA rfl).1 (by simp)
        have c0 : w'.cell? ⟨w.heap.size, 0, none⟩ = some (.slice A9 m c9) := Rw1.c0 h.boxA
        refine wpOpIn_step (o := _) rfl (fun K hK => ?_)
        go_simp
        exact hK _ _ ⟨true, b1, b2, b3, b4, b5, b6, b7, b8, b9, false, b11, (.slice A9 m c9), q1, q2, q3, q4, q5, q6, q7, q8, q9, rfl, rfl, { h with t0 := fun _ => rfl, oA := fun e => by cases e }⟩
      · obtain rfl : b1 = false := by simpa using hf
        refine wpOpIn_step (o := _) rfl (fun K hK => ?_)
        go_simp
        exact hK _ _ ⟨b0, true, b2, b3, b4, b5, b6, b7, b8, b9, b10, b11, q0, (.pointer (some ⟨Bx, 0, none⟩)), q2, q3, q4, q5, q6, q7, q8, q9, rfl, rfl, { h with t1 := fun _ => rfl }⟩
      · obtain rfl : b2 = false := by simpa using hf
        obtain rfl : b1 = true := by simpa using dep_of hi 1 (by kernel_rfl)
        obtain rfl := h.t1 rfl
        have c0 := h.src.c0
        have c1 := h.src.c1
        have c2 := h.src.c2
        have c3 := h.src.c3
        refine wpOpIn_step (o := _) rfl (fun K hK => ?_)
        go_simp
        exact hK _ _ ⟨b0, true, true, b3, b4, b5, b6, b7, b8, b9, b10, b11, q0, (.pointer (some ⟨Bx, 0, none⟩)), (.agg #[.string xk, .string xv, .bool xd, .int .i64 xq]), q3, q4, q5, q6, q7, q8, q9, rfl, rfl, { h with t2 := fun _ => rfl }⟩
      · obtain rfl : b3 = false := by simpa using hf
        obtain rfl : b2 = true := by simpa using dep_of hi 2 (by kernel_rfl)
        obtain rfl := h.t2 rfl
        refine wpOpIn_step (o := _) rfl (fun K hK => ?_)
        go_simp
        have hz := h.alloc (.cells #[.string xk, .string xv, .bool xd, .int .i64 xq] 45)
        exact hK _ _ ⟨b0, b1, true, true, b4, b5, b6, b7, b8, b9, b10, b11, q0, q1, (.agg #[.string xk, .string xv, .bool xd, .int .i64 xq]), (.slice (some ⟨w'.heap.size, 0, none⟩) 1 1), q4, q5, q6, q7, q8, q9, rfl, rfl, { hz with litA := fun _ _ => ⟨_, rfl, heap_alloc_new _ _⟩ }⟩
      · obtain rfl : b4 = false := by simpa using hf
        obtain rfl : b0 = true := by simpa using dep_of hi 0 (by kernel_rfl)
        obtain rfl : b3 = true := by simpa using dep_of hi 3 (by kernel_rfl)
        obtain rfl := h.t0 rfl
        obtain rfl : b10 = false := by cases b10 with | false => rfl | true => exact absurd (h.oA rfl).2 (by simp)
        obtain ⟨g, rfl, hg⟩ := h.litA rfl rfl
        have hv : w'.ownsRow (w4.heap.size + 2) 45 4 (.slice A9 m c9) m (cellsE (ents_of pre)) := h.rowA
        have hsw : w4.heap.size + 2 ≤ w'.heap.size := Nat.le_trans hsz h.chg.size
        obtain ⟨v', w5, hr, ho', hg5, _, hown⟩ := run_append_own_at (P := Try.prog) (w := w') (w4.heap.size + 2) 34 34 45 i0 (.agg #[.string ⟨#[]⟩, .string ⟨#[]⟩, .bool false, .int .i64 0]) 4 48 Try.underlying34 hi0 hz0 hz1 hz2 rfl (by decide) (.slice A9 m c9) m (cellsE (ents_of pre)) hv ⟨g, 0, none⟩ 1 1 [.string xk, .string xv, .bool xd, .int .i64 xq] rfl (lit4 hg) (by intro y hy; simp only [List.mem_cons, List.not_mem_nil, or_false] at hy; rcases hy with rfl | rfl | rfl | rfl <;> rfl) (by unfold maxLen; omega) (by omega) hsw
        refine wpOpIn_step (o := _) rfl (fun K hK => ?_)
        refine step_append_inR rfl (.tmp 21) (.tmp 24) rfl rfl rfl hr (fun c hc => by cases hc) ?_
        (try go_simp)
        exact hK _ _ ⟨true, b1, b2, true, true, b5, b6, b7, b8, b9, false, b11, (.slice A9 m c9), q1, q2, (.slice (some ⟨g, 0, none⟩) 1 1), v', q5, q6, q7, q8, q9, rfl, rfl, h.appA rfl ho' hg5 hown⟩
      · obtain rfl : b5 = false := by simpa using hf
        obtain rfl : b11 = false := by cases b11 with | false => rfl | true => exact absurd (h.oB rfl).1 (by simp)
        have c0 : w'.cell? ⟨w.heap.size + 1, 0, none⟩ = some (.slice A8 m c8) := Rw1.c0 h.boxB
        refine wpOpIn_step (o := _) rfl (fun K hK => ?_)
        go_simp
        exact hK _ _ ⟨b0, b1, b2, b3, b4, true, b6, b7, b8, b9, b10, false, q0, q1, q2, q3, q4, (.slice A8 m c8), q6, q7, q8, q9, rfl, rfl, { h with t5 := fun _ => rfl, oB := fun e => by cases e }⟩
      · obtain rfl : b6 = false := by simpa using hf
        refine wpOpIn_step (o := _) rfl (fun K hK => ?_)
        go_simp
        exact hK _ _ ⟨b0, b1, b2, b3, b4, b5, true, b7, b8, b9, b10, b11, q0, q1, q2, q3, q4, q5, (.pointer (some ⟨Bx, 4, none⟩)), q7, q8, q9, rfl, rfl, { h with t6 := fun _ => rfl }⟩
      · obtain rfl : b7 = false := by simpa using hf
        obtain rfl : b6 = true := by simpa using dep_of hi 6 (by kernel_rfl)
        obtain rfl := h.t6 rfl
        have c4 := h.src.c4
        refine wpOpIn_step (o := _) rfl (fun K hK => ?_)
        go_simp
        exact hK _ _ ⟨b0, b1, b2, b3, b4, b5, true, true, b8, b9, b10, b11, q0, q1, q2, q3, q4, q5, (.pointer (some ⟨Bx, 4, none⟩)), (.int .i64 (r : Int)), q8, q9, rfl, rfl, { h with t7 := fun _ => rfl }⟩
      · obtain rfl : b8 = false := by simpa using hf
        obtain rfl : b7 = true := by simpa using dep_of hi 7 (by kernel_rfl)
        obtain rfl := h.t7 rfl
        refine wpOpIn_step (o := _) rfl (fun K hK => ?_)
        go_simp
        have hz := h.alloc (.cells #[.int .i64 (r : Int)] 3)
        exact hK _ _ ⟨b0, b1, b2, b3, b4, b5, b6, true, true, b9, b10, b11, q0, q1, q2, q3, q4, q5, q6, (.int .i64 (r : Int)), (.slice (some ⟨w'.heap.size, 0, none⟩) 1 1), q9, rfl, rfl, { hz with litB := fun _ _ => ⟨_, rfl, heap_alloc_new _ _⟩ }⟩
      · obtain rfl : b9 = false := by simpa using hf
        obtain rfl : b5 = true := by simpa using dep_of hi 5 (by kernel_rfl)
        obtain rfl : b8 = true := by simpa using dep_of hi 8 (by kernel_rfl)
        obtain rfl : b4 = true := by simpa using dep_of hi 4 (by kernel_rfl)
        obtain rfl := h.t5 rfl
        obtain rfl : b11 = false := by cases b11 with | false => rfl | true => exact absurd (h.oB rfl).2.1 (by simp)
        obtain ⟨g, rfl, hg⟩ := h.litB rfl rfl
        have hv : w'.ownsRow (w4.heap.size + 2) 3 1 (.slice A8 m c8) m (intsV (runs_of pre)) := h.rowB
        have hsw : w4.heap.size + 2 ≤ w'.heap.size := Nat.le_trans hsz h.chg.size
        obtain ⟨v', w5, hr, ho', hg5, _, hown⟩ := run_append_own_at (P := Try.prog) (w := w') (w4.heap.size + 2) 25 25 3 j0 (.int .i64 0) 1 8 Try.underlying25 hj0 hy0 hy1 hy2 rfl (by decide) (.slice A8 m c8) m (intsV (runs_of pre)) hv ⟨g, 0, none⟩ 1 1 [.int .i64 (r : Int)] rfl (lit1 hg) (by intro y hy; simp only [List.mem_cons, List.not_mem_nil, or_false] at hy; subst hy; rfl) (by unfold maxLen; omega) (by omega) hsw
        refine wpOpIn_step (o := _) rfl (fun K hK => ?_)
        refine step_append_inR rfl (.tmp 26) (.tmp 29) rfl rfl rfl hr (fun c hc => by cases hc) ?_
        (try go_simp)
        exact hK _ _ ⟨b0, b1, b2, b3, true, true, b6, b7, true, true, b10, false, q0, q1, q2, q3, q4, (.slice A8 m c8), q6, q7, (.slice (some ⟨g, 0, none⟩) 1 1), v', rfl, rfl, h.appB ho' hg5 hown⟩
      · obtain rfl : b10 = false := by simpa using hf
        obtain rfl : b4 = true := by simpa using dep_of hi 4 (by kernel_rfl)
        obtain rfl : b9 = true := by simpa using dep_of hi 9 (by kernel_rfl)
        obtain rfl : b0 = true := by simpa using dep_of hi 0 (by kernel_rfl)
        obtain ⟨g, cap, rfl⟩ := ownsRow_succ h.rowA
        have c0 : w'.cell? ⟨w.heap.size, 0, none⟩ = some (.slice A9 m c9) := Rw1.c0 h.boxA
        have f0 : w'.frozen? ⟨w.heap.size, 0, none⟩ = false := Rw1.fz h.boxA 0
        refine wpOpIn_step (o := _) rfl (fun K hK => ?_)
        go_simp
        exact hK _ _ ⟨true, b1, b2, b3, true, b5, b6, b7, b8, true, true, b11, q0, q1, q2, q3, (.slice (some ⟨g, 0, none⟩) (m + 1) cap), q5, q6, q7, q8, q9, rfl, rfl, h.setA⟩
      · obtain rfl : b11 = false := by simpa using hf
        obtain rfl : b5 = true := by simpa using dep_of hi 5 (by kernel_rfl)
        obtain rfl : b9 = true := by simpa using dep_of hi 9 (by kernel_rfl)
        obtain rfl : b10 = true := by simpa using dep_of hi 10 (by kernel_rfl)
        obtain ⟨g, cap, rfl⟩ := ownsRow_succ h.rowB
        have c0 : w'.cell? ⟨w.heap.size + 1, 0, none⟩ = some (.slice A8 m c8) := Rw1.c0 h.boxB
        have f0 : w'.frozen? ⟨w.heap.size + 1, 0, none⟩ = false := Rw1.fz h.boxB 0
        refine wpOpIn_step (o := _) rfl (fun K hK => ?_)
        go_simp
        exact hK _ _ ⟨b0, b1, b2, b3, b4, true, b6, b7, b8, true, true, true, q0, q1, q2, q3, q4, q5, q6, q7, q8, (.slice (some ⟨g, 0, none⟩) (m + 1) cap), rfl, rfl, h.setB⟩
  case hdone =>
    rintro D W hD1 hD2 ⟨v, u, h1, h2, h3, h4, h5⟩ hK
    obtain ⟨A9, c9, rfl, hb9, hcp, hnl⟩ := own_cap' h3
    obtain ⟨A8, c8, rfl, hb8, _, _⟩ := own_cap' h4
    have HOUT := Lib.hid (And.intro hcp (And.intro hnl (And.intro hb9 hb8)))
    have HE := Lib.hid (fun F hF => al_end (F := F) HNN.out.1 ⟨hD1, hD2⟩ h1 h2 h3 h4 h5 hK hF)
    have x1 := h1.c0
    have x2 := h2.c0
    have f1 := h1.fz 0
    have f2 := h2.fz 0
    have hmo : Try.prog.follows .mixedOrders = true := by kernel_rfl
    clear h1 h2 h3 h4 h5 hK hD1 hD2 hcp hnl hb9 hb8 hN
    have HS : Hid (mS (ess rs) (zerosA rs.length) = mS (ess rs) z) := Lib.hid (by rw [HZ.out])
    generalize mS (ess rs) z = S at *
    obtain ⟨sl, hsl⟩ : ∃ sl, S.length = sl := ⟨_, rfl⟩
    rw [hsl] at x1 x2 HOUT HE
    have HSL := Lib.hid hsl
    clear hsl
    gi_wp2_with fail
    gi_region
    all_goals
      gi_wp2_with fail
      obtain ⟨k1, k2, k3, k4, k5, k6⟩ := HE.out _ rfl
      refine ⟨by simp, .inl ⟨_, _, rfl, run_takeDeferred k1, ?_⟩⟩
      obtain ⟨o1, o2, o3, o4⟩ := HOUT.out
      refine ⟨.tuple #[.slice A9 sl c9, .slice A8 sl c8, .int .i64 0], ?_, by rw [← HPOST.out]; unfold AllOut; rw [HS.out, HSL.out]; exact ⟨A9, A8, c9, c8, rfl, k4, k5, o1, o2, fun a e => by have := o3 a e; have := HNN.out.1; omega, fun a e => by have := o4 a e; have := HNN.out.1; omega, k6⟩⟩
      simp [results, Try.f17, go_sem, k2, k3]
  case hstop => exact fun _ _ _ _ _ _ _ h => h.elim
end Go.Proofs.Ytebjhjmlpodkgaa.KK
