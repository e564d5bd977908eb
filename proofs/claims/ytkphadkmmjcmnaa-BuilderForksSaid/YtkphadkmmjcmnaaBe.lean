/-
  Contracts of slices.Clone over entries, made, New, Of.
-/
import Derived.Test.YtkphadkmmjcmnaaBc
namespace Go.Proofs.Ytkphadkmmjcmnaa.KK
open Go.ChangeShapes Go.WideShapes Go.ChangeAt Go.RowKit Go.Proofs

set_option maxRecDepth 100000 in
theorem Clone_any (A : Option Addr) (c : Nat) (xs : List El.En) (w : World) (hf : EsAt w A xs) (hne : xs ≠ []) (hn : xs.length ≤ 5000) :
    Calls Try.prog 43 #[.slice A xs.length c] w fun e w' => ∃ g cap, e = .returned (.slice (some ⟨g, 0, none⟩) xs.length cap) ∧ xs.length ≤ cap ∧ w.heap.size ≤ g ∧ EsAt w' (some ⟨g, 0, none⟩) xs ∧ Below w.heap.size w w' := by
  obtain ⟨b, off, rfl, hb, hc⟩ := hf.cells hne
  obtain ⟨i0, hi, hz0, hz1, hz2⟩ := info_parts infoE
  have HC := Lib.hid hc
  have hpos : 0 < xs.length := List.length_pos_iff.2 hne
  have hmade : (w.alloc (.cells #[] 36)).ownsRow w.heap.size 36 4 (.slice (some ⟨w.heap.size, 0, none⟩) 0 0) 0 [] := World.ownsRow_made w #[] 0 (Nat.le_refl _) (Nat.zero_le _) rfl
  have q33 : ∀ (w : World) (a : Option Addr) (n c n' c' : Nat), (binOp .eql 41 (.slice a n c) (.slice none n' c')).run Try.prog w = .ok (.bool a.isNone) w := fun w a n c n' c' => Lib.run_eql_slice_nil w _ _ a n c n' c' Try.underlying41
  clear hc hf hne
  go_enter Try.func43, Try.ntmps43
  go_wp2_with (at_builtin; refine wpList_append_own _ rfl (.tmp 5) (.tmp 6) 41 rfl w.heap.size 36 i0 (.agg #[.string ⟨#[]⟩, .string ⟨#[]⟩, .bool false, .int .i64 0]) 4 48 Try.underlying41 hi hz0 hz1 hz2 rfl (by decide) _ 0 [] rfl hmade ⟨b, off, none⟩ xs.length c (cellsE xs) rfl (by rw [cellsE_len]) (fun j u hj => by rw [add_at']; exact Lib.cell?_alloc_some _ (HC.out j u hj)) (cellsE_one _) (by unfold maxLen; omega) (by omega) (by simp) ?_; intro v' w1 hown hg _; have hb1 : Below w.heap.size w w1 := ((Below.refl w.heap.size w).alloc (Nat.le_refl _) _).grown hg (by simp) (fun k hk => (hmade.lt k hk).1); have HB1 := Lib.hid hb1; rw [Nat.zero_add, List.nil_append] at hown; obtain ⟨g, cap, rfl, hcp⟩ : ∃ g cap, v' = .slice (some ⟨g, 0, none⟩) xs.length cap ∧ xs.length ≤ cap := (by rcases hown.2 with ⟨_, h1⟩ | ⟨g, cap, cur, hv, _, _, h5, _⟩; exact absurd h1 (by omega); exact ⟨g, cap, hv, h5⟩); have HCP := Lib.hid hcp; clear hcp; have HO := Lib.hid hown; clear hb1 hg hown hmade)
  go_ret
  have hlt := HO.out.lt g rfl
  exact ⟨g, cap, rfl, HCP.out, hlt.1, EsAt.of_own HO.out, HB1.out⟩
set_option maxRecDepth 100000 in
theorem made_any (st most : Int) (A : Option Addr) (n c : Nat) (m : Nat) (hm : most = m) (w : World) :
    Calls Try.prog 32 #[.int .i64 st, .agg #[.int .i64 most, .slice A n c]] w fun e w' => ∃ M, e = .returned (.pointer (some ⟨M, 0, none⟩)) ∧ w.heap.size ≤ M ∧ Bd w' M st m (.slice A n c) ∧ Below w.heap.size w w' := by
  subst hm
  go_enter Try.func32, Try.ntmps32
  go_wp2_with fail
  go_ret
  refine ⟨w.heap.size + 1, rfl, by omega, ?_, ((alloc_below w _).alloc (by simp) _)⟩
  have := heap_alloc_new (w.alloc (.cells #[.int .i64 (m : Int), .slice A n c] 53)) (.cells #[.pointer (some ⟨w.heap.size + 1, 0, none⟩), .int .i64 st, .int .i64 (m : Int), .slice A n c] 55)
  unfold Bd
  simpa using this
set_option maxRecDepth 100000 in
theorem New_bad (most : Int) (w : World) (h : most < 1 ∨ 5000 < most) (hb : -9223372036854775808 ≤ most ∧ most ≤ 9223372036854775807) :
    Calls Try.prog 12 #[.int .i64 most] w fun e w' => e = .returned (.tuple #[.pointer none, .int .i64 7]) ∧ Below w.heap.size w w' := by
  by_cases h1 : most < 1
  · go_enter Try.func12, Try.ntmps12
    go_wp2_with fail
    go_ret2
    exact ⟨rfl, Below.refl _ _⟩
  · have h2 : 5000 < most := by omega
    clear h
    go_enter Try.func12, Try.ntmps12
    go_wp2_with fail
    go_ret2
    exact ⟨rfl, Below.refl _ _⟩
set_option maxRecDepth 100000 in
theorem New_ok (most : Int) (m : Nat) (w : World) (hm : most = m) (h1 : 1 ≤ m) (h2 : m ≤ 5000) :
    Calls Try.prog 12 #[.int .i64 most] w fun e w' => ∃ M, e = .returned (.tuple #[.pointer (some ⟨M, 0, none⟩), .int .i64 0]) ∧ w.heap.size ≤ M ∧ Bd w' M 1 m (.slice none 0 0) ∧ Below w.heap.size w w' := by
  subst hm
  have J := Lib.hid (made_any 1 (m : Int) none 0 0 m rfl w)
  have d1 : decide ((m : Int) < 1) = false := by simp; omega
  have d2 : decide ((5000 : Int) < (m : Int)) = false := by simp; omega
  have d3 : decide (m < 1) = false := by simp; omega
  have d4 : decide (5000 < m) = false := by simp; omega
  go_enter Try.func12, Try.ntmps12
  go_wp2_with fail
  refine J.out.mono ?_
  rintro e w1 ⟨M, rfl, h3, h4, h5⟩
  go_wp2_with fail
  go_ret2
  exact ⟨M, rfl, h3, h4, h5⟩
/-- a row of two cells -/
def Row2 (W : World) (B : Nat) (t : TypeId) (v0 v1 : Value) : Prop := W.heap[B]? = some (.cells #[v0, v1] t (0, 0))
theorem Row2.lt {W : World} {B : Nat} {t : TypeId} {v0 v1 : Value} (h : Row2 W B t v0 v1) : B < W.heap.size := (Array.getElem?_eq_some_iff.1 h).1
theorem Row2.c0 {W : World} {B : Nat} {t : TypeId} {v0 v1 : Value} (h : Row2 W B t v0 v1) : W.cell? ⟨B, 0, none⟩ = some v0 := by unfold Row2 at h; simp [World.cell?, h]
theorem Row2.c1 {W : World} {B : Nat} {t : TypeId} {v0 v1 : Value} (h : Row2 W B t v0 v1) : W.cell? ⟨B, 1, none⟩ = some v1 := by unfold Row2 at h; simp [World.cell?, h]
theorem Row2.fz {W : World} {B : Nat} {t : TypeId} {v0 v1 : Value} (h : Row2 W B t v0 v1) (i : Nat) : W.frozen? ⟨B, i, none⟩ = false := by unfold Row2 at h; simp [World.frozen?, h]
theorem Row2.set {W : World} {B : Nat} {t : TypeId} {v0 v1 : Value} (h : Row2 W B t v0 v1) (u0 u1 : Value) : Row2 ((W.setCell ⟨B, 0, none⟩ u0).setCell ⟨B, 1, none⟩ u1) B t u0 u1 := by
  unfold Row2 at h ⊢; simp [World.setCell, Array.getElem?_modify, h]
theorem Row2.new (w : World) (t : TypeId) (v0 v1 : Value) : Row2 (w.alloc (.cells #[v0, v1] t)) w.heap.size t v0 v1 := heap_alloc_new w _
theorem Row2.below {W W' : World} {B n : Nat} {t : TypeId} {v0 v1 : Value} (h : Row2 W B t v0 v1) (hb : Below n W W') (hn : W.heap.size ≤ n) : Row2 W' B t v0 v1 := (hb.block B (Nat.lt_of_lt_of_le h.lt hn)).trans h
theorem set2_below {B : Nat} {w w1 : World} {g : Nat} (h : Below B w w1) (hg : B ≤ g) (a b : Value) : Below B w ((w1.setCell ⟨g, 0, none⟩ a).setCell ⟨g, 1, none⟩ b) :=
  (h.setCell (p := ⟨g, 0, none⟩) hg _).setCell (p := ⟨g, 1, none⟩) hg _
/-- what Of answers: the error; the id and the entries -/
def ofE (id : Int) (xs : List El.En) : Int := if id < 1 ∨ 1000000 < id then 7 else if (listE xs).2 ≠ 0 then (listE xs).2 else if xs = [] then 4 else 0
def ofId (id : Int) (xs : List El.En) : Int := if ofE id xs = 0 then id else 0
def ofL (id : Int) (xs : List El.En) : List El.En := if ofE id xs = 0 then xs else []
theorem ofE_id {id : Int} {xs : List El.En} (h : id < 1 ∨ 1000000 < id) : ofE id xs = 7 := if_pos h
theorem ofE_list {id : Int} {xs : List El.En} (h : ¬ (id < 1 ∨ 1000000 < id)) (g : (listE xs).2 ≠ 0) : ofE id xs = (listE xs).2 := by unfold ofE; rw [if_neg h, if_pos g]
theorem ofE_nil {id : Int} {xs : List El.En} (h : ¬ (id < 1 ∨ 1000000 < id)) (g : xs = []) : ofE id xs = 4 := by
  subst g; unfold ofE; rw [if_neg h, if_neg (by simp [listE, scan]), if_pos rfl]
theorem ofE_ok {id : Int} {xs : List El.En} (h : ¬ (id < 1 ∨ 1000000 < id)) (g : (listE xs).2 = 0) (k : xs ≠ []) : ofE id xs = 0 := by unfold ofE; rw [if_neg h, if_neg (by simpa using g), if_neg k]
/-- a run of the call's own, as it is returned -/
def runV (id : Int) (A : Option Addr) (n c : Nat) : Value := .agg #[.int .i64 id, .slice A n c]
/-- behind a call that returns a run -/
def RunOut (w w' : World) (e : Ending) (id : Int) (xs : List El.En) (er : Int) : Prop :=
  ∃ A c, e = .returned (.tuple #[runV id A xs.length c, .int .i64 er]) ∧ EsAt w' A xs ∧ (∀ a, A = some a → w.heap.size ≤ a.block) ∧ (A = none → c = 0) ∧ Below w.heap.size w w'
set_option maxRecDepth 100000 in
set_option maxHeartbeats 1000000 in
theorem Of_any (id : Int) (A : Option Addr) (c : Nat) (xs : List El.En) (w : World) (hf : EsAt w A xs) (hn : xs.length ≤ 4294967295) (hs : Sized xs) (hid : -9223372036854775808 ≤ id ∧ id ≤ 9223372036854775807) :
    Calls Try.prog 21 #[.int .i64 id, .slice A xs.length c] w fun e w' => RunOut w w' e (ofId id xs) (ofL id xs) (ofE id xs) := by
  have hb0 := alloc_below w (.cells #[.int .i64 0, .slice none 0 0] 43)
  have HR := Row2.new w 43 (.int .i64 0) (.slice none 0 0)
  have J := Lib.hid (fun (w' : World) (hb : Below w.heap.size w w') => eList_any A c xs w' (hf.below hb (Nat.le_refl _)) hn hs)
  by_cases hi : id < 1 ∨ 1000000 < id
  · have HE := Lib.hid (ofE_id (xs := xs) hi)
    have HOut : Hid (∀ w' e, e = .returned (.tuple #[.agg #[.int .i64 0, .slice none 0 0], .int .i64 7]) → Below w.heap.size w w' → RunOut w w' e (ofId id xs) (ofL id xs) (ofE id xs)) := Lib.hid (fun w' e he hb => by
      unfold ofId ofL; rw [HE.out]; exact ⟨none, 0, he, .inl rfl, (fun a h => by cases h), fun _ => rfl, hb⟩)
    clear hf J
    by_cases h1 : id < 1
    · generalize xs.length = n at *
      go_enter Try.func21, Try.ntmps21
      go_wp2_with fail
      refine bodyPost_ret (v := .tuple #[.agg #[.int .i64 0, .slice none 0 0], .int .i64 7]) (by simp [results, Try.f21, go_sem]) rfl ?_
      exact HOut.out _ _ rfl hb0
    · have h2 : 1000000 < id := by omega
      generalize xs.length = n at *
      go_enter Try.func21, Try.ntmps21
      go_wp2_with fail
      refine bodyPost_ret (v := .tuple #[.agg #[.int .i64 0, .slice none 0 0], .int .i64 7]) (by simp [results, Try.f21, go_sem]) rfl ?_
      exact HOut.out _ _ rfl hb0
  have h1 : ¬ id < 1 := by omega
  have h2 : ¬ 1000000 < id := by omega
  by_cases he : (listE xs).2 = 0
  rotate_left
  · have HE := Lib.hid (ofE_list hi he)
    obtain ⟨b1, b2⟩ := ne_b he
    have HOut : Hid (∀ w' e, e = .returned (.tuple #[.agg #[.int .i64 0, .slice none 0 0], .int .i64 (listE xs).2]) → Below w.heap.size w w' → RunOut w w' e (ofId id xs) (ofL id xs) (ofE id xs)) := Lib.hid (fun w' e hx hb => by
      unfold ofId ofL; rw [HE.out, if_neg he, if_neg he]; exact ⟨none, 0, hx, .inl rfl, (fun a h => by cases h), fun _ => rfl, hb⟩)
    clear hf he hi HE
    generalize (listE xs).1 = r1 at *
    generalize (listE xs).2 = r at *
    generalize xs.length = n at *
    go_enter Try.func21, Try.ntmps21
    go_wp2_with fail
    refine (J.out _ hb0).mono ?_
    rintro e w1 ⟨rfl, hb⟩
    have HB := Lib.hid (eb_of hb0 hb (Nat.le_refl _))
    have HR2 := HR.below hb (Nat.le_refl _)
    clear hb hb0 HR
    have r0 := HR2.c0
    have r1 := HR2.c1
    have z0 := HR2.fz 0
    have z1 := HR2.fz 1
    go_wp2_with fail
    have HX := HR2.set (.int .i64 0) (.slice none 0 0)
    have k0 := HX.c0
    have k1 := HX.c1
    refine bodyPost_ret (v := .tuple #[.agg #[.int .i64 0, .slice none 0 0], .int .i64 r]) (by simp [results, Try.f21, go_sem, k0, k1]) rfl ?_
    exact HOut.out _ _ rfl (set2_below HB.out (Nat.le_refl _) _ _)
  rw [he] at J
  by_cases hx : xs = []
  · have HE := Lib.hid (ofE_nil hi hx)
    have HOut : Hid (∀ w' e, e = .returned (.tuple #[.agg #[.int .i64 0, .slice none 0 0], .int .i64 4]) → Below w.heap.size w w' → RunOut w w' e (ofId id xs) (ofL id xs) (ofE id xs)) := Lib.hid (fun w' e hy hb => by
      unfold ofId ofL; rw [HE.out]; exact ⟨none, 0, hy, .inl rfl, (fun a h => by cases h), fun _ => rfl, hb⟩)
    have hl : xs.length = 0 := by rw [hx]; rfl
    rw [hl] at J ⊢
    clear hf he hi HE hx hl
    generalize (listE xs).1 = r1 at *
    go_enter Try.func21, Try.ntmps21
    go_wp2_with fail
    refine (J.out _ hb0).mono ?_
    rintro e w1 ⟨rfl, hb⟩
    have HB := Lib.hid (eb_of hb0 hb (Nat.le_refl _))
    have HR2 := HR.below hb (Nat.le_refl _)
    clear hb hb0 HR
    have r0 := HR2.c0
    have r1 := HR2.c1
    have z0 := HR2.fz 0
    have z1 := HR2.fz 1
    go_wp2_with fail
    have HX := HR2.set (.int .i64 0) (.slice none 0 0)
    have k0 := HX.c0
    have k1 := HX.c1
    refine bodyPost_ret (v := .tuple #[.agg #[.int .i64 0, .slice none 0 0], .int .i64 4]) (by simp [results, Try.f21, go_sem, k0, k1]) rfl ?_
    exact HOut.out _ _ rfl (set2_below HB.out (Nat.le_refl _) _ _)
  have hl5 : xs.length ≤ 5000 := by
    unfold listE at he
    by_cases g : 5000 < xs.length
    · rw [if_pos g] at he; cases he
    · omega
  have J2 := Lib.hid (fun (w' : World) (hb : Below w.heap.size w w') => Clone_any A c xs w' (hf.below hb (Nat.le_refl _)) hx hl5)
  have hpos : 0 < xs.length := List.length_pos_iff.2 hx
  have HE := Lib.hid (ofE_ok hi he hx)
  have HOut : Hid (∀ w' e g cap, e = .returned (.tuple #[.agg #[.int .i64 id, .slice (some ⟨g, 0, none⟩) xs.length cap], .int .i64 0]) → EsAt w' (some ⟨g, 0, none⟩) xs → w.heap.size ≤ g → Below w.heap.size w w' → RunOut w w' e (ofId id xs) (ofL id xs) (ofE id xs)) := Lib.hid (fun w' e g cap hy hes hg hb => by
    unfold ofId ofL; rw [HE.out, if_pos rfl, if_pos rfl]; exact ⟨_, _, hy, hes, (fun a h => by injection h with h; subst h; exact hg), (fun h => by cases h), hb⟩)
  clear hf he hi HE hx
  generalize (listE xs).1 = r1 at *
  obtain ⟨n, hnn⟩ : ∃ n, xs.length = n := ⟨_, rfl⟩
  rw [hnn] at J J2 HOut hpos hl5 hn ⊢
  have q1 : ((n : Int) == 0) = false := by rw [beq_eq_false_iff_ne]; omega
  clear hnn
  go_enter Try.func21, Try.ntmps21
  go_wp2_with fail
  refine (J.out _ hb0).mono ?_
  rintro e w1 ⟨rfl, hb⟩
  have HB := Lib.hid (eb_of hb0 hb (Nat.le_refl _))
  have HR2 := HR.below hb (Nat.le_refl _)
  clear hb hb0 HR
  go_wp2_with fail
  refine (J2.out _ HB.out).mono ?_
  rintro e w2 ⟨g, cap, rfl, hcap, hg, hes, hb⟩
  have HB2 := Lib.hid (eb_of HB.out hb (Nat.le_refl _))
  have HR3 := HR2.below hb (Nat.le_refl _)
  have hne : g ≠ w.heap.size := by have := HR2.lt; omega
  have hg2 : w.heap.size ≤ g := by have := HR2.lt; omega
  have HES := Lib.hid hes
  clear hb HR2 hes
  have r0 := HR3.c0
  have r1 := HR3.c1
  have z0 := HR3.fz 0
  have z1 := HR3.fz 1
  go_wp2_with fail
  have HX := HR3.set (.int .i64 id) (.slice (some ⟨g, 0, none⟩) n cap)
  have k0 := HX.c0
  have k1 := HX.c1
  refine bodyPost_ret (v := .tuple #[.agg #[.int .i64 id, .slice (some ⟨g, 0, none⟩) n cap], .int .i64 0]) (by simp [results, Try.f21, go_sem, k0, k1]) rfl ?_
  exact HOut.out _ _ g cap rfl ((chg_set w.heap.size 1 _).es ((chg_set w.heap.size 0 _).es HES.out (fun a h e => by injection h with h; subst h; exact hne e)) (fun a h e => by injection h with h; subst h; exact hne e)) hg2 (set2_below HB2.out (Nat.le_refl _) _ _)
end Go.Proofs.Ytkphadkmmjcmnaa.KK
