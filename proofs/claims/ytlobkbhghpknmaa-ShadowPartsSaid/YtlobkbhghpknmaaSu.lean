/-
  Shadow: what is kept, in plain words: the first entry of each key.
-/
import Derived.Test.YtlobkbhghpknmaaSi
namespace Go.Proofs.Ytlobkbhghpknmaa.KK
open Go.ChangeShapes Go.WideShapes Go.ChangeAt Go.RowKit Go.Proofs

theorem bl_lt : ∀ a b : List UInt8, Op.bytesLess a b = Kl.lt a b
  | _, [] => by simp [Op.bytesLess, Kl.lt]
  | [], _ :: _ => by simp [Op.bytesLess, Kl.lt]
  | x :: a, y :: b => by
    unfold Op.bytesLess Kl.lt
    rw [bl_lt a b]
    by_cases h : x = y
    · subst h; simp
    · have h1 : (x == y) = false := by simpa using h
      rw [h1, if_neg h, Bool.false_and, Bool.or_false]
      exact decide_eq_decide.2 UInt8.lt_iff_toNat_lt
theorem tl_L (s : ByteArray) : s.toList = Kl.L s := by rw [Lib.toList_data]; rfl
theorem lessS_L (a b : ByteArray) : lessS a b = Kl.lt (Kl.L a) (Kl.L b) := by unfold lessS; rw [bl_lt, tl_L, tl_L]
theorem L_inj' {a b : ByteArray} (h : Kl.L a = Kl.L b) : a = b := by
  cases a; cases b
  congr
  exact Array.toList_inj.1 h
theorem lessS_irr (a : ByteArray) : lessS a a = false := by rw [lessS_L]; exact Kl.lt_irrefl _
theorem lessS_asym {a b : ByteArray} (h : lessS a b = true) : lessS b a = false := by rw [lessS_L] at h ⊢; exact Kl.lt_asymm h
theorem lessS_trans {a b c : ByteArray} (h : lessS a b = true) (g : lessS b c = true) : lessS a c = true := by rw [lessS_L] at h g ⊢; exact Kl.lt_trans h g
theorem lessS_tot {a b : ByteArray} (h : lessS a b = false) (g : a ≠ b) : lessS b a = true := by
  rw [lessS_L] at h ⊢
  cases hq : Kl.lt (Kl.L b) (Kl.L a)
  · exact absurd (L_inj' (Kl.lt_total h hq)) g
  · rfl

theorem chkS_b (s : Bool) (l : ByteArray) (b b' : Bool) : chkS (s, l, b) = chkS (s, l, b') := rfl
theorem step_iff (s : Bool) (l : ByteArray) (b : Bool) (x : El.En) : stepE (s, l, b) x = 0 ↔ chkS (s, l, b) = 0 ∧ El.chk x = 0 ∧ ¬ (s = true ∧ lessS x.1 l = true) := by
  constructor
  · intro h
    by_cases h1 : chkS (s, l, b) = 0
    · by_cases h2 : El.chk x = 0
      · by_cases h3 : s = true ∧ lessS x.1 l = true
        · rw [stepE_less h1 h2 h3] at h; cases h
        · exact ⟨h1, h2, h3⟩
      · rw [stepE_ent h1 h2] at h; exact absurd h h2
    · rw [stepE_chk h1] at h; exact absurd h h1
  · rintro ⟨h1, h2, h3⟩; exact stepE_ok h1 h2 h3
theorem chk_next {x : El.En} (h : El.chk x = 0) (b : Bool) : chkS (true, x.1, b) = 0 := by
  have := (El.chk_of h).1
  unfold chkS
  rw [if_neg (by simp only; omega), if_neg (by simp)]
/-- no entry is wrong -/
def okS : Bool → ByteArray → List El.En → Prop
  | _, _, [] => True
  | s, l, x :: t => stepE (s, l, false) x = 0 ∧ okS true x.1 t
/-- the first entry of each key -/
def firsts : Bool → ByteArray → List El.En → List El.En
  | _, _, [] => []
  | s, l, x :: t => if s = true ∧ x.1 = l then firsts true x.1 t else x :: firsts true x.1 t
theorem firsts_cons (s : Bool) (l : ByteArray) (x : El.En) (t : List El.En) : firsts s l (x :: t) = if s = true ∧ x.1 = l then firsts true x.1 t else x :: firsts true x.1 t := rfl
/-- keys ascend, and all is right -/
def SA : Bool → ByteArray → List El.En → Prop
  | _, _, [] => True
  | s, l, x :: t => El.chk x = 0 ∧ (s = true → lessS l x.1 = true) ∧ SA true x.1 t
theorem sa_ok : ∀ (F : List El.En) (s : Bool) (l : ByteArray), chkS (s, l, false) = 0 → SA s l F → okS s l F ∧ firsts s l F = F
  | [], _, _, _, _ => ⟨trivial, rfl⟩
  | x :: t, s, l, hc, ⟨h1, h2, h3⟩ => by
    obtain ⟨k1, k2⟩ := sa_ok t true x.1 (chk_next h1 _) h3
    refine ⟨⟨(step_iff _ _ _ _).2 ⟨hc, h1, fun ⟨e, g⟩ => ?_⟩, k1⟩, ?_⟩
    · rw [lessS_asym (h2 e)] at g; cases g
    · unfold firsts
      rw [if_neg (fun ⟨e, g⟩ => by have := h2 e; rw [g, lessS_irr] at this; cases this), k2]
theorem ok_sa : ∀ (t : List El.En) (s : Bool) (l : ByteArray), okS s l t → SA s l (firsts s l t)
  | [], _, _, _ => trivial
  | x :: t, s, l, ⟨h1, h2⟩ => by
    have ih := ok_sa t true x.1 h2
    obtain ⟨c1, c2, c3⟩ := (step_iff _ _ _ _).1 h1
    unfold firsts
    by_cases e : s = true ∧ x.1 = l
    · rw [if_pos e]; obtain ⟨e1, e2⟩ := e; rw [e1, ← e2]; exact ih
    · rw [if_neg e]
      refine ⟨c2, fun hs => ?_, ih⟩
      have h3 : lessS x.1 l = false := by
        cases hq : lessS x.1 l
        · rfl
        · exact absurd ⟨hs, hq⟩ c3
      exact lessS_tot h3 (fun g => e ⟨hs, g⟩)
theorem sa_lower {k l : ByteArray} {s : Bool} (h : s = true → lessS l k = true) : ∀ {F : List El.En}, SA true k F → SA s l F
  | [], _ => trivial
  | _ :: _, ⟨h1, h2, h3⟩ => ⟨h1, fun hs => lessS_trans (h hs) (h2 rfl), h3⟩
theorem sa_filter (p : El.En → Bool) : ∀ (F : List El.En) (s : Bool) (l : ByteArray), SA s l F → SA s l (F.filter p)
  | [], _, _, _ => trivial
  | x :: t, s, l, ⟨h1, h2, h3⟩ => by
    have ih := sa_filter p t true x.1 h3
    rw [List.filter_cons]
    split
    · exact ⟨h1, h2, ih⟩
    · exact sa_lower h2 ih
def kp (b : Bool) (x : El.En) : Bool := !(b && x.2.2.1)
theorem firsts_le : ∀ (t : List El.En) (s : Bool) (l : ByteArray), (firsts s l t).length ≤ t.length
  | [], _, _ => Nat.le_refl _
  | x :: t, s, l => by
    have ih := firsts_le t true x.1
    unfold firsts
    split <;> simp only [List.length_cons] <;> omega
/-- what a run without a fault leaves -/
theorem sgo_run (b : Bool) : ∀ (t : List El.En) (s : Bool) (l : ByteArray) (i : Nat) (o : Oc), okS s l t →
    sgo (s, l, b) i o t = ((o.1 ++ (firsts s l t).filter (kp b), o.2.1 + (t.length - (firsts s l t).length), o.2.2 + ((firsts s l t).filter (fun x => !kp b x)).length), 0, 0)
  | [], s, l, i, o, _ => by simp [sgo, firsts]
  | x :: t, s, l, i, o, ⟨h1, h2⟩ => by
    have hle := firsts_le t true x.1
    rw [← stepE_b s l b false] at h1
    unfold sgo
    rw [if_pos h1]
    show sgo (true, x.1, b) (i + 1) _ t = _
    rw [sgo_run b t true x.1 (i + 1) _ h2, firsts_cons]
    unfold fateS
    generalize firsts true x.1 t = G at *
    by_cases e : s = true ∧ x.1 = l
    · rw [if_pos e, if_pos e]
      refine Prod.ext (Prod.ext rfl (Prod.ext ?_ rfl)) rfl
      show o.2.1 + 1 + (t.length - _) = o.2.1 + (t.length + 1 - _)
      omega
    · rw [if_neg e, if_neg e]
      by_cases g : b = true ∧ x.2.2.1 = true
      · have hk : kp b x = false := by unfold kp; rw [g.1, g.2]; rfl
        rw [if_pos g]
        refine Prod.ext (Prod.ext ?_ (Prod.ext ?_ ?_)) rfl
        · show o.1 ++ _ = o.1 ++ _
          rw [List.filter_cons, hk]; rfl
        · show o.2.1 + (t.length - _) = o.2.1 + (t.length + 1 - (_ + 1))
          omega
        · show o.2.2 + 1 + _ = o.2.2 + _
          rw [List.filter_cons, hk]
          simp only [Bool.not_false, if_true, List.length_cons]
          omega
      · have hk : kp b x = true := by
          unfold kp
          cases b <;> simp at g ⊢
          exact g
        rw [if_neg g]
        refine Prod.ext (Prod.ext ?_ (Prod.ext ?_ ?_)) rfl
        · show o.1 ++ [x] ++ _ = o.1 ++ _
          rw [List.filter_cons, hk, List.append_assoc]; rfl
        · show o.2.1 + (t.length - _) = o.2.1 + (t.length + 1 - (_ + 1))
          omega
        · show o.2.2 + _ = o.2.2 + _
          rw [List.filter_cons, hk]; rfl
theorem sgo_bad (b : Bool) : ∀ (t : List El.En) (s : Bool) (l : ByteArray) (i : Nat) (o : Oc), (sgo (s, l, b) i o t).2.2 = 0 → okS s l t
  | [], _, _, _, _, _ => trivial
  | x :: t, s, l, i, o, h => by
    unfold sgo at h
    by_cases h1 : stepE (s, l, b) x = 0
    · rw [if_pos h1] at h
      exact ⟨by rw [← stepE_b s l b false]; exact h1, sgo_bad b t true x.1 (i + 1) _ h⟩
    · rw [if_neg h1] at h; exact absurd h h1
/-- the first entries of a list -/
def FL (xs : List El.En) : List El.En := firsts false ⟨#[]⟩ xs
theorem chkS0 (b : Bool) : chkS (false, ⟨#[]⟩, b) = 0 := rfl
theorem sift_run {xs : List El.En} {b : Bool} (h : (siftE xs b).2.2 = 0) : xs.length ≤ 20000 ∧ okS false ⟨#[]⟩ xs := by
  unfold siftE at h
  by_cases h1 : 20000 < xs.length
  · rw [if_pos h1] at h; cases h
  · rw [if_neg h1] at h; exact ⟨by omega, sgo_bad b _ _ _ _ _ h⟩
theorem sift_of {xs : List El.En} (h1 : xs.length ≤ 20000) (h2 : okS false ⟨#[]⟩ xs) (b : Bool) : siftE xs b = (((FL xs).filter (kp b), xs.length - (FL xs).length, ((FL xs).filter (fun x => !kp b x)).length), 0, 0) := by
  unfold siftE
  rw [if_neg (by omega), sgo_run b xs false ⟨#[]⟩ 0 zO h2]
  simp [zO, FL]
/-- a part of the first entries, filtered -/
theorem sift_part {xs : List El.En} (h1 : xs.length ≤ 20000) (h2 : okS false ⟨#[]⟩ xs) (p : El.En → Bool) (b : Bool) :
    siftE ((FL xs).filter p) b = ((((FL xs).filter p).filter (kp b), 0, (((FL xs).filter p).filter (fun x => !kp b x)).length), 0, 0) := by
  have hs := sa_filter p _ _ _ (ok_sa xs false ⟨#[]⟩ h2)
  obtain ⟨k1, k2⟩ := sa_ok _ _ _ (chkS0 _) hs
  have hl : ((FL xs).filter p).length ≤ 20000 := Nat.le_trans (List.length_filter_le _ _) (Nat.le_trans (firsts_le _ _ _) h1)
  rw [sift_of hl k1 b]
  have e : FL ((FL xs).filter p) = (FL xs).filter p := k2
  rw [e, Nat.sub_self]
theorem sift_later {xs : List El.En} (h : (siftE xs false).2.2 = 0) : siftE (siftE xs false).1.1 true = (((siftE xs true).1.1, 0, (siftE xs true).1.2.2), 0, 0) ∧ (siftE xs true).2 = (0, 0) := by
  obtain ⟨h1, h2⟩ := sift_run h
  rw [sift_of h1 h2 false, sift_of h1 h2 true]
  have e : (FL xs).filter (kp false) = FL xs := List.filter_eq_self.2 (fun x _ => rfl)
  have := sift_part h1 h2 (kp false) true
  simp only [e] at this ⊢
  exact ⟨this, trivial⟩
end Go.Proofs.Ytlobkbhghpknmaa.KK
