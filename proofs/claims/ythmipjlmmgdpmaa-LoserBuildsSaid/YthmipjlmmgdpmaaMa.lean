/-
  The reference's trees: who wins, the player of a node.
-/
import Derived.Test.YthmipjlmmgdpmaaLt
namespace Go.Proofs.Ythmipjlmmgdpmaa.KK
open Go.ChangeShapes Go.WideShapes Go.ChangeAt Go.RowKit Go.Proofs

/-- the reference's order -/
def rw10 (a b : LK) (p q : Nat) : Bool := if a.2 = b.2 then (if a.2 = false ∧ a.1 ≠ b.1 then Kl.lt (Kl.L a.1) (Kl.L b.1) else decide (p < q)) else b.2
theorem rw10_wn {ks : List LK} {p q : Nat} (hp : keyE (kAt ks p) = 0) (hq : keyE (kAt ks q) = 0) : rw10 (kAt ks p) (kAt ks q) p q = wn ks p q := by
  rw [Bool.eq_iff_iff, wn_iff]
  have hz : ∀ x : LK, keyE x = 0 → x.2 = true → Kl.L x.1 = [] := fun x hx h2 => by
    unfold keyE at hx
    split at hx
    · cases hx
    · rename_i hn
      exact List.eq_nil_of_length_eq_zero (by rw [Kl.L_length]; exact Decidable.not_not.1 fun e => hn ⟨h2, e⟩)
  have ha := hz _ hp
  have hb := hz _ hq
  generalize kAt ks p = a at *
  generalize kAt ks q = b at *
  unfold rw10
  by_cases hd : a.2 = b.2
  · rw [if_pos hd]
    cases h2 : a.2 with
    | true =>
      have h2' : b.2 = true := hd ▸ h2
      rw [ha h2, hb h2', if_neg (by simp)]
      simp [h2', Kl.lt_nil]
    | false =>
      have h2' : b.2 = false := hd ▸ h2
      by_cases he : a.1 = b.1
      · rw [if_neg (by simp [he]), he]; simp [h2', Kl.lt_irrefl]
      · have hne : Kl.L a.1 ≠ Kl.L b.1 := fun e => he (L_inj' e)
        rw [if_pos ⟨rfl, he⟩]; simp [h2', hne]
  · rw [if_neg hd]
    cases h1 : a.2 <;> cases h2 : b.2 <;> simp_all
set_option maxRecDepth 100000 in
set_option maxHeartbeats 4000000 in
theorem wins_any (A : Option Addr) (c : Nat) (ks : List LK) (p q : Nat) (hp : p < ks.length) (hq : q < ks.length) (w : World) (hf : KsAt w A ks) (hn : ks.length ≤ 4294967295) :
    Calls Try.prog 44 #[.slice A ks.length c, .int .i64 p, .int .i64 q] w fun e w' => e = .returned (.bool (rw10 (kAt ks p) (kAt ks q) p q)) ∧ Below w.heap.size w w' := by
  rcases hf with h0 | ⟨b, off, rfl, hbl, hc⟩
  · subst h0; simp at hp
  obtain ⟨g0, g1⟩ := hc p hp
  obtain ⟨k0, k1⟩ := hc q hq
  rw [← kAt_lt hp] at g0 g1
  rw [← kAt_lt hq] at k0 k1
  clear hc
  have HV := Lib.hid (rfl : rw10 (kAt ks p) (kAt ks q) p q = rw10 (kAt ks p) (kAt ks q) p q)
  generalize kAt ks p = x at *
  generalize kAt ks q = y at *
  obtain ⟨x1, x2⟩ := x
  obtain ⟨y1, y2⟩ := y
  have hlp : (p : Int) < (ks.length : Int) := by omega
  have hlq : (q : Int) < (ks.length : Int) := by omega
  generalize ks.length = n at *
  obtain ⟨r, hr⟩ : ∃ r, rw10 (x1, x2) (y1, y2) p q = r := ⟨_, rfl⟩
  have HR := Lib.hid hr
  rw [hr]
  clear hr HV
  have hcs : (x2 = false ∧ y2 = true ∧ r = true) ∨ (x2 = true ∧ y2 = false ∧ r = false) ∨ (x2 = true ∧ y2 = true ∧ r = decide (p < q)) ∨ (x2 = false ∧ y2 = false ∧ x1 = y1 ∧ r = decide (p < q)) ∨ (x2 = false ∧ y2 = false ∧ x1 ≠ y1 ∧ Op.bytesLess x1.toList y1.toList = r) := by
    have h := HR.out
    unfold rw10 at h
    rw [less_L]
    cases x2 <;> cases y2
    · by_cases he : x1 = y1
      · simp [he] at h; exact .inr (.inr (.inr (.inl ⟨rfl, rfl, he, h.symm⟩)))
      · simp [he] at h; exact .inr (.inr (.inr (.inr ⟨rfl, rfl, he, h⟩)))
    · simp at h; exact .inl ⟨rfl, rfl, h⟩
    · simp at h; exact .inr (.inl ⟨rfl, rfl, h⟩)
    · simp at h; exact .inr (.inr (.inl ⟨rfl, rfl, h.symm⟩))
  clear HR
  rcases hcs with ⟨rfl, rfl, rfl⟩ | ⟨rfl, rfl, rfl⟩ | ⟨rfl, rfl, hr⟩ | ⟨rfl, rfl, rfl, hr⟩ | ⟨rfl, rfl, hne, hless⟩
  · go_enter Try.func44, Try.ntmps44
    go_wp2_with fail
    go_region_held3 (fun w' => w'.cell? ⟨b, off + p * 2, none⟩ = some (.string x1) ∧ w'.cell? ⟨b, off + p * 2 + 1, none⟩ = some (.bool false) ∧ w'.cell? ⟨b, off + q * 2, none⟩ = some (.string y1) ∧ w'.cell? ⟨b, off + q * 2 + 1, none⟩ = some (.bool true))
      (first
        | go_keep
        | exact ⟨g0, g1, k0, k1⟩)
      (fail)
    all_goals
      go_wp2_with fail
      all_goals
        go_ret
        exact ⟨retB (by first | rfl | exact HR.out.symm | (rw [HR.out]; simp; done) | (rw [HR.out]; simp; omega)), (alloc2_below _ _ _).drew⟩
  · go_enter Try.func44, Try.ntmps44
    go_wp2_with fail
    go_region_held3 (fun w' => w'.cell? ⟨b, off + p * 2, none⟩ = some (.string x1) ∧ w'.cell? ⟨b, off + p * 2 + 1, none⟩ = some (.bool true) ∧ w'.cell? ⟨b, off + q * 2, none⟩ = some (.string y1) ∧ w'.cell? ⟨b, off + q * 2 + 1, none⟩ = some (.bool false))
      (first
        | go_keep
        | exact ⟨g0, g1, k0, k1⟩)
      (fail)
    all_goals
      go_wp2_with fail
      all_goals
        go_ret
        exact ⟨retB (by first | rfl | exact HR.out.symm | (rw [HR.out]; simp; done) | (rw [HR.out]; simp; omega)), (alloc2_below _ _ _).drew⟩
  · have HR := Lib.hid hr
    clear hr
    go_enter Try.func44, Try.ntmps44
    go_wp2_with fail
    go_region_held3 (fun w' => w'.cell? ⟨b, off + p * 2, none⟩ = some (.string x1) ∧ w'.cell? ⟨b, off + p * 2 + 1, none⟩ = some (.bool true) ∧ w'.cell? ⟨b, off + q * 2, none⟩ = some (.string y1) ∧ w'.cell? ⟨b, off + q * 2 + 1, none⟩ = some (.bool true))
      (first
        | go_keep
        | exact ⟨g0, g1, k0, k1⟩)
      (fail)
    all_goals
      go_wp2_with fail
      all_goals
        go_ret
        exact ⟨retB (by first | rfl | exact HR.out.symm | (rw [HR.out]; simp; done) | (rw [HR.out]; simp; omega)), (alloc2_below _ _ _).drew⟩
  · have HR := Lib.hid hr
    clear hr
    go_enter Try.func44, Try.ntmps44
    go_wp2_with fail
    go_region_held3 (fun w' => w'.cell? ⟨b, off + p * 2, none⟩ = some (.string x1) ∧ w'.cell? ⟨b, off + p * 2 + 1, none⟩ = some (.bool false) ∧ w'.cell? ⟨b, off + q * 2, none⟩ = some (.string x1) ∧ w'.cell? ⟨b, off + q * 2 + 1, none⟩ = some (.bool false))
      (first
        | go_keep
        | exact ⟨g0, g1, k0, k1⟩)
      (fail)
    all_goals
      go_wp2_with fail
      all_goals
        go_ret
        exact ⟨retB (by first | rfl | exact HR.out.symm | (rw [HR.out]; simp; done) | (rw [HR.out]; simp; omega)), (alloc2_below _ _ _).drew⟩
  · have z1 := str_beq_ne hne
    clear hne
    go_enter Try.func44, Try.ntmps44
    go_wp2_with fail
    go_region_held3 (fun w' => w'.cell? ⟨b, off + p * 2, none⟩ = some (.string x1) ∧ w'.cell? ⟨b, off + p * 2 + 1, none⟩ = some (.bool false) ∧ w'.cell? ⟨b, off + q * 2, none⟩ = some (.string y1) ∧ w'.cell? ⟨b, off + q * 2 + 1, none⟩ = some (.bool false))
      (first
        | go_keep
        | exact ⟨g0, g1, k0, k1⟩)
      (fail)
    all_goals
      go_wp2_with fail
      all_goals
        go_ret
        exact ⟨retB (by first | rfl | exact HR.out.symm | (rw [HR.out]; simp; done) | (rw [HR.out]; simp; omega)), (alloc2_below _ _ _).drew⟩
end Go.Proofs.Ythmipjlmmgdpmaa.KK
