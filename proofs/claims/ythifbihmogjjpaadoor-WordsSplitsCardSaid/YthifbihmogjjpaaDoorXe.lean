/-
  The contract of the reference's Unquote.
-/
import Derived.Test.YthifbihmogjjpaaDoorXd
namespace Go.Proofs.YthifbihmogjjpaaDoor.Pl
open Go.Lib
theorem rq_pos {l : List UInt8} {t : List UInt8} {m : Nat} (h : rq l = some (t, m)) : 1 ≤ m := by
  cases l with
  | nil => cases h
  | cons c r =>
    rw [rq] at h
    by_cases hc : c = 34
    · rw [if_pos hc] at h
      cases hb : bq r with
      | none => rw [hb] at h; cases h
      | some x =>
        obtain ⟨t', m'⟩ := x
        rw [hb] at h
        simp only [Option.some.injEq, Prod.mk.injEq] at h
        omega
    · rw [if_neg hc] at h; cases h
theorem unq_rqN (s : ByteArray) (h : ¬ rqN (L s) = 0) (h2 : rqN (L s) = s.size) : unq (L s) = some (rqT (L s)) := by
  cases hr : rq (L s) with
  | none => exact absurd (rqT_none hr).2 h
  | some x =>
    obtain ⟨t, m⟩ := x
    obtain ⟨e1, e2⟩ := rqT_some hr
    rw [e1]
    unfold unq
    rw [hr]
    simp only
    rw [if_pos (by rw [L_length]; omega)]
theorem unq_rqN_no (s : ByteArray) (h : rqN (L s) = 0 ∨ ¬ rqN (L s) = s.size) : unq (L s) = none := by
  unfold unq
  cases hr : rq (L s) with
  | none => rfl
  | some x =>
    obtain ⟨t, m⟩ := x
    obtain ⟨e1, e2⟩ := rqT_some hr
    have := rq_pos hr
    simp only
    rw [if_neg (by rw [L_length]; omega)]
theorem rqN_le (s : ByteArray) : rqN (L s) ≤ s.size + 1 := by
  cases hr : rq (L s) with
  | none => rw [(rqT_none hr).2]; omega
  | some x =>
    obtain ⟨t, m⟩ := x
    rw [(rqT_some hr).2]
    have h := hr
    cases hl : L s with
    | nil => rw [hl] at h; cases h
    | cons c r =>
      rw [hl] at h
      rw [rq] at h
      by_cases hc : c = 34
      · rw [if_pos hc] at h
        cases hb : bq r with
        | none => rw [hb] at h; cases h
        | some x =>
          obtain ⟨t', m'⟩ := x
          rw [hb] at h
          simp only [Option.some.injEq, Prod.mk.injEq] at h
          have h1 := body_len _ _ hb
          have h2 : (L s).length = s.size := L_length s
          rw [hl, List.length_cons] at h2
          omega
      · rw [if_neg hc] at h; cases h
end Go.Proofs.YthifbihmogjjpaaDoor.Pl
namespace Go.Proofs.YthifbihmogjjpaaDoor
open Go.ChangeShapes Go.WideShapes Go.ChangeAt Go.RowKit Go.Proofs

set_option maxRecDepth 100000 in
theorem quoted_any (s : ByteArray) (w : World) (hs : s.size ≤ 4294967295) :
    Calls Tryd.prog 25 #[.string s] w fun e w' => e = .returned (.tuple #[.string ⟨(Pl.rqT (Pl.L s)).toArray⟩, .int .i64 (Pl.rqN (Pl.L s) : Int)]) ∧ Below w.heap.size w w' := by
  by_cases hk : 0 < s.size
  · by_cases hc : s[0] = 34
    · exact quoted_some s w hs hk hc
    · have q1 : ((s[0].toNat : Int) == 34) = false := Pl.num_ne _ 34 hc
      have q2 : ((s[0].toNat : Int) != 34) = true := Pl.num_bne _ 34 hc
      have qz : ((s.size : Int) == 0) = false := by rw [beq_eq_false_iff_ne]; omega
      have hr := Pl.rq_not s 0 hk hc
      rw [List.drop_zero] at hr
      have HR := Lib.hid (Pl.rqT_none hr)
      clear hr hc
      go_enter Tryd.func25, Tryd.ntmps25
      go_wp2_with fail
      go_ret2
      exact ⟨by rw [HR.out.1, HR.out.2]; rfl, Below.refl _ w⟩
  · have qz : ((s.size : Int) == 0) = true := by rw [beq_iff_eq]; omega
    have hr := Pl.rq_end s 0 (by omega)
    rw [List.drop_zero] at hr
    have HR := Lib.hid (Pl.rqT_none hr)
    clear hr
    go_enter Tryd.func25, Tryd.ntmps25
    go_wp2_with fail
    go_ret2
    exact ⟨by rw [HR.out.1, HR.out.2]; rfl, Below.refl _ w⟩

def unqV (o : Option (List UInt8)) : Value := match o with
  | some t => .tuple #[.string ⟨t.toArray⟩, .int .i64 0]
  | none => .tuple #[.string ⟨#[]⟩, .int .i64 6]

end Go.Proofs.YthifbihmogjjpaaDoor
