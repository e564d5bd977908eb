/-
  The contract of readSpan.
-/
import Derived.Test.YthifbihmogjjpaaDoorXu
namespace Go.Proofs.YthifbihmogjjpaaDoor
open Go.ChangeShapes Go.WideShapes Go.ChangeAt Go.RowKit Go.Proofs

def spV (x : List UInt8 × List UInt8) : Value := .agg #[.string ⟨x.1.toArray⟩, .string ⟨x.2.toArray⟩]
def rsV (r : Option (List UInt8 × List UInt8)) : Value := match r with
  | none => .tuple #[.agg #[.string ⟨#[]⟩, .string ⟨#[]⟩], .bool false]
  | some x => .tuple #[spV x, .bool true]
theorem nat_f (t : List UInt8) (w : World) (hs : t.length ≤ 4294967295) :
    Calls Tryd.prog 60 #[.string ⟨t.toArray⟩] w fun e w' => e = .returned (.bool (Pl.nat t)) ∧ w = w' := by
  have := isNatural_any ⟨t.toArray⟩ w (by rw [size_mk]; omega)
  rwa [L_mk] at this
theorem less_f (a b : List UInt8) (w : World) (ha : a.length ≤ 4294967295) (hb : b.length ≤ 4294967295) :
    Calls Tryd.prog 58 #[.string ⟨a.toArray⟩, .string ⟨b.toArray⟩] w fun e w' => e = .returned (.bool (Pl.lessB a b)) ∧ w = w' := by
  have := less_any ⟨a.toArray⟩ ⟨b.toArray⟩ w (by rw [size_mk]; omega) (by rw [size_mk]; omega)
  rwa [L_mk, L_mk] at this

theorem set2 {B : Nat} {w w' : World} {g : Nat} (hb : Below B w w') (hB : B ≤ g) (x y : Value) : Below B w ((w'.setCell ⟨g, 0, none⟩ x).setCell ⟨g, 1, none⟩ y) := (hb.setCell (p := ⟨g, 0, none⟩) hB _).setCell (p := ⟨g, 1, none⟩) hB _

set_option maxRecDepth 100000 in
set_option maxHeartbeats 1000000 in
theorem readSpan_any (t : List UInt8) (w : World) (he : Env w) (h4 : C4 w) (hs : t.length ≤ 4000000000) :
    Calls Tryd.prog 57 #[.string ⟨t.toArray⟩] w fun e w' => e = .returned (rsV (Pl.rs t)) ∧ Below w.heap.size w w' := by
  obtain ⟨⟨f, r, b⟩, hcut⟩ : ∃ y, Lib.cut t [45] = y := ⟨_, rfl⟩
  have hlen := Pl.cut_len t [45]
  rw [hcut] at hlen
  replace hlen : f.length ≤ t.length ∧ r.length ≤ t.length := hlen
  have K1 : ∀ w, C4 w → Calls Tryd.prog 72 #[.string ⟨t.toArray⟩, .string ⟨#[45]⟩] w fun e w' => e = .returned (.tuple #[.string ⟨f.toArray⟩, .string ⟨r.toArray⟩, .bool b]) ∧ ∃ n, w' = w.drewN n := fun w h4 => by
    obtain ⟨m, hm⟩ := h4
    refine (Tryd.strings_Cut ⟨t.toArray⟩ ⟨#[45]⟩ m w (by rw [size_mk]; omega) hm).mono ?_
    rintro e w' ⟨rfl, hw⟩
    have e1 : (⟨t.toArray⟩ : ByteArray).data.toList = t := by simp
    have e2 : (⟨#[45]⟩ : ByteArray).data.toList = [45] := rfl
    rw [e1, e2, hcut]
    exact ⟨rfl, hw⟩
  have J1 := Lib.hid K1
  have H4 := Lib.hid h4
  have HE := Lib.hid he
  have H4A : Hid (∀ o, C4 (w.alloc o)) := Lib.hid fun o => h4.below he ((Below.refl _ _).alloc (Nat.le_refl _) _)
  have NF := Lib.hid (fun w => nat_f f w (by omega))
  have NR := Lib.hid (fun w => nat_f r w (by omega))
  have LF := Lib.hid (fun w => less_f f r w (by omega) (by omega))
  clear K1 h4 he
  cases h1 : Pl.nat f with
  | false =>
    have HR := Lib.hid (Pl.rs_1 hcut h1)
    have NF2 : Hid (∀ w, Calls Tryd.prog 60 #[.string ⟨f.toArray⟩] w fun e w' => e = .returned (.bool false) ∧ w = w') := Lib.hid (by rw [← h1]; exact NF.out)
    clear hcut h1
    go_enter Tryd.func57, Tryd.ntmps57
    go_wp2_with fail
    refine (J1.out _ (H4A.out _)).mono ?_
    rintro e w1 ⟨rfl, n, rfl⟩
    go_wp2_with fail
    refine (NF2.out _).mono ?_
    rintro e w' ⟨rfl, rfl⟩
    go_wp2_with fail
    exact bodyPost_ret (v := .tuple #[.agg #[.string ⟨#[]⟩, .string ⟨#[]⟩], .bool false]) (by simp [results, Tryd.results57, go_sem]) rfl ⟨by rw [HR.out]; rfl, by first | exact set2 (below_drewN ((Below.refl w.heap.size w).alloc (Nat.le_refl _) _) _) (Nat.le_refl _) _ _ | exact below_drewN ((Below.refl w.heap.size w).alloc (Nat.le_refl _) _) _⟩
  | true =>
    have NF2 : Hid (∀ w, Calls Tryd.prog 60 #[.string ⟨f.toArray⟩] w fun e w' => e = .returned (.bool true) ∧ w = w') := Lib.hid (by rw [← h1]; exact NF.out)
    cases b with
    | false =>
      have HR := Lib.hid (Pl.rs_2 hcut h1 rfl)
      clear hcut h1
      go_enter Tryd.func57, Tryd.ntmps57
      go_wp2_with fail
      refine (J1.out _ (H4A.out _)).mono ?_
      rintro e w1 ⟨rfl, n, rfl⟩
      go_wp2_with fail
      refine (NF2.out _).mono ?_
      rintro e w' ⟨rfl, rfl⟩
      go_wp2_with fail
      exact bodyPost_ret (v := .tuple #[.agg #[.string ⟨f.toArray⟩, .string ⟨f.toArray⟩], .bool true]) (by simp [results, Tryd.results57, go_sem]) rfl ⟨by rw [HR.out]; rfl, by first | exact set2 (below_drewN ((Below.refl w.heap.size w).alloc (Nat.le_refl _) _) _) (Nat.le_refl _) _ _ | exact below_drewN ((Below.refl w.heap.size w).alloc (Nat.le_refl _) _) _⟩
    | true =>
      cases h3 : Pl.nat r with
      | false =>
        have HR := Lib.hid (Pl.rs_3 hcut h1 rfl h3)
        have NR2 : Hid (∀ w, Calls Tryd.prog 60 #[.string ⟨r.toArray⟩] w fun e w' => e = .returned (.bool false) ∧ w = w') := Lib.hid (by rw [← h3]; exact NR.out)
        clear hcut h1 h3
        go_enter Tryd.func57, Tryd.ntmps57
        go_wp2_with fail
        refine (J1.out _ (H4A.out _)).mono ?_
        rintro e w1 ⟨rfl, n, rfl⟩
        go_wp2_with fail
        refine (NF2.out _).mono ?_
        rintro e w' ⟨rfl, rfl⟩
        go_wp2_with fail
        refine (NR2.out _).mono ?_
        rintro e w' ⟨rfl, rfl⟩
        go_wp2_with fail
        exact bodyPost_ret (v := .tuple #[.agg #[.string ⟨#[]⟩, .string ⟨#[]⟩], .bool false]) (by simp [results, Tryd.results57, go_sem]) rfl ⟨by rw [HR.out]; rfl, by first | exact set2 (below_drewN ((Below.refl w.heap.size w).alloc (Nat.le_refl _) _) _) (Nat.le_refl _) _ _ | exact below_drewN ((Below.refl w.heap.size w).alloc (Nat.le_refl _) _) _⟩
      | true =>
        have NR2 : Hid (∀ w, Calls Tryd.prog 60 #[.string ⟨r.toArray⟩] w fun e w' => e = .returned (.bool true) ∧ w = w') := Lib.hid (by rw [← h3]; exact NR.out)
        cases h4 : Pl.lessB f r with
        | false =>
          have HR := Lib.hid (Pl.rs_4 hcut h1 rfl h3 h4)
          have LF2 : Hid (∀ w, Calls Tryd.prog 58 #[.string ⟨f.toArray⟩, .string ⟨r.toArray⟩] w fun e w' => e = .returned (.bool false) ∧ w = w') := Lib.hid (by rw [← h4]; exact LF.out)
          clear hcut h1 h3 h4
          go_enter Tryd.func57, Tryd.ntmps57
          go_wp2_with fail
          refine (J1.out _ (H4A.out _)).mono ?_
          rintro e w1 ⟨rfl, n, rfl⟩
          go_wp2_with fail
          refine (NF2.out _).mono ?_
          rintro e w' ⟨rfl, rfl⟩
          go_wp2_with fail
          refine (NR2.out _).mono ?_
          rintro e w' ⟨rfl, rfl⟩
          go_wp2_with fail
          refine (LF2.out _).mono ?_
          rintro e w' ⟨rfl, rfl⟩
          go_wp2_with fail
          exact bodyPost_ret (v := .tuple #[.agg #[.string ⟨#[]⟩, .string ⟨#[]⟩], .bool false]) (by simp [results, Tryd.results57, go_sem]) rfl ⟨by rw [HR.out]; rfl, by first | exact set2 (below_drewN ((Below.refl w.heap.size w).alloc (Nat.le_refl _) _) _) (Nat.le_refl _) _ _ | exact below_drewN ((Below.refl w.heap.size w).alloc (Nat.le_refl _) _) _⟩
        | true =>
          have HR := Lib.hid (Pl.rs_5 hcut h1 rfl h3 h4)
          have LF2 : Hid (∀ w, Calls Tryd.prog 58 #[.string ⟨f.toArray⟩, .string ⟨r.toArray⟩] w fun e w' => e = .returned (.bool true) ∧ w = w') := Lib.hid (by rw [← h4]; exact LF.out)
          clear hcut h1 h3 h4
          go_enter Tryd.func57, Tryd.ntmps57
          go_wp2_with fail
          refine (J1.out _ (H4A.out _)).mono ?_
          rintro e w1 ⟨rfl, n, rfl⟩
          go_wp2_with fail
          refine (NF2.out _).mono ?_
          rintro e w' ⟨rfl, rfl⟩
          go_wp2_with fail
          refine (NR2.out _).mono ?_
          rintro e w' ⟨rfl, rfl⟩
          go_wp2_with fail
          refine (LF2.out _).mono ?_
          rintro e w' ⟨rfl, rfl⟩
          go_wp2_with fail
          exact bodyPost_ret (v := .tuple #[.agg #[.string ⟨f.toArray⟩, .string ⟨r.toArray⟩], .bool true]) (by simp [results, Tryd.results57, go_sem]) rfl ⟨by rw [HR.out]; rfl, by first | exact set2 (below_drewN ((Below.refl w.heap.size w).alloc (Nat.le_refl _) _) _) (Nat.le_refl _) _ _ | exact below_drewN ((Below.refl w.heap.size w).alloc (Nat.le_refl _) _) _⟩
end Go.Proofs.YthifbihmogjjpaaDoor
