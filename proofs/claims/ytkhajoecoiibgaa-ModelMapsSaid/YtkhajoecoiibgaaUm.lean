/-
  The walk of ModelMaps.
-/
import Derived.Test.YtkhajoecoiibgaaUl
namespace Go.Proofs.Ytkhajoecoiibgaa.KK
open Go.ChangeShapes Go.WideShapes Go.ChangeAt Go.RowKit Go.Proofs

theorem wide_len {ws : List Wr} (h : wideE ws = false) : ws.length ≤ 12 := by
  unfold wideE at h
  have h1 : decide (12 < ws.length) = false := by
    cases g : decide (12 < ws.length) with
    | false => rfl
    | true => rw [g] at h; simp at h
  have := of_decide_eq_false h1
  omega
set_option maxRecDepth 100000 in
set_option maxHeartbeats 4000000 in
theorem Maps_any (A : Option Addr) (c : Nat) (xs : List Pr) (B : Option Addr) (c2 : Nat) (ws : List Wr) (w : World) (hf : PsAt w A xs) (hn : xs.length ≤ 9223372036854775807) (hs : SizedP xs) (hc : xs.length ≤ c) (hA : A = none → c = 0) (hg : WsAt w B ws) (hn2 : ws.length ≤ 9223372036854775807) (hs2 : SizedW ws) :
    Calls Try.prog 3 #[.slice A xs.length c, .slice B ws.length c2] w fun e w' => e = .returned (.bool true) ∧ Below w.heap.size w w' := by
  have JFar := Lib.hid (far_any A c xs w hf hn hs)
  have JWd := Lib.hid (fun (w' : World) (hb : Below w.heap.size w w') => wide_any B c2 ws w' (hg.below hb (Nat.le_refl _)) hn2 hs2)
  have JR : Hid (∀ w', Below w.heap.size w w' → Calls Try.prog 13 #[] w' fun e w'' => e = .returned (.bool true) ∧ Below w.heap.size w w'') := Lib.hid fun w' hb => (awake_any w').mono fun e w'' k => ⟨k.1, eb_of hb k.2 (Nat.le_refl _)⟩
  have JC := Lib.hid (fun (w' : World) (hb : Below w.heap.size w w') (h : xs.length ≤ 4005) => mCheck_any A c xs w' (hf.below hb (Nat.le_refl _)) (by omega) hs)
  have JRC := Lib.hid (fun (w' : World) (hb : Below w.heap.size w w') (h : xs.length ≤ 4005) => rfCheck_any A c xs w' (hf.below hb (Nat.le_refl _)) (by omega) hs)
  have JW := Lib.hid (fun (w' : World) (hb : Below w.heap.size w w') (h : xs.length ≤ 4005) (h2 : ws.length ≤ 12) => write_any A B c c2 xs ws w' (hf.below hb (Nat.le_refl _)) hA (by omega) hs (hg.below hb (Nat.le_refl _)) (by omega) hs2)
  have JRW := Lib.hid (fun (w' : World) (hb : Below w.heap.size w w') (h : xs.length ≤ 4005) (h2 : ws.length ≤ 12) => show Calls Try.prog 17 #[.slice A xs.length c, .slice B ws.length c2] w' (fun e w'' => ∃ A' c', e = .returned (.tuple #[.slice A' (writeM xs ws).length c', .int .i64 (writeE xs ws)]) ∧ PsAt w'' A' (writeM xs ws) ∧ Below w'.heap.size w' w'') from rWrite_any A B c c2 xs ws w' (hf.below hb (Nat.le_refl _)) hA hc (by omega) hs (hg.below hb (Nat.le_refl _)) (by omega) hs2)
  have JS := Lib.hid (fun (A1 A2 : Option Addr) (d1 d2 : Nat) (w' : World) (h1 : PsAt w' A1 (writeM xs ws)) (h2 : PsAt w' A2 (writeM xs ws)) (hl : (writeM xs ws).length ≤ 9223372036854775807) => (sameP_any A1 A2 d1 d2 _ _ w' h1 h2 hl hl).mono (fun e w'' k => And.intro (show e = .returned (.bool true) by rw [k.1]; simp) k.2))
  have HL := Lib.hid (fun (h : xs.length ≤ 4005) (h2 : ws.length ≤ 12) => show (writeM xs ws).length ≤ 9223372036854775807 from by
    unfold writeM
    split
    · have := putAll_len ws xs; omega
    · simp)
  have HWL := Lib.hid (wide_len (ws := ws))
  clear hf hg hs hs2 hA hc
  generalize wideE ws = bw at *
  generalize writeM xs ws = M at *
  go_enter Try.func3, Try.ntmps3
  go_wp2_with fail
  refine JFar.out.mono ?_
  rintro e w1 ⟨b, rfl, hb5, hb⟩
  have HB1 := Lib.hid hb
  have HB5 := Lib.hid hb5
  clear hb hb5 JFar
  cases b with
  | true =>
    go_wp2_with fail
    refine (JR.out _ HB1.out).mono ?_
    rintro e w2 ⟨rfl, hb⟩
    have HB2 := Lib.hid hb
    clear hb
    go_wp2_with fail
    go_ret
    exact ⟨rfl, HB2.out⟩
  | false =>
  go_wp2_with fail
  refine (JWd.out _ HB1.out).mono ?_
  rintro e w2 ⟨rfl, hb⟩
  have HB2 := Lib.hid (eb_of HB1.out hb (Nat.le_refl _))
  clear hb JWd HB1
  cases bw with
  | true =>
    go_wp2_with fail
    refine (JR.out _ HB2.out).mono ?_
    rintro e w3 ⟨rfl, hb⟩
    have HB3 := Lib.hid hb
    clear hb
    go_wp2_with fail
    go_ret
    exact ⟨rfl, HB3.out⟩
  | false =>
  have H5 := Lib.hid (HB5.out (by first | rfl | trivial))
  have H12 := Lib.hid (HWL.out (by first | rfl | trivial))
  clear HB5 HWL
  go_wp2_with fail
  refine (JC.out _ HB2.out H5.out).mono ?_
  rintro e w3 ⟨rfl, hb⟩
  have HB3 := Lib.hid (eb_of HB2.out hb (Nat.le_refl _))
  clear hb JC HB2
  go_wp2_with fail
  refine (JRC.out _ HB3.out H5.out).mono ?_
  rintro e w4 ⟨rfl, hb⟩
  have HB4 := Lib.hid (eb_of HB3.out hb (Nat.le_refl _))
  clear hb JRC HB3
  generalize (mapE xs).1 = r1 at *
  generalize (mapE xs).2 = r2 at *
  go_wp2_with fail
  refine (JW.out _ HB4.out H5.out H12.out).mono ?_
  rintro e w5 ⟨v5, rfl, ho, hb⟩
  obtain ⟨A5, c5, rfl, _⟩ := own_slice ho
  have HP5 := Lib.hid (PsAt.of_own ho)
  have HB5 := Lib.hid (eb_of HB4.out hb (Nat.le_refl _))
  clear hb JW HB4 ho
  go_wp2_with fail
  refine (JRW.out _ HB5.out H5.out H12.out).mono ?_
  rintro e w6 ⟨A6, c6, rfl, hp6, hb⟩
  have HP6 := Lib.hid hp6
  have HP56 := Lib.hid (HP5.out.below hb (Nat.le_refl _))
  have HB6 := Lib.hid (eb_of HB5.out hb (Nat.le_refl _))
  clear hb JRW HB5 HP5 hp6
  have JS6 := Lib.hid (JS.out A5 A6 c5 c6 w6 HP56.out HP6.out (HL.out H5.out H12.out))
  clear JS
  go_wp2_with fail
  refine JS6.out.mono ?_
  rintro e w7 ⟨rfl, hb⟩
  have HB7 := Lib.hid (eb_of HB6.out hb (Nat.le_refl _))
  clear hb HB6 JS6
  go_wp2_with fail
  refine (JR.out _ HB7.out).mono ?_
  rintro e w8 ⟨rfl, hb⟩
  have HB8 := Lib.hid hb
  clear hb
  go_wp2_with fail
  go_ret
  exact ⟨rfl, HB8.out⟩
end Go.Proofs.Ytkhajoecoiibgaa.KK
