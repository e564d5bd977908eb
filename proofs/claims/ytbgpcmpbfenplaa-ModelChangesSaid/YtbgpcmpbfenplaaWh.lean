/-
  ModelChanges: the walk.
-/
import Derived.Test.YtbgpcmpbfenplaaWg
import Derived.Deep.RegionHeld3
namespace Go.Proofs.Ytbgpcmpbfenplaa.KK
open Go.ChangeShapes Go.WideShapes Go.ChangeAt Go.RowKit Go.Proofs

theorem diffq_out (A B : Option Addr) (c c2 : Nat) (xs ys : List Pr) (w : World) (hf : PsAt w A xs) (hn : xs.length ≤ 4294967295) (hs : SizedP xs) (hg : PsAt w B ys) (hn2 : ys.length ≤ 4294967295) (hs2 : SizedP ys) :
    Calls Try.prog 20 #[.slice A xs.length c, .slice B ys.length c2] w fun e w' => ∃ A5 c5, e = .returned (.tuple #[.slice A5 (diffM xs ys).length c5, .int .i64 (diffE xs ys)]) ∧ ItAt w' A5 (diffM xs ys) ∧ Below w.heap.size w w' := by
  refine (diff_any A B c c2 xs ys w hf hn hs hg hn2 hs2).mono ?_
  rintro e w' ⟨v, rfl, ho, hb⟩
  obtain ⟨A5, c5, hv5, _, _⟩ := own_cap2 ho
  subst hv5
  exact ⟨A5, c5, rfl, ItAt.of_own ho, hb⟩
theorem write_out (A B : Option Addr) (c c2 : Nat) (xs : List Pr) (ws : List Wr) (w : World) (hf : PsAt w A xs) (hA : A = none → c = 0) (hn : xs.length ≤ 4294967295) (hs : SizedP xs) (hg : WsAt w B ws) (hn2 : ws.length ≤ 4294967295) (hs2 : SizedW ws) :
    Calls Try.prog 41 #[.slice A xs.length c, .slice B ws.length c2] w fun e w' => ∃ A5 c5, e = .returned (.tuple #[.slice A5 (writeM xs ws).length c5, .int .i64 (writeE xs ws)]) ∧ PsAt w' A5 (writeM xs ws) ∧ (A5 = none → c5 = 0) ∧ Below w.heap.size w w' := by
  refine (write_any A B c c2 xs ws w hf hA hn hs hg hn2 hs2).mono ?_
  rintro e w' ⟨v, rfl, ho, hb⟩
  obtain ⟨A5, c5, hv5, _, hz5⟩ := own_cap2 ho
  subst hv5
  exact ⟨A5, c5, rfl, PsAt.of_own ho, hz5, hb⟩
theorem writeE_parts {xs : List Pr} {ws : List Wr} (h : writeE xs ws = 0) : (mapE xs).2 = 0 ∧ batchE ws = 0 := by
  have h1 : (mapE xs).2 = 0 := Classical.byContradiction fun n => by rw [writeE_map n] at h; exact n h
  exact ⟨h1, Classical.byContradiction fun n => by rw [writeE_batch h1 n] at h; exact n h⟩
theorem sizedP_ok {m : List Pr} (h : (mapE m).2 = 0) : SizedP m := fun x hx => by
  have := szE_of ((map_ok h).2.1 x hx)
  omega
/-- one write over a map that is in memory -/
theorem write_one (A B : Option Addr) (c c2 : Nat) (m : List Pr) (x : Wr) (w : World) (hm : (mapE m).2 = 0) (hl : m.length ≤ 3999) (hx : wrE x = 0) (hf : PsAt w A m) (hA : A = none → c = 0) (hg : WsAt w B [x]) :
    Calls Try.prog 41 #[.slice A m.length c, .slice B 1 c2] w fun e w' => ∃ A5 c5, e = .returned (.tuple #[.slice A5 (putP m x).length c5, .int .i64 0]) ∧ PsAt w' A5 (putP m x) ∧ (A5 = none → c5 = 0) ∧ Below w.heap.size w w' := by
  obtain ⟨h1, h2, _⟩ := step_ok hm hl hx
  have hz := szE_of (wrE_sz0 hx)
  have K := write_out A B c c2 m [x] w hf hA (by omega) (sizedP_ok hm) hg (by simp) (fun y hy => by rw [List.mem_singleton] at hy; subst hy; omega)
  rw [h1, h2] at K
  exact K
theorem ws_new {w w' : World} {k v : ByteArray} {b : Bool} (hb : Below (w.alloc (.cells #[.string k, .string v, .bool b] 76)).heap.size (w.alloc (.cells #[.string k, .string v, .bool b] 76)) w') : WsAt w' (some ⟨w.heap.size, 0, none⟩) [(k, v, b)] := by
  refine WsAt.below (B := (w.alloc (.cells #[.string k, .string v, .bool b] 76)).heap.size) ?_ hb (Nat.le_refl _)
  refine .inr ⟨w.heap.size, 0, rfl, by simp, fun i hi => ?_⟩
  have h0 : i = 0 := by simpa using hi
  subst h0
  simp
theorem ws_at {w : World} {D : Option Addr} {ls : List Wr} {k : Nat} (h : WsAt w D ls) (hk : k < ls.length) : ∃ b off, D = some ⟨b, off, none⟩ ∧ b < w.heap.size ∧ ∀ {w' : World}, Below w.heap.size w w' → WsAt w' (some ⟨b, off + k * 3, none⟩) [ls[k]] := by
  rcases h with h | ⟨b, off, rfl, hlt, hc⟩
  · subst h; cases hk
  · refine ⟨b, off, rfl, hlt, fun hb => ?_⟩
    refine WsAt.below (w := w) (B := w.heap.size) ?_ hb (Nat.le_refl _)
    refine .inr ⟨b, off + k * 3, rfl, hlt, fun i hi => ?_⟩
    have h0 : i = 0 := by simpa using hi
    subst h0
    simpa using hc k hk
set_option maxRecDepth 100000 in
set_option maxHeartbeats 8000000 in
theorem Changes_any (A : Option Addr) (c : Nat) (xs : List Pr) (B : Option Addr) (c2 : Nat) (ys : List Pr) (D : Option Addr) (c3 : Nat) (ls : List Wr) (w : World) (hf : PsAt w A xs) (hn : xs.length ≤ 9223372036854775807) (hs : SizedP xs) (hA : A = none → c = 0) (hg : PsAt w B ys) (hn2 : ys.length ≤ 9223372036854775807) (hs2 : SizedP ys) (hl : WsAt w D ls) (hn3 : ls.length ≤ 9223372036854775807) (hs3 : SizedW ls) (hc3 : ls.length ≤ c3) :
    Calls Try.prog 8 #[.slice A xs.length c, .slice B ys.length c2, .slice D ls.length c3] w fun e w' => e = .returned (.bool true) ∧ Below w.heap.size w w' := by
  have JF1 := Lib.hid (far_any A c xs w hf hn hs)
  have JF2 := Lib.hid (fun w1 (hb : Below w.heap.size w w1) => far_any B c2 ys w1 (hg.below hb (Nat.le_refl _)) hn2 hs2)
  have JW := Lib.hid (fun w1 (hb : Below w.heap.size w w1) => wide_any D c3 ls w1 (hl.below hb (Nat.le_refl _)) hn3 hs3)
  have JA := Lib.hid (fun w1 => awake_any w1)
  have J1 := Lib.hid (fun (h : xs.length ≤ 60) (h2 : ys.length ≤ 60) w1 (hb : Below w.heap.size w w1) => diffq_out A B c c2 xs ys w1 (hf.below hb (Nat.le_refl _)) (by omega) hs (hg.below hb (Nat.le_refl _)) (by omega) hs2)
  have J2 := Lib.hid (fun (h : xs.length ≤ 60) (h2 : ls.length ≤ 12) w1 (hb : Below w.heap.size w w1) => write_out A D c c3 xs ls w1 (hf.below hb (Nat.le_refl _)) hA (by omega) hs (hl.below hb (Nat.le_refl _)) (by omega) hs3)
  have JS := Lib.hid (fun w1 (hb : Below w.heap.size w w1) => sameP_any A B c c2 xs ys w1 (hf.below hb (Nat.le_refl _)) (hg.below hb (Nat.le_refl _)) hn hn2)
  have JY := Lib.hid (fun M cm (m : List Pr) (hm : m.length ≤ 4000) (he : m = ys) w1 (hb : Below w.heap.size w w1) (h : PsAt w1 M m) => by
    have K := sameP_any M B cm c2 m ys w1 h (hg.below hb (Nat.le_refl _)) (by omega) hn2
    rw [decide_eq_true he] at K
    exact K)
  have HF := Lib.hid hf
  have HL := Lib.hid hl
  have HAN := Lib.hid hA
  clear hf hs hg hs2 hl hs3 hA
  go_enter Try.func8, Try.ntmps8
  go_wp2_with fail
  refine JF1.out.mono ?_
  rintro e w1 ⟨ba, rfl, hb5, hb⟩
  have HB := Lib.hid hb
  clear hb hb5
  cases ba with
  | true =>
    go_wp2_with fail
    refine (JA.out _).mono ?_
    rintro e w99 ⟨rfl, hb⟩
    have HBz := Lib.hid (eb_of HB.out hb (Nat.le_refl _))
    clear hb
    go_wp2_with fail
    go_ret
    exact ⟨by first | rfl | simp, HBz.out⟩
  | false =>
    go_wp2_with fail
    refine (JF2.out _ HB.out).mono ?_
    rintro e w2 ⟨bb, rfl, hb5, hb⟩
    have HB := Lib.hid (eb_of HB.out hb (Nat.le_refl _))
    clear hb hb5
    cases bb with
    | true =>
      go_wp2_with fail
      refine (JA.out _).mono ?_
      rintro e w99 ⟨rfl, hb⟩
      have HBz := Lib.hid (eb_of HB.out hb (Nat.le_refl _))
      clear hb
      go_wp2_with fail
      go_ret
      exact ⟨by first | rfl | simp, HBz.out⟩
    | false =>
      go_wp2_with fail
      refine (JW.out _ HB.out).mono ?_
      rintro e w3 ⟨rfl, hb⟩
      have HB := Lib.hid (eb_of HB.out hb (Nat.le_refl _))
      clear hb
      cases hw : wideE ls with
      | true =>
        go_wp2_with fail
        refine (JA.out _).mono ?_
        rintro e w99 ⟨rfl, hb⟩
        have HBz := Lib.hid (eb_of HB.out hb (Nat.le_refl _))
        clear hb
        go_wp2_with fail
        go_ret
        exact ⟨by first | rfl | simp, HBz.out⟩
      | false =>
        have h12 := wide_len hw
        clear hw
        by_cases q1 : 60 < xs.length
        · have q1' : (60 : Int) < (xs.length : Int) := by omega
          go_wp2_with fail
          refine (JA.out _).mono ?_
          rintro e w99 ⟨rfl, hb⟩
          have HBz := Lib.hid (eb_of HB.out hb (Nat.le_refl _))
          clear hb
          go_wp2_with fail
          go_ret
          exact ⟨by first | rfl | simp, HBz.out⟩
        have q1' : ¬ (60 : Int) < (xs.length : Int) := by omega
        by_cases q2 : 60 < ys.length
        · have q2' : (60 : Int) < (ys.length : Int) := by omega
          go_wp2_with fail
          refine (JA.out _).mono ?_
          rintro e w99 ⟨rfl, hb⟩
          have HBz := Lib.hid (eb_of HB.out hb (Nat.le_refl _))
          clear hb
          go_wp2_with fail
          go_ret
          exact ⟨by first | rfl | simp, HBz.out⟩
        have q2' : ¬ (60 : Int) < (ys.length : Int) := by omega
        have hx60 : xs.length ≤ 60 := by omega
        have hy60 : ys.length ≤ 60 := by omega
        go_wp2_with fail
        refine (J1.out hx60 hy60 _ HB.out).mono ?_
        rintro e w4 ⟨X, cX, rfl, i1, hb⟩
        have HB := Lib.hid (eb_of HB.out hb (Nat.le_refl _))
        have HX := Lib.hid i1
        clear hb i1
        by_cases he : diffE xs ys = 0
        rotate_left
        · obtain ⟨b1, b2⟩ := ne_b he
          generalize diffE xs ys = de at *
          go_wp2_with fail
          refine (J2.out hx60 h12 _ HB.out).mono ?_
          rintro e wA ⟨Wn, cW, rfl, i2, z2, hb⟩
          have HBA := Lib.hid (eb_of HB.out hb (Nat.le_refl _))
          have HW := Lib.hid i2
          clear hb i2 z2
          by_cases hwe : writeE xs ls = 0
          rotate_left
          · obtain ⟨d1, d2⟩ := ne_b hwe
            have hwl : (writeM xs ls).length = 0 := by rw [writeM_no hwe]; rfl
            rw [hwl]
            have HB := HBA
            generalize writeE xs ls = we at *
            go_wp2_with fail
            refine (JA.out _).mono ?_
            rintro e w99 ⟨rfl, hb⟩
            have HBz := Lib.hid (eb_of HB.out hb (Nat.le_refl _))
            clear hb
            go_wp2_with fail
            go_ret
            exact ⟨by first | rfl | simp, HBz.out⟩
          obtain ⟨p1, p2⟩ := writeE_parts hwe
          obtain ⟨_, p3, p4⟩ := batch_ok p2
          have HM : Hid (writeM xs ls = upTo xs ls ls.length) := Lib.hid (by unfold writeM upTo; rw [if_pos hwe, List.take_length])
          rw [hwe]
          have HOK := Lib.hid (upTo_ok p1 (by omega) p4)
          clear hwe p1 p2
          go_wp2_with fail
          go_loopw [15, 16] (fun a i wr => ∃ (k : Nat) (M : Option Addr) (cm : Nat), k ≤ ls.length ∧ a = .slice M (upTo xs ls k).length cm ∧ i = .int .i64 k ∧ PsAt wr M (upTo xs ls k) ∧ (M = none → cm = 0) ∧ Below wA.heap.size wA wr) (fun _ i _ => ls.length - (intOf i).toNat)
          case atStart => exact ⟨0, A, c, by omega, rfl, rfl, HF.out.below HBA.out (Nat.le_refl _), HAN.out, Below.refl _ _⟩
          case round =>
            obtain ⟨k, M, cm, hk, rfl, rfl, hps, hz, hb⟩ := hrel
            have HBr := Lib.hid hb
            have HBw := Lib.hid (eb_of HBA.out hb (Nat.le_refl _))
            have HP := Lib.hid hps
            have HZ := Lib.hid hz
            clear hb hps hz
            by_cases hlt : k < ls.length
            · obtain ⟨bD, offD, rfl, hbD, hD⟩ := ws_at HL.out hlt
              have JO := Lib.hid (write_one M (some ⟨bD, offD + k * 3, none⟩) cm (c3 - k) _ ls[k] wr (HOK.out k hk) (by have := @upTo_len xs ls k; omega) (p4 _ (List.getElem_mem hlt)) HP.out HZ.out (hD HBw.out))
              have HS := Lib.hid (upTo_succ (xs := xs) hlt)
              rw [← HS.out] at JO
              have k1 : ¬ c3 = k := by omega
              have k2 : (k : Int) ≤ (k : Int) + 1 := by omega
              have k3 : (k : Int) + 1 ≤ (c3 : Int) := by omega
              have k4 : ((k : Int) + 1).toNat = k + 1 := by omega
              have k5 : k + 1 - k = 1 := by omega
              have k6 : (0 : Int) ≤ (k : Int) + 1 := by omega
              have k7 : IntKind.i64.wrap ((k : Int) + 1) = (k : Int) + 1 := by rw [IntKind.wrap_i64]; omega
              clear hD
              go_wp2_with fail
              refine JO.out.mono ?_
              rintro e w5 ⟨M5, c5, rfl, hf5, hz5, hb5⟩
              have HB5 := Lib.hid (eb_of HBr.out hb5 (Nat.le_refl _))
              have HF5 := Lib.hid hf5
              have HZ5 := Lib.hid hz5
              clear hb5 hf5 hz5
              go_wp2_with fail
              go_roundw
              case rel => exact ⟨k + 1, M5, c5, by omega, rfl, by go_num, HF5.out, HZ5.out, HB5.out⟩
              case measure => simp [intOf]; omega
            · have hke : k = ls.length := by omega
              subst hke
              have JE := Lib.hid (sameP_any M Wn cm cW (upTo xs ls ls.length) (writeM xs ls) wr HP.out (HW.out.below HBr.out (Nat.le_refl _)) (by have := @upTo_len xs ls ls.length; omega) (by rw [HM.out]; have := @upTo_len xs ls ls.length; omega))
              rw [decide_eq_true HM.out.symm] at JE
              go_wp2_with fail
              refine JE.out.mono ?_
              rintro e w6 ⟨rfl, hb⟩
              have HB := Lib.hid (eb_of HBw.out hb (Nat.le_refl _))
              clear hb
              go_wp2_with fail
              refine (JA.out _).mono ?_
              rintro e w99 ⟨rfl, hb⟩
              have HBz := Lib.hid (eb_of HB.out hb (Nat.le_refl _))
              clear hb
              go_wp2_with fail
              go_ret
              exact ⟨by first | rfl | simp, HBz.out⟩
        obtain ⟨m1, m2⟩ := diffE_zero.1 he
        obtain ⟨_, u1, u2⟩ := map_ok m1
        obtain ⟨_, v1, v2⟩ := map_ok m2
        rw [he]
        have HDM : Hid (diffM xs ys = diffP xs ys) := Lib.hid (if_pos he)
        rw [HDM.out] at HX ⊢
        have hdl := diffP_len xs ys
        have HLD := Lib.hid (diffP_leads xs ys u2 v2)
        have HNIL := Lib.hid (diffP_nil u2 v2)
        have HIT := Lib.hid (fun i (h : i ∈ diffP xs ys) => item_write u1 v1 h)
        clear he m2 u1 v1 u2 v2 HDM
        generalize hd : diffP xs ys = d at *
        clear hd
        have HOK := Lib.hid (upTo_ok (ws := d.map itW) m1 (by rw [List.length_map]; omega) (fun x hx => by obtain ⟨i, hi, rfl⟩ := List.mem_map.1 hx; exact HIT.out i hi))
        clear m1
        go_wp2_with fail
        go_loopw [9, 10] (fun a i wr => ∃ (k : Nat) (M : Option Addr) (cm : Nat), k ≤ d.length ∧ a = .slice M (upTo xs (d.map itW) k).length cm ∧ i = .int .i64 k ∧ PsAt wr M (upTo xs (d.map itW) k) ∧ (M = none → cm = 0) ∧ Below w4.heap.size w4 wr) (fun _ i _ => d.length - (intOf i).toNat)
        case atStart => exact ⟨0, A, c, by omega, rfl, rfl, HF.out.below HB.out (Nat.le_refl _), HAN.out, Below.refl _ _⟩
        case round =>
          obtain ⟨k, M, cm, hk, rfl, rfl, hps, hz, hb⟩ := hrel
          have HBr := Lib.hid hb
          have HB := Lib.hid (eb_of HB.out hb (Nat.le_refl _))
          have HX := Lib.hid (HX.out.below hb (Nat.le_refl _))
          have HP := Lib.hid hps
          have HZ := Lib.hid hz
          clear hb hps hz
          by_cases hlt : k < d.length
          · rcases HX.out with h0 | ⟨bb, off, rfl, hbl, hcl⟩
            · subst h0; simp at hlt
            obtain ⟨g0, g1, g2, g3⟩ := hcl k hlt
            clear hcl g2
            have hlm : k < (d.map itW).length := by rw [List.length_map]; exact hlt
            have HS := Lib.hid (upTo_succ (xs := xs) hlm)
            have hwi := HIT.out _ (List.getElem_mem hlt)
            obtain ⟨kd, key, old, new, hxk⟩ : ∃ kd key old new, d[k] = (kd, key, old, new) := ⟨_, _, _, _, rfl⟩
            have hit : (d.map itW)[k] = (key, new, kd == 2) := by
              rw [List.getElem_map, hxk]; unfold itW; cases hc : (kd == 2) <;> simp_all
            rw [hxk] at g0 g1 g3
            simp only at g0 g1 g3
            rw [hit] at HS
            rw [show itW d[k] = (key, new, kd == 2) by rw [← hit, List.getElem_map]] at hwi
            clear hxk hit
            obtain ⟨mn, hmn⟩ : ∃ mn, upTo xs (d.map itW) (k + 1) = mn := ⟨_, rfl⟩
            have HMN := Lib.hid hmn
            rw [hmn] at HS
            clear hmn
            have hm := HOK.out k (by omega)
            have hml : (upTo xs (d.map itW) k).length ≤ 3999 := by have := @upTo_len xs (d.map itW) k; omega
            generalize upTo xs (d.map itW) k = m at *
            have JO := Lib.hid (fun w0 w1 (h : Below wr.heap.size wr w0) (h2 : Below (w0.alloc (.cells #[.string key, .string new, .bool (kd == 2)] 76)).heap.size (w0.alloc (.cells #[.string key, .string new, .bool (kd == 2)] 76)) w1) => (by
              have K := write_one M (some ⟨w0.heap.size, 0, none⟩) cm 1 m (key, new, kd == 2) w1 hm hml hwi (HP.out.below (eb_of h (eb_of (alloc_below w0 _) h2 (Nat.le_refl _)) (Nat.le_refl _)) (Nat.le_refl _)) HZ.out (ws_new h2)
              rw [← HS.out] at K
              exact K.mono fun (e : Ending) (w' : World) ⟨A5, c5, q1, q2, q3, q4⟩ => (⟨A5, c5, q1, q2, q3, eb_of h (eb_of (eb_of (alloc_below w0 _) h2 (Nat.le_refl _)) q4 (Nat.le_refl _)) (Nat.le_refl _)⟩ : ∃ A5 c5, e = Ending.returned (.tuple #[.slice A5 mn.length c5, .int .i64 0]) ∧ PsAt w' A5 mn ∧ (A5 = none → c5 = 0) ∧ Below wr.heap.size wr w')))
            have HK : Hid (∀ w', Below wr.heap.size wr w' → Below wr.heap.size wr w' ∧ w'.cell? ⟨bb, off + k * 4, none⟩ = some (.int .i64 kd) ∧ w'.cell? ⟨bb, off + k * 4 + 1, none⟩ = some (.string key) ∧ w'.cell? ⟨bb, off + k * 4 + 3, none⟩ = some (.string new)) := Lib.hid fun w' h => by
              have e : ∀ o, w'.cell? ⟨bb, o, none⟩ = wr.cell? ⟨bb, o, none⟩ := fun o => h.cell (p := ⟨bb, o, none⟩) (by simp; omega)
              rw [e, e, e]; exact ⟨h, g0, g1, g3⟩
            have HFr := Lib.hid (Below.refl wr.heap.size wr)
            clear hm hml hwi
            go_wp2_with fail
            go_region_held3 (fun w' => Below wr.heap.size wr w' ∧ w'.cell? ⟨bb, off + k * 4, none⟩ = some (.int .i64 kd) ∧ w'.cell? ⟨bb, off + k * 4 + 1, none⟩ = some (.string key) ∧ w'.cell? ⟨bb, off + k * 4 + 3, none⟩ = some (.string new))
              (first
                | (exact HK.out _ (by assumption))
                | (exact HK.out _ HFr.out)
                | (exact HK.out _ (eb_of (by assumption) (below_drewN' 1) (Nat.le_refl _)))
                | (exact HK.out _ (eb_of (by assumption) (alloc_below _ _) (Nat.le_refl _)))
                | (exact HK.out _ (eb_of (And.left (by assumption)) (alloc_below _ _) (Nat.le_refl _))))
              (first
                | (go_at_call 41; refine (JO.out _ _ (by first | assumption | exact HFr.out | exact eb_of (by assumption) (below_drewN' 1) (Nat.le_refl _) | exact And.left (by assumption)) (by first | exact Below.refl _ _ | exact below_drewN' 1)).mono ?_; rintro e w5 ⟨M5, c5, rfl, hf5, hz5, hb5⟩))
            all_goals
              have HB5 := Lib.hid (eb_of HBr.out (by assumption : Below wr.heap.size wr _) (Nat.le_refl _))
              have HF5 := Lib.hid hf5
              have HZ5 := Lib.hid hz5
              clear hf5 hz5
              go_wp2_with fail
              go_roundw
              case rel => exact ⟨k + 1, M5, c5, by omega, by rw [HMN.out], by go_num, by rw [HMN.out]; exact HF5.out, HZ5.out, HB5.out⟩
              case measure => simp [intOf]; omega
          · have hke : k = d.length := by omega
            subst hke
            have hfin : upTo xs (d.map itW) d.length = ys := by
              have := HLD.out
              unfold upTo; rw [← List.length_map (f := itW), List.take_length]; exact this
            have hml : (upTo xs (d.map itW) d.length).length ≤ 4000 := by have := @upTo_len xs (d.map itW) d.length; omega
            have JE := Lib.hid (fun w1 h => JY.out M cm _ hml hfin w1 h)
            clear hfin hml
            generalize upTo xs (d.map itW) d.length = mz at *
            generalize mz.length = nz at *
            have HQ : Hid (((d.length : Int) == 0) = decide (xs = ys)) := Lib.hid (by
              by_cases h0 : d = []
              · rw [decide_eq_true (HNIL.out.1 h0), h0]; rfl
              · rw [decide_eq_false (fun e => h0 (HNIL.out.2 e)), beq_eq_false_iff_ne]
                intro e
                exact h0 (List.eq_nil_of_length_eq_zero (by omega)))
            have HQ2 := HQ.out
            cases hqq : decide (xs = ys) with
            | true =>
              rw [hqq] at HQ2 JS
              have hz0 : (d.length : Int) = 0 := by simpa using HQ2
              go_wp2_with fail
              refine (JE.out _ HB.out HP.out).mono ?_
              rintro e w7 ⟨rfl, hb⟩
              have HB := Lib.hid (eb_of HB.out hb (Nat.le_refl _))
              clear hb
              go_wp2_with fail
              refine (JS.out _ HB.out).mono ?_
              rintro e w8 ⟨rfl, hb⟩
              have HB := Lib.hid (eb_of HB.out hb (Nat.le_refl _))
              clear hb
              go_wp2_with fail
              refine (J2.out hx60 h12 _ HB.out).mono ?_
              rintro e wA ⟨Wn, cW, rfl, i2, z2, hb⟩
              have HBA := Lib.hid (eb_of HB.out hb (Nat.le_refl _))
              have HW := Lib.hid i2
              clear hb i2 z2
              by_cases hwe : writeE xs ls = 0
              rotate_left
              · obtain ⟨d1, d2⟩ := ne_b hwe
                have hwl : (writeM xs ls).length = 0 := by rw [writeM_no hwe]; rfl
                rw [hwl]
                have HB := HBA
                generalize writeE xs ls = we at *
                go_wp2_with fail
                refine (JA.out _).mono ?_
                rintro e w99 ⟨rfl, hb⟩
                have HBz := Lib.hid (eb_of HB.out hb (Nat.le_refl _))
                clear hb
                go_wp2_with fail
                go_ret
                exact ⟨by first | rfl | simp, HBz.out⟩
              obtain ⟨p1, p2⟩ := writeE_parts hwe
              obtain ⟨_, p3, p4⟩ := batch_ok p2
              have HM : Hid (writeM xs ls = upTo xs ls ls.length) := Lib.hid (by unfold writeM upTo; rw [if_pos hwe, List.take_length])
              rw [hwe]
              have HOK := Lib.hid (upTo_ok p1 (by omega) p4)
              clear hwe p1 p2
              go_wp2_with fail
              go_loopw [15, 16] (fun a i wr => ∃ (k : Nat) (M : Option Addr) (cm : Nat), k ≤ ls.length ∧ a = .slice M (upTo xs ls k).length cm ∧ i = .int .i64 k ∧ PsAt wr M (upTo xs ls k) ∧ (M = none → cm = 0) ∧ Below wA.heap.size wA wr) (fun _ i _ => ls.length - (intOf i).toNat)
              case atStart => exact ⟨0, A, c, by omega, rfl, rfl, HF.out.below HBA.out (Nat.le_refl _), HAN.out, Below.refl _ _⟩
              case round =>
                obtain ⟨k, M, cm, hk, rfl, rfl, hps, hz, hb⟩ := hrel
                have HBr := Lib.hid hb
                have HBw := Lib.hid (eb_of HBA.out hb (Nat.le_refl _))
                have HP := Lib.hid hps
                have HZ := Lib.hid hz
                clear hb hps hz
                by_cases hlt : k < ls.length
                · obtain ⟨bD, offD, rfl, hbD, hD⟩ := ws_at HL.out hlt
                  have JO := Lib.hid (write_one M (some ⟨bD, offD + k * 3, none⟩) cm (c3 - k) _ ls[k] wr (HOK.out k hk) (by have := @upTo_len xs ls k; omega) (p4 _ (List.getElem_mem hlt)) HP.out HZ.out (hD HBw.out))
                  have HS := Lib.hid (upTo_succ (xs := xs) hlt)
                  rw [← HS.out] at JO
                  have k1 : ¬ c3 = k := by omega
                  have k2 : (k : Int) ≤ (k : Int) + 1 := by omega
                  have k3 : (k : Int) + 1 ≤ (c3 : Int) := by omega
                  have k4 : ((k : Int) + 1).toNat = k + 1 := by omega
                  have k5 : k + 1 - k = 1 := by omega
                  have k6 : (0 : Int) ≤ (k : Int) + 1 := by omega
                  have k7 : IntKind.i64.wrap ((k : Int) + 1) = (k : Int) + 1 := by rw [IntKind.wrap_i64]; omega
                  clear hD
                  go_wp2_with fail
                  refine JO.out.mono ?_
                  rintro e w5 ⟨M5, c5, rfl, hf5, hz5, hb5⟩
                  have HB5 := Lib.hid (eb_of HBr.out hb5 (Nat.le_refl _))
                  have HF5 := Lib.hid hf5
                  have HZ5 := Lib.hid hz5
                  clear hb5 hf5 hz5
                  go_wp2_with fail
                  go_roundw
                  case rel => exact ⟨k + 1, M5, c5, by omega, rfl, by go_num, HF5.out, HZ5.out, HB5.out⟩
                  case measure => simp [intOf]; omega
                · have hke : k = ls.length := by omega
                  subst hke
                  have JE := Lib.hid (sameP_any M Wn cm cW (upTo xs ls ls.length) (writeM xs ls) wr HP.out (HW.out.below HBr.out (Nat.le_refl _)) (by have := @upTo_len xs ls ls.length; omega) (by rw [HM.out]; have := @upTo_len xs ls ls.length; omega))
                  rw [decide_eq_true HM.out.symm] at JE
                  go_wp2_with fail
                  refine JE.out.mono ?_
                  rintro e w6 ⟨rfl, hb⟩
                  have HB := Lib.hid (eb_of HBw.out hb (Nat.le_refl _))
                  clear hb
                  go_wp2_with fail
                  refine (JA.out _).mono ?_
                  rintro e w99 ⟨rfl, hb⟩
                  have HBz := Lib.hid (eb_of HB.out hb (Nat.le_refl _))
                  clear hb
                  go_wp2_with fail
                  go_ret
                  exact ⟨by first | rfl | simp, HBz.out⟩
            | false =>
              rw [hqq] at HQ2 JS
              have hz0 : ¬ (d.length : Int) = 0 := by simpa using HQ2
              go_wp2_with fail
              refine (JE.out _ HB.out HP.out).mono ?_
              rintro e w7 ⟨rfl, hb⟩
              have HB := Lib.hid (eb_of HB.out hb (Nat.le_refl _))
              clear hb
              go_wp2_with fail
              refine (JS.out _ HB.out).mono ?_
              rintro e w8 ⟨rfl, hb⟩
              have HB := Lib.hid (eb_of HB.out hb (Nat.le_refl _))
              clear hb
              go_wp2_with fail
              refine (J2.out hx60 h12 _ HB.out).mono ?_
              rintro e wA ⟨Wn, cW, rfl, i2, z2, hb⟩
              have HBA := Lib.hid (eb_of HB.out hb (Nat.le_refl _))
              have HW := Lib.hid i2
              clear hb i2 z2
              by_cases hwe : writeE xs ls = 0
              rotate_left
              · obtain ⟨d1, d2⟩ := ne_b hwe
                have hwl : (writeM xs ls).length = 0 := by rw [writeM_no hwe]; rfl
                rw [hwl]
                have HB := HBA
                generalize writeE xs ls = we at *
                go_wp2_with fail
                refine (JA.out _).mono ?_
                rintro e w99 ⟨rfl, hb⟩
                have HBz := Lib.hid (eb_of HB.out hb (Nat.le_refl _))
                clear hb
                go_wp2_with fail
                go_ret
                exact ⟨by first | rfl | simp, HBz.out⟩
              obtain ⟨p1, p2⟩ := writeE_parts hwe
              obtain ⟨_, p3, p4⟩ := batch_ok p2
              have HM : Hid (writeM xs ls = upTo xs ls ls.length) := Lib.hid (by unfold writeM upTo; rw [if_pos hwe, List.take_length])
              rw [hwe]
              have HOK := Lib.hid (upTo_ok p1 (by omega) p4)
              clear hwe p1 p2
              go_wp2_with fail
              go_loopw [15, 16] (fun a i wr => ∃ (k : Nat) (M : Option Addr) (cm : Nat), k ≤ ls.length ∧ a = .slice M (upTo xs ls k).length cm ∧ i = .int .i64 k ∧ PsAt wr M (upTo xs ls k) ∧ (M = none → cm = 0) ∧ Below wA.heap.size wA wr) (fun _ i _ => ls.length - (intOf i).toNat)
              case atStart => exact ⟨0, A, c, by omega, rfl, rfl, HF.out.below HBA.out (Nat.le_refl _), HAN.out, Below.refl _ _⟩
              case round =>
                obtain ⟨k, M, cm, hk, rfl, rfl, hps, hz, hb⟩ := hrel
                have HBr := Lib.hid hb
                have HBw := Lib.hid (eb_of HBA.out hb (Nat.le_refl _))
                have HP := Lib.hid hps
                have HZ := Lib.hid hz
                clear hb hps hz
                by_cases hlt : k < ls.length
                · obtain ⟨bD, offD, rfl, hbD, hD⟩ := ws_at HL.out hlt
                  have JO := Lib.hid (write_one M (some ⟨bD, offD + k * 3, none⟩) cm (c3 - k) _ ls[k] wr (HOK.out k hk) (by have := @upTo_len xs ls k; omega) (p4 _ (List.getElem_mem hlt)) HP.out HZ.out (hD HBw.out))
                  have HS := Lib.hid (upTo_succ (xs := xs) hlt)
                  rw [← HS.out] at JO
                  have k1 : ¬ c3 = k := by omega
                  have k2 : (k : Int) ≤ (k : Int) + 1 := by omega
                  have k3 : (k : Int) + 1 ≤ (c3 : Int) := by omega
                  have k4 : ((k : Int) + 1).toNat = k + 1 := by omega
                  have k5 : k + 1 - k = 1 := by omega
                  have k6 : (0 : Int) ≤ (k : Int) + 1 := by omega
                  have k7 : IntKind.i64.wrap ((k : Int) + 1) = (k : Int) + 1 := by rw [IntKind.wrap_i64]; omega
                  clear hD
                  go_wp2_with fail
                  refine JO.out.mono ?_
                  rintro e w5 ⟨M5, c5, rfl, hf5, hz5, hb5⟩
                  have HB5 := Lib.hid (eb_of HBr.out hb5 (Nat.le_refl _))
                  have HF5 := Lib.hid hf5
                  have HZ5 := Lib.hid hz5
                  clear hb5 hf5 hz5
                  go_wp2_with fail
                  go_roundw
                  case rel => exact ⟨k + 1, M5, c5, by omega, rfl, by go_num, HF5.out, HZ5.out, HB5.out⟩
                  case measure => simp [intOf]; omega
                · have hke : k = ls.length := by omega
                  subst hke
                  have JE := Lib.hid (sameP_any M Wn cm cW (upTo xs ls ls.length) (writeM xs ls) wr HP.out (HW.out.below HBr.out (Nat.le_refl _)) (by have := @upTo_len xs ls ls.length; omega) (by rw [HM.out]; have := @upTo_len xs ls ls.length; omega))
                  rw [decide_eq_true HM.out.symm] at JE
                  go_wp2_with fail
                  refine JE.out.mono ?_
                  rintro e w6 ⟨rfl, hb⟩
                  have HB := Lib.hid (eb_of HBw.out hb (Nat.le_refl _))
                  clear hb
                  go_wp2_with fail
                  refine (JA.out _).mono ?_
                  rintro e w99 ⟨rfl, hb⟩
                  have HBz := Lib.hid (eb_of HB.out hb (Nat.le_refl _))
                  clear hb
                  go_wp2_with fail
                  go_ret
                  exact ⟨by first | rfl | simp, HBz.out⟩
end Go.Proofs.Ytbgpcmpbfenplaa.KK
