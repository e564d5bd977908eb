/-
  Merges: Far.
-/
import Derived.Test.YtebjhjmlpodkgaaOv
import Derived.IntWalk
namespace Go.Proofs.Ytebjhjmlpodkgaa.KK
open Go.ChangeShapes Go.WideShapes Go.ChangeAt Go.RowKit Go.Proofs

theorem ba_nil {s : ByteArray} (h : s.size = 0) : s = ⟨#[]⟩ := by
  cases s with
  | mk d => congr; exact Array.eq_empty_of_size_eq_zero h
/-- runs that are looked at -/
def NearR (rs : List Rn) : Prop := rs.length ≤ 34 ∧ ∀ r ∈ rs, r.2.2.length ≤ 5005
def FarOutR (rs : List Rn) (w : World) (e : Ending) (w' : World) : Prop := ∃ b, e = .returned (.bool b) ∧ (b = false → NearR rs) ∧ Below w.heap.size w w'
theorem FarOutR.yes {rs : List Rn} {w : World} : FarOutR rs w (.returned (.bool true)) w := ⟨true, rfl, (fun h => by cases h), Below.refl _ _⟩
theorem FarOutR.no {rs : List Rn} {w : World} (h : NearR rs) : FarOutR rs w (.returned (.bool false)) w := ⟨false, rfl, fun _ => h, Below.refl _ _⟩
theorem NearR.sized {rs : List Rn} (h : NearR rs) (hs : SizedM rs) : SizedR rs := fun r hr => ⟨by have := h.2 r hr; omega, (hs r hr).2⟩
set_option maxRecDepth 100000 in
set_option maxHeartbeats 8000000 in
theorem far11_any (A : Option Addr) (c : Nat) (rs : List Rn) (w : World) (hf : RsAt w A rs) (hn : rs.length ≤ 9223372036854775807) (hs : SizedM rs) :
    Calls Try.prog 13 #[.slice A rs.length c] w (FarOutR rs w) := by
  obtain ⟨n, hnn⟩ : ∃ n, rs.length = n := ⟨_, rfl⟩
  rw [hnn] at hn ⊢
  have HN := Lib.hid hnn
  have HF := Lib.hid hf
  have HS := Lib.hid hs
  clear hnn hf hs
  obtain ⟨post, hpost⟩ : ∃ post, FarOutR rs w = post := ⟨_, rfl⟩
  have HYES : Hid (post (.returned (.bool true)) w) := Lib.hid (by rw [← hpost]; exact .yes)
  have HNO : Hid (NearR rs → post (.returned (.bool false)) w) := Lib.hid (fun h => by rw [← hpost]; exact .no h)
  rw [hpost]
  clear hpost
  by_cases h34 : 34 < n
  · have e1 : decide ((34 : Int) < (n : Int)) = true := by simp; omega
    go_enter Try.func13, Try.ntmps13
    go_wp2_with fail
    exact HYES.out
  have e34 : decide ((34 : Int) < (n : Int)) = false := by simp; omega
  by_cases h1 : n = 1
  · subst h1
    have hl0 : 0 < rs.length := by rw [HN.out]; omega
    rcases HF.out with h0 | ⟨b, off, rfl, hbl, hc⟩
    · rw [h0] at hl0; simp at hl0
    obtain ⟨g0, ge⟩ := hc 0 hl0
    rw [Nat.add_zero] at g0
    have HC := Lib.hid hc
    have HE := Lib.hid ge
    obtain ⟨m, hm⟩ : ∃ m, rs[0].2.2.length = m := ⟨_, rfl⟩
    have HM := Lib.hid hm
    rw [hm] at g0
    generalize rs[0].1 = A1 at g0 HE
    generalize rs[0].2.1 = d1 at g0
    have hmm : m ≤ 9223372036854775807 := by rw [← hm]; exact (HS.out _ (List.getElem_mem hl0)).1
    clear hc ge hm
    by_cases h5 : m ≤ 5000
    · have e5 : decide ((5000 : Int) < (m : Int)) = false := by simp; omega
      go_enter Try.func13, Try.ntmps13
      go_wp2_with fail
      go_loopw [4, 5, 6] (fun y i _ wr => ∃ (k v : Nat), k ≤ 1 ∧ i = .int .i64 k ∧ y = .int .i64 v ∧ v ≤ 120 ∧ w = wr ∧ Hid (∀ (j : Nat) (h : j < rs.length), j < k → rs[j].2.2.length ≤ 120)) (fun _ i _ _ => 1 - (intOf i).toNat)
      case atStart => exact ⟨0, 0, Nat.zero_le _, rfl, rfl, by omega, rfl, Lib.hid (fun j _ h => by omega)⟩
      case round =>
        obtain ⟨k, v, hk, rfl, rfl, hv, rfl, HH⟩ := hrel
        by_cases hlt : k < 1
        rotate_left
        · have HNEAR : Hid (NearR rs) := Lib.hid ⟨by rw [HN.out]; omega, fun r hr => by
            obtain ⟨j, hj, rfl⟩ := List.getElem_of_mem hr
            have := HH.out j hj (by have := HN.out; omega)
            omega⟩
          go_wp2_with fail
          exact HNO.out HNEAR.out
        have hlx : k < rs.length := by rw [HN.out]; exact hlt
        obtain ⟨yg, ye⟩ := HC.out k hlx
        have HE2 := Lib.hid ye
        obtain ⟨m2, hm2⟩ : ∃ m2, rs[k].2.2.length = m2 := ⟨_, rfl⟩
        have HM2 := Lib.hid hm2
        rw [hm2] at yg
        have hmm2 : m2 ≤ 9223372036854775807 := by rw [← hm2]; exact (HS.out _ (List.getElem_mem hlx)).1
        generalize rs[k].1 = A2 at yg HE2
        generalize rs[k].2.1 = d2 at yg
        clear hm2 ye
        by_cases h2 : m2 ≤ 200
        rotate_left
        · have e2 : min (m2 : Int) 200 = 200 := by omega
          have e3 : decide ((120 : Int) < (v : Int) + 200) = true := by simp; omega
          go_wp2_with fail
          exact HYES.out
        have e2 : min (m2 : Int) 200 = (m2 : Int) := by omega
        by_cases h3 : 120 < v + m2
        · have e3 : decide ((120 : Int) < (v : Int) + (m2 : Int)) = true := by simp; omega
          go_wp2_with fail
          exact HYES.out
        have e3 : decide ((120 : Int) < (v : Int) + (m2 : Int)) = false := by simp; omega
        have HNEW : Hid (∀ (j : Nat) (h : j < rs.length), j < k + 1 → rs[j].2.2.length ≤ 120) := Lib.hid (fun j h hj => by
          by_cases e : j = k
          · subst e; rw [HM2.out]; omega
          · exact HH.out j h (by omega))
        go_wp2_with fail
        go_loopw [6] (fun i wr => ∃ q : Nat, q ≤ m2 ∧ i = .int .i64 q ∧ w = wr) (fun i _ => m2 - (intOf i).toNat)
        case atStart => exact ⟨0, Nat.zero_le _, rfl, rfl⟩
        case round =>
          obtain ⟨q, hq, rfl, rfl⟩ := hrel
          by_cases hlq : q < m2
          rotate_left
          · go_wp2_with fail
            go_roundw
            case rel => exact ⟨k + 1, v + m2, by omega, by go_num, by go_num, by omega, trivial, HNEW⟩
            case measure => simp [intOf]; omega
          have hly : q < rs[k].2.2.length := by rw [HM2.out]; exact hlq
          rcases HE2.out with h0 | ⟨b3, off3, rfl, hbl3, hc3⟩
          · rw [h0] at hly; simp at hly
          obtain ⟨z0, z1, _, _⟩ := hc3 q hly
          clear hc3
          obtain ⟨⟨xk, xv, xd, xq⟩, hx⟩ : ∃ x, rs[k].2.2[q] = x := ⟨_, rfl⟩
          rw [hx] at z0 z1
          simp only at z0 z1
          clear hx
          by_cases s1 : 200 < xk.size
          · have f1 : decide ((200 : Int) < (xk.size : Int)) = true := by simp; omega
            go_wp2_with fail
            exact HYES.out
          have f1 : decide ((200 : Int) < (xk.size : Int)) = false := by simp; omega
          by_cases s2 : 200 < xv.size
          · have f2 : decide ((200 : Int) < (xv.size : Int)) = true := by simp; omega
            go_wp2_with fail
            exact HYES.out
          have f2 : decide ((200 : Int) < (xv.size : Int)) = false := by simp; omega
          go_wp2_with fail
          go_roundw
          case rel => exact ⟨q + 1, by omega, by go_num, trivial⟩
          case measure => simp [intOf]; omega
    have e5 : decide ((5000 : Int) < (m : Int)) = true := by simp; omega
    by_cases h6 : m ≤ 5005
    rotate_left
    · have e6 : decide ((m : Int) ≤ 5005) = false := by simp; omega
      go_enter Try.func13, Try.ntmps13
      go_wp2_with fail
      go_loopw [4, 5, 6] (fun y i _ wr => ∃ (k v : Nat), k ≤ 1 ∧ i = .int .i64 k ∧ y = .int .i64 v ∧ v ≤ 120 ∧ w = wr ∧ Hid (∀ (j : Nat) (h : j < rs.length), j < k → rs[j].2.2.length ≤ 120)) (fun _ i _ _ => 1 - (intOf i).toNat)
      case atStart => exact ⟨0, 0, Nat.zero_le _, rfl, rfl, by omega, rfl, Lib.hid (fun j _ h => by omega)⟩
      case round =>
        obtain ⟨k, v, hk, rfl, rfl, hv, rfl, HH⟩ := hrel
        by_cases hlt : k < 1
        rotate_left
        · have HNEAR : Hid (NearR rs) := Lib.hid ⟨by rw [HN.out]; omega, fun r hr => by
            obtain ⟨j, hj, rfl⟩ := List.getElem_of_mem hr
            have := HH.out j hj (by have := HN.out; omega)
            omega⟩
          go_wp2_with fail
          exact HNO.out HNEAR.out
        have hlx : k < rs.length := by rw [HN.out]; exact hlt
        obtain ⟨yg, ye⟩ := HC.out k hlx
        have HE2 := Lib.hid ye
        obtain ⟨m2, hm2⟩ : ∃ m2, rs[k].2.2.length = m2 := ⟨_, rfl⟩
        have HM2 := Lib.hid hm2
        rw [hm2] at yg
        have hmm2 : m2 ≤ 9223372036854775807 := by rw [← hm2]; exact (HS.out _ (List.getElem_mem hlx)).1
        generalize rs[k].1 = A2 at yg HE2
        generalize rs[k].2.1 = d2 at yg
        clear hm2 ye
        by_cases h2 : m2 ≤ 200
        rotate_left
        · have e2 : min (m2 : Int) 200 = 200 := by omega
          have e3 : decide ((120 : Int) < (v : Int) + 200) = true := by simp; omega
          go_wp2_with fail
          exact HYES.out
        have e2 : min (m2 : Int) 200 = (m2 : Int) := by omega
        by_cases h3 : 120 < v + m2
        · have e3 : decide ((120 : Int) < (v : Int) + (m2 : Int)) = true := by simp; omega
          go_wp2_with fail
          exact HYES.out
        have e3 : decide ((120 : Int) < (v : Int) + (m2 : Int)) = false := by simp; omega
        have HNEW : Hid (∀ (j : Nat) (h : j < rs.length), j < k + 1 → rs[j].2.2.length ≤ 120) := Lib.hid (fun j h hj => by
          by_cases e : j = k
          · subst e; rw [HM2.out]; omega
          · exact HH.out j h (by omega))
        go_wp2_with fail
        go_loopw [6] (fun i wr => ∃ q : Nat, q ≤ m2 ∧ i = .int .i64 q ∧ w = wr) (fun i _ => m2 - (intOf i).toNat)
        case atStart => exact ⟨0, Nat.zero_le _, rfl, rfl⟩
        case round =>
          obtain ⟨q, hq, rfl, rfl⟩ := hrel
          by_cases hlq : q < m2
          rotate_left
          · go_wp2_with fail
            go_roundw
            case rel => exact ⟨k + 1, v + m2, by omega, by go_num, by go_num, by omega, trivial, HNEW⟩
            case measure => simp [intOf]; omega
          have hly : q < rs[k].2.2.length := by rw [HM2.out]; exact hlq
          rcases HE2.out with h0 | ⟨b3, off3, rfl, hbl3, hc3⟩
          · rw [h0] at hly; simp at hly
          obtain ⟨z0, z1, _, _⟩ := hc3 q hly
          clear hc3
          obtain ⟨⟨xk, xv, xd, xq⟩, hx⟩ : ∃ x, rs[k].2.2[q] = x := ⟨_, rfl⟩
          rw [hx] at z0 z1
          simp only at z0 z1
          clear hx
          by_cases s1 : 200 < xk.size
          · have f1 : decide ((200 : Int) < (xk.size : Int)) = true := by simp; omega
            go_wp2_with fail
            exact HYES.out
          have f1 : decide ((200 : Int) < (xk.size : Int)) = false := by simp; omega
          by_cases s2 : 200 < xv.size
          · have f2 : decide ((200 : Int) < (xv.size : Int)) = true := by simp; omega
            go_wp2_with fail
            exact HYES.out
          have f2 : decide ((200 : Int) < (xv.size : Int)) = false := by simp; omega
          go_wp2_with fail
          go_roundw
          case rel => exact ⟨q + 1, by omega, by go_num, trivial⟩
          case measure => simp [intOf]; omega
    have e6 : decide ((m : Int) ≤ 5005) = true := by simp; omega
    have HNEAR : Hid (NearR rs) := Lib.hid ⟨by rw [HN.out]; omega, fun r hr => by
      obtain ⟨i, hi, rfl⟩ := List.getElem_of_mem hr
      obtain rfl : i = 0 := by have := HN.out; omega
      rw [HM.out]; exact h6⟩
    clear h34 h5
    go_enter Try.func13, Try.ntmps13
    go_wp2_with fail
    go_loopw [3] (fun i wr => ∃ k : Nat, k ≤ m ∧ i = .int .i64 k ∧ w = wr) (fun i _ => m - (intOf i).toNat)
    case atStart => exact ⟨0, Nat.zero_le _, rfl, rfl⟩
    case round =>
      obtain ⟨k, hk, rfl, rfl⟩ := hrel
      by_cases hlt : k < m
      rotate_left
      · go_wp2_with fail
        exact HNO.out HNEAR.out
      have hlx : k < rs[0].2.2.length := by rw [HM.out]; exact hlt
      rcases HE.out with h0 | ⟨b2, off2, rfl, hbl2, hc⟩
      · rw [h0] at hlx; simp at hlx
      obtain ⟨y0, y1, y2, y3⟩ := hc k hlx
      clear hc
      obtain ⟨⟨xk, xv, xd, xq⟩, hx⟩ : ∃ x, rs[0].2.2[k] = x := ⟨_, rfl⟩
      rw [hx] at y0 y1 y2 y3
      simp only at y0 y1 y2 y3
      clear hx
      by_cases hx : xk = ⟨#[]⟩ ∧ xv = ⟨#[]⟩ ∧ xd = false ∧ xq = 0
      · obtain ⟨rfl, rfl, rfl, rfl⟩ := hx
        go_wp2_with fail
        go_roundw
        case rel => exact ⟨k + 1, by omega, by go_num, trivial⟩
        case measure => simp [intOf]; omega
      · by_cases e0 : xk = ⟨#[]⟩
        · subst e0
          by_cases e1' : xv = ⟨#[]⟩
          · subst e1'
            cases xd with
            | true =>
              clear hx
              go_wp2_with fail
              exact HYES.out
            | false =>
              have e4 : (xq == 0) = false := by rw [beq_eq_false_iff_ne]; exact fun e => hx ⟨rfl, rfl, rfl, e⟩
              clear hx
              go_wp2_with fail
              exact HYES.out
          · obtain ⟨z1, z2⟩ := str_full xv (fun e => e1' (ba_nil e))
            clear hx e1'
            go_wp2_with fail
            exact HYES.out
        · obtain ⟨z1, z2⟩ := str_full xk (fun e => e0 (ba_nil e))
          clear hx e0
          go_wp2_with fail
          exact HYES.out
  · have e1 : ((n : Int) == 1) = false := by rw [beq_eq_false_iff_ne]; omega
    have hn34 : n ≤ 34 := by omega
    clear h34 h1
    go_enter Try.func13, Try.ntmps13
    go_wp2_with fail
    go_loopw [4, 5, 6] (fun y i _ wr => ∃ (k v : Nat), k ≤ n ∧ i = .int .i64 k ∧ y = .int .i64 v ∧ v ≤ 120 ∧ w = wr ∧ Hid (∀ (j : Nat) (h : j < rs.length), j < k → rs[j].2.2.length ≤ 120)) (fun _ i _ _ => n - (intOf i).toNat)
    case atStart => exact ⟨0, 0, Nat.zero_le _, rfl, rfl, by omega, rfl, Lib.hid (fun j _ h => by omega)⟩
    case round =>
      obtain ⟨k, v, hk, rfl, rfl, hv, rfl, HH⟩ := hrel
      by_cases hlt : k < n
      rotate_left
      · have HNEAR : Hid (NearR rs) := Lib.hid ⟨by rw [HN.out]; omega, fun r hr => by
          obtain ⟨j, hj, rfl⟩ := List.getElem_of_mem hr
          have := HH.out j hj (by have := HN.out; omega)
          omega⟩
        go_wp2_with fail
        exact HNO.out HNEAR.out
      have hlx : k < rs.length := by rw [HN.out]; exact hlt
      rcases HF.out with h0 | ⟨b, off, rfl, hbl, hc⟩
      · rw [h0] at hlx; simp at hlx
      obtain ⟨yg, ye⟩ := hc k hlx
      clear hc
      have HE2 := Lib.hid ye
      obtain ⟨m2, hm2⟩ : ∃ m2, rs[k].2.2.length = m2 := ⟨_, rfl⟩
      have HM2 := Lib.hid hm2
      rw [hm2] at yg
      have hmm2 : m2 ≤ 9223372036854775807 := by rw [← hm2]; exact (HS.out _ (List.getElem_mem hlx)).1
      generalize rs[k].1 = A2 at yg HE2
      generalize rs[k].2.1 = d2 at yg
      clear hm2 ye
      by_cases h2 : m2 ≤ 200
      rotate_left
      · have e2 : min (m2 : Int) 200 = 200 := by omega
        have e3 : decide ((120 : Int) < (v : Int) + 200) = true := by simp; omega
        go_wp2_with fail
        exact HYES.out
      have e2 : min (m2 : Int) 200 = (m2 : Int) := by omega
      by_cases h3 : 120 < v + m2
      · have e3 : decide ((120 : Int) < (v : Int) + (m2 : Int)) = true := by simp; omega
        go_wp2_with fail
        exact HYES.out
      have e3 : decide ((120 : Int) < (v : Int) + (m2 : Int)) = false := by simp; omega
      have HNEW : Hid (∀ (j : Nat) (h : j < rs.length), j < k + 1 → rs[j].2.2.length ≤ 120) := Lib.hid (fun j h hj => by
        by_cases e : j = k
        · subst e; rw [HM2.out]; omega
        · exact HH.out j h (by omega))
      go_wp2_with fail
      go_loopw [6] (fun i wr => ∃ q : Nat, q ≤ m2 ∧ i = .int .i64 q ∧ w = wr) (fun i _ => m2 - (intOf i).toNat)
      case atStart => exact ⟨0, Nat.zero_le _, rfl, rfl⟩
      case round =>
        obtain ⟨q, hq, rfl, rfl⟩ := hrel
        by_cases hlq : q < m2
        rotate_left
        · go_wp2_with fail
          go_roundw
          case rel => exact ⟨k + 1, v + m2, by omega, by go_num, by go_num, by omega, trivial, HNEW⟩
          case measure => simp [intOf]; omega
        have hly : q < rs[k].2.2.length := by rw [HM2.out]; exact hlq
        rcases HE2.out with h0 | ⟨b3, off3, rfl, hbl3, hc3⟩
        · rw [h0] at hly; simp at hly
        obtain ⟨z0, z1, _, _⟩ := hc3 q hly
        clear hc3
        obtain ⟨⟨xk, xv, xd, xq⟩, hx⟩ : ∃ x, rs[k].2.2[q] = x := ⟨_, rfl⟩
        rw [hx] at z0 z1
        simp only at z0 z1
        clear hx
        by_cases s1 : 200 < xk.size
        · have f1 : decide ((200 : Int) < (xk.size : Int)) = true := by simp; omega
          go_wp2_with fail
          exact HYES.out
        have f1 : decide ((200 : Int) < (xk.size : Int)) = false := by simp; omega
        by_cases s2 : 200 < xv.size
        · have f2 : decide ((200 : Int) < (xv.size : Int)) = true := by simp; omega
          go_wp2_with fail
          exact HYES.out
        have f2 : decide ((200 : Int) < (xv.size : Int)) = false := by simp; omega
        go_wp2_with fail
        go_roundw
        case rel => exact ⟨q + 1, by omega, by go_num, trivial⟩
        case measure => simp [intOf]; omega
end Go.Proofs.Ytebjhjmlpodkgaa.KK
