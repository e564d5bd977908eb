/-
  Merges: the key that comes next, of one run, of all; what comes after.
-/
import Derived.Test.YtebjhjmlpodkgaaPa
import Derived.Test.YtebjhjmlpodkgaaLe
namespace Go.Proofs.Ytebjhjmlpodkgaa.KK
open Go.ChangeShapes Go.WideShapes Go.ChangeAt Go.RowKit Go.Proofs

/-- the key that comes next -/
def nk (l : List El.En) (a : Nat) : LK := if h : a < l.length then (l[a].1, false) else (⟨#[]⟩, true)
theorem nk_lt {l : List El.En} {a : Nat} (h : a < l.length) : nk l a = (l[a].1, false) := dif_pos h
theorem nk_end {l : List El.En} {a : Nat} (h : ¬ a < l.length) : nk l a = (⟨#[]⟩, true) := dif_neg h
theorem set2b {B : Nat} {w w1 : World} {g : Nat} (h : Below B w w1) (hg : B ≤ g) (a b : Value) : Below B w ((w1.setCell ⟨g, 0, none⟩ a).setCell ⟨g, 1, none⟩ b) := (h.setCell hg _).setCell hg _
set_option maxHeartbeats 1000000 in
theorem nextKey_any (A : Option Addr) (c : Nat) (l : List El.En) (a : Nat) (ha : a ≤ l.length) (w : World) (hf : EsAt w A l) (hn : l.length ≤ 4294967295) :
    Calls Try.prog 82 #[.slice A l.length c, .int .i64 (a : Int)] w fun e w' => e = .returned (.agg #[.string (nk l a).1, .bool (nk l a).2]) ∧ Below w.heap.size w w' := by
  by_cases h : a < l.length
  · rw [nk_lt h]
    rcases hf with h0 | ⟨b, off, rfl, hb, hh⟩
    · subst h0; simp at h
    obtain ⟨g0, g1, g2, g3⟩ := hh a h
    clear hh
    generalize l[a] = x at *
    obtain ⟨n, hnn⟩ : ∃ n, l.length = n := ⟨_, rfl⟩
    rw [hnn] at ha h hn ⊢
    clear hnn
    have hz : ((a : Int) == (n : Int)) = false := by rw [beq_eq_false_iff_ne]; omega
    have l1 : (a : Int) < (n : Int) := by omega
    go_enter Try.func82, Try.ntmps82
    go_wp2_with fail
    exact bodyPost_ret (v := .agg #[.string x.1, .bool false]) (by simp [results, Try.results82, go_sem]) rfl ⟨rfl, by first | exact alloc_below _ _ | exact set2b (alloc_below _ _) (Nat.le_refl _) _ _⟩
  · rw [nk_end h]
    obtain rfl : a = l.length := by omega
    clear hf h ha
    generalize l.length = n at *
    go_enter Try.func82, Try.ntmps82
    go_wp2_with fail
    exact bodyPost_ret (v := .agg #[.string ⟨#[]⟩, .bool true]) (by simp [results, Try.results82, go_sem]) rfl ⟨rfl, by first | exact alloc_below _ _ | exact set2b (alloc_below _ _) (Nat.le_refl _) _ _⟩

/-- the keys that come next -/
def nks : List (List El.En) → List Int → List LK
  | l :: t, a :: u => nk l a.toNat :: nks t u
  | _, _ => []
theorem nks_len : ∀ {xss : List (List El.En)} {at_ : List Int}, at_.length = xss.length → (nks xss at_).length = xss.length
  | [], [], _ => rfl
  | [], _ :: _, h => by simp at h
  | _ :: _, [], h => by simp at h
  | x :: t, a :: u, h => by simp only [nks, List.length_cons] at h ⊢; rw [nks_len (by omega)]
theorem nks_get : ∀ {xss : List (List El.En)} {at_ : List Int} {i : Nat} (h1 : i < xss.length) (h2 : i < at_.length) (h : i < (nks xss at_).length), (nks xss at_)[i] = nk xss[i] at_[i].toNat
  | x :: t, a :: u, 0, _, _, _ => rfl
  | x :: t, a :: u, i + 1, h1, h2, h => by
    simp only [nks, List.getElem_cons_succ]
    exact nks_get (by simpa using h1) (by simpa using h2) (by simpa [nks] using h)
/-- numbers of entries that were read -/
def AtOk (xss : List (List El.En)) (at_ : List Int) : Prop := at_.length = xss.length ∧ ∀ (i : Nat) (h : i < xss.length) (h' : i < at_.length), 0 ≤ at_[i] ∧ at_[i] ≤ xss[i].length
theorem keysV_snoc (ks : List LK) (k : LK) : keysV (ks ++ [k]) = keysV ks ++ [.string k.1, .bool k.2] := by simp [keysV]
theorem new2 (w : World) (x : LK) : ∀ (j : Nat) (u : Value), ([.string x.1, .bool x.2] : List Value)[j]? = some u → (w.alloc (.cells #[.string x.1, .bool x.2] 41)).cell? ((⟨w.heap.size, 0, none⟩ : Addr).add j) = some u := fun j u hj => by
  rw [add_at', Nat.zero_add]
  have hr := cell_of_row (w.alloc (.cells #[.string x.1, .bool x.2] 41)) w.heap.size j _ _ _ (heap_alloc_new w _)
  exact hr.trans (by rw [← hj]; simp)
theorem KsAt.of_own {w : World} {base n : Nat} {A : Option Addr} {c : Nat} {ks : List LK} (h : w.ownsRow base 41 2 (.slice A n c) n (keysV ks)) : KsAt w A ks := by
  rcases h.2 with ⟨h1, h0⟩ | ⟨g, cap, cur, hv, _⟩
  · cases h1
    have : ks.length = 0 := by have := h.1; rw [keysV_len] at this; omega
    exact .inl (List.length_eq_zero_iff.1 this)
  · injection hv with h1
    subst h1
    exact (CR.of_own h (h.lt g rfl).2).ks
theorem own_bel {w w' : World} {base n sz : Nat} {v : Value} {e : TypeId} {xs : List Value} (h : w.ownsRow base e sz v n xs) (hb : Below w.heap.size w w') : w'.ownsRow base e sz v n xs := h.kept (row := none) ⟨hb.os, hb.tape, hb.output, hb.size, fun k hk _ => hb.block k hk⟩ (by generalize v.ownBlock = o; cases o <;> simp)
theorem own_form {w : World} {base n sz : Nat} {v : Value} {e : TypeId} {xs : List Value} (h : w.ownsRow base e sz v n xs) : ∃ A cap, v = .slice A n cap ∧ ∀ a, A = some a → base ≤ a.block := by
  rcases h.2 with ⟨h1, h0⟩ | ⟨g, cap, cur, hv, hb, _⟩
  · exact ⟨none, 0, by rw [h1, h0], fun a e => by cases e⟩
  · exact ⟨_, cap, hv, fun a e => by cases e; exact hb⟩
set_option maxRecDepth 100000 in
set_option maxHeartbeats 2000000 in
theorem nextKeys_any (A B : Option Addr) (c d : Nat) (rs : List Rn) (at_ : List Int) (w : World) (hf : RsAt w A rs) (hg : IsAt w B at_) (hn : rs.length ≤ 5000) (hs : SizedR rs) (hat : AtOk (ess rs) at_) :
    Calls Try.prog 72 #[.slice A rs.length c, .slice B rs.length d] w fun e w' => ∃ g cap, e = .returned (.slice g rs.length cap) ∧ KsAt w' g (nks (ess rs) at_) ∧ (∀ a, g = some a → w.heap.size ≤ a.block) ∧ Below w.heap.size w w' := by
  obtain ⟨i0, hi, hz0, hz1, hz2⟩ := info_parts infoLK
  have HF := Lib.hid hf
  have HG := Lib.hid hg
  have HS := Lib.hid hs
  have HA := Lib.hid hat
  obtain ⟨n, hnn⟩ : ∃ n, rs.length = n := ⟨_, rfl⟩
  rw [hnn] at hn ⊢
  have HN := Lib.hid hnn
  obtain ⟨K, hK⟩ : ∃ K, nks (ess rs) at_ = K := ⟨_, rfl⟩
  have HK := Lib.hid hK
  have HKN : Hid (K.length = n) := Lib.hid (by rw [← hK, nks_len hat.1, ess_len, hnn])
  rw [hK]
  clear hf hg hs hat hnn hK
  go_enter Try.func72, Try.ntmps72
  go_wp2_with fail
  go_loopw [5, 10] (fun v i wr => ∃ k : Nat, k ≤ n ∧ i = .int .i64 k ∧ Hid (wr.ownsRow w.heap.size 41 2 v k (keysV (K.take k))) ∧ Below w.heap.size w wr) (fun _ i _ => n - (intOf i).toNat)
  case atStart => exact ⟨0, Nat.zero_le _, rfl, Lib.hid ⟨by simp [keysV], .inl ⟨rfl, rfl⟩⟩, Below.refl _ _⟩
  case round =>
    obtain ⟨k, hk, rfl, HO, hb⟩ := hrel
    have hsz := hb.size
    have HB := Lib.hid hb
    have hf' := HF.out.below hb (Nat.le_refl _)
    have hg' := HG.out.below hb (Nat.le_refl _)
    clear hb
    by_cases hlt : k < n
    · have hl' : k < rs.length := by rw [HN.out]; exact hlt
      have hl2 : k < at_.length := by rw [HA.out.1, ess_len]; exact hl'
      rcases hf' with h0 | ⟨b, off, rfl, hbl, hc⟩
      · subst h0; simp at hl'
      rcases hg' with h0 | ⟨b2, off2, rfl, hbl2, hc2⟩
      · subst h0; simp at hl2
      obtain ⟨g0, g1⟩ := hc k hl'
      have g2 := hc2 k hl2
      obtain ⟨a1, a2⟩ := HA.out.2 k (by rw [ess_len]; exact hl') hl2
      rw [ess_get hl'] at a2
      have hks : Hid (K[k]'(by rw [HKN.out]; exact hlt) = nk rs[k].2.2 at_[k].toNat) := Lib.hid (by
        have := HK.out; subst this
        rw [nks_get (by rw [ess_len]; exact hl') hl2, ess_get hl'])
      have hsn : Hid (keysV (K.take (k + 1)) = keysV (K.take k) ++ [.string (nk rs[k].2.2 at_[k].toNat).1, .bool (nk rs[k].2.2 at_[k].toNat).2]) := Lib.hid (by
        rw [List.take_succ_eq_append_getElem (by rw [HKN.out]; exact hlt), keysV_snoc, hks.out])
      have J := Lib.hid (nextKey_any rs[k].1 rs[k].2.1 rs[k].2.2 at_[k].toNat (by omega) wr g1 (HS.out _ (List.getElem_mem hl')).1)
      rw [show ((at_[k].toNat : Nat) : Int) = at_[k] by omega] at J
      have l1 : (k : Int) < (n : Int) := by omega
      clear hc hc2 g1 hks a1 a2
      generalize nk rs[k].2.2 at_[k].toNat = x at *
      generalize at_[k] = a at *
      generalize rs[k].1 = A1 at *
      generalize rs[k].2.1 = c1 at *
      generalize rs[k].2.2.length = n1 at *
      go_wp2_with fail
      refine J.out.mono ?_
      rintro e w1 ⟨rfl, hb1⟩
      have HB1 := Lib.hid (eb_of HB.out hb1 (Nat.le_refl _))
      have hsz1 := HB1.out.size
      have HO1 := Lib.hid (own_bel HO.out hb1)
      clear hb1 J
      go_wp2_with (at_builtin; go_loud (refine wpList_append_own _ rfl (.tmp 15) (.tmp 22) 26 rfl w.heap.size 41 i0 (.agg #[.string ⟨#[]⟩, .bool false]) 2 24 Try.underlying26 hi hz0 hz1 hz2 rfl (by decide) _ k _ rfl (HO1.out.alloc _) ⟨w1.heap.size, 0, none⟩ 1 1 [.string x.1, .bool x.2] rfl rfl (fun j u hj => new2 w1 x j u hj) (by simp [Value.oneCell']) (by unfold maxLen; omega) (by omega) (by simp; omega) ?_; intro v3 w3 hown3 hg3 _; have hb3 := (HB1.out.alloc hsz1 (.cells #[.string x.1, .bool x.2] 41)).grown hg3 (by simp; omega) (fun g hg => (HO1.out.lt g hg).1); have HB3 := Lib.hid hb3; have HO3 := Lib.hid hown3; clear hg3 hb3 hown3))
      go_roundw
      case rel => exact ⟨k + 1, by omega, by go_num, by rw [hsn.out]; exact HO3, HB3.out⟩
      case measure => simp [intOf]; omega
    · obtain rfl : k = n := by omega
      clear hf' hg'
      have HT : Hid (K.take k = K) := Lib.hid (List.take_of_length_le (by rw [HKN.out]; exact Nat.le_refl _))
      rw [HT.out] at HO
      obtain ⟨g, cap, rfl, hbase⟩ := own_form HO.out
      have HBS := Lib.hid hbase
      clear hbase
      go_wp2_with fail
      go_ret
      exact ⟨g, cap, rfl, KsAt.of_own HO.out, HBS.out, HB.out⟩
end Go.Proofs.Ytebjhjmlpodkgaa.KK
