/-
  Plain functions, joined into one text.
-/
import Derived.Deep.DeepCutAuto
import Derived.Deep.RegionHeld3
import Derived.Test.YthifbihmogjjpaaDoorQj
import Derived.Test.YthifbihmogjjpaaDoorXi
import Derived.Test.YthifbihmogjjpaaDoorXy
import Derived.Test.YthifbihmogjjpaaDoorPj
import Derived.Test.YthifbihmogjjpaaDoorYa
import Derived.OpenShut
/-
  The walk of WordsInverse.
-/
namespace Go.Proofs.YthifbihmogjjpaaDoor
open Go.ChangeShapes Go.WideShapes Go.ChangeAt Go.RowKit Go.Proofs

theorem farL_len {fs : List (List UInt8 × Bool)} (h : farL fs = false) : fs.length ≤ 70 := by
  unfold farL at h
  rw [Bool.or_eq_false_iff, Bool.or_eq_false_iff] at h
  simpa using h.1.1
theorem parts_few : ∀ (n : Nat) (l : List Int), l.length ≤ n → (∀ x ∈ l, 0 ≤ x ∧ x ≤ 1000000000) → (Pl.parts l).length ≤ l.length ∧ ∀ t ∈ Pl.parts l, t.length ≤ 100
  | _, [], _, _ => by have h : Pl.parts ([] : List Int) = [] := rfl
                      rw [h]; simp
  | 0, x :: r, h, _ => by simp at h
  | n + 1, x :: r, hn, hb => by
    have hx := hb x (by simp)
    have hg := Pl.goOn_le r x
    have hrun := Pl.run_of x r
    have hlast : x + Pl.goOn x r ∈ x :: r := by
      rw [hrun]
      apply List.mem_append_left
      unfold Pl.from_
      rw [List.mem_map]
      exact ⟨Pl.goOn x r, by simp, rfl⟩
    have hxg := hb _ hlast
    have ih := parts_few n (r.drop (Pl.goOn x r)) (by rw [List.length_drop]; simp at hn; omega) (fun z hz => hb z (by simp; exact .inr (List.mem_of_mem_drop hz)))
    rw [Pl.parts_cons]
    refine ⟨?_, fun t ht => ?_⟩
    · have := ih.1
      rw [List.length_drop] at this
      simp only [List.length_cons]
      omega
    · rcases List.mem_cons.1 ht with rfl | ht
      · exact Pl.wr2_len _ _ hx.1 hx.2 hxg.1 hxg.2
      · exact ih.2 t ht
theorem chk_range {l : List Int} (h : Pl.chk l = 0) : l.length ≤ 500 ∧ l.any Pl.outR = false ∧ ∀ x ∈ l, 0 ≤ x ∧ x ≤ 1000000000 := by
  unfold Pl.chk at h
  split at h
  · cases h
  split at h
  · cases h
  · rename_i h5 hany
    refine ⟨by omega, by simpa using hany, fun x hx => ?_⟩
    have h1 : Pl.outR x = false := by
      rw [Bool.eq_false_iff]; intro e
      exact hany (List.any_eq_true.2 ⟨x, hx, e⟩)
    unfold Pl.outR at h1
    simp at h1
    omega
theorem listE_chk {l : List Int} {t : List UInt8} (h : Pl.listE l = (0, t)) : Pl.chk l = 0 := by
  unfold Pl.listE at h
  by_cases hc : Pl.chk l = 0
  · exact hc
  · rw [if_neg hc] at h
    exact absurd (congrArg Prod.fst h) hc
theorem listE_len {l : List Int} {t : List UInt8} (h : Pl.listE l = (0, t)) : t.length ≤ 100000 := by
  have hc := listE_chk h
  obtain ⟨h5, _, hb⟩ := chk_range hc
  obtain ⟨p1, p2⟩ := parts_few l.length l (Nat.le_refl _) hb
  unfold Pl.listE at h
  rw [if_pos hc] at h
  split at h
  · injection h with _ h; subst h; decide
  · injection h with _ h
    subst h
    have := Pl.join_len (Pl.parts l) p2
    have h3 : (Pl.parts l).length * 101 ≤ 500 * 101 := Nat.mul_le_mul_right _ (by omega)
    omega
theorem fits_of {l : List Int} (h : Pl.chk l = 0) : Fits l := fun i => by
  have := Pl.outR_el l (chk_range h).2.1 i
  omega
def uqV (o : Option (List UInt8)) : Value := match o with
  | some t => .tuple #[.string ⟨t.toArray⟩, .int .i64 0]
  | none => .tuple #[.string ⟨#[]⟩, .int .i64 6]
theorem Unquote_f (t : List UInt8) (w : World) (he : EscAt w) (hs : t.length ≤ 4294967295) :
    Calls Tryd.prog 15 #[.string ⟨t.toArray⟩] w fun e w' => e = .returned (uqV (Pl.unq t)) ∧ Below w.heap.size w w' := by
  cases h : Pl.unq t with
  | none => exact Unquote_no ⟨t.toArray⟩ w he (by rw [size_mk]; exact hs) (by rw [L_mk]; exact h)
  | some v => exact Unquote_yes ⟨t.toArray⟩ v w he (by rw [size_mk]; exact hs) (by rw [L_mk]; exact h)
theorem ne_b {a : Int} (h : a ≠ 0) : (a == 0) = false ∧ (a != 0) = true := ⟨by rw [beq_eq_false_iff_ne]; exact h, by rw [bne_iff_ne]; exact h⟩

set_option maxRecDepth 100000 in
set_option maxHeartbeats 1000000 in
theorem lists_same (A B : Option Addr) (c d : Nat) (ts : List Int) (w : World) (hf : IntsAt w A ts) (hg : IntsAt w B ts) (hn : ts.length ≤ 4294967295) :
    Calls Tryd.prog 19 #[.slice A ts.length c, .slice B ts.length d] w fun e w' => e = .returned (.bool true) ∧ Below w.heap.size w w' := by
  go_enter Tryd.func19, Tryd.ntmps19
  go_wp2_with fail
  go_loopw [5] (fun i wr => ∃ k : Nat, k ≤ ts.length ∧ i = .int .i64 k ∧ Below w.heap.size w wr) (fun i _ => ts.length - (intOf i).toNat)
  case atStart => exact ⟨0, Nat.zero_le _, rfl, Below.refl _ _⟩
  case round =>
    obtain ⟨k, hk, rfl, hb⟩ := hrel
    have HBR := Lib.hid hb
    have hsr := hb.size
    have hf := hf.below hb (Nat.le_refl _)
    have hg := hg.below hb (Nat.le_refl _)
    clear hb
    by_cases hlt : k < ts.length
    · rcases hf with h0 | ⟨b, off, rfl, hbl, hc⟩
      · subst h0; simp at hlt
      rcases hg with h0 | ⟨b', off', rfl, hbl', hc'⟩
      · subst h0; simp at hlt
      have g0 := hc k hlt
      have g1 := hc' k hlt
      have l1 : (k : Int) < (ts.length : Int) := by omega
      clear hc hc'
      go_wp2_with fail
      go_quiet (fail)
      go_wp2_with fail
      go_roundw
      case rel => exact ⟨k + 1, by omega, by go_num, HBR.out.trans ((below_drewN' _).mono hsr)⟩
      case measure => simp [intOf]; omega
    · go_wp2_with fail
      go_ret
      exact ⟨retB rfl, HBR.out⟩

set_option maxRecDepth 100000 in
set_option maxHeartbeats 8000000 in
theorem inv_main (s : ByteArray) (A : Option Addr) (c : Nat) (fs : List (List UInt8 × Bool)) (B : Option Addr) (d : Nat) (ns : List Int) (n : Int) (w : World) (he : Env w) (h4 : C4 w) (hf : FldsAt w A fs) (hi : IntsAt w B ns) (hfit : Fits ns)
    (hs : s.size ≤ 3000) (f1 : farL fs = false) (hn : ns.length ≤ 510) (n0 : -9223372036854775808 ≤ n) (n1 : n ≤ 9223372036854775807) :
    Calls Tryd.prog 5 #[.string s, .slice A fs.length c, .agg #[.slice B ns.length d, .int .i64 n]] w fun e w' => e = .returned (.bool true) ∧ Below w.heap.size w w' := by
  have h70 := farL_len f1
  have hsl : (⟨(Pl.L s).toArray⟩ : ByteArray) = s := by unfold Pl.L; simp
  have hLl := Pl.L_length s
  -- what each call answers
  have V1 := fun w hf => far_any A c fs w hf (by omega)
  rw [f1] at V1
  have F1 := Lib.hid V1
  obtain ⟨⟨es, gs⟩, hsp⟩ : ∃ y, Pl.split (Pl.L s) = y := ⟨_, rfl⟩
  have hgs : gs.length ≤ 64 := by
    have h := hsp
    unfold Pl.split at h
    split at h
    · injection h with _ h; subst h; exact Nat.zero_le _
    split at h
    · injection h with _ h; subst h; exact Nat.zero_le _
    split at h
    · injection h with _ h; subst h; exact Nat.zero_le _
    · rename_i ht
      injection h with _ h
      subst h
      rw [Bool.not_eq_true] at ht
      unfold Pl.tooL at ht
      rw [Bool.or_eq_false_iff] at ht
      simpa using ht.1
  have JS : Hid (∀ w, EscAt w → Calls Tryd.prog 9 #[.string s] w fun e w' => ∃ A c, e = .returned (.tuple #[.slice A gs.length c, .int .i64 es]) ∧ FldsAt w' A gs ∧ Below w.heap.size w w') := Lib.hid (fun w h => by
    have := Split_any s w h (by omega)
    unfold SplitOut at this
    rwa [hsp] at this)
  have JJ1 : Hid (es = 0 → ∀ A c w, EscAt w → FldsAt w A gs → Calls Tryd.prog 14 #[.slice A gs.length c] w fun e w' => e = .returned (.tuple #[.string s, .int .i64 0]) ∧ Below w.heap.size w w') := Lib.hid (fun h0 A c w he hf => by
    have := Join_any A c gs w he hf (by omega)
    rw [Pl.join_split (by rw [hsp, h0]), hsl] at this
    exact this)
  obtain ⟨⟨ej, t⟩, hjn⟩ : ∃ y, Pl.join fs = y := ⟨_, rfl⟩
  have htl : t.length ≤ 8192 := by have := Pl.joinf_len fs; rw [hjn] at this; exact this
  have JJ2 : Hid (∀ w, EscAt w → FldsAt w A fs → Calls Tryd.prog 14 #[.slice A fs.length c] w fun e w' => e = .returned (.tuple #[.string ⟨t.toArray⟩, .int .i64 ej]) ∧ Below w.heap.size w w') := Lib.hid (fun w he hf => by
    have := Join_any A c fs w he hf (by omega)
    rwa [hjn] at this)
  have JS2 : Hid (ej = 0 → ∀ w, EscAt w → Calls Tryd.prog 9 #[.string ⟨t.toArray⟩] w fun e w' => ∃ A c, e = .returned (.tuple #[.slice A fs.length c, .int .i64 0]) ∧ FldsAt w' A fs ∧ Below w.heap.size w w') := Lib.hid (fun h0 w h => by
    have := Split_any ⟨t.toArray⟩ w h (by rw [size_mk]; omega)
    unfold SplitOut at this
    rw [L_mk, Pl.split_join (by rw [hjn, h0])] at this
    exact this)
  have JSame : Hid (∀ A B c d w, FldsAt w A fs → FldsAt w B fs → Calls Tryd.prog 11 #[.slice A fs.length c, .slice B fs.length d] w fun e w' => e = .returned (.bool true) ∧ Below w.heap.size w w') := Lib.hid (fun A B c d w hf hg => by
    have := Same_any A B c d fs fs w hf hg (by omega) (by omega)
    rwa [decide_eq_true rfl] at this)
  have hqs : (Pl.quote (Pl.L s)).length ≤ 4294967295 := by have := Pl.quote_len (Pl.L s); omega
  obtain ⟨qt, hqt⟩ : ∃ q, Pl.quote (Pl.L s) = q := ⟨_, rfl⟩
  have JQ : Hid (∀ w, EscAt w → Calls Tryd.prog 16 #[.string s] w fun e w' => e = .returned (.string ⟨qt.toArray⟩) ∧ Below w.heap.size w w') := Lib.hid (fun w h => by
    have := Quote_any s w h (by omega)
    rwa [hqt] at this)
  have JU1 : Hid (∀ w, EscAt w → Calls Tryd.prog 15 #[.string ⟨qt.toArray⟩] w fun e w' => e = .returned (.tuple #[.string s, .int .i64 0]) ∧ Below w.heap.size w w') := Lib.hid (fun w h => by
    have := Unquote_f qt w h (by rw [← hqt]; exact hqs)
    rw [← hqt, Pl.unq_quote] at this
    unfold uqV at this
    simp only [hsl] at this
    rw [hqt] at this
    exact this)
  have JU2 : Hid (∀ w, EscAt w → Calls Tryd.prog 15 #[.string s] w fun e w' => e = .returned (uqV (Pl.unq (Pl.L s))) ∧ Below w.heap.size w w') := Lib.hid (fun w h => by
    have := Unquote_f (Pl.L s) w h (by omega)
    rwa [hsl] at this)
  have JQ2 : Hid (∀ v, Pl.unq (Pl.L s) = some v → ∀ w, EscAt w → Calls Tryd.prog 16 #[.string ⟨v.toArray⟩] w fun e w' => e = .returned (.string s) ∧ Below w.heap.size w w') := Lib.hid (fun v hv w h => by
    have hq := Pl.quote_unq hv
    have hvl : v.length ≤ 4294967295 := by
      have h1 := congrArg List.length hq
      rw [Pl.quote_length] at h1
      have h2 : ∀ t : List UInt8, t.length ≤ (Pl.qbody t).length := fun t => by
        induction t with
        | nil => exact Nat.zero_le _
        | cons c t ih => rw [Pl.qbody_cons, List.length_append, List.length_cons]; have := (Pl.esc_len c).2; omega
      have := h2 v
      omega
    have := Quote_any ⟨v.toArray⟩ w h (by rw [size_mk]; exact hvl)
    rwa [L_mk, hq, hsl] at this)
  obtain ⟨⟨el, z⟩, hle⟩ : ∃ y, Pl.listE ns = y := ⟨_, rfl⟩
  have JL : Hid (∀ w, Env w → IntsAt w B ns → Calls Tryd.prog 17 #[.slice B ns.length d] w fun e w' => e = .returned (.tuple #[.string ⟨z.toArray⟩, .int .i64 el]) ∧ Below w.heap.size w w') := Lib.hid (fun w he hi => by
    have := List_any B d ns w he.2.1 he.2.2 hi hfit (by omega)
    rwa [hle] at this)
  have JP : Hid (el = 0 → ∀ w, Env w → C4 w → Calls Tryd.prog 18 #[.string ⟨z.toArray⟩] w fun e w' => ∃ A c, e = .returned (.tuple #[.slice A ns.length c, .int .i64 0]) ∧ IntsAt w' A ns ∧ Below w.heap.size w w') := Lib.hid (fun h0 w he h4 => by
    have h := ParseList_any z w he h4 (by have := listE_len (l := ns) (t := z) (by rw [hle, h0]); omega)
    unfold IntsOut at h
    rw [Pl.plist_list (by rw [hle, h0])] at h
    exact h)
  obtain ⟨⟨ep, m⟩, hpl⟩ : ∃ y, Pl.plist (Pl.L s) = y := ⟨_, rfl⟩
  have hmf : m.length ≤ 500 := by have := Pl.plist_few (Pl.L s); rw [hpl] at this; exact this
  have JP2 : Hid (∀ w, Env w → C4 w → Calls Tryd.prog 18 #[.string s] w fun e w' => ∃ A c, e = .returned (.tuple #[.slice A m.length c, .int .i64 ep]) ∧ IntsAt w' A m ∧ Below w.heap.size w w') := Lib.hid (fun w he h4 => by
    have h := ParseList_any (Pl.L s) w he h4 (by omega)
    unfold IntsOut at h
    rw [hpl, hsl] at h
    exact h)
  have JL2 : Hid (ep = 0 → ∀ A c w, Env w → IntsAt w A m → Calls Tryd.prog 17 #[.slice A m.length c] w fun e w' => e = .returned (.tuple #[.string s, .int .i64 0]) ∧ Below w.heap.size w w') := Lib.hid (fun h0 A c w he hi => by
    have hl := Pl.list_plist (s := Pl.L s) (m := m) (by rw [hpl, h0])
    have := List_any A c m w he.2.1 he.2.2 hi (fits_of (listE_chk hl)) (by omega)
    rw [hl, hsl] at this
    exact this)
  obtain ⟨dn, hdn⟩ : ∃ q, Lib.itoa n = q := ⟨_, rfl⟩
  have JD : Hid (∀ w, Env w → Calls Tryd.prog 21 #[.int .i64 n] w fun e w' => e = .returned (.string ⟨dn.toArray⟩) ∧ Below w.heap.size w w') := Lib.hid (fun w he => by
    have := Digits_any n w he.2.1 n0 n1
    rwa [hdn] at this)
  have JI : Hid (∀ w, Env w → Calls Tryd.prog 20 #[.string ⟨dn.toArray⟩, .int .i64 n, .int .i64 n] w fun e w' => e = .returned (.tuple #[.int .i64 n, .int .i64 0]) ∧ Below w.heap.size w w') := Lib.hid (fun w he => by
    have := Int_any ⟨dn.toArray⟩ n n w he.2.1 (by rw [size_mk, ← hdn]; have := Lib.itoa_length_le n n0 n1; omega) n0 n1 n0 n1
    rwa [L_mk, ← hdn, Pl.int_digits, hdn] at this)
  obtain ⟨⟨ei, k⟩, hik⟩ : ∃ y, Pl.intE (Pl.L s) (-9223372036854775808) 9223372036854775807 = y := ⟨_, rfl⟩
  have JI2 : Hid (∀ w, Env w → Calls Tryd.prog 20 #[.string s, .int .i64 (-9223372036854775808), .int .i64 9223372036854775807] w fun e w' => e = .returned (.tuple #[.int .i64 k, .int .i64 ei]) ∧ Below w.heap.size w w') := Lib.hid (fun w he => by
    have := Int_any s (-9223372036854775808) 9223372036854775807 w he.2.1 (by omega) (by decide) (by decide) (by decide) (by decide)
    rwa [hik] at this)
  have JD2 : Hid (ei = 0 → ∀ w, Env w → Calls Tryd.prog 21 #[.int .i64 k] w fun e w' => e = .returned (.string s) ∧ Below w.heap.size w w') := Lib.hid (fun h0 w he => by
    have hk := hik
    rw [h0] at hk
    have hd := Pl.digits_int hk
    have hb : -9223372036854775808 ≤ k ∧ k ≤ 9223372036854775807 := by
      unfold Pl.intE at hk
      split at hk
      · split at hk
        · rename_i hb; injection hk with _ hk; rw [← hk]; exact hb
        · cases hk
      · cases hk
    have := Digits_any k w he.2.1 hb.1 hb.2
    rwa [hd, hsl] at this)
  have HE := Lib.hid he
  have H4 := Lib.hid h4
  have HF := Lib.hid hf
  have HI := Lib.hid hi
  clear V1 f1 hsp hjn hqs hqt hle hpl hdn hik hsl hLl he h4 hf hi hfit n0 n1
  obtain ⟨w0, hw0⟩ : ∃ w0, w.alloc (.cells #[.slice B ns.length d, .int .i64 n] 33) = w0 := ⟨_, rfl⟩
  have hb0 : Below w.heap.size w w0 := by rw [← hw0]; exact (Below.refl _ _).alloc (Nat.le_refl _) _
  have c0 := cell_of_row (w.alloc (.cells #[.slice B ns.length d, .int .i64 n] 33)) w.heap.size 0 _ _ _ (heap_alloc_new w _)
  have c1 := cell_of_row (w.alloc (.cells #[.slice B ns.length d, .int .i64 n] 33)) w.heap.size 1 _ _ _ (heap_alloc_new w _)
  have hsz0 : (w.alloc (.cells #[.slice B ns.length d, .int .i64 n] 33)).heap.size = w.heap.size + 1 := by simp
  rw [hw0] at c0 c1 hsz0
  replace c0 : w0.cell? ⟨w.heap.size, 0, none⟩ = some (.slice B ns.length d) := c0
  replace c1 : w0.cell? ⟨w.heap.size, 1, none⟩ = some (.int .i64 n) := c1
  have HB0 := Lib.hid hb0
  have H4 := Lib.hid (H4.out.below HE.out hb0)
  have HE := Lib.hid (HE.out.below hb0)
  have HF := Lib.hid (HF.out.below hb0 (Nat.le_refl _))
  have HI := Lib.hid (HI.out.below hb0 (Nat.le_refl _))
  have C0 : Hid (∀ w', Below w0.heap.size w0 w' → w'.cell? ⟨w.heap.size, 0, none⟩ = some (.slice B ns.length d) ∧ w'.cell? ⟨w.heap.size, 1, none⟩ = some (.int .i64 n)) := Lib.hid fun w' h => ⟨(h.cell (p := ⟨w.heap.size, 0, none⟩) (by simp; omega)).trans c0, (h.cell (p := ⟨w.heap.size, 1, none⟩) (by simp; omega)).trans c1⟩
  clear hb0
  go_enter Tryd.func5, Tryd.ntmps5
  go_wp2_with fail
  refine (F1.out _ HF.out).mono ?_
  rintro e w' ⟨rfl, rfl⟩
  go_wp2_with fail
  have HB := Lib.hid (Below.refl w0.heap.size w0)
  refine (JS.out _ HE.out.1).mono ?_
  rintro e wx1 ⟨A1, c1', rfl, hg, hb⟩
  have HB := Lib.hid (below_of HB.out hb (Nat.le_refl _))
  have HG := Lib.hid hg
  clear hb hg c0 c1
  go_upto_if 45 with fail
  go_cut [] (fun wx => Below w0.heap.size w0 wx)
  case first =>
    by_cases h0 : es = 0
    · have J := Lib.hid (JJ1.out h0)
      subst h0
      go_wp2_with fail
      refine (J.out _ _ _ (HE.out.below HB.out).1 HG.out).mono ?_
      rintro e wx2 ⟨rfl, hb⟩
      have HB := Lib.hid (below_of HB.out hb (Nat.le_refl _))
      clear hb
      go_wp2_with fail
      go_meet
      exact HB.out
    · obtain ⟨b1, b2⟩ := ne_b h0
      clear h0
      go_wp2_with fail
      go_meet
      exact HB.out
  case rest =>
    have HB := Lib.hid hcut
    clear hcut
    go_wp2_with fail
    refine (JJ2.out _ (HE.out.below HB.out).1 (HF.out.below HB.out (Nat.le_refl _))).mono ?_
    rintro e wx3 ⟨rfl, hb⟩
    have HB := Lib.hid (below_of HB.out hb (Nat.le_refl _))
    clear hb
    go_upto_if 64 with fail
    go_cut [] (fun wx => Below w0.heap.size w0 wx)
    case first =>
      by_cases h0 : ej = 0
      · have J := Lib.hid (JS2.out h0)
        subst h0
        go_wp2_with fail
        refine (J.out _ (HE.out.below HB.out).1).mono ?_
        rintro e wx4 ⟨A2, c2', rfl, hg2, hb⟩
        have HB := Lib.hid (below_of HB.out hb (Nat.le_refl _))
        have HG2 := Lib.hid hg2
        clear hb hg2
        go_wp2_with fail
        refine (JSame.out _ _ _ _ _ HG2.out (HF.out.below HB.out (Nat.le_refl _))).mono ?_
        rintro e wx5 ⟨rfl, hb⟩
        have HB := Lib.hid (below_of HB.out hb (Nat.le_refl _))
        clear hb
        go_wp2_with fail
        go_meet
        exact HB.out
      · obtain ⟨b1, b2⟩ := ne_b h0
        clear h0
        go_wp2_with fail
        go_meet
        exact HB.out
    case rest =>
      have HB := Lib.hid hcut
      clear hcut
      go_wp2_with fail
      refine (JQ.out _ (HE.out.below HB.out).1).mono ?_
      rintro e wx6 ⟨rfl, hb⟩
      have HB := Lib.hid (below_of HB.out hb (Nat.le_refl _))
      clear hb
      go_wp2_with fail
      refine (JU1.out _ (HE.out.below HB.out).1).mono ?_
      rintro e wx7 ⟨rfl, hb⟩
      have HB := Lib.hid (below_of HB.out hb (Nat.le_refl _))
      clear hb
      obtain ⟨tv, ec, JU, JV⟩ : ∃ (tv : ByteArray) (ec : Int), Hid (∀ w, EscAt w → Calls Tryd.prog 15 #[.string s] w fun e w' => e = .returned (.tuple #[.string tv, .int .i64 ec]) ∧ Below w.heap.size w w') ∧ Hid (ec = 0 → ∀ w, EscAt w → Calls Tryd.prog 16 #[.string tv] w fun e w' => e = .returned (.string s) ∧ Below w.heap.size w w') := by
        rcases hu : Pl.unq (Pl.L s) with _ | v
        · rw [hu] at JU2
          exact ⟨_, 6, JU2, Lib.hid fun h => absurd h (by decide)⟩
        · rw [hu] at JU2
          exact ⟨_, 0, JU2, Lib.hid fun _ => JQ2.out v hu⟩
      clear JU2 JQ2
      go_wp2_with fail
      refine (JU.out _ (HE.out.below HB.out).1).mono ?_
      rintro e wx8 ⟨rfl, hb⟩
      have HB := Lib.hid (below_of HB.out hb (Nat.le_refl _))
      clear hb
      go_upto_region 15 with fail
      go_cut [105] (fun v wx => v = .bool false ∧ Below w0.heap.size w0 wx)
      case first =>
        by_cases h0 : ec = 0
        · have J := Lib.hid (JV.out h0)
          subst h0
          go_wp2_with fail
          refine (J.out _ (HE.out.below HB.out).1).mono ?_
          rintro e wx9 ⟨rfl, hb⟩
          have HB := Lib.hid (below_of HB.out hb (Nat.le_refl _))
          clear hb
          go_wp2_with fail
          go_meet
          exact ⟨rfl, HB.out⟩
        · obtain ⟨b1, b2⟩ := ne_b h0
          clear h0
          go_wp2_with fail
          go_meet
          exact ⟨rfl, HB.out⟩
      case rest =>
        obtain ⟨rfl, hcut⟩ := hcut
        have HB := Lib.hid hcut
        clear hcut
        obtain ⟨c0, c1⟩ := C0.out _ HB.out
        go_wp2_with fail
        refine (JL.out _ (HE.out.below HB.out) (HI.out.below HB.out (Nat.le_refl _))).mono ?_
        rintro e wx10 ⟨rfl, hb⟩
        have HB := Lib.hid (below_of HB.out hb (Nat.le_refl _))
        clear hb
        clear c0 c1
        go_upto_if 113 with fail
        go_cut [] (fun wx => Below w0.heap.size w0 wx)
        case first =>
          by_cases h0 : el = 0
          · have J := Lib.hid (JP.out h0)
            subst h0
            go_wp2_with fail
            refine (J.out _ (HE.out.below HB.out) (H4.out.below HE.out HB.out)).mono ?_
            rintro e wx11 ⟨A2, c2', rfl, hg2, hb⟩
            have HB := Lib.hid (below_of HB.out hb (Nat.le_refl _))
            have HG2 := Lib.hid hg2
            clear hb hg2
            obtain ⟨c0, c1⟩ := C0.out _ HB.out
            go_wp2_with fail
            refine (lists_same _ _ _ _ ns _ HG2.out (HI.out.below HB.out (Nat.le_refl _)) (by omega)).mono ?_
            rintro e wx12 ⟨rfl, hb⟩
            have HB := Lib.hid (below_of HB.out hb (Nat.le_refl _))
            clear hb
            clear c0 c1
            go_wp2_with fail
            go_meet
            exact HB.out
          · obtain ⟨b1, b2⟩ := ne_b h0
            clear h0
            go_wp2_with fail
            go_meet
            exact HB.out
        case rest =>
          have HB := Lib.hid hcut
          clear hcut
          go_wp2_with fail
          refine (JP2.out _ (HE.out.below HB.out) (H4.out.below HE.out HB.out)).mono ?_
          rintro e wx13 ⟨A3, c3', rfl, hg3, hb⟩
          have HB := Lib.hid (below_of HB.out hb (Nat.le_refl _))
          have HG3 := Lib.hid hg3
          clear hb hg3
          go_upto_if 134 with fail
          go_cut [] (fun wx => Below w0.heap.size w0 wx)
          case first =>
            by_cases h0 : ep = 0
            · have J := Lib.hid (JL2.out h0)
              subst h0
              go_wp2_with fail
              refine (J.out _ _ _ (HE.out.below HB.out) HG3.out).mono ?_
              rintro e wx14 ⟨rfl, hb⟩
              have HB := Lib.hid (below_of HB.out hb (Nat.le_refl _))
              clear hb
              go_wp2_with fail
              go_meet
              exact HB.out
            · obtain ⟨b1, b2⟩ := ne_b h0
              clear h0
              go_wp2_with fail
              go_meet
              exact HB.out
          case rest =>
            have HB := Lib.hid hcut
            clear hcut
            have JDb : Hid (∀ w', Below w0.heap.size w0 w' → Calls Tryd.prog 21 #[.int .i64 n] w' fun e w'' => e = .returned (.string ⟨dn.toArray⟩) ∧ Below w0.heap.size w0 w'') := Lib.hid (fun w' h => (JD.out _ (HE.out.below h)).mono fun e w'' ⟨h1, h2⟩ => ⟨h1, below_of h h2 (Nat.le_refl _)⟩)
            have JIb : Hid (∀ w', Below w0.heap.size w0 w' → Calls Tryd.prog 20 #[.string ⟨dn.toArray⟩, .int .i64 n, .int .i64 n] w' fun e w'' => e = .returned (.tuple #[.int .i64 n, .int .i64 0]) ∧ Below w0.heap.size w0 w'') := Lib.hid (fun w' h => (JI.out _ (HE.out.below h)).mono fun e w'' ⟨h1, h2⟩ => ⟨h1, below_of h h2 (Nat.le_refl _)⟩)
            go_upto_region 27 with fail
            have c1 := (C0.out _ HB.out).2
            have hbc := HB.out
            go_cut [8, 23] (fun e8 v wx => e8 = .int .i64 0 ∧ v = .int .i64 n ∧ Below w0.heap.size w0 wx)
            case first =>
              go_region_held3 (fun w' => w'.cell? ⟨w.heap.size, 1, none⟩ = some (.int .i64 n))
                (first | go_keep | (exact (C0.out _ (by first | assumption | exact redrew (by assumption) | exact redrew (redrew (by assumption)) | exact redrew (redrew (redrew (by assumption))))).2))
                (first | (go_at_call 21; refine (JDb.out _ (by first | assumption | exact redrew (by assumption) | exact redrew (redrew (by assumption)) | exact redrew (redrew (redrew (by assumption))))).mono ?_; rintro e w27 ⟨rfl, hbd⟩) | (go_at_call 20; refine (JIb.out _ (by first | assumption | exact redrew (by assumption) | exact redrew (redrew (by assumption)) | exact redrew (redrew (redrew (by assumption))))).mono ?_; rintro e w28 ⟨rfl, hbi⟩))
              all_goals
                go_wp2_with fail
                go_meet
                exact ⟨rfl, rfl, by first | assumption | exact redrew (by assumption) | exact redrew (redrew (by assumption)) | exact redrew (redrew (redrew (by assumption)))⟩
            case rest =>
              clear c1 hbc JDb JIb
              obtain ⟨rfl, rfl, hcut⟩ := hcut
              have HB := Lib.hid hcut
              clear hcut
              go_wp2_with fail
              refine (JI2.out _ (HE.out.below HB.out)).mono ?_
              rintro e wy1 ⟨rfl, hb⟩
              have HB := Lib.hid (below_of HB.out hb (Nat.le_refl _))
              clear hb
              have c1 := (C0.out _ HB.out).2
              go_upto_region 29 with fail
              by_cases h0 : ei = 0
              · have J := Lib.hid (JD2.out h0)
                subst h0
                go_wp2_with fail
                refine (J.out _ (HE.out.below HB.out)).mono ?_
                rintro e wy2 ⟨rfl, hb⟩
                have HB := Lib.hid (below_of HB.out hb (Nat.le_refl _))
                clear hb c1
                go_wp2_with fail
                refine (shown_any _ (HE.out.below HB.out)).mono ?_
                rintro e wy3 ⟨rfl, hb⟩
                have HB := Lib.hid (below_of HB.out hb (Nat.le_refl _))
                clear hb
                go_wp2_with fail
                go_ret
                exact ⟨by simp [Array.getD], below_of HB0.out HB.out (by omega)⟩
              · obtain ⟨b1, b2⟩ := ne_b h0
                clear h0
                go_wp2_with fail
                refine (shown_any _ (HE.out.below HB.out)).mono ?_
                rintro e wy3 ⟨rfl, hb⟩
                have HB := Lib.hid (below_of HB.out hb (Nat.le_refl _))
                clear hb
                go_wp2_with fail
                go_ret
                exact ⟨by simp [Array.getD], below_of HB0.out HB.out (by omega)⟩
end Go.Proofs.YthifbihmogjjpaaDoor

/-
  WordsInverse outside its bounds: a string, a list of fields or a row of numbers too long.
-/
namespace Go.Proofs.YthifbihmogjjpaaDoor
open Go.ChangeShapes Go.WideShapes Go.ChangeAt Go.RowKit Go.Proofs

set_option maxRecDepth 100000 in
set_option maxHeartbeats 2000000 in
theorem inv_long (s : ByteArray) (A : Option Addr) (c : Nat) (fs : List (List UInt8 × Bool)) (B : Option Addr) (d : Nat) (ns : List Int) (n : Int) (w : World) (he : Env w) (hf : FldsAt w A fs) (hs : 3000 < s.size) (hs2 : s.size ≤ 9223372036854775807) :
    Calls Tryd.prog 5 #[.string s, .slice A fs.length c, .agg #[.slice B ns.length d, .int .i64 n]] w fun e w' => e = .returned (.bool true) ∧ Below w.heap.size w w' := by
  obtain ⟨w0, hw0⟩ : ∃ w0, w.alloc (.cells #[.slice B ns.length d, .int .i64 n] 33) = w0 := ⟨_, rfl⟩
  have hb0 : Below w.heap.size w w0 := by rw [← hw0]; exact (Below.refl _ _).alloc (Nat.le_refl _) _
  have c0 := cell_of_row (w.alloc (.cells #[.slice B ns.length d, .int .i64 n] 33)) w.heap.size 0 _ _ _ (heap_alloc_new w _)
  have hsz0 : (w.alloc (.cells #[.slice B ns.length d, .int .i64 n] 33)).heap.size = w.heap.size + 1 := by simp
  rw [hw0] at c0 hsz0
  replace c0 : w0.cell? ⟨w.heap.size, 0, none⟩ = some (.slice B ns.length d) := c0
  have HB0 := Lib.hid hb0
  have HE := Lib.hid (he.below hb0)
  have HF := Lib.hid (hf.below hb0 (Nat.le_refl _))
  clear hb0 he hf
  go_enter Tryd.func5, Tryd.ntmps5
  go_wp2_with fail
  refine (shown_any _ HE.out).mono ?_
  rintro e w9 ⟨rfl, hb⟩
  have HB := Lib.hid hb
  clear hb
  go_wp2_with fail
  go_ret
  exact ⟨by simp [Array.getD], below_of HB0.out HB.out (by omega)⟩

set_option maxRecDepth 100000 in
set_option maxHeartbeats 2000000 in
theorem inv_far (s : ByteArray) (A : Option Addr) (c : Nat) (fs : List (List UInt8 × Bool)) (B : Option Addr) (d : Nat) (ns : List Int) (n : Int) (w : World) (he : Env w) (hf : FldsAt w A fs) (hs : s.size ≤ 3000) (f1 : farL fs = true) (hl : fs.length ≤ 9223372036854775807) :
    Calls Tryd.prog 5 #[.string s, .slice A fs.length c, .agg #[.slice B ns.length d, .int .i64 n]] w fun e w' => e = .returned (.bool true) ∧ Below w.heap.size w w' := by
  have V1 := fun w hf => far_any A c fs w hf hl
  rw [f1] at V1
  have F1 := Lib.hid V1
  clear V1 f1
  obtain ⟨w0, hw0⟩ : ∃ w0, w.alloc (.cells #[.slice B ns.length d, .int .i64 n] 33) = w0 := ⟨_, rfl⟩
  have hb0 : Below w.heap.size w w0 := by rw [← hw0]; exact (Below.refl _ _).alloc (Nat.le_refl _) _
  have c0 := cell_of_row (w.alloc (.cells #[.slice B ns.length d, .int .i64 n] 33)) w.heap.size 0 _ _ _ (heap_alloc_new w _)
  have hsz0 : (w.alloc (.cells #[.slice B ns.length d, .int .i64 n] 33)).heap.size = w.heap.size + 1 := by simp
  rw [hw0] at c0 hsz0
  replace c0 : w0.cell? ⟨w.heap.size, 0, none⟩ = some (.slice B ns.length d) := c0
  have HB0 := Lib.hid hb0
  have HE := Lib.hid (he.below hb0)
  have HF := Lib.hid (hf.below hb0 (Nat.le_refl _))
  clear hb0 he hf
  go_enter Tryd.func5, Tryd.ntmps5
  go_wp2_with fail
  refine (F1.out _ HF.out).mono ?_
  rintro e w' ⟨rfl, rfl⟩
  go_wp2_with fail
  refine (shown_any _ HE.out).mono ?_
  rintro e w9 ⟨rfl, hb⟩
  have HB := Lib.hid hb
  clear hb
  go_wp2_with fail
  go_ret
  exact ⟨by simp [Array.getD], below_of HB0.out HB.out (by omega)⟩

set_option maxRecDepth 100000 in
set_option maxHeartbeats 2000000 in
theorem inv_many (s : ByteArray) (A : Option Addr) (c : Nat) (fs : List (List UInt8 × Bool)) (B : Option Addr) (d : Nat) (ns : List Int) (n : Int) (w : World) (he : Env w) (hf : FldsAt w A fs) (hs : s.size ≤ 3000) (f1 : farL fs = false) (hl : fs.length ≤ 9223372036854775807) (hn : 510 < ns.length) (hn2 : ns.length ≤ 9223372036854775807) :
    Calls Tryd.prog 5 #[.string s, .slice A fs.length c, .agg #[.slice B ns.length d, .int .i64 n]] w fun e w' => e = .returned (.bool true) ∧ Below w.heap.size w w' := by
  have V1 := fun w hf => far_any A c fs w hf hl
  rw [f1] at V1
  have F1 := Lib.hid V1
  clear V1 f1
  obtain ⟨w0, hw0⟩ : ∃ w0, w.alloc (.cells #[.slice B ns.length d, .int .i64 n] 33) = w0 := ⟨_, rfl⟩
  have hb0 : Below w.heap.size w w0 := by rw [← hw0]; exact (Below.refl _ _).alloc (Nat.le_refl _) _
  have c0 := cell_of_row (w.alloc (.cells #[.slice B ns.length d, .int .i64 n] 33)) w.heap.size 0 _ _ _ (heap_alloc_new w _)
  have hsz0 : (w.alloc (.cells #[.slice B ns.length d, .int .i64 n] 33)).heap.size = w.heap.size + 1 := by simp
  rw [hw0] at c0 hsz0
  replace c0 : w0.cell? ⟨w.heap.size, 0, none⟩ = some (.slice B ns.length d) := c0
  have HB0 := Lib.hid hb0
  have HE := Lib.hid (he.below hb0)
  have HF := Lib.hid (hf.below hb0 (Nat.le_refl _))
  clear hb0 he hf
  go_enter Tryd.func5, Tryd.ntmps5
  go_wp2_with fail
  refine (F1.out _ HF.out).mono ?_
  rintro e w' ⟨rfl, rfl⟩
  go_wp2_with fail
  refine (shown_any _ HE.out).mono ?_
  rintro e w9 ⟨rfl, hb⟩
  have HB := Lib.hid hb
  clear hb
  go_wp2_with fail
  go_ret
  exact ⟨by simp [Array.getD], below_of HB0.out HB.out (by omega)⟩

end Go.Proofs.YthifbihmogjjpaaDoor

/-
  WordsInverse, whole.
-/
namespace Go.Proofs.YthifbihmogjjpaaDoor
open Go.ChangeShapes Go.WideShapes Go.ChangeAt Go.RowKit Go.Proofs

theorem inv_any (s : ByteArray) (A : Option Addr) (c : Nat) (fs : List (List UInt8 × Bool)) (B : Option Addr) (d : Nat) (ns : List Int) (n : Int) (w : World) (he : Env w) (h4 : C4 w) (hf : FldsAt w A fs) (hi : IntsAt w B ns) (hfit : Fits ns)
    (hs : s.size ≤ 9223372036854775807) (hl : fs.length ≤ 9223372036854775807) (hn : ns.length ≤ 9223372036854775807) (n0 : -9223372036854775808 ≤ n) (n1 : n ≤ 9223372036854775807) :
    Calls Tryd.prog 5 #[.string s, .slice A fs.length c, .agg #[.slice B ns.length d, .int .i64 n]] w fun e w' => e = .returned (.bool true) ∧ Below w.heap.size w w' := by
  by_cases h1 : 3000 < s.size
  · exact inv_long s A c fs B d ns n w he hf h1 hs
  · cases f1 : farL fs with
    | true => exact inv_far s A c fs B d ns n w he hf (by omega) f1 hl
    | false =>
      by_cases h2 : 510 < ns.length
      · exact inv_many s A c fs B d ns n w he hf (by omega) f1 hl h2 hn
      · exact inv_main s A c fs B d ns n w he h4 hf hi hfit (by omega) f1 (by omega) n0 n1
end Go.Proofs.YthifbihmogjjpaaDoor

/-
  A field that is a slice of integers: opened, and read again.
-/
namespace Go.Proofs.YthifbihmogjjpaaDoor
open Go.ChangeShapes Go.ChangeMaps Go.WideShapes Go.ChangeAt Go.RowKit Go.Proofs Go.Deep

theorem ycInt : Tryd.prog.cellsOf 3 = 1 := by kernel_rfl
theorem add_at (b off j : Nat) : (⟨b, off, none⟩ : Addr).add j = ⟨b, off + j, none⟩ := by unfold Addr.add; split <;> simp_all
theorem el_take (zs : List Int) (n i : Nat) (h : i < n) : Pl.el (zs.take n) i = zs.getD i 0 := by
  unfold Pl.el
  rw [List.getElem?_take_of_lt h, List.getD_eq_getElem?_getD]
theorem ints_open2 {H : Type} {enc : TypeId × Value → H} {W : World} {v0 : Value} {d0 : DataW H} {p0 : List MemPlace} {m : Nat} (h0 : DataW.trod enc Tryd.prog W 0 (fun _ => true) true m 31 [v0] = some (d0, p0)) :
    ∃ A c ns, v0 = .slice A ns.length c ∧ IntsAt W A ns ∧ Fits ns ∧ ns.length ≤ maxLen ∧
      ∀ (W' : World) (sp : Nat → Bool), Below W.heap.size W W' → (∀ x ∈ p0, sp x.block = true) → ∃ n, DataW.trod enc Tryd.prog W' 0 sp true n 31 [v0] = some (d0, p0) := by
  rcases open_ints Tryd.underlying31 Tryd.underlying3 ycInt h0 with ⟨hc, hx⟩ | ⟨a, l0, c0, zs, hc, _, hl, hm, hz, hx, hcell, hwf⟩
  · simp only [List.cons.injEq, and_true] at hc
    subst hc
    simp only [Prod.mk.injEq] at hx
    obtain ⟨rfl, rfl⟩ := hx
    exact ⟨none, 0, [], rfl, .inl rfl, fun i => by simp [Pl.el], by simp, fun W' sp _ _ => ⟨1, by simp [DataW.trod, Tryd.underlying31, Value.cells]⟩⟩
  · simp only [List.cons.injEq, and_true] at hc
    subst hc
    simp only [if_true] at hz
    simp only [Prod.mk.injEq] at hx
    obtain ⟨rfl, rfl⟩ := hx
    have hlen : (zs.take l0).length = l0 := by rw [List.length_take]; omega
    refine ⟨some a, c0, zs.take l0, by rw [hlen], ?_, ?_, by rw [hlen]; omega, ?_⟩
    · by_cases hl0 : l0 = 0
      · subst hl0; exact .inl (by simp)
      · have hs := World.cell?_spot (hcell 0 (by omega))
        have hlt := cellw_lt (hcell 0 (by omega))
        obtain ⟨b, off, spot⟩ := a
        have hspot : spot = none := by simpa [Addr.add] using hs
        subst hspot
        rw [add_at] at hlt
        refine .inr ⟨b, off, rfl, hlt, fun i hi => ?_⟩
        rw [hlen] at hi
        have h1 := hcell i (by omega)
        rw [add_at] at h1
        rw [el_take zs l0 i hi]; exact h1
    · intro i
      by_cases hi : i < l0
      · rw [el_take zs l0 i hi, List.getD_eq_getElem?_getD, List.getElem?_eq_getElem (by omega)]
        have := hwf _ (List.getElem_mem (l := zs) (n := i) (by omega))
        simpa [Lit.wf, IntKind.min, IntKind.max, IntKind.signed, IntKind.bits] using this
      · unfold Pl.el
        rw [List.getElem?_eq_none (by rw [hlen]; omega)]
        exact ⟨by decide, by decide⟩
    · intro W' sp hb hsp
      refine ⟨0 + 2, shut_ints 0 Tryd.underlying31 Tryd.underlying3 ycInt (Nat.zero_le _) hl hm ?_ (fun i hi => ?_) hwf⟩
      · cases hs : sp a.block with
        | true => rw [if_pos rfl]; exact hz
        | false =>
          rw [if_neg (by simp)]
          rcases Nat.eq_zero_or_pos zs.length with h | h
          · omega
          · exfalso
            have := hsp (.cell a.block (a.off + 0)) (by simp only [MemPlace.row, List.mem_map, List.mem_range]; exact ⟨0, h, rfl⟩)
            have e : (MemPlace.cell a.block (a.off + 0)).block = a.block := rfl
            rw [e, hs] at this
            cases this
      · have h1 := hcell i hi
        rw [hb.cell (p := a.add i) (cellw_lt h1)]; exact h1

end Go.Proofs.YthifbihmogjjpaaDoor
