/-
  Plain functions, joined into one text.
-/
import Derived.Test.YtmobjpmkenpckaaDoorQd
import Derived.Test.YtmobjpmkenpckaaDoorQa
import Derived.Lib.ItoaLen
import Derived.Lib.AppendStr
import Derived.Deep.RegionHeld3
/-
  entries.Newest of entries.
-/
namespace Go.Proofs.YtmobjpmkenpckaaDoor.KK
open Go.ChangeShapes Go.WideShapes Go.ChangeAt Go.RowKit Go.Proofs Go.Sort

set_option maxRecDepth 100000 in
theorem Newest_any (A : Option Addr) (c : Nat) (l : List V) (w : World) (hf : EsAt w A (l.map (·.1))) (hne : l ≠ []) (hn : l.length ≤ 5000) (hst : StableOk l.length) :
    Calls Tryd.prog 11 #[.slice A l.length c] w fun e w' => ∃ A' c' l', e = .returned (.tuple #[.slice A' (cpt l').length c', .int .i64 0]) ∧ Stb.Stab leV l l' ∧ Own w' w.heap.size A' (cpt l') ∧ Below w.heap.size w w' := by
  have J1 := Lib.hid (Sort_any A c l w hf hne hn hst)
  have HL := Lib.hid hne
  clear hf hst hne
  obtain ⟨n, hnn⟩ : ∃ n, l.length = n := ⟨_, rfl⟩
  rw [hnn] at J1 hn ⊢
  have HN := Lib.hid hnn
  clear hnn
  go_enter Tryd.func11, Tryd.ntmps11
  go_wp2_with fail
  refine J1.out.mono ?_
  rintro e w1 ⟨A', c', l', rfl, hst, ho, hb1, hc'⟩
  have HST := Lib.hid hst
  have HB1 := Lib.hid hb1
  have hl : l'.length = n := by rw [Stb.stab_length preV hst]; exact HN.out
  have hln : l' ≠ [] := fun e => by
    have h1 := HL.out
    rw [e] at hl
    exact h1 (List.eq_nil_of_length_eq_zero (by have := HN.out; simp at hl; omega))
  obtain ⟨g, R, rfl, hg, hgl, hr⟩ : ∃ g R, A' = some ⟨g, 0, none⟩ ∧ w.heap.size ≤ g ∧ g < w1.heap.size ∧ ERow w1 g 0 (l' ++ R) := by
    rcases ho with h | h
    · exact absurd h hln
    · exact h
  have J2 := Lib.hid (by
    have K := cpt_any w.heap.size g 0 c' l' w1 (fun j hj => ?_) hgl hg (by rw [hl]; omega) (by rw [hl]; exact hc')
    rw [hl] at K
    exact K
    · have e := hr j (by rw [size_flatK] at hj ⊢; simp at hj ⊢; omega)
      rw [get_flatK _ _ _ _ (by rw [size_flatK] at hj; simp at hj ⊢; omega)] at e
      rw [get_flatK _ _ _ _ (by rw [size_flatK] at hj; exact hj)]
      have hj4 : j / 4 < l'.length := by rw [size_flatK] at hj; simp at hj; omega
      have e1 : (l' ++ R).toArray[j / 4]! = (l' ++ []).toArray[j / 4]! := by
        rw [getElem!_pos _ _ (by simp; omega), getElem!_pos _ _ (by simpa using hj4)]
        simp [List.getElem_append_left, hj4]
      rw [e1] at e
      exact e)
  clear hst ho hb1 hc' hl hln hr
  go_wp2_with fail
  refine J2.out.mono ?_
  rintro e w2 ⟨c2, rfl, ⟨R2, hr2⟩, hb2, _⟩
  have HB2 := Lib.hid (HB1.out.trans hb2)
  have HO := Lib.hid (show Own w2 w.heap.size (some ⟨g, 0, none⟩) (cpt l') from .inr ⟨g, R2, rfl, hg, Nat.lt_of_lt_of_le hgl hb2.size, hr2⟩)
  clear hb2 hr2 J2
  go_wp2_with fail
  go_ret2
  exact ⟨_, _, l', rfl, HST.out, HO.out, HB2.out⟩
end Go.Proofs.YtmobjpmkenpckaaDoor.KK

/-
  words.Quote of plain bytes.
-/
namespace Go.Proofs.YtmobjpmkenpckaaDoor.KK
open Go.ChangeShapes Go.WideShapes Go.ChangeAt Go.RowKit Go.Proofs

set_option maxRecDepth 100000 in
/-- Quote of plain bytes: the table of escapes isn't looked at -/
theorem Quote_plain (s : ByteArray) (w : World) (hp : ∀ (k : Nat) (h : k < s.size), Pl.plain s[k] = true) (hs : s.size ≤ 4294967295) :
    Calls Tryd.prog 100 #[.string s] w fun e w' => e = .returned (.string ⟨(Pl.quote (Pl.L s)).toArray⟩) ∧ Below w.heap.size w w' := by
  have HP := Lib.hid hp
  clear hp
  obtain ⟨i0, hi, hz0, hz1, hz2⟩ := info_parts infoB
  go_enter Tryd.func100, Tryd.ntmps100
  go_wp2_with fail
  go_loopw [3, 4, 8] (fun v _ i wr => ∃ (k : Nat) (t : List UInt8), k ≤ s.size ∧ i = .int .i64 k ∧ t = 34 :: Pl.qbody ((Pl.L s).take k) ∧ wr.ownsRow w.heap.size 5 1 v t.length (t.map B8) ∧ Below w.heap.size w wr) (fun _ _ i _ => s.size - (intOf i).toNat)
  case atStart => exact ⟨0, [34], Nat.zero_le _, rfl, rfl, World.ownsRow_lit w #[.int .u8 34] 1 (Nat.le_refl _) (by decide) rfl, (Below.refl _ w).alloc (Nat.le_refl _) _⟩
  case round =>
    obtain ⟨k, t, hk, rfl, ht, hown, hb⟩ := hrel
    have HT := Lib.hid ht
    have hsz := hb.size
    have HB := Lib.hid hb
    have htl : t.length ≤ 17179869181 := by
      rw [ht, List.length_cons]
      have := Pl.qbody_len ((Pl.L s).take k)
      rw [List.length_take, Pl.L_length] at this
      omega
    clear ht hb
    by_cases hlt : k < s.size
    · have HN : Hid (t ++ Pl.esc s[k] = 34 :: Pl.qbody ((Pl.L s).take (k + 1))) := Lib.hid (by rw [Pl.qbody_snoc s k hlt, HT.out]; rfl)
      go_wp2_with (go_at_call 101; refine (appendByte_plain s[k] _ t w.heap.size _ hown hsz (by omega) (HP.out k hlt)).mono ?_; rintro e w1 ⟨v1, rfl, hown1, hb1⟩; have HB1 := Lib.hid hb1; clear hb1)
      go_roundw
      case rel => exact ⟨k + 1, t ++ Pl.esc s[k], by omega, by go_num, HN.out, hown1, HB.out.trans HB1.out⟩
      case measure => simp [intOf]; omega
    · have HN : Hid (t ++ [34] = Pl.quote (Pl.L s)) := Lib.hid (by rw [HT.out, List.take_of_length_le (by rw [Pl.L_length]; omega)]; rfl)
      go_wp2_with (at_builtin; refine wpList_append_own _ rfl (.tmp 17) (.tmp 18) 59 rfl w.heap.size 5 i0 (.int .u8 0) 1 1 Tryd.underlying59 hi hz0 hz1 hz2 rfl (by decide) _ t.length _ rfl (hown.alloc _) ⟨wr.heap.size, 0, none⟩ 1 1 [.int .u8 34] rfl rfl (cell_one_new _ _ _) (by simp [Value.oneCell']) (by unfold maxLen; omega) (by omega) (by simp; omega) ?_; intro v2 w2 hown2 hg2 _; have HG2 := Lib.hid hg2; clear hg2; have hcv := conv_own (own_app (u := [34]) rfl rfl rfl hown2))
      go_ret
      exact ⟨by rw [← HN.out]; rfl, (HB.out.alloc (by omega) _).grown HG2.out (by simp; omega) (fun g hg => (hown.lt g hg).1)⟩
/-- Quote gives what it should, of s, in whatever world comes of w -/
def QuoteAt (s : ByteArray) (w : World) : Prop := ∀ w1, Below w.heap.size w w1 → Calls Tryd.prog 100 #[.string s] w1 fun e w' => e = .returned (.string ⟨(Pl.quote (Pl.L s)).toArray⟩) ∧ Below w1.heap.size w1 w'
theorem QuoteAt.below {s : ByteArray} {w w' : World} (h : QuoteAt s w) (hb : Below w.heap.size w w') : QuoteAt s w' := fun w1 h1 => h w1 (hb.trans (h1.mono hb.size))
theorem QuoteAt.plain {s : ByteArray} {w : World} (hp : ∀ (k : Nat) (h : k < s.size), Pl.plain s[k] = true) (hs : s.size ≤ 4294967295) : QuoteAt s w := fun w1 _ => Quote_plain s w1 hp hs
theorem QuoteAt.esc {s : ByteArray} {w : World} (he : EscAt w) (hs : s.size ≤ 4294967295) : QuoteAt s w := fun w1 h => Quote_any s w1 (he.below h he.lt) hs
end Go.Proofs.YtmobjpmkenpckaaDoor.KK

/-
  fieldsOf, lineOf: the line of an entry.
-/
namespace Go.Proofs.YtmobjpmkenpckaaDoor.KK
open Go.ChangeShapes Go.WideShapes Go.ChangeAt Go.RowKit Go.Proofs Go.Sort

/-- the package-level variables that are read -/
def EnvE (w : World) : Prop := LibAt w ∧ 5 ≤ w.heap.size
theorem EnvE.below {w w' : World} (h : EnvE w) (hb : Below w.heap.size w w') : EnvE w' :=
  ⟨h.1.below hb h.2, Nat.le_trans h.2 hb.size⟩
/-- the fields of an entry's line: whether quoted, and the string -/
def flds (x : El.En) : List (Bool × ByteArray) :=
  if x.2.2.1 then [(false, ⟨#[100, 101, 108]⟩), (true, x.1), (false, ⟨(Lib.itoa x.2.2.2).toArray⟩)]
  else [(false, ⟨#[112, 117, 116]⟩), (true, x.1), (true, x.2.1), (false, ⟨(Lib.itoa x.2.2.2).toArray⟩)]
def ifv (f : Bool × ByteArray) : Value := .iface (if f.1 then 77 else 75) (.string f.2)
def wrtF (f : Bool × ByteArray) : ByteArray := if f.1 then ⟨(Pl.quote (Pl.L f.2)).toArray⟩ else f.2
/-- the line of an entry -/
def lineE (x : El.En) : List UInt8 := Lib.join ((flds x).map fun f => (wrtF f).data.toList) [32]
set_option maxRecDepth 100000 in
theorem fo_any (k v : ByteArray) (d : Bool) (q : Int) (w : World) (he : EnvE w) (h0 : -9223372036854775808 ≤ q) (h1 : q ≤ 9223372036854775807) :
    Calls Tryd.prog 50 #[.agg #[.string k, .string v, .bool d, .int .i64 q]] w fun e w' => ∃ g, e = .returned (.slice (some ⟨g, 0, none⟩) (flds (k, v, d, q)).length (flds (k, v, d, q)).length) ∧ g < w'.heap.size ∧ (∀ j f, (flds (k, v, d, q))[j]? = some f → w'.cell? ⟨g, 0 + j, none⟩ = some (ifv f)) ∧ Below w.heap.size w w' := by
  have hbx : Below w.heap.size w (w.alloc (.cells #[.string k, .string v, .bool d, .int .i64 q] 33)) := (Below.refl _ _).alloc (Nat.le_refl _) _
  have J := Lib.hid (Digits_any q _ (he.below hbx).1 h0 h1)
  have HBX := Lib.hid hbx
  have HC := box1 k v d q w
  clear he hbx
  cases d with
  | true =>
    go_enter Tryd.func50, Tryd.ntmps50
    go_wp2_with fail
    refine J.out.mono ?_
    rintro e w1 ⟨rfl, hb1⟩
    obtain ⟨a0, a1, a2, a3, hz⟩ := HC.out _ hb1
    have HB1 := Lib.hid (eb_of HBX.out hb1 (Nat.le_refl _))
    clear hb1
    go_wp2_with fail
    go_ret
    refine ⟨w1.heap.size, rfl, by simp, fun j f hj => ?_, HB1.out.alloc (by omega) _⟩
    have hr := fun i => cell_of_row (w1.alloc (.cells #[.iface 75 (.string ⟨#[100, 101, 108]⟩), .iface 77 (.string k), .iface 75 (.string ⟨(Lib.itoa q).toArray⟩)] 68)) w1.heap.size i _ _ _ (heap_alloc_new w1 _)
    match j, hj with
    | 0, hj => cases hj; exact hr 0
    | 1, hj => cases hj; exact hr 1
    | 2, hj => cases hj; exact hr 2
    | j + 3, hj => cases hj
  | false =>
    go_enter Tryd.func50, Tryd.ntmps50
    go_wp2_with fail
    refine J.out.mono ?_
    rintro e w1 ⟨rfl, hb1⟩
    obtain ⟨a0, a1, a2, a3, hz⟩ := HC.out _ hb1
    have HB1 := Lib.hid (eb_of HBX.out hb1 (Nat.le_refl _))
    clear hb1
    go_wp2_with fail
    go_ret
    refine ⟨w1.heap.size, rfl, by simp, fun j f hj => ?_, HB1.out.alloc (by omega) _⟩
    have hr := fun i => cell_of_row (w1.alloc (.cells #[.iface 75 (.string ⟨#[112, 117, 116]⟩), .iface 77 (.string k), .iface 77 (.string v), .iface 75 (.string ⟨(Lib.itoa q).toArray⟩)] 68)) w1.heap.size i _ _ _ (heap_alloc_new w1 _)
    match j, hj with
    | 0, hj => cases hj; exact hr 0
    | 1, hj => cases hj; exact hr 1
    | 2, hj => cases hj; exact hr 2
    | 3, hj => cases hj; exact hr 3
    | j + 4, hj => cases hj
theorem bw_any (s : ByteArray) (w : World) : Calls Tryd.prog 98 #[.string s] w fun e w' => e = .returned (.string s) ∧ Below w.heap.size w w' := by
  go_enter Tryd.func98, Tryd.ntmps98
  go_wp2_with fail
  go_ret
  exact ⟨rfl, Below.refl _ _⟩
theorem qw_any (s : ByteArray) (w : World) (he : QuoteAt s w) : Calls Tryd.prog 99 #[.string s] w fun e w' => e = .returned (.string ⟨(Pl.quote (Pl.L s)).toArray⟩) ∧ Below w.heap.size w w' := by
  have J := Lib.hid (he w (Below.refl _ _))
  clear he
  go_enter Tryd.func99, Tryd.ntmps99
  go_wp2_with fail
  refine J.out.mono ?_
  rintro e w1 ⟨rfl, hb1⟩
  have HB1 := Lib.hid hb1
  clear hb1
  go_wp2_with fail
  go_ret
  exact ⟨rfl, HB1.out⟩
theorem infoSt : (Tryd.prog.info? 9).map (fun i => (i.zero, i.size, i.bytes)) = some (some (.string ⟨#[]⟩), 1, 16) := by kernel_rfl
theorem cell_one_str (w : World) (v : Value) : ∀ (j : Nat) (u : Value), [v][j]? = some u → (w.alloc (.cells #[v] 9)).cell? ((⟨w.heap.size, 0, none⟩ : Addr).add j) = some u :=
  World.news_of_block (cs := #[v]) (t := 9) (fr := (0, 0)) (heap_alloc_new w _)
def strB (xs : List ByteArray) : List Value := xs.map Value.string
theorem strB_snoc (xs : List ByteArray) (x : ByteArray) : strB (xs ++ [x]) = strB xs ++ [.string x] := by simp [strB]
theorem own_slice {w : World} {base e size n : Nat} {v : Value} {xs : List Value} (h : w.ownsRow base e size v n xs) : ∃ A c, v = .slice A n c := by
  rcases h.2 with ⟨rfl, h1⟩ | ⟨g, cap, cur, hv, _⟩
  · exact ⟨none, 0, by rw [h1]⟩
  · exact ⟨_, _, hv⟩
theorem quote_len (l : List UInt8) : (Pl.quote l).length ≤ 4 * l.length + 2 := by
  have := Pl.qbody_len l
  unfold Pl.quote; simp; omega
theorem flds_len (x : El.En) : (flds x).length ≤ 4 ∧ 3 ≤ (flds x).length := by
  unfold flds; split <;> simp
theorem flds_size (x : El.En) (h1 : x.1.size ≤ 64) (h2 : x.2.1.size ≤ 64) (q0 : -9223372036854775808 ≤ x.2.2.2) (q1 : x.2.2.2 ≤ 9223372036854775807) : ∀ f ∈ flds x, f.2.size ≤ 64 := by
  have hi : (⟨(Lib.itoa x.2.2.2).toArray⟩ : ByteArray).size ≤ 64 := by
    have := Lib.itoa_length_le x.2.2.2 q0 q1
    rw [Lib.size_eq]; simp; omega
  unfold flds
  intro f hf
  split at hf
  · simp only [List.mem_cons, List.not_mem_nil, or_false] at hf
    rcases hf with rfl | rfl | rfl
    · decide
    · exact h1
    · exact hi
  · simp only [List.mem_cons, List.not_mem_nil, or_false] at hf
    rcases hf with rfl | rfl | rfl | rfl
    · decide
    · exact h1
    · exact h2
    · exact hi
theorem join_le (xs : List (List UInt8)) (m : Nat) (h : ∀ x ∈ xs, x.length ≤ m) : (Lib.join xs [32]).length ≤ xs.length * (m + 1) := by
  unfold Lib.join List.intercalate
  induction xs with
  | nil => simp
  | cons x t ih =>
    have hx := h x (by simp)
    have ht := ih (fun y hy => h y (by simp [hy]))
    cases t with
    | nil => simp at *; omega
    | cons y t => simp at *; rw [Nat.add_mul]; omega
theorem wrtF_le (f : Bool × ByteArray) (h : f.2.size ≤ 64) : (wrtF f).data.toList.length ≤ 300 := by
  unfold wrtF
  split
  · have := quote_len (Pl.L f.2)
    rw [Pl.L_length] at this
    simp; omega
  · have := Lib.size_eq f.2
    omega
theorem lineE_le (x : El.En) (h1 : x.1.size ≤ 64) (h2 : x.2.1.size ≤ 64) (q0 : -9223372036854775808 ≤ x.2.2.2) (q1 : x.2.2.2 ≤ 9223372036854775807) : (lineE x).length ≤ 2000 := by
  have := join_le ((flds x).map fun f => (wrtF f).data.toList) 300 (fun y hy => by
    obtain ⟨f, hf, rfl⟩ := List.mem_map.1 hy
    exact wrtF_le f (flds_size x h1 h2 q0 q1 f hf))
  have h4 := (flds_len x).1
  rw [List.length_map] at this
  unfold lineE
  have : (flds x).length * 301 ≤ 4 * 301 := Nat.mul_le_mul_right _ h4
  omega
set_option maxRecDepth 100000 in
set_option maxHeartbeats 2000000 in
theorem lo_any (k v : ByteArray) (d : Bool) (q : Int) (w : World) (he : EnvE w) (hqk : QuoteAt k w) (hqv : QuoteAt v w) (hk : k.size ≤ 64) (hv : v.size ≤ 64) (h0 : -9223372036854775808 ≤ q) (h1 : q ≤ 9223372036854775807) :
    Calls Tryd.prog 41 #[.agg #[.string k, .string v, .bool d, .int .i64 q]] w fun e w' => e = .returned (.string ⟨(lineE (k, v, d, q)).toArray⟩) ∧ Below w.heap.size w w' := by
  obtain ⟨i0, hi, hz0, hz1, hz2⟩ := info_parts infoSt
  have hbx : Below w.heap.size w (w.alloc (.cells #[.string k, .string v, .bool d, .int .i64 q] 33)) := (Below.refl _ _).alloc (Nat.le_refl _) _
  have hsz := flds_size (k, v, d, q) hk hv h0 h1
  have hqf : ∀ f ∈ flds (k, v, d, q), f.1 = true → QuoteAt f.2 w := by
    intro f hf hq
    cases d <;> simp only [flds, if_true, if_false, Bool.false_eq_true, List.mem_cons, List.not_mem_nil, or_false] at hf
    · rcases hf with rfl | rfl | rfl | rfl
      · cases hq
      · exact hqk
      · exact hqv
      · cases hq
    · rcases hf with rfl | rfl | rfl
      · cases hq
      · exact hqk
      · cases hq
  have HQF := Lib.hid hqf
  clear hqf hqk hqv
  have hlen := lineE_le (k, v, d, q) hk hv h0 h1
  have hfl := flds_len (k, v, d, q)
  have J := Lib.hid (fo_any k v d q _ (he.below hbx) h0 h1)
  have HLE : Hid (lineE (k, v, d, q) = Lib.join ((flds (k, v, d, q)).map fun f => (wrtF f).data.toList) [32]) := Lib.hid rfl
  have HBX := Lib.hid hbx
  have HE := Lib.hid he
  clear hbx he
  generalize lineE (k, v, d, q) = L at *
  generalize flds (k, v, d, q) = fs at *
  have HSZ := Lib.hid hsz
  have HLEN := Lib.hid hlen
  obtain ⟨n, hn⟩ : ∃ n, fs.length = n := ⟨_, rfl⟩
  rw [hn] at J hfl
  have HN := Lib.hid hn
  clear hsz hlen hn
  go_enter Tryd.func41, Tryd.ntmps41
  go_wp2_with fail
  refine J.out.mono ?_
  rintro e w1 ⟨g, rfl, hg, hc, hb1⟩
  have HB1 := Lib.hid (eb_of HBX.out hb1 (Nat.le_refl _))
  have HC := Lib.hid hc
  clear hb1 hc J
  go_wp2_with fail
  go_loopw [3, 9] (fun pv iv wr => ∃ (j : Nat) (ps : List ByteArray), j ≤ n ∧ iv = .int .i64 j ∧ ps = (fs.take j).map wrtF ∧ wr.ownsRow w1.heap.size 9 1 pv ps.length (strB ps) ∧ Below w1.heap.size w1 wr) (fun _ iv _ => n - (intOf iv).toNat)
  case atStart => exact ⟨0, [], Nat.zero_le _, rfl, rfl, World.ownsRow_nil _ _ _ _, Below.refl _ _⟩
  case round =>
    obtain ⟨j, ps, hj, rfl, hps, hown, hb⟩ := hrel
    have hszz := hb.size
    have HB := Lib.hid hb
    have HPS := Lib.hid hps
    have hpl : ps.length ≤ 4 := by rw [hps, List.length_map, List.length_take]; omega
    clear hb hps
    by_cases hlt : j < n
    · have hjl : j < fs.length := by rw [HN.out]; exact hlt
      have hcj := HC.out j fs[j] (List.getElem?_eq_getElem hjl)
      have hcj' := (HB.out.cell (p := ⟨g, 0 + j, none⟩) hg).trans hcj
      have hE : fs[j].1 = true → QuoteAt fs[j].2 wr := fun h => ((HQF.out fs[j] (List.getElem_mem hjl) h).below HB1.out).below HB.out
      have hsj := HSZ.out fs[j] (List.getElem_mem hjl)
      have HP2 := Lib.hid (show ps ++ [wrtF fs[j]] = (fs.take (j + 1)).map wrtF by rw [HPS.out, List.take_succ_eq_append_getElem hjl, List.map_append]; rfl)
      rw [Nat.zero_add] at hcj'
      clear hcj
      obtain ⟨⟨qd, s⟩, hf⟩ : ∃ f, fs[j] = f := ⟨_, rfl⟩
      rw [hf] at hcj' hsj HP2 hE
      clear hf
      cases qd with
      | true =>
        rw [show ifv (true, s) = .iface 77 (.string s) from rfl] at hcj'
        have hwf : wrtF (true, s) = ⟨(Pl.quote (Pl.L s)).toArray⟩ := rfl
        rw [hwf] at HP2
        have J2 := Lib.hid (qw_any s wr (hE rfl))
        clear hE hwf
        generalize (⟨(Pl.quote (Pl.L s)).toArray⟩ : ByteArray) = x at *
        go_wp2_with fail
        refine J2.out.mono ?_
        rintro e w2 ⟨rfl, hb2⟩
        have hb2w : w1.heap.size ≤ w2.heap.size := Nat.le_trans hszz hb2.size
        have HB2 := Lib.hid (HB.out.trans (hb2.mono hszz))
        have HO2 := Lib.hid (own_below hown hb2)
        have N2 := Lib.hid (cell_one_str w2 (.string x))
        clear hb2 hown
        go_wp2_with (at_builtin; go_loud (refine wpList_append_own _ rfl (.tmp 13) (.tmp 16) 64 rfl w1.heap.size 9 i0 (.string ⟨#[]⟩) 1 16 Tryd.underlying64 hi hz0 hz1 hz2 rfl (by decide) _ ps.length _ rfl (HO2.out.alloc _) ⟨w2.heap.size, 0, none⟩ 1 1 [.string x] rfl rfl N2.out (by simp [Value.oneCell']) (by unfold maxLen; omega) (by omega) (by simp; omega) ?_; intro v3 w3 hown3 hg3 _; have hb3 := (HB2.out.alloc hb2w (.cells #[.string x] 9)).grown hg3 (by simp; omega) (fun g hg => (HO2.out.lt g hg).1); have HB3 := Lib.hid hb3; have HO3 := Lib.hid hown3; clear hg3 hb3 hown3))
        go_roundw
        case rel => exact ⟨j + 1, ps ++ [x], by omega, by go_num, HP2.out, by rw [strB_snoc, List.length_append]; exact HO3.out, HB3.out⟩
        case measure => simp [intOf]; omega
      | false =>
        rw [show ifv (false, s) = .iface 75 (.string s) from rfl] at hcj'
        have hwf : wrtF (false, s) = s := rfl
        rw [hwf] at HP2
        have J2 := Lib.hid (bw_any s wr)
        clear hE hwf
        obtain ⟨x, hx⟩ : ∃ x, s = x := ⟨_, rfl⟩
        subst hx
        go_wp2_with fail
        refine J2.out.mono ?_
        rintro e w2 ⟨rfl, hb2⟩
        have hb2w : w1.heap.size ≤ w2.heap.size := Nat.le_trans hszz hb2.size
        have HB2 := Lib.hid (HB.out.trans (hb2.mono hszz))
        have HO2 := Lib.hid (own_below hown hb2)
        have N2 := Lib.hid (cell_one_str w2 (.string s))
        clear hb2 hown
        go_wp2_with (at_builtin; go_loud (refine wpList_append_own _ rfl (.tmp 13) (.tmp 16) 64 rfl w1.heap.size 9 i0 (.string ⟨#[]⟩) 1 16 Tryd.underlying64 hi hz0 hz1 hz2 rfl (by decide) _ ps.length _ rfl (HO2.out.alloc _) ⟨w2.heap.size, 0, none⟩ 1 1 [.string s] rfl rfl N2.out (by simp [Value.oneCell']) (by unfold maxLen; omega) (by omega) (by simp; omega) ?_; intro v3 w3 hown3 hg3 _; have hb3 := (HB2.out.alloc hb2w (.cells #[.string s] 9)).grown hg3 (by simp; omega) (fun g hg => (HO2.out.lt g hg).1); have HB3 := Lib.hid hb3; have HO3 := Lib.hid hown3; clear hg3 hb3 hown3))
        go_roundw
        case rel => exact ⟨j + 1, ps ++ [s], by omega, by go_num, HP2.out, by rw [strB_snoc, List.length_append]; exact HO3.out, HB3.out⟩
        case measure => simp [intOf]; omega
    · have hjn : j = n := by omega
      subst hjn
      have hp2 : ps = fs.map wrtF := by rw [HPS.out, List.take_of_length_le (by rw [HN.out]; exact Nat.le_refl _)]
      obtain ⟨A, c, rfl⟩ := own_slice hown
      obtain ⟨gp, hgp, hgl, hcells, hcap⟩ : ∃ gp, A = some ⟨gp, 0, none⟩ ∧ gp < wr.heap.size ∧ (∀ (j : Nat) x, ps[j]? = some x → wr.cell? ⟨gp, 0 + j, none⟩ = some (.string x)) ∧ ps.length ≤ c := by
        have hpn : 3 ≤ ps.length := by rw [hp2, List.length_map, HN.out]; omega
        rcases hown.2 with ⟨h1, h2⟩ | ⟨gp, cap, cur, hv, hb, hh, hnc, _⟩
        · omega
        · injection hv with e1 e2 e3
          subst e1; subst e3
          refine ⟨gp, rfl, (Array.getElem?_eq_some_iff.1 hh).1, fun j x hx => ?_, hnc⟩
          have := hown.cells (g := gp) rfl j (.string x) (by rw [strB, List.getElem?_map, hx]; rfl)
          rw [add_at'] at this; rw [Nat.zero_add] at this ⊢; exact this
      subst hgp
      have J3 := Lib.hid (Tryd.strings_Join gp 0 c ps ⟨#[32]⟩ wr hcells hgl (by omega) hcap (by
        have := HLEN.out
        rw [HLE.out] at this
        rw [hp2, List.map_map]
        exact Nat.le_trans this (by decide)))
      have HJ : Hid (Lib.join (ps.map (·.data.toList)) (⟨#[32]⟩ : ByteArray).data.toList = L) := Lib.hid (by rw [hp2, List.map_map, HLE.out]; rfl)
      rw [HJ.out] at J3
      clear hcells hcap hp2 hown
      go_wp2_with fail
      refine J3.out.mono ?_
      rintro e w3 ⟨rfl, hb3⟩
      have HB3 := Lib.hid (HB1.out.trans ((HB.out.trans (hb3.mono hszz)).mono HB1.out.size))
      clear hb3
      go_wp2_with fail
      go_ret
      exact ⟨rfl, HB3.out⟩
end Go.Proofs.YtmobjpmkenpckaaDoor.KK

/-
  entries.Print of at most 60 entries.
-/
namespace Go.Proofs.YtmobjpmkenpckaaDoor.KK
open Go.ChangeShapes Go.WideShapes Go.ChangeAt Go.RowKit Go.Proofs Go.Sort

theorem strCells_B8' (u : List UInt8) : Lib.strCells ⟨u.toArray⟩ = u.map B8 := by
  unfold Lib.strCells B8
  simp
theorem size_mk' (u : List UInt8) : (⟨u.toArray⟩ : ByteArray).size = u.length := by
  show u.toArray.size = u.length
  simp
theorem own_str' {w : World} {base : Nat} {v : Value} {t u : List UInt8} (h : w.ownsRow base 5 1 v (t.length + (⟨u.toArray⟩ : ByteArray).size) (t.map B8 ++ Lib.strCells ⟨u.toArray⟩)) : w.ownsRow base 5 1 v (t ++ u).length ((t ++ u).map B8) := by
  rw [strCells_B8'] at h
  exact own_app rfl (size_mk' u) rfl h
/-- the text of entries -/
def textE (xs : List El.En) : List UInt8 := xs.flatMap fun x => lineE x ++ [10]
theorem textE_next {xs : List El.En} {k : Nat} (h : k < xs.length) : textE (xs.take (k + 1)) = textE (xs.take k) ++ lineE xs[k] ++ [10] := by
  unfold textE
  rw [List.take_succ_eq_append_getElem h, List.flatMap_append, List.append_assoc]
  congr 1
  simp
theorem textE_len : ∀ (xs : List El.En), (∀ x ∈ xs, (lineE x).length ≤ 2000) → (textE xs).length ≤ xs.length * 2001
  | [], _ => by simp [textE]
  | x :: t, h => by
    have := textE_len t (fun y hy => h y (by simp [hy]))
    have hx := h x (by simp)
    simp [textE] at this ⊢; omega
theorem firstE_zero {xs : List El.En} (h : ∀ x ∈ xs, El.chk x = 0) : firstE xs = 0 := by
  induction xs with
  | nil => rfl
  | cons x t ih => rw [firstE, if_pos (h x (by simp))]; exact ih fun y hy => h y (by simp [hy])
set_option maxRecDepth 100000 in
set_option maxHeartbeats 2000000 in
theorem Print_ok (A : Option Addr) (c : Nat) (xs : List El.En) (w : World) (he : EnvE w) (hf : EsAt w A xs) (hn : xs.length ≤ 60) (hv : ∀ x ∈ xs, El.chk x = 0) (hq : ∀ x ∈ xs, QuoteAt x.1 w ∧ QuoteAt x.2.1 w) :
    Calls Tryd.prog 23 #[.slice A xs.length c] w fun e w' => e = .returned (.tuple #[.string ⟨(textE xs).toArray⟩, .int .i64 0]) ∧ Below w.heap.size w w' := by
  obtain ⟨i0, hi, hz0, hz1, hz2⟩ := info_parts infoB
  have hz : Sized xs := fun x hx => by have := El.chk_of (hv x hx); omega
  have hall : allE xs = 0 := by rw [allE, if_neg (by omega)]; exact firstE_zero hv
  have J1 := Lib.hid (by
    have K := checkAll_any A c xs w hf (by omega) hz
    rw [hall] at K
    exact K)
  have hll : ∀ x ∈ xs, (lineE x).length ≤ 2000 := fun x hx => by
    have := El.chk_of (hv x hx)
    exact lineE_le x (by omega) (by omega) (by omega) (by omega)
  have HTL := Lib.hid (fun k => textE_len (xs.take k) (fun x hx => hll x (List.mem_of_mem_take hx)))
  have HTA := Lib.hid (textE_len xs hll)
  have HV := Lib.hid hv
  have HE := Lib.hid he
  have HF := Lib.hid hf
  have HLL := Lib.hid hll
  have HQ := Lib.hid hq
  clear hz hall hll hv he hf hq
  obtain ⟨n, hnn⟩ : ∃ n, xs.length = n := ⟨_, rfl⟩
  rw [hnn] at J1 hn ⊢
  have HN := Lib.hid hnn
  clear hnn
  go_enter Tryd.func23, Tryd.ntmps23
  go_wp2_with fail
  refine J1.out.mono ?_
  rintro e w1 ⟨rfl, hb1⟩
  have HB1 := Lib.hid hb1
  clear hb1 J1
  go_wp2_with fail
  go_loopw [5, 15] (fun tv iv wr => ∃ (k : Nat) (t : List UInt8), k ≤ n ∧ iv = .int .i64 k ∧ t = textE (xs.take k) ∧ wr.ownsRow w1.heap.size 5 1 tv t.length (t.map B8) ∧ Below w1.heap.size w1 wr) (fun _ iv _ => n - (intOf iv).toNat)
  case atStart => exact ⟨0, [], Nat.zero_le _, rfl, rfl, World.ownsRow_nil _ _ _ _, Below.refl _ _⟩
  case round =>
    obtain ⟨k, t, hk, rfl, ht, hown, hb⟩ := hrel
    have hsz := hb.size
    have HB := Lib.hid hb
    have HT := Lib.hid ht
    have htl : t.length ≤ 120060 := by
      rw [ht]
      have h1 := HTL.out k
      have h2 : (xs.take k).length ≤ 60 := by rw [List.length_take, HN.out]; omega
      have h3 : (xs.take k).length * 2001 ≤ 60 * 2001 := Nat.mul_le_mul_right _ h2
      omega
    clear hb ht
    by_cases hlt : k < n
    · have hlx : k < xs.length := by rw [HN.out]; exact hlt
      have hbb := HB1.out.trans (HB.out.mono HB1.out.size)
      have hfr := HF.out.below hbb (Nat.le_refl _)
      have hEr : EnvE wr := HE.out.below hbb
      rcases hfr with h0 | ⟨b, off, rfl, hbl, hc⟩
      · rw [h0] at hlx; simp at hlx
      obtain ⟨g0, g1, g2, g3⟩ := hc k hlx
      have hck := El.chk_of (HV.out xs[k] (List.getElem_mem hlx))
      have hnx := textE_next hlx
      have hlk := HLL.out xs[k] (List.getElem_mem hlx)
      have hqk := HQ.out xs[k] (List.getElem_mem hlx)
      have hqk1 := hqk.1.below hbb
      have hqk2 := hqk.2.below hbb
      clear hqk
      clear hc hbb
      obtain ⟨⟨kk, vv, dd, qq⟩, hx⟩ : ∃ x, xs[k] = x := ⟨_, rfl⟩
      rw [hx] at g0 g1 g2 g3 hck hnx hlk hqk1 hqk2
      simp only at g0 g1 g2 g3 hck hqk1 hqk2
      clear hx
      have hbx : Below wr.heap.size wr (wr.alloc (.cells #[.string kk, .string vv, .bool dd, .int .i64 qq] 33)) := (Below.refl _ _).alloc (Nat.le_refl _) _
      have J := Lib.hid (lo_any kk vv dd qq _ (hEr.below hbx) (hqk1.below hbx) (hqk2.below hbx) (by omega) (by omega) (by omega) (by omega))
      have HBX := Lib.hid hbx
      obtain ⟨u, hu⟩ : ∃ u, lineE (kk, vv, dd, qq) = u := ⟨_, rfl⟩
      rw [hu] at J hnx hlk
      have HNX := Lib.hid hnx
      have hus : (⟨u.toArray⟩ : ByteArray).size = u.length := size_mk' u
      have HUS := Lib.hid hus
      clear hu hck hnx hbx hEr hus hqk1 hqk2
      go_wp2_with fail
      refine J.out.mono ?_
      rintro e w2 ⟨rfl, hb2⟩
      have hb2' := eb_of HBX.out hb2 (Nat.le_refl _)
      have HB2 := Lib.hid (HB.out.trans (hb2'.mono hsz))
      have HO2 := Lib.hid (own_below hown hb2')
      have hsz2 : w1.heap.size ≤ w2.heap.size := Nat.le_trans hsz hb2'.size
      clear hb2 hb2' hown g0 g1 g2 g3
      go_wp2_with (first
        | (at_builtin; refine Lib.wpList_append_own_string _ rfl (.tmp 19) (.tmp 21) 59 9 rfl w1.heap.size 5 i0 Tryd.underlying59 Tryd.underlying9 hi hz0 hz1 hz2 _ t.length _ rfl HO2.out ⟨u.toArray⟩ rfl (by rw [HUS.out]; unfold maxLen; omega) (by rw [HUS.out]; omega) (by omega) ?_; intro v3 w3 hown3 hg3 _; have hb3 := HB2.out.grown hg3 hsz2 (fun g hg => (HO2.out.lt g hg).1); have HB3 := Lib.hid hb3; have HO3 := Lib.hid (own_str' hown3); have hsz3 := hb3.size; have hl3 : (t ++ u).length ≤ 200000 := (by rw [List.length_append]; omega); obtain ⟨t2, ht2⟩ : ∃ t2, t ++ u = t2 := ⟨_, rfl⟩; rw [ht2] at HO3 hl3; have HT2 := Lib.hid ht2; clear ht2; clear hg3 hb3 hown3)
        | (at_builtin; refine wpList_append_own _ rfl (.tmp 23) (.tmp 24) 59 rfl w1.heap.size 5 i0 (.int .u8 0) 1 1 Tryd.underlying59 hi hz0 hz1 hz2 rfl (by decide) _ t2.length _ rfl (HO3.out.alloc _) ⟨w3.heap.size, 0, none⟩ 1 1 [.int .u8 10] rfl rfl (cell_one_new _ _ _) (by simp [Value.oneCell']) (by unfold maxLen; omega) (by omega) (by simp; omega) ?_; intro v4 w4 hown4 hg4 _; have hb4 := (HB3.out.alloc hsz3 (.cells #[.int .u8 10] 5)).grown hg4 (by simp; omega) (fun g hg => (HO3.out.lt g hg).1); have HB4 := Lib.hid hb4; have HO4 := Lib.hid (own_app (u := [10]) rfl rfl rfl hown4); clear hg4 hb4 hown4))
      go_roundw
      case rel => exact ⟨k + 1, t2 ++ [10], by omega, by go_num, by rw [HNX.out, ← HT.out, HT2.out], HO4.out, HB4.out⟩
      case measure => simp [intOf]; omega
    · have hk2 : k = n := by omega
      have HTT := Lib.hid (show t = textE xs by rw [HT.out, List.take_of_length_le (by rw [HN.out]; omega)])
      have hcv := conv_own hown
      obtain ⟨A9, c9, rfl⟩ := own_slice hown
      have hbb := Lib.hid (HB1.out.trans (HB.out.mono HB1.out.size))
      clear hown hk2
      go_wp2_with fail
      go_ret2
      exact ⟨by rw [← HTT.out]; rfl, hbb.out⟩
end Go.Proofs.YtmobjpmkenpckaaDoor.KK

/-
  awake: the examples that every statement of this layer asks for.
-/
namespace Go.Proofs.YtmobjpmkenpckaaDoor.KK
open Go.ChangeShapes Go.WideShapes Go.ChangeAt Go.RowKit Go.Proofs Go.Sort

def xa : V := ⟨(⟨#[97]⟩, ⟨#[49]⟩, false, 5), by decide +kernel⟩
def xb : V := ⟨(⟨#[97]⟩, ⟨#[]⟩, true, 7), by decide +kernel⟩
def xc : V := ⟨(⟨#[98]⟩, ⟨#[50]⟩, false, 6), by decide +kernel⟩
theorem aw_cmp : El.cmp xa.1 xb.1 = 1 ∧ El.two xa.1 xb.1 = 0 := by decide +kernel
theorem aw_wins : El.wins xa.1 xb.1 = (0, xb.1) := by decide +kernel
theorem aw_le : leV xb xa = true ∧ leV xa xb = false ∧ leV xb xc = true ∧ leV xa xc = true := by decide +kernel
theorem aw_stab : Stb.Stab leV [xa, xb, xc] [xb, xa, xc] := by
  obtain ⟨h1, h2, h3, h4⟩ := aw_le
  have s1 : Stb.Stab leV ([] ++ [xa] ++ [xb]) ([] ++ xb :: [xa]) := Stb.stab_insert preV (Stb.asc_one xa) (by simp) (fun b hb => by rw [List.mem_singleton] at hb; subst hb; exact h2)
  have hA : Stb.Asc leV [xb, xa] := List.pairwise_cons.2 ⟨fun y hy => by rw [List.mem_singleton] at hy; subst hy; exact h1, Stb.asc_one xa⟩
  have s2 : Stb.Stab leV ([xb, xa] ++ [] ++ [xc]) ([xb, xa] ++ xc :: []) := Stb.stab_insert preV (by simpa using hA) (fun a ha => by
    rcases List.mem_cons.1 ha with rfl | ha
    · exact h3
    · rw [List.mem_singleton] at ha; subst ha; exact h4) (by simp)
  exact Stb.stab_append_left [xc] s1 (by simpa using s2)
theorem aw_cpt : cpt [xb, xa, xc] = [xb, xc] := by decide +kernel
theorem itoa_d (n : Nat) (h : n < 10) : Lib.itoa (n : Int) = [UInt8.ofNat (48 + n)] := by rw [Lib.itoa_nonneg, Lib.decDigits_one h]
theorem aw_text : textE [xb.1, xc.1] = [100, 101, 108, 32, 34, 97, 34, 32, 55, 10, 112, 117, 116, 32, 34, 98, 34, 32, 34, 50, 34, 32, 54, 10] := by
  have i7 : Lib.itoa 7 = [55] := itoa_d 7 (by decide)
  have i6 : Lib.itoa 6 = [54] := itoa_d 6 (by decide)
  have f1 : flds xb.1 = [(false, ⟨#[100, 101, 108]⟩), (true, ⟨#[97]⟩), (false, ⟨#[55]⟩)] := by unfold flds xb; simp only [if_true]; rw [i7]
  have f2 : flds xc.1 = [(false, ⟨#[112, 117, 116]⟩), (true, ⟨#[98]⟩), (true, ⟨#[50]⟩), (false, ⟨#[54]⟩)] := by unfold flds xc; simp only [Bool.false_eq_true, if_false]; rw [i6]
  unfold textE lineE
  simp only [List.flatMap_cons, List.flatMap_nil, f1, f2]
  decide +kernel

set_option maxRecDepth 100000 in
theorem aw_a (w : World) : Calls Tryd.prog 17 #[] w fun e w' => e = .returned (.agg #[.string ⟨#[97]⟩, .string ⟨#[49]⟩, .bool false, .int .i64 5]) ∧ Below w.heap.size w w' := by
  go_enter Tryd.func17, Tryd.ntmps17
  go_wp2_with fail
  exact bodyPost_ret (v := .agg #[.string ⟨#[97]⟩, .string ⟨#[49]⟩, .bool false, .int .i64 5]) (by simp [results, Tryd.results17, go_sem]) rfl ⟨rfl, by first | exact (Below.refl _ _).alloc (Nat.le_refl _) _ | exact set4 ((Below.refl _ _).alloc (Nat.le_refl _) _) (Nat.le_refl _) _ _ _ _⟩

set_option maxRecDepth 100000 in
theorem aw_b (w : World) : Calls Tryd.prog 21 #[] w fun e w' => e = .returned (.agg #[.string ⟨#[97]⟩, .string ⟨#[]⟩, .bool true, .int .i64 7]) ∧ Below w.heap.size w w' := by
  go_enter Tryd.func21, Tryd.ntmps21
  go_wp2_with fail
  exact bodyPost_ret (v := .agg #[.string ⟨#[97]⟩, .string ⟨#[]⟩, .bool true, .int .i64 7]) (by simp [results, Tryd.results21, go_sem]) rfl ⟨rfl, by first | exact (Below.refl _ _).alloc (Nat.le_refl _) _ | exact set4 ((Below.refl _ _).alloc (Nat.le_refl _) _) (Nat.le_refl _) _ _ _ _⟩

set_option maxRecDepth 100000 in
theorem aw_c (w : World) : Calls Tryd.prog 18 #[] w fun e w' => e = .returned (.agg #[.string ⟨#[98]⟩, .string ⟨#[50]⟩, .bool false, .int .i64 6]) ∧ Below w.heap.size w w' := by
  go_enter Tryd.func18, Tryd.ntmps18
  go_wp2_with fail
  exact bodyPost_ret (v := .agg #[.string ⟨#[98]⟩, .string ⟨#[50]⟩, .bool false, .int .i64 6]) (by simp [results, Tryd.results18, go_sem]) rfl ⟨rfl, by first | exact (Below.refl _ _).alloc (Nat.le_refl _) _ | exact set4 ((Below.refl _ _).alloc (Nat.le_refl _) _) (Nat.le_refl _) _ _ _ _⟩

theorem aw_compare (w : World) : Calls Tryd.prog 16 #[.agg #[.string ⟨#[97]⟩, .string ⟨#[49]⟩, .bool false, .int .i64 5], .agg #[.string ⟨#[97]⟩, .string ⟨#[]⟩, .bool true, .int .i64 7]] w fun e w' => e = .returned (.tuple #[.int .i64 1, .int .i64 0]) ∧ Below w.heap.size w w' := by
  have K := eCompare_any ⟨#[97]⟩ ⟨#[49]⟩ false 5 ⟨#[97]⟩ ⟨#[]⟩ true 7 w (by decide) (by decide) (by decide) (by decide)
  rw [show El.cmp (⟨#[97]⟩, ⟨#[49]⟩, false, 5) (⟨#[97]⟩, ⟨#[]⟩, true, 7) = 1 from aw_cmp.1, show El.two (⟨#[97]⟩, ⟨#[49]⟩, false, 5) (⟨#[97]⟩, ⟨#[]⟩, true, 7) = 0 from aw_cmp.2] at K
  exact K
theorem aw_winsC (w : World) : Calls Tryd.prog 19 #[.agg #[.string ⟨#[97]⟩, .string ⟨#[49]⟩, .bool false, .int .i64 5], .agg #[.string ⟨#[97]⟩, .string ⟨#[]⟩, .bool true, .int .i64 7]] w fun e w' => e = .returned (.tuple #[.agg #[.string ⟨#[97]⟩, .string ⟨#[]⟩, .bool true, .int .i64 7], .int .i64 0]) ∧ Below w.heap.size w w' := by
  have K := eWins_any ⟨#[97]⟩ ⟨#[49]⟩ false 5 ⟨#[97]⟩ ⟨#[]⟩ true 7 w (by decide) (by decide) (by decide) (by decide)
  rw [show El.wins (⟨#[97]⟩, ⟨#[49]⟩, false, 5) (⟨#[97]⟩, ⟨#[]⟩, true, 7) = (0, xb.1) from aw_wins] at K
  exact K
theorem esAt_new (w : World) (xs : List El.En) (t : TypeId) : EsAt (w.alloc (.cells (cellsE xs).toArray t)) (some ⟨w.heap.size, 0, none⟩) xs := by
  refine .inr ⟨w.heap.size, 0, rfl, by simp, fun i hi => ?_⟩
  have hr := fun c (hc : c < 4) => cell_of_row (w.alloc (.cells (cellsE xs).toArray t)) w.heap.size (0 + i * 4 + c) _ _ _ (heap_alloc_new w _)
  have hg := fun c (hc : c < 4) => cellsE_get xs i c hi hc
  refine ⟨(hr 0 (by omega)).trans ?_, (hr 1 (by omega)).trans ?_, (hr 2 (by omega)).trans ?_, (hr 3 (by omega)).trans ?_⟩
  · rw [List.getElem?_toArray, Nat.zero_add]; exact hg 0 (by omega)
  · rw [List.getElem?_toArray, Nat.zero_add]; exact hg 1 (by omega)
  · rw [List.getElem?_toArray, Nat.zero_add]; exact hg 2 (by omega)
  · rw [List.getElem?_toArray, Nat.zero_add]; exact hg 3 (by omega)
set_option maxRecDepth 100000 in
theorem aw_newest (w : World) : Calls Tryd.prog 11 #[.slice (some ⟨w.heap.size, 0, none⟩) 3 3] (w.alloc (.cells #[.string ⟨#[97]⟩, .string ⟨#[49]⟩, .bool false, .int .i64 5, .string ⟨#[97]⟩, .string ⟨#[]⟩, .bool true, .int .i64 7, .string ⟨#[98]⟩, .string ⟨#[50]⟩, .bool false, .int .i64 6] 33)) fun e w' => ∃ A' c', e = .returned (.tuple #[.slice A' 2 c', .int .i64 0]) ∧ EsAt w' A' [xb.1, xc.1] ∧ Below w.heap.size w w' := by
  have hf : EsAt (w.alloc (.cells #[.string ⟨#[97]⟩, .string ⟨#[49]⟩, .bool false, .int .i64 5, .string ⟨#[97]⟩, .string ⟨#[]⟩, .bool true, .int .i64 7, .string ⟨#[98]⟩, .string ⟨#[50]⟩, .bool false, .int .i64 6] 33)) (some ⟨w.heap.size, 0, none⟩) ([xa, xb, xc].map (·.1)) := esAt_new w [xa.1, xb.1, xc.1] 33
  refine (Newest_any _ 3 [xa, xb, xc] _ hf (by simp) (by decide) (stable_small _ (by decide))).mono ?_
  rintro e w' ⟨A', c', l', rfl, hst, ho, hb⟩
  have hl : l' = [xb, xa, xc] := Stb.Stab.unique preV hst aw_stab
  subst hl
  rw [aw_cpt] at ho ⊢
  exact ⟨A', c', rfl, ho.esAt, ((Below.refl _ _).alloc (Nat.le_refl _) _).trans (hb.mono (by simp))⟩
set_option maxRecDepth 100000 in
theorem aw_print (w : World) (he : EnvE w) : Calls Tryd.prog 23 #[.slice (some ⟨w.heap.size, 0, none⟩) 2 2] (w.alloc (.cells #[.string ⟨#[97]⟩, .string ⟨#[]⟩, .bool true, .int .i64 7, .string ⟨#[98]⟩, .string ⟨#[50]⟩, .bool false, .int .i64 6] 33)) fun e w' => e = .returned (.tuple #[.string ⟨#[100, 101, 108, 32, 34, 97, 34, 32, 55, 10, 112, 117, 116, 32, 34, 98, 34, 32, 34, 50, 34, 32, 54, 10]⟩, .int .i64 0]) ∧ Below w.heap.size w w' := by
  have hb0 : Below w.heap.size w (w.alloc (.cells #[.string ⟨#[97]⟩, .string ⟨#[]⟩, .bool true, .int .i64 7, .string ⟨#[98]⟩, .string ⟨#[50]⟩, .bool false, .int .i64 6] 33)) := (Below.refl _ _).alloc (Nat.le_refl _) _
  have hf : EsAt (w.alloc (.cells #[.string ⟨#[97]⟩, .string ⟨#[]⟩, .bool true, .int .i64 7, .string ⟨#[98]⟩, .string ⟨#[50]⟩, .bool false, .int .i64 6] 33)) (some ⟨w.heap.size, 0, none⟩) [xb.1, xc.1] := esAt_new w [xb.1, xc.1] 33
  have K := Print_ok _ 2 [xb.1, xc.1] _ (he.below hb0) hf (by decide) (by simp [xb.2, xc.2]) (fun x hx => by
    simp only [List.mem_cons, List.not_mem_nil, or_false] at hx
    rcases hx with rfl | rfl
    · exact ⟨QuoteAt.plain (by decide +kernel) (by decide), QuoteAt.plain (by decide +kernel) (by decide)⟩
    · exact ⟨QuoteAt.plain (by decide +kernel) (by decide), QuoteAt.plain (by decide +kernel) (by decide)⟩)
  rw [aw_text] at K
  refine K.mono ?_
  rintro e w' ⟨rfl, hb⟩
  exact ⟨rfl, hb0.trans (hb.mono (by simp))⟩
theorem aw_same (A' : Option Addr) (c' : Nat) (w : World) (hf : EsAt w A' [xb.1, xc.1]) : Calls Tryd.prog 10 #[.slice A' 2 c', .slice (some ⟨w.heap.size, 0, none⟩) 2 2] (w.alloc (.cells #[.string ⟨#[97]⟩, .string ⟨#[]⟩, .bool true, .int .i64 7, .string ⟨#[98]⟩, .string ⟨#[50]⟩, .bool false, .int .i64 6] 33)) fun e w' => e = .returned (.bool true) ∧ Below w.heap.size w w' := by
  have hb0 : Below w.heap.size w (w.alloc (.cells #[.string ⟨#[97]⟩, .string ⟨#[]⟩, .bool true, .int .i64 7, .string ⟨#[98]⟩, .string ⟨#[50]⟩, .bool false, .int .i64 6] 33)) := (Below.refl _ _).alloc (Nat.le_refl _) _
  have hg : EsAt (w.alloc (.cells #[.string ⟨#[97]⟩, .string ⟨#[]⟩, .bool true, .int .i64 7, .string ⟨#[98]⟩, .string ⟨#[50]⟩, .bool false, .int .i64 6] 33)) (some ⟨w.heap.size, 0, none⟩) [xb.1, xc.1] := esAt_new w [xb.1, xc.1] 33
  have K := Same_any A' _ c' 2 [xb.1, xc.1] [xb.1, xc.1] _ (hf.below hb0 (Nat.le_refl _)) hg (by decide) (by decide)
  refine K.mono ?_
  rintro e w' ⟨rfl, hb⟩
  exact ⟨by simp, hb0.trans (hb.mono (by simp))⟩
/-- what the last line of awake keeps to -/
structure AwS (wx : World) (A' : Option Addr) (w' : World) : Prop where
  b : Below wx.heap.size wx w'
  f : EsAt w' A' [xb.1, xc.1]
theorem AwS.call {wx w1 w2 : World} {A' : Option Addr} (h : AwS wx A' w1) (hb : Below w1.heap.size w1 w2) : AwS wx A' w2 := ⟨h.b.trans (hb.mono h.b.size), h.f.below hb (Nat.le_refl _)⟩
theorem AwS.drew {wx w1 : World} {A' : Option Addr} (h : AwS wx A' w1) : AwS wx A' w1.drew := h.call (below_drewN' 1)
theorem AwS.alloc {wx w1 : World} {A' : Option Addr} (h : AwS wx A' w1) (o : Obj) : AwS wx A' (w1.alloc o) := h.call ((Below.refl _ _).alloc (Nat.le_refl _) _)
def AwC (bx : Nat) (w' : World) : Prop := w'.cell? ⟨bx, 0, none⟩ = some (.string ⟨#[97]⟩) ∧ w'.cell? ⟨bx, 1, none⟩ = some (.string ⟨#[]⟩) ∧ w'.cell? ⟨bx, 2, none⟩ = some (.bool true) ∧ w'.cell? ⟨bx, 3, none⟩ = some (.int .i64 7)
theorem keepS {wx w' : World} {bx : Nat} {A' : Option Addr} (HC : Hid (∀ w', Below wx.heap.size wx w' → w'.cell? ⟨bx, 0, none⟩ = some (.string ⟨#[97]⟩) ∧ w'.cell? ⟨bx, 1, none⟩ = some (.string ⟨#[]⟩) ∧ w'.cell? ⟨bx, 2, none⟩ = some (.bool true) ∧ w'.cell? ⟨bx, 3, none⟩ = some (.int .i64 7) ∧ bx < w'.heap.size)) (h : AwS wx A' w') :
    AwS wx A' w' ∧ w'.cell? ⟨bx, 0, none⟩ = some (.string ⟨#[97]⟩) ∧ w'.cell? ⟨bx, 1, none⟩ = some (.string ⟨#[]⟩) ∧ w'.cell? ⟨bx, 2, none⟩ = some (.bool true) ∧ w'.cell? ⟨bx, 3, none⟩ = some (.int .i64 7) :=
  have c := HC.out w' h.b
  ⟨h, c.1, c.2.1, c.2.2.1, c.2.2.2.1⟩
set_option maxRecDepth 100000 in
set_option maxHeartbeats 4000000 in
theorem awake_any (w : World) (he : EnvE w) : Calls Tryd.prog 7 #[] w fun e w' => e = .returned (.bool true) ∧ Below w.heap.size w w' := by
  have HE := Lib.hid he
  have HB := Lib.hid (Below.refl w.heap.size w)
  clear he
  go_enter Tryd.func7, Tryd.ntmps7
  go_wp2_with fail
  refine (aw_a _).mono ?_
  rintro e w1 ⟨rfl, hb⟩
  have HB := Lib.hid (eb_of HB.out hb (by first | exact Nat.le_refl _ | exact HB.out.size))
  have HE := Lib.hid (HE.out.below hb)
  
  clear hb
  go_wp2_with fail
  refine (aw_b _).mono ?_
  rintro e w2 ⟨rfl, hb⟩
  have HB := Lib.hid (eb_of HB.out hb (by first | exact Nat.le_refl _ | exact HB.out.size))
  have HE := Lib.hid (HE.out.below hb)
  
  clear hb
  go_wp2_with fail
  refine (aw_compare _).mono ?_
  rintro e w3 ⟨rfl, hb⟩
  have HB := Lib.hid (eb_of HB.out hb (by first | exact Nat.le_refl _ | exact HB.out.size))
  have HE := Lib.hid (HE.out.below hb)
  
  clear hb
  go_wp2_with fail
  refine (aw_a _).mono ?_
  rintro e w4 ⟨rfl, hb⟩
  have HB := Lib.hid (eb_of HB.out hb (by first | exact Nat.le_refl _ | exact HB.out.size))
  have HE := Lib.hid (HE.out.below hb)
  
  clear hb
  go_wp2_with fail
  refine (aw_b _).mono ?_
  rintro e w5 ⟨rfl, hb⟩
  have HB := Lib.hid (eb_of HB.out hb (by first | exact Nat.le_refl _ | exact HB.out.size))
  have HE := Lib.hid (HE.out.below hb)
  
  clear hb
  go_wp2_with fail
  refine (aw_winsC _).mono ?_
  rintro e w6 ⟨rfl, hb⟩
  have HB := Lib.hid (eb_of HB.out hb (by first | exact Nat.le_refl _ | exact HB.out.size))
  have HE := Lib.hid (HE.out.below hb)
  
  clear hb
  have HC := box1 ⟨#[97]⟩ ⟨#[]⟩ true 7 w6
  have HB := Lib.hid (HB.out.alloc HB.out.size (.cells #[.string ⟨#[97]⟩, .string ⟨#[]⟩, .bool true, .int .i64 7] 33))
  have HE := Lib.hid (HE.out.below ((Below.refl _ _).alloc (Nat.le_refl _) (.cells #[.string ⟨#[97]⟩, .string ⟨#[]⟩, .bool true, .int .i64 7] 33)))
  go_wp2_with fail
  generalize w6.alloc (.cells #[.string ⟨#[97]⟩, .string ⟨#[]⟩, .bool true, .int .i64 7] 33) = wx at *
  generalize w6.heap.size = bx at *
  have HBX := HB
  clear HB
  have HB := Lib.hid (Below.refl wx.heap.size wx)
  refine (aw_a _).mono ?_
  rintro e w7 ⟨rfl, hb⟩
  have HB := Lib.hid (eb_of HB.out hb (by first | exact Nat.le_refl _ | exact HB.out.size))
  have HE := Lib.hid (HE.out.below hb)
  
  clear hb
  go_wp2_with fail
  refine (aw_b _).mono ?_
  rintro e w8 ⟨rfl, hb⟩
  have HB := Lib.hid (eb_of HB.out hb (by first | exact Nat.le_refl _ | exact HB.out.size))
  have HE := Lib.hid (HE.out.below hb)
  
  clear hb
  go_wp2_with fail
  refine (aw_c _).mono ?_
  rintro e w9 ⟨rfl, hb⟩
  have HB := Lib.hid (eb_of HB.out hb (by first | exact Nat.le_refl _ | exact HB.out.size))
  have HE := Lib.hid (HE.out.below hb)
  
  clear hb
  go_wp2_with fail
  refine (aw_newest _).mono ?_
  rintro e w10 ⟨A', c', rfl, hfn, hb⟩
  have HB := Lib.hid (eb_of HB.out hb (by first | exact Nat.le_refl _ | exact HB.out.size))
  have HE := Lib.hid (HE.out.below hb)
  have HF := Lib.hid hfn
  clear hb hfn
  go_wp2_with fail
  refine (aw_b _).mono ?_
  rintro e w11 ⟨rfl, hb⟩
  have HB := Lib.hid (eb_of HB.out hb (by first | exact Nat.le_refl _ | exact HB.out.size))
  have HE := Lib.hid (HE.out.below hb)
  have HF := Lib.hid (HF.out.below hb (Nat.le_refl _))
  clear hb
  go_wp2_with fail
  refine (aw_c _).mono ?_
  rintro e w12 ⟨rfl, hb⟩
  have HB := Lib.hid (eb_of HB.out hb (by first | exact Nat.le_refl _ | exact HB.out.size))
  have HE := Lib.hid (HE.out.below hb)
  have HF := Lib.hid (HF.out.below hb (Nat.le_refl _))
  clear hb
  go_wp2_with fail
  refine (aw_print _ HE.out).mono ?_
  rintro e w13 ⟨rfl, hb⟩
  have HB := Lib.hid (eb_of HB.out hb (by first | exact Nat.le_refl _ | exact HB.out.size))
  have HE := Lib.hid (HE.out.below hb)
  have HF := Lib.hid (HF.out.below hb (Nat.le_refl _))
  clear hb
  go_wp2_with fail
  have HS := Lib.hid (AwS.mk HB.out HF.out)
  have hS := HS.out
  have JB : Hid (∀ w1, AwS wx A' w1 → Calls Tryd.prog 21 #[] w1 fun e w' => e = .returned (.agg #[.string ⟨#[97]⟩, .string ⟨#[]⟩, .bool true, .int .i64 7]) ∧ AwS wx A' w') := Lib.hid fun w1 h => (aw_b w1).mono fun e w' ⟨h1, h2⟩ => ⟨h1, h.call h2⟩
  have JC : Hid (∀ w1, AwS wx A' w1 → Calls Tryd.prog 18 #[] w1 fun e w' => e = .returned (.agg #[.string ⟨#[98]⟩, .string ⟨#[50]⟩, .bool false, .int .i64 6]) ∧ AwS wx A' w') := Lib.hid fun w1 h => (aw_c w1).mono fun e w' ⟨h1, h2⟩ => ⟨h1, h.call h2⟩
  have JS : Hid (∀ w1, AwS wx A' w1 → Calls Tryd.prog 10 #[.slice A' 2 c', .slice (some ⟨w1.heap.size, 0, none⟩) 2 2] (w1.alloc (.cells #[.string ⟨#[97]⟩, .string ⟨#[]⟩, .bool true, .int .i64 7, .string ⟨#[98]⟩, .string ⟨#[50]⟩, .bool false, .int .i64 6] 33)) fun e w' => e = .returned (.bool true) ∧ AwS wx A' w') := Lib.hid fun w1 h => (aw_same A' c' w1 h.f).mono fun e w' ⟨h1, h2⟩ => ⟨h1, h.call h2⟩
  go_region_held3 (fun w' => AwS wx A' w' ∧ w'.cell? ⟨bx, 0, none⟩ = some (.string ⟨#[97]⟩) ∧ w'.cell? ⟨bx, 1, none⟩ = some (.string ⟨#[]⟩) ∧ w'.cell? ⟨bx, 2, none⟩ = some (.bool true) ∧ w'.cell? ⟨bx, 3, none⟩ = some (.int .i64 7))
    (first
      | (exact keepS HC (by assumption))
      | (exact keepS HC (AwS.drew (by assumption)))
      | (exact keepS HC (AwS.alloc (by assumption) _))
      | (exact keepS HC (AwS.alloc (And.left (by assumption)) _)))
    (first
      | (go_at_call 21; refine (JB.out _ (by first | assumption | exact AwS.drew (by assumption) | exact And.left (by assumption))).mono ?_; rintro e w21 ⟨rfl, hs21⟩)
      | (go_at_call 18; refine (JC.out _ (by first | assumption | exact AwS.drew (by assumption) | exact And.left (by assumption))).mono ?_; rintro e w22 ⟨rfl, hs22⟩)
      | (go_at_call 10; refine (JS.out _ (by first | assumption | exact AwS.drew (by assumption) | exact And.left (by assumption))).mono ?_; rintro e w23 ⟨rfl, hs23⟩))
  all_goals
    go_wp2_with fail
    go_ret
    exact ⟨rfl, HBX.out.trans ((by first | exact AwS.b (by assumption) | exact AwS.b (And.left (by assumption)) : Below wx.heap.size wx _).mono HBX.out.size)⟩
end Go.Proofs.YtmobjpmkenpckaaDoor.KK
