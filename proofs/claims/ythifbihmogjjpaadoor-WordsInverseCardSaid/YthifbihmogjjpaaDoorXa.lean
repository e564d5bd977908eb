/-
  Contracts of appendByte and Quote.
-/
import Derived.Test.YthifbihmogjjpaaDoorPn
import Derived.Test.YthifbihmogjjpaaDoorWv
import Derived.Laws.OwnMore
namespace Go.Proofs.YthifbihmogjjpaaDoor
open Go.ChangeShapes Go.WideShapes Go.ChangeAt Go.RowKit Go.Proofs

theorem hexi0 : ∀ w, (Instr.index 9 (.string ⟨#[48, 49, 50, 51, 52, 53, 54, 55, 56, 57, 97, 98, 99, 100, 101, 102]⟩) (.int .u8 ((0 : Nat) : Int))).run Tryd.prog w = .ok (.int .u8 ((Pl.hexd 0).toNat : Int)) w := fun _ => by kernel_rfl
theorem hexi1 : ∀ w, (Instr.index 9 (.string ⟨#[48, 49, 50, 51, 52, 53, 54, 55, 56, 57, 97, 98, 99, 100, 101, 102]⟩) (.int .u8 ((1 : Nat) : Int))).run Tryd.prog w = .ok (.int .u8 ((Pl.hexd 1).toNat : Int)) w := fun _ => by kernel_rfl
theorem hexi2 : ∀ w, (Instr.index 9 (.string ⟨#[48, 49, 50, 51, 52, 53, 54, 55, 56, 57, 97, 98, 99, 100, 101, 102]⟩) (.int .u8 ((2 : Nat) : Int))).run Tryd.prog w = .ok (.int .u8 ((Pl.hexd 2).toNat : Int)) w := fun _ => by kernel_rfl
theorem hexi3 : ∀ w, (Instr.index 9 (.string ⟨#[48, 49, 50, 51, 52, 53, 54, 55, 56, 57, 97, 98, 99, 100, 101, 102]⟩) (.int .u8 ((3 : Nat) : Int))).run Tryd.prog w = .ok (.int .u8 ((Pl.hexd 3).toNat : Int)) w := fun _ => by kernel_rfl
theorem hexi4 : ∀ w, (Instr.index 9 (.string ⟨#[48, 49, 50, 51, 52, 53, 54, 55, 56, 57, 97, 98, 99, 100, 101, 102]⟩) (.int .u8 ((4 : Nat) : Int))).run Tryd.prog w = .ok (.int .u8 ((Pl.hexd 4).toNat : Int)) w := fun _ => by kernel_rfl
theorem hexi5 : ∀ w, (Instr.index 9 (.string ⟨#[48, 49, 50, 51, 52, 53, 54, 55, 56, 57, 97, 98, 99, 100, 101, 102]⟩) (.int .u8 ((5 : Nat) : Int))).run Tryd.prog w = .ok (.int .u8 ((Pl.hexd 5).toNat : Int)) w := fun _ => by kernel_rfl
theorem hexi6 : ∀ w, (Instr.index 9 (.string ⟨#[48, 49, 50, 51, 52, 53, 54, 55, 56, 57, 97, 98, 99, 100, 101, 102]⟩) (.int .u8 ((6 : Nat) : Int))).run Tryd.prog w = .ok (.int .u8 ((Pl.hexd 6).toNat : Int)) w := fun _ => by kernel_rfl
theorem hexi7 : ∀ w, (Instr.index 9 (.string ⟨#[48, 49, 50, 51, 52, 53, 54, 55, 56, 57, 97, 98, 99, 100, 101, 102]⟩) (.int .u8 ((7 : Nat) : Int))).run Tryd.prog w = .ok (.int .u8 ((Pl.hexd 7).toNat : Int)) w := fun _ => by kernel_rfl
theorem hexi8 : ∀ w, (Instr.index 9 (.string ⟨#[48, 49, 50, 51, 52, 53, 54, 55, 56, 57, 97, 98, 99, 100, 101, 102]⟩) (.int .u8 ((8 : Nat) : Int))).run Tryd.prog w = .ok (.int .u8 ((Pl.hexd 8).toNat : Int)) w := fun _ => by kernel_rfl
theorem hexi9 : ∀ w, (Instr.index 9 (.string ⟨#[48, 49, 50, 51, 52, 53, 54, 55, 56, 57, 97, 98, 99, 100, 101, 102]⟩) (.int .u8 ((9 : Nat) : Int))).run Tryd.prog w = .ok (.int .u8 ((Pl.hexd 9).toNat : Int)) w := fun _ => by kernel_rfl
theorem hexi10 : ∀ w, (Instr.index 9 (.string ⟨#[48, 49, 50, 51, 52, 53, 54, 55, 56, 57, 97, 98, 99, 100, 101, 102]⟩) (.int .u8 ((10 : Nat) : Int))).run Tryd.prog w = .ok (.int .u8 ((Pl.hexd 10).toNat : Int)) w := fun _ => by kernel_rfl
theorem hexi11 : ∀ w, (Instr.index 9 (.string ⟨#[48, 49, 50, 51, 52, 53, 54, 55, 56, 57, 97, 98, 99, 100, 101, 102]⟩) (.int .u8 ((11 : Nat) : Int))).run Tryd.prog w = .ok (.int .u8 ((Pl.hexd 11).toNat : Int)) w := fun _ => by kernel_rfl
theorem hexi12 : ∀ w, (Instr.index 9 (.string ⟨#[48, 49, 50, 51, 52, 53, 54, 55, 56, 57, 97, 98, 99, 100, 101, 102]⟩) (.int .u8 ((12 : Nat) : Int))).run Tryd.prog w = .ok (.int .u8 ((Pl.hexd 12).toNat : Int)) w := fun _ => by kernel_rfl
theorem hexi13 : ∀ w, (Instr.index 9 (.string ⟨#[48, 49, 50, 51, 52, 53, 54, 55, 56, 57, 97, 98, 99, 100, 101, 102]⟩) (.int .u8 ((13 : Nat) : Int))).run Tryd.prog w = .ok (.int .u8 ((Pl.hexd 13).toNat : Int)) w := fun _ => by kernel_rfl
theorem hexi14 : ∀ w, (Instr.index 9 (.string ⟨#[48, 49, 50, 51, 52, 53, 54, 55, 56, 57, 97, 98, 99, 100, 101, 102]⟩) (.int .u8 ((14 : Nat) : Int))).run Tryd.prog w = .ok (.int .u8 ((Pl.hexd 14).toNat : Int)) w := fun _ => by kernel_rfl
theorem hexi15 : ∀ w, (Instr.index 9 (.string ⟨#[48, 49, 50, 51, 52, 53, 54, 55, 56, 57, 97, 98, 99, 100, 101, 102]⟩) (.int .u8 ((15 : Nat) : Int))).run Tryd.prog w = .ok (.int .u8 ((Pl.hexd 15).toNat : Int)) w := fun _ => by kernel_rfl
theorem hex_index (n : Nat) (h : n < 16) : ∀ w, (Instr.index 9 (.string ⟨#[48, 49, 50, 51, 52, 53, 54, 55, 56, 57, 97, 98, 99, 100, 101, 102]⟩) (.int .u8 (n : Int))).run Tryd.prog w = .ok (.int .u8 ((Pl.hexd n).toNat : Int)) w :=
  match n, h with
  | 0, _ => hexi0
  | 1, _ => hexi1
  | 2, _ => hexi2
  | 3, _ => hexi3
  | 4, _ => hexi4
  | 5, _ => hexi5
  | 6, _ => hexi6
  | 7, _ => hexi7
  | 8, _ => hexi8
  | 9, _ => hexi9
  | 10, _ => hexi10
  | 11, _ => hexi11
  | 12, _ => hexi12
  | 13, _ => hexi13
  | 14, _ => hexi14
  | 15, _ => hexi15
  | m + 16, h => absurd h (by omega)

theorem redrew {B : Nat} {w w1 : World} (h : Below B w w1) : Below B w w1.drew := ⟨h.os, h.tape, h.output, h.size, h.block⟩
theorem own_app {w : World} {base : Nat} {v : Value} {n m : Nat} {t u : List UInt8} {xs : List Value} (hn : n = t.length) (hm : m = u.length) (hx : xs = u.map B8) (h : w.ownsRow base 5 1 v (n + m) (t.map B8 ++ xs)) : w.ownsRow base 5 1 v (t ++ u).length ((t ++ u).map B8) := by
  subst hn hm hx
  simpa using h

set_option maxRecDepth 100000 in
theorem appendByte_plain (c : UInt8) (v : Value) (t : List UInt8) (base : Nat) (w : World) (hown : w.ownsRow base 5 1 v t.length (t.map B8)) (hb : base ≤ w.heap.size) (hl : t.length ≤ 17179869184) (hp : Pl.plain c = true) :
    Calls Tryd.prog 32 #[v, .int .u8 (c.toNat : Int)] w fun e w' => ∃ v', e = .returned v' ∧ w'.ownsRow base 5 1 v' (t ++ Pl.esc c).length ((t ++ Pl.esc c).map B8) ∧ Below base w w' := by
  have H := Lib.hid (Pl.esc_plain c hp)
  have HP := Lib.hid hp
  clear hp
  obtain ⟨i0, hi, hz0, hz1, hz2⟩ := info_parts infoB
  go_enter Tryd.func32, Tryd.ntmps32
  go_wp2_with (first
    | (go_at_call 52; refine (isPlain_any _ _).mono ?_; rw [HP.out]; rintro e w' ⟨rfl, rfl⟩)
    | (at_builtin; refine wpList_append_own _ rfl (.tmp 9) (.tmp 11) 29 rfl base 5 i0 (.int .u8 0) 1 1 Tryd.underlying29 hi hz0 hz1 hz2 rfl (by decide) _ t.length _ rfl (hown.alloc _) ⟨w.heap.size, 0, none⟩ 1 1 [.int .u8 (c.toNat : Int)] rfl rfl (cell_one_new _ _ _) (by simp [Value.oneCell']) (by unfold maxLen; omega) (by omega) (by simp; omega) ?_; intro v2 w2 hown2 hg2 _; have HG2 := Lib.hid hg2; clear hg2))
  go_ret
  exact ⟨v2, rfl, by rw [H.out]; exact own_app rfl rfl rfl hown2, ((Below.refl base w).alloc hb _).grown HG2.out (by simp; omega) (fun g hg => (hown.lt g hg).1)⟩

theorem two_new (w : World) (a b : Value) : ∀ (j : Nat) (u : Value), [a, b][j]? = some u → (w.alloc (.cells #[a, b] 5)).cell? ((⟨w.heap.size, 0, none⟩ : Addr).add j) = some u :=
  World.news_of_block (cs := #[a, b]) (t := 5) (fr := (0, 0)) (heap_alloc_new w _)
theorem four_new (w : World) (a b c d : Value) : ∀ (j : Nat) (u : Value), [a, b, c, d][j]? = some u → (w.alloc (.cells #[a, b, c, d] 5)).cell? ((⟨w.heap.size, 0, none⟩ : Addr).add j) = some u :=
  World.news_of_block (cs := #[a, b, c, d]) (t := 5) (fr := (0, 0)) (heap_alloc_new w _)

set_option maxRecDepth 100000 in
theorem appendByte_letter (c l : UInt8) (v : Value) (t : List UInt8) (base : Nat) (w : World) (he : EscAt w) (hown : w.ownsRow base 5 1 v t.length (t.map B8)) (hb : base ≤ w.heap.size) (hl : t.length ≤ 17179869184) (hp : Pl.plain c = false) (hlt : Pl.letter c = some l) :
    Calls Tryd.prog 32 #[v, .int .u8 (c.toNat : Int)] w fun e w' => ∃ v', e = .returned v' ∧ w'.ownsRow base 5 1 v' (t ++ Pl.esc c).length ((t ++ Pl.esc c).map B8) ∧ Below base w w' := by
  have H := Lib.hid (Pl.esc_letter c l hp hlt)
  have HP := Lib.hid hp
  have HL := Lib.hid hlt
  have HE := Lib.hid he
  clear hp hlt he
  obtain ⟨i0, hi, hz0, hz1, hz2⟩ := info_parts infoB
  go_enter Tryd.func32, Tryd.ntmps32
  go_wp2_with (first
    | (go_at_call 52; refine (isPlain_any _ _).mono ?_; rw [HP.out]; rintro e w' ⟨rfl, rfl⟩)
    | (go_at_call 53; refine (letterOf_any _ _ HE.out).mono ?_; rw [HL.out]; rintro e w1 ⟨rfl, hb1⟩; have hown1 := own_below hown hb1; have hsz1 := hb1.size; have HB1 := Lib.hid hb1; clear hb1)
    | (at_builtin; refine wpList_append_own _ rfl (.tmp 19) (.tmp 21) 29 rfl base 5 i0 (.int .u8 0) 1 1 Tryd.underlying29 hi hz0 hz1 hz2 rfl (by decide) _ t.length _ rfl (hown1.alloc _) ⟨w1.heap.size, 0, none⟩ 2 2 [.int .u8 92, .int .u8 (l.toNat : Int)] rfl rfl (two_new _ _ _) (by simp [Value.oneCell']) (by unfold maxLen; omega) (by omega) (by simp; omega) ?_; intro v2 w2 hown2 hg2 _; have HG2 := Lib.hid hg2; clear hg2))
  go_ret
  exact ⟨v2, rfl, by rw [H.out]; exact own_app rfl rfl rfl hown2, (((Below.refl base w).trans (HB1.out.mono hb)).alloc (by omega) _).grown HG2.out (by simp; omega) (fun g hg => (hown1.lt g hg).1)⟩

theorem and_fin : ∀ x : Fin 256, bits BinOp.and IntKind.u8 (x.val : Int) 15 = ((x.val % 16 : Nat) : Int) := by decide +kernel

set_option maxRecDepth 100000 in
set_option maxHeartbeats 1000000 in
theorem appendByte_hex (c : UInt8) (v : Value) (t : List UInt8) (base : Nat) (w : World) (he : EscAt w) (hown : w.ownsRow base 5 1 v t.length (t.map B8)) (hb : base ≤ w.heap.size) (hl : t.length ≤ 17179869184) (hp : Pl.plain c = false) (hlt : Pl.letter c = none) :
    Calls Tryd.prog 32 #[v, .int .u8 (c.toNat : Int)] w fun e w' => ∃ v', e = .returned v' ∧ w'.ownsRow base 5 1 v' (t ++ Pl.esc c).length ((t ++ Pl.esc c).map B8) ∧ Below base w w' := by
  have hh := Pl.esc_hex c hp hlt
  have HP := Lib.hid hp
  have HL := Lib.hid hlt
  have HE := Lib.hid he
  clear hp hlt he
  obtain ⟨i0, hi, hz0, hz1, hz2⟩ := info_parts infoB
  have hb256 : c.toNat < 256 := c.toNat_lt
  have a2 := and_fin ⟨c.toNat, hb256⟩
  simp only at a2
  obtain ⟨n1, hn1⟩ : ∃ n1, c.toNat / 16 = n1 := ⟨_, rfl⟩
  obtain ⟨n2, hn2⟩ : ∃ n2, c.toNat % 16 = n2 := ⟨_, rfl⟩
  have l1 : n1 < 16 := by omega
  have l2 : n2 < 16 := by omega
  have a1 : (c.toNat : Int) / 16 = (n1 : Int) := by omega
  rw [hn1, hn2] at hh
  rw [hn2] at a2
  clear hn1 hn2
  have H := Lib.hid hh
  clear hh
  have x1 := hex_index n1 l1
  have x2 := hex_index n2 l2
  go_enter Tryd.func32, Tryd.ntmps32
  go_wp2_with (first
    | (go_at_call 52; refine (isPlain_any _ _).mono ?_; rw [HP.out]; rintro e w' ⟨rfl, rfl⟩)
    | (go_at_call 53; refine (letterOf_any _ _ HE.out).mono ?_; rw [HL.out]; rintro e w1 ⟨rfl, hb1⟩; have hown1 := own_below hown hb1; have hsz1 := hb1.size; have HB1 := Lib.hid hb1; clear hb1))
  go_region_held3 (fun w' => True)
    (first
      | go_keep
      | trivial)
    (first
      | (refine step_append_lies _ (by rfl) _ _ _ (by rfl) base 5 i0 _ 1 1 Tryd.underlying29 hi hz0 hz1 hz2 rfl (by omega) v t.length (t.map B8) (by rfl) (hown1.alloc _)
              ⟨w1.heap.size, 0, none⟩ 4 4 [.int .u8 92, .int .u8 120, .int .u8 ((Pl.hexd n1).toNat : Int), .int .u8 ((Pl.hexd n2).toNat : Int)] (by rfl) (by rfl) (four_new _ _ _ _ _) (by simp [Value.oneCell'])
              (by omega) (by unfold maxLen; omega) (by omega) (by simp; omega) (w1.heap.size + 1) (by simp) ?_; intro g9 cap9 w4 hown4 hgrow hat hlt4))
  all_goals
    go_wp2_with fail
    go_ret
    exact ⟨_, rfl, by rw [H.out]; exact own_app rfl rfl rfl hown4, (redrew (((Below.refl base w).trans (HB1.out.mono hb)).alloc (by omega) _)).grown hgrow (by simp; omega) (fun g hg => (hown1.lt g hg).1)⟩

theorem appendByte_any (c : UInt8) (v : Value) (t : List UInt8) (base : Nat) (w : World) (he : EscAt w) (hown : w.ownsRow base 5 1 v t.length (t.map B8)) (hb : base ≤ w.heap.size) (hl : t.length ≤ 17179869184) :
    Calls Tryd.prog 32 #[v, .int .u8 (c.toNat : Int)] w fun e w' => ∃ v', e = .returned v' ∧ w'.ownsRow base 5 1 v' (t ++ Pl.esc c).length ((t ++ Pl.esc c).map B8) ∧ Below base w w' := by
  cases hp : Pl.plain c with
  | true => exact appendByte_plain c v t base w hown hb hl hp
  | false =>
    cases hlt : Pl.letter c with
    | some l => exact appendByte_letter c l v t base w he hown hb hl hp hlt
    | none => exact appendByte_hex c v t base w he hown hb hl hp hlt

/-- Quote -/
theorem Quote_any (s : ByteArray) (w : World) (he : EscAt w) (hs : s.size ≤ 4294967295) :
    Calls Tryd.prog 16 #[.string s] w fun e w' => e = .returned (.string ⟨(Pl.quote (Pl.L s)).toArray⟩) ∧ Below w.heap.size w w' := by
  have HE := Lib.hid he
  have hlt0 := he.lt
  clear he
  obtain ⟨i0, hi, hz0, hz1, hz2⟩ := info_parts infoB
  go_enter Tryd.func16, Tryd.ntmps16
  go_wp2_with fail
  go_loopw [3, 4, 8] (fun v _ i wr => ∃ (k : Nat) (t : List UInt8), k ≤ s.size ∧ i = .int .i64 k ∧ t = 34 :: Pl.qbody ((Pl.L s).take k) ∧ wr.ownsRow w.heap.size 5 1 v t.length (t.map B8) ∧ Below w.heap.size w wr) (fun _ _ i _ => s.size - (intOf i).toNat)
  case atStart => exact ⟨0, [34], Nat.zero_le _, rfl, rfl, World.ownsRow_lit w #[.int .u8 34] 1 (Nat.le_refl _) (by decide) rfl, (Below.refl _ w).alloc (Nat.le_refl _) _⟩
  case round =>
    obtain ⟨k, t, hk, rfl, ht, hown, hb⟩ := hrel
    have HT := Lib.hid ht
    have hsz := hb.size
    have HB := Lib.hid hb
    have htl : t.length ≤ 17179869181 := by
      rw [ht, List.length_cons]
      have := Pl.qbody_len ((Pl.L s).take k)
      rw [List.length_take, Pl.L_length] at this
      omega
    clear ht hb
    by_cases hlt : k < s.size
    · have HN : Hid (t ++ Pl.esc s[k] = 34 :: Pl.qbody ((Pl.L s).take (k + 1))) := Lib.hid (by rw [Pl.qbody_snoc s k hlt, HT.out]; rfl)
      go_wp2_with (go_at_call 32; refine (appendByte_any s[k] _ t w.heap.size _ (HE.out.below HB.out hlt0) hown hsz (by omega)).mono ?_; rintro e w1 ⟨v1, rfl, hown1, hb1⟩; have HB1 := Lib.hid hb1; clear hb1)
      go_roundw
      case rel => exact ⟨k + 1, t ++ Pl.esc s[k], by omega, by go_num, HN.out, hown1, HB.out.trans HB1.out⟩
      case measure => simp [intOf]; omega
    · have HN : Hid (t ++ [34] = Pl.quote (Pl.L s)) := Lib.hid (by rw [HT.out, List.take_of_length_le (by rw [Pl.L_length]; omega)]; rfl)
      go_wp2_with (at_builtin; refine wpList_append_own _ rfl (.tmp 17) (.tmp 18) 29 rfl w.heap.size 5 i0 (.int .u8 0) 1 1 Tryd.underlying29 hi hz0 hz1 hz2 rfl (by decide) _ t.length _ rfl (hown.alloc _) ⟨wr.heap.size, 0, none⟩ 1 1 [.int .u8 34] rfl rfl (cell_one_new _ _ _) (by simp [Value.oneCell']) (by unfold maxLen; omega) (by omega) (by simp; omega) ?_; intro v2 w2 hown2 hg2 _; have HG2 := Lib.hid hg2; clear hg2; have hcv := conv_own (own_app (u := [34]) rfl rfl rfl hown2))
      go_ret
      exact ⟨by rw [← HN.out]; rfl, (HB.out.alloc (by omega) _).grown HG2.out (by simp; omega) (fun g hg => (hown.lt g hg).1)⟩
end Go.Proofs.YthifbihmogjjpaaDoor
