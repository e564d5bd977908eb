/-
  Bytes that a call appends to its row; the contract of appendHex.
-/
import Derived.Test.YtgljgjkoaaibnaaKg
import Derived.Laws.OwnMore
import Derived.Maps.AppendAt
namespace Go.Proofs.Ytgljgjkoaaibnaa.KK
open Go.ChangeShapes Go.WideShapes Go.ChangeAt Go.RowKit Go.Proofs

def B8 (c : UInt8) : Value := .int .u8 (c.toNat : Int)
theorem infoB : (Try.prog.info? 5).map (fun i => (i.zero, i.size, i.bytes)) = some (some (.int .u8 0), 1, 1) := by kernel_rfl
/-- string(b) of a row of the call's own -/
theorem conv_own {w : World} {base : Nat} {v : Value} {n : Nat} {t : List UInt8} (hown : w.ownsRow base 5 1 v n (t.map B8)) :
    (convert 51 9 v).run Try.prog w = .ok (.string ⟨t.toArray⟩) w := by
  have hn : n = t.length := by have := hown.1; simpa using this.symm
  rcases hown.2 with ⟨rfl, h0⟩ | ⟨g, cap, cur, rfl, _⟩
  · have : t = [] := List.eq_nil_of_length_eq_zero (by omega)
    subst this
    exact run_convert_bytes_nil w _ _ Try.underlying51 Try.underlying5 0 0 _ Try.underlying9
  · rw [run_convert_bytes_arg w _ _ Try.underlying51 Try.underlying5 g 0 n cap (t.map fun c => (c.toNat : Int)) (by simp [hn]) (fun i hi => ?_) _ Try.underlying9, str_nums]
    have hc := hown.cells (g := g) rfl i (B8 (t[i]'(by omega))) (by rw [List.getElem?_map, List.getElem?_eq_getElem (by omega)]; rfl)
    rw [Nat.zero_add]
    have hadd : (⟨g, 0, none⟩ : Addr).add i = ⟨g, i, none⟩ := by unfold Addr.add; split <;> simp_all
    rw [hadd] at hc
    rw [hc, B8]
    congr 2
    rw [List.getD_eq_getElem?_getD, List.getElem?_map, List.getElem?_eq_getElem (by omega)]
    rfl
theorem own_below {w w' : World} {B e size n : Nat} {v : Value} {xs : List Value} (h : w.ownsRow B e size v n xs) (hb : Below w.heap.size w w') : w'.ownsRow B e size v n xs := by
  obtain ⟨h1, h2⟩ := h
  refine ⟨h1, ?_⟩
  rcases h2 with h2 | ⟨g, cap, cur, hv, hg, hh, r⟩
  · exact .inl h2
  · refine .inr ⟨g, cap, cur, hv, hg, ?_, r⟩
    rw [hb.block g (by
      rcases Nat.lt_or_ge g w.heap.size with h | h
      · exact h
      · rw [Array.getElem?_eq_none h] at hh; cases hh)]
    exact hh
/-- moving an iterator on below the rows of the call's own -/
theorem own_iter {w : World} {B e size n : Nat} {v : Value} {xs : List Value} (h : w.ownsRow B e size v n xs) {k : Nat} (hk : k < B) (s : ByteArray) (pos : Nat) : (w.iterAt k s pos).ownsRow B e size v n xs := by
  obtain ⟨h1, h2⟩ := h
  refine ⟨h1, ?_⟩
  rcases h2 with h2 | ⟨g, cap, cur, hv, hg, hh, r⟩
  · exact .inl h2
  · refine .inr ⟨g, cap, cur, hv, hg, ?_, r⟩
    rw [Lib.iterAt_other w k g s pos (by omega)]
    exact hh
theorem own_app {w : World} {base : Nat} {v : Value} {n m : Nat} {t u : List UInt8} {xs : List Value} (hn : n = t.length) (hm : m = u.length) (hx : xs = u.map B8) (h : w.ownsRow base 5 1 v (n + m) (t.map B8 ++ xs)) : w.ownsRow base 5 1 v (t ++ u).length ((t ++ u).map B8) := by
  subst hn hm hx
  simpa using h
theorem strCells_B8 (u : List UInt8) : Lib.strCells ⟨u.toArray⟩ = u.map B8 := by
  unfold Lib.strCells B8
  simp
theorem size_mk (u : List UInt8) : (⟨u.toArray⟩ : ByteArray).size = u.length := by
  show u.toArray.size = u.length
  simp
theorem own_str {w : World} {base : Nat} {v : Value} {t u : List UInt8} (h : w.ownsRow base 5 1 v (t.length + (⟨u.toArray⟩ : ByteArray).size) (t.map B8 ++ Lib.strCells ⟨u.toArray⟩)) : w.ownsRow base 5 1 v (t ++ u).length ((t ++ u).map B8) := by
  rw [strCells_B8] at h
  exact own_app rfl (size_mk u) rfl h
theorem two_new (w : World) (a b : Value) : ∀ (j : Nat) (u : Value), [a, b][j]? = some u → (w.alloc (.cells #[a, b] 5)).cell? ((⟨w.heap.size, 0, none⟩ : Addr).add j) = some u :=
  World.news_of_block (cs := #[a, b]) (t := 5) (fr := (0, 0)) (heap_alloc_new w _)
theorem four_new (w : World) (a b c d : Value) : ∀ (j : Nat) (u : Value), [a, b, c, d][j]? = some u → (w.alloc (.cells #[a, b, c, d] 5)).cell? ((⟨w.heap.size, 0, none⟩ : Addr).add j) = some u :=
  World.news_of_block (cs := #[a, b, c, d]) (t := 5) (fr := (0, 0)) (heap_alloc_new w _)
theorem redrew {B : Nat} {w w1 : World} (h : Below B w w1) : Below B w w1.drew := ⟨h.os, h.tape, h.output, h.size, h.block⟩
theorem hexi0 : ∀ w, (Instr.index 9 (.string ⟨#[48, 49, 50, 51, 52, 53, 54, 55, 56, 57, 97, 98, 99, 100, 101, 102]⟩) (.int .u8 ((0 : Nat) : Int))).run Try.prog w = .ok (.int .u8 ((Kl.hxD 0).toNat : Int)) w := fun _ => by kernel_rfl
theorem hexi1 : ∀ w, (Instr.index 9 (.string ⟨#[48, 49, 50, 51, 52, 53, 54, 55, 56, 57, 97, 98, 99, 100, 101, 102]⟩) (.int .u8 ((1 : Nat) : Int))).run Try.prog w = .ok (.int .u8 ((Kl.hxD 1).toNat : Int)) w := fun _ => by kernel_rfl
theorem hexi2 : ∀ w, (Instr.index 9 (.string ⟨#[48, 49, 50, 51, 52, 53, 54, 55, 56, 57, 97, 98, 99, 100, 101, 102]⟩) (.int .u8 ((2 : Nat) : Int))).run Try.prog w = .ok (.int .u8 ((Kl.hxD 2).toNat : Int)) w := fun _ => by kernel_rfl
theorem hexi3 : ∀ w, (Instr.index 9 (.string ⟨#[48, 49, 50, 51, 52, 53, 54, 55, 56, 57, 97, 98, 99, 100, 101, 102]⟩) (.int .u8 ((3 : Nat) : Int))).run Try.prog w = .ok (.int .u8 ((Kl.hxD 3).toNat : Int)) w := fun _ => by kernel_rfl
theorem hexi4 : ∀ w, (Instr.index 9 (.string ⟨#[48, 49, 50, 51, 52, 53, 54, 55, 56, 57, 97, 98, 99, 100, 101, 102]⟩) (.int .u8 ((4 : Nat) : Int))).run Try.prog w = .ok (.int .u8 ((Kl.hxD 4).toNat : Int)) w := fun _ => by kernel_rfl
theorem hexi5 : ∀ w, (Instr.index 9 (.string ⟨#[48, 49, 50, 51, 52, 53, 54, 55, 56, 57, 97, 98, 99, 100, 101, 102]⟩) (.int .u8 ((5 : Nat) : Int))).run Try.prog w = .ok (.int .u8 ((Kl.hxD 5).toNat : Int)) w := fun _ => by kernel_rfl
theorem hexi6 : ∀ w, (Instr.index 9 (.string ⟨#[48, 49, 50, 51, 52, 53, 54, 55, 56, 57, 97, 98, 99, 100, 101, 102]⟩) (.int .u8 ((6 : Nat) : Int))).run Try.prog w = .ok (.int .u8 ((Kl.hxD 6).toNat : Int)) w := fun _ => by kernel_rfl
theorem hexi7 : ∀ w, (Instr.index 9 (.string ⟨#[48, 49, 50, 51, 52, 53, 54, 55, 56, 57, 97, 98, 99, 100, 101, 102]⟩) (.int .u8 ((7 : Nat) : Int))).run Try.prog w = .ok (.int .u8 ((Kl.hxD 7).toNat : Int)) w := fun _ => by kernel_rfl
theorem hexi8 : ∀ w, (Instr.index 9 (.string ⟨#[48, 49, 50, 51, 52, 53, 54, 55, 56, 57, 97, 98, 99, 100, 101, 102]⟩) (.int .u8 ((8 : Nat) : Int))).run Try.prog w = .ok (.int .u8 ((Kl.hxD 8).toNat : Int)) w := fun _ => by kernel_rfl
theorem hexi9 : ∀ w, (Instr.index 9 (.string ⟨#[48, 49, 50, 51, 52, 53, 54, 55, 56, 57, 97, 98, 99, 100, 101, 102]⟩) (.int .u8 ((9 : Nat) : Int))).run Try.prog w = .ok (.int .u8 ((Kl.hxD 9).toNat : Int)) w := fun _ => by kernel_rfl
theorem hexi10 : ∀ w, (Instr.index 9 (.string ⟨#[48, 49, 50, 51, 52, 53, 54, 55, 56, 57, 97, 98, 99, 100, 101, 102]⟩) (.int .u8 ((10 : Nat) : Int))).run Try.prog w = .ok (.int .u8 ((Kl.hxD 10).toNat : Int)) w := fun _ => by kernel_rfl
theorem hexi11 : ∀ w, (Instr.index 9 (.string ⟨#[48, 49, 50, 51, 52, 53, 54, 55, 56, 57, 97, 98, 99, 100, 101, 102]⟩) (.int .u8 ((11 : Nat) : Int))).run Try.prog w = .ok (.int .u8 ((Kl.hxD 11).toNat : Int)) w := fun _ => by kernel_rfl
theorem hexi12 : ∀ w, (Instr.index 9 (.string ⟨#[48, 49, 50, 51, 52, 53, 54, 55, 56, 57, 97, 98, 99, 100, 101, 102]⟩) (.int .u8 ((12 : Nat) : Int))).run Try.prog w = .ok (.int .u8 ((Kl.hxD 12).toNat : Int)) w := fun _ => by kernel_rfl
theorem hexi13 : ∀ w, (Instr.index 9 (.string ⟨#[48, 49, 50, 51, 52, 53, 54, 55, 56, 57, 97, 98, 99, 100, 101, 102]⟩) (.int .u8 ((13 : Nat) : Int))).run Try.prog w = .ok (.int .u8 ((Kl.hxD 13).toNat : Int)) w := fun _ => by kernel_rfl
theorem hexi14 : ∀ w, (Instr.index 9 (.string ⟨#[48, 49, 50, 51, 52, 53, 54, 55, 56, 57, 97, 98, 99, 100, 101, 102]⟩) (.int .u8 ((14 : Nat) : Int))).run Try.prog w = .ok (.int .u8 ((Kl.hxD 14).toNat : Int)) w := fun _ => by kernel_rfl
theorem hexi15 : ∀ w, (Instr.index 9 (.string ⟨#[48, 49, 50, 51, 52, 53, 54, 55, 56, 57, 97, 98, 99, 100, 101, 102]⟩) (.int .u8 ((15 : Nat) : Int))).run Try.prog w = .ok (.int .u8 ((Kl.hxD 15).toNat : Int)) w := fun _ => by kernel_rfl
theorem hex_index (n : Nat) (h : n < 16) : ∀ w, (Instr.index 9 (.string ⟨#[48, 49, 50, 51, 52, 53, 54, 55, 56, 57, 97, 98, 99, 100, 101, 102]⟩) (.int .u8 (n : Int))).run Try.prog w = .ok (.int .u8 ((Kl.hxD n).toNat : Int)) w :=
  match n, h with
  | 0, _ => hexi0
  | 1, _ => hexi1
  | 2, _ => hexi2
  | 3, _ => hexi3
  | 4, _ => hexi4
  | 5, _ => hexi5
  | 6, _ => hexi6
  | 7, _ => hexi7
  | 8, _ => hexi8
  | 9, _ => hexi9
  | 10, _ => hexi10
  | 11, _ => hexi11
  | 12, _ => hexi12
  | 13, _ => hexi13
  | 14, _ => hexi14
  | 15, _ => hexi15
  | m + 16, h => absurd h (by omega)
theorem and_fin : ∀ x : Fin 256, bits BinOp.and IntKind.u8 (x.val : Int) 15 = ((x.val % 16 : Nat) : Int) := by decide +kernel
theorem hxs_snoc : ∀ (l : List UInt8) (c : UInt8), Kl.hxs (l ++ [c]) = Kl.hxs l ++ Kl.hx c
  | [], c => by simp [Kl.hxs]
  | x :: l, c => by rw [List.cons_append, Kl.hxs, hxs_snoc l c, Kl.hxs, List.append_assoc]

set_option maxRecDepth 100000 in
set_option maxHeartbeats 1000000 in
theorem appendHex_any (s : ByteArray) (v : Value) (t : List UInt8) (base : Nat) (w : World) (hs : s.size ≤ 4294967295) (hown : w.ownsRow base 5 1 v t.length (t.map B8)) (hb : base ≤ w.heap.size) (hl : t.length ≤ 17179869184) :
    Calls Try.prog 62 #[v, .string s] w fun e w' => ∃ v', e = .returned v' ∧ w'.ownsRow base 5 1 v' (t ++ Kl.hxs (Kl.L s)).length ((t ++ Kl.hxs (Kl.L s)).map B8) ∧ Below base w w' := by
  obtain ⟨i0, hi, hz0, hz1, hz2⟩ := info_parts infoB
  go_enter Try.func62, Try.ntmps62
  go_wp2_with fail
  go_loopw [0, 5, 8] (fun v _ i wr => ∃ (k : Nat) (u : List UInt8), k ≤ s.size ∧ i = .int .i64 k ∧ u = t ++ Kl.hxs ((Kl.L s).take k) ∧ wr.ownsRow base 5 1 v u.length (u.map B8) ∧ Below base w wr) (fun _ _ i _ => s.size - (intOf i).toNat)
  case atStart => exact ⟨0, t, Nat.zero_le _, rfl, by simp [Kl.hxs], hown, Below.refl _ _⟩
  case round =>
    obtain ⟨k, u, hk, rfl, hu, hown2, hbl⟩ := hrel
    have hsz := hbl.size
    have HB := Lib.hid hbl
    have hul : u.length ≤ 17179869184 + 4 * k := by
      rw [hu, List.length_append, Kl.hxs_length, List.length_take, Kl.L_length]; omega
    have HU := Lib.hid hu
    clear hbl hu hown
    by_cases hlt : k < s.size
    · have d1 : (0 : Int) ≤ (k : Int) := by omega
      have d2 : (k : Int) < (s.size : Int) := by omega
      have hb256 : s[k].toNat < 256 := s[k].toNat_lt
      have a2 := and_fin ⟨s[k].toNat, hb256⟩
      simp only at a2
      obtain ⟨n1, hn1⟩ : ∃ n1, s[k].toNat / 16 = n1 := ⟨_, rfl⟩
      obtain ⟨n2, hn2⟩ : ∃ n2, s[k].toNat % 16 = n2 := ⟨_, rfl⟩
      have l1 : n1 < 16 := by omega
      have l2 : n2 < 16 := by omega
      have a1 : (s[k].toNat : Int) / 16 = (n1 : Int) := by omega
      have hh : Kl.hxs ((Kl.L s).take (k + 1)) = Kl.hxs ((Kl.L s).take k) ++ [92, 120, Kl.hxD n1, Kl.hxD n2] := by rw [kl_take s k hlt, hxs_snoc]; unfold Kl.hx; rw [hn1, hn2]
      rw [hn2] at a2
      clear hn1 hn2
      have H := Lib.hid hh
      clear hh
      have x1 := hex_index n1 l1
      have x2 := hex_index n2 l2
      go_wp2_with fail
      go_region_held3 (fun w' => True)
        (first
          | go_keep
          | trivial)
        (first
          | (refine step_append_lies _ (by rfl) _ _ _ (by rfl) base 5 i0 _ 1 1 Try.underlying51 hi hz0 hz1 hz2 rfl (by omega) _ u.length (u.map B8) (by rfl) (hown2.alloc _)
              ⟨wr.heap.size, 0, none⟩ 4 4 [.int .u8 92, .int .u8 120, .int .u8 ((Kl.hxD n1).toNat : Int), .int .u8 ((Kl.hxD n2).toNat : Int)] (by rfl) (by rfl) (four_new _ _ _ _ _) (by simp [Value.oneCell'])
              (by omega) (by unfold maxLen; omega) (by omega) (by simp; omega) (wr.heap.size + 1) (by simp) ?_; intro g9 cap9 w4 hown4 hgrow hat hlt4))
      all_goals
        go_wp2_with fail
        go_roundw
        case rel => exact ⟨k + 1, u ++ [92, 120, Kl.hxD n1, Kl.hxD n2], by omega, by go_num, by rw [H.out, HU.out, List.append_assoc], own_app rfl rfl rfl hown4, (redrew (HB.out.alloc (by omega) _)).grown hgrow (by simp; omega) (fun g hg => (hown2.lt g hg).1)⟩
        case measure => simp [intOf]; omega
    · have H : Hid (u = t ++ Kl.hxs (Kl.L s)) := Lib.hid (by rw [HU.out, List.take_of_length_le (by rw [Kl.L_length]; omega)])
      go_wp2_with fail
      go_ret
      exact ⟨_, rfl, by rw [← H.out]; exact hown2, HB.out⟩
end Go.Proofs.Ytgljgjkoaaibnaa.KK
