/-
  Contracts of the reference's less, parts and next.
-/
import Derived.Test.YthifbihmogjjpaaGreatDoorQa
import Derived.Test.YthifbihmogjjpaaGreatDoorXy
import Derived.Test.YthifbihmogjjpaaGreatDoorWv
namespace Go.Proofs.YthifbihmogjjpaaGreatDoor
open Go.ChangeShapes Go.WideShapes Go.ChangeAt Go.RowKit Go.Proofs

theorem rless_any (a b : ByteArray) (w : World) (ha : a.size ≤ 9223372036854775807) (hb : b.size ≤ 9223372036854775807) :
    Calls Tryz.prog 24 #[.string a, .string b] w fun e w' => e = .returned (.bool (Pl.lessB (Pl.L a) (Pl.L b))) ∧ w = w' := by
  by_cases h : a.size = b.size
  · have H : Hid (Pl.lessB (Pl.L a) (Pl.L b) = Op.bytesLess a.toList b.toList) := Lib.hid (by
      unfold Pl.lessB
      rw [if_pos (by rw [Pl.L_length, Pl.L_length]; exact h), Lib.toList_data, Lib.toList_data]; rfl)
    have h1 : ((a.size : Int) == (b.size : Int)) = true := by rw [beq_iff_eq]; omega
    have h2 : ((a.size : Int) != (b.size : Int)) = false := by rw [bne_eq_false_iff_eq]; omega
    clear h
    go_enter Tryz.func24, Tryz.ntmps24
    go_wp2_with fail
    go_ret
    exact retBW H.out
  · have H : Hid (Pl.lessB (Pl.L a) (Pl.L b) = decide ((a.size : Int) < (b.size : Int))) := Lib.hid (by
      unfold Pl.lessB
      rw [if_neg (by rw [Pl.L_length, Pl.L_length]; exact h), Pl.L_length, Pl.L_length, decide_eq_decide]; omega)
    have h1 : ((a.size : Int) == (b.size : Int)) = false := by rw [beq_eq_false_iff_ne]; omega
    have h2 : ((a.size : Int) != (b.size : Int)) = true := by rw [bne_iff_ne]; omega
    clear h
    go_enter Tryz.func24, Tryz.ntmps24
    go_wp2_with fail
    go_ret
    exact retBW (by rw [H.out, decide_eq_decide]; omega)

theorem infoSt : (Tryz.prog.info? 9).map (fun i => (i.zero, i.size, i.bytes)) = some (some (.string ⟨#[]⟩), 1, 16) := by kernel_rfl
theorem cell_one_str (w : World) (v : Value) : ∀ (j : Nat) (u : Value), [v][j]? = some u → (w.alloc (.cells #[v] 9)).cell? ((⟨w.heap.size, 0, none⟩ : Addr).add j) = some u :=
  World.news_of_block (cs := #[v]) (t := 9) (fr := (0, 0)) (heap_alloc_new w _)
theorem ext_mk' (s : ByteArray) (a b : Nat) (h : a ≤ b) : s.extract a b = ⟨(((Pl.L s).drop a).take (b - a)).toArray⟩ := by
  have e : (s.extract a b).data.toList = ((Pl.L s).drop a).take (b - a) := by rw [Lib.extract_data]; rfl
  rw [← e]
theorem ext_end (s : ByteArray) (a : Nat) : s.extract a s.size = ⟨((Pl.L s).drop a).toArray⟩ := by
  have e : (s.extract a s.size).data.toList = (Pl.L s).drop a := Pl.L_extract s a
  rw [← e]
def StrsOut (ts : List (List UInt8)) (w : World) (e : Ending) (w' : World) : Prop :=
  ∃ A c, e = .returned (.slice A ts.length c) ∧ StrsAt w' A ts ∧ Below w.heap.size w w'

set_option maxRecDepth 100000 in
set_option maxHeartbeats 2000000 in
theorem rparts_any (s : ByteArray) (c : UInt8) (w : World) (hs : s.size ≤ 4000000000) :
    Calls Tryz.prog 22 #[.string s, .int .u8 (c.toNat : Int)] w (StrsOut (Pl.segs c (Pl.L s)) w) := by
  obtain ⟨i0, hi, hz0, hz1, hz2⟩ := info_parts infoSt
  go_enter Tryz.func22, Tryz.ntmps22
  go_wp2_with fail
  go_loopw [5, 6, 7] (fun v f i wr => ∃ (a k : Nat) (d : List (List UInt8)), k ≤ s.size ∧ f = .int .i64 a ∧ i = .int .i64 k ∧ a ≤ k ∧ d.length ≤ k ∧ wr.ownsRow w.heap.size 9 1 v d.length (strV d) ∧ Below w.heap.size w wr ∧ Hid (Pl.SoFar c s a k d)) (fun _ _ i _ => s.size - (intOf i).toNat)
  case atStart => exact ⟨0, 0, [], Nat.zero_le _, rfl, rfl, Nat.le_refl _, Nat.le_refl _, World.ownsRow_nil _ _ _ _, Below.refl _ _, Lib.hid (Pl.SoFar.start c s)⟩
  case round =>
    obtain ⟨a, k, d, hk, rfl, rfl, hak, hdk, hown, hb, HS⟩ := hrel
    have hsz := hb.size
    have HB := Lib.hid hb
    clear hb
    by_cases hlt : k < s.size
    · by_cases hc : s[k] = c
      · have HS2 := Lib.hid (HS.out.cut hlt hc)
        obtain ⟨x, hx⟩ : ∃ x, ((Pl.L s).drop a).take (k - a) = x := ⟨_, rfl⟩
        rw [hx] at HS2
        have hext : s.extract a k = ⟨x.toArray⟩ := by rw [ext_mk' s a k hak, hx]
        have e2 : ((s[k].toNat : Int) == (c.toNat : Int)) = true := by rw [hc]; simp
        clear hc hx
        have N2 := Lib.hid (cell_one_str wr (.string ⟨x.toArray⟩))
        go_wp2_with (at_builtin; go_loud (refine wpList_append_own _ rfl (.tmp 19) (.tmp 24) 42 rfl w.heap.size 9 i0 (.string ⟨#[]⟩) 1 16 Tryz.underlying42 hi hz0 hz1 hz2 rfl (by decide) _ d.length _ rfl (hown.alloc _) ⟨wr.heap.size, 0, none⟩ 1 1 [.string ⟨x.toArray⟩] rfl rfl N2.out (by simp [Value.oneCell']) (by unfold maxLen; omega) (by omega) (by simp; omega) ?_; intro v3 w3 hown3 hg3 _; have hb3 := (HB.out.alloc hsz (.cells #[.string ⟨x.toArray⟩] 9)).grown hg3 (by simp; omega) (fun g hg => (hown.lt g hg).1); have HB3 := Lib.hid hb3; have HO3 := Lib.hid hown3; clear hg3 hb3 hown3))
        go_roundw
        case rel => exact ⟨k + 1, k + 1, d ++ [x], by omega, by go_num, by go_num, Nat.le_refl _, by rw [List.length_append]; simp; omega, by rw [strV_snoc, List.length_append]; exact HO3.out, HB3.out, HS2⟩
        case measure => simp [intOf]; omega
      · have HS2 := Lib.hid (HS.out.pass hlt hc)
        have e2 : ((s[k].toNat : Int) == (c.toNat : Int)) = false := by rw [beq_eq_false_iff_ne]; intro e; exact hc (UInt8.toNat_inj.1 (by omega))
        clear hc
        go_wp2_with fail
        go_roundw
        case rel => exact ⟨a, k + 1, d, by omega, rfl, by go_num, by omega, by omega, hown, HB.out, HS2⟩
        case measure => simp [intOf]; omega
    · have HD := Lib.hid (HS.out.end_ (by omega))
      have hext : s.extract a s.size = ⟨((Pl.L s).drop a).toArray⟩ := ext_end s a
      obtain ⟨x, hx⟩ : ∃ x, (Pl.L s).drop a = x := ⟨_, rfl⟩
      rw [hx] at HD hext
      clear hx
      have N2 := Lib.hid (cell_one_str wr (.string ⟨x.toArray⟩))
      go_wp2_with (at_builtin; go_loud (refine wpList_append_own _ rfl (.tmp 28) (.tmp 32) 42 rfl w.heap.size 9 i0 (.string ⟨#[]⟩) 1 16 Tryz.underlying42 hi hz0 hz1 hz2 rfl (by decide) _ d.length _ rfl (hown.alloc _) ⟨wr.heap.size, 0, none⟩ 1 1 [.string ⟨x.toArray⟩] rfl rfl N2.out (by simp [Value.oneCell']) (by unfold maxLen; omega) (by omega) (by simp; omega) ?_; intro v3 w3 hown3 hg3 _; have hb3 := (HB.out.alloc hsz (.cells #[.string ⟨x.toArray⟩] 9)).grown hg3 (by simp; omega) (fun g hg => (hown.lt g hg).1); have HB3 := Lib.hid hb3; have ho3 : w3.ownsRow w.heap.size 9 1 v3 (d ++ [x]).length (strV (d ++ [x])) := (by rw [strV_snoc, List.length_append]; exact hown3); obtain ⟨A3, c3, hv3⟩ := own_slice ho3; subst hv3; have HST := Lib.hid (StrsAt.of_own ho3); clear hg3 hb3 hown3 ho3))
      go_ret
      exact ⟨A3, c3, by rw [HD.out, List.length_append]; rfl, by rw [HD.out]; exact HST.out, HB3.out⟩
end Go.Proofs.YthifbihmogjjpaaGreatDoor
