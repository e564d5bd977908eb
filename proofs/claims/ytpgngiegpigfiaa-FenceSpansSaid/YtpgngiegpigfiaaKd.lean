/-
  Contracts of the neighbours of a key: raised, past, Next, Past, Between, and the reference's.
-/
import Derived.Test.YtpgngiegpigfiaaKc
import Derived.Deep.RegionHeld3
import Derived.Deep.AppendLies
import Derived.OwnWalk
namespace Go.Proofs.Ytpgngiegpigfiaa.KK
open Go.ChangeShapes Go.WideShapes Go.ChangeAt Go.RowKit Go.Proofs

theorem str_nums (t : List UInt8) : strOfNums (t.map fun c => (c.toNat : Int)) = ⟨t.toArray⟩ := by
  have : (strOfNums (t.map fun c => (c.toNat : Int))).data.toList = t := by
    rw [strOfNums_data, List.map_map]
    conv => rhs; rw [← List.map_id t]
    apply List.map_congr_left
    intro c _
    simp
  rw [← Lib.mk_data (strOfNums _), this]
/-- string([]byte{c}) -/
theorem conv_at (w : World) (B : Nat) (m : Int) (c : UInt8) (hm : m = c.toNat) (h : w.cell? ⟨B, 0, none⟩ = some (.int .u8 m)) :
    (convert 90 9 (.slice (some ⟨B, 0, none⟩) 1 1)).run Try.prog w = .ok (.string ⟨[c].toArray⟩) w := by
  subst hm
  rw [run_convert_bytes_arg _ _ _ Try.underlying90 Try.underlying5 B 0 1 1 [(c.toNat : Int)] rfl (fun i hi => ?_) _ Try.underlying9]
  · exact congrArg (fun t => Result.ok (Value.string t) _) (str_nums [c])
  · have : i = 0 := by simpa using hi
    subst this
    exact h
theorem cell_new (w : World) (m : Value) (t : TypeId) : (w.alloc (.cells #[m] t)).cell? ⟨w.heap.size, 0, none⟩ = some m :=
  World.news_of_block (cs := #[m]) (t := t) (fr := (0, 0)) (heap_alloc_new w _) 0 _ rfl
theorem bytes_app (a b : List UInt8) : (⟨a.toArray⟩ : ByteArray) ++ ⟨b.toArray⟩ = ⟨(a ++ b).toArray⟩ := by
  apply ByteArray.ext; simp
theorem ext_take (s : ByteArray) (n : Nat) : s.extract 0 n = ⟨((Kl.L s).take n).toArray⟩ := by
  have := Lib.extract_eq s 0 n
  simpa [Kl.L] using this
theorem ext_at (s : ByteArray) (n j : Nat) (h : j < n) (hj : j < s.size) : (s.extract 0 n)[j]'(by simp; omega) = s[j] := by
  have e : (Kl.L (s.extract 0 n))[j]? = (Kl.L s)[j]? := by
    rw [ext_take]
    show ((Kl.L s).take n)[j]? = _
    rw [List.getElem?_take, if_pos h]
  rw [List.getElem?_eq_getElem (by rw [Kl.L_length]; simp; omega), List.getElem?_eq_getElem (by rw [Kl.L_length]; omega)] at e
  exact Option.some.inj e
theorem undrew {w w1 : World} (h : Below w.drew.heap.size w.drew w1) : Below w.heap.size w w1 := ⟨h.os, h.tape, h.output, h.size, h.block⟩

set_option maxRecDepth 100000 in
set_option maxHeartbeats 1000000 in
theorem raised_any (s : ByteArray) (n : Nat) (w : World) (hlt : n < s.size) (hs : s.size ≤ 9223372036854775807) (hn : s.size = n + 1) (hc : s[n].toNat < 255) :
    Calls Try.prog 66 #[.string s] w fun e w' => e = .returned (.string ⟨((Kl.L s).take n ++ [UInt8.ofNat (s[n].toNat + 1)]).toArray⟩) ∧ Below w.heap.size w w' := by
  have hm : (s.size : Int) - 1 = (n : Int) := by omega
  have hb := s[n].toNat_lt
  have HX := Lib.hid (ext_take s n)
  have hu : (UInt8.ofNat (s[n].toNat + 1)).toNat = s[n].toNat + 1 := Kl.ofNat_up hc
  have lw : IntKind.u8.wrap ((s[n].toNat : Int) + 1) = (s[n].toNat : Int) + 1 := IntWalk.u8_in _ (by omega)
  have hcv := fun (w : World) (B : Nat) => conv_at w B ((s[n].toNat : Int) + 1) (UInt8.ofNat (s[n].toNat + 1)) (by rw [hu]; omega)
  have hl2 : ¬ 9223372036854775807 < n + 1 := by omega
  have HN := Lib.hid hn
  clear hu hn
  obtain ⟨u, hu⟩ : ∃ u, UInt8.ofNat (s[n].toNat + 1) = u := ⟨_, rfl⟩
  rw [hu] at hcv ⊢
  clear hu
  go_enter Try.func66, Try.ntmps66
  go_wp2_with fail
  have z1 := hcv (w.alloc (.cells #[.int .u8 ((s[n].toNat : Int) + 1)] 5)) w.heap.size (cell_new w _ _)
  have z2 := hcv (w.drew.alloc (.cells #[.int .u8 ((s[n].toNat : Int) + 1)] 5)) w.heap.size (cell_new w _ _)
  have z3 := hcv (w.alloc (.cells #[.int .u8 ((s[n].toNat : Int) + 1)] 5)).drew w.heap.size (cell_new w _ _)
  go_region_with (fail)
  all_goals
    go_wp2_with fail
    go_ret
    refine ⟨by rw [← bytes_app, ← HX.out]; rfl, ?_⟩
    first
      | exact (Below.refl _ w).alloc (Nat.le_refl _) _
      | exact below_drewN ((Below.refl _ w).alloc (Nat.le_refl _) _) 1

/-- what past answers -/
def pastV (o : Option (List UInt8)) : Value := match o with | some p => .tuple #[.string ⟨p.toArray⟩, .bool true] | none => .tuple #[.string ⟨#[]⟩, .bool false]
theorem stem_end (s : ByteArray) (k : Nat) (h : k < s.size) (hc : s[k] = 255) : Kl.stem ((Kl.L s).take (k + 1)) = Kl.stem ((Kl.L s).take k) := by
  rw [kl_take s k h, Kl.stem_snoc, if_pos hc]
theorem stem_stop (s : ByteArray) (k : Nat) (h : k < s.size) (hc : ¬ s[k] = 255) : Kl.stem ((Kl.L s).take (k + 1)) = (Kl.L s).take k ++ [s[k]] := by
  rw [kl_take s k h, Kl.stem_snoc, if_neg hc]
theorem rai_stem {l m : List UInt8} (h : Kl.stem l = Kl.stem m) : Kl.rai l = Kl.rai m := by unfold Kl.rai; rw [h]
theorem rai_stop (s : ByteArray) (k : Nat) (h : k < s.size) (hc : ¬ s[k] = 255) (hs : Kl.stem (Kl.L s) = Kl.stem ((Kl.L s).take (k + 1))) : Kl.rai (Kl.L s) = some ((Kl.L s).take k ++ [UInt8.ofNat (s[k].toNat + 1)]) := by
  unfold Kl.rai
  rw [hs, stem_stop s k h hc, if_neg (by simp), Kl.up_snoc]
theorem rai_end (s : ByteArray) (hs : Kl.stem (Kl.L s) = Kl.stem ((Kl.L s).take 0)) : Kl.rai (Kl.L s) = none := by
  unfold Kl.rai
  rw [hs, List.take_zero]; rfl

end Go.Proofs.Ytpgngiegpigfiaa.KK
