/-
  The contract of readByte.
-/
import Derived.Test.YtgljgjkoaaibnaaKk
import Derived.Deep.QuietTactic
import Derived.WalkSmall
namespace Go.Proofs.Ytgljgjkoaaibnaa.KK
open Go.ChangeShapes Go.WideShapes Go.ChangeAt Go.RowKit Go.Proofs

theorem or_fin : ∀ x y : Fin 16, bits BinOp.or IntKind.i64 ((x.val : Int) * 16) (y.val : Int) = (x.val : Int) * 16 + (y.val : Int) := by decide +kernel
theorem or_nib (x y : Int) (h0 : 0 ≤ x) (h1 : x ≤ 15) (h2 : 0 ≤ y) (h3 : y ≤ 15) : bits BinOp.or IntKind.i64 (x * 16) y % 256 = x * 16 + y := by
  have := or_fin ⟨x.toNat, by omega⟩ ⟨y.toNat, by omega⟩
  simp only [Int.toNat_of_nonneg h0, Int.toNat_of_nonneg h2] at this
  rw [this]; omega
def hvI (c : UInt8) : Int := Lib.indexByte ([48, 49, 50, 51, 52, 53, 54, 55, 56, 57, 97, 98, 99, 100, 101, 102] : List UInt8) c
theorem hvI_fin : ∀ n : Fin 256, (Kl.hv (UInt8.ofNat n.val) = if hvI (UInt8.ofNat n.val) < 0 then none else some (hvI (UInt8.ofNat n.val)).toNat) ∧ hvI (UInt8.ofNat n.val) ≤ 15 := by decide +kernel
theorem hv_hvI (c : UInt8) : (Kl.hv c = if hvI c < 0 then none else some (hvI c).toNat) ∧ hvI c ≤ 15 := by
  have := hvI_fin ⟨c.toNat, c.toNat_lt⟩
  simpa using this
theorem hv_calls (c : UInt8) (w : World) :
    Calls Try.prog 63 #[.string ⟨#[48, 49, 50, 51, 52, 53, 54, 55, 56, 57, 97, 98, 99, 100, 101, 102]⟩, .int .u8 (c.toNat : Int)] w fun e w' => e = .returned (.int .i64 (hvI c)) ∧ w' = w :=
  (Try.strings_IndexByte _ _ w).mono fun e w' h => by
    have hc : ((c.toNat : Int)).toNat.toUInt8 = c := by simp
    unfold hvI
    rw [← hc]; exact h
theorem pre_calls (s p : ByteArray) (v : Bool) (w : World) (h : (Kl.L p).isPrefixOf (Kl.L s) = v) :
    Calls Try.prog 61 #[.string s, .string p] w fun e w' => e = .returned (.bool v) ∧ w = w' :=
  (Try.strings_HasPrefix s p w).mono fun e w' h' => ⟨by rw [← h]; exact h'.1, h'.2.symm⟩
def rbV (o : Option (UInt8 × Nat)) : Value := match o with | some (c, n) => .tuple #[.int .u8 (c.toNat : Int), .int .i64 (n : Int), .bool true] | none => .tuple #[.int .u8 0, .int .i64 0, .bool false]
theorem L_cons (s : ByteArray) (h : 0 < s.size) : ∃ t, Kl.L s = s[0] :: t := by
  have h' : 0 < (Kl.L s).length := by rw [Kl.L_length]; exact h
  have e := List.drop_eq_getElem_cons h'
  rw [List.drop_zero] at e
  exact ⟨_, e⟩
theorem L_four (s : ByteArray) (h : 3 < s.size) : ∃ t, Kl.L s = s[0] :: s[1] :: s[2] :: s[3] :: t := by
  have g : ∀ (k : Nat) (hk : k < s.size), (Kl.L s).drop k = s[k] :: (Kl.L s).drop (k + 1) := fun k hk => List.drop_eq_getElem_cons (by rw [Kl.L_length]; exact hk)
  have e0 := g 0 (by omega)
  rw [List.drop_zero, g 1 (by omega), g 2 (by omega), g 3 (by omega)] at e0
  exact ⟨_, e0⟩

set_option maxRecDepth 100000 in
set_option maxHeartbeats 1000000 in
theorem readByte_any (s : ByteArray) (w : World) (hs : s.size ≤ 9223372036854775807) (h0 : 0 < s.size) :
    Calls Try.prog 58 #[.string s] w fun e w' => e = .returned (rbV (Kl.rb (Kl.L s))) ∧ Below w.heap.size w w' := by
  obtain ⟨t, ht⟩ := L_cons s h0
  by_cases hc : s[0] = 92
  rotate_left
  · have q1 : ((s[0].toNat : Int) != 92) = true := by rw [bne_iff_ne]; intro e; exact hc (UInt8.toNat_inj.1 (show s[0].toNat = 92 by omega))
    have q2 : ((s[0].toNat : Int) == 92) = false := beqF hc
    have H : Hid (Kl.rb (Kl.L s) = some (s[0], 1)) := Lib.hid (by rw [ht]; simp [Kl.rb, hc])
    clear hc ht
    go_enter Try.func58, Try.ntmps58
    go_wp2_with fail
    go_ret3
    exact ⟨by rw [H.out]; rfl, Below.refl _ _⟩
  have q1 : ((s[0].toNat : Int) != 92) = false := by rw [bne_eq_false_iff_eq, hc]; rfl
  have q2 : ((s[0].toNat : Int) == 92) = true := beqT hc
  rw [hc] at ht
  cases hp : (Kl.L ⟨#[92, 92]⟩).isPrefixOf (Kl.L s) with
  | true =>
    have J1 := Lib.hid (fun w => pre_calls s ⟨#[92, 92]⟩ true w hp)
    have H : Hid (Kl.rb (Kl.L s) = some (92, 2)) := Lib.hid (by
      obtain ⟨r, hr⟩ := List.isPrefixOf_iff_prefix.1 hp
      rw [← hr]; rfl)
    clear hp hc ht
    go_enter Try.func58, Try.ntmps58
    go_wp2_with fail
    refine (J1.out _).mono ?_
    rintro e w' ⟨rfl, rfl⟩
    go_wp2_with fail
    go_ret3
    exact ⟨by rw [H.out]; rfl, Below.refl _ _⟩
  | false =>
    have J1 := Lib.hid (fun w => pre_calls s ⟨#[92, 92]⟩ false w hp)
    cases hx : (Kl.L ⟨#[92, 120]⟩).isPrefixOf (Kl.L s) with
    | false =>
      have J2 := Lib.hid (fun w => pre_calls s ⟨#[92, 120]⟩ false w hx)
      have H : Hid (Kl.rb (Kl.L s) = none) := Lib.hid (by
        rw [ht] at hp hx ⊢
        match t, hp, hx with
        | [], _, _ => rfl
        | d :: t, hp, hx =>
          have h1 : d ≠ 92 := by rintro rfl; simp [Kl.L] at hp
          have h2 : d ≠ 120 := by rintro rfl; simp [Kl.L] at hx
          simp [Kl.rb, Kl.rb1, h1, h2])
      clear hp hx hc ht
      go_enter Try.func58, Try.ntmps58
      go_wp2_with fail
      refine (J1.out _).mono ?_
      rintro e w' ⟨rfl, rfl⟩
      go_wp2_with fail
      refine (J2.out _).mono ?_
      rintro e w' ⟨rfl, rfl⟩
      go_wp2_with fail
      go_ret3
      exact ⟨by rw [H.out]; rfl, Below.refl _ _⟩
    | true =>
      have J2 := Lib.hid (fun w => pre_calls s ⟨#[92, 120]⟩ true w hx)
      by_cases h4 : s.size < 4
      · have d1 : decide ((s.size : Int) < 4) = true := by simp; omega
        have H : Hid (Kl.rb (Kl.L s) = none) := Lib.hid (by
          have hl := Kl.L_length s
          obtain ⟨r, hr⟩ := List.isPrefixOf_iff_prefix.1 hx
          rw [← hr] at hl ⊢
          match r, hl with
          | [], _ => rfl
          | [_], _ => rfl
          | _ :: _ :: _, hl => simp [Kl.L] at hl; omega)
        clear hp hx hc ht
        go_enter Try.func58, Try.ntmps58
        go_wp2_with fail
        refine (J1.out _).mono ?_
        rintro e w' ⟨rfl, rfl⟩
        go_wp2_with fail
        refine (J2.out _).mono ?_
        rintro e w' ⟨rfl, rfl⟩
        go_wp2_with fail
        go_ret3
        exact ⟨by rw [H.out]; rfl, Below.refl _ _⟩
      · have d1 : decide ((s.size : Int) < 4) = false := by simp; omega
        have b2 : (2 : Int) < (s.size : Int) := by omega
        have b3 : (3 : Int) < (s.size : Int) := by omega
        have n2 : 2 < s.size := by omega
        have n3 : 3 < s.size := by omega
        obtain ⟨t4, ht4⟩ := L_four s n3
        have hrb : Kl.rb (Kl.L s) = match Kl.hv s[2], Kl.hv s[3] with | some x, some y => some (UInt8.ofNat (16 * x + y), 4) | _, _ => none := by
          obtain ⟨r, hr⟩ := List.isPrefixOf_iff_prefix.1 hx
          rw [ht4] at hr ⊢
          have hr' : (92 : UInt8) :: 120 :: r = s[0] :: s[1] :: s[2] :: s[3] :: t4 := hr
          simp only [List.cons.injEq] at hr'
          rw [← hr'.1, ← hr'.2.1]
          rfl
        obtain ⟨e2, m2⟩ := hv_hvI s[2]
        obtain ⟨e3, m3⟩ := hv_hvI s[3]
        clear hp hx hc ht ht4
        by_cases x2 : hvI s[2] < 0
        · have H : Hid (Kl.rb (Kl.L s) = none) := Lib.hid (by rw [hrb, e2, if_pos x2])
          clear hrb e2 e3
          go_enter Try.func58, Try.ntmps58
          go_wp2_with fail
          refine (J1.out _).mono ?_
          rintro e w' ⟨rfl, rfl⟩
          go_wp2_with fail
          refine (J2.out _).mono ?_
          rintro e w' ⟨rfl, rfl⟩
          go_wp2_with fail
          go_quiet ((go_at_call 63; exact Calls.quiet_of_same (hv_calls _ _)))
          go_wp2_with fail
          go_ret3
          exact ⟨by rw [H.out]; rfl, below_drewN' _⟩
        · have y2 : 0 ≤ hvI s[2] := by omega
          have z2 : decide (hvI s[2] < 0) = false := by simpa using y2
          by_cases x3 : hvI s[3] < 0
          · have H : Hid (Kl.rb (Kl.L s) = none) := Lib.hid (by rw [hrb, e2, e3, if_pos x3, if_neg x2])
            clear hrb e2 e3 x2
            go_enter Try.func58, Try.ntmps58
            go_wp2_with fail
            refine (J1.out _).mono ?_
            rintro e w' ⟨rfl, rfl⟩
            go_wp2_with fail
            refine (J2.out _).mono ?_
            rintro e w' ⟨rfl, rfl⟩
            go_wp2_with fail
            go_quiet ((go_at_call 63; exact Calls.quiet_of_same (hv_calls _ _)))
            go_wp2_with fail
            go_ret3
            exact ⟨by rw [H.out]; rfl, below_drewN' _⟩
          · have y3 : 0 ≤ hvI s[3] := by omega
            have z3 : decide (hvI s[3] < 0) = false := by simpa using y3
            have H : Hid (Kl.rb (Kl.L s) = some (UInt8.ofNat (16 * (hvI s[2]).toNat + (hvI s[3]).toNat), 4)) := Lib.hid (by rw [hrb, e2, e3, if_neg x3, if_neg x2])
            have HN : Hid (((UInt8.ofNat (16 * (hvI s[2]).toNat + (hvI s[3]).toNat)).toNat : Int) = hvI s[2] * 16 + hvI s[3]) := Lib.hid (by
              rw [UInt8.toNat_ofNat_of_lt' (by show _ < 256; omega)]; omega)
            clear hrb e2 e3 x2 x3
            go_enter Try.func58, Try.ntmps58
            go_wp2_with fail
            refine (J1.out _).mono ?_
            rintro e w' ⟨rfl, rfl⟩
            go_wp2_with fail
            refine (J2.out _).mono ?_
            rintro e w' ⟨rfl, rfl⟩
            go_wp2_with fail
            go_quiet ((go_at_call 63; exact Calls.quiet_of_same (hv_calls _ _)))
            go_wp2_with fail
            go_ret3
            refine ⟨?_, below_drewN' _⟩
            rw [H.out]
            unfold rbV
            dsimp only
            have HE := HN.out.trans (or_nib _ _ y2 m2 y3 m3).symm
            rw [HE]
            rfl
end Go.Proofs.Ytgljgjkoaaibnaa.KK
