/-
  Shadow: the walk of Filters.
-/
import Derived.Test.YtlobkbhghpknmaaSl
namespace Go.Proofs.Ytlobkbhghpknmaa.KK
open Go.ChangeShapes Go.WideShapes Go.ChangeAt Go.RowKit Go.Proofs

theorem sgo_len : ∀ (t : List El.En) (s : St) (i : Nat) (o : Oc), (sgo s i o t).1.1.length ≤ o.1.length + t.length
  | [], _, _, _ => by simp [sgo]
  | x :: t, s, i, o => by
    unfold sgo
    split
    · have := sgo_len t (nextS s x) (i + 1) (addO o x (fateS s x))
      have h2 : (addO o x (fateS s x)).1.length ≤ o.1.length + 1 := by cases fateS s x <;> simp [addO]
      simp only [List.length_cons]; omega
    · simp [zO]
theorem sift_len (xs : List El.En) (b : Bool) : (siftE xs b).1.1.length ≤ xs.length := by
  unfold siftE
  split
  · simp [zO]
  · have := sgo_len xs (false, ⟨#[]⟩, b) 0 zO
    simpa [zO] using this
set_option maxRecDepth 100000 in
set_option maxHeartbeats 4000000 in
theorem Filters_any (A : Option Addr) (c : Nat) (xs : List El.En) (b0 : Bool) (w : World) (hf : EsAt w A xs) (hn : xs.length ≤ 9223372036854775807) (hs : Sized xs) :
    Calls Try.prog 4 #[.slice A xs.length c, .bool b0] w fun e w' => e = .returned (.bool true) ∧ Below w.heap.size w w' := by
  have JF := Lib.hid (far12_any A c xs w hf hn)
  have HF := Lib.hid hf
  have HS := Lib.hid hs
  obtain ⟨n, hnn⟩ : ∃ n, xs.length = n := ⟨_, rfl⟩
  rw [hnn] at hn JF ⊢
  have HN := Lib.hid hnn
  clear hnn hf hs
  go_enter Try.func4, Try.ntmps4
  go_wp2_with fail
  refine JF.out.mono ?_
  rintro e w1 ⟨b, rfl, hfar, hb⟩
  have HB1 := Lib.hid hb
  have HF1 := Lib.hid (HF.out.below hb (Nat.le_refl _))
  clear hb
  cases b with
  | true =>
    clear hfar
    go_wp2_with fail
    refine (awake12_any _).mono ?_
    rintro e w2 ⟨rfl, hb⟩
    have HB2 := Lib.hid (eb_of HB1.out hb (Nat.le_refl _))
    clear hb
    go_wp2_with fail
    go_ret
    exact ⟨rfl, HB2.out⟩
  | false =>
    have hn' := hfar rfl
    clear hfar
    have hn32 : xs.length ≤ 4294967295 := by have := HN.out; omega
    have J1 := Lib.hid (fun w h => pFilter_any A c xs b0 w h hn32 HS.out)
    have J2 := Lib.hid (fun w h => rFilter_any A c xs b0 w h hn32 HS.out)
    have J3 := Lib.hid (fun w h => pCount_any A c xs b0 w h hn32 HS.out)
    have J4 := Lib.hid (fun w h => rCount_any A c xs b0 w h hn32 HS.out)
    have hml := sift_len xs b0
    unfold FiltOut at J1 J2
    rw [HN.out] at J1 J2 J3 J4 hml
    generalize siftE xs b0 = r at *
    obtain ⟨⟨ks, sh, dr⟩, i, er⟩ := r
    simp only at J1 J2 J3 J4 hml
    have J5 := Lib.hid (fun A A' c c' w h g => sameE_any A A' c c' ks ks w h g (by omega) (by omega))
    simp only [decide_true] at J5
    obtain ⟨m, hm⟩ : ∃ m, ks.length = m := ⟨_, rfl⟩
    rw [hm] at J1 J2 J3 J4 J5
    clear hm hml hn32
    go_wp2_with fail
    refine (J1.out _ HF1.out).mono ?_
    rintro e w2 ⟨A2, c2, rfl, he2, hb⟩
    have HB2 := Lib.hid (eb_of HB1.out hb (Nat.le_refl _))
    have HF2 := Lib.hid (HF1.out.below hb (Nat.le_refl _))
    have HE2 := Lib.hid he2
    clear he2 hb
    go_wp2_with fail
    refine (J2.out _ HF2.out).mono ?_
    rintro e w3 ⟨A3, c3, rfl, he3, hb⟩
    have HB3 := Lib.hid (eb_of HB2.out hb (Nat.le_refl _))
    have HF3 := Lib.hid (HF2.out.below hb (Nat.le_refl _))
    have HE3 := Lib.hid he3
    have HE2' := Lib.hid (HE2.out.below hb (Nat.le_refl _))
    clear he3 hb
    go_wp2_with fail
    refine (J3.out _ HF3.out).mono ?_
    rintro e w4 ⟨rfl, hb⟩
    have hb5 := bl_al hb (Nat.le_refl _) (.cells #[.int .i64 (m : Int), .int .i64 (sh : Int), .int .i64 (dr : Int)] 38)
    have HR : Hid (Row3 (w4.alloc (.cells #[.int .i64 (m : Int), .int .i64 (sh : Int), .int .i64 (dr : Int)] 38)) w4.heap.size 38 (.int .i64 (m : Int)) (.int .i64 (sh : Int)) (.int .i64 (dr : Int))) := Lib.hid (heap_alloc_new _ _)
    have HB5 := Lib.hid (eb_of HB3.out hb5 (Nat.le_refl _))
    have HF5 := Lib.hid (HF3.out.below hb5 (Nat.le_refl _))
    have HE5 := Lib.hid (HE2'.out.below hb5 (Nat.le_refl _))
    have HG5 := Lib.hid (HE3.out.below hb5 (Nat.le_refl _))
    clear hb hb5
    go_wp2_with fail
    refine (J4.out _ HF5.out).mono ?_
    rintro e w6 ⟨rfl, hb⟩
    have hb5 := bl_al hb (Nat.le_refl _) (.cells #[.int .i64 (m : Int), .int .i64 (sh : Int), .int .i64 (dr : Int)] 38)
    have HR6 : Hid (Row3 (w6.alloc (.cells #[.int .i64 (m : Int), .int .i64 (sh : Int), .int .i64 (dr : Int)] 38)) w6.heap.size 38 (.int .i64 (m : Int)) (.int .i64 (sh : Int)) (.int .i64 (dr : Int))) := Lib.hid (heap_alloc_new _ _)
    have HR5 := Lib.hid (HR.out.below hb5 (Nat.le_refl _))
    have HB7 := Lib.hid (eb_of HB5.out hb5 (Nat.le_refl _))
    have HE7 := Lib.hid (HE5.out.below hb5 (Nat.le_refl _))
    have HG7 := Lib.hid (HG5.out.below hb5 (Nat.le_refl _))
    clear hb hb5
    go_wp2_with fail
    refine (J5.out _ _ _ _ _ HE7.out HG7.out).mono ?_
    rintro e w8 ⟨rfl, hb⟩
    have HB8 := Lib.hid (eb_of HB7.out hb (Nat.le_refl _))
    have h5 := HR5.out.below hb (Nat.le_refl _)
    have h6 := HR6.out.below hb (Nat.le_refl _)
    have p0 := h5.c0; have p1 := h5.c1; have p2 := h5.c2
    have q0 := h6.c0; have q1 := h6.c1; have q2 := h6.c2
    clear hb h5 h6
    go_wp2_with fail
    refine (awake12_any _).mono ?_
    rintro e w9 ⟨rfl, hb⟩
    have HB9 := Lib.hid (eb_of HB8.out hb (Nat.le_refl _))
    clear hb
    go_wp2_with fail
    go_ret
    exact ⟨rfl, HB9.out⟩
end Go.Proofs.Ytlobkbhghpknmaa.KK
