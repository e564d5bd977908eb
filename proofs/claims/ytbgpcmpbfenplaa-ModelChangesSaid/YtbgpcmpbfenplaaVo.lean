/-
  Walk of the plain map's differences.
-/
import Derived.Test.YtbgpcmpbfenplaaVn
import Derived.Deep.AppendLies
namespace Go.Proofs.Ytbgpcmpbfenplaa.KK
open Go.ChangeShapes Go.WideShapes Go.ChangeAt Go.RowKit Go.Proofs
theorem infoD : (Try.prog.info? 74).map (fun i => (i.zero, i.size, i.bytes)) = some (some (.agg #[.int .i64 0, .string ⟨#[]⟩, .string ⟨#[]⟩, .string ⟨#[]⟩]), 4, 56) := by kernel_rfl
theorem newD (w : World) (x : It) : ∀ (j : Nat) (u : Value), (itC x)[j]? = some u → (w.alloc (.cells #[.int .i64 x.1, .string x.2.1, .string x.2.2.1, .string x.2.2.2] 74)).cell? ((⟨w.heap.size, 0, none⟩ : Addr).add j) = some u :=
  World.news_of_block (cs := #[.int .i64 x.1, .string x.2.1, .string x.2.2.1, .string x.2.2.2]) (t := 74) (fr := (0, 0)) (heap_alloc_new w _)
theorem nxP_at {xs : List Pr} {i : Nat} (h : i < xs.length) : nxP xs i = xs[i] := by unfold nxP; rw [List.getD_eq_getElem?_getD, List.getElem?_eq_getElem h]; rfl
theorem drop_nx {xs : List Pr} {i : Nat} (h : i < xs.length) : xs.drop i = nxP xs i :: xs.drop (i + 1) := by rw [nxP_at h, List.drop_eq_getElem_cons h]
theorem drop_no {xs : List Pr} {i : Nat} (h : ¬ i < xs.length) : xs.drop i = [] := List.drop_eq_nil_of_le (by omega)
theorem diffP_len (xs ys : List Pr) : (diffP xs ys).length ≤ xs.length + ys.length := by
  fun_induction diffP xs ys
  all_goals simp_all
  all_goals try omega
  all_goals (split <;> simp <;> omega)
def goneI (x : Pr) : It := (2, x.1, x.2, ⟨#[]⟩)
def newI (y : Pr) : It := (1, y.1, ⟨#[]⟩, y.2)
def otherI (x y : Pr) : It := (3, x.1, x.2, y.2)
section
variable {xs ys : List Pr} {i j : Nat}
theorem d_gone1 (h : i < xs.length) (g : ¬ j < ys.length) : diffP (xs.drop i) (ys.drop j) = goneI (nxP xs i) :: diffP (xs.drop (i + 1)) (ys.drop j) := by
  rw [drop_nx h, drop_no g, diffP]; rfl
theorem d_new1 (h : ¬ i < xs.length) (g : j < ys.length) : diffP (xs.drop i) (ys.drop j) = newI (nxP ys j) :: diffP (xs.drop i) (ys.drop (j + 1)) := by
  rw [drop_nx g, drop_no h, diffP]; rfl
theorem d_gone2 (h : i < xs.length) (g : j < ys.length) (q : Kl.ord (Kl.L (nxP xs i).1) (Kl.L (nxP ys j).1) < 0) : diffP (xs.drop i) (ys.drop j) = goneI (nxP xs i) :: diffP (xs.drop (i + 1)) (ys.drop j) := by
  rw [drop_nx h, drop_nx g, diffP, if_pos (Kl.ord_neg.1 q)]; rfl
theorem d_new2 (h : i < xs.length) (g : j < ys.length) (q : 0 < Kl.ord (Kl.L (nxP xs i).1) (Kl.L (nxP ys j).1)) : diffP (xs.drop i) (ys.drop j) = newI (nxP ys j) :: diffP (xs.drop i) (ys.drop (j + 1)) := by
  rw [drop_nx h, drop_nx g, diffP, if_neg (by rw [Kl.ord_nonneg.1 (by omega)]; simp), if_pos (Kl.ord_pos.1 q)]; rfl
theorem d_same (h : i < xs.length) (g : j < ys.length) (q : Kl.ord (Kl.L (nxP xs i).1) (Kl.L (nxP ys j).1) = 0) (v : (nxP xs i).2 = (nxP ys j).2) : diffP (xs.drop i) (ys.drop j) = diffP (xs.drop (i + 1)) (ys.drop (j + 1)) := by
  rw [drop_nx h, drop_nx g, diffP, if_neg (by rw [Kl.ord_nonneg.1 (by omega)]; simp), if_neg (by rw [Kl.ord_nonpos.1 (by omega)]; simp), if_pos v]; rfl
theorem d_other (h : i < xs.length) (g : j < ys.length) (q : Kl.ord (Kl.L (nxP xs i).1) (Kl.L (nxP ys j).1) = 0) (v : (nxP xs i).2 ≠ (nxP ys j).2) : diffP (xs.drop i) (ys.drop j) = otherI (nxP xs i) (nxP ys j) :: diffP (xs.drop (i + 1)) (ys.drop (j + 1)) := by
  rw [drop_nx h, drop_nx g, diffP, if_neg (by rw [Kl.ord_nonneg.1 (by omega)]; simp), if_neg (by rw [Kl.ord_nonpos.1 (by omega)]; simp), if_neg v]; rfl
theorem d_end (h : ¬ i < xs.length) (g : ¬ j < ys.length) : diffP (xs.drop i) (ys.drop j) = [] := by
  rw [drop_no h, drop_no g, diffP]
end
def posW (w : World) (B : Nat) : Nat := match w.cell? ⟨B, 1, none⟩ with | some (.int _ v) => v.toNat | _ => 0
def bitV (v : Value) : Nat := match v with | .bool true => 1 | _ => 0
def measD (n m B1 B2 : Nat) (so mo : Value) (w : World) : Nat := (n - posW w B1) + bitV so + ((m - posW w B2) + bitV mo)
theorem measD_eq {w : World} {A1 A2 : Option Addr} {c1 c2 : Nat} {xs ys : List Pr} {B1 B2 i j : Nat} (h : Two w A1 A2 c1 c2 xs ys B1 B2 (nxI xs i) (nxI ys j)) (hi : i ≤ xs.length) (hj : j ≤ ys.length) :
    measD xs.length ys.length B1 B2 (.bool (decide (i < xs.length))) (.bool (decide (j < ys.length))) w = (xs.length - i) + (ys.length - j) := by
  have e1 : posW w B1 = nxI xs i := by unfold posW; rw [h.r1.c1]; simp
  have e2 : posW w B2 = nxI ys j := by unfold posW; rw [h.r2.c1]; simp
  unfold measD
  rw [e1, e2]
  unfold nxI
  by_cases h1 : i < xs.length <;> by_cases h2 : j < ys.length <;> simp [h1, h2, bitV] <;> omega
/-- what holds at the head of each round -/
def Rel (w : World) (A1 A2 : Option Addr) (c1 c2 : Nat) (xs ys : List Pr) (B1 B2 Ba Bb N : Nat) (l so mo : Value) (wr : World) : Prop :=
  ∃ (i j : Nat) (ls : List It), i ≤ xs.length ∧ j ≤ ys.length ∧ so = .bool (decide (i < xs.length)) ∧ mo = .bool (decide (j < ys.length)) ∧ St w A1 A2 c1 c2 xs ys B1 B2 Ba Bb N wr l ls (nxI xs i) (nxI ys j) (nxP xs i) (nxP ys j) ∧ diffP xs ys = ls ++ diffP (xs.drop i) (ys.drop j)
theorem closeD {w : World} {A1 A2 : Option Addr} {c1 c2 : Nat} {xs ys : List Pr} {B1 B2 Ba Bb N : Nat} {wr : World} {l : Value} {ls : List It} {i j M : Nat} (s : St w A1 A2 c1 c2 xs ys B1 B2 Ba Bb N wr l ls (nxI xs i) (nxI ys j) (nxP xs i) (nxP ys j)) (hi : i ≤ xs.length) (hj : j ≤ ys.length) (hd : diffP xs ys = ls ++ diffP (xs.drop i) (ys.drop j)) (hM : (xs.length - i) + (ys.length - j) < M) :
    Rel w A1 A2 c1 c2 xs ys B1 B2 Ba Bb N l (.bool (decide (i < xs.length))) (.bool (decide (j < ys.length))) wr ∧ measD xs.length ys.length B1 B2 (.bool (decide (i < xs.length))) (.bool (decide (j < ys.length))) wr < M :=
  ⟨⟨i, j, ls, hi, hj, rfl, rfl, s, hd⟩, by rw [measD_eq s.two hi hj]; exact hM⟩
theorem St.below {w : World} {A1 A2 : Option Addr} {c1 c2 : Nat} {xs ys : List Pr} {B1 B2 Ba Bb N : Nat} {wr w1 : World} {l : Value} {ls : List It} {i j : Nat} {a b : Pr} (s : St w A1 A2 c1 c2 xs ys B1 B2 Ba Bb N wr l ls i j a b) (hN : N ≤ w.heap.size) (hb : Below wr.heap.size wr w1) : St w A1 A2 c1 c2 xs ys B1 B2 Ba Bb N w1 l ls i j a b :=
  ⟨own_base' (row := none) s.own (grown_of_below' hb) (fun r h => by cases h), s.two.below hb (Nat.le_refl _), s.ra.below hb (Nat.le_refl _), s.rb.below hb (Nat.le_refl _), s.bel.trans (hb.mono (Nat.le_trans hN s.bel.size))⟩
set_option maxRecDepth 100000 in
set_option maxHeartbeats 4000000 in
theorem differ_any (A1 A2 : Option Addr) (c1 c2 : Nat) (xs ys : List Pr) (B1 B2 : Nat) (w : World) (ht : Two w A1 A2 c1 c2 xs ys B1 B2 0 0) (f : Fix A1 A2 xs ys B1 B2) (N : Nat) (hN1 : N ≤ B1) (hN2 : N ≤ B2) (hk1 : ∀ x ∈ xs, x.1.size ≤ 32) (hk2 : ∀ x ∈ ys, x.1.size ≤ 32) :
    Calls Try.prog 53 #[.func (.func 54) #[.pointer (some ⟨B1, 0, none⟩)] #[], .func (.func 54) #[.pointer (some ⟨B2, 0, none⟩)] #[]] w fun e w' => ∃ v, e = .returned v ∧ w'.ownsRow w.heap.size 74 4 v (diffP xs ys).length (cellsI (diffP xs ys)) ∧ Below N w w' := by
  obtain ⟨i0, hi0, hz0, hz1, hz2⟩ := info_parts infoD
  have J1 := Lib.hid (ht.nx1 f (Nat.zero_le _))
  have HF := Lib.hid f
  have l1 := ht.r1.lt
  have l2 := ht.r2.lt
  have HK1 : Hid (∀ i, i < xs.length → (nxP xs i).1.size ≤ 32) := Lib.hid (fun i h => by rw [nxP_at h]; exact hk1 _ (List.getElem_mem h))
  have HK2 : Hid (∀ i, i < ys.length → (nxP ys i).1.size ≤ 32) := Lib.hid (fun i h => by rw [nxP_at h]; exact hk2 _ (List.getElem_mem h))
  have HP1 : Hid (xs ≠ [] → ∀ a, A1 = some a → a.block < w.heap.size) := Lib.hid (fun z a e => by
    rcases ht.p1 with h | ⟨b, off, h, hl, _⟩
    · exact absurd h z
    · rw [h] at e; cases e; exact hl)
  have HP2 : Hid (ys ≠ [] → ∀ a, A2 = some a → a.block < w.heap.size) := Lib.hid (fun z a e => by
    rcases ht.p2 with h | ⟨b, off, h, hl, _⟩
    · exact absurd h z
    · rw [h] at e; cases e; exact hl)
  have hx4 := f.hx
  have hy4 := f.hy
  clear f ht hk1 hk2
  go_enter Try.func53, Try.ntmps53
  go_wp2_with fail
  refine J1.out.mono ?_
  rintro e w1 ⟨rfl, ht1, hg1⟩
  have ht1' := ht1.below (alloc_below w1 (.cells #[.string (nxP xs 0).1, .string (nxP xs 0).2] 31)) (Nat.le_refl _)
  have J2 := Lib.hid (ht1'.nx2 HF.out (Nat.zero_le _))
  have hsz1 := hg1.size
  have hB1 : Below N w w1 := ⟨hg1.os, hg1.tape, hg1.output, hg1.size, fun k hk => hg1.block k (by omega) (fun e => by cases e; omega)⟩
  have hB1a : Below N w (w1.alloc (.cells #[.string (nxP xs 0).1, .string (nxP xs 0).2] 31)) := hB1.alloc (by omega) _
  have hra := Row2.new w1 31 (.string (nxP xs 0).1) (.string (nxP xs 0).2)
  have HB1 := Lib.hid hB1a
  have HRA := Lib.hid hra
  clear ht1 ht1' hB1 hB1a hra hg1
  go_wp2_with fail
  refine J2.out.mono ?_
  rintro e w2 ⟨rfl, ht2, hg2⟩
  have hsz2 := hg2.size
  have hsz2' : w1.heap.size + 1 ≤ w2.heap.size := by simpa using hsz2
  have HS0 : Hid (St w A1 A2 c1 c2 xs ys B1 B2 w1.heap.size w2.heap.size N (w2.alloc (.cells #[.string (nxP ys 0).1, .string (nxP ys 0).2] 31)) (.slice none 0 0) [] (nxI xs 0) (nxI ys 0) (nxP xs 0) (nxP ys 0)) := Lib.hid
    ⟨World.ownsRow_nil _ _ _ _, ht2.below (alloc_below w2 _) (Nat.le_refl _), (grown_row hg2 HRA.out (fun e => by cases e; omega)).below (alloc_below w2 _) (Nat.le_refl _), Row2.new w2 31 _ _,
      (HB1.out.trans ⟨hg2.os, hg2.tape, hg2.output, hg2.size, fun k hk => hg2.block k (by simp; omega) (fun e => by cases e; omega)⟩).alloc (by omega) _⟩
  have HGeo : Hid (Geo w A1 A2 xs ys B1 B2 w1.heap.size w2.heap.size N) := Lib.hid ⟨HF.out, l1, l2, HP1.out, HP2.out, hsz1, by omega, by omega, hN1, hN2⟩
  have HN : Hid (N ≤ w.heap.size) := Lib.hid (by omega)
  clear ht2 hg2 hsz2
  go_wp2_with fail
  generalize hBa : w1.heap.size = Ba at *
  generalize hBb : w2.heap.size = Bb at *
  go_loopw [5, 7, 9] (fun l so mo wr => Rel w A1 A2 c1 c2 xs ys B1 B2 Ba Bb N l so mo wr) (fun l so mo wr => measD xs.length ys.length B1 B2 so mo wr)
  case atStart => exact ⟨0, 0, [], Nat.zero_le _, Nat.zero_le _, rfl, rfl, HS0.out, rfl⟩
  case round =>
    obtain ⟨i, j, ls, hi1, hj1, rfl, rfl, hs, hd⟩ := hrel
    have HS := Lib.hid hs
    have HD := Lib.hid hd
    have HM := Lib.hid (measD_eq hs.two hi1 hj1)
    have ra0 := hs.ra.c0
    have ra1 := hs.ra.c1
    have rb0 := hs.rb.c0
    have rb1 := hs.rb.c1
    have hls : ls.length ≤ 8000 := by have h := diffP_len xs ys; rw [hd, List.length_append] at h; omega
    clear hs hd
    by_cases hi : i < xs.length
    all_goals by_cases hj : j < ys.length
    · have JO := Lib.hid (fun w => mOrder_any (nxP xs i).1 (nxP ys j).1 w (HK1.out i hi) (HK2.out j hj))
      rw [decide_eq_true hi, decide_eq_true hj] at HM
      simp only [decide_eq_true hi, decide_eq_true hj]
      by_cases hlt : Kl.ord (Kl.L (nxP xs i).1) (Kl.L (nxP ys j).1) < 0
      · have HE : Hid (diffP xs ys = (ls ++ [goneI (nxP xs i)]) ++ diffP (xs.drop (i + 1)) (ys.drop j)) := Lib.hid (by rw [HD.out, d_gone2 hi hj hlt]; simp)
        go_wp2_with fail
        refine (JO.out _).mono ?_
        rintro e w3o ⟨rfl, hbo1⟩
        have S1 := Lib.hid (HS.out.below HN.out hbo1)
        clear hbo1
        have ra01 := S1.out.ra.c0
        have ra11 := S1.out.ra.c1
        have rb01 := S1.out.rb.c0
        have rb11 := S1.out.rb.c1
        rw [show nxI xs i = i + 1 from if_pos hi] at S1
        go_wp2_with ((at_builtin; go_loud (refine wpList_append_own _ rfl (.tmp 63) (.tmp 69) 38 rfl w.heap.size 74 i0 (.agg #[.int .i64 0, .string ⟨#[]⟩, .string ⟨#[]⟩, .string ⟨#[]⟩]) 4 56 Try.underlying38 hi0 hz0 hz1 hz2 rfl (by decide) _ ls.length _ rfl (S1.out.alloc HN.out _).own ⟨w3o.heap.size, 0, none⟩ 1 1 (itC (goneI (nxP xs i))) rfl rfl (newD w3o (goneI (nxP xs i))) (by intro u hu; simp [itC] at hu; rcases hu with rfl | rfl | rfl | rfl <;> rfl) (by unfold maxLen; omega) (by omega) (by have := S1.out.bel.size; simp; omega) ?_; intro v3 w3 hown3 hg3 _; have S3 := Lib.hid ((S1.out.alloc HN.out _).app HGeo.out (x := (goneI (nxP xs i))) hown3 hg3); clear hg3 hown3)))
        have J4 := Lib.hid (S3.out.two.nx1 HGeo.out.f (by omega))
        refine J4.out.mono ?_
        rintro e w4 ⟨rfl, ht4, hg4⟩
        have T4 := Lib.hid (S3.out.went1 HGeo.out ht4 hg4)
        clear ht4 hg4
        have q04 := T4.out.ra.c0
        have q14 := T4.out.ra.c1
        have z04 := T4.out.ra.fz 0
        have z14 := T4.out.ra.fz 1
        have U4 := Lib.hid (T4.out.seta HGeo.out (nxP xs (i + 1)))
        go_wp2_with fail
        have hcl := closeD U4.out (by omega) (by omega) HE.out (M := (xs.length - i) + (ys.length - j)) (by omega)
        rw [decide_eq_true hj] at hcl
        rw [HM.out]
        exact hcl
      by_cases hgt : 0 < Kl.ord (Kl.L (nxP xs i).1) (Kl.L (nxP ys j).1)
      · have HE : Hid (diffP xs ys = (ls ++ [newI (nxP ys j)]) ++ diffP (xs.drop i) (ys.drop (j + 1))) := Lib.hid (by rw [HD.out, d_new2 hi hj hgt]; simp)
        go_wp2_with fail
        refine (JO.out _).mono ?_
        rintro e w2o ⟨rfl, hbo0⟩
        have S0 := Lib.hid (HS.out.below HN.out hbo0)
        clear hbo0
        have ra02 := S0.out.ra.c0
        have ra12 := S0.out.ra.c1
        have rb02 := S0.out.rb.c0
        have rb12 := S0.out.rb.c1
        go_wp2_with fail
        refine (JO.out _).mono ?_
        rintro e w3o ⟨rfl, hbo1⟩
        have S1 := Lib.hid (S0.out.below HN.out hbo1)
        clear hbo1
        have ra01 := S1.out.ra.c0
        have ra11 := S1.out.ra.c1
        have rb01 := S1.out.rb.c0
        have rb11 := S1.out.rb.c1
        rw [show nxI ys j = j + 1 from if_pos hj] at S1
        go_wp2_with ((at_builtin; go_loud (refine wpList_append_own _ rfl (.tmp 87) (.tmp 93) 38 rfl w.heap.size 74 i0 (.agg #[.int .i64 0, .string ⟨#[]⟩, .string ⟨#[]⟩, .string ⟨#[]⟩]) 4 56 Try.underlying38 hi0 hz0 hz1 hz2 rfl (by decide) _ ls.length _ rfl (S1.out.alloc HN.out _).own ⟨w3o.heap.size, 0, none⟩ 1 1 (itC (newI (nxP ys j))) rfl rfl (newD w3o (newI (nxP ys j))) (by intro u hu; simp [itC] at hu; rcases hu with rfl | rfl | rfl | rfl <;> rfl) (by unfold maxLen; omega) (by omega) (by have := S1.out.bel.size; simp; omega) ?_; intro v3 w3 hown3 hg3 _; have S3 := Lib.hid ((S1.out.alloc HN.out _).app HGeo.out (x := (newI (nxP ys j))) hown3 hg3); clear hg3 hown3)))
        have J4 := Lib.hid (S3.out.two.nx2 HGeo.out.f (by omega))
        refine J4.out.mono ?_
        rintro e w4 ⟨rfl, ht4, hg4⟩
        have T4 := Lib.hid (S3.out.went2 HGeo.out ht4 hg4)
        clear ht4 hg4
        have q04 := T4.out.rb.c0
        have q14 := T4.out.rb.c1
        have z04 := T4.out.rb.fz 0
        have z14 := T4.out.rb.fz 1
        have U4 := Lib.hid (T4.out.setb HGeo.out (nxP ys (j + 1)))
        go_wp2_with fail
        have hcl := closeD U4.out (by omega) (by omega) HE.out (M := (xs.length - i) + (ys.length - j)) (by omega)
        rw [decide_eq_true hi] at hcl
        rw [HM.out]
        exact hcl
      have heq : Kl.ord (Kl.L (nxP xs i).1) (Kl.L (nxP ys j).1) = 0 := by omega
      by_cases hv : (nxP xs i).2 = (nxP ys j).2
      · have HE : Hid (diffP xs ys = ls ++ diffP (xs.drop (i + 1)) (ys.drop (j + 1))) := Lib.hid (by rw [HD.out, d_same hi hj heq hv])
        have hv1 := str_beq_eq hv
        rw [heq] at JO
        clear hlt hgt heq
        go_wp2_with fail
        refine (JO.out _).mono ?_
        rintro e w2o ⟨rfl, hbo0⟩
        have S0 := Lib.hid (HS.out.below HN.out hbo0)
        clear hbo0
        have ra02 := S0.out.ra.c0
        have ra12 := S0.out.ra.c1
        have rb02 := S0.out.rb.c0
        have rb12 := S0.out.rb.c1
        go_wp2_with fail
        refine (JO.out _).mono ?_
        rintro e w3o ⟨rfl, hbo1⟩
        have S1 := Lib.hid (S0.out.below HN.out hbo1)
        clear hbo1
        have ra01 := S1.out.ra.c0
        have ra11 := S1.out.ra.c1
        have rb01 := S1.out.rb.c0
        have rb11 := S1.out.rb.c1
        rw [show nxI xs i = i + 1 from if_pos hi] at S1
        rw [show nxI ys j = j + 1 from if_pos hj] at S1
        have HV := Lib.hid hv
        clear hv
        go_wp2_with fail
        have J4 := Lib.hid (S1.out.two.nx1 HGeo.out.f (by omega))
        refine J4.out.mono ?_
        rintro e w4 ⟨rfl, ht4, hg4⟩
        have T4 := Lib.hid (S1.out.went1 HGeo.out ht4 hg4)
        clear ht4 hg4
        have q04 := T4.out.ra.c0
        have q14 := T4.out.ra.c1
        have z04 := T4.out.ra.fz 0
        have z14 := T4.out.ra.fz 1
        have U4 := Lib.hid (T4.out.seta HGeo.out (nxP xs (i + 1)))
        go_wp2_with fail
        have J6 := Lib.hid (U4.out.two.nx2 HGeo.out.f (by omega))
        refine J6.out.mono ?_
        rintro e w6 ⟨rfl, ht4, hg4⟩
        have T6 := Lib.hid (U4.out.went2 HGeo.out ht4 hg4)
        clear ht4 hg4
        have q06 := T6.out.rb.c0
        have q16 := T6.out.rb.c1
        have z06 := T6.out.rb.fz 0
        have z16 := T6.out.rb.fz 1
        have U6 := Lib.hid (T6.out.setb HGeo.out (nxP ys (j + 1)))
        go_wp2_with fail
        have hcl := closeD U6.out (by omega) (by omega) HE.out (M := (xs.length - i) + (ys.length - j)) (by omega)
        rw [HM.out]
        exact hcl
      · have HE : Hid (diffP xs ys = (ls ++ [otherI (nxP xs i) (nxP ys j)]) ++ diffP (xs.drop (i + 1)) (ys.drop (j + 1))) := Lib.hid (by rw [HD.out, d_other hi hj heq hv]; simp)
        have hv1 := str_beq_ne hv
        have hv2 := str_ne hv
        rw [heq] at JO
        clear hlt hgt heq
        go_wp2_with fail
        refine (JO.out _).mono ?_
        rintro e w2o ⟨rfl, hbo0⟩
        have S0 := Lib.hid (HS.out.below HN.out hbo0)
        clear hbo0
        have ra02 := S0.out.ra.c0
        have ra12 := S0.out.ra.c1
        have rb02 := S0.out.rb.c0
        have rb12 := S0.out.rb.c1
        go_wp2_with fail
        refine (JO.out _).mono ?_
        rintro e w3o ⟨rfl, hbo1⟩
        have S1 := Lib.hid (S0.out.below HN.out hbo1)
        clear hbo1
        have ra01 := S1.out.ra.c0
        have ra11 := S1.out.ra.c1
        have rb01 := S1.out.rb.c0
        have rb11 := S1.out.rb.c1
        rw [show nxI xs i = i + 1 from if_pos hi] at S1
        rw [show nxI ys j = j + 1 from if_pos hj] at S1
        have HV := Lib.hid hv
        clear hv
        go_wp2_with ((at_builtin; go_loud (refine wpList_append_own _ rfl (.tmp 29) (.tmp 37) 38 rfl w.heap.size 74 i0 (.agg #[.int .i64 0, .string ⟨#[]⟩, .string ⟨#[]⟩, .string ⟨#[]⟩]) 4 56 Try.underlying38 hi0 hz0 hz1 hz2 rfl (by decide) _ ls.length _ rfl (S1.out.alloc HN.out _).own ⟨w3o.heap.size, 0, none⟩ 1 1 (itC (otherI (nxP xs i) (nxP ys j))) rfl rfl (newD w3o (otherI (nxP xs i) (nxP ys j))) (by intro u hu; simp [itC] at hu; rcases hu with rfl | rfl | rfl | rfl <;> rfl) (by unfold maxLen; omega) (by omega) (by have := S1.out.bel.size; simp; omega) ?_; intro v3 w3 hown3 hg3 _; have S3 := Lib.hid ((S1.out.alloc HN.out _).app HGeo.out (x := (otherI (nxP xs i) (nxP ys j))) hown3 hg3); clear hg3 hown3)))
        have J4 := Lib.hid (S3.out.two.nx1 HGeo.out.f (by omega))
        refine J4.out.mono ?_
        rintro e w4 ⟨rfl, ht4, hg4⟩
        have T4 := Lib.hid (S3.out.went1 HGeo.out ht4 hg4)
        clear ht4 hg4
        have q04 := T4.out.ra.c0
        have q14 := T4.out.ra.c1
        have z04 := T4.out.ra.fz 0
        have z14 := T4.out.ra.fz 1
        have U4 := Lib.hid (T4.out.seta HGeo.out (nxP xs (i + 1)))
        go_wp2_with fail
        have J6 := Lib.hid (U4.out.two.nx2 HGeo.out.f (by omega))
        refine J6.out.mono ?_
        rintro e w6 ⟨rfl, ht4, hg4⟩
        have T6 := Lib.hid (U4.out.went2 HGeo.out ht4 hg4)
        clear ht4 hg4
        have q06 := T6.out.rb.c0
        have q16 := T6.out.rb.c1
        have z06 := T6.out.rb.fz 0
        have z16 := T6.out.rb.fz 1
        have U6 := Lib.hid (T6.out.setb HGeo.out (nxP ys (j + 1)))
        go_wp2_with fail
        have hcl := closeD U6.out (by omega) (by omega) HE.out (M := (xs.length - i) + (ys.length - j)) (by omega)
        rw [HM.out]
        exact hcl
    · have HE : Hid (diffP xs ys = (ls ++ [goneI (nxP xs i)]) ++ diffP (xs.drop (i + 1)) (ys.drop j)) := Lib.hid (by rw [HD.out, d_gone1 hi hj]; simp)
      rw [show nxI xs i = i + 1 from if_pos hi] at HS
      rw [decide_eq_true hi, decide_eq_false hj] at HM
      simp only [decide_eq_true hi, decide_eq_false hj]
      go_wp2_with ((at_builtin; go_loud (refine wpList_append_own _ rfl (.tmp 63) (.tmp 69) 38 rfl w.heap.size 74 i0 (.agg #[.int .i64 0, .string ⟨#[]⟩, .string ⟨#[]⟩, .string ⟨#[]⟩]) 4 56 Try.underlying38 hi0 hz0 hz1 hz2 rfl (by decide) _ ls.length _ rfl (HS.out.alloc HN.out _).own ⟨wr.heap.size, 0, none⟩ 1 1 (itC (goneI (nxP xs i))) rfl rfl (newD wr (goneI (nxP xs i))) (by intro u hu; simp [itC] at hu; rcases hu with rfl | rfl | rfl | rfl <;> rfl) (by unfold maxLen; omega) (by omega) (by have := HS.out.bel.size; simp; omega) ?_; intro v3 w3 hown3 hg3 _; have S3 := Lib.hid ((HS.out.alloc HN.out _).app HGeo.out (x := (goneI (nxP xs i))) hown3 hg3); clear hg3 hown3)))
      have J4 := Lib.hid (S3.out.two.nx1 HGeo.out.f (by omega))
      refine J4.out.mono ?_
      rintro e w4 ⟨rfl, ht4, hg4⟩
      have T4 := Lib.hid (S3.out.went1 HGeo.out ht4 hg4)
      clear ht4 hg4
      have q04 := T4.out.ra.c0
      have q14 := T4.out.ra.c1
      have z04 := T4.out.ra.fz 0
      have z14 := T4.out.ra.fz 1
      have U4 := Lib.hid (T4.out.seta HGeo.out (nxP xs (i + 1)))
      go_wp2_with fail
      have hcl := closeD U4.out (by omega) (by omega) HE.out (M := (xs.length - i) + (ys.length - j)) (by omega)
      rw [decide_eq_false hj] at hcl
      rw [HM.out]
      exact hcl
    · have HE : Hid (diffP xs ys = (ls ++ [newI (nxP ys j)]) ++ diffP (xs.drop i) (ys.drop (j + 1))) := Lib.hid (by rw [HD.out, d_new1 hi hj]; simp)
      rw [show nxI ys j = j + 1 from if_pos hj] at HS
      rw [decide_eq_false hi, decide_eq_true hj] at HM
      simp only [decide_eq_false hi, decide_eq_true hj]
      go_wp2_with ((at_builtin; go_loud (refine wpList_append_own _ rfl (.tmp 87) (.tmp 93) 38 rfl w.heap.size 74 i0 (.agg #[.int .i64 0, .string ⟨#[]⟩, .string ⟨#[]⟩, .string ⟨#[]⟩]) 4 56 Try.underlying38 hi0 hz0 hz1 hz2 rfl (by decide) _ ls.length _ rfl (HS.out.alloc HN.out _).own ⟨wr.heap.size, 0, none⟩ 1 1 (itC (newI (nxP ys j))) rfl rfl (newD wr (newI (nxP ys j))) (by intro u hu; simp [itC] at hu; rcases hu with rfl | rfl | rfl | rfl <;> rfl) (by unfold maxLen; omega) (by omega) (by have := HS.out.bel.size; simp; omega) ?_; intro v3 w3 hown3 hg3 _; have S3 := Lib.hid ((HS.out.alloc HN.out _).app HGeo.out (x := (newI (nxP ys j))) hown3 hg3); clear hg3 hown3)))
      have J4 := Lib.hid (S3.out.two.nx2 HGeo.out.f (by omega))
      refine J4.out.mono ?_
      rintro e w4 ⟨rfl, ht4, hg4⟩
      have T4 := Lib.hid (S3.out.went2 HGeo.out ht4 hg4)
      clear ht4 hg4
      have q04 := T4.out.rb.c0
      have q14 := T4.out.rb.c1
      have z04 := T4.out.rb.fz 0
      have z14 := T4.out.rb.fz 1
      have U4 := Lib.hid (T4.out.setb HGeo.out (nxP ys (j + 1)))
      go_wp2_with fail
      have hcl := closeD U4.out (by omega) (by omega) HE.out (M := (xs.length - i) + (ys.length - j)) (by omega)
      rw [decide_eq_false hi] at hcl
      rw [HM.out]
      exact hcl
    · have HE : Hid (diffP xs ys = ls) := Lib.hid (by rw [HD.out, d_end hi hj, List.append_nil])
      simp only [decide_eq_false hi, decide_eq_false hj]
      go_wp2_with fail
      go_ret
      exact ⟨_, rfl, by rw [HE.out]; exact HS.out.own, HS.out.bel⟩
end Go.Proofs.Ytbgpcmpbfenplaa.KK
