/-
  RunsEnds: the walk.
-/
import Derived.Test.YtjnbdeahmbkbnaaRs
namespace Go.Proofs.Ytjnbdeahmbkbnaa.KK
open Go.ChangeShapes Go.WideShapes Go.ChangeAt Go.RowKit Go.Proofs

set_option maxRecDepth 100000 in
set_option maxHeartbeats 16000000 in
theorem Ends8_any (id : Int) (A : Option Addr) (c : Nat) (xs : List El.En) (key : ByteArray) (w : World) (hf : EsAt w A xs) (hn : xs.length ≤ 9223372036854775807) (hs : Sized xs) (hcap : xs.length ≤ c) (hnil : A = none → c = 0) (hz : key.size ≤ 9223372036854775807) :
    Calls Try.prog 8 #[.agg #[.int .i64 id, .slice A xs.length c], .string key] w fun e w' => e = .returned (.bool true) ∧ Below w.heap.size w w' := by
  have HX := boxU id A xs.length c w
  obtain ⟨x0, x1, x2, x3⟩ := HX.out _ (Below.refl _ _)
  have HB := Lib.hid x3
  have JF := Lib.hid (fun w1 (h : Below w.heap.size w w1) => far8_any id A c xs w1 (hf.below h (Nat.le_refl _)) hn hs)
  have JW := Lib.hid (fun w => awake8_any w)
  have JK := Lib.hid (fun w => rCheck_any key w hz)
  clear x2 x3
  cases hfar : farF xs with
  | true =>
    rw [hfar] at JF
    clear hfar hf hs hcap hnil
    generalize xs.length = n at *
    go_enter Try.func8, Try.ntmps8
    go_wp2_with fail
    refine (JF.out _ HB.out).mono ?_
    rintro e w0 ⟨rfl, hb⟩
    have HC0 := Lib.hid hb
    obtain ⟨y0, y1, y2, y3⟩ := HX.out _ hb
    have HB0 := Lib.hid y3
    clear hb x0 x1 y3
    go_wp2_with fail
    refine (JW.out _).mono ?_
    rintro e w9 ⟨rfl, hb⟩
    have HB9 := Lib.hid (eb_of HB0.out hb (Nat.le_refl _))
    clear hb
    go_wp2_with fail
    go_ret
    exact ⟨by first | rfl | (simp; done), HB9.out⟩
  | false =>
  have hl5 := far_len hfar
  rw [hfar] at JF
  clear hfar
  by_cases hk : 100 < key.size
  · have hk' : (100 : Int) < (key.size : Int) := by omega
    clear hk hf hs hcap hnil hl5
    generalize xs.length = n at *
    go_enter Try.func8, Try.ntmps8
    go_wp2_with fail
    refine (JF.out _ HB.out).mono ?_
    rintro e w0 ⟨rfl, hb⟩
    have HC0 := Lib.hid hb
    obtain ⟨y0, y1, y2, y3⟩ := HX.out _ hb
    have HB0 := Lib.hid y3
    clear hb x0 x1 y3
    go_wp2_with fail
    refine (JW.out _).mono ?_
    rintro e w9 ⟨rfl, hb⟩
    have HB9 := Lib.hid (eb_of HB0.out hb (Nat.le_refl _))
    clear hb
    go_wp2_with fail
    go_ret
    exact ⟨by first | rfl | (simp; done), HB9.out⟩
  have hk' : ¬ (100 : Int) < (key.size : Int) := by omega
  by_cases hk32 : key.size ≤ 32
  rotate_left
  · rw [chk1_no hk32] at JK
    clear hk hf hs hcap hnil hl5 hk32
    generalize xs.length = n at *
    go_enter Try.func8, Try.ntmps8
    go_wp2_with fail
    refine (JF.out _ HB.out).mono ?_
    rintro e w0 ⟨rfl, hb⟩
    have HC0 := Lib.hid hb
    obtain ⟨y0, y1, y2, y3⟩ := HX.out _ hb
    have HB0 := Lib.hid y3
    clear hb x0 x1 y3
    go_wp2_with fail
    refine (JK.out _).mono ?_
    rintro e w1 ⟨rfl, rfl⟩
    go_wp2_with fail
    refine (JW.out _).mono ?_
    rintro e w9 ⟨rfl, hb⟩
    have HB9 := Lib.hid (eb_of HB0.out hb (Nat.le_refl _))
    clear hb
    go_wp2_with fail
    go_ret
    exact ⟨by first | rfl | (simp; done), HB9.out⟩
  rw [chk1_ok hk32] at JK
  have hn5 : xs.length ≤ 4294967295 := by omega
  have JN : Hid (∀ w1, Calls Try.prog 33 #[.string key] w1 fun e w' => e = .returned (.tuple #[.string (nxS key), .int .i64 (nxE key)]) ∧ Below w1.heap.size w1 w') := Lib.hid (fun w1 => rNext_any key w1 hz)
  have hnx : (nxS key).size ≤ 32 := by
    rcases nx_case hk32 with ⟨_, h⟩ | ⟨_, h, _⟩ <;> exact h
  have JP := fun (lo : ByteArray) (hlo : lo.size ≤ 32) w1 (h : Below w.heap.size w w1) => pPart8_any id A c xs lo ⟨#[]⟩ false w1 (hf.below h (Nat.le_refl _)) hn5 hs hcap hnil (by omega) (by decide)
  have JQ := fun (hi : ByteArray) (hhi : hi.size ≤ 32) w1 (h : Below w.heap.size w w1) => pPart8_any id A c xs ⟨#[]⟩ hi true w1 (hf.below h (Nat.le_refl _)) hn5 hs hcap hnil (by decide) (by omega)
  have JD := fun (st : Bool) w1 (h : Below w.heap.size w w1) => pFloor8_any id A c xs key st w1 (hf.below h (Nat.le_refl _)) hn5 hs hcap hnil hz
  have JU := fun (st : Bool) w1 (h : Below w.heap.size w w1) => pCeil8_any id A c xs key st w1 (hf.below h (Nat.le_refl _)) hn5 hs hcap hnil hz
  by_cases hr : (runE id xs).2 = 0
  rotate_left
  · have JP0 := Lib.hid (JP key hk32)
    have JQ0 := Lib.hid (JQ key hk32)
    have JU0 := Lib.hid (JU false)
    have JD0 := Lib.hid (JD true)
    have ha : askR id xs key ≠ 0 := by rw [askR_no hr]; exact hr
    rw [partR_no hr] at JP0 JQ0
    rw [ceilR_no ha, askR_no hr] at JU0
    rw [floorR_no ha, askR_no hr] at JD0
    dsimp only at JP0 JQ0
    rw [show entV (El.none, (runE id xs).2) = .tuple #[.agg #[.string ⟨#[]⟩, .string ⟨#[]⟩, .bool false, .int .i64 0], .int .i64 (runE id xs).2] from rfl] at JU0 JD0
    obtain ⟨b1, b2⟩ := ne_b hr
    clear JP JQ JD JU hf hs hcap hnil hl5 ha hr hn5
    generalize (runE id xs).2 = r at *
    generalize xs.length = n at *
    generalize nxS key = nk at *
    generalize nxE key = ne at *
    go_enter Try.func8, Try.ntmps8
    go_wp2_with fail
    refine (JF.out _ HB.out).mono ?_
    rintro e w0 ⟨rfl, hb⟩
    have HC0 := Lib.hid hb
    obtain ⟨y0, y1, y2, y3⟩ := HX.out _ hb
    have HB0 := Lib.hid y3
    clear hb x0 x1 y3
    go_wp2_with fail
    refine (JK.out _).mono ?_
    rintro e w1 ⟨rfl, rfl⟩
    go_wp2_with fail
    refine (JN.out _).mono ?_
    rintro e w2 ⟨rfl, hb⟩
    have HC2 := Lib.hid (eb_of HC0.out hb (Nat.le_refl _))
    clear hb y0 y1 y2
    go_wp2_with fail
    go_loopw [7, 8, 9, 10, 11, 12, 13, 14, 15, 16, 17, 18] (fun i _ _ _ _ _ _ _ _ _ _ _ wr => i = .int .i64 0 ∧ Below (w.alloc (.cells #[.int .i64 id, .slice A n c] 24)).heap.size (w.alloc (.cells #[.int .i64 id, .slice A n c] 24)) wr) (fun i _ _ _ _ _ _ _ _ _ _ _ _ => 0)
    case atStart => exact ⟨rfl, HC2.out⟩
    case round =>
      obtain ⟨rfl, hb⟩ := hrel
      have HC3 := Lib.hid hb
      clear hb
      obtain ⟨y0, y1, y2, y3⟩ := HX.out _ HC3.out
      have HB3 := Lib.hid y3
      clear y3
      go_wp2_with fail
      refine (JP0.out _ HB3.out).mono ?_
      rintro e w4 ⟨rfl, hb⟩
      have HC4 := Lib.hid (eb_of HC3.out hb (Nat.le_refl _))
      clear hb y0 y1 y2
      obtain ⟨y0, y1, y2, y3⟩ := HX.out _ HC4.out
      have HB4 := Lib.hid y3
      clear y3
      go_wp2_with fail
      refine (JQ0.out _ HB4.out).mono ?_
      rintro e w5 ⟨rfl, hb⟩
      have HC5 := Lib.hid (eb_of HC4.out hb (Nat.le_refl _))
      clear hb y0 y1 y2
      obtain ⟨y0, y1, y2, y3⟩ := HX.out _ HC5.out
      have HB5 := Lib.hid y3
      clear y3
      go_wp2_with fail
      refine (JU0.out _ HB5.out).mono ?_
      rintro e w6 ⟨rfl, hb⟩
      have HC6 := Lib.hid (eb_of HC5.out hb (Nat.le_refl _))
      clear hb y0 y1 y2
      have hbx := alloc_below w6 (.cells #[.string ⟨#[]⟩, .string ⟨#[]⟩, .bool false, .int .i64 0] 31)
      have HC7 := Lib.hid (eb_of HC6.out hbx (Nat.le_refl _))
      have RU7 := Lib.hid (Row4.new w6 31 (.string ⟨#[]⟩) (.string ⟨#[]⟩) (.bool false) (.int .i64 0))
      clear hbx
      obtain ⟨y0, y1, y2, y3⟩ := HX.out _ HC7.out
      have HB7 := Lib.hid y3
      clear y3
      go_wp2_with fail
      refine (JD0.out _ HB7.out).mono ?_
      rintro e w8 ⟨rfl, hb⟩
      have HC8 := Lib.hid (eb_of HC7.out hb (Nat.le_refl _))
      have RU8 := Lib.hid (RU7.out.below hb (Nat.le_refl _))
      clear hb y0 y1 y2
      have hbx := alloc_below w8 (.cells #[.string ⟨#[]⟩, .string ⟨#[]⟩, .bool false, .int .i64 0] 31)
      have HC9 := Lib.hid (eb_of HC8.out hbx (Nat.le_refl _))
      have RU9 := Lib.hid (RU8.out.below hbx (Nat.le_refl _))
      have RD9 := Lib.hid (Row4.new w8 31 (.string ⟨#[]⟩) (.string ⟨#[]⟩) (.bool false) (.int .i64 0))
      clear hbx
      obtain ⟨y0, y1, y2, y3⟩ := HX.out _ HC9.out
      have HB9 := Lib.hid y3
      clear y3
      go_wp2_with fail
      refine (JW.out _).mono ?_
      rintro e w9 ⟨rfl, hb⟩
      have HB10 := Lib.hid (eb_of HB9.out hb (Nat.le_refl _))
      clear hb
      go_wp2_with fail
      go_ret
      exact ⟨by first | rfl | (simp; done), HB10.out⟩
  have E0 := end0 (key := key) hr hk32
  have hne : nxE key = 9 ∨ nxE key = 0 := by rcases nx_case hk32 with ⟨h, _⟩ | ⟨h, _⟩; exact .inl h; exact .inr h
  have E1 := Lib.hid (fun h0 : nxE key = 0 => end1 (key := key) hr hk32 h0)
  obtain ⟨hl, _, _⟩ := run_ok hr
  have HF := Lib.hid hf
  have JP0 := Lib.hid (JP key hk32)
  have JQ0 := Lib.hid (JQ key hk32)
  have JU0 := Lib.hid (JU false)
  have JD0 := Lib.hid (JD true)
  have JP1 := Lib.hid (JP (nxS key) hnx)
  have JQ1 := Lib.hid (JQ (nxS key) hnx)
  have JU1 := Lib.hid (JU true)
  have JD1 := Lib.hid (JD false)
  rw [E0.low] at JP0
  rw [E0.high] at JQ0
  dsimp only at JP0 JQ0
  have E0H := Lib.hid E0
  clear JP JQ JD JU hf hs hcap hnil hl5 hn5 E0 hnx
  generalize befN xs key false = P0 at *
  generalize hP1 : befN xs key true = P1 at *
  clear hP1
  go_enter Try.func8, Try.ntmps8
  go_wp2_with fail
  refine (JF.out _ HB.out).mono ?_
  rintro e w0 ⟨rfl, hb⟩
  have HC0 := Lib.hid hb
  obtain ⟨y0, y1, y2, y3⟩ := HX.out _ hb
  have HB0 := Lib.hid y3
  clear hb x0 x1 y3
  go_wp2_with fail
  refine (JK.out _).mono ?_
  rintro e w1 ⟨rfl, rfl⟩
  go_wp2_with fail
  refine (JN.out _).mono ?_
  rintro e w2 ⟨rfl, hb⟩
  have HC2 := Lib.hid (eb_of HC0.out hb (Nat.le_refl _))
  clear hb y0 y1 y2
  go_wp2_with fail
  go_loopw [7, 8, 9, 10, 11, 12, 13, 14, 15, 16, 17, 18] (fun i _ _ _ _ _ _ _ _ _ _ _ wr => ∃ k : Nat, k ≤ 2 ∧ i = .int .i64 k ∧ Below (w.alloc (.cells #[.int .i64 id, .slice A xs.length c] 24)).heap.size (w.alloc (.cells #[.int .i64 id, .slice A xs.length c] 24)) wr) (fun i _ _ _ _ _ _ _ _ _ _ _ _ => 2 - (intOf i).toNat)
  case atStart => exact ⟨0, by omega, rfl, HC2.out⟩
  case round =>
    obtain ⟨k, hk2, rfl, hb⟩ := hrel
    have HC3 := Lib.hid hb
    clear hb
    have hkc : k = 0 ∨ k = 1 ∨ k = 2 := by omega
    clear hk2
    rcases hkc with rfl | rfl | rfl
    · clear JP1 JQ1 JU1 JD1 E1
      have E := E0H
      have EU := E.out.up
      have ED := E.out.dn
      have ES := E.out.ds
      have EL := E.out.le
      rw [Bool.not_false] at ED ES
      clear E
      by_cases hup : P0 < xs.length
      · rw [dif_pos hup] at EU
        rw [EU] at JU0
        obtain ⟨b, off, rfl, hbl, hc⟩ : ∃ b off, A = some ⟨b, off, none⟩ ∧ b < w.heap.size ∧ ∀ (i : Nat) (h : i < xs.length), w.cell? ⟨b, off + i * 4, none⟩ = some (.string xs[i].1) ∧ w.cell? ⟨b, off + i * 4 + 1, none⟩ = some (.string xs[i].2.1) ∧ w.cell? ⟨b, off + i * 4 + 2, none⟩ = some (.bool xs[i].2.2.1) ∧ w.cell? ⟨b, off + i * 4 + 3, none⟩ = some (.int .i64 xs[i].2.2.2) := by
          rcases HF.out with h | h
          · subst h; simp at hup
          · exact h
        have HV := Lib.hid (hc P0 hup)
        cases hp : P0 with
        | zero =>
          rw [ED hp] at JD0
          rw [hp] at JP0 JQ0
          have HV1 := HV.out
          generalize hv : xs[P0] = v at HV1 JU0
          obtain ⟨vk, vv, vd, vq⟩ := v
          have HVC := Lib.hid HV1
          rw [show entV ((vk, vv, vd, vq), 0) = .tuple #[.agg #[.string vk, .string vv, .bool vd, .int .i64 vq], .int .i64 0] from rfl] at JU0
          rw [show entV (El.none, 4) = .tuple #[.agg #[.string ⟨#[]⟩, .string ⟨#[]⟩, .bool false, .int .i64 0], .int .i64 4] from rfl] at JD0
          rw [hp] at EL hup
          rw [hp] at HVC
          simp only [Nat.zero_mul, Nat.add_zero] at HVC
          have HVW : Hid (∀ w', Below w.heap.size w w' → w'.cell? ⟨b, off, none⟩ = some (.string vk) ∧ w'.cell? ⟨b, off + 1, none⟩ = some (.string vv) ∧ w'.cell? ⟨b, off + 2, none⟩ = some (.bool vd) ∧ w'.cell? ⟨b, off + 3, none⟩ = some (.int .i64 vq)) := Lib.hid (fun w' h => by
            have e : ∀ o, w'.cell? ⟨b, o, none⟩ = w.cell? ⟨b, o, none⟩ := fun o => h.cell (p := ⟨b, o, none⟩) hbl
            rw [e, e, e, e]; exact HVC.out)
          clear EU ED ES HF hp HV HV1 hv HVC hc hbl
          obtain ⟨n, hnn⟩ : ∃ n, xs.length = n := ⟨_, rfl⟩
          clear hnn
          have hq1 : (0 : Int) < (xs.length : Int) := by omega
          obtain ⟨y0, y1, y2, y3⟩ := HX.out _ HC3.out
          have HB3 := Lib.hid y3
          clear y3
          go_wp2_with fail
          refine (JP0.out _ HB3.out).mono ?_
          rintro e w4 ⟨rfl, hb⟩
          have HC4 := Lib.hid (eb_of HC3.out hb (Nat.le_refl _))
          clear hb y0 y1 y2
          obtain ⟨y0, y1, y2, y3⟩ := HX.out _ HC4.out
          have HB4 := Lib.hid y3
          clear y3
          go_wp2_with fail
          refine (JQ0.out _ HB4.out).mono ?_
          rintro e w5 ⟨rfl, hb⟩
          have HC5 := Lib.hid (eb_of HC4.out hb (Nat.le_refl _))
          clear hb y0 y1 y2
          obtain ⟨y0, y1, y2, y3⟩ := HX.out _ HC5.out
          have HB5 := Lib.hid y3
          clear y3
          go_wp2_with fail
          refine (JU0.out _ HB5.out).mono ?_
          rintro e w6 ⟨rfl, hb⟩
          have HC6 := Lib.hid (eb_of HC5.out hb (Nat.le_refl _))
          clear hb y0 y1 y2
          have hbx := alloc_below w6 (.cells #[.string vk, .string vv, .bool vd, .int .i64 vq] 31)
          have HC7 := Lib.hid (eb_of HC6.out hbx (Nat.le_refl _))
          have RU7 := Lib.hid (Row4.new w6 31 (.string vk) (.string vv) (.bool vd) (.int .i64 vq))
          clear hbx
          obtain ⟨y0, y1, y2, y3⟩ := HX.out _ HC7.out
          have HB7 := Lib.hid y3
          clear y3
          go_wp2_with fail
          refine (JD0.out _ HB7.out).mono ?_
          rintro e w8 ⟨rfl, hb⟩
          have HC8 := Lib.hid (eb_of HC7.out hb (Nat.le_refl _))
          have RU8 := Lib.hid (RU7.out.below hb (Nat.le_refl _))
          clear hb y0 y1 y2
          have hbx := alloc_below w8 (.cells #[.string ⟨#[]⟩, .string ⟨#[]⟩, .bool false, .int .i64 0] 31)
          have HC9 := Lib.hid (eb_of HC8.out hbx (Nat.le_refl _))
          have RU9 := Lib.hid (RU8.out.below hbx (Nat.le_refl _))
          have RD9 := Lib.hid (Row4.new w8 31 (.string ⟨#[]⟩) (.string ⟨#[]⟩) (.bool false) (.int .i64 0))
          clear hbx
          obtain ⟨y0, y1, y2, y3⟩ := HX.out _ HC9.out
          have HB9 := Lib.hid y3
          clear y3
          have ru0 := RU9.out.c0
          have ru1 := RU9.out.c1
          have ru2 := RU9.out.c2
          have ru3 := RU9.out.c3
          have rd0 := RD9.out.c0
          have rd1 := RD9.out.c1
          have rd2 := RD9.out.c2
          have rd3 := RD9.out.c3
          obtain ⟨vc0, vc1, vc2, vc3⟩ := HVW.out _ HB9.out
          have aru0 := abv_c ru0
          have aru1 := abv_c ru1
          have aru2 := abv_c ru2
          have aru3 := abv_c ru3
          have ard0 := abv_c rd0
          have ard1 := abv_c rd1
          have ard2 := abv_c rd2
          have ard3 := abv_c rd3
          have avc0 := abv_c vc0
          have avc1 := abv_c vc1
          have avc2 := abv_c vc2
          have avc3 := abv_c vc3
          have ay0 := abv_c y0
          have ay1 := abv_c y1
          go_wp2_with fail
          refine wp_region_abv (by first | assumption | kernel_rfl) (by kernel_rfl) ?_
          repeat (first | go_big_quiet_step (fail) | quiet_step (fail))
          refine wpQuiet_nil ?_
          intro w10 hw10
          obtain ⟨p1, rfl⟩ := hw10
          have HC10 := Lib.hid (eb_of HC9.out p1.h (Nat.le_refl _))
          clear aru0 aru1 aru2 aru3 ard0 ard1 ard2 ard3 avc0 avc1 avc2 avc3 ay0 ay1 ru0 ru1 ru2 ru3 rd0 rd1 rd2 rd3 vc0 vc1 vc2 vc3 y0 y1 y2
          go_wp2_with fail
          go_roundw
          case rel => exact ⟨1, by omega, by go_num, HC10.out⟩
          case measure => simp [intOf]; try omega
        | succ j =>
          obtain ⟨gj, ej⟩ := ES j hp
          rw [ej] at JD0
          rw [hp] at JP0 JQ0
          have HU := Lib.hid (hc j gj)
          have HV1 := HV.out
          generalize hv : xs[P0] = v at HV1 JU0
          obtain ⟨vk, vv, vd, vq⟩ := v
          have HVC := Lib.hid HV1
          rw [show entV ((vk, vv, vd, vq), 0) = .tuple #[.agg #[.string vk, .string vv, .bool vd, .int .i64 vq], .int .i64 0] from rfl] at JU0
          have HU1 := HU.out
          generalize hu : xs[j] = u at HU1 JD0
          obtain ⟨uk, uv, ud, uq⟩ := u
          have HUC := Lib.hid HU1
          rw [show entV ((uk, uv, ud, uq), 0) = .tuple #[.agg #[.string uk, .string uv, .bool ud, .int .i64 uq], .int .i64 0] from rfl] at JD0
          rw [hp] at EL hup
          rw [hp] at HVC
          have HVW : Hid (∀ w', Below w.heap.size w w' → w'.cell? ⟨b, off + (j + 1) * 4, none⟩ = some (.string vk) ∧ w'.cell? ⟨b, off + (j + 1) * 4 + 1, none⟩ = some (.string vv) ∧ w'.cell? ⟨b, off + (j + 1) * 4 + 2, none⟩ = some (.bool vd) ∧ w'.cell? ⟨b, off + (j + 1) * 4 + 3, none⟩ = some (.int .i64 vq)) := Lib.hid (fun w' h => by
            have e : ∀ o, w'.cell? ⟨b, o, none⟩ = w.cell? ⟨b, o, none⟩ := fun o => h.cell (p := ⟨b, o, none⟩) hbl
            rw [e, e, e, e]; exact HVC.out)
          have HUW : Hid (∀ w', Below w.heap.size w w' → w'.cell? ⟨b, off + j * 4, none⟩ = some (.string uk) ∧ w'.cell? ⟨b, off + j * 4 + 1, none⟩ = some (.string uv) ∧ w'.cell? ⟨b, off + j * 4 + 2, none⟩ = some (.bool ud) ∧ w'.cell? ⟨b, off + j * 4 + 3, none⟩ = some (.int .i64 uq)) := Lib.hid (fun w' h => by
            have e : ∀ o, w'.cell? ⟨b, o, none⟩ = w.cell? ⟨b, o, none⟩ := fun o => h.cell (p := ⟨b, o, none⟩) hbl
            rw [e, e, e, e]; exact HUC.out)
          clear EU ED ES HF hp HV HV1 hv HVC HU HU1 hu HUC gj ej hc hbl
          obtain ⟨n, hnn⟩ : ∃ n, xs.length = n := ⟨_, rfl⟩
          clear hnn
          have hq1 : ((j : Int) + 1) < (xs.length : Int) := by omega
          have hj0 : (0 : Int) ≤ (j : Int) := by omega
          have hjn : (j : Int) < (xs.length : Int) := by omega
          have hj1 : (j : Int) + 1 - 1 = (j : Int) := by omega
          obtain ⟨y0, y1, y2, y3⟩ := HX.out _ HC3.out
          have HB3 := Lib.hid y3
          clear y3
          go_wp2_with fail
          refine (JP0.out _ HB3.out).mono ?_
          rintro e w4 ⟨rfl, hb⟩
          have HC4 := Lib.hid (eb_of HC3.out hb (Nat.le_refl _))
          clear hb y0 y1 y2
          obtain ⟨y0, y1, y2, y3⟩ := HX.out _ HC4.out
          have HB4 := Lib.hid y3
          clear y3
          go_wp2_with fail
          refine (JQ0.out _ HB4.out).mono ?_
          rintro e w5 ⟨rfl, hb⟩
          have HC5 := Lib.hid (eb_of HC4.out hb (Nat.le_refl _))
          clear hb y0 y1 y2
          obtain ⟨y0, y1, y2, y3⟩ := HX.out _ HC5.out
          have HB5 := Lib.hid y3
          clear y3
          go_wp2_with fail
          refine (JU0.out _ HB5.out).mono ?_
          rintro e w6 ⟨rfl, hb⟩
          have HC6 := Lib.hid (eb_of HC5.out hb (Nat.le_refl _))
          clear hb y0 y1 y2
          have hbx := alloc_below w6 (.cells #[.string vk, .string vv, .bool vd, .int .i64 vq] 31)
          have HC7 := Lib.hid (eb_of HC6.out hbx (Nat.le_refl _))
          have RU7 := Lib.hid (Row4.new w6 31 (.string vk) (.string vv) (.bool vd) (.int .i64 vq))
          clear hbx
          obtain ⟨y0, y1, y2, y3⟩ := HX.out _ HC7.out
          have HB7 := Lib.hid y3
          clear y3
          go_wp2_with fail
          refine (JD0.out _ HB7.out).mono ?_
          rintro e w8 ⟨rfl, hb⟩
          have HC8 := Lib.hid (eb_of HC7.out hb (Nat.le_refl _))
          have RU8 := Lib.hid (RU7.out.below hb (Nat.le_refl _))
          clear hb y0 y1 y2
          have hbx := alloc_below w8 (.cells #[.string uk, .string uv, .bool ud, .int .i64 uq] 31)
          have HC9 := Lib.hid (eb_of HC8.out hbx (Nat.le_refl _))
          have RU9 := Lib.hid (RU8.out.below hbx (Nat.le_refl _))
          have RD9 := Lib.hid (Row4.new w8 31 (.string uk) (.string uv) (.bool ud) (.int .i64 uq))
          clear hbx
          obtain ⟨y0, y1, y2, y3⟩ := HX.out _ HC9.out
          have HB9 := Lib.hid y3
          clear y3
          have ru0 := RU9.out.c0
          have ru1 := RU9.out.c1
          have ru2 := RU9.out.c2
          have ru3 := RU9.out.c3
          have rd0 := RD9.out.c0
          have rd1 := RD9.out.c1
          have rd2 := RD9.out.c2
          have rd3 := RD9.out.c3
          obtain ⟨vc0, vc1, vc2, vc3⟩ := HVW.out _ HB9.out
          obtain ⟨uc0, uc1, uc2, uc3⟩ := HUW.out _ HB9.out
          have aru0 := abv_c ru0
          have aru1 := abv_c ru1
          have aru2 := abv_c ru2
          have aru3 := abv_c ru3
          have ard0 := abv_c rd0
          have ard1 := abv_c rd1
          have ard2 := abv_c rd2
          have ard3 := abv_c rd3
          have avc0 := abv_c vc0
          have avc1 := abv_c vc1
          have avc2 := abv_c vc2
          have avc3 := abv_c vc3
          have auc0 := abv_c uc0
          have auc1 := abv_c uc1
          have auc2 := abv_c uc2
          have auc3 := abv_c uc3
          have ay0 := abv_c y0
          have ay1 := abv_c y1
          go_wp2_with fail
          refine wp_region_abv (by first | assumption | kernel_rfl) (by kernel_rfl) ?_
          repeat (first | go_big_quiet_step (fail) | quiet_step (fail))
          refine wpQuiet_nil ?_
          intro w10 hw10
          obtain ⟨p1, rfl⟩ := hw10
          have HC10 := Lib.hid (eb_of HC9.out p1.h (Nat.le_refl _))
          clear aru0 aru1 aru2 aru3 ard0 ard1 ard2 ard3 avc0 avc1 avc2 avc3 auc0 auc1 auc2 auc3 ay0 ay1 ru0 ru1 ru2 ru3 rd0 rd1 rd2 rd3 vc0 vc1 vc2 vc3 uc0 uc1 uc2 uc3 y0 y1 y2
          go_wp2_with fail
          go_roundw
          case rel => exact ⟨1, by omega, by go_num, HC10.out⟩
          case measure => simp [intOf]; try omega
      · rw [dif_neg hup] at EU
        rw [EU] at JU0
        cases hp : P0 with
        | zero =>
          rw [ED hp] at JD0
          rw [hp] at JP0 JQ0
          rw [show entV (El.none, 4) = .tuple #[.agg #[.string ⟨#[]⟩, .string ⟨#[]⟩, .bool false, .int .i64 0], .int .i64 4] from rfl] at JU0
          rw [show entV (El.none, 4) = .tuple #[.agg #[.string ⟨#[]⟩, .string ⟨#[]⟩, .bool false, .int .i64 0], .int .i64 4] from rfl] at JD0
          rw [hp] at EL hup
          clear EU ED ES HF hp
          obtain ⟨n, hnn⟩ : ∃ n, xs.length = n := ⟨_, rfl⟩
          clear hnn
          have hq1 : ¬ (0 : Int) < (xs.length : Int) := by omega
          have hq2 : (xs.length : Int) ≤ (0 : Int) := by omega
          obtain ⟨y0, y1, y2, y3⟩ := HX.out _ HC3.out
          have HB3 := Lib.hid y3
          clear y3
          go_wp2_with fail
          refine (JP0.out _ HB3.out).mono ?_
          rintro e w4 ⟨rfl, hb⟩
          have HC4 := Lib.hid (eb_of HC3.out hb (Nat.le_refl _))
          clear hb y0 y1 y2
          obtain ⟨y0, y1, y2, y3⟩ := HX.out _ HC4.out
          have HB4 := Lib.hid y3
          clear y3
          go_wp2_with fail
          refine (JQ0.out _ HB4.out).mono ?_
          rintro e w5 ⟨rfl, hb⟩
          have HC5 := Lib.hid (eb_of HC4.out hb (Nat.le_refl _))
          clear hb y0 y1 y2
          obtain ⟨y0, y1, y2, y3⟩ := HX.out _ HC5.out
          have HB5 := Lib.hid y3
          clear y3
          go_wp2_with fail
          refine (JU0.out _ HB5.out).mono ?_
          rintro e w6 ⟨rfl, hb⟩
          have HC6 := Lib.hid (eb_of HC5.out hb (Nat.le_refl _))
          clear hb y0 y1 y2
          have hbx := alloc_below w6 (.cells #[.string ⟨#[]⟩, .string ⟨#[]⟩, .bool false, .int .i64 0] 31)
          have HC7 := Lib.hid (eb_of HC6.out hbx (Nat.le_refl _))
          have RU7 := Lib.hid (Row4.new w6 31 (.string ⟨#[]⟩) (.string ⟨#[]⟩) (.bool false) (.int .i64 0))
          clear hbx
          obtain ⟨y0, y1, y2, y3⟩ := HX.out _ HC7.out
          have HB7 := Lib.hid y3
          clear y3
          go_wp2_with fail
          refine (JD0.out _ HB7.out).mono ?_
          rintro e w8 ⟨rfl, hb⟩
          have HC8 := Lib.hid (eb_of HC7.out hb (Nat.le_refl _))
          have RU8 := Lib.hid (RU7.out.below hb (Nat.le_refl _))
          clear hb y0 y1 y2
          have hbx := alloc_below w8 (.cells #[.string ⟨#[]⟩, .string ⟨#[]⟩, .bool false, .int .i64 0] 31)
          have HC9 := Lib.hid (eb_of HC8.out hbx (Nat.le_refl _))
          have RU9 := Lib.hid (RU8.out.below hbx (Nat.le_refl _))
          have RD9 := Lib.hid (Row4.new w8 31 (.string ⟨#[]⟩) (.string ⟨#[]⟩) (.bool false) (.int .i64 0))
          clear hbx
          obtain ⟨y0, y1, y2, y3⟩ := HX.out _ HC9.out
          have HB9 := Lib.hid y3
          clear y3
          have ru0 := RU9.out.c0
          have ru1 := RU9.out.c1
          have ru2 := RU9.out.c2
          have ru3 := RU9.out.c3
          have rd0 := RD9.out.c0
          have rd1 := RD9.out.c1
          have rd2 := RD9.out.c2
          have rd3 := RD9.out.c3
          have aru0 := abv_c ru0
          have aru1 := abv_c ru1
          have aru2 := abv_c ru2
          have aru3 := abv_c ru3
          have ard0 := abv_c rd0
          have ard1 := abv_c rd1
          have ard2 := abv_c rd2
          have ard3 := abv_c rd3
          have ay0 := abv_c y0
          have ay1 := abv_c y1
          go_wp2_with fail
          refine wp_region_abv (by first | assumption | kernel_rfl) (by kernel_rfl) ?_
          repeat (first | go_big_quiet_step (fail) | quiet_step (fail))
          refine wpQuiet_nil ?_
          intro w10 hw10
          obtain ⟨p1, rfl⟩ := hw10
          have HC10 := Lib.hid (eb_of HC9.out p1.h (Nat.le_refl _))
          clear aru0 aru1 aru2 aru3 ard0 ard1 ard2 ard3 ay0 ay1 ru0 ru1 ru2 ru3 rd0 rd1 rd2 rd3 y0 y1 y2
          go_wp2_with fail
          go_roundw
          case rel => exact ⟨1, by omega, by go_num, HC10.out⟩
          case measure => simp [intOf]; try omega
        | succ j =>
          obtain ⟨gj, ej⟩ := ES j hp
          rw [ej] at JD0
          rw [hp] at JP0 JQ0
          obtain ⟨b, off, rfl, hbl, hc⟩ : ∃ b off, A = some ⟨b, off, none⟩ ∧ b < w.heap.size ∧ ∀ (i : Nat) (h : i < xs.length), w.cell? ⟨b, off + i * 4, none⟩ = some (.string xs[i].1) ∧ w.cell? ⟨b, off + i * 4 + 1, none⟩ = some (.string xs[i].2.1) ∧ w.cell? ⟨b, off + i * 4 + 2, none⟩ = some (.bool xs[i].2.2.1) ∧ w.cell? ⟨b, off + i * 4 + 3, none⟩ = some (.int .i64 xs[i].2.2.2) := by
            rcases HF.out with h | h
            · subst h; simp at gj
            · exact h
          have HU := Lib.hid (hc j gj)
          rw [show entV (El.none, 4) = .tuple #[.agg #[.string ⟨#[]⟩, .string ⟨#[]⟩, .bool false, .int .i64 0], .int .i64 4] from rfl] at JU0
          have HU1 := HU.out
          generalize hu : xs[j] = u at HU1 JD0
          obtain ⟨uk, uv, ud, uq⟩ := u
          have HUC := Lib.hid HU1
          rw [show entV ((uk, uv, ud, uq), 0) = .tuple #[.agg #[.string uk, .string uv, .bool ud, .int .i64 uq], .int .i64 0] from rfl] at JD0
          rw [hp] at EL hup
          have HUW : Hid (∀ w', Below w.heap.size w w' → w'.cell? ⟨b, off + j * 4, none⟩ = some (.string uk) ∧ w'.cell? ⟨b, off + j * 4 + 1, none⟩ = some (.string uv) ∧ w'.cell? ⟨b, off + j * 4 + 2, none⟩ = some (.bool ud) ∧ w'.cell? ⟨b, off + j * 4 + 3, none⟩ = some (.int .i64 uq)) := Lib.hid (fun w' h => by
            have e : ∀ o, w'.cell? ⟨b, o, none⟩ = w.cell? ⟨b, o, none⟩ := fun o => h.cell (p := ⟨b, o, none⟩) hbl
            rw [e, e, e, e]; exact HUC.out)
          clear EU ED ES HF hp HU HU1 hu HUC gj ej hc hbl
          obtain ⟨n, hnn⟩ : ∃ n, xs.length = n := ⟨_, rfl⟩
          clear hnn
          have hq1 : ¬ ((j : Int) + 1) < (xs.length : Int) := by omega
          have hq2 : (xs.length : Int) ≤ ((j : Int) + 1) := by omega
          have hj0 : (0 : Int) ≤ (j : Int) := by omega
          have hjn : (j : Int) < (xs.length : Int) := by omega
          have hj1 : (j : Int) + 1 - 1 = (j : Int) := by omega
          obtain ⟨y0, y1, y2, y3⟩ := HX.out _ HC3.out
          have HB3 := Lib.hid y3
          clear y3
          go_wp2_with fail
          refine (JP0.out _ HB3.out).mono ?_
          rintro e w4 ⟨rfl, hb⟩
          have HC4 := Lib.hid (eb_of HC3.out hb (Nat.le_refl _))
          clear hb y0 y1 y2
          obtain ⟨y0, y1, y2, y3⟩ := HX.out _ HC4.out
          have HB4 := Lib.hid y3
          clear y3
          go_wp2_with fail
          refine (JQ0.out _ HB4.out).mono ?_
          rintro e w5 ⟨rfl, hb⟩
          have HC5 := Lib.hid (eb_of HC4.out hb (Nat.le_refl _))
          clear hb y0 y1 y2
          obtain ⟨y0, y1, y2, y3⟩ := HX.out _ HC5.out
          have HB5 := Lib.hid y3
          clear y3
          go_wp2_with fail
          refine (JU0.out _ HB5.out).mono ?_
          rintro e w6 ⟨rfl, hb⟩
          have HC6 := Lib.hid (eb_of HC5.out hb (Nat.le_refl _))
          clear hb y0 y1 y2
          have hbx := alloc_below w6 (.cells #[.string ⟨#[]⟩, .string ⟨#[]⟩, .bool false, .int .i64 0] 31)
          have HC7 := Lib.hid (eb_of HC6.out hbx (Nat.le_refl _))
          have RU7 := Lib.hid (Row4.new w6 31 (.string ⟨#[]⟩) (.string ⟨#[]⟩) (.bool false) (.int .i64 0))
          clear hbx
          obtain ⟨y0, y1, y2, y3⟩ := HX.out _ HC7.out
          have HB7 := Lib.hid y3
          clear y3
          go_wp2_with fail
          refine (JD0.out _ HB7.out).mono ?_
          rintro e w8 ⟨rfl, hb⟩
          have HC8 := Lib.hid (eb_of HC7.out hb (Nat.le_refl _))
          have RU8 := Lib.hid (RU7.out.below hb (Nat.le_refl _))
          clear hb y0 y1 y2
          have hbx := alloc_below w8 (.cells #[.string uk, .string uv, .bool ud, .int .i64 uq] 31)
          have HC9 := Lib.hid (eb_of HC8.out hbx (Nat.le_refl _))
          have RU9 := Lib.hid (RU8.out.below hbx (Nat.le_refl _))
          have RD9 := Lib.hid (Row4.new w8 31 (.string uk) (.string uv) (.bool ud) (.int .i64 uq))
          clear hbx
          obtain ⟨y0, y1, y2, y3⟩ := HX.out _ HC9.out
          have HB9 := Lib.hid y3
          clear y3
          have ru0 := RU9.out.c0
          have ru1 := RU9.out.c1
          have ru2 := RU9.out.c2
          have ru3 := RU9.out.c3
          have rd0 := RD9.out.c0
          have rd1 := RD9.out.c1
          have rd2 := RD9.out.c2
          have rd3 := RD9.out.c3
          obtain ⟨uc0, uc1, uc2, uc3⟩ := HUW.out _ HB9.out
          have aru0 := abv_c ru0
          have aru1 := abv_c ru1
          have aru2 := abv_c ru2
          have aru3 := abv_c ru3
          have ard0 := abv_c rd0
          have ard1 := abv_c rd1
          have ard2 := abv_c rd2
          have ard3 := abv_c rd3
          have auc0 := abv_c uc0
          have auc1 := abv_c uc1
          have auc2 := abv_c uc2
          have auc3 := abv_c uc3
          have ay0 := abv_c y0
          have ay1 := abv_c y1
          go_wp2_with fail
          refine wp_region_abv (by first | assumption | kernel_rfl) (by kernel_rfl) ?_
          repeat (first | go_big_quiet_step (fail) | quiet_step (fail))
          refine wpQuiet_nil ?_
          intro w10 hw10
          obtain ⟨p1, rfl⟩ := hw10
          have HC10 := Lib.hid (eb_of HC9.out p1.h (Nat.le_refl _))
          clear aru0 aru1 aru2 aru3 ard0 ard1 ard2 ard3 auc0 auc1 auc2 auc3 ay0 ay1 ru0 ru1 ru2 ru3 rd0 rd1 rd2 rd3 uc0 uc1 uc2 uc3 y0 y1 y2
          go_wp2_with fail
          go_roundw
          case rel => exact ⟨1, by omega, by go_num, HC10.out⟩
          case measure => simp [intOf]; try omega
    · rcases hne with h9 | h0
      · clear JP1 JQ1 JU1 JD1 JP0 JQ0 JU0 JD0 E1 E0H
        rw [h9]
        obtain ⟨y0, y1, y2, y3⟩ := HX.out _ HC3.out
        have HB3 := Lib.hid y3
        clear y3
        go_wp2_with fail
        refine (JW.out _).mono ?_
        rintro e w9 ⟨rfl, hb⟩
        have HB9 := Lib.hid (eb_of HB3.out hb (Nat.le_refl _))
        clear hb
        go_wp2_with fail
        go_ret
        exact ⟨by first | rfl | (simp; done), HB9.out⟩
      · have E := Lib.hid (E1.out h0)
        rw [E.out.low] at JP1
        rw [E.out.high] at JQ1
        dsimp only at JP1 JQ1
        rw [h0]
        clear JP0 JQ0 JU0 JD0 E1 E0H h0
        have EU := E.out.up
        have ED := E.out.dn
        have ES := E.out.ds
        have EL := E.out.le
        rw [Bool.not_true] at ED ES
        clear E
        by_cases hup : P1 < xs.length
        · rw [dif_pos hup] at EU
          rw [EU] at JU1
          obtain ⟨b, off, rfl, hbl, hc⟩ : ∃ b off, A = some ⟨b, off, none⟩ ∧ b < w.heap.size ∧ ∀ (i : Nat) (h : i < xs.length), w.cell? ⟨b, off + i * 4, none⟩ = some (.string xs[i].1) ∧ w.cell? ⟨b, off + i * 4 + 1, none⟩ = some (.string xs[i].2.1) ∧ w.cell? ⟨b, off + i * 4 + 2, none⟩ = some (.bool xs[i].2.2.1) ∧ w.cell? ⟨b, off + i * 4 + 3, none⟩ = some (.int .i64 xs[i].2.2.2) := by
            rcases HF.out with h | h
            · subst h; simp at hup
            · exact h
          have HV := Lib.hid (hc P1 hup)
          cases hp : P1 with
          | zero =>
            rw [ED hp] at JD1
            rw [hp] at JP1 JQ1
            have HV1 := HV.out
            generalize hv : xs[P1] = v at HV1 JU1
            obtain ⟨vk, vv, vd, vq⟩ := v
            have HVC := Lib.hid HV1
            rw [show entV ((vk, vv, vd, vq), 0) = .tuple #[.agg #[.string vk, .string vv, .bool vd, .int .i64 vq], .int .i64 0] from rfl] at JU1
            rw [show entV (El.none, 4) = .tuple #[.agg #[.string ⟨#[]⟩, .string ⟨#[]⟩, .bool false, .int .i64 0], .int .i64 4] from rfl] at JD1
            rw [hp] at EL hup
            rw [hp] at HVC
            simp only [Nat.zero_mul, Nat.add_zero] at HVC
            have HVW : Hid (∀ w', Below w.heap.size w w' → w'.cell? ⟨b, off, none⟩ = some (.string vk) ∧ w'.cell? ⟨b, off + 1, none⟩ = some (.string vv) ∧ w'.cell? ⟨b, off + 2, none⟩ = some (.bool vd) ∧ w'.cell? ⟨b, off + 3, none⟩ = some (.int .i64 vq)) := Lib.hid (fun w' h => by
              have e : ∀ o, w'.cell? ⟨b, o, none⟩ = w.cell? ⟨b, o, none⟩ := fun o => h.cell (p := ⟨b, o, none⟩) hbl
              rw [e, e, e, e]; exact HVC.out)
            clear EU ED ES HF hp HV HV1 hv HVC hc hbl
            obtain ⟨n, hnn⟩ : ∃ n, xs.length = n := ⟨_, rfl⟩
            clear hnn
            have hq1 : (0 : Int) < (xs.length : Int) := by omega
            obtain ⟨y0, y1, y2, y3⟩ := HX.out _ HC3.out
            have HB3 := Lib.hid y3
            clear y3
            go_wp2_with fail
            refine (JP1.out _ HB3.out).mono ?_
            rintro e w4 ⟨rfl, hb⟩
            have HC4 := Lib.hid (eb_of HC3.out hb (Nat.le_refl _))
            clear hb y0 y1 y2
            obtain ⟨y0, y1, y2, y3⟩ := HX.out _ HC4.out
            have HB4 := Lib.hid y3
            clear y3
            go_wp2_with fail
            refine (JQ1.out _ HB4.out).mono ?_
            rintro e w5 ⟨rfl, hb⟩
            have HC5 := Lib.hid (eb_of HC4.out hb (Nat.le_refl _))
            clear hb y0 y1 y2
            obtain ⟨y0, y1, y2, y3⟩ := HX.out _ HC5.out
            have HB5 := Lib.hid y3
            clear y3
            go_wp2_with fail
            refine (JU1.out _ HB5.out).mono ?_
            rintro e w6 ⟨rfl, hb⟩
            have HC6 := Lib.hid (eb_of HC5.out hb (Nat.le_refl _))
            clear hb y0 y1 y2
            have hbx := alloc_below w6 (.cells #[.string vk, .string vv, .bool vd, .int .i64 vq] 31)
            have HC7 := Lib.hid (eb_of HC6.out hbx (Nat.le_refl _))
            have RU7 := Lib.hid (Row4.new w6 31 (.string vk) (.string vv) (.bool vd) (.int .i64 vq))
            clear hbx
            obtain ⟨y0, y1, y2, y3⟩ := HX.out _ HC7.out
            have HB7 := Lib.hid y3
            clear y3
            go_wp2_with fail
            refine (JD1.out _ HB7.out).mono ?_
            rintro e w8 ⟨rfl, hb⟩
            have HC8 := Lib.hid (eb_of HC7.out hb (Nat.le_refl _))
            have RU8 := Lib.hid (RU7.out.below hb (Nat.le_refl _))
            clear hb y0 y1 y2
            have hbx := alloc_below w8 (.cells #[.string ⟨#[]⟩, .string ⟨#[]⟩, .bool false, .int .i64 0] 31)
            have HC9 := Lib.hid (eb_of HC8.out hbx (Nat.le_refl _))
            have RU9 := Lib.hid (RU8.out.below hbx (Nat.le_refl _))
            have RD9 := Lib.hid (Row4.new w8 31 (.string ⟨#[]⟩) (.string ⟨#[]⟩) (.bool false) (.int .i64 0))
            clear hbx
            obtain ⟨y0, y1, y2, y3⟩ := HX.out _ HC9.out
            have HB9 := Lib.hid y3
            clear y3
            have ru0 := RU9.out.c0
            have ru1 := RU9.out.c1
            have ru2 := RU9.out.c2
            have ru3 := RU9.out.c3
            have rd0 := RD9.out.c0
            have rd1 := RD9.out.c1
            have rd2 := RD9.out.c2
            have rd3 := RD9.out.c3
            obtain ⟨vc0, vc1, vc2, vc3⟩ := HVW.out _ HB9.out
            have aru0 := abv_c ru0
            have aru1 := abv_c ru1
            have aru2 := abv_c ru2
            have aru3 := abv_c ru3
            have ard0 := abv_c rd0
            have ard1 := abv_c rd1
            have ard2 := abv_c rd2
            have ard3 := abv_c rd3
            have avc0 := abv_c vc0
            have avc1 := abv_c vc1
            have avc2 := abv_c vc2
            have avc3 := abv_c vc3
            have ay0 := abv_c y0
            have ay1 := abv_c y1
            go_wp2_with fail
            refine wp_region_abv (by first | assumption | kernel_rfl) (by kernel_rfl) ?_
            repeat (first | go_big_quiet_step (fail) | quiet_step (fail))
            refine wpQuiet_nil ?_
            intro w10 hw10
            obtain ⟨p1, rfl⟩ := hw10
            have HC10 := Lib.hid (eb_of HC9.out p1.h (Nat.le_refl _))
            clear aru0 aru1 aru2 aru3 ard0 ard1 ard2 ard3 avc0 avc1 avc2 avc3 ay0 ay1 ru0 ru1 ru2 ru3 rd0 rd1 rd2 rd3 vc0 vc1 vc2 vc3 y0 y1 y2
            go_wp2_with fail
            go_roundw
            case rel => exact ⟨2, by omega, by go_num, HC10.out⟩
            case measure => simp [intOf]; try omega
          | succ j =>
            obtain ⟨gj, ej⟩ := ES j hp
            rw [ej] at JD1
            rw [hp] at JP1 JQ1
            have HU := Lib.hid (hc j gj)
            have HV1 := HV.out
            generalize hv : xs[P1] = v at HV1 JU1
            obtain ⟨vk, vv, vd, vq⟩ := v
            have HVC := Lib.hid HV1
            rw [show entV ((vk, vv, vd, vq), 0) = .tuple #[.agg #[.string vk, .string vv, .bool vd, .int .i64 vq], .int .i64 0] from rfl] at JU1
            have HU1 := HU.out
            generalize hu : xs[j] = u at HU1 JD1
            obtain ⟨uk, uv, ud, uq⟩ := u
            have HUC := Lib.hid HU1
            rw [show entV ((uk, uv, ud, uq), 0) = .tuple #[.agg #[.string uk, .string uv, .bool ud, .int .i64 uq], .int .i64 0] from rfl] at JD1
            rw [hp] at EL hup
            rw [hp] at HVC
            have HVW : Hid (∀ w', Below w.heap.size w w' → w'.cell? ⟨b, off + (j + 1) * 4, none⟩ = some (.string vk) ∧ w'.cell? ⟨b, off + (j + 1) * 4 + 1, none⟩ = some (.string vv) ∧ w'.cell? ⟨b, off + (j + 1) * 4 + 2, none⟩ = some (.bool vd) ∧ w'.cell? ⟨b, off + (j + 1) * 4 + 3, none⟩ = some (.int .i64 vq)) := Lib.hid (fun w' h => by
              have e : ∀ o, w'.cell? ⟨b, o, none⟩ = w.cell? ⟨b, o, none⟩ := fun o => h.cell (p := ⟨b, o, none⟩) hbl
              rw [e, e, e, e]; exact HVC.out)
            have HUW : Hid (∀ w', Below w.heap.size w w' → w'.cell? ⟨b, off + j * 4, none⟩ = some (.string uk) ∧ w'.cell? ⟨b, off + j * 4 + 1, none⟩ = some (.string uv) ∧ w'.cell? ⟨b, off + j * 4 + 2, none⟩ = some (.bool ud) ∧ w'.cell? ⟨b, off + j * 4 + 3, none⟩ = some (.int .i64 uq)) := Lib.hid (fun w' h => by
              have e : ∀ o, w'.cell? ⟨b, o, none⟩ = w.cell? ⟨b, o, none⟩ := fun o => h.cell (p := ⟨b, o, none⟩) hbl
              rw [e, e, e, e]; exact HUC.out)
            clear EU ED ES HF hp HV HV1 hv HVC HU HU1 hu HUC gj ej hc hbl
            obtain ⟨n, hnn⟩ : ∃ n, xs.length = n := ⟨_, rfl⟩
            clear hnn
            have hq1 : ((j : Int) + 1) < (xs.length : Int) := by omega
            have hj0 : (0 : Int) ≤ (j : Int) := by omega
            have hjn : (j : Int) < (xs.length : Int) := by omega
            have hj1 : (j : Int) + 1 - 1 = (j : Int) := by omega
            obtain ⟨y0, y1, y2, y3⟩ := HX.out _ HC3.out
            have HB3 := Lib.hid y3
            clear y3
            go_wp2_with fail
            refine (JP1.out _ HB3.out).mono ?_
            rintro e w4 ⟨rfl, hb⟩
            have HC4 := Lib.hid (eb_of HC3.out hb (Nat.le_refl _))
            clear hb y0 y1 y2
            obtain ⟨y0, y1, y2, y3⟩ := HX.out _ HC4.out
            have HB4 := Lib.hid y3
            clear y3
            go_wp2_with fail
            refine (JQ1.out _ HB4.out).mono ?_
            rintro e w5 ⟨rfl, hb⟩
            have HC5 := Lib.hid (eb_of HC4.out hb (Nat.le_refl _))
            clear hb y0 y1 y2
            obtain ⟨y0, y1, y2, y3⟩ := HX.out _ HC5.out
            have HB5 := Lib.hid y3
            clear y3
            go_wp2_with fail
            refine (JU1.out _ HB5.out).mono ?_
            rintro e w6 ⟨rfl, hb⟩
            have HC6 := Lib.hid (eb_of HC5.out hb (Nat.le_refl _))
            clear hb y0 y1 y2
            have hbx := alloc_below w6 (.cells #[.string vk, .string vv, .bool vd, .int .i64 vq] 31)
            have HC7 := Lib.hid (eb_of HC6.out hbx (Nat.le_refl _))
            have RU7 := Lib.hid (Row4.new w6 31 (.string vk) (.string vv) (.bool vd) (.int .i64 vq))
            clear hbx
            obtain ⟨y0, y1, y2, y3⟩ := HX.out _ HC7.out
            have HB7 := Lib.hid y3
            clear y3
            go_wp2_with fail
            refine (JD1.out _ HB7.out).mono ?_
            rintro e w8 ⟨rfl, hb⟩
            have HC8 := Lib.hid (eb_of HC7.out hb (Nat.le_refl _))
            have RU8 := Lib.hid (RU7.out.below hb (Nat.le_refl _))
            clear hb y0 y1 y2
            have hbx := alloc_below w8 (.cells #[.string uk, .string uv, .bool ud, .int .i64 uq] 31)
            have HC9 := Lib.hid (eb_of HC8.out hbx (Nat.le_refl _))
            have RU9 := Lib.hid (RU8.out.below hbx (Nat.le_refl _))
            have RD9 := Lib.hid (Row4.new w8 31 (.string uk) (.string uv) (.bool ud) (.int .i64 uq))
            clear hbx
            obtain ⟨y0, y1, y2, y3⟩ := HX.out _ HC9.out
            have HB9 := Lib.hid y3
            clear y3
            have ru0 := RU9.out.c0
            have ru1 := RU9.out.c1
            have ru2 := RU9.out.c2
            have ru3 := RU9.out.c3
            have rd0 := RD9.out.c0
            have rd1 := RD9.out.c1
            have rd2 := RD9.out.c2
            have rd3 := RD9.out.c3
            obtain ⟨vc0, vc1, vc2, vc3⟩ := HVW.out _ HB9.out
            obtain ⟨uc0, uc1, uc2, uc3⟩ := HUW.out _ HB9.out
            have aru0 := abv_c ru0
            have aru1 := abv_c ru1
            have aru2 := abv_c ru2
            have aru3 := abv_c ru3
            have ard0 := abv_c rd0
            have ard1 := abv_c rd1
            have ard2 := abv_c rd2
            have ard3 := abv_c rd3
            have avc0 := abv_c vc0
            have avc1 := abv_c vc1
            have avc2 := abv_c vc2
            have avc3 := abv_c vc3
            have auc0 := abv_c uc0
            have auc1 := abv_c uc1
            have auc2 := abv_c uc2
            have auc3 := abv_c uc3
            have ay0 := abv_c y0
            have ay1 := abv_c y1
            go_wp2_with fail
            refine wp_region_abv (by first | assumption | kernel_rfl) (by kernel_rfl) ?_
            repeat (first | go_big_quiet_step (fail) | quiet_step (fail))
            refine wpQuiet_nil ?_
            intro w10 hw10
            obtain ⟨p1, rfl⟩ := hw10
            have HC10 := Lib.hid (eb_of HC9.out p1.h (Nat.le_refl _))
            clear aru0 aru1 aru2 aru3 ard0 ard1 ard2 ard3 avc0 avc1 avc2 avc3 auc0 auc1 auc2 auc3 ay0 ay1 ru0 ru1 ru2 ru3 rd0 rd1 rd2 rd3 vc0 vc1 vc2 vc3 uc0 uc1 uc2 uc3 y0 y1 y2
            go_wp2_with fail
            go_roundw
            case rel => exact ⟨2, by omega, by go_num, HC10.out⟩
            case measure => simp [intOf]; try omega
        · rw [dif_neg hup] at EU
          rw [EU] at JU1
          cases hp : P1 with
          | zero =>
            rw [ED hp] at JD1
            rw [hp] at JP1 JQ1
            rw [show entV (El.none, 4) = .tuple #[.agg #[.string ⟨#[]⟩, .string ⟨#[]⟩, .bool false, .int .i64 0], .int .i64 4] from rfl] at JU1
            rw [show entV (El.none, 4) = .tuple #[.agg #[.string ⟨#[]⟩, .string ⟨#[]⟩, .bool false, .int .i64 0], .int .i64 4] from rfl] at JD1
            rw [hp] at EL hup
            clear EU ED ES HF hp
            obtain ⟨n, hnn⟩ : ∃ n, xs.length = n := ⟨_, rfl⟩
            clear hnn
            have hq1 : ¬ (0 : Int) < (xs.length : Int) := by omega
            have hq2 : (xs.length : Int) ≤ (0 : Int) := by omega
            obtain ⟨y0, y1, y2, y3⟩ := HX.out _ HC3.out
            have HB3 := Lib.hid y3
            clear y3
            go_wp2_with fail
            refine (JP1.out _ HB3.out).mono ?_
            rintro e w4 ⟨rfl, hb⟩
            have HC4 := Lib.hid (eb_of HC3.out hb (Nat.le_refl _))
            clear hb y0 y1 y2
            obtain ⟨y0, y1, y2, y3⟩ := HX.out _ HC4.out
            have HB4 := Lib.hid y3
            clear y3
            go_wp2_with fail
            refine (JQ1.out _ HB4.out).mono ?_
            rintro e w5 ⟨rfl, hb⟩
            have HC5 := Lib.hid (eb_of HC4.out hb (Nat.le_refl _))
            clear hb y0 y1 y2
            obtain ⟨y0, y1, y2, y3⟩ := HX.out _ HC5.out
            have HB5 := Lib.hid y3
            clear y3
            go_wp2_with fail
            refine (JU1.out _ HB5.out).mono ?_
            rintro e w6 ⟨rfl, hb⟩
            have HC6 := Lib.hid (eb_of HC5.out hb (Nat.le_refl _))
            clear hb y0 y1 y2
            have hbx := alloc_below w6 (.cells #[.string ⟨#[]⟩, .string ⟨#[]⟩, .bool false, .int .i64 0] 31)
            have HC7 := Lib.hid (eb_of HC6.out hbx (Nat.le_refl _))
            have RU7 := Lib.hid (Row4.new w6 31 (.string ⟨#[]⟩) (.string ⟨#[]⟩) (.bool false) (.int .i64 0))
            clear hbx
            obtain ⟨y0, y1, y2, y3⟩ := HX.out _ HC7.out
            have HB7 := Lib.hid y3
            clear y3
            go_wp2_with fail
            refine (JD1.out _ HB7.out).mono ?_
            rintro e w8 ⟨rfl, hb⟩
            have HC8 := Lib.hid (eb_of HC7.out hb (Nat.le_refl _))
            have RU8 := Lib.hid (RU7.out.below hb (Nat.le_refl _))
            clear hb y0 y1 y2
            have hbx := alloc_below w8 (.cells #[.string ⟨#[]⟩, .string ⟨#[]⟩, .bool false, .int .i64 0] 31)
            have HC9 := Lib.hid (eb_of HC8.out hbx (Nat.le_refl _))
            have RU9 := Lib.hid (RU8.out.below hbx (Nat.le_refl _))
            have RD9 := Lib.hid (Row4.new w8 31 (.string ⟨#[]⟩) (.string ⟨#[]⟩) (.bool false) (.int .i64 0))
            clear hbx
            obtain ⟨y0, y1, y2, y3⟩ := HX.out _ HC9.out
            have HB9 := Lib.hid y3
            clear y3
            have ru0 := RU9.out.c0
            have ru1 := RU9.out.c1
            have ru2 := RU9.out.c2
            have ru3 := RU9.out.c3
            have rd0 := RD9.out.c0
            have rd1 := RD9.out.c1
            have rd2 := RD9.out.c2
            have rd3 := RD9.out.c3
            have aru0 := abv_c ru0
            have aru1 := abv_c ru1
            have aru2 := abv_c ru2
            have aru3 := abv_c ru3
            have ard0 := abv_c rd0
            have ard1 := abv_c rd1
            have ard2 := abv_c rd2
            have ard3 := abv_c rd3
            have ay0 := abv_c y0
            have ay1 := abv_c y1
            go_wp2_with fail
            refine wp_region_abv (by first | assumption | kernel_rfl) (by kernel_rfl) ?_
            repeat (first | go_big_quiet_step (fail) | quiet_step (fail))
            refine wpQuiet_nil ?_
            intro w10 hw10
            obtain ⟨p1, rfl⟩ := hw10
            have HC10 := Lib.hid (eb_of HC9.out p1.h (Nat.le_refl _))
            clear aru0 aru1 aru2 aru3 ard0 ard1 ard2 ard3 ay0 ay1 ru0 ru1 ru2 ru3 rd0 rd1 rd2 rd3 y0 y1 y2
            go_wp2_with fail
            go_roundw
            case rel => exact ⟨2, by omega, by go_num, HC10.out⟩
            case measure => simp [intOf]; try omega
          | succ j =>
            obtain ⟨gj, ej⟩ := ES j hp
            rw [ej] at JD1
            rw [hp] at JP1 JQ1
            obtain ⟨b, off, rfl, hbl, hc⟩ : ∃ b off, A = some ⟨b, off, none⟩ ∧ b < w.heap.size ∧ ∀ (i : Nat) (h : i < xs.length), w.cell? ⟨b, off + i * 4, none⟩ = some (.string xs[i].1) ∧ w.cell? ⟨b, off + i * 4 + 1, none⟩ = some (.string xs[i].2.1) ∧ w.cell? ⟨b, off + i * 4 + 2, none⟩ = some (.bool xs[i].2.2.1) ∧ w.cell? ⟨b, off + i * 4 + 3, none⟩ = some (.int .i64 xs[i].2.2.2) := by
              rcases HF.out with h | h
              · subst h; simp at gj
              · exact h
            have HU := Lib.hid (hc j gj)
            rw [show entV (El.none, 4) = .tuple #[.agg #[.string ⟨#[]⟩, .string ⟨#[]⟩, .bool false, .int .i64 0], .int .i64 4] from rfl] at JU1
            have HU1 := HU.out
            generalize hu : xs[j] = u at HU1 JD1
            obtain ⟨uk, uv, ud, uq⟩ := u
            have HUC := Lib.hid HU1
            rw [show entV ((uk, uv, ud, uq), 0) = .tuple #[.agg #[.string uk, .string uv, .bool ud, .int .i64 uq], .int .i64 0] from rfl] at JD1
            rw [hp] at EL hup
            have HUW : Hid (∀ w', Below w.heap.size w w' → w'.cell? ⟨b, off + j * 4, none⟩ = some (.string uk) ∧ w'.cell? ⟨b, off + j * 4 + 1, none⟩ = some (.string uv) ∧ w'.cell? ⟨b, off + j * 4 + 2, none⟩ = some (.bool ud) ∧ w'.cell? ⟨b, off + j * 4 + 3, none⟩ = some (.int .i64 uq)) := Lib.hid (fun w' h => by
              have e : ∀ o, w'.cell? ⟨b, o, none⟩ = w.cell? ⟨b, o, none⟩ := fun o => h.cell (p := ⟨b, o, none⟩) hbl
              rw [e, e, e, e]; exact HUC.out)
            clear EU ED ES HF hp HU HU1 hu HUC gj ej hc hbl
            obtain ⟨n, hnn⟩ : ∃ n, xs.length = n := ⟨_, rfl⟩
            clear hnn
            have hq1 : ¬ ((j : Int) + 1) < (xs.length : Int) := by omega
            have hq2 : (xs.length : Int) ≤ ((j : Int) + 1) := by omega
            have hj0 : (0 : Int) ≤ (j : Int) := by omega
            have hjn : (j : Int) < (xs.length : Int) := by omega
            have hj1 : (j : Int) + 1 - 1 = (j : Int) := by omega
            obtain ⟨y0, y1, y2, y3⟩ := HX.out _ HC3.out
            have HB3 := Lib.hid y3
            clear y3
            go_wp2_with fail
            refine (JP1.out _ HB3.out).mono ?_
            rintro e w4 ⟨rfl, hb⟩
            have HC4 := Lib.hid (eb_of HC3.out hb (Nat.le_refl _))
            clear hb y0 y1 y2
            obtain ⟨y0, y1, y2, y3⟩ := HX.out _ HC4.out
            have HB4 := Lib.hid y3
            clear y3
            go_wp2_with fail
            refine (JQ1.out _ HB4.out).mono ?_
            rintro e w5 ⟨rfl, hb⟩
            have HC5 := Lib.hid (eb_of HC4.out hb (Nat.le_refl _))
            clear hb y0 y1 y2
            obtain ⟨y0, y1, y2, y3⟩ := HX.out _ HC5.out
            have HB5 := Lib.hid y3
            clear y3
            go_wp2_with fail
            refine (JU1.out _ HB5.out).mono ?_
            rintro e w6 ⟨rfl, hb⟩
            have HC6 := Lib.hid (eb_of HC5.out hb (Nat.le_refl _))
            clear hb y0 y1 y2
            have hbx := alloc_below w6 (.cells #[.string ⟨#[]⟩, .string ⟨#[]⟩, .bool false, .int .i64 0] 31)
            have HC7 := Lib.hid (eb_of HC6.out hbx (Nat.le_refl _))
            have RU7 := Lib.hid (Row4.new w6 31 (.string ⟨#[]⟩) (.string ⟨#[]⟩) (.bool false) (.int .i64 0))
            clear hbx
            obtain ⟨y0, y1, y2, y3⟩ := HX.out _ HC7.out
            have HB7 := Lib.hid y3
            clear y3
            go_wp2_with fail
            refine (JD1.out _ HB7.out).mono ?_
            rintro e w8 ⟨rfl, hb⟩
            have HC8 := Lib.hid (eb_of HC7.out hb (Nat.le_refl _))
            have RU8 := Lib.hid (RU7.out.below hb (Nat.le_refl _))
            clear hb y0 y1 y2
            have hbx := alloc_below w8 (.cells #[.string uk, .string uv, .bool ud, .int .i64 uq] 31)
            have HC9 := Lib.hid (eb_of HC8.out hbx (Nat.le_refl _))
            have RU9 := Lib.hid (RU8.out.below hbx (Nat.le_refl _))
            have RD9 := Lib.hid (Row4.new w8 31 (.string uk) (.string uv) (.bool ud) (.int .i64 uq))
            clear hbx
            obtain ⟨y0, y1, y2, y3⟩ := HX.out _ HC9.out
            have HB9 := Lib.hid y3
            clear y3
            have ru0 := RU9.out.c0
            have ru1 := RU9.out.c1
            have ru2 := RU9.out.c2
            have ru3 := RU9.out.c3
            have rd0 := RD9.out.c0
            have rd1 := RD9.out.c1
            have rd2 := RD9.out.c2
            have rd3 := RD9.out.c3
            obtain ⟨uc0, uc1, uc2, uc3⟩ := HUW.out _ HB9.out
            have aru0 := abv_c ru0
            have aru1 := abv_c ru1
            have aru2 := abv_c ru2
            have aru3 := abv_c ru3
            have ard0 := abv_c rd0
            have ard1 := abv_c rd1
            have ard2 := abv_c rd2
            have ard3 := abv_c rd3
            have auc0 := abv_c uc0
            have auc1 := abv_c uc1
            have auc2 := abv_c uc2
            have auc3 := abv_c uc3
            have ay0 := abv_c y0
            have ay1 := abv_c y1
            go_wp2_with fail
            refine wp_region_abv (by first | assumption | kernel_rfl) (by kernel_rfl) ?_
            repeat (first | go_big_quiet_step (fail) | quiet_step (fail))
            refine wpQuiet_nil ?_
            intro w10 hw10
            obtain ⟨p1, rfl⟩ := hw10
            have HC10 := Lib.hid (eb_of HC9.out p1.h (Nat.le_refl _))
            clear aru0 aru1 aru2 aru3 ard0 ard1 ard2 ard3 auc0 auc1 auc2 auc3 ay0 ay1 ru0 ru1 ru2 ru3 rd0 rd1 rd2 rd3 uc0 uc1 uc2 uc3 y0 y1 y2
            go_wp2_with fail
            go_roundw
            case rel => exact ⟨2, by omega, by go_num, HC10.out⟩
            case measure => simp [intOf]; try omega
    · clear JP1 JQ1 JU1 JD1 JP0 JQ0 JU0 JD0 E1 E0H
      obtain ⟨y0, y1, y2, y3⟩ := HX.out _ HC3.out
      have HB3 := Lib.hid y3
      clear y3
      go_wp2_with fail
      refine (JW.out _).mono ?_
      rintro e w9 ⟨rfl, hb⟩
      have HB9 := Lib.hid (eb_of HB3.out hb (Nat.le_refl _))
      clear hb
      go_wp2_with fail
      go_ret
      exact ⟨by first | rfl | (simp; done), HB9.out⟩
end Go.Proofs.Ytjnbdeahmbkbnaa.KK
