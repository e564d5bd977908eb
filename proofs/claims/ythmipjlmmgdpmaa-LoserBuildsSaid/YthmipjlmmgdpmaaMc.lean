/-
  The reference's trees: how one is made.
-/
import Derived.Test.YthmipjlmmgdpmaaMb
import Derived.Deep.RegionLawGrows
namespace Go.Proofs.Ythmipjlmmgdpmaa.KK
open Go.ChangeShapes Go.WideShapes Go.ChangeAt Go.RowKit Go.Proofs

theorem alloc4_below (w : World) (o o' o'' o3 : Obj) : Below w.heap.size w ((((w.alloc o).alloc o').alloc o'').alloc o3) := (alloc3_below w o o' o'').alloc (by simp only [World.size_alloc]; omega) o3
theorem hq30 (w : World) (o o' o'' : Obj) {k : Nat} (hk : k = w.heap.size) : (((w.alloc o).alloc o').alloc o'').heap[k]? = some o := (heap_alloc_old _ _ (by rw [World.size_alloc, World.size_alloc]; omega)).trans (hp2' w o o' hk)
theorem hq31 (w : World) (o o' o'' : Obj) {k : Nat} (hk : k = w.heap.size + 1) : (((w.alloc o).alloc o').alloc o'').heap[k]? = some o' := (heap_alloc_old _ _ (by rw [World.size_alloc, World.size_alloc]; omega)).trans (hp3 w o o' hk)
theorem hq32 (w : World) (o o' o'' : Obj) {k : Nat} (hk : k = w.heap.size + 1 + 1) : (((w.alloc o).alloc o').alloc o'').heap[k]? = some o'' := by
  have := heap_alloc_new ((w.alloc o).alloc o') o''
  rw [World.size_alloc, World.size_alloc] at this
  rw [hk]; exact this
theorem mt0 {w0 w5 : World} {ks : List LK} {Z : Array Value} {n g cp s : Nat} (HZ : Hid (Z.toList = intsV (List.replicate n 0))) (hs : w0.heap.size = s) (HG : Hid (((w0.alloc (.cells #[] 39)).drew).heap.size ≤ g)) (HCR : Hid (CR w5 g (keysV ks))) (HB5 : Hid (Below ((w0.alloc (.cells #[] 39)).drew).heap.size ((w0.alloc (.cells #[] 39)).drew) w5)) :
    Made w0 ((w5.alloc (.cells Z 3)).alloc (.cells #[.slice (some ⟨g, 0, none⟩) n cp, .slice (some ⟨w5.heap.size, 0, none⟩) n n, .int .i64 0] 27)) ks (List.replicate n 0) 0 n (w5.heap.size + 1) g (w5.heap.size) cp := by
  have h1 := HG.out; have h2 := HB5.out.size; have h3 := HCR.out.lt
  simp only [World.size_alloc, hdr] at h1 h2
  exact made_of HZ ((alloc_below w0 _).drew) HB5.out (.of_below (alloc2_below _ _ _)) HG.out HCR.out (hp3 _ _ _ rfl) (.inr ⟨hp2 _ _ _, Nat.le_refl _⟩) ⟨by omega, by omega⟩ ⟨by omega, by omega⟩
theorem mt1 {w0 w5 : World} {ks : List LK} {Z : Array Value} {n g cp s : Nat} (HZ : Hid (Z.toList = intsV (List.replicate n 0))) (hs : w0.heap.size = s) (HG : Hid (((w0.alloc (.cells #[] 39)).drew).heap.size ≤ g)) (HCR : Hid (CR w5 g (keysV ks))) (HB5 : Hid (Below ((w0.alloc (.cells #[] 39)).drew).heap.size ((w0.alloc (.cells #[] 39)).drew) w5)) :
    Made w0 ((w5.alloc (.cells #[.slice (some ⟨g, 0, none⟩) n cp, .slice (some ⟨w5.heap.size + 1, 0, none⟩) n n, .int .i64 0] 27)).alloc (.cells Z 3)) ks (List.replicate n 0) 0 n (w5.heap.size) g (w5.heap.size + 1) cp := by
  have h1 := HG.out; have h2 := HB5.out.size; have h3 := HCR.out.lt
  simp only [World.size_alloc, hdr] at h1 h2
  exact made_of HZ ((alloc_below w0 _).drew) HB5.out (.of_below (alloc2_below _ _ _)) HG.out HCR.out (hp2 _ _ _) (.inr ⟨hp3 _ _ _ rfl, by omega⟩) ⟨by omega, by omega⟩ ⟨by omega, by omega⟩
theorem mt2 {w0 w5 : World} {ks : List LK} {Z : Array Value} {n g cp s : Nat} (HZ : Hid (Z.toList = intsV (List.replicate n 0))) (hs : w0.heap.size = s) (HG : Hid ((((w0.alloc (.cells #[] 39)).alloc (.cells Z 3)).drew).heap.size ≤ g)) (HCR : Hid (CR w5 g (keysV ks))) (HB5 : Hid (Below (((w0.alloc (.cells #[] 39)).alloc (.cells Z 3)).drew).heap.size (((w0.alloc (.cells #[] 39)).alloc (.cells Z 3)).drew) w5)) :
    Made w0 (w5.alloc (.cells #[.slice (some ⟨g, 0, none⟩) n cp, .slice (some ⟨s + 1, 0, none⟩) n n, .int .i64 0] 27)) ks (List.replicate n 0) 0 n (w5.heap.size) g (s + 1) cp := by
  have h1 := HG.out; have h2 := HB5.out.size; have h3 := HCR.out.lt
  simp only [World.size_alloc, hdr] at h1 h2
  exact made_of HZ ((alloc2_below w0 _ _).drew) HB5.out (.of_below (alloc_below _ _)) HG.out HCR.out (hp1 _ _ rfl) (.inl ⟨by simp only [World.size_alloc, hdr]; omega, hp3 w0 _ _ (by omega)⟩) ⟨by omega, by omega⟩ ⟨by omega, by omega⟩
theorem mt3 {w0 w5 : World} {ks : List LK} {Z : Array Value} {n g cp s : Nat} (HZ : Hid (Z.toList = intsV (List.replicate n 0))) (hs : w0.heap.size = s) (HG : Hid (((((w0.alloc (.cells #[] 39)).alloc (.cells Z 3)).alloc (.cells #[.slice none 0 0, .slice none 0 0, .int .i64 0] 27)).drew).heap.size ≤ g)) (HCR : Hid (CR w5 g (keysV ks))) (HB5 : Hid (Below ((((w0.alloc (.cells #[] 39)).alloc (.cells Z 3)).alloc (.cells #[.slice none 0 0, .slice none 0 0, .int .i64 0] 27)).drew).heap.size ((((w0.alloc (.cells #[] 39)).alloc (.cells Z 3)).alloc (.cells #[.slice none 0 0, .slice none 0 0, .int .i64 0] 27)).drew) w5)) :
    Made w0 (((w5.setCell ⟨s + 1 + 1, 0, none⟩ (.slice (some ⟨g, 0, none⟩) n cp)).setCell ⟨s + 1 + 1, 1, none⟩ (.slice (some ⟨s + 1, 0, none⟩) n n)).setCell ⟨s + 1 + 1, 2, none⟩ (.int .i64 0)) ks (List.replicate n 0) 0 n (s + 1 + 1) g (s + 1) cp := by
  have h1 := HG.out; have h2 := HB5.out.size; have h3 := HCR.out.lt
  simp only [World.size_alloc, hdr] at h1 h2
  exact made_of HZ ((alloc3_below w0 _ _ _).drew) HB5.out (((chg_set _ 0 _).trans (chg_set _ 1 _)).trans (chg_set _ 2 _)) HG.out HCR.out (Row3.of_zero HB5.out (hq32 w0 _ _ _ (by omega)) (by simp only [World.size_alloc, hdr]; omega) (fun h => h.set _ _ _)) (.inl ⟨by simp only [World.size_alloc, hdr]; omega, hq31 w0 _ _ _ (by omega)⟩) ⟨by omega, by omega⟩ ⟨by omega, by omega⟩
theorem mt4 {w0 w5 : World} {ks : List LK} {Z : Array Value} {n g cp s : Nat} (HZ : Hid (Z.toList = intsV (List.replicate n 0))) (hs : w0.heap.size = s) (HG : Hid ((((w0.alloc (.cells #[] 39)).alloc (.cells #[.slice none 0 0, .slice none 0 0, .int .i64 0] 27)).drew).heap.size ≤ g)) (HCR : Hid (CR w5 g (keysV ks))) (HB5 : Hid (Below (((w0.alloc (.cells #[] 39)).alloc (.cells #[.slice none 0 0, .slice none 0 0, .int .i64 0] 27)).drew).heap.size (((w0.alloc (.cells #[] 39)).alloc (.cells #[.slice none 0 0, .slice none 0 0, .int .i64 0] 27)).drew) w5)) :
    Made w0 ((((w5.setCell ⟨s + 1, 0, none⟩ (.slice (some ⟨g, 0, none⟩) n cp)).setCell ⟨s + 1, 1, none⟩ (.slice (some ⟨w5.heap.size, 0, none⟩) n n)).setCell ⟨s + 1, 2, none⟩ (.int .i64 0)).alloc (.cells Z 3)) ks (List.replicate n 0) 0 n (s + 1) g (w5.heap.size) cp := by
  have h1 := HG.out; have h2 := HB5.out.size; have h3 := HCR.out.lt
  simp only [World.size_alloc, hdr] at h1 h2
  exact made_of HZ ((alloc2_below w0 _ _).drew) HB5.out ((((chg_set _ 0 _).trans (chg_set _ 1 _)).trans (chg_set _ 2 _)).trans (.of_below (alloc_below _ _))) HG.out HCR.out (Row3.of_zero HB5.out (hp3 w0 _ _ (by omega)) (by simp only [World.size_alloc, hdr]; omega) (fun h => (h.set _ _ _).below (alloc_below _ _) (Nat.le_refl _))) (.inr ⟨hp1 _ _ (by simp [World.setCell]), Nat.le_refl _⟩) ⟨by omega, by omega⟩ ⟨by omega, by omega⟩
theorem mt5 {w0 w5 : World} {ks : List LK} {Z : Array Value} {n g cp s : Nat} (HZ : Hid (Z.toList = intsV (List.replicate n 0))) (hs : w0.heap.size = s) (HG : Hid (((((w0.alloc (.cells #[] 39)).alloc (.cells #[.slice none 0 0, .slice none 0 0, .int .i64 0] 27)).alloc (.cells Z 3)).drew).heap.size ≤ g)) (HCR : Hid (CR w5 g (keysV ks))) (HB5 : Hid (Below ((((w0.alloc (.cells #[] 39)).alloc (.cells #[.slice none 0 0, .slice none 0 0, .int .i64 0] 27)).alloc (.cells Z 3)).drew).heap.size ((((w0.alloc (.cells #[] 39)).alloc (.cells #[.slice none 0 0, .slice none 0 0, .int .i64 0] 27)).alloc (.cells Z 3)).drew) w5)) :
    Made w0 (((w5.setCell ⟨s + 1, 0, none⟩ (.slice (some ⟨g, 0, none⟩) n cp)).setCell ⟨s + 1, 1, none⟩ (.slice (some ⟨s + 1 + 1, 0, none⟩) n n)).setCell ⟨s + 1, 2, none⟩ (.int .i64 0)) ks (List.replicate n 0) 0 n (s + 1) g (s + 1 + 1) cp := by
  have h1 := HG.out; have h2 := HB5.out.size; have h3 := HCR.out.lt
  simp only [World.size_alloc, hdr] at h1 h2
  exact made_of HZ ((alloc3_below w0 _ _ _).drew) HB5.out (((chg_set _ 0 _).trans (chg_set _ 1 _)).trans (chg_set _ 2 _)) HG.out HCR.out (Row3.of_zero HB5.out (hq31 w0 _ _ _ (by omega)) (by simp only [World.size_alloc, hdr]; omega) (fun h => h.set _ _ _)) (.inl ⟨by simp only [World.size_alloc, hdr]; omega, hq32 w0 _ _ _ (by omega)⟩) ⟨by omega, by omega⟩ ⟨by omega, by omega⟩
theorem mt6 {w0 w5 : World} {ks : List LK} {Z : Array Value} {n g cp s : Nat} (HZ : Hid (Z.toList = intsV (List.replicate n 0))) (hs : w0.heap.size = s) (HG : Hid ((((w0.alloc (.cells Z 3)).alloc (.cells #[] 39)).drew).heap.size ≤ g)) (HCR : Hid (CR w5 g (keysV ks))) (HB5 : Hid (Below (((w0.alloc (.cells Z 3)).alloc (.cells #[] 39)).drew).heap.size (((w0.alloc (.cells Z 3)).alloc (.cells #[] 39)).drew) w5)) :
    Made w0 (w5.alloc (.cells #[.slice (some ⟨g, 0, none⟩) n cp, .slice (some ⟨s, 0, none⟩) n n, .int .i64 0] 27)) ks (List.replicate n 0) 0 n (w5.heap.size) g (s) cp := by
  have h1 := HG.out; have h2 := HB5.out.size; have h3 := HCR.out.lt
  simp only [World.size_alloc, hdr] at h1 h2
  exact made_of HZ ((alloc2_below w0 _ _).drew) HB5.out (.of_below (alloc_below _ _)) HG.out HCR.out (hp1 _ _ rfl) (.inl ⟨by simp only [World.size_alloc, hdr]; omega, hp2' w0 _ _ (by omega)⟩) ⟨by omega, by omega⟩ ⟨by omega, by omega⟩
theorem mt7 {w0 w5 : World} {ks : List LK} {Z : Array Value} {n g cp s : Nat} (HZ : Hid (Z.toList = intsV (List.replicate n 0))) (hs : w0.heap.size = s) (HG : Hid (((((w0.alloc (.cells Z 3)).alloc (.cells #[] 39)).alloc (.cells #[.slice none 0 0, .slice none 0 0, .int .i64 0] 27)).drew).heap.size ≤ g)) (HCR : Hid (CR w5 g (keysV ks))) (HB5 : Hid (Below ((((w0.alloc (.cells Z 3)).alloc (.cells #[] 39)).alloc (.cells #[.slice none 0 0, .slice none 0 0, .int .i64 0] 27)).drew).heap.size ((((w0.alloc (.cells Z 3)).alloc (.cells #[] 39)).alloc (.cells #[.slice none 0 0, .slice none 0 0, .int .i64 0] 27)).drew) w5)) :
    Made w0 (((w5.setCell ⟨s + 1 + 1, 0, none⟩ (.slice (some ⟨g, 0, none⟩) n cp)).setCell ⟨s + 1 + 1, 1, none⟩ (.slice (some ⟨s, 0, none⟩) n n)).setCell ⟨s + 1 + 1, 2, none⟩ (.int .i64 0)) ks (List.replicate n 0) 0 n (s + 1 + 1) g (s) cp := by
  have h1 := HG.out; have h2 := HB5.out.size; have h3 := HCR.out.lt
  simp only [World.size_alloc, hdr] at h1 h2
  exact made_of HZ ((alloc3_below w0 _ _ _).drew) HB5.out (((chg_set _ 0 _).trans (chg_set _ 1 _)).trans (chg_set _ 2 _)) HG.out HCR.out (Row3.of_zero HB5.out (hq32 w0 _ _ _ (by omega)) (by simp only [World.size_alloc, hdr]; omega) (fun h => h.set _ _ _)) (.inl ⟨by simp only [World.size_alloc, hdr]; omega, hq30 w0 _ _ _ (by omega)⟩) ⟨by omega, by omega⟩ ⟨by omega, by omega⟩
theorem mt8 {w0 w5 : World} {ks : List LK} {Z : Array Value} {n g cp s : Nat} (HZ : Hid (Z.toList = intsV (List.replicate n 0))) (hs : w0.heap.size = s) (HG : Hid (((((w0.alloc (.cells Z 3)).alloc (.cells #[.slice none 0 0, .slice none 0 0, .int .i64 0] 27)).alloc (.cells #[] 39)).drew).heap.size ≤ g)) (HCR : Hid (CR w5 g (keysV ks))) (HB5 : Hid (Below ((((w0.alloc (.cells Z 3)).alloc (.cells #[.slice none 0 0, .slice none 0 0, .int .i64 0] 27)).alloc (.cells #[] 39)).drew).heap.size ((((w0.alloc (.cells Z 3)).alloc (.cells #[.slice none 0 0, .slice none 0 0, .int .i64 0] 27)).alloc (.cells #[] 39)).drew) w5)) :
    Made w0 (((w5.setCell ⟨s + 1, 0, none⟩ (.slice (some ⟨g, 0, none⟩) n cp)).setCell ⟨s + 1, 1, none⟩ (.slice (some ⟨s, 0, none⟩) n n)).setCell ⟨s + 1, 2, none⟩ (.int .i64 0)) ks (List.replicate n 0) 0 n (s + 1) g (s) cp := by
  have h1 := HG.out; have h2 := HB5.out.size; have h3 := HCR.out.lt
  simp only [World.size_alloc, hdr] at h1 h2
  exact made_of HZ ((alloc3_below w0 _ _ _).drew) HB5.out (((chg_set _ 0 _).trans (chg_set _ 1 _)).trans (chg_set _ 2 _)) HG.out HCR.out (Row3.of_zero HB5.out (hq31 w0 _ _ _ (by omega)) (by simp only [World.size_alloc, hdr]; omega) (fun h => h.set _ _ _)) (.inl ⟨by simp only [World.size_alloc, hdr]; omega, hq30 w0 _ _ _ (by omega)⟩) ⟨by omega, by omega⟩ ⟨by omega, by omega⟩
theorem mt9 {w0 w5 : World} {ks : List LK} {Z : Array Value} {n g cp s : Nat} (HZ : Hid (Z.toList = intsV (List.replicate n 0))) (hs : w0.heap.size = s) (HG : Hid ((((w0.alloc (.cells #[.slice none 0 0, .slice none 0 0, .int .i64 0] 27)).alloc (.cells #[] 39)).drew).heap.size ≤ g)) (HCR : Hid (CR w5 g (keysV ks))) (HB5 : Hid (Below (((w0.alloc (.cells #[.slice none 0 0, .slice none 0 0, .int .i64 0] 27)).alloc (.cells #[] 39)).drew).heap.size (((w0.alloc (.cells #[.slice none 0 0, .slice none 0 0, .int .i64 0] 27)).alloc (.cells #[] 39)).drew) w5)) :
    Made w0 ((((w5.setCell ⟨s, 0, none⟩ (.slice (some ⟨g, 0, none⟩) n cp)).setCell ⟨s, 1, none⟩ (.slice (some ⟨w5.heap.size, 0, none⟩) n n)).setCell ⟨s, 2, none⟩ (.int .i64 0)).alloc (.cells Z 3)) ks (List.replicate n 0) 0 n (s) g (w5.heap.size) cp := by
  have h1 := HG.out; have h2 := HB5.out.size; have h3 := HCR.out.lt
  simp only [World.size_alloc, hdr] at h1 h2
  exact made_of HZ ((alloc2_below w0 _ _).drew) HB5.out ((((chg_set _ 0 _).trans (chg_set _ 1 _)).trans (chg_set _ 2 _)).trans (.of_below (alloc_below _ _))) HG.out HCR.out (Row3.of_zero HB5.out (hp2' w0 _ _ (by omega)) (by simp only [World.size_alloc, hdr]; omega) (fun h => (h.set _ _ _).below (alloc_below _ _) (Nat.le_refl _))) (.inr ⟨hp1 _ _ (by simp [World.setCell]), Nat.le_refl _⟩) ⟨by omega, by omega⟩ ⟨by omega, by omega⟩
theorem mt10 {w0 w5 : World} {ks : List LK} {Z : Array Value} {n g cp s : Nat} (HZ : Hid (Z.toList = intsV (List.replicate n 0))) (hs : w0.heap.size = s) (HG : Hid (((((w0.alloc (.cells #[.slice none 0 0, .slice none 0 0, .int .i64 0] 27)).alloc (.cells #[] 39)).alloc (.cells Z 3)).drew).heap.size ≤ g)) (HCR : Hid (CR w5 g (keysV ks))) (HB5 : Hid (Below ((((w0.alloc (.cells #[.slice none 0 0, .slice none 0 0, .int .i64 0] 27)).alloc (.cells #[] 39)).alloc (.cells Z 3)).drew).heap.size ((((w0.alloc (.cells #[.slice none 0 0, .slice none 0 0, .int .i64 0] 27)).alloc (.cells #[] 39)).alloc (.cells Z 3)).drew) w5)) :
    Made w0 (((w5.setCell ⟨s, 0, none⟩ (.slice (some ⟨g, 0, none⟩) n cp)).setCell ⟨s, 1, none⟩ (.slice (some ⟨s + 1 + 1, 0, none⟩) n n)).setCell ⟨s, 2, none⟩ (.int .i64 0)) ks (List.replicate n 0) 0 n (s) g (s + 1 + 1) cp := by
  have h1 := HG.out; have h2 := HB5.out.size; have h3 := HCR.out.lt
  simp only [World.size_alloc, hdr] at h1 h2
  exact made_of HZ ((alloc3_below w0 _ _ _).drew) HB5.out (((chg_set _ 0 _).trans (chg_set _ 1 _)).trans (chg_set _ 2 _)) HG.out HCR.out (Row3.of_zero HB5.out (hq30 w0 _ _ _ (by omega)) (by simp only [World.size_alloc, hdr]; omega) (fun h => h.set _ _ _)) (.inl ⟨by simp only [World.size_alloc, hdr]; omega, hq32 w0 _ _ _ (by omega)⟩) ⟨by omega, by omega⟩ ⟨by omega, by omega⟩
theorem mt11 {w0 w5 : World} {ks : List LK} {Z : Array Value} {n g cp s : Nat} (HZ : Hid (Z.toList = intsV (List.replicate n 0))) (hs : w0.heap.size = s) (HG : Hid (((((w0.alloc (.cells #[.slice none 0 0, .slice none 0 0, .int .i64 0] 27)).alloc (.cells Z 3)).alloc (.cells #[] 39)).drew).heap.size ≤ g)) (HCR : Hid (CR w5 g (keysV ks))) (HB5 : Hid (Below ((((w0.alloc (.cells #[.slice none 0 0, .slice none 0 0, .int .i64 0] 27)).alloc (.cells Z 3)).alloc (.cells #[] 39)).drew).heap.size ((((w0.alloc (.cells #[.slice none 0 0, .slice none 0 0, .int .i64 0] 27)).alloc (.cells Z 3)).alloc (.cells #[] 39)).drew) w5)) :
    Made w0 (((w5.setCell ⟨s, 0, none⟩ (.slice (some ⟨g, 0, none⟩) n cp)).setCell ⟨s, 1, none⟩ (.slice (some ⟨s + 1, 0, none⟩) n n)).setCell ⟨s, 2, none⟩ (.int .i64 0)) ks (List.replicate n 0) 0 n (s) g (s + 1) cp := by
  have h1 := HG.out; have h2 := HB5.out.size; have h3 := HCR.out.lt
  simp only [World.size_alloc, hdr] at h1 h2
  exact made_of HZ ((alloc3_below w0 _ _ _).drew) HB5.out (((chg_set _ 0 _).trans (chg_set _ 1 _)).trans (chg_set _ 2 _)) HG.out HCR.out (Row3.of_zero HB5.out (hq30 w0 _ _ _ (by omega)) (by simp only [World.size_alloc, hdr]; omega) (fun h => h.set _ _ _)) (.inl ⟨by simp only [World.size_alloc, hdr]; omega, hq31 w0 _ _ _ (by omega)⟩) ⟨by omega, by omega⟩ ⟨by omega, by omega⟩
theorem Made.below_ {w wx : World} {ks : List LK} {L : List Int} {win : Int} {n tb kb lb cp : Nat} (h : Made w wx ks L win n tb kb lb cp) : Below w.heap.size w wx := h.below
theorem Made.lift {w wx wy : World} {ks : List LK} {L : List Int} {win : Int} {n tb kb lb cp : Nat} (h : Made w wx ks L win n tb kb lb cp) (hb : Below wx.heap.size wx wy) : Made w wy ks L win n tb kb lb cp :=
  ⟨h.row.below hb (Nat.le_refl _), h.keys.below hb h.keys.lt, h.lose.below hb h.lose.lt, h.ne, h.new, eb_of (Made.below_ h) hb (Nat.le_refl _)⟩
set_option maxRecDepth 100000 in
set_option maxHeartbeats 8000000 in
theorem tree_any (A : Option Addr) (c : Nat) (ks : List LK) (w : World) (hf : KsAt w A ks) (hk : keysE ks = 0) :
    Calls Try.prog 41 #[.slice A ks.length c] w fun e w' => ∃ kb lb cp cl, e = .returned (.agg #[.slice (some ⟨kb, 0, none⟩) ks.length cp, .slice (some ⟨lb, 0, none⟩) ks.length cl, .int .i64 (wnr ks : Nat)]) ∧ Tree w w' kb lb ks (loL ks) := by
  obtain ⟨h1, h32, hall⟩ := keysE_ok hk
  have hne : ks ≠ [] := fun e => by subst e; simp at h1
  obtain ⟨b, off, rfl, hbl, hcell⟩ := hf.cells hne
  have HC := Lib.hid (fun (w' : World) (hb : Below w.heap.size w w') (j : Nat) (u : Value) (hj : (keysV ks)[j]? = some u) => by
    have h := (hb.cell (p := ⟨b, off + j, none⟩) hbl).trans (hcell j u hj)
    rw [← add_at' b off j] at h; exact h)
  have HP := Lib.hid (fun (i : Nat) (h1 : 1 ≤ i) (h2 : i < 2 * ks.length) (w' : World) (hb : Below w.heap.size w w') => player_any (some ⟨b, off, none⟩) c ks ks.length rfl h32 hall _ i (Nat.le_refl _) h1 h2 w' (hf.below hb (Nat.le_refl _)))
  have HRW := Lib.hid (loL_row ks)
  have HWR : Hid (wnr ks = Lo.pl (wn ks) ks.length 1) := Lib.hid rfl
  have HKL := Lib.hid (keysV_len ks)
  obtain ⟨i0, hi, hz0, hz1, hz2⟩ := info_parts infoLK
  obtain ⟨n, hnn⟩ : ∃ n, ks.length = n := ⟨_, rfl⟩
  rw [hnn] at h1 h32 HP HRW HWR HKL ⊢
  have HN := Lib.hid hnn
  generalize wnr ks = ww at *
  generalize loL ks = LL at *
  obtain ⟨Z, HZ, hmk⟩ := make_row n (by omega)
  clear hf hk hne hcell hnn hall
  go_enter Try.func41, Try.ntmps41
  go_upto_region 1 with fail
  go_cut [3] (fun tv wx => ∃ tb kb lb cp, tv = .pointer (some ⟨tb, 0, none⟩) ∧ Made (w.alloc (.cells #[.slice none 0 0, .slice none 0 0, .int .i64 0] 27)) wx ks (List.replicate n 0) 0 n tb kb lb cp)
  case first =>
    go_region_law ((refine step_append_grows (by rfl) _ _ 22 (by rfl) 39 i0 (.agg #[.string ⟨#[]⟩, .bool false]) 2 24 Try.underlying22 hi hz0 hz1 hz2 rfl (by decide) _ 0 0 [] (by rfl) (fun _ => ⟨rfl, rfl⟩) rfl (fun _ _ j u hj => by simp at hj) ⟨b, off, none⟩ n c (keysV ks) (by rfl) HKL.out (HC.out _ (by first | exact (alloc2_below _ _ _).drew | exact (alloc3_below _ _ _ _).drew | exact (alloc4_below _ _ _ _ _).drew)) (keysV_one _) (by omega) (by unfold maxLen; omega) (by omega) ?_; intro v1 w5 hown hgrow; rw [Nat.zero_add, List.nil_append] at hown; obtain ⟨g, cp, rfl⟩ : ∃ g cap, v1 = .slice (some ⟨g, 0, none⟩) n cap := (by rcases hown.2 with ⟨_, h0⟩ | ⟨g, cap, cur, hv, _⟩; exact absurd h0 (by omega); exact ⟨g, cap, hv⟩); have HG := Lib.hid (hown.lt g rfl).1; have HCR := Lib.hid (CR.of_own hown (hown.lt g rfl).2); have hb5 := (Below.refl _ _).grown hgrow (Nat.le_refl _) (fun k hk => by cases hk); have HB5 := Lib.hid hb5; obtain ⟨hcc, hff⟩ := bcell hb5; (try have : w.heap.size + 1 < w5.heap.size := by have := hb5.size; first | omega | (simp at this; omega)); (try have : w.heap.size + 1 + 1 < w5.heap.size := by have := hb5.size; first | omega | (simp at this; omega)); (try have : w.heap.size + 1 + 1 + 1 < w5.heap.size := by have := hb5.size; first | omega | (simp at this; omega)); clear hb5 hown hgrow))
    all_goals
      go_wp2_with fail
      go_meet
    · exact ⟨_, g, _, cp, rfl, mt0 HZ rfl HG HCR HB5⟩
    · exact ⟨_, g, _, cp, rfl, mt1 HZ rfl HG HCR HB5⟩
    · exact ⟨_, g, _, cp, rfl, mt2 HZ (by simp) HG HCR HB5⟩
    · exact ⟨_, g, _, cp, rfl, mt3 HZ (by simp) HG HCR HB5⟩
    · exact ⟨_, g, _, cp, rfl, mt4 HZ (by simp) HG HCR HB5⟩
    · exact ⟨_, g, _, cp, rfl, mt5 HZ (by simp) HG HCR HB5⟩
    · exact ⟨_, g, _, cp, rfl, mt6 HZ (by simp) HG HCR HB5⟩
    · exact ⟨_, g, _, cp, rfl, mt7 HZ (by simp) HG HCR HB5⟩
    · exact ⟨_, g, _, cp, rfl, mt8 HZ (by simp) HG HCR HB5⟩
    · exact ⟨_, g, _, cp, rfl, mt9 HZ (by simp) HG HCR HB5⟩
    · exact ⟨_, g, _, cp, rfl, mt10 HZ (by simp) HG HCR HB5⟩
    · exact ⟨_, g, _, cp, rfl, mt11 HZ (by simp) HG HCR HB5⟩
  case rest =>
    obtain ⟨tb, kb, lb, cp, rfl, hM⟩ := hcut
    have HM := Lib.hid hM
    clear hM hmk hi hz0 hz1 hz2 HC
    go_wp2_with fail
    go_loopw [4] (fun nv wr => ∃ (m : Nat) (L1 : List Int), nv = .int .i64 m ∧ 1 ≤ m ∧ m ≤ n ∧ Hid (L1.length = n ∧ L1.getD 0 0 = 0 ∧ (∀ i, 1 ≤ i → i < m → L1.getD i 0 = (Lo.lo (wn ks) n i : Int)) ∧ Made (w.alloc (.cells #[.slice none 0 0, .slice none 0 0, .int .i64 0] 27)) wr ks L1 0 n tb kb lb cp)) (fun nv _ => n - (intOf nv).toNat)
    case atStart => exact ⟨1, List.replicate n 0, rfl, Nat.le_refl _, h1, Lib.hid ⟨by simp, by rw [List.getD_eq_getElem?_getD, List.getElem?_replicate]; split <;> rfl, fun i _ _ => by omega, HM.out⟩⟩
    case round =>
      obtain ⟨m, L1, rfl, hm1, hmn, HS⟩ := hrel
      have HBW : Hid (Below w.heap.size w wr) := Lib.hid ((alloc_below w _).trans (HS.out.2.2.2.below.mono (by rw [World.size_alloc]; omega)))
      by_cases hlt : m < n
      · have hr := HS.out.2.2.2.row
        have t1 := hr.c1
        obtain ⟨lc, lf⟩ := HS.out.2.2.2.lose.int (i := m) (by rw [HS.out.1]; exact hlt)
        have hlt1 := hr.lt
        have hlt2 := HS.out.2.2.2.lose.lt
        have hne := HS.out.2.2.2.ne
        have JP : Hid (∀ w', Below wr.heap.size wr w' → Calls Try.prog 58 #[.slice (some ⟨b, off, none⟩) n c, .int .i64 m] w' fun e w'' => e = .returned (.tuple #[.int .i64 (Lo.pl (wn ks) n m : Nat), .int .i64 (Lo.lo (wn ks) n m : Nat)]) ∧ Below w'.heap.size w' w'') := Lib.hid (fun w' hb => by
          have K := HP.out m (by omega) (by omega) w' (eb_of HBW.out hb (Nat.le_refl _))
          rw [if_neg (by omega)] at K; exact K)
        obtain ⟨lm, HLE⟩ : ∃ lm, Hid (Lo.lo (wn ks) n m = lm) := ⟨_, Lib.hid rfl⟩
        rw [HLE.out] at JP
        generalize Lo.pl (wn ks) n m = pm at *
        have HFF := Lib.hid (Below.refl wr.heap.size wr)
        have HKP : Hid (∀ w', Chg (fun k => k = lb) wr w' → Chg (fun k => k = lb) wr w' ∧ w'.cell? ⟨tb, 1, none⟩ = some (.slice (some ⟨lb, 0, none⟩) n n)) := Lib.hid (fun w' h => ⟨h, h.cell t1 hne.2.1⟩)
        have HGG : Hid (∀ w', Below wr.heap.size wr w' → w'.cell? ⟨lb, m, none⟩ = some (.int .i64 (L1.getD m 0)) ∧ w'.frozen? ⟨lb, m, none⟩ = false) := Lib.hid (fun w' h =>
          ⟨(h.cell (p := ⟨lb, m, none⟩) hlt2).trans lc, (h.frozen (p := ⟨lb, m, none⟩) hlt2).trans lf⟩)
        have hmz : (m : Int) < (n : Int) := by omega
        clear hr hne
        go_wp2_with fail
        go_region_held3 (fun w' => Chg (fun k => k = lb) wr w' ∧ w'.cell? ⟨tb, 1, none⟩ = some (.slice (some ⟨lb, 0, none⟩) n n))
          (first
            | (exact HKP.out _ (Chg.of_below (by assumption)))
            | (exact HKP.out _ (Chg.of_below HFF.out))
            | (exact HKP.out _ (Chg.of_below (below_drewN' 1)))
            | (exact HKP.out _ ((Chg.of_below (by assumption)).trans (chg_set lb m _))))
          (first
            | (go_at_call 58; refine (JP.out _ (by first | assumption | exact HFF.out | exact below_drewN' 1)).mono ?_; rintro e w5 ⟨rfl, hb5⟩; have hb6 : Below wr.heap.size wr w5 := eb_of (by first | assumption | exact HFF.out | exact below_drewN' 1) hb5 (Nat.le_refl _); clear hb5; obtain ⟨z2, z3⟩ := HGG.out _ hb6))
        all_goals
          have HB6 := Lib.hid (by assumption : Below wr.heap.size wr _)
          clear hb6
          go_wp2_with fail
          go_roundw
          case rel =>
            have hM := HS.out.2.2.2
            have hm5 := hM.lift HB6.out
            refine ⟨m + 1, L1.set m lm, by go_num, by omega, by omega, Lib.hid ⟨by simp [HS.out.1], ?_, fun i a b => ?_, hm5.set (by rw [HS.out.1]; exact hlt) _⟩⟩
            · rw [Lo.getD_set (by rw [HS.out.1]; exact hlt), if_neg (by omega)]; exact HS.out.2.1
            · rw [Lo.getD_set (by rw [HS.out.1]; exact hlt)]
              split
              · rename_i h; rw [← h, HLE.out]
              · exact HS.out.2.2.1 i a (by omega)
          case measure => simp [intOf]; omega
      · obtain rfl : m = n := by omega
        have HL : Hid (L1 = LL) := Lib.hid (Row_eq ⟨HS.out.1, HS.out.2.1, fun i a b => HS.out.2.2.1 i a b⟩ HRW.out)
        have JP : Hid (Calls Try.prog 58 #[.slice (some ⟨b, off, none⟩) m c, .int .i64 1] wr fun e w'' => ∃ s : Int, e = .returned (.tuple #[.int .i64 (ww : Int), .int .i64 s]) ∧ Below wr.heap.size wr w'') := Lib.hid (by
          refine (HP.out 1 (by omega) (by omega) wr HBW.out).mono ?_
          rintro e w'' ⟨rfl, hb⟩
          exact ⟨_, by rw [HWR.out], hb⟩)
        have HM5 := Lib.hid HS.out.2.2.2
        clear HS HM
        go_wp2_with fail
        refine JP.out.mono ?_
        rintro e w5 ⟨s, rfl, hb⟩
        have HM6 := Lib.hid (HM5.out.lift hb)
        clear hb JP HM5
        have hr := HM6.out.row
        have t0 := hr.c0
        have t1 := hr.c1
        have t2 := hr.c2
        have tf := hr.fz 2
        have HR0 : Hid (Row3 w5 w.heap.size 27 (.slice none 0 0) (.slice none 0 0) (.int .i64 0)) := Lib.hid ((HM6.out.below.block _ (by simp)).trans (heap_alloc_new w _))
        have hnw := HM6.out.new
        simp only [World.size_alloc] at hnw
        have hnw1 : w.heap.size ≠ tb := by omega
        have r0 := HR0.out.c0
        have r1 := HR0.out.c1
        have r2 := HR0.out.c2
        have z0 := HR0.out.fz 0
        have z1 := HR0.out.fz 1
        have z2 := HR0.out.fz 2
        have hc1 : Chg (fun k => k = tb) w5 (w5.setCell ⟨tb, 2, none⟩ (.int .i64 (ww : Int))) := chg_set tb 2 _
        clear hr
        go_wp2_with fail
        have HX := (HR0.out.chg hc1 hnw1).set (.slice (some ⟨kb, 0, none⟩) m cp) (.slice (some ⟨lb, 0, none⟩) m m) (.int .i64 (ww : Int))
        have k0 := HX.c0
        have k1 := HX.c1
        have k2 := HX.c2
        refine bodyPost_ret (v := .agg #[.slice (some ⟨kb, 0, none⟩) m cp, .slice (some ⟨lb, 0, none⟩) m m, .int .i64 (ww : Int)]) (by simp [results, Try.f41, go_sem, k0, k1, k2]) rfl ?_
        have hm := HM6.out
        rw [HL.out] at hm
        have hc : Chg (fun k => k = tb ∨ k = w.heap.size) w5 _ := (hc1.mono (fun k h => .inl h)).trans ((((chg_set w.heap.size 0 (.slice (some ⟨kb, 0, none⟩) m cp)).trans (chg_set w.heap.size 1 (.slice (some ⟨lb, 0, none⟩) m m))).trans (chg_set w.heap.size 2 (.int .i64 (ww : Int)))).mono (fun k h => .inr h))
        have hne := hm.ne
        exact ⟨kb, lb, cp, m, rfl, hm.keys.chg hc (by omega), hm.lose.chg hc (by omega), hne.2.2, ⟨by omega, by omega⟩, ((alloc_below w _).trans (hm.below.mono (by simp))).trans (hc.below (fun k hk => by omega) (by have := hm.below.size; simp at this; omega))⟩
end Go.Proofs.Ythmipjlmmgdpmaa.KK
