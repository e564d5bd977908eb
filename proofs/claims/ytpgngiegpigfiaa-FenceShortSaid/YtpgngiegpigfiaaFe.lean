/-
  Fences, plainly: what fits a list, how many marks are less, where a key is, the shortest marks.
-/
import Derived.Test.YtpgngiegpigfiaaFc
namespace Go.Proofs.Ytpgngiegpigfiaa.KK
open Go.ChangeShapes Go.WideShapes Go.ChangeAt Go.RowKit Go.Proofs

def kl (x y : El.En) : Bool := Kl.lt (Kl.L x.1) (Kl.L y.1)
/-- keys ascend, none twice -/
def SK (l : List El.En) : Prop := l.Pairwise fun x y => kl x y = true
theorem kl_trans {x y z : El.En} (h : kl x y = true) (g : kl y z = true) : kl x z = true := Kl.lt_trans h g
theorem wrong_zero {p : Option El.En} {x : El.En} (h : wrong p x = 0) : El.chk x = 0 ∧ ∀ y, p = some y → kl y x = true := by
  unfold wrong at h
  by_cases hc : El.chk x = 0
  · rw [if_pos hc] at h
    refine ⟨hc, fun y hy => ?_⟩
    subst hy
    by_cases g : 0 ≤ Kl.ord (Kl.L y.1) (Kl.L x.1)
    · simp only at h; rw [if_pos g] at h; cases h
    · exact Kl.ord_neg.1 (by omega)
  · rw [if_neg hc] at h; exact absurd h hc
theorem scan_zero : ∀ {xs : List El.En} {i : Nat} {p : Option El.En}, (scan i p xs).2 = 0 → (∀ x ∈ xs, El.chk x = 0) ∧ SK xs ∧ ∀ y, p = some y → ∀ x ∈ xs, kl y x = true
  | [], _, _, _ => ⟨fun x hx => (by cases hx), List.Pairwise.nil, fun y _ x hx => (by cases hx)⟩
  | x :: t, i, p, h => by
    by_cases g : wrong p x = 0
    · rw [scan, if_pos g] at h
      obtain ⟨a1, a2, a3⟩ := scan_zero h
      obtain ⟨b1, b2⟩ := wrong_zero g
      refine ⟨fun z hz => ?_, List.pairwise_cons.2 ⟨a3 x rfl, a2⟩, fun y hy z hz => ?_⟩
      · rcases List.mem_cons.1 hz with rfl | hz
        · exact b1
        · exact a1 z hz
      · rcases List.mem_cons.1 hz with rfl | hz
        · exact b2 y hy
        · exact kl_trans (b2 y hy) (a3 x rfl z hz)
    · rw [scan, if_neg g] at h; exact absurd h g
/-- a list that CheckList finds nothing wrong with -/
theorem list_ok {xs : List El.En} (h : (listE xs).2 = 0) : xs.length ≤ 5000 ∧ (∀ x ∈ xs, El.chk x = 0) ∧ SK xs := by
  unfold listE at h
  by_cases g : 5000 < xs.length
  · rw [if_pos g] at h; cases h
  · rw [if_neg g] at h
    obtain ⟨a1, a2, _⟩ := scan_zero h
    exact ⟨by omega, a1, a2⟩

theorem L_inj {a b : ByteArray} (h : Kl.L a = Kl.L b) : a = b := by rw [mk_L a, mk_L b, h]
theorem ltK_irr (a : ByteArray) : ltK a a = false := Kl.lt_irrefl _
theorem ltK_trans {a b c : ByteArray} (h : ltK a b = true) (g : ltK b c = true) : ltK a c = true := Kl.lt_trans h g
theorem ltK_asymm {a b : ByteArray} (h : ltK a b = true) : ltK b a = false := Kl.lt_asymm h
theorem ltK_total {a b : ByteArray} (h : ltK a b = false) (g : ltK b a = false) : a = b := L_inj (Kl.lt_total h g)
theorem leK_lt {a b c : ByteArray} (h : ltK b a = false) (g : ltK b c = true) : ltK a c = true := Kl.le_lt h g
theorem ltK_le {a b c : ByteArray} (h : ltK a b = true) (g : ltK c b = false) : ltK a c = true := Kl.lt_le h g
theorem leK_le {a b c : ByteArray} (h : ltK b a = false) (g : ltK c b = false) : ltK c a = false := Kl.le_le h g
/-- how many marks a fence has that fits a list of n entries -/
def mk (n st : Nat) : Nat := if n = 0 then 0 else (n - 1) / st
def keyAt (xs : List El.En) (i : Nat) : ByteArray := (xs.getD i El.none).1
theorem keyAt_eq {xs : List El.En} {i : Nat} (h : i < xs.length) : keyAt xs i = xs[i].1 := by
  unfold keyAt; rw [List.getD_eq_getElem?_getD, List.getElem?_eq_getElem h]; rfl
theorem keyAt_lt {xs : List El.En} (hs : SK xs) {i j : Nat} (h : i < j) (hj : j < xs.length) : ltK (keyAt xs i) (keyAt xs j) = true := by
  rw [keyAt_eq (by omega), keyAt_eq hj]
  exact List.pairwise_iff_getElem.1 hs i j (by omega) hj h
theorem keyAt_le {xs : List El.En} (hs : SK xs) {i j : Nat} (h : i ≤ j) (hj : j < xs.length) : ltK (keyAt xs j) (keyAt xs i) = false := by
  by_cases e : i = j
  · subst e; exact ltK_irr _
  · exact ltK_asymm (keyAt_lt hs (by omega) hj)
def okM (st : Nat) (xs : List El.En) (i : Nat) (m : ByteArray) : Bool := ltK (keyAt xs ((i + 1) * st - 1)) m && !ltK (keyAt xs ((i + 1) * st)) m
def fitsAt (st : Nat) (xs : List El.En) : Nat → List ByteArray → Bool
  | _, [] => true
  | i, m :: t => okM st xs i m && fitsAt st xs (i + 1) t
def fitsF (st : Nat) (ms : List ByteArray) (xs : List El.En) : Bool := decide (ms.length = mk xs.length st) && fitsAt st xs 0 ms
theorem fitsAt_yes {st : Nat} {xs : List El.En} {ms : List ByteArray} {k : Nat} (h : k < ms.length) (g : okM st xs k ms[k] = true) : fitsAt st xs k (ms.drop k) = fitsAt st xs (k + 1) (ms.drop (k + 1)) := by
  rw [List.drop_eq_getElem_cons h, fitsAt, g, Bool.true_and]
theorem fitsAt_no {st : Nat} {xs : List El.En} {ms : List ByteArray} {k : Nat} (h : k < ms.length) (g : okM st xs k ms[k] = false) : fitsAt st xs k (ms.drop k) = false := by
  rw [List.drop_eq_getElem_cons h, fitsAt, g, Bool.false_and]
theorem fitsAt_end {st : Nat} {xs : List El.En} {ms : List ByteArray} {k : Nat} (h : ¬ k < ms.length) : fitsAt st xs k (ms.drop k) = true := by
  rw [List.drop_eq_nil_of_le (by omega)]; rfl
theorem fitsAt_all {st : Nat} {xs : List El.En} : ∀ {ms : List ByteArray} {i : Nat}, fitsAt st xs i ms = true → ∀ k (h : k < ms.length), okM st xs (i + k) ms[k] = true
  | m :: t, i, h, 0, _ => by rw [fitsAt, Bool.and_eq_true] at h; exact h.1
  | m :: t, i, h, k + 1, hk => by
    rw [fitsAt, Bool.and_eq_true] at h
    have := fitsAt_all h.2 k (by simpa using hk)
    rw [show i + 1 + k = i + (k + 1) by omega] at this
    exact this
theorem fitsAt_of {st : Nat} {xs : List El.En} : ∀ {ms : List ByteArray} {i : Nat}, (∀ k (h : k < ms.length), okM st xs (i + k) ms[k] = true) → fitsAt st xs i ms = true
  | [], _, _ => rfl
  | m :: t, i, h => by
    rw [fitsAt, Bool.and_eq_true]
    refine ⟨h 0 (by simp), fitsAt_of fun k hk => ?_⟩
    have := h (k + 1) (by simpa using hk)
    rw [show i + (k + 1) = i + 1 + k by omega] at this
    exact this
theorem fits_len {st : Nat} {ms : List ByteArray} {xs : List El.En} (h : fitsF st ms xs = true) : ms.length = mk xs.length st := by
  unfold fitsF at h; rw [Bool.and_eq_true, decide_eq_true_eq] at h; exact h.1
theorem fits_ok {st : Nat} {ms : List ByteArray} {xs : List El.En} (h : fitsF st ms xs = true) {k : Nat} (hk : k < ms.length) : ltK (keyAt xs ((k + 1) * st - 1)) ms[k] = true ∧ ltK (keyAt xs ((k + 1) * st)) ms[k] = false := by
  unfold fitsF at h; rw [Bool.and_eq_true] at h
  have := fitsAt_all h.2 k hk
  unfold okM at this
  rw [Nat.zero_add, Bool.and_eq_true, Bool.not_eq_true'] at this
  exact this
theorem fits_of {st : Nat} {ms : List ByteArray} {xs : List El.En} (h : ms.length = mk xs.length st) (g : ∀ k (hk : k < ms.length), ltK (keyAt xs ((k + 1) * st - 1)) ms[k] = true ∧ ltK (keyAt xs ((k + 1) * st)) ms[k] = false) : fitsF st ms xs = true := by
  unfold fitsF
  rw [Bool.and_eq_true, decide_eq_true_eq]
  refine ⟨h, fitsAt_of fun k hk => ?_⟩
  unfold okM
  rw [Nat.zero_add, Bool.and_eq_true, Bool.not_eq_true']
  exact g k hk
theorem mk_idx {n st i : Nat} (hst : 1 ≤ st) (h : i < mk n st) : (i + 1) * st < n := by
  unfold mk at h
  by_cases e : n = 0
  · rw [if_pos e] at h; omega
  · rw [if_neg e] at h
    have := (Nat.le_div_iff_mul_le (show 0 < st by omega)).1 (show i + 1 ≤ (n - 1) / st by omega)
    omega
theorem mk_le {n st : Nat} : mk n st ≤ n := by
  unfold mk
  by_cases e : n = 0
  · rw [if_pos e]; omega
  · rw [if_neg e]; have := Nat.div_le_self (n - 1) st; omega
theorem div_le_mk {n st j : Nat} (h : j < n) : j / st ≤ mk n st := by
  unfold mk; rw [if_neg (by omega)]; exact Nat.div_le_div_right (by omega)
theorem mk_mul {n st b : Nat} (hst : 1 ≤ st) (h : b ≤ mk n st) : b * st ≤ n := by
  unfold mk at h
  by_cases e : n = 0
  · rw [if_pos e] at h; have : b = 0 := by omega
    subst this; omega
  · rw [if_neg e] at h
    have := (Nat.le_div_iff_mul_le (show 0 < st by omega)).1 h
    omega
theorem count_cut {α : Type} (p : α → Bool) (l : List α) (r : Nat) (hr : r ≤ l.length) (h1 : ∀ i (h : i < l.length), i < r → p l[i] = true) (h2 : ∀ i (h : i < l.length), r ≤ i → p l[i] = false) : l.countP p = r := by
  conv => lhs; rw [← List.take_append_drop r l]
  rw [List.countP_append]
  have e1 : (l.take r).countP p = (l.take r).length := List.countP_eq_length.2 fun a ha => by
    obtain ⟨i, hi, rfl⟩ := List.getElem_of_mem ha
    rw [List.getElem_take]
    rw [List.length_take] at hi
    exact h1 i (by omega) (by omega)
  have e2 : (l.drop r).countP p = 0 := List.countP_eq_zero.2 fun a ha => by
    obtain ⟨i, hi, rfl⟩ := List.getElem_of_mem ha
    rw [List.getElem_drop]
    rw [List.length_drop] at hi
    rw [h2 (r + i) (by omega) (by omega)]; simp
  rw [e1, e2, List.length_take]; omega
def lessN (ms : List ByteArray) (key : ByteArray) : Nat := ms.countP fun m => ltK m key
def upN (ms : List ByteArray) (key : ByteArray) : Nat := ms.countP fun m => !ltK key m
def inN (l : List El.En) (key : ByteArray) : Nat := l.countP fun x => ltK x.1 key
theorem upN_le (ms : List ByteArray) (key : ByteArray) : upN ms key ≤ ms.length := List.countP_le_length
theorem lessN_le (ms : List ByteArray) (key : ByteArray) : lessN ms key ≤ ms.length := List.countP_le_length
theorem inN_le (l : List El.En) (key : ByteArray) : inN l key ≤ l.length := List.countP_le_length
theorem countP_mono' {α : Type} {p q : α → Bool} (h : ∀ x, p x = true → q x = true) : ∀ l : List α, l.countP p ≤ l.countP q
  | [] => Nat.le_refl _
  | x :: t => by
    have ih := countP_mono' h t
    simp only [List.countP_cons]
    cases hp : p x with
    | false => simp; omega
    | true => rw [h x hp]; simpa using ih
theorem up_mono (ms : List ByteArray) {a b : ByteArray} (h : ltK b a = false) : upN ms a ≤ upN ms b :=
  countP_mono' (fun m hm => by
    rw [Bool.not_eq_true'] at hm ⊢
    exact leK_le hm h) ms
theorem up_less (ms : List ByteArray) {a b : ByteArray} (h : ltK a b = true) : upN ms a ≤ lessN ms b :=
  countP_mono' (fun m hm => by
    rw [Bool.not_eq_true'] at hm
    exact leK_lt hm h) ms
theorem span_at {st : Nat} {ms : List ByteArray} {xs : List El.En} (hst : 1 ≤ st) (hs : SK xs) (hf : fitsF st ms xs = true) {j : Nat} (hj : j < xs.length) : upN ms (keyAt xs j) = j / st := by
  have hlen := fits_len hf
  refine count_cut _ ms (j / st) (by rw [hlen]; exact div_le_mk hj) (fun i hi hr => ?_) fun i hi hr => ?_
  · have h2 := (fits_ok hf hi).2
    have h3 : (i + 1) * st ≤ j := (Nat.le_div_iff_mul_le (show 0 < st by omega)).1 hr
    rw [Bool.not_eq_true']
    exact leK_le h2 (keyAt_le hs h3 hj)
  · have h1 := (fits_ok hf hi).1
    have h4 := mk_idx hst (by rw [← hlen]; exact hi)
    have h3 : j < (i + 1) * st := (Nat.div_lt_iff_lt_mul (show 0 < st by omega)).1 (by omega)
    rw [Bool.not_eq_false']
    exact leK_lt (keyAt_le hs (show j ≤ (i + 1) * st - 1 by omega) (by omega)) h1
theorem atE_here {key : ByteArray} {xs : List El.En} (hs : SK xs) {j : Nat} (hj : j < xs.length) (hk : xs[j].1 = key) : ∀ d k, k + d = j → atE key k (xs.drop k) = (j : Int)
  | 0, k, h => by
    obtain rfl : k = j := by omega
    exact atE_yes hj hk
  | d + 1, k, h => by
    rw [atE_no (show k < xs.length by omega) ?_]
    · exact atE_here hs hj hk d (k + 1) (by omega)
    · intro e
      have := List.pairwise_iff_getElem.1 hs k j (by omega) hj (by omega)
      unfold kl at this
      rw [e, hk, Kl.lt_irrefl] at this; cases this
theorem atE_none {key : ByteArray} : ∀ {xs : List El.En} {i : Nat}, (∀ x ∈ xs, x.1 ≠ key) → atE key i xs = -1
  | [], _, _ => rfl
  | x :: t, i, h => by
    rw [atE, if_neg (h x (by simp))]
    exact atE_none fun y hy => h y (by simp [hy])
/-- the block of a key, as a list -/
def partE (st : Nat) (ms : List ByteArray) (xs : List El.En) (key : ByteArray) : List El.En := (xs.drop (upN ms key * st)).take (min (upN ms key * st + st) xs.length - upN ms key * st)
theorem part_len {st : Nat} {ms : List ByteArray} {xs : List El.En} {key : ByteArray} (hst : 1 ≤ st) (hlen : ms.length = mk xs.length st) : upN ms key * st ≤ xs.length ∧ (partE st ms xs key).length = min (upN ms key * st + st) xs.length - upN ms key * st := by
  have h1 := mk_mul (n := xs.length) hst (show upN ms key ≤ mk xs.length st by rw [← hlen]; exact upN_le _ _)
  refine ⟨h1, ?_⟩
  unfold partE
  rw [List.length_take, List.length_drop]; omega
theorem part_at {st : Nat} {ms : List ByteArray} {xs : List El.En} {key : ByteArray} {i : Nat} (hi : i < (partE st ms xs key).length) : ∃ h : upN ms key * st + i < xs.length, (partE st ms xs key)[i] = xs[upN ms key * st + i] := by
  have hi' := hi
  unfold partE at hi'
  rw [List.length_take, List.length_drop] at hi'
  refine ⟨by omega, ?_⟩
  simp only [partE, List.getElem_take, List.getElem_drop]
theorem find_is {st : Nat} {ms : List ByteArray} {xs : List El.En} (hst : 1 ≤ st) (hs : SK xs) (hf : fitsF st ms xs = true) (key : ByteArray) :
    (∃ h : inN (partE st ms xs key) key < (partE st ms xs key).length, (partE st ms xs key)[inN (partE st ms xs key) key].1 = key ∧ atE key 0 xs = ((upN ms key * st + inN (partE st ms xs key) key : Nat) : Int)) ∨
    (atE key 0 xs = -1 ∧ ∀ h : inN (partE st ms xs key) key < (partE st ms xs key).length, (partE st ms xs key)[inN (partE st ms xs key) key].1 ≠ key) := by
  by_cases he : ∃ j, ∃ h : j < xs.length, xs[j].1 = key
  · obtain ⟨j, hj, hk⟩ := he
    have hb := span_at hst hs hf hj
    rw [keyAt_eq hj, hk] at hb
    obtain ⟨p1, p2⟩ := part_len (key := key) hst (fits_len hf)
    have h3 : j < (j / st + 1) * st := (Nat.div_lt_iff_lt_mul (show 0 < st by omega)).1 (by omega)
    have h4 : j / st * st ≤ j := Nat.div_mul_le_self j st
    rw [Nat.add_mul, Nat.one_mul] at h3
    have hin : inN (partE st ms xs key) key = j - upN ms key * st := by
      refine count_cut _ _ _ (by rw [p2, hb]; omega) (fun i hi hr => ?_) fun i hi hr => ?_
      · obtain ⟨q1, q2⟩ := part_at hi
        rw [q2]
        have := List.pairwise_iff_getElem.1 hs (upN ms key * st + i) j q1 hj (by omega)
        unfold kl at this; rw [hk] at this; exact this
      · obtain ⟨q1, q2⟩ := part_at hi
        rw [q2]
        have := keyAt_le hs (show j ≤ upN ms key * st + i by rw [hb] at hr ⊢; omega) q1
        rw [keyAt_eq q1, keyAt_eq hj, hk] at this
        exact this
    refine .inl ⟨by rw [hin, p2, hb]; omega, ?_, ?_⟩
    · obtain ⟨q1, q2⟩ := part_at (i := inN (partE st ms xs key) key) (st := st) (ms := ms) (xs := xs) (key := key) (by rw [hin, p2, hb]; omega)
      rw [q2]
      have e : upN ms key * st + inN (partE st ms xs key) key = j := by rw [hin, hb]; omega
      simp only [e]; exact hk
    · rw [hin, show upN ms key * st + (j - upN ms key * st) = j by rw [hb]; omega]
      exact atE_here hs hj hk j 0 (by omega)
  · refine .inr ⟨atE_none fun x hx e => ?_, fun h e => ?_⟩
    · obtain ⟨j, hj, rfl⟩ := List.getElem_of_mem hx
      exact he ⟨j, hj, e⟩
    · obtain ⟨q1, q2⟩ := part_at h
      rw [q2] at e
      exact he ⟨_, q1, e⟩
/-- the fence of a list -/
def btwK (a b : ByteArray) : ByteArray := ⟨(Kl.btw (Kl.L a) (Kl.L b)).toArray⟩
def makeM (st : Nat) (xs : List El.En) : List ByteArray := (List.range (mk xs.length st)).map fun i => btwK (keyAt xs ((i + 1) * st - 1)) (keyAt xs ((i + 1) * st))
theorem makeM_len (st : Nat) (xs : List El.En) : (makeM st xs).length = mk xs.length st := by simp [makeM]
theorem makeM_at {st : Nat} {xs : List El.En} {i : Nat} (h : i < (makeM st xs).length) : (makeM st xs)[i] = btwK (keyAt xs ((i + 1) * st - 1)) (keyAt xs ((i + 1) * st)) := by simp [makeM]
theorem L_btwK (a b : ByteArray) : Kl.L (btwK a b) = Kl.btw (Kl.L a) (Kl.L b) := by simp [btwK, Kl.L]
theorem btw_size {a b : List UInt8} (h : Kl.lt a b = true) : (Kl.btw a b).length ≤ b.length := by
  have := (Kl.btw_law h).2.2.1
  rw [this]
  rcases Kl.below_shape h with ⟨y, b', hc, rfl⟩ | ⟨q, x, a', y, b', hc, rfl, rfl, hxy⟩
  · rw [hc]; simp
  · rw [hc]; simp
theorem btwK_size {a b : ByteArray} (h : ltK a b = true) : (btwK a b).size ≤ b.size := by
  have := btw_size h
  rw [← L_btwK, Kl.L_length, Kl.L_length] at this; exact this
theorem mid_long {a t b : List UInt8} (h1 : Kl.lt a t = true) (h2 : Kl.lt b t = false) (h3 : Kl.lt a b = true) : (Kl.btw a b).length ≤ t.length := by
  rw [(Kl.btw_law h3).2.2.1]
  have h := Kl.cm_three a t b (Kl.lt_asymm h1) h2
  have h4 := Kl.cm_le a t
  have h5 : Kl.cm a b ≤ Kl.cm a t := by rw [h]; exact Nat.min_le_left _ _
  by_cases e : t.length = Kl.cm a b
  · have h6 : Kl.cm a t = t.length := by omega
    have h7 := Kl.cm_take a t
    rw [h6, List.take_length] at h7
    have : t <+: a := by rw [← h7]; exact List.take_prefix _ _
    rw [Kl.lt_pre t a this] at h1; cases h1
  · omega
theorem makeM_ok {st : Nat} {xs : List El.En} (hst : 1 ≤ st) (hs : SK xs) {i : Nat} (h : i < mk xs.length st) : ltK (keyAt xs ((i + 1) * st - 1)) (keyAt xs ((i + 1) * st)) = true := by
  have h4 := mk_idx hst h
  have : 1 ≤ (i + 1) * st := Nat.le_trans hst (by rw [Nat.add_mul, Nat.one_mul]; omega)
  exact keyAt_lt hs (by omega) h4
theorem make_fits {st : Nat} {xs : List El.En} (hst : 1 ≤ st) (hs : SK xs) : fitsF st (makeM st xs) xs = true := by
  refine fits_of (makeM_len st xs) fun k hk => ?_
  rw [makeM_at hk]
  have h := makeM_ok hst hs (by rw [← makeM_len st xs]; exact hk)
  have := Kl.btw_law h
  unfold ltK
  rw [L_btwK]
  exact ⟨this.1, this.2.1⟩
theorem make_short {st : Nat} {ms : List ByteArray} {xs : List El.En} (hst : 1 ≤ st) (hs : SK xs) (hf : fitsF st ms xs = true) {i : Nat} (hi : i < (makeM st xs).length) (hj : i < ms.length) :
    (makeM st xs)[i].size ≤ ms[i].size ∧ ((makeM st xs)[i].size = ms[i].size → ltK ms[i] (makeM st xs)[i] = false) := by
  rw [makeM_at hi]
  have h := makeM_ok hst hs (by rw [← makeM_len st xs]; exact hi)
  have hk := fits_ok hf hj
  refine ⟨?_, fun e => ?_⟩
  · have := mid_long hk.1 hk.2 h
    rw [← L_btwK, Kl.L_length, Kl.L_length] at this; exact this
  · unfold ltK; rw [L_btwK]
    refine (Kl.btw_law h).2.2.2.2 _ hk.1 hk.2 ?_
    rw [← L_btwK, Kl.L_length, Kl.L_length]; omega
theorem make_good {st : Nat} {xs : List El.En} (hst : 1 ≤ st ∧ st ≤ 64) (hn : xs.length ≤ 5000) (hc : ∀ x ∈ xs, El.chk x = 0) (hs : SK xs) : Good (st : Int) (makeM st xs) where
  step := by omega
  len := by
    rw [makeM_len]; unfold mk
    by_cases e : xs.length = 0
    · rw [if_pos e]; omega
    · rw [if_neg e]; have := Nat.div_le_self (xs.length - 1) st; omega
  key := fun m hm => by
    obtain ⟨i, hi, rfl⟩ := List.getElem_of_mem hm
    rw [makeM_at hi]
    have h' : i < mk xs.length st := by rw [← makeM_len st xs]; exact hi
    have h := makeM_ok hst.1 hs h'
    have h4 := mk_idx hst.1 h'
    have h5 := (El.chk_of (hc _ (List.getElem_mem h4))).1
    have := btwK_size h
    rw [← keyAt_eq h4] at h5
    omega
  asc := by
    rw [List.pairwise_iff_getElem]
    intro i j hi hj hij
    have f := make_fits hst.1 hs
    have f1 := (fits_ok f hi).2
    have f2 := (fits_ok f hj).1
    have h4 := mk_idx hst.1 (show j < mk xs.length st by rw [← makeM_len st xs]; exact hj)
    have h5 : (i + 1) * st ≤ (j + 1) * st - 1 := by
      have : (i + 1) * st + st ≤ (j + 1) * st := by
        rw [show (i + 1) * st + st = (i + 1 + 1) * st by rw [Nat.add_mul (i + 1) 1, Nat.one_mul]]
        exact Nat.mul_le_mul_right _ (by omega)
      omega
    exact leK_lt (leK_le f1 (keyAt_le hs h5 (by omega))) f2
theorem good_scan {ms : List ByteArray} : ∀ {i : Nat} {p : Option ByteArray}, (∀ m ∈ ms, m.size ≤ 32) → ms.Pairwise (fun a b => ltK a b = true) → (∀ y, p = some y → ∀ m ∈ ms, ltK y m = true) → scanM i p ms = (0, 0) := by
  induction ms with
  | nil => intros; rfl
  | cons x t ih =>
    intro i p h1 h2 h3
    rw [List.pairwise_cons] at h2
    have hx := h1 x (by simp)
    have hw : wrongM p x = 0 := by
      cases p with
      | none => exact wrongM_none hx
      | some y => exact wrongM_up hx (h3 y rfl x (by simp))
    rw [scanM, if_pos hw]
    exact ih (fun m hm => h1 m (by simp [hm])) h2.2 fun y e m hm => by cases e; exact h2.1 m hm
theorem good_chk {s : Int} {ms : List ByteArray} (h : Good s ms) : chkF s ms = (0, 0) := by
  rw [chkF_scan (by simp [stepB, h.step]) (by have := h.len; omega)]
  exact good_scan h.key h.asc fun y e => by cases e
def sizeM (ms : List ByteArray) : Nat := (ms.map (·.size)).sum
theorem sizeM_next {ms : List ByteArray} {k : Nat} (h : k < ms.length) : sizeM (ms.take (k + 1)) = sizeM (ms.take k) + ms[k].size := by
  unfold sizeM; rw [List.take_succ_eq_append_getElem h]; simp only [List.map_append, List.sum_append, List.map_cons, List.map_nil, List.sum_cons, List.sum_nil, Nat.add_zero]
theorem sizeM_le : ∀ {a b : List ByteArray}, a.length = b.length → (∀ i (h : i < a.length) (g : i < b.length), a[i].size ≤ b[i].size) → sizeM a ≤ sizeM b
  | [], [], _, _ => Nat.le_refl _
  | x :: a, y :: b, h, g => by
    have h0 := g 0 (by simp) (by simp)
    have ih := sizeM_le (a := a) (b := b) (by simpa using h) fun i hi hj => g (i + 1) (by simpa using hi) (by simpa using hj)
    unfold sizeM at ih ⊢
    simp at h0 ⊢
    omega
theorem sizeM_bound : ∀ {ms : List ByteArray}, (∀ m ∈ ms, m.size ≤ 32) → sizeM ms ≤ 32 * ms.length
  | [], _ => Nat.le_refl _
  | x :: a, h => by
    have h0 := h x (by simp)
    have ih := sizeM_bound (ms := a) fun m hm => h m (by simp [hm])
    unfold sizeM at ih ⊢
    simp at h0 ⊢
    omega
end Go.Proofs.Ytpgngiegpigfiaa.KK
