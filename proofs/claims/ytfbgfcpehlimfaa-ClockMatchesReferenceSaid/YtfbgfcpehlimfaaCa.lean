/- Plain mathematics of layer 5: numbers of true seconds that a clock can advance by, the windows that readings leave. No program is named here. -/
import Derived.Below
namespace Go.Proofs.Ytfbgfcpehlimfaa
namespace Ca

def lo (d n : Int) : Int := (1000 * n + d) / (1000 + d)
def hi (d n : Int) : Int := (1000 * n + 999) / (1000 - d)
def Fits (d x n : Int) : Prop := (1000 - d) * x - 1000 < 1000 * n ∧ 1000 * n < (1000 + d) * x + 1000

theorem lo_le (d n x : Int) (hd : 0 ≤ d) : lo d n ≤ x ↔ 1000 * n < (1000 + d) * x + 1000 := by
  have h := Int.le_ediv_iff_mul_le (a := x + 1) (b := 1000 * n + d) (c := 1000 + d) (by omega)
  unfold lo
  have e : (x + 1) * (1000 + d) = (1000 + d) * x + 1000 + d := by rw [Int.add_mul, Int.mul_comm x]; omega
  rw [e] at h
  omega
theorem le_hi (d n x : Int) (hd : d ≤ 100) : x ≤ hi d n ↔ (1000 - d) * x - 1000 < 1000 * n := by
  have h := Int.le_ediv_iff_mul_le (a := x) (b := 1000 * n + 999) (c := 1000 - d) (by omega)
  unfold hi
  rw [Int.mul_comm x] at h
  omega
theorem fits_iff (d n x : Int) (hd : 0 ≤ d) (h1 : d ≤ 100) : Fits d x n ↔ lo d n ≤ x ∧ x ≤ hi d n := by
  rw [lo_le d n x hd, le_hi d n x h1]; unfold Fits; exact And.comm
theorem lo_nonneg (d n : Int) (hd : 0 ≤ d) (hn : 0 ≤ n) : 0 ≤ lo d n := Int.ediv_nonneg (by omega) (by omega)
theorem lo_self (d n : Int) (hd : 0 ≤ d) (hn : 0 ≤ n) : lo d n ≤ n := by
  rw [lo_le d n n hd, Int.add_mul]; have := Int.mul_nonneg hd hn; omega
theorem hi_self (d n : Int) (hd : 0 ≤ d) (h1 : d ≤ 100) (hn : 0 ≤ n) : n ≤ hi d n := by
  rw [le_hi d n n h1, Int.sub_mul]; have := Int.mul_nonneg hd hn; omega
theorem hi_nonneg (d n : Int) (hd : 0 ≤ d) (h1 : d ≤ 100) (hn : 0 ≤ n) : 0 ≤ hi d n := Int.le_trans hn (hi_self d n hd h1 hn)
theorem hi_top (d n : Int) (hd : 0 ≤ d) (h1 : d ≤ 100) (hn : 0 ≤ n) (h2 : n ≤ 10000000) : hi d n ≤ 20000000 := by
  have := le_hi d n 20000001 h1
  omega
theorem lo_hi (d n : Int) (hd : 0 ≤ d) (h1 : d ≤ 100) (hn : 0 ≤ n) : lo d n ≤ hi d n := Int.le_trans (lo_self d n hd hn) (hi_self d n hd h1 hn)
theorem lo_mono (d n m : Int) (hd : 0 ≤ d) (h : n ≤ m) : lo d n ≤ lo d m := Int.ediv_le_ediv (by omega) (by omega)
theorem hi_mono (d n m : Int) (h1 : d ≤ 100) (h : n ≤ m) : hi d n ≤ hi d m := Int.ediv_le_ediv (by omega) (by omega)
theorem lo_zero (n : Int) : lo 0 n = n := by unfold lo; omega
theorem hi_zero (n : Int) : hi 0 n = n := by unfold hi; omega
theorem lo_wide (d k n : Int) (hd : 0 ≤ d) (hk : 0 ≤ k) (hn : 0 ≤ n) : lo (d + k) n ≤ lo d n := by
  have h := (lo_le d n (lo d n) hd).1 (Int.le_refl _)
  rw [lo_le (d + k) n _ (by omega)]
  have h2 := Int.mul_nonneg hk (lo_nonneg d n hd hn)
  rw [show 1000 + (d + k) = (1000 + d) + k by omega, Int.add_mul]
  omega
theorem hi_wide (d k n : Int) (hd : 0 ≤ d) (hk : 0 ≤ k) (h1 : d + k ≤ 100) (hn : 0 ≤ n) : hi d n ≤ hi (d + k) n := by
  have h := (le_hi d n (hi d n) (by omega)).1 (Int.le_refl _)
  rw [le_hi (d + k) n _ h1]
  have h2 := Int.mul_nonneg hk (hi_nonneg d n hd (by omega) hn)
  rw [show 1000 - (d + k) = (1000 - d) - k by omega, Int.sub_mul]
  omega

/-- A reading: its local second, the first and the last true second. -/
abbrev R3 := Int × Int × Int
def isT (n : Int) : Bool := decide (0 ≤ n) && decide (n ≤ 10000000)
def isD (n : Int) : Bool := decide (0 ≤ n) && decide (n ≤ 100)
def bad (nx : Int) (x : R3) : Bool := decide (x.1 < nx) || !isT x.1 || decide (x.2.1 > x.2.2) || !isT x.2.1 || !isT x.2.2
def okF : Int → List R3 → Bool
  | _, [] => true
  | nx, x :: l => !bad nx x && okF (x.1 + 1) l
def valid (d : Int) (rs : List R3) : Bool := isD d && decide (rs.length ≤ 12) && okF 0 rs
theorem isT_iff (n : Int) : isT n = true ↔ 0 ≤ n ∧ n ≤ 10000000 := by simp [isT]
theorem isD_iff (n : Int) : isD n = true ↔ 0 ≤ n ∧ n ≤ 100 := by simp [isD]
/-- What a reading of a valid clock is. -/
def Fair (x : R3) : Prop := 0 ≤ x.1 ∧ x.1 ≤ 10000000 ∧ 0 ≤ x.2.1 ∧ x.2.1 ≤ x.2.2 ∧ x.2.2 ≤ 10000000
theorem bad_iff (nx : Int) (x : R3) : bad nx x = false ↔ nx ≤ x.1 ∧ Fair x := by
  simp only [bad, isT, Fair, Bool.or_eq_false_iff, decide_eq_false_iff_not, Bool.not_eq_false', Bool.and_eq_true, decide_eq_true_eq]
  omega
theorem okF_fair : ∀ (l : List R3) (nx : Int), okF nx l = true → ∀ x ∈ l, nx ≤ x.1 ∧ Fair x
  | [], _, _, _, h => by cases h
  | y :: l, nx, h, x, hx => by
    simp only [okF, Bool.and_eq_true, Bool.not_eq_true'] at h
    have hb := (bad_iff nx y).1 h.1
    rcases List.mem_cons.1 hx with rfl | hx
    · exact hb
    · have := okF_fair l _ h.2 x hx
      exact ⟨by omega, this.2⟩
def lastNx : Int → List R3 → Int
  | nx, [] => nx
  | _, x :: l => lastNx (x.1 + 1) l
theorem okF_cut : ∀ (l r : List R3) (nx : Int), okF nx (l ++ r) = (okF nx l && okF (lastNx nx l) r)
  | [], r, nx => by simp [okF, lastNx]
  | y :: l, r, nx => by simp only [List.cons_append, okF, lastNx, okF_cut l r (y.1 + 1), Bool.and_assoc]
theorem okF_snoc : ∀ (l : List R3) (nx : Int) (x : R3), okF nx (l ++ [x]) = (okF nx l && !bad (lastNx nx l) x)
  | [], nx, x => by simp [okF, lastNx]
  | y :: l, nx, x => by
    simp only [List.cons_append, okF, lastNx, okF_snoc l (y.1 + 1) x, Bool.and_assoc]
theorem lastNx_snoc : ∀ (l : List R3) (nx : Int) (x : R3), lastNx nx (l ++ [x]) = x.1 + 1
  | [], nx, x => rfl
  | y :: l, nx, x => by simp only [List.cons_append, lastNx, lastNx_snoc l (y.1 + 1) x]
theorem valid_iff (d : Int) (rs : List R3) : valid d rs = true ↔ (0 ≤ d ∧ d ≤ 100) ∧ rs.length ≤ 12 ∧ okF 0 rs = true := by
  simp only [valid, Bool.and_eq_true, isD_iff, decide_eq_true_eq, and_assoc]
theorem valid_fair {d : Int} {rs : List R3} (h : valid d rs = true) : ∀ x ∈ rs, Fair x := fun x hx => (okF_fair rs 0 ((valid_iff d rs).1 h).2.2 x hx).2

/-- The first and the last true second that a reading leaves for the local second t. -/
def F (d t : Int) (x : R3) : Int := if t > x.1 then x.2.1 + lo d (t - x.1) else if t < x.1 then x.2.1 - hi d (x.1 - t) else x.2.1 - hi d 0
def U (d t : Int) (x : R3) : Int := if t > x.1 then x.2.2 + hi d (t - x.1) else if t < x.1 then x.2.2 - lo d (x.1 - t) else x.2.2 + hi d 0
def fst (d t : Int) (rs : List R3) : Int := rs.foldl (fun a x => max a (F d t x)) 0
def lst (d t : Int) (rs : List R3) : Int := rs.foldl (fun a x => min a (U d t x)) 10000000
theorem fst_snoc (d t : Int) (rs : List R3) (x : R3) : fst d t (rs ++ [x]) = max (fst d t rs) (F d t x) := by simp [fst, List.foldl_append]
theorem lst_snoc (d t : Int) (rs : List R3) (x : R3) : lst d t (rs ++ [x]) = min (lst d t rs) (U d t x) := by simp [lst, List.foldl_append]
theorem foldmax_le : ∀ (l : List R3) (f : R3 → Int) (a v : Int), l.foldl (fun a x => max a (f x)) a ≤ v ↔ a ≤ v ∧ ∀ x ∈ l, f x ≤ v
  | [], f, a, v => by simp
  | x :: l, f, a, v => by
    rw [List.foldl_cons, foldmax_le l f _ v, Int.max_le]
    simp only [List.mem_cons, forall_eq_or_imp, and_assoc]
theorem le_foldmin : ∀ (l : List R3) (f : R3 → Int) (a v : Int), v ≤ l.foldl (fun a x => min a (f x)) a ↔ v ≤ a ∧ ∀ x ∈ l, v ≤ f x
  | [], f, a, v => by simp
  | x :: l, f, a, v => by
    rw [List.foldl_cons, le_foldmin l f _ v, Int.le_min]
    simp only [List.mem_cons, forall_eq_or_imp, and_assoc]
theorem fst_le (d t : Int) (rs : List R3) (v : Int) : fst d t rs ≤ v ↔ 0 ≤ v ∧ ∀ x ∈ rs, F d t x ≤ v := foldmax_le rs _ 0 v
theorem le_lst (d t : Int) (rs : List R3) (v : Int) : v ≤ lst d t rs ↔ v ≤ 10000000 ∧ ∀ x ∈ rs, v ≤ U d t x := le_foldmin rs _ _ v
theorem fst_nonneg (d t : Int) (rs : List R3) : 0 ≤ fst d t rs := ((fst_le d t rs _).1 (Int.le_refl _)).1
theorem lst_top (d t : Int) (rs : List R3) : lst d t rs ≤ 10000000 := ((le_lst d t rs _).1 (Int.le_refl _)).1
theorem F_top (d t : Int) (x : R3) (hd : 0 ≤ d) (h1 : d ≤ 100) (ht : 0 ≤ t) (h2 : t ≤ 10000000) (hx : Fair x) : -20000000 ≤ F d t x ∧ F d t x ≤ 20000000 := by
  obtain ⟨a1, a2, a3, a4, a5⟩ := hx
  unfold F
  split
  · have := lo_self d (t - x.1) hd (by omega); have := lo_nonneg d (t - x.1) hd (by omega); omega
  · split
    · have := hi_nonneg d (x.1 - t) hd h1 (by omega); have := hi_top d (x.1 - t) hd h1 (by omega) (by omega); omega
    · have := hi_nonneg d 0 hd h1 (by omega); have := hi_top d 0 hd h1 (by omega) (by omega); omega
theorem U_top (d t : Int) (x : R3) (hd : 0 ≤ d) (h1 : d ≤ 100) (ht : 0 ≤ t) (h2 : t ≤ 10000000) (hx : Fair x) : -10000000 ≤ U d t x ∧ U d t x ≤ 30000000 := by
  obtain ⟨a1, a2, a3, a4, a5⟩ := hx
  unfold U
  split
  · have := hi_nonneg d (t - x.1) hd h1 (by omega); have := hi_top d (t - x.1) hd h1 (by omega) (by omega); omega
  · split
    · have := lo_self d (x.1 - t) hd (by omega); have := lo_nonneg d (x.1 - t) hd (by omega); omega
    · have := hi_nonneg d 0 hd h1 (by omega); have := hi_top d 0 hd h1 (by omega) (by omega); omega
theorem fst_top (d t : Int) (rs : List R3) (hd : 0 ≤ d) (h1 : d ≤ 100) (ht : 0 ≤ t) (h2 : t ≤ 10000000) (hx : ∀ x ∈ rs, Fair x) : fst d t rs ≤ 20000000 :=
  (fst_le d t rs _).2 ⟨by omega, fun x h => (F_top d t x hd h1 ht h2 (hx x h)).2⟩
theorem lst_low (d t : Int) (rs : List R3) (hd : 0 ≤ d) (h1 : d ≤ 100) (ht : 0 ≤ t) (h2 : t ≤ 10000000) (hx : ∀ x ∈ rs, Fair x) : -10000000 ≤ lst d t rs :=
  (le_lst d t rs _).2 ⟨by omega, fun x h => (U_top d t x hd h1 ht h2 (hx x h)).1⟩
theorem F_mono (d s t : Int) (x : R3) (hd : 0 ≤ d) (h1 : d ≤ 100) (h : s ≤ t) : F d s x ≤ F d t x := by
  unfold F
  have z := hi_nonneg d 0 hd h1 (Int.le_refl _)
  by_cases a : t > x.1
  · have n := lo_nonneg d (t - x.1) hd (by omega)
    rw [if_pos a]
    by_cases b : s > x.1
    · rw [if_pos b]; have := lo_mono d (s - x.1) (t - x.1) hd (by omega); omega
    · rw [if_neg b]
      by_cases c : s < x.1
      · rw [if_pos c]; have := hi_nonneg d (x.1 - s) hd h1 (by omega); omega
      · rw [if_neg c]; omega
  · rw [if_neg a, if_neg (by omega : ¬ s > x.1)]
    by_cases c : s < x.1
    · rw [if_pos c]
      by_cases e : t < x.1
      · rw [if_pos e]; have := hi_mono d (x.1 - t) (x.1 - s) h1 (by omega); omega
      · rw [if_neg e]; have := hi_mono d 0 (x.1 - s) h1 (by omega); omega
    · rw [if_neg c, if_neg (by omega : ¬ t < x.1)]; exact Int.le_refl _
theorem U_mono (d s t : Int) (x : R3) (hd : 0 ≤ d) (h1 : d ≤ 100) (h : s ≤ t) : U d s x ≤ U d t x := by
  unfold U
  have z := hi_nonneg d 0 hd h1 (Int.le_refl _)
  by_cases a : t > x.1
  · have n := hi_nonneg d (t - x.1) hd h1 (by omega)
    rw [if_pos a]
    by_cases b : s > x.1
    · rw [if_pos b]; have := hi_mono d (s - x.1) (t - x.1) h1 (by omega); omega
    · rw [if_neg b]
      by_cases c : s < x.1
      · rw [if_pos c]; have := lo_nonneg d (x.1 - s) hd (by omega); omega
      · rw [if_neg c]; have := hi_mono d 0 (t - x.1) h1 (by omega); omega
  · rw [if_neg a, if_neg (by omega : ¬ s > x.1)]
    by_cases c : s < x.1
    · rw [if_pos c]
      by_cases e : t < x.1
      · rw [if_pos e]; have := lo_mono d (x.1 - t) (x.1 - s) hd (by omega); omega
      · rw [if_neg e]; have := lo_nonneg d (x.1 - s) hd (by omega); omega
    · rw [if_neg c, if_neg (by omega : ¬ t < x.1)]; exact Int.le_refl _
theorem fst_mono (d s t : Int) (rs : List R3) (hd : 0 ≤ d) (h1 : d ≤ 100) (h : s ≤ t) : fst d s rs ≤ fst d t rs :=
  (fst_le d s rs _).2 ⟨fst_nonneg _ _ _, fun x hx => Int.le_trans (F_mono d s t x hd h1 h) (((fst_le d t rs _).1 (Int.le_refl _)).2 x hx)⟩
theorem lst_mono (d s t : Int) (rs : List R3) (hd : 0 ≤ d) (h1 : d ≤ 100) (h : s ≤ t) : lst d s rs ≤ lst d t rs :=
  (le_lst d t rs _).2 ⟨lst_top _ _ _, fun x hx => Int.le_trans (((le_lst d s rs _).1 (Int.le_refl _)).2 x hx) (U_mono d s t x hd h1 h)⟩

/-- k is where a rising condition begins to hold, below n. -/
def Edge (p : Nat → Bool) (n k : Nat) : Prop := k ≤ n ∧ (∀ i, i < k → p i = false) ∧ ∀ i, k ≤ i → i < n → p i = true
theorem Edge.unique {p : Nat → Bool} {n k j : Nat} (h : Edge p n k) (g : Edge p n j) : k = j := by
  rcases Nat.lt_trichotomy k j with c | c | c
  · have a := g.2.1 k c; rw [h.2.2 k (Nat.le_refl _) (by have := g.1; omega)] at a; cases a
  · exact c
  · have a := h.2.1 j c; rw [g.2.2 j (Nat.le_refl _) (by have := h.1; omega)] at a; cases a
theorem edge_of {p : Nat → Bool} {n k : Nat} (hm : ∀ a b, a ≤ b → b < n → p a = true → p b = true) (hk : k < n) (h0 : k = 0 ∨ p (k - 1) = false) (h1 : p k = true) : Edge p n k := by
  refine ⟨by omega, fun i hi => ?_, fun i h h2 => hm k i h h2 h1⟩
  cases e : p i with
  | false => rfl
  | true =>
    rcases h0 with h0 | h0
    · omega
    · have := hm i (k - 1) (by omega) (by omega) e; rw [h0] at this; cases this
def pL (d : Int) (rs : List R3) (t : Int) (i : Nat) : Bool := decide (lst d i rs ≥ t)
def pF (d : Int) (rs : List R3) (t : Int) (i : Nat) : Bool := decide (fst d i rs > t)
theorem pL_mono (d : Int) (rs : List R3) (t : Int) (hd : 0 ≤ d) (h1 : d ≤ 100) (a b : Nat) (h : a ≤ b) (e : pL d rs t a = true) : pL d rs t b = true := by
  simp only [pL, decide_eq_true_eq] at e ⊢
  have := lst_mono d a b rs hd h1 (by omega)
  omega
theorem pF_mono (d : Int) (rs : List R3) (t : Int) (hd : 0 ≤ d) (h1 : d ≤ 100) (a b : Nat) (h : a ≤ b) (e : pF d rs t a = true) : pF d rs t b = true := by
  simp only [pF, decide_eq_true_eq] at e ⊢
  have := fst_mono d a b rs hd h1 (by omega)
  omega
end Ca
end Go.Proofs.Ytfbgfcpehlimfaa
