/- Plain mathematics of layer 3: groups of four digits, their values, sums with carries, and decimal texts. No program is named here. -/
import Derived.Lib.ItoaNum
namespace Go.Proofs.YtflpfmkfjccmiaaGreatDoor
namespace Im

/-- The number that columns make, the lowest one first. -/
def val : List Int → Int
  | [] => 0
  | x :: l => x + 10000 * val l
def grpF : Nat → Nat → List Int
  | 0, _ => []
  | k + 1, n => if n = 0 then [] else ((n % 10000 : Nat) : Int) :: grpF k (n / 10000)
/-- The groups of a number, no zeros above the highest one that is not zero. -/
def grp (n : Nat) : List Int := grpF n n
/-- Every column is a group. -/
def Gs (l : List Int) : Prop := ∀ x ∈ l, 0 ≤ x ∧ x < 10000
theorem Gs.nil : Gs [] := fun _ h => by cases h
theorem Gs.tail {x : Int} {l : List Int} (h : Gs (x :: l)) : Gs l := fun y hy => h y (List.mem_cons_of_mem _ hy)
theorem Gs.head {x : Int} {l : List Int} (h : Gs (x :: l)) : 0 ≤ x ∧ x < 10000 := h x (by simp)
theorem Gs.cons {x : Int} {l : List Int} (h0 : 0 ≤ x) (h1 : x < 10000) (h : Gs l) : Gs (x :: l) := fun y hy => by
  rcases List.mem_cons.1 hy with rfl | hy
  · exact ⟨h0, h1⟩
  · exact h y hy
theorem Gs.append {l r : List Int} (h : Gs l) (k : Gs r) : Gs (l ++ r) := fun y hy => by
  rcases List.mem_append.1 hy with hy | hy
  · exact h y hy
  · exact k y hy
theorem Gs.take {l : List Int} (h : Gs l) (n : Nat) : Gs (l.take n) := fun y hy => h y (List.mem_of_mem_take hy)
theorem Gs.drop {l : List Int} (h : Gs l) (n : Nat) : Gs (l.drop n) := fun y hy => h y (List.mem_of_mem_drop hy)
theorem grpF_fuel : ∀ (k j n : Nat), n ≤ k → n ≤ j → grpF k n = grpF j n
  | 0, j, n, h, _ => by
    obtain rfl : n = 0 := by omega
    cases j <;> simp [grpF]
  | k + 1, 0, n, _, h => by
    obtain rfl : n = 0 := by omega
    simp [grpF]
  | k + 1, j + 1, n, h1, h2 => by
    unfold grpF
    split
    · rfl
    · rw [grpF_fuel k j (n / 10000) (by omega) (by omega)]
theorem grp_zero : grp 0 = [] := rfl
theorem grp_pos (n : Nat) (h : n ≠ 0) : grp n = ((n % 10000 : Nat) : Int) :: grp (n / 10000) := by
  obtain ⟨k, rfl⟩ : ∃ k, n = k + 1 := ⟨n - 1, by omega⟩
  show grpF (k + 1) (k + 1) = _
  rw [grpF, if_neg h]
  unfold grp
  rw [grpF_fuel k ((k + 1) / 10000) _ (by omega) (Nat.le_refl _)]
theorem grp_gs (n : Nat) : Gs (grp n) := by
  induction n using Nat.strongRecOn with
  | _ n ih =>
    by_cases h : n = 0
    · subst h; exact Gs.nil
    · rw [grp_pos n h]; exact Gs.cons (by omega) (by omega) (ih _ (by omega))
theorem grp_val (n : Nat) : val (grp n) = n := by
  induction n using Nat.strongRecOn with
  | _ n ih =>
    by_cases h : n = 0
    · subst h; rfl
    · rw [grp_pos n h, val, ih _ (by omega)]; omega
theorem val_nonneg : ∀ {l : List Int}, Gs l → 0 ≤ val l
  | [], _ => by simp [val]
  | x :: l, h => by have := val_nonneg h.tail; have := h.head; unfold val; omega
theorem val_lt : ∀ {l : List Int}, Gs l → val l < 10000 ^ l.length
  | [], _ => by simp [val]
  | x :: l, h => by
    have h1 := val_lt h.tail; have := h.head
    unfold val
    rw [List.length_cons, Int.pow_succ]; omega
theorem val_append : ∀ (l r : List Int), val (l ++ r) = val l + 10000 ^ l.length * val r
  | [], r => by simp [val]
  | x :: l, r => by
    rw [List.cons_append, val, val, val_append l r, List.length_cons, Int.pow_succ, Int.mul_add, ← Int.mul_assoc, Int.mul_comm 10000 (10000 ^ l.length)]
    omega
theorem grp_len (n k : Nat) (h : n < 10000 ^ k) : (grp n).length ≤ k := by
  induction k generalizing n with
  | zero => obtain rfl : n = 0 := by simpa using h
            simp [grp_zero]
  | succ k ih =>
    by_cases h0 : n = 0
    · subst h0; simp [grp_zero]
    · rw [grp_pos n h0, List.length_cons]
      have := ih (n / 10000) (by rw [Nat.pow_succ] at h; exact Nat.div_lt_of_lt_mul (by omega))
      omega
theorem grp_lt (n : Nat) : n < 10000 ^ (grp n).length := by
  have := val_lt (grp_gs n)
  rw [grp_val] at this
  have h2 : ((10000 ^ (grp n).length : Nat) : Int) = 10000 ^ (grp n).length := Int.natCast_pow _ _
  omega
theorem grp_nil {n : Nat} (h : grp n = []) : n = 0 := by
  have := grp_val n
  rw [h] at this; simp [val] at this; omega
theorem grp_len0 (n : Nat) : (grp n).length = 0 ↔ n = 0 := by
  constructor
  · intro h; exact grp_nil (List.eq_nil_of_length_eq_zero h)
  · rintro rfl; rfl

/-- The columns without the zeros above the highest one that is not zero. -/
def trim (l : List Int) : List Int := (l.reverse.dropWhile (· == 0)).reverse
theorem trim_snoc0 (l : List Int) : trim (l ++ [0]) = trim l := by simp [trim]
theorem trim_snoc (l : List Int) (x : Int) (h : x ≠ 0) : trim (l ++ [x]) = l ++ [x] := by
  simp [trim, h]
theorem snoc_of {α : Type} (l : List α) (h : l ≠ []) : ∃ r x, l = r ++ [x] := ⟨l.dropLast, l.getLast h, (List.dropLast_concat_getLast h).symm⟩
theorem trim_eq (n : Nat) : ∀ (l : List Int), l.length = n → ∃ k, k ≤ n ∧ trim l = l.take k ∧ (∀ j, k ≤ j → j < n → l.getD j 0 = 0) ∧ (0 < k → l.getD (k - 1) 0 ≠ 0) := by
  induction n with
  | zero => intro l h; obtain rfl := List.eq_nil_of_length_eq_zero h; exact ⟨0, by omega, rfl, fun j h1 h2 => by omega, fun h => by omega⟩
  | succ n ih =>
    intro l h
    obtain ⟨r, x, rfl⟩ := snoc_of l (by intro e; subst e; cases h)
    have hr : r.length = n := by simpa using h
    by_cases hx : x = 0
    · subst hx
      obtain ⟨k, h1, h2, h3, h4⟩ := ih r hr
      refine ⟨k, by omega, ?_, ?_, ?_⟩
      · rw [trim_snoc0, h2, List.take_append_of_le_length (by omega)]
      · intro j h5 h6
        by_cases hj : j < n
        · rw [List.getD_eq_getElem?_getD, List.getElem?_append_left (by omega), ← List.getD_eq_getElem?_getD]; exact h3 j h5 hj
        · obtain rfl : j = r.length := by omega
          simp
      · intro h5
        rw [List.getD_eq_getElem?_getD, List.getElem?_append_left (by omega), ← List.getD_eq_getElem?_getD]; exact h4 h5
    · refine ⟨n + 1, Nat.le_refl _, ?_, fun j h1 h2 => by omega, fun _ => ?_⟩
      · rw [trim_snoc r x hx, List.take_of_length_le (by omega)]
      · simp [← hr]; exact hx
theorem val_snoc (l : List Int) (x : Int) : val (l ++ [x]) = val l + 10000 ^ l.length * x := by rw [val_append]; simp [val]
theorem grp_uniq (l : List Int) (n : Nat) (h : Gs l) (hv : val l = n) (hl : ∀ x r, l = r ++ [x] → x ≠ 0) : l = grp n := by
  induction l generalizing n with
  | nil => simp [val] at hv; obtain rfl : n = 0 := by omega
           rfl
  | cons x l ih =>
    have h0 := val_nonneg h.tail
    have h1 := h.head
    unfold val at hv
    have hn : n ≠ 0 := by
      intro e
      subst e
      have hx : x = 0 := by omega
      have hz : val l = 0 := by omega
      by_cases hl0 : l = []
      · subst hl0; exact hl x [] rfl hx
      · have := ih 0 h.tail (by simpa using hz) (fun y r e => hl y (x :: r) (by rw [e]; rfl))
        rw [grp_zero] at this; exact hl0 this
    rw [grp_pos n hn]
    have e1 : x = ((n % 10000 : Nat) : Int) := by omega
    have e2 : val l = ((n / 10000 : Nat) : Int) := by omega
    rw [← e1, ih (n / 10000) h.tail e2 (fun y r e => hl y (x :: r) (by rw [e]; rfl))]
theorem trim_nil_or (l : List Int) : ∀ x r, trim l = r ++ [x] → x ≠ 0 := by
  intro x r e
  unfold trim at e
  have e2 : l.reverse.dropWhile (· == 0) = x :: r.reverse := by
    have := congrArg List.reverse e
    rw [List.reverse_reverse, List.reverse_append] at this; exact this
  intro hx
  have := List.head?_dropWhile_not (p := fun y : Int => y == 0) (l := l.reverse)
  rw [e2] at this
  simp [hx] at this
theorem trim_val (n : Nat) : ∀ (l : List Int), l.length = n → val (trim l) = val l := by
  induction n with
  | zero => intro l h; obtain rfl := List.eq_nil_of_length_eq_zero h; rfl
  | succ n ih =>
    intro l h
    obtain ⟨r, x, rfl⟩ := snoc_of l (by intro e; subst e; cases h)
    have hr : r.length = n := by simpa using h
    by_cases hx : x = 0
    · subst hx; rw [trim_snoc0, ih r hr, val_snoc]; simp
    · rw [trim_snoc r x hx]
theorem trim_gs {l : List Int} (h : Gs l) : Gs (trim l) := by
  obtain ⟨k, _, e, _⟩ := trim_eq l.length l rfl
  rw [e]; exact h.take k
/-- Trimmed groups are the groups of their value. -/
theorem trim_grp (l : List Int) (n : Nat) (h : Gs l) (hv : val l = n) : trim l = grp n :=
  grp_uniq _ n (trim_gs h) (by rw [trim_val _ l rfl, hv]) (trim_nil_or l)

/-- One step with a carry. -/
def gmod (s : Int) : Int := s % 10000
theorem gmod_go (s : Int) : (s.tmod 10000 + 10000).tmod 10000 = s % 10000 := by
  have h1 : s.tmod 10000 = s % 10000 ∨ s.tmod 10000 = s % 10000 - 10000 := by
    rcases Int.le_total 0 s with h | h
    · left; exact Int.tmod_eq_emod_of_nonneg h
    · rw [Int.tmod_eq_emod]; split <;> omega
  have h2 : 0 ≤ s % 10000 := Int.emod_nonneg _ (by decide)
  have h3 : s % 10000 < 10000 := Int.emod_lt_of_pos _ (by decide)
  have h4 : 0 ≤ s.tmod 10000 + 10000 := by omega
  rw [Int.tmod_eq_emod_of_nonneg h4]
  omega
theorem gdiv_go (s : Int) : (s - s % 10000).tdiv 10000 = s / 10000 := by
  have h : s - s % 10000 = (s / 10000) * 10000 := by omega
  rw [h, Int.mul_tdiv_cancel _ (by decide)]
/-- The carry behind the columns, and the groups before it. -/
def car : List Int → Int → Int × List Int
  | [], c => (c, [])
  | x :: l, c => ((car l ((c + x) / 10000)).1, (c + x) % 10000 :: (car l ((c + x) / 10000)).2)
theorem car_len : ∀ (l : List Int) (c : Int), (car l c).2.length = l.length
  | [], _ => rfl
  | x :: l, c => by simp [car, car_len l]
theorem car_gs : ∀ (l : List Int) (c : Int), Gs (car l c).2
  | [], _ => Gs.nil
  | x :: l, c => Gs.cons (Int.emod_nonneg _ (by decide)) (Int.emod_lt_of_pos _ (by decide)) (car_gs l _)
theorem car_val : ∀ (l : List Int) (c : Int), val (car l c).2 + 10000 ^ l.length * (car l c).1 = c + val l
  | [], c => by simp [car, val]
  | x :: l, c => by
    have := car_val l ((c + x) / 10000)
    simp only [car, val, List.length_cons, Int.pow_succ]
    rw [Int.mul_right_comm, Int.mul_comm _ 10000]
    omega
theorem car_snoc : ∀ (l : List Int) (c x : Int), car (l ++ [x]) c = (((car l c).1 + x) / 10000, (car l c).2 ++ [((car l c).1 + x) % 10000])
  | [], c, x => rfl
  | y :: l, c, x => by simp [car, car_snoc l]
theorem car_small : ∀ (l : List Int) (c M : Int), (∀ x ∈ l, -M ≤ x ∧ x ≤ M) → -M ≤ c → c ≤ M → 0 ≤ M → -M - 1 ≤ (car l c).1 ∧ (car l c).1 ≤ M
  | [], c, M, _, h1, h2, _ => ⟨by simp only [car]; omega, h2⟩
  | x :: l, c, M, h, h1, h2, h0 => by
    have hx := h x (by simp)
    simp only [car]
    exact car_small l _ M (fun y hy => h y (by simp [hy])) (by omega) (by omega) h0
/-- What carried returns. -/
theorem car_grp (l : List Int) (n : Nat) (hv : val l = n) (hn : (n : Int) < 10000 ^ l.length) : trim (car l 0).2 = grp n := by
  refine trim_grp _ n (car_gs l 0) ?_
  have h1 := car_val l 0
  have h2 := val_nonneg (car_gs l 0)
  have h3 := val_lt (car_gs l 0)
  rw [car_len] at h3
  rw [Int.zero_add, hv] at h1
  have hp : (0 : Int) < 10000 ^ l.length := Int.pow_pos (by decide)
  have h4 : (car l 0).1 = 0 := by
    rcases Int.lt_trichotomy (car l 0).1 0 with h | h | h
    · have : 10000 ^ l.length * (car l 0).1 ≤ 10000 ^ l.length * (-1) := Int.mul_le_mul_of_nonneg_left (by omega) (by omega)
      omega
    · exact h
    · have : 10000 ^ l.length * 1 ≤ 10000 ^ l.length * (car l 0).1 := Int.mul_le_mul_of_nonneg_left (by omega) (by omega)
      omega
  rw [h4] at h1; omega

/-- Columns from two numbers: a at 0, b added or taken away. -/
def addAt (l : List Int) (k : Nat) (x : Int) : List Int := l.set k (l.getD k 0 + x)
theorem val_set : ∀ (l : List Int) (k : Nat) (x : Int), k < l.length → val (l.set k (l.getD k 0 + x)) = val l + 10000 ^ k * x
  | [], k, x, h => by simp at h
  | y :: l, 0, x, _ => by simp [val]; omega
  | y :: l, k + 1, x, h => by
    have := val_set l k x (by simpa using h)
    simp only [List.set_cons_succ, List.getD_cons_succ, val, this, Int.pow_succ]
    rw [Int.mul_add, ← Int.mul_assoc, Int.mul_comm 10000 (10000 ^ k)]; omega
theorem val_zeros (n : Nat) : val (List.replicate n 0) = 0 := by
  induction n with
  | zero => rfl
  | succ n ih => rw [List.replicate_succ, val, ih]; rfl
theorem val_take_succ (l : List Int) (k : Nat) (h : k < l.length) : val (l.take (k + 1)) = val (l.take k) + 10000 ^ k * l.getD k 0 := by
  rw [List.take_succ_eq_append_getElem h, val_snoc, List.length_take, Nat.min_eq_left (by omega), List.getD_eq_getElem?_getD, List.getElem?_eq_getElem h]; rfl
theorem val_drop (l : List Int) (k : Nat) (h : k < l.length) : val (l.drop k) = l.getD k 0 + 10000 * val (l.drop (k + 1)) := by
  rw [List.drop_eq_getElem_cons h, val, List.getD_eq_getElem?_getD, List.getElem?_eq_getElem h]; rfl
theorem val_split (l : List Int) (k : Nat) (h : k ≤ l.length) : val l = val (l.take k) + 10000 ^ k * val (l.drop k) := by
  conv => lhs; rw [← List.take_append_drop k l]
  rw [val_append, List.length_take, Nat.min_eq_left h]

/-- Comparison from the highest group down. -/
theorem val_cmp (a b : List Int) (k : Nat) (ha : Gs a) (hb : Gs b) (hl : a.length = b.length) (hk : k < a.length) (he : a.drop (k + 1) = b.drop (k + 1)) (hlt : a.getD k 0 < b.getD k 0) : val a < val b := by
  rw [val_split a k (by omega), val_split b k (by omega), val_drop a k hk, val_drop b k (by omega), he]
  have h1 := val_lt (ha.take k); have h2 := val_nonneg (hb.take k)
  rw [List.length_take, Nat.min_eq_left (by omega)] at h1
  have : 10000 ^ k * (a.getD k 0 + 10000 * val (b.drop (k + 1)) + 1) ≤ 10000 ^ k * (b.getD k 0 + 10000 * val (b.drop (k + 1))) :=
    Int.mul_le_mul_of_nonneg_left (by omega) (Int.le_of_lt (Int.pow_pos (by decide)))
  rw [Int.mul_add] at this
  omega
theorem grp_len_lt (a b : Nat) (h : (grp a).length < (grp b).length) : a < b := by
  rcases Nat.lt_or_ge a b with h1 | h1
  · exact h1
  · have := grp_len b (grp a).length (Nat.lt_of_le_of_lt h1 (grp_lt a)); omega
theorem grp_inj {a b : Nat} (h : grp a = grp b) : a = b := by
  have h1 := grp_val a; have h2 := grp_val b
  rw [h] at h1; omega
end Im
end Go.Proofs.YtflpfmkfjccmiaaGreatDoor
