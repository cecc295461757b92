/- Plain mathematics of layer 3: groups of four digits, their values, sums with carries, and decimal texts. No program is named here. Plain mathematics of layer 3: decimal texts of integers, and which strings are valid integers. No program is named here. Plain mathematics of layer 3: single groups of a number, division and roots group by group, texts by groups. No program is named here. Plain mathematics of layer 3: columns while numbers are added, taken away and multiplied. No program is named here. -/
import Derived.Lib.ItoaNum
import Derived.Lib.ItoaMem
namespace Go.Proofs.YtabkodpjhpjgnaaGreatDoor
namespace Im

/-- The number that columns make, the lowest one first. -/
def val : List Int → Int
  | [] => 0
  | x :: l => x + 10000 * val l
def grpF : Nat → Nat → List Int
  | 0, _ => []
  | k + 1, n => if n = 0 then [] else ((n % 10000 : Nat) : Int) :: grpF k (n / 10000)
/-- The groups of a number, no zeros above the highest one that is not zero. -/
def grp (n : Nat) : List Int := grpF n n
/-- Every column is a group. -/
def Gs (l : List Int) : Prop := ∀ x ∈ l, 0 ≤ x ∧ x < 10000
theorem Gs.nil : Gs [] := fun _ h => by cases h
theorem Gs.tail {x : Int} {l : List Int} (h : Gs (x :: l)) : Gs l := fun y hy => h y (List.mem_cons_of_mem _ hy)
theorem Gs.head {x : Int} {l : List Int} (h : Gs (x :: l)) : 0 ≤ x ∧ x < 10000 := h x (by simp)
theorem Gs.cons {x : Int} {l : List Int} (h0 : 0 ≤ x) (h1 : x < 10000) (h : Gs l) : Gs (x :: l) := fun y hy => by
  rcases List.mem_cons.1 hy with rfl | hy
  · exact ⟨h0, h1⟩
  · exact h y hy
theorem Gs.append {l r : List Int} (h : Gs l) (k : Gs r) : Gs (l ++ r) := fun y hy => by
  rcases List.mem_append.1 hy with hy | hy
  · exact h y hy
  · exact k y hy
theorem Gs.take {l : List Int} (h : Gs l) (n : Nat) : Gs (l.take n) := fun y hy => h y (List.mem_of_mem_take hy)
theorem Gs.drop {l : List Int} (h : Gs l) (n : Nat) : Gs (l.drop n) := fun y hy => h y (List.mem_of_mem_drop hy)
theorem grpF_fuel : ∀ (k j n : Nat), n ≤ k → n ≤ j → grpF k n = grpF j n
  | 0, j, n, h, _ => by
    obtain rfl : n = 0 := by omega
    cases j <;> simp [grpF]
  | k + 1, 0, n, _, h => by
    obtain rfl : n = 0 := by omega
    simp [grpF]
  | k + 1, j + 1, n, h1, h2 => by
    unfold grpF
    split
    · rfl
    · rw [grpF_fuel k j (n / 10000) (by omega) (by omega)]
theorem grp_zero : grp 0 = [] := rfl
theorem grp_pos (n : Nat) (h : n ≠ 0) : grp n = ((n % 10000 : Nat) : Int) :: grp (n / 10000) := by
  obtain ⟨k, rfl⟩ : ∃ k, n = k + 1 := ⟨n - 1, by omega⟩
  show grpF (k + 1) (k + 1) = _
  rw [grpF, if_neg h]
  unfold grp
  rw [grpF_fuel k ((k + 1) / 10000) _ (by omega) (Nat.le_refl _)]
theorem grp_gs (n : Nat) : Gs (grp n) := by
  induction n using Nat.strongRecOn with
  | _ n ih =>
    by_cases h : n = 0
    · subst h; exact Gs.nil
    · rw [grp_pos n h]; exact Gs.cons (by omega) (by omega) (ih _ (by omega))
theorem grp_val (n : Nat) : val (grp n) = n := by
  induction n using Nat.strongRecOn with
  | _ n ih =>
    by_cases h : n = 0
    · subst h; rfl
    · rw [grp_pos n h, val, ih _ (by omega)]; omega
theorem val_nonneg : ∀ {l : List Int}, Gs l → 0 ≤ val l
  | [], _ => by simp [val]
  | x :: l, h => by have := val_nonneg h.tail; have := h.head; unfold val; omega
theorem val_lt : ∀ {l : List Int}, Gs l → val l < 10000 ^ l.length
  | [], _ => by simp [val]
  | x :: l, h => by
    have h1 := val_lt h.tail; have := h.head
    unfold val
    rw [List.length_cons, Int.pow_succ]; omega
theorem val_append : ∀ (l r : List Int), val (l ++ r) = val l + 10000 ^ l.length * val r
  | [], r => by simp [val]
  | x :: l, r => by
    rw [List.cons_append, val, val, val_append l r, List.length_cons, Int.pow_succ, Int.mul_add, ← Int.mul_assoc, Int.mul_comm 10000 (10000 ^ l.length)]
    omega
theorem grp_len (n k : Nat) (h : n < 10000 ^ k) : (grp n).length ≤ k := by
  induction k generalizing n with
  | zero => obtain rfl : n = 0 := by simpa using h
            simp [grp_zero]
  | succ k ih =>
    by_cases h0 : n = 0
    · subst h0; simp [grp_zero]
    · rw [grp_pos n h0, List.length_cons]
      have := ih (n / 10000) (by rw [Nat.pow_succ] at h; exact Nat.div_lt_of_lt_mul (by omega))
      omega
theorem grp_lt (n : Nat) : n < 10000 ^ (grp n).length := by
  have := val_lt (grp_gs n)
  rw [grp_val] at this
  have h2 : ((10000 ^ (grp n).length : Nat) : Int) = 10000 ^ (grp n).length := Int.natCast_pow _ _
  omega
theorem grp_nil {n : Nat} (h : grp n = []) : n = 0 := by
  have := grp_val n
  rw [h] at this; simp [val] at this; omega
theorem grp_len0 (n : Nat) : (grp n).length = 0 ↔ n = 0 := by
  constructor
  · intro h; exact grp_nil (List.eq_nil_of_length_eq_zero h)
  · rintro rfl; rfl

/-- The columns without the zeros above the highest one that is not zero. -/
def trim (l : List Int) : List Int := (l.reverse.dropWhile (· == 0)).reverse
theorem trim_snoc0 (l : List Int) : trim (l ++ [0]) = trim l := by simp [trim]
theorem trim_snoc (l : List Int) (x : Int) (h : x ≠ 0) : trim (l ++ [x]) = l ++ [x] := by
  simp [trim, h]
theorem snoc_of {α : Type} (l : List α) (h : l ≠ []) : ∃ r x, l = r ++ [x] := ⟨l.dropLast, l.getLast h, (List.dropLast_concat_getLast h).symm⟩
theorem trim_eq (n : Nat) : ∀ (l : List Int), l.length = n → ∃ k, k ≤ n ∧ trim l = l.take k ∧ (∀ j, k ≤ j → j < n → l.getD j 0 = 0) ∧ (0 < k → l.getD (k - 1) 0 ≠ 0) := by
  induction n with
  | zero => intro l h; obtain rfl := List.eq_nil_of_length_eq_zero h; exact ⟨0, by omega, rfl, fun j h1 h2 => by omega, fun h => by omega⟩
  | succ n ih =>
    intro l h
    obtain ⟨r, x, rfl⟩ := snoc_of l (by intro e; subst e; cases h)
    have hr : r.length = n := by simpa using h
    by_cases hx : x = 0
    · subst hx
      obtain ⟨k, h1, h2, h3, h4⟩ := ih r hr
      refine ⟨k, by omega, ?_, ?_, ?_⟩
      · rw [trim_snoc0, h2, List.take_append_of_le_length (by omega)]
      · intro j h5 h6
        by_cases hj : j < n
        · rw [List.getD_eq_getElem?_getD, List.getElem?_append_left (by omega), ← List.getD_eq_getElem?_getD]; exact h3 j h5 hj
        · obtain rfl : j = r.length := by omega
          simp
      · intro h5
        rw [List.getD_eq_getElem?_getD, List.getElem?_append_left (by omega), ← List.getD_eq_getElem?_getD]; exact h4 h5
    · refine ⟨n + 1, Nat.le_refl _, ?_, fun j h1 h2 => by omega, fun _ => ?_⟩
      · rw [trim_snoc r x hx, List.take_of_length_le (by omega)]
      · simp [← hr]; exact hx
theorem val_snoc (l : List Int) (x : Int) : val (l ++ [x]) = val l + 10000 ^ l.length * x := by rw [val_append]; simp [val]
theorem grp_uniq (l : List Int) (n : Nat) (h : Gs l) (hv : val l = n) (hl : ∀ x r, l = r ++ [x] → x ≠ 0) : l = grp n := by
  induction l generalizing n with
  | nil => simp [val] at hv; obtain rfl : n = 0 := by omega
           rfl
  | cons x l ih =>
    have h0 := val_nonneg h.tail
    have h1 := h.head
    unfold val at hv
    have hn : n ≠ 0 := by
      intro e
      subst e
      have hx : x = 0 := by omega
      have hz : val l = 0 := by omega
      by_cases hl0 : l = []
      · subst hl0; exact hl x [] rfl hx
      · have := ih 0 h.tail (by simpa using hz) (fun y r e => hl y (x :: r) (by rw [e]; rfl))
        rw [grp_zero] at this; exact hl0 this
    rw [grp_pos n hn]
    have e1 : x = ((n % 10000 : Nat) : Int) := by omega
    have e2 : val l = ((n / 10000 : Nat) : Int) := by omega
    rw [← e1, ih (n / 10000) h.tail e2 (fun y r e => hl y (x :: r) (by rw [e]; rfl))]
theorem trim_nil_or (l : List Int) : ∀ x r, trim l = r ++ [x] → x ≠ 0 := by
  intro x r e
  unfold trim at e
  have e2 : l.reverse.dropWhile (· == 0) = x :: r.reverse := by
    have := congrArg List.reverse e
    rw [List.reverse_reverse, List.reverse_append] at this; exact this
  intro hx
  have := List.head?_dropWhile_not (p := fun y : Int => y == 0) (l := l.reverse)
  rw [e2] at this
  simp [hx] at this
theorem trim_val (n : Nat) : ∀ (l : List Int), l.length = n → val (trim l) = val l := by
  induction n with
  | zero => intro l h; obtain rfl := List.eq_nil_of_length_eq_zero h; rfl
  | succ n ih =>
    intro l h
    obtain ⟨r, x, rfl⟩ := snoc_of l (by intro e; subst e; cases h)
    have hr : r.length = n := by simpa using h
    by_cases hx : x = 0
    · subst hx; rw [trim_snoc0, ih r hr, val_snoc]; simp
    · rw [trim_snoc r x hx]
theorem trim_gs {l : List Int} (h : Gs l) : Gs (trim l) := by
  obtain ⟨k, _, e, _⟩ := trim_eq l.length l rfl
  rw [e]; exact h.take k
/-- Trimmed groups are the groups of their value. -/
theorem trim_grp (l : List Int) (n : Nat) (h : Gs l) (hv : val l = n) : trim l = grp n :=
  grp_uniq _ n (trim_gs h) (by rw [trim_val _ l rfl, hv]) (trim_nil_or l)

/-- One step with a carry. -/
def gmod (s : Int) : Int := s % 10000
theorem gmod_go (s : Int) : (s.tmod 10000 + 10000).tmod 10000 = s % 10000 := by
  have h1 : s.tmod 10000 = s % 10000 ∨ s.tmod 10000 = s % 10000 - 10000 := by
    rcases Int.le_total 0 s with h | h
    · left; exact Int.tmod_eq_emod_of_nonneg h
    · rw [Int.tmod_eq_emod]; split <;> omega
  have h2 : 0 ≤ s % 10000 := Int.emod_nonneg _ (by decide)
  have h3 : s % 10000 < 10000 := Int.emod_lt_of_pos _ (by decide)
  have h4 : 0 ≤ s.tmod 10000 + 10000 := by omega
  rw [Int.tmod_eq_emod_of_nonneg h4]
  omega
theorem gdiv_go (s : Int) : (s - s % 10000).tdiv 10000 = s / 10000 := by
  have h : s - s % 10000 = (s / 10000) * 10000 := by omega
  rw [h, Int.mul_tdiv_cancel _ (by decide)]
/-- The carry behind the columns, and the groups before it. -/
def car : List Int → Int → Int × List Int
  | [], c => (c, [])
  | x :: l, c => ((car l ((c + x) / 10000)).1, (c + x) % 10000 :: (car l ((c + x) / 10000)).2)
theorem car_len : ∀ (l : List Int) (c : Int), (car l c).2.length = l.length
  | [], _ => rfl
  | x :: l, c => by simp [car, car_len l]
theorem car_gs : ∀ (l : List Int) (c : Int), Gs (car l c).2
  | [], _ => Gs.nil
  | x :: l, c => Gs.cons (Int.emod_nonneg _ (by decide)) (Int.emod_lt_of_pos _ (by decide)) (car_gs l _)
theorem car_val : ∀ (l : List Int) (c : Int), val (car l c).2 + 10000 ^ l.length * (car l c).1 = c + val l
  | [], c => by simp [car, val]
  | x :: l, c => by
    have := car_val l ((c + x) / 10000)
    simp only [car, val, List.length_cons, Int.pow_succ]
    rw [Int.mul_right_comm, Int.mul_comm _ 10000]
    omega
theorem car_snoc : ∀ (l : List Int) (c x : Int), car (l ++ [x]) c = (((car l c).1 + x) / 10000, (car l c).2 ++ [((car l c).1 + x) % 10000])
  | [], c, x => rfl
  | y :: l, c, x => by simp [car, car_snoc l]
theorem car_small : ∀ (l : List Int) (c M : Int), (∀ x ∈ l, -M ≤ x ∧ x ≤ M) → -M ≤ c → c ≤ M → 0 ≤ M → -M - 1 ≤ (car l c).1 ∧ (car l c).1 ≤ M
  | [], c, M, _, h1, h2, _ => ⟨by simp only [car]; omega, h2⟩
  | x :: l, c, M, h, h1, h2, h0 => by
    have hx := h x (by simp)
    simp only [car]
    exact car_small l _ M (fun y hy => h y (by simp [hy])) (by omega) (by omega) h0
/-- What carried returns. -/
theorem car_grp (l : List Int) (n : Nat) (hv : val l = n) (hn : (n : Int) < 10000 ^ l.length) : trim (car l 0).2 = grp n := by
  refine trim_grp _ n (car_gs l 0) ?_
  have h1 := car_val l 0
  have h2 := val_nonneg (car_gs l 0)
  have h3 := val_lt (car_gs l 0)
  rw [car_len] at h3
  rw [Int.zero_add, hv] at h1
  have hp : (0 : Int) < 10000 ^ l.length := Int.pow_pos (by decide)
  have h4 : (car l 0).1 = 0 := by
    rcases Int.lt_trichotomy (car l 0).1 0 with h | h | h
    · have : 10000 ^ l.length * (car l 0).1 ≤ 10000 ^ l.length * (-1) := Int.mul_le_mul_of_nonneg_left (by omega) (by omega)
      omega
    · exact h
    · have : 10000 ^ l.length * 1 ≤ 10000 ^ l.length * (car l 0).1 := Int.mul_le_mul_of_nonneg_left (by omega) (by omega)
      omega
  rw [h4] at h1; omega

/-- Columns from two numbers: a at 0, b added or taken away. -/
def addAt (l : List Int) (k : Nat) (x : Int) : List Int := l.set k (l.getD k 0 + x)
theorem val_set : ∀ (l : List Int) (k : Nat) (x : Int), k < l.length → val (l.set k (l.getD k 0 + x)) = val l + 10000 ^ k * x
  | [], k, x, h => by simp at h
  | y :: l, 0, x, _ => by simp [val]; omega
  | y :: l, k + 1, x, h => by
    have := val_set l k x (by simpa using h)
    simp only [List.set_cons_succ, List.getD_cons_succ, val, this, Int.pow_succ]
    rw [Int.mul_add, ← Int.mul_assoc, Int.mul_comm 10000 (10000 ^ k)]; omega
theorem val_zeros (n : Nat) : val (List.replicate n 0) = 0 := by
  induction n with
  | zero => rfl
  | succ n ih => rw [List.replicate_succ, val, ih]; rfl
theorem val_take_succ (l : List Int) (k : Nat) (h : k < l.length) : val (l.take (k + 1)) = val (l.take k) + 10000 ^ k * l.getD k 0 := by
  rw [List.take_succ_eq_append_getElem h, val_snoc, List.length_take, Nat.min_eq_left (by omega), List.getD_eq_getElem?_getD, List.getElem?_eq_getElem h]; rfl
theorem val_drop (l : List Int) (k : Nat) (h : k < l.length) : val (l.drop k) = l.getD k 0 + 10000 * val (l.drop (k + 1)) := by
  rw [List.drop_eq_getElem_cons h, val, List.getD_eq_getElem?_getD, List.getElem?_eq_getElem h]; rfl
theorem val_split (l : List Int) (k : Nat) (h : k ≤ l.length) : val l = val (l.take k) + 10000 ^ k * val (l.drop k) := by
  conv => lhs; rw [← List.take_append_drop k l]
  rw [val_append, List.length_take, Nat.min_eq_left h]

/-- Comparison from the highest group down. -/
theorem val_cmp (a b : List Int) (k : Nat) (ha : Gs a) (hb : Gs b) (hl : a.length = b.length) (hk : k < a.length) (he : a.drop (k + 1) = b.drop (k + 1)) (hlt : a.getD k 0 < b.getD k 0) : val a < val b := by
  rw [val_split a k (by omega), val_split b k (by omega), val_drop a k hk, val_drop b k (by omega), he]
  have h1 := val_lt (ha.take k); have h2 := val_nonneg (hb.take k)
  rw [List.length_take, Nat.min_eq_left (by omega)] at h1
  have : 10000 ^ k * (a.getD k 0 + 10000 * val (b.drop (k + 1)) + 1) ≤ 10000 ^ k * (b.getD k 0 + 10000 * val (b.drop (k + 1))) :=
    Int.mul_le_mul_of_nonneg_left (by omega) (Int.le_of_lt (Int.pow_pos (by decide)))
  rw [Int.mul_add] at this
  omega
theorem grp_len_lt (a b : Nat) (h : (grp a).length < (grp b).length) : a < b := by
  rcases Nat.lt_or_ge a b with h1 | h1
  · exact h1
  · have := grp_len b (grp a).length (Nat.lt_of_le_of_lt h1 (grp_lt a)); omega
theorem grp_inj {a b : Nat} (h : grp a = grp b) : a = b := by
  have h1 := grp_val a; have h2 := grp_val b
  rw [h] at h1; omega
end Im
end Go.Proofs.YtabkodpjhpjgnaaGreatDoor

namespace Go.Proofs.YtabkodpjhpjgnaaGreatDoor
namespace Im
open Go.Lib (decDigits itoa nDigits)

/-- The number that bytes spell as decimal digits. -/
def dv (l : List UInt8) : Nat := l.foldl (fun s c => 10 * s + (c.toNat - 48)) 0
theorem dv_nil : dv [] = 0 := rfl
theorem dv_snoc (l : List UInt8) (c : UInt8) : dv (l ++ [c]) = 10 * dv l + (c.toNat - 48) := by simp [dv, List.foldl_append]
theorem snoc_ind {α : Type} {p : List α → Prop} (h0 : p []) (h1 : ∀ l x, p l → p (l ++ [x])) (l : List α) : p l := by
  have : ∀ n (l : List α), l.length = n → p l := by
    intro n
    induction n with
    | zero => intro l h; obtain rfl := List.eq_nil_of_length_eq_zero h; exact h0
    | succ n ih =>
      intro l h
      obtain ⟨r, x, rfl⟩ := snoc_of l (by intro e; subst e; cases h)
      exact h1 r x (ih r (by simpa using h))
  exact this _ l rfl
theorem dv_append (l r : List UInt8) : dv (l ++ r) = dv l * 10 ^ r.length + dv r := by
  induction r using snoc_ind with
  | h0 => simp [dv_nil]
  | h1 r c ih =>
    rw [← List.append_assoc, dv_snoc, ih, dv_snoc, List.length_append, List.length_singleton, Nat.pow_succ, Nat.mul_add, ← Nat.mul_assoc, Nat.mul_comm 10 (dv l), Nat.mul_assoc, Nat.mul_comm 10 (10 ^ r.length)]
    omega
/-- All bytes are digits. -/
def digs (l : List UInt8) : Bool := l.all fun c => decide (48 ≤ c.toNat) && decide (c.toNat ≤ 57)
theorem digs_snoc (l : List UInt8) (c : UInt8) : digs (l ++ [c]) = true ↔ digs l = true ∧ 48 ≤ c.toNat ∧ c.toNat ≤ 57 := by simp [digs]
theorem digs_append (l r : List UInt8) : digs (l ++ r) = true ↔ digs l = true ∧ digs r = true := by simp [digs]
theorem dv_lt (l : List UInt8) (h : digs l = true) : dv l < 10 ^ l.length := by
  induction l using snoc_ind with
  | h0 => simp [dv_nil]
  | h1 l c ih =>
    rw [digs_snoc] at h
    have := ih h.1
    rw [dv_snoc, List.length_append, List.length_singleton, Nat.pow_succ]; omega
theorem dd_small (n : Nat) (h : n < 10) : decDigits n = [UInt8.ofNat (48 + n)] := by rw [decDigits, dif_pos h]
theorem dd_big (n : Nat) (h : 10 ≤ n) : decDigits n = decDigits (n / 10) ++ [UInt8.ofNat (48 + n % 10)] := by
  conv => lhs; rw [decDigits]
  rw [dif_neg (by omega)]
theorem u8n (x : Nat) (h : x < 256) : (UInt8.ofNat x).toNat = x := by rw [UInt8.toNat_ofNat']; exact Nat.mod_eq_of_lt h
theorem dd_dv (n : Nat) : dv (decDigits n) = n := by
  induction n using Nat.strongRecOn with
  | _ n ih =>
    by_cases h : n < 10
    · rw [dd_small n h]; show 10 * 0 + _ = _; rw [u8n _ (by omega)]; omega
    · rw [dd_big n (by omega), dv_snoc, ih _ (by omega), u8n _ (by omega)]; omega
theorem dd_digs (n : Nat) : digs (decDigits n) = true := by
  induction n using Nat.strongRecOn with
  | _ n ih =>
    by_cases h : n < 10
    · rw [dd_small n h]; simp [digs]; rw [Nat.mod_eq_of_lt (by omega)]; omega
    · rw [dd_big n (by omega), digs_snoc, u8n _ (by omega)]; exact ⟨ih _ (by omega), by omega, by omega⟩
theorem dd_ne (n : Nat) : decDigits n ≠ [] := by
  by_cases h : n < 10
  · rw [dd_small n h]; simp
  · rw [dd_big n (by omega)]; simp
theorem dd_head (n : Nat) (h : 0 < n) : ∀ c r, decDigits n = c :: r → c.toNat ≠ 48 := by
  induction n using Nat.strongRecOn with
  | _ n ih =>
    intro c r e
    by_cases h1 : n < 10
    · rw [dd_small n h1] at e
      obtain ⟨rfl, _⟩ := List.cons.inj e
      rw [u8n _ (by omega)]; omega
    · rw [dd_big n (by omega)] at e
      cases e2 : decDigits (n / 10) with
      | nil => exact absurd e2 (dd_ne _)
      | cons c2 r2 =>
        rw [e2] at e
        obtain ⟨rfl, _⟩ := List.cons.inj e
        exact ih (n / 10) (by omega) (by omega) _ _ e2
/-- Digits that do not begin with 0 are the text of their number. -/
theorem dd_of (l : List UInt8) (h : digs l = true) (h0 : l ≠ []) (h1 : ∀ c r, l = c :: r → c.toNat ≠ 48) : 0 < dv l ∧ l = decDigits (dv l) := by
  induction l using snoc_ind with
  | h0 => exact absurd rfl h0
  | h1 l c ih =>
    rw [digs_snoc] at h
    by_cases hl : l = []
    · subst hl
      have hc := h1 c [] rfl
      have e : dv ([] ++ [c]) = c.toNat - 48 := by rw [dv_snoc, dv_nil]; omega
      rw [e, dd_small _ (by omega)]
      refine ⟨by omega, ?_⟩
      show [c] = _
      congr 1
      apply UInt8.toNat_inj.1
      rw [u8n _ (by omega)]; omega
    · obtain ⟨k1, k2⟩ := ih h.1 hl (fun c2 r e => h1 c2 (r ++ [c]) (by rw [e]; rfl))
      rw [dv_snoc]
      refine ⟨by omega, ?_⟩
      rw [dd_big _ (by omega), show (10 * dv l + (c.toNat - 48)) / 10 = dv l by omega, ← k2]
      congr 2
      apply UInt8.toNat_inj.1
      rw [u8n _ (by omega)]; omega
theorem dd_len (n k : Nat) (hk : 1 ≤ k) : (decDigits n).length ≤ k ↔ n < 10 ^ k := by
  rw [Go.Lib.decDigits_length]
  constructor
  · intro h
    exact Nat.lt_of_lt_of_le (Go.Lib.lt_pow_nDigits n) (Nat.pow_le_pow_right (by decide) h)
  · intro h
    rcases Nat.lt_or_ge k (nDigits n) with h1 | h1
    · exfalso
      by_cases h0 : n = 0
      · subst h0; rw [Go.Lib.nDigits_small (by decide)] at h1; omega
      · have h2 := dd_dv n
        have hne := dd_ne n
        cases e : decDigits n with
        | nil => exact hne e
        | cons c r =>
          have hc := dd_head n (by omega) c r e
          have hd := dd_digs n
          rw [e] at hd h2
          have hl : (c :: r).length = nDigits n := by rw [← e, Go.Lib.decDigits_length]
          have h3 : dv ([c] ++ r) = n := h2
          rw [dv_append] at h3
          have h4 : dv [c] = c.toNat - 48 := by show 10 * 0 + _ = _; omega
          have h5 : 48 ≤ c.toNat := by simp [digs] at hd; omega
          have h6 : 10 ^ k ≤ 10 ^ r.length := Nat.pow_le_pow_right (by decide) (by simp at hl; omega)
          have h7 : 1 * 10 ^ r.length ≤ dv [c] * 10 ^ r.length := Nat.mul_le_mul_right _ (by omega)
          omega
    · exact h1

/-- Four digits. -/
def dec4 (g : Nat) : List UInt8 := [UInt8.ofNat (48 + g / 1000 % 10), UInt8.ofNat (48 + g / 100 % 10), UInt8.ofNat (48 + g / 10 % 10), UInt8.ofNat (48 + g % 10)]
theorem dd_step4 (n : Nat) (h : 10000 ≤ n) : decDigits n = decDigits (n / 10000) ++ dec4 (n % 10000) := by
  rw [dd_big n (by omega), dd_big (n / 10) (by omega), dd_big (n / 10 / 10) (by omega), dd_big (n / 10 / 10 / 10) (by omega)]
  have e1 : n / 10 / 10 / 10 / 10 = n / 10000 := by omega
  have e2 : n / 10 / 10 / 10 % 10 = n % 10000 / 1000 % 10 := by omega
  have e3 : n / 10 / 10 % 10 = n % 10000 / 100 % 10 := by omega
  have e4 : n / 10 % 10 = n % 10000 / 10 % 10 := by omega
  have e5 : n % 10 = n % 10000 % 10 := by omega
  rw [e1, e2, e3, e4, e5]
  simp [dec4]
theorem dd_pad (g : Nat) (h : g < 10000) : decDigits (10000 + g) = UInt8.ofNat 49 :: dec4 g := by
  rw [dd_step4 _ (by omega), show (10000 + g) / 10000 = 1 by omega, show (10000 + g) % 10000 = g by omega, dd_small 1 (by decide)]; rfl

/-- A valid integer. -/
def strip (s : List UInt8) : List UInt8 := if s.head? = some 45 then s.tail else s
def vld (s : List UInt8) : Bool := match strip s with
  | [] => false
  | c :: r => decide ((c :: r).length ≤ 200) && (if c = 48 then s == [48] else digs (c :: r))
theorem ne45_of_digs {l : List UInt8} (h : digs l = true) : ¬ l.head? = some 45 := by
  cases l with
  | nil => simp
  | cons c r => intro e; simp at e; subst e; simp [digs] at h
theorem strip_dd (n : Nat) : strip (decDigits n) = decDigits n := by unfold strip; rw [if_neg (ne45_of_digs (dd_digs n))]
theorem strip_neg (l : List UInt8) : strip (45 :: l) = l := rfl
theorem vld_dd (n : Nat) : vld (decDigits n) = decide (n < 10 ^ 200) := by
  unfold vld
  rw [strip_dd]
  have hl := dd_len n 200 (by decide)
  cases e : decDigits n with
  | nil => exact absurd e (dd_ne n)
  | cons c r =>
    rw [e] at hl
    dsimp only
    have hd : digs (c :: r) = true := e ▸ dd_digs n
    by_cases h0 : n = 0
    · subst h0
      rw [dd_small 0 (by decide)] at e
      obtain ⟨rfl, rfl⟩ := List.cons.inj e
      decide +kernel
    · have hc := dd_head n (by omega) c r e
      rw [if_neg (by rintro rfl; exact hc rfl), hd, Bool.and_true]
      exact decide_eq_decide.2 hl
theorem vld_neg (n : Nat) (h : 0 < n) : vld (45 :: decDigits n) = decide (n < 10 ^ 200) := by
  unfold vld
  rw [strip_neg]
  have hl := dd_len n 200 (by decide)
  cases e : decDigits n with
  | nil => exact absurd e (dd_ne n)
  | cons c r =>
    rw [e] at hl
    dsimp only
    have hd : digs (c :: r) = true := e ▸ dd_digs n
    have hc := dd_head n h c r e
    rw [if_neg (by rintro rfl; exact hc rfl), hd, Bool.and_true]
    exact decide_eq_decide.2 hl
/-- The text of an integer is valid exactly if it is not too large. -/
theorem vld_itoa (z : Int) : vld (itoa z) = decide (z.natAbs < 10 ^ 200) := by
  unfold itoa
  split
  · exact vld_neg _ (by omega)
  · rw [vld_dd, show z.toNat = z.natAbs by omega]
/-- A valid string is the text of an integer. -/
theorem vld_of (s : List UInt8) (h : vld s = true) : ∃ z : Int, s = itoa z ∧ z.natAbs < 10 ^ 200 := by
  unfold vld at h
  split at h
  · cases h
  · rename_i c r e
    rw [Bool.and_eq_true, decide_eq_true_eq] at h
    obtain ⟨h1, h2⟩ := h
    by_cases hc : c = 48
    · rw [if_pos hc] at h2
      have : s = [48] := by simpa using h2
      exact ⟨0, by rw [this, itoa, if_neg (by decide)]; exact (dd_small 0 (by decide)).symm, by decide⟩
    · rw [if_neg hc] at h2
      have hne : ∀ c2 r2, (c :: r) = c2 :: r2 → c2.toNat ≠ 48 := fun c2 r2 e2 => by
        obtain ⟨rfl, _⟩ := List.cons.inj e2
        intro hh
        exact hc (UInt8.toNat_inj.1 hh)
      obtain ⟨k1, k2⟩ := dd_of (c :: r) h2 (by simp) hne
      have k3 : dv (c :: r) < 10 ^ 200 := (dd_len _ 200 (by decide)).1 (by rw [← k2]; exact h1)
      unfold strip at e
      split at e
      · rename_i hs
        refine ⟨-(dv (c :: r) : Int), ?_, by omega⟩
        cases s with
        | nil => cases hs
        | cons a s =>
          simp at hs e
          subst hs; subst e
          rw [itoa, if_pos (by omega), show (-(dv (c :: r) : Int)).natAbs = dv (c :: r) by omega, ← k2]
      · refine ⟨(dv (c :: r) : Int), ?_, by omega⟩
        rw [itoa, if_neg (by omega), e, Int.toNat_natCast, ← k2]
theorem itoa_inj {a b : Int} (h : itoa a = itoa b) : a = b := by
  unfold itoa at h
  split at h <;> split at h
  · have := congrArg dv (List.cons.inj h).2
    rw [dd_dv, dd_dv] at this; omega
  · exfalso
    have := ne45_of_digs (dd_digs b.toNat)
    rw [← h] at this; exact this rfl
  · exfalso
    have := ne45_of_digs (dd_digs a.toNat)
    rw [h] at this; exact this rfl
  · have := congrArg dv h
    rw [dd_dv, dd_dv] at this; omega
end Im
end Go.Proofs.YtabkodpjhpjgnaaGreatDoor

namespace Go.Proofs.YtabkodpjhpjgnaaGreatDoor
namespace Im
open Go.Lib (decDigits itoa nDigits)

theorem trim_at (l : List Int) (k : Nat) (hk : k ≤ l.length) (h0 : ∀ j, k ≤ j → j < l.length → l.getD j 0 = 0) (h1 : 0 < k → l.getD (k - 1) 0 ≠ 0) : trim l = l.take k := by
  obtain ⟨m, hm, e, g0, g1⟩ := trim_eq l.length l rfl
  rw [e]
  rcases Nat.lt_trichotomy k m with h | h | h
  · exact absurd (h0 (m - 1) (by omega) (by omega)) (g1 (by omega))
  · rw [h]
  · exact absurd (g0 (k - 1) (by omega) (by omega)) (h1 (by omega))
theorem trim_len_le (l : List Int) : (trim l).length ≤ l.length := by
  obtain ⟨m, hm, e, _⟩ := trim_eq l.length l rfl
  rw [e, List.length_take]; omega
theorem trim_take (l : List Int) : trim l = l.take (trim l).length := by
  obtain ⟨m, hm, e, _⟩ := trim_eq l.length l rfl
  rw [e, List.length_take, Nat.min_eq_left hm]
theorem grp_drop (n : Nat) : ∀ i, (grp n).drop i = grp (n / 10000 ^ i)
  | 0 => by simp
  | i + 1 => by
    by_cases h : n = 0
    · subst h; simp [grp_zero]
    · rw [grp_pos n h, List.drop_succ_cons, grp_drop (n / 10000) i, Nat.div_div_eq_div_mul, Nat.pow_succ, Nat.mul_comm]
theorem grp_getD (n i : Nat) : (grp n).getD i 0 = ((n / 10000 ^ i % 10000 : Nat) : Int) := by
  have h := grp_drop n i
  have e : (grp n).getD i 0 = ((grp n).drop i).getD 0 0 := by simp [List.getD_eq_getElem?_getD]
  rw [e, h]
  by_cases h0 : n / 10000 ^ i = 0
  · rw [h0]; rfl
  · rw [grp_pos _ h0]; rfl
theorem grp_get (n i : Nat) (h : i < (grp n).length) : (grp n)[i]? = some ((n / 10000 ^ i % 10000 : Nat) : Int) := by
  have := grp_getD n i
  rw [List.getD_eq_getElem?_getD, List.getElem?_eq_getElem h] at this
  rw [List.getElem?_eq_getElem h]
  exact congrArg some this
theorem grp_ge (n : Nat) (h : n ≠ 0) : 10000 ^ ((grp n).length - 1) ≤ n := by
  induction n using Nat.strongRecOn with
  | _ n ih =>
    rw [grp_pos n h, List.length_cons, Nat.add_sub_cancel]
    by_cases h2 : n / 10000 = 0
    · rw [h2]; simp [grp_zero]; omega
    · have := ih (n / 10000) (by omega) h2
      have hl : 0 < (grp (n / 10000)).length := by
        rcases Nat.eq_zero_or_pos (grp (n / 10000)).length with e | e
        · exact absurd ((grp_len0 _).1 e) h2
        · exact e
      obtain ⟨k, hk⟩ : ∃ k, (grp (n / 10000)).length = k + 1 := ⟨_, (Nat.succ_pred_eq_of_pos hl).symm⟩
      rw [hk] at this ⊢
      rw [Nat.add_sub_cancel] at this
      rw [Nat.pow_succ]; omega
/-- Fewer groups than the divisor has: less. -/
theorem grp_few (a d k : Nat) (hd : d ≠ 0) (h : (grp a).length < k + (grp d).length) : a / 10000 ^ k < d := by
  have h1 := grp_lt a
  have h2 := grp_ge d hd
  have h3 : 10000 ^ (grp a).length ≤ 10000 ^ (k + ((grp d).length - 1)) := Nat.pow_le_pow_right (by decide) (by
    have : (grp d).length ≠ 0 := fun e => hd ((grp_len0 d).1 e)
    omega)
  rw [Nat.pow_add] at h3
  refine Nat.lt_of_lt_of_le ?_ h2
  exact Nat.div_lt_of_lt_mul (by omega)
theorem div_shift (a i : Nat) : a / 10000 ^ i = a / 10000 ^ (i + 1) * 10000 + a / 10000 ^ i % 10000 := by
  rw [Nat.pow_succ, ← Nat.div_div_eq_div_mul]; omega
/-- One more group of the dividend. -/
theorem div_step (x d g : Nat) (hd : 0 < d) : (x * 10000 + g) / d = x / d * 10000 + (x % d * 10000 + g) / d ∧ (x * 10000 + g) % d = (x % d * 10000 + g) % d := by
  have h := Nat.div_add_mod x d
  obtain ⟨q, hq⟩ : ∃ q, x / d = q := ⟨_, rfl⟩
  obtain ⟨r, hr⟩ : ∃ r, x % d = r := ⟨_, rfl⟩
  rw [hq, hr] at h ⊢
  have e : x * 10000 + g = r * 10000 + g + d * (q * 10000) := by
    rw [← h, Nat.add_mul, Nat.mul_assoc]; omega
  rw [e, Nat.add_mul_div_left _ _ hd, Nat.add_mul_mod_self_left]
  exact ⟨by omega, rfl⟩
theorem div_digit (x d g : Nat) (hx : x < d) (hg : g < 10000) : (x * 10000 + g) / d < 10000 := by
  refine Nat.div_lt_of_lt_mul ?_
  have : (x + 1) * 10000 ≤ d * 10000 := Nat.mul_le_mul_right _ (by omega)
  omega
/-- The groups of a quotient, from the top down. -/
theorem val_top (l : List Int) (i : Nat) (x : Int) (h : i < l.length) : val ((l.set i x).drop i) = x + 10000 * val (l.drop (i + 1)) := by
  rw [val_drop _ i (by simpa using h)]
  congr 1
  · rw [List.getD_eq_getElem?_getD, List.getElem?_set_self h]; rfl
  · rw [List.drop_set_of_lt (by omega)]
theorem gs_set {l : List Int} (h : Gs l) (i : Nat) (x : Int) (h0 : 0 ≤ x) (h1 : x < 10000) : Gs (l.set i x) := fun y hy => by
  rcases List.mem_or_eq_of_mem_set hy with hy | rfl
  · exact h y hy
  · exact ⟨h0, h1⟩
theorem gs_zeros (n : Nat) : Gs (List.replicate n 0) := fun y hy => by rw [List.eq_of_mem_replicate hy]; omega
/-- The bounds between which a quotient is sought. -/
theorem quot_low (m d f : Nat) (hd : 0 < d / 10000 ^ f) : (m / 10000 ^ f) / (d / 10000 ^ f + 1) ≤ m / d := by
  have hp : 0 < 10000 ^ f := Nat.pow_pos (by decide)
  have hd0 : 0 < d := by
    rcases Nat.eq_zero_or_pos d with h | h
    · subst h; rw [Nat.zero_div] at hd; omega
    · exact h
  rw [Nat.le_div_iff_mul_le hd0]
  have h1 := Nat.div_mul_le_self (m / 10000 ^ f) (d / 10000 ^ f + 1)
  have h2 := Nat.div_mul_le_self m (10000 ^ f)
  have h3 : d < (d / 10000 ^ f + 1) * 10000 ^ f := by
    have := Nat.div_add_mod d (10000 ^ f); have h4 := Nat.mod_lt d hp
    rw [Nat.add_mul, Nat.mul_comm (d / 10000 ^ f)]; omega
  calc m / 10000 ^ f / (d / 10000 ^ f + 1) * d ≤ m / 10000 ^ f / (d / 10000 ^ f + 1) * ((d / 10000 ^ f + 1) * 10000 ^ f) := Nat.mul_le_mul_left _ (Nat.le_of_lt h3)
    _ = m / 10000 ^ f / (d / 10000 ^ f + 1) * (d / 10000 ^ f + 1) * 10000 ^ f := by rw [Nat.mul_assoc]
    _ ≤ m / 10000 ^ f * 10000 ^ f := Nat.mul_le_mul_right _ h1
    _ ≤ m := h2
theorem quot_high (m d f : Nat) (hd : 0 < d / 10000 ^ f) : m / d ≤ (m / 10000 ^ f) / (d / 10000 ^ f) := by
  have hp : 0 < 10000 ^ f := Nat.pow_pos (by decide)
  rw [Nat.le_div_iff_mul_le hd, Nat.le_div_iff_mul_le hp, Nat.mul_assoc]
  exact Nat.le_trans (Nat.mul_le_mul_left _ (Nat.div_mul_le_self d _)) (Nat.div_mul_le_self m d)

/-- The integer root. -/
def isqrt : Nat → Nat
  | 0 => 0
  | m + 1 => if (isqrt m + 1) * (isqrt m + 1) ≤ m + 1 then isqrt m + 1 else isqrt m
theorem sqrt_ex (m : Nat) : isqrt m * isqrt m ≤ m ∧ m < (isqrt m + 1) * (isqrt m + 1) := by
  induction m with
  | zero => exact ⟨Nat.le_refl _, by decide⟩
  | succ m ih =>
    obtain ⟨h1, h2⟩ := ih
    obtain ⟨s, hs⟩ : ∃ s, isqrt m = s := ⟨_, rfl⟩
    unfold isqrt
    rw [hs] at h1 h2 ⊢
    by_cases h : m + 1 < (s + 1) * (s + 1)
    · rw [if_neg (by omega)]; exact ⟨by omega, h⟩
    · rw [if_pos (by omega)]
      refine ⟨by omega, ?_⟩
      have : (s + 1 + 1) * (s + 1 + 1) = (s + 1) * (s + 1) + 2 * s + 3 := by
        rw [Nat.add_mul (s + 1) 1, Nat.mul_add (s + 1) (s + 1) 1]; omega
      omega
theorem isqrt_lo (m : Nat) : isqrt m * isqrt m ≤ m := (sqrt_ex m).1
theorem isqrt_hi (m : Nat) : m < (isqrt m + 1) * (isqrt m + 1) := (sqrt_ex m).2
theorem sq_le_iff (m x : Nat) : x * x ≤ m ↔ x ≤ isqrt m := by
  constructor
  · intro h
    rcases Nat.lt_or_ge (isqrt m) x with h1 | h1
    · have := Nat.mul_le_mul (show isqrt m + 1 ≤ x from h1) (show isqrt m + 1 ≤ x from h1)
      have := isqrt_hi m; omega
    · exact h1
  · intro h; exact Nat.le_trans (Nat.mul_le_mul h h) (isqrt_lo m)
theorem isqrt_uniq (m s : Nat) (h1 : s * s ≤ m) (h2 : m < (s + 1) * (s + 1)) : isqrt m = s := by
  have h3 := (sq_le_iff m s).1 h1
  rcases Nat.lt_or_ge s (isqrt m) with h | h
  · have := (sq_le_iff m (s + 1)).2 h; omega
  · omega
theorem isqrt_len (m : Nat) : isqrt m < 10000 ^ (((grp m).length + 1) / 2) := by
  rcases Nat.lt_or_ge (isqrt m) (10000 ^ (((grp m).length + 1) / 2)) with h | h
  · exact h
  · exfalso
    have h1 := (sq_le_iff m _).2 h
    rw [← Nat.pow_add] at h1
    have h2 := grp_lt m
    have h3 : 10000 ^ (grp m).length ≤ 10000 ^ (((grp m).length + 1) / 2 + ((grp m).length + 1) / 2) := Nat.pow_le_pow_right (by decide) (by omega)
    omega
/-- A group of the root. -/
theorem root_digit (s i g : Nat) : s / 10000 ^ (i + 1) * 10000 ^ (i + 1) + g * 10000 ^ i ≤ s ↔ g ≤ s / 10000 ^ i % 10000 ∨ (g ≤ s / 10000 ^ i - s / 10000 ^ (i + 1) * 10000) := by
  have hp : 0 < 10000 ^ i := Nat.pow_pos (by decide)
  have e1 := div_shift s i
  have e : s / 10000 ^ (i + 1) * 10000 ^ (i + 1) + g * 10000 ^ i = (s / 10000 ^ (i + 1) * 10000 + g) * 10000 ^ i := by
    rw [Nat.add_mul, Nat.pow_succ, Nat.mul_assoc (s / (10000 ^ i * 10000)), Nat.mul_comm 10000]
  rw [e, ← Nat.le_div_iff_mul_le hp]
  omega

/-- The text by groups, from the top down. -/
theorem text_step (q g : Nat) (hq : 0 < q) (hg : g < 10000) : decDigits (q * 10000 + g) = decDigits q ++ dec4 g := by
  rw [dd_step4 _ (by omega), show (q * 10000 + g) / 10000 = q by omega, show (q * 10000 + g) % 10000 = g by omega]
/-- The number of some digits, group by group from the end. -/
theorem dv_take (d : List UInt8) (t : Nat) (h : t ≤ d.length) (h4 : 4 ≤ t) : dv (d.take t) = dv (d.take (t - 4)) * 10000 + dv ((d.take t).drop (t - 4)) := by
  have e : d.take t = d.take (t - 4) ++ (d.take t).drop (t - 4) := by
    conv => lhs; rw [← List.take_append_drop (t - 4) (d.take t)]
    rw [List.take_take, Nat.min_eq_left (by omega)]
  conv => lhs; rw [e]
  rw [dv_append]
  congr 2
  rw [List.length_drop, List.length_take, Nat.min_eq_left h, show t - (t - 4) = 4 by omega]
theorem digs_take {d : List UInt8} (h : digs d = true) (t : Nat) : digs (d.take t) = true := List.all_eq_true.2 fun c hc => List.all_eq_true.1 h c (List.mem_of_mem_take hc)
theorem digs_drop {d : List UInt8} (h : digs d = true) (t : Nat) : digs (d.drop t) = true := List.all_eq_true.2 fun c hc => List.all_eq_true.1 h c (List.mem_of_mem_drop hc)
theorem digs_at {d : List UInt8} (h : digs d = true) (k : Nat) (hk : k < d.length) : 48 ≤ d[k].toNat ∧ d[k].toNat ≤ 57 := by
  have := List.all_eq_true.1 h d[k] (List.getElem_mem hk)
  simpa using this
end Im
end Go.Proofs.YtabkodpjhpjgnaaGreatDoor

namespace Go.Proofs.YtabkodpjhpjgnaaGreatDoor
namespace Im

theorem getD_set (l : List Int) (k j : Nat) (x : Int) (hk : k < l.length) : (l.set k x).getD j 0 = if j = k then x else l.getD j 0 := by
  rw [List.getD_eq_getElem?_getD, List.getD_eq_getElem?_getD]
  split
  · rename_i h; subst h; rw [List.getElem?_set_self hk]; rfl
  · rename_i h; rw [List.getElem?_set_ne (fun e => h e.symm)]
theorem gs_getD {l : List Int} (h : Gs l) (j : Nat) : 0 ≤ l.getD j 0 ∧ l.getD j 0 ≤ 9999 := by
  rw [List.getD_eq_getElem?_getD]
  cases e : l[j]? with
  | none => exact ⟨by simp, by simp⟩
  | some x => have := h x (List.mem_of_getElem? e); simp; omega
/-- Columns of A to which s times the first k groups of gb have been added. -/
structure ColI (s A : Int) (gb : List Int) (N k : Nat) (L : List Int) : Prop where
  len : L.length = N
  val : val L = A + s * val (gb.take k)
  lo : ∀ j, j < N → -9999 ≤ L.getD j 0
  hi : ∀ j, j < N → L.getD j 0 ≤ 19998
  rest : ∀ j, j < N → k ≤ j → 0 ≤ L.getD j 0 ∧ L.getD j 0 ≤ 9999
theorem colI_start (s : Int) (a N : Nat) (gb : List Int) (h : (grp a).length ≤ N) : ColI s a gb N 0 (grp a ++ List.replicate (N - (grp a).length) 0) := by
  have hg : Gs (grp a ++ List.replicate (N - (grp a).length) 0) := (grp_gs a).append (gs_zeros _)
  refine ⟨by simp; omega, ?_, fun j _ => by have := gs_getD hg j; omega, fun j _ => by have := gs_getD hg j; omega, fun j _ _ => gs_getD hg j⟩
  rw [val_append, val_zeros, grp_val, Int.mul_zero, List.take_zero]; show (a : Int) + 0 = a + s * 0; omega
theorem colI_own (s : Int) (a : Nat) (gb : List Int) : ColI s a gb (grp a).length 0 (grp a) := by
  have := colI_start s a (grp a).length gb (Nat.le_refl _)
  rwa [Nat.sub_self, List.replicate_zero, List.append_nil] at this
theorem colI_step {s A : Int} {gb : List Int} {N k : Nat} {L : List Int} (h : ColI s A gb N k L) (hs : s = 1 ∨ s = -1) (hg : Gs gb) (hk : k < gb.length) (hN : k < N) : ColI s A gb N (k + 1) (L.set k (L.getD k 0 + s * gb.getD k 0)) := by
  have hkl : k < L.length := by rw [h.len]; exact hN
  have hb := gs_getD hg k
  have hr := h.rest k hN (Nat.le_refl _)
  have hx : -9999 ≤ L.getD k 0 + s * gb.getD k 0 ∧ L.getD k 0 + s * gb.getD k 0 ≤ 19998 := by rcases hs with rfl | rfl <;> omega
  refine ⟨by rw [List.length_set, h.len], ?_, fun j hj => ?_, fun j hj => ?_, fun j hj hkj => ?_⟩
  · rw [val_set L k _ hkl, h.val, val_take_succ gb k hk, Int.mul_add, ← Int.add_assoc, Int.mul_left_comm]
  · rw [getD_set _ _ _ _ hkl]; split
    · exact hx.1
    · exact h.lo j hj
  · rw [getD_set _ _ _ _ hkl]; split
    · exact hx.2
    · exact h.hi j hj
  · rw [getD_set _ _ _ _ hkl, if_neg (by omega)]; exact h.rest j hj (by omega)
theorem colI_small {s A : Int} {gb : List Int} {N k : Nat} {L : List Int} (h : ColI s A gb N k L) : ∀ x ∈ L, -1000000000000000 ≤ x ∧ x ≤ 1000000000000000 := by
  intro x hx
  obtain ⟨j, hj, rfl⟩ := List.getElem_of_mem hx
  have h1 := h.lo j (by rw [← h.len]; exact hj); have h2 := h.hi j (by rw [← h.len]; exact hj)
  rw [List.getD_eq_getElem?_getD, List.getElem?_eq_getElem hj] at h1 h2
  simp at h1 h2; omega
theorem pow_two_le (M : Nat) : (2 : Nat) * 10000 ^ M ≤ 10000 ^ (M + 1) := by rw [Nat.pow_succ]; omega
theorem plus_lt (a b M : Nat) (ha : (grp a).length ≤ M) (hb : (grp b).length ≤ M) : a + b < 10000 ^ (M + 1) := by
  have h1 := Nat.lt_of_lt_of_le (grp_lt a) (Nat.pow_le_pow_right (by decide) ha)
  have h2 := Nat.lt_of_lt_of_le (grp_lt b) (Nat.pow_le_pow_right (by decide) hb)
  have := pow_two_le M; omega
theorem castPow (N : Nat) : ((10000 ^ N : Nat) : Int) = 10000 ^ N := Int.natCast_pow _ _
theorem cast_lt {n N : Nat} (h : n < 10000 ^ N) : (n : Int) < 10000 ^ N := by rw [← castPow]; omega

/-- Columns while ga and gb are multiplied: i rows are done, and j columns of the next. -/
structure MulI (ga gb : List Int) (N i j : Nat) (L : List Int) : Prop where
  len : L.length = N
  val : val L = val (ga.take i) * val gb + 10000 ^ i * ga.getD i 0 * val (gb.take j)
  lo : ∀ m, m < N → 0 ≤ L.getD m 0
  hi : ∀ m, m < N → L.getD m 0 ≤ ((i * gb.length + j : Nat) : Int) * 100000000
theorem mulI_start (ga gb : List Int) (N : Nat) : MulI ga gb N 0 0 (List.replicate N 0) := by
  have hg := gs_zeros N
  refine ⟨by simp, ?_, fun m _ => (gs_getD hg m).1, fun m hm => ?_⟩
  · rw [val_zeros, List.take_zero]; simp [Im.val]
  · rw [List.getD_eq_getElem?_getD, List.getElem?_replicate, if_pos hm]; simp
theorem mulI_step {ga gb : List Int} {N i j : Nat} {L : List Int} (h : MulI ga gb N i j L) (ha : Gs ga) (hb : Gs gb) (hj : j < gb.length) (hN : i + j < N) : MulI ga gb N i (j + 1) (L.set (i + j) (L.getD (i + j) 0 + ga.getD i 0 * gb.getD j 0)) := by
  have hkl : i + j < L.length := by rw [h.len]; exact hN
  have hx := gs_getD ha i; have hy := gs_getD hb j
  have hp1 : 0 ≤ ga.getD i 0 * gb.getD j 0 := Int.mul_nonneg hx.1 hy.1
  have hp2 : ga.getD i 0 * gb.getD j 0 ≤ 9999 * 9999 := Int.mul_le_mul hx.2 hy.2 hy.1 (by omega)
  refine ⟨by rw [List.length_set, h.len], ?_, fun m hm => ?_, fun m hm => ?_⟩
  · rw [val_set L _ _ hkl, h.val, val_take_succ gb j hj, Int.pow_add, Int.mul_add, ← Int.add_assoc]
    congr 1
    rw [Int.mul_assoc, Int.mul_assoc, Int.mul_left_comm (10000 ^ j)]
  · have := h.lo m hm
    rw [getD_set _ _ _ _ hkl]; split
    · rename_i e; subst e; omega
    · exact this
  · have := h.hi m hm
    rw [getD_set _ _ _ _ hkl]; split
    · rename_i e; subst e; omega
    · omega
theorem mulI_row {ga gb : List Int} {N i : Nat} {L : List Int} (h : MulI ga gb N i gb.length L) (hi : i < ga.length) : MulI ga gb N (i + 1) 0 L := by
  refine ⟨h.len, ?_, h.lo, fun m hm => ?_⟩
  · rw [h.val, val_take_succ ga i hi, List.take_length, List.take_zero]; simp only [Im.val, Int.mul_zero, Int.add_zero]
    rw [Int.add_mul]
  · have := h.hi m hm
    rw [show (i + 1) * gb.length + 0 = i * gb.length + gb.length by rw [Nat.add_mul, Nat.one_mul, Nat.add_zero]]; exact this
theorem mulI_small {ga gb : List Int} {N i j : Nat} {L : List Int} (h : MulI ga gb N i j L) (hi : i ≤ 1000) (hj : j ≤ 1000) (hb : gb.length ≤ 1000) : ∀ x ∈ L, -1000000000000000 ≤ x ∧ x ≤ 1000000000000000 := by
  intro x hx
  obtain ⟨m, hm, rfl⟩ := List.getElem_of_mem hx
  have h1 := h.lo m (by rw [← h.len]; exact hm); have h2 := h.hi m (by rw [← h.len]; exact hm)
  rw [List.getD_eq_getElem?_getD, List.getElem?_eq_getElem hm] at h1 h2
  have h3 : i * gb.length ≤ 1000 * 1000 := Nat.mul_le_mul hi hb
  simp only [Option.getD_some] at h1 h2
  omega
theorem mulI_cell {ga gb : List Int} {N i j : Nat} {L : List Int} (h : MulI ga gb N i j L) (hi : i ≤ 1000) (hj : j ≤ 1000) (hb : gb.length ≤ 1000) (m : Nat) (hm : m < N) : 0 ≤ L.getD m 0 ∧ L.getD m 0 ≤ 1000000000000000 := by
  have h1 := h.lo m hm; have h2 := h.hi m hm
  have h3 : i * gb.length ≤ 1000 * 1000 := Nat.mul_le_mul hi hb
  omega
theorem mulI_end {a b N : Nat} {L : List Int} (h : MulI (grp a) (grp b) N (grp a).length 0 L) : val L = ((a * b : Nat) : Int) := by
  rw [h.val, List.take_length, List.take_zero, grp_val, grp_val]; simp [Im.val]
theorem times_lt (a b : Nat) : a * b < 10000 ^ ((grp a).length + (grp b).length) := by
  rw [Nat.pow_add]
  have h1 := grp_lt a; have h2 := grp_lt b
  exact Nat.mul_lt_mul'' h1 h2
theorem times_len (a b : Nat) : (grp (a * b)).length ≤ (grp a).length + (grp b).length := grp_len _ _ (times_lt a b)
theorem plus_len (a b M : Nat) (ha : (grp a).length ≤ M) (hb : (grp b).length ≤ M) : (grp (a + b)).length ≤ M + 1 := grp_len _ _ (plus_lt a b M ha hb)
theorem len_mono {a b : Nat} (h : a ≤ b) : (grp a).length ≤ (grp b).length := grp_len _ _ (Nat.lt_of_le_of_lt h (grp_lt b))
end Im
end Go.Proofs.YtabkodpjhpjgnaaGreatDoor
