/- Plain mathematics of layer 3: single groups of a number, division and roots group by group, texts by groups. No program is named here. -/
import Derived.Test.YtflpfmkfjccmiaaGreatDoorIt
namespace Go.Proofs.YtflpfmkfjccmiaaGreatDoor
namespace Im
open Go.Lib (decDigits itoa nDigits)

theorem trim_at (l : List Int) (k : Nat) (hk : k ≤ l.length) (h0 : ∀ j, k ≤ j → j < l.length → l.getD j 0 = 0) (h1 : 0 < k → l.getD (k - 1) 0 ≠ 0) : trim l = l.take k := by
  obtain ⟨m, hm, e, g0, g1⟩ := trim_eq l.length l rfl
  rw [e]
  rcases Nat.lt_trichotomy k m with h | h | h
  · exact absurd (h0 (m - 1) (by omega) (by omega)) (g1 (by omega))
  · rw [h]
  · exact absurd (g0 (k - 1) (by omega) (by omega)) (h1 (by omega))
theorem trim_len_le (l : List Int) : (trim l).length ≤ l.length := by
  obtain ⟨m, hm, e, _⟩ := trim_eq l.length l rfl
  rw [e, List.length_take]; omega
theorem trim_take (l : List Int) : trim l = l.take (trim l).length := by
  obtain ⟨m, hm, e, _⟩ := trim_eq l.length l rfl
  rw [e, List.length_take, Nat.min_eq_left hm]
theorem grp_drop (n : Nat) : ∀ i, (grp n).drop i = grp (n / 10000 ^ i)
  | 0 => by simp
  | i + 1 => by
    by_cases h : n = 0
    · subst h; simp [grp_zero]
    · rw [grp_pos n h, List.drop_succ_cons, grp_drop (n / 10000) i, Nat.div_div_eq_div_mul, Nat.pow_succ, Nat.mul_comm]
theorem grp_getD (n i : Nat) : (grp n).getD i 0 = ((n / 10000 ^ i % 10000 : Nat) : Int) := by
  have h := grp_drop n i
  have e : (grp n).getD i 0 = ((grp n).drop i).getD 0 0 := by simp [List.getD_eq_getElem?_getD]
  rw [e, h]
  by_cases h0 : n / 10000 ^ i = 0
  · rw [h0]; rfl
  · rw [grp_pos _ h0]; rfl
theorem grp_get (n i : Nat) (h : i < (grp n).length) : (grp n)[i]? = some ((n / 10000 ^ i % 10000 : Nat) : Int) := by
  have := grp_getD n i
  rw [List.getD_eq_getElem?_getD, List.getElem?_eq_getElem h] at this
  rw [List.getElem?_eq_getElem h]
  exact congrArg some this
theorem grp_ge (n : Nat) (h : n ≠ 0) : 10000 ^ ((grp n).length - 1) ≤ n := by
  induction n using Nat.strongRecOn with
  | _ n ih =>
    rw [grp_pos n h, List.length_cons, Nat.add_sub_cancel]
    by_cases h2 : n / 10000 = 0
    · rw [h2]; simp [grp_zero]; omega
    · have := ih (n / 10000) (by omega) h2
      have hl : 0 < (grp (n / 10000)).length := by
        rcases Nat.eq_zero_or_pos (grp (n / 10000)).length with e | e
        · exact absurd ((grp_len0 _).1 e) h2
        · exact e
      obtain ⟨k, hk⟩ : ∃ k, (grp (n / 10000)).length = k + 1 := ⟨_, (Nat.succ_pred_eq_of_pos hl).symm⟩
      rw [hk] at this ⊢
      rw [Nat.add_sub_cancel] at this
      rw [Nat.pow_succ]; omega
/-- Fewer groups than the divisor has: less. -/
theorem grp_few (a d k : Nat) (hd : d ≠ 0) (h : (grp a).length < k + (grp d).length) : a / 10000 ^ k < d := by
  have h1 := grp_lt a
  have h2 := grp_ge d hd
  have h3 : 10000 ^ (grp a).length ≤ 10000 ^ (k + ((grp d).length - 1)) := Nat.pow_le_pow_right (by decide) (by
    have : (grp d).length ≠ 0 := fun e => hd ((grp_len0 d).1 e)
    omega)
  rw [Nat.pow_add] at h3
  refine Nat.lt_of_lt_of_le ?_ h2
  exact Nat.div_lt_of_lt_mul (by omega)
theorem div_shift (a i : Nat) : a / 10000 ^ i = a / 10000 ^ (i + 1) * 10000 + a / 10000 ^ i % 10000 := by
  rw [Nat.pow_succ, ← Nat.div_div_eq_div_mul]; omega
/-- One more group of the dividend. -/
theorem div_step (x d g : Nat) (hd : 0 < d) : (x * 10000 + g) / d = x / d * 10000 + (x % d * 10000 + g) / d ∧ (x * 10000 + g) % d = (x % d * 10000 + g) % d := by
  have h := Nat.div_add_mod x d
  obtain ⟨q, hq⟩ : ∃ q, x / d = q := ⟨_, rfl⟩
  obtain ⟨r, hr⟩ : ∃ r, x % d = r := ⟨_, rfl⟩
  rw [hq, hr] at h ⊢
  have e : x * 10000 + g = r * 10000 + g + d * (q * 10000) := by
    rw [← h, Nat.add_mul, Nat.mul_assoc]; omega
  rw [e, Nat.add_mul_div_left _ _ hd, Nat.add_mul_mod_self_left]
  exact ⟨by omega, rfl⟩
theorem div_digit (x d g : Nat) (hx : x < d) (hg : g < 10000) : (x * 10000 + g) / d < 10000 := by
  refine Nat.div_lt_of_lt_mul ?_
  have : (x + 1) * 10000 ≤ d * 10000 := Nat.mul_le_mul_right _ (by omega)
  omega
/-- The groups of a quotient, from the top down. -/
theorem val_top (l : List Int) (i : Nat) (x : Int) (h : i < l.length) : val ((l.set i x).drop i) = x + 10000 * val (l.drop (i + 1)) := by
  rw [val_drop _ i (by simpa using h)]
  congr 1
  · rw [List.getD_eq_getElem?_getD, List.getElem?_set_self h]; rfl
  · rw [List.drop_set_of_lt (by omega)]
theorem gs_set {l : List Int} (h : Gs l) (i : Nat) (x : Int) (h0 : 0 ≤ x) (h1 : x < 10000) : Gs (l.set i x) := fun y hy => by
  rcases List.mem_or_eq_of_mem_set hy with hy | rfl
  · exact h y hy
  · exact ⟨h0, h1⟩
theorem gs_zeros (n : Nat) : Gs (List.replicate n 0) := fun y hy => by rw [List.eq_of_mem_replicate hy]; omega
/-- The bounds between which a quotient is sought. -/
theorem quot_low (m d f : Nat) (hd : 0 < d / 10000 ^ f) : (m / 10000 ^ f) / (d / 10000 ^ f + 1) ≤ m / d := by
  have hp : 0 < 10000 ^ f := Nat.pow_pos (by decide)
  have hd0 : 0 < d := by
    rcases Nat.eq_zero_or_pos d with h | h
    · subst h; rw [Nat.zero_div] at hd; omega
    · exact h
  rw [Nat.le_div_iff_mul_le hd0]
  have h1 := Nat.div_mul_le_self (m / 10000 ^ f) (d / 10000 ^ f + 1)
  have h2 := Nat.div_mul_le_self m (10000 ^ f)
  have h3 : d < (d / 10000 ^ f + 1) * 10000 ^ f := by
    have := Nat.div_add_mod d (10000 ^ f); have h4 := Nat.mod_lt d hp
    rw [Nat.add_mul, Nat.mul_comm (d / 10000 ^ f)]; omega
  calc m / 10000 ^ f / (d / 10000 ^ f + 1) * d ≤ m / 10000 ^ f / (d / 10000 ^ f + 1) * ((d / 10000 ^ f + 1) * 10000 ^ f) := Nat.mul_le_mul_left _ (Nat.le_of_lt h3)
    _ = m / 10000 ^ f / (d / 10000 ^ f + 1) * (d / 10000 ^ f + 1) * 10000 ^ f := by rw [Nat.mul_assoc]
    _ ≤ m / 10000 ^ f * 10000 ^ f := Nat.mul_le_mul_right _ h1
    _ ≤ m := h2
theorem quot_high (m d f : Nat) (hd : 0 < d / 10000 ^ f) : m / d ≤ (m / 10000 ^ f) / (d / 10000 ^ f) := by
  have hp : 0 < 10000 ^ f := Nat.pow_pos (by decide)
  rw [Nat.le_div_iff_mul_le hd, Nat.le_div_iff_mul_le hp, Nat.mul_assoc]
  exact Nat.le_trans (Nat.mul_le_mul_left _ (Nat.div_mul_le_self d _)) (Nat.div_mul_le_self m d)

/-- The integer root. -/
def isqrt : Nat → Nat
  | 0 => 0
  | m + 1 => if (isqrt m + 1) * (isqrt m + 1) ≤ m + 1 then isqrt m + 1 else isqrt m
theorem sqrt_ex (m : Nat) : isqrt m * isqrt m ≤ m ∧ m < (isqrt m + 1) * (isqrt m + 1) := by
  induction m with
  | zero => exact ⟨Nat.le_refl _, by decide⟩
  | succ m ih =>
    obtain ⟨h1, h2⟩ := ih
    obtain ⟨s, hs⟩ : ∃ s, isqrt m = s := ⟨_, rfl⟩
    unfold isqrt
    rw [hs] at h1 h2 ⊢
    by_cases h : m + 1 < (s + 1) * (s + 1)
    · rw [if_neg (by omega)]; exact ⟨by omega, h⟩
    · rw [if_pos (by omega)]
      refine ⟨by omega, ?_⟩
      have : (s + 1 + 1) * (s + 1 + 1) = (s + 1) * (s + 1) + 2 * s + 3 := by
        rw [Nat.add_mul (s + 1) 1, Nat.mul_add (s + 1) (s + 1) 1]; omega
      omega
theorem isqrt_lo (m : Nat) : isqrt m * isqrt m ≤ m := (sqrt_ex m).1
theorem isqrt_hi (m : Nat) : m < (isqrt m + 1) * (isqrt m + 1) := (sqrt_ex m).2
theorem sq_le_iff (m x : Nat) : x * x ≤ m ↔ x ≤ isqrt m := by
  constructor
  · intro h
    rcases Nat.lt_or_ge (isqrt m) x with h1 | h1
    · have := Nat.mul_le_mul (show isqrt m + 1 ≤ x from h1) (show isqrt m + 1 ≤ x from h1)
      have := isqrt_hi m; omega
    · exact h1
  · intro h; exact Nat.le_trans (Nat.mul_le_mul h h) (isqrt_lo m)
theorem isqrt_uniq (m s : Nat) (h1 : s * s ≤ m) (h2 : m < (s + 1) * (s + 1)) : isqrt m = s := by
  have h3 := (sq_le_iff m s).1 h1
  rcases Nat.lt_or_ge s (isqrt m) with h | h
  · have := (sq_le_iff m (s + 1)).2 h; omega
  · omega
theorem isqrt_len (m : Nat) : isqrt m < 10000 ^ (((grp m).length + 1) / 2) := by
  rcases Nat.lt_or_ge (isqrt m) (10000 ^ (((grp m).length + 1) / 2)) with h | h
  · exact h
  · exfalso
    have h1 := (sq_le_iff m _).2 h
    rw [← Nat.pow_add] at h1
    have h2 := grp_lt m
    have h3 : 10000 ^ (grp m).length ≤ 10000 ^ (((grp m).length + 1) / 2 + ((grp m).length + 1) / 2) := Nat.pow_le_pow_right (by decide) (by omega)
    omega
/-- A group of the root. -/
theorem root_digit (s i g : Nat) : s / 10000 ^ (i + 1) * 10000 ^ (i + 1) + g * 10000 ^ i ≤ s ↔ g ≤ s / 10000 ^ i % 10000 ∨ (g ≤ s / 10000 ^ i - s / 10000 ^ (i + 1) * 10000) := by
  have hp : 0 < 10000 ^ i := Nat.pow_pos (by decide)
  have e1 := div_shift s i
  have e : s / 10000 ^ (i + 1) * 10000 ^ (i + 1) + g * 10000 ^ i = (s / 10000 ^ (i + 1) * 10000 + g) * 10000 ^ i := by
    rw [Nat.add_mul, Nat.pow_succ, Nat.mul_assoc (s / (10000 ^ i * 10000)), Nat.mul_comm 10000]
  rw [e, ← Nat.le_div_iff_mul_le hp]
  omega

/-- The text by groups, from the top down. -/
theorem text_step (q g : Nat) (hq : 0 < q) (hg : g < 10000) : decDigits (q * 10000 + g) = decDigits q ++ dec4 g := by
  rw [dd_step4 _ (by omega), show (q * 10000 + g) / 10000 = q by omega, show (q * 10000 + g) % 10000 = g by omega]
/-- The number of some digits, group by group from the end. -/
theorem dv_take (d : List UInt8) (t : Nat) (h : t ≤ d.length) (h4 : 4 ≤ t) : dv (d.take t) = dv (d.take (t - 4)) * 10000 + dv ((d.take t).drop (t - 4)) := by
  have e : d.take t = d.take (t - 4) ++ (d.take t).drop (t - 4) := by
    conv => lhs; rw [← List.take_append_drop (t - 4) (d.take t)]
    rw [List.take_take, Nat.min_eq_left (by omega)]
  conv => lhs; rw [e]
  rw [dv_append]
  congr 2
  rw [List.length_drop, List.length_take, Nat.min_eq_left h, show t - (t - 4) = 4 by omega]
theorem digs_take {d : List UInt8} (h : digs d = true) (t : Nat) : digs (d.take t) = true := List.all_eq_true.2 fun c hc => List.all_eq_true.1 h c (List.mem_of_mem_take hc)
theorem digs_drop {d : List UInt8} (h : digs d = true) (t : Nat) : digs (d.drop t) = true := List.all_eq_true.2 fun c hc => List.all_eq_true.1 h c (List.mem_of_mem_drop hc)
theorem digs_at {d : List UInt8} (h : digs d = true) (k : Nat) (hk : k < d.length) : 48 ≤ d[k].toNat ∧ d[k].toNat ≤ 57 := by
  have := List.all_eq_true.1 h d[k] (List.getElem_mem hk)
  simpa using this
end Im
end Go.Proofs.YtflpfmkfjccmiaaGreatDoor
