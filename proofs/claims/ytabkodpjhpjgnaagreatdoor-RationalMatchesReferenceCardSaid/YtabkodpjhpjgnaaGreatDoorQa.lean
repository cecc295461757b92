/- Plain facts on fractions in lowest terms: what reducing, adding, comparing and rounding give. -/
namespace Go.Proofs.YtabkodpjhpjgnaaGreatDoor
namespace Qm

/-- The divisor by which a fraction is reduced, with the sign of the denominator. -/
def gs (n d : Int) : Int := if d < 0 then -((Nat.gcd n.natAbs d.natAbs : Nat) : Int) else ((Nat.gcd n.natAbs d.natAbs : Nat) : Int)

theorem gcd_pos (n d : Int) (hd : d ≠ 0) : 0 < Nat.gcd n.natAbs d.natAbs := Nat.gcd_pos_of_pos_right _ (by omega)
theorem gs_ne (n d : Int) (hd : d ≠ 0) : gs n d ≠ 0 := by
  have := gcd_pos n d hd
  unfold gs; split <;> omega
theorem gs_dvd_n (n d : Int) : gs n d ∣ n := by
  have h : ((Nat.gcd n.natAbs d.natAbs : Nat) : Int) ∣ n := Int.ofNat_dvd_left.2 (Nat.gcd_dvd_left _ _)
  unfold gs; split
  · exact Int.neg_dvd.2 h
  · exact h
theorem gs_dvd_d (n d : Int) : gs n d ∣ d := by
  have h : ((Nat.gcd n.natAbs d.natAbs : Nat) : Int) ∣ d := Int.ofNat_dvd_left.2 (Nat.gcd_dvd_right _ _)
  unfold gs; split
  · exact Int.neg_dvd.2 h
  · exact h
theorem div_neg_exact (a b : Int) (h : b ∣ a) : a / -b = -(a / b) := by
  obtain ⟨c, rfl⟩ := h
  by_cases hb : b = 0
  · subst hb; simp
  · rw [Int.mul_ediv_cancel_left _ hb, show b * c = -b * -c from by rw [Int.neg_mul_neg], Int.mul_ediv_cancel_left _ (by omega)]
theorem red_num (n d : Int) (hd : d ≠ 0) : n / gs n d = (Rat.divInt n d).num := by
  rw [Rat.num_divInt]
  have hg : d.gcd n = Nat.gcd n.natAbs d.natAbs := Nat.gcd_comm _ _
  have hdv : ((Nat.gcd n.natAbs d.natAbs : Nat) : Int) ∣ n := Int.ofNat_dvd_left.2 (Nat.gcd_dvd_left _ _)
  rw [hg]
  unfold gs; split
  · rename_i h
    rw [Int.sign_eq_neg_one_of_neg h, div_neg_exact _ _ hdv, Int.neg_mul, Int.one_mul, Int.neg_ediv_of_dvd hdv]
  · rw [Int.sign_eq_one_of_pos (by omega), Int.one_mul]
theorem red_den (n d : Int) (hd : d ≠ 0) : d / gs n d = (((Rat.divInt n d).den : Nat) : Int) := by
  rw [Rat.den_divInt, if_neg hd]
  have hg : d.gcd n = Nat.gcd n.natAbs d.natAbs := Nat.gcd_comm _ _
  have hdv : ((Nat.gcd n.natAbs d.natAbs : Nat) : Int) ∣ d := Int.ofNat_dvd_left.2 (Nat.gcd_dvd_right _ _)
  rw [hg, Int.natCast_ediv]
  unfold gs; split
  · rename_i h
    rw [div_neg_exact _ _ hdv, ← Int.neg_ediv_of_dvd hdv, show ((d.natAbs : Nat) : Int) = -d from by omega]
  · rw [show ((d.natAbs : Nat) : Int) = d from by omega]
theorem div_abs_le (a b : Int) (hb : b ≠ 0) (h : b ∣ a) : (a / b).natAbs ≤ a.natAbs := by
  obtain ⟨c, rfl⟩ := h
  rw [Int.mul_ediv_cancel_left _ hb, Int.natAbs_mul]
  exact Nat.le_mul_of_pos_left _ (by omega)
theorem red_num_le (n d : Int) (hd : d ≠ 0) : (Rat.divInt n d).num.natAbs ≤ n.natAbs := by
  rw [← red_num n d hd]; exact div_abs_le _ _ (gs_ne n d hd) (gs_dvd_n n d)
theorem red_den_le (n d : Int) (hd : d ≠ 0) : (Rat.divInt n d).den ≤ d.natAbs := by
  have h := red_den n d hd
  have := div_abs_le d (gs n d) (gs_ne n d hd) (gs_dvd_d n d)
  rw [h] at this; simpa using this
theorem gs_abs (n d : Int) : (gs n d).natAbs = Nat.gcd n.natAbs d.natAbs := by
  unfold gs; split <;> omega

theorem den_pos (q : Rat) : (0 : Int) < ((q.den : Nat) : Int) := by have := q.den_pos; omega
theorem den_ne (q : Rat) : ((q.den : Nat) : Int) ≠ 0 := by have := den_pos q; omega
theorem qgcd (q : Rat) : Nat.gcd q.num.natAbs q.den = 1 := q.reduced
/-- A pair in lowest terms is a fraction. -/
theorem of_coprime (n d : Int) (hd : 0 < d) (h : Nat.gcd n.natAbs d.natAbs = 1) : ∃ q : Rat, q.num = n ∧ ((q.den : Nat) : Int) = d :=
  ⟨⟨n, d.natAbs, by omega, h⟩, rfl, by show ((d.natAbs : Nat) : Int) = d; omega⟩

theorem add_eq (p q : Rat) : Rat.divInt (p.num * q.den + q.num * p.den) ((p.den : Int) * (q.den : Int)) = p + q := by
  rw [← Int.natCast_mul, Rat.divInt_ofNat, Rat.add_def']
theorem sub_eq (p q : Rat) : Rat.divInt (p.num * q.den - q.num * p.den) ((p.den : Int) * (q.den : Int)) = p - q := by
  rw [← Int.natCast_mul, Rat.divInt_ofNat, Rat.sub_def']
theorem mul_eq (p q : Rat) : Rat.divInt (p.num * q.num) ((p.den : Int) * (q.den : Int)) = p * q := by
  rw [← Int.natCast_mul, Rat.divInt_ofNat, Rat.mul_def']
theorem div_eq (p q : Rat) : Rat.divInt (p.num * q.den) ((p.den : Int) * q.num) = p / q := by
  have h1 : Rat.divInt p.num p.den = p := Rat.num_divInt_den p
  rw [Rat.div_def, Rat.inv_def]
  conv => rhs; rw [← h1]
  rw [Rat.divInt_mul_divInt]
theorem num_zero {q : Rat} : q.num = 0 ↔ q = 0 := Rat.num_eq_zero
theorem qext {p q : Rat} (h1 : p.num = q.num) (h2 : ((p.den : Nat) : Int) = ((q.den : Nat) : Int)) : p = q := Rat.ext h1 (by omega)

/-- The order of two fractions with positive denominators, as a sign. -/
def cmp4 (n d m c : Int) : Int := if n * c < m * d then -1 else if m * d < n * c then 1 else 0
theorem cmp4_whole (n d m c : Int) (hd : 0 < d) (hc : 0 < c) (h : n / d < m / c) : cmp4 n d m c = -1 := by
  have h1 := Int.emod_add_mul_ediv n d
  have h2 := Int.emod_add_mul_ediv m c
  have h3 := Int.emod_lt_of_pos n hd
  have h4 := Int.emod_nonneg m (show c ≠ 0 by omega)
  have h5 : n < d * (n / d + 1) := by rw [Int.mul_add]; omega
  have h6 : c * (m / c) ≤ m := by omega
  have h7 : d * (n / d + 1) ≤ d * (m / c) := Int.mul_le_mul_of_nonneg_left (by omega) (by omega)
  have h8 : n * c < d * (m / c) * c := Int.mul_lt_mul_of_pos_right (by omega) hc
  have h9 : d * (m / c) * c ≤ m * d := by
    rw [Int.mul_assoc, Int.mul_comm (m / c) c, Int.mul_comm m d]
    exact Int.mul_le_mul_of_nonneg_left h6 (by omega)
  unfold cmp4; rw [if_pos (by omega)]
theorem cmp4_symm (n d m c : Int) : cmp4 m c n d = -cmp4 n d m c := by
  unfold cmp4
  by_cases h : n * c < m * d
  · rw [if_pos h, if_neg (by omega), if_pos h]; rfl
  · by_cases h2 : m * d < n * c
    · rw [if_pos h2, if_neg h, if_pos h2]
    · rw [if_neg h, if_neg h2, if_neg h2, if_neg h]; rfl
theorem cmp4_rest (n d m c : Int) (h : n / d = m / c) : cmp4 n d m c = cmp4 (n % d) d (m % c) c := by
  have h1 := Int.emod_add_mul_ediv n d
  have h2 := Int.emod_add_mul_ediv m c
  have e1 : n * c = (n % d) * c + d * c * (n / d) := by
    have : n * c = (n % d + d * (n / d)) * c := by rw [h1]
    rw [this, Int.add_mul]
    congr 1
    rw [Int.mul_assoc, Int.mul_comm (n / d) c, ← Int.mul_assoc]
  have e2 : m * d = (m % c) * d + d * c * (n / d) := by
    have : m * d = (m % c + c * (m / c)) * d := by rw [h2]
    rw [this, Int.add_mul, h]
    congr 1
    rw [Int.mul_assoc, Int.mul_comm (m / c) d, ← Int.mul_assoc, Int.mul_comm c d]
  unfold cmp4
  rw [e1, e2]
  generalize d * c * (n / d) = K
  by_cases a : n % d * c < m % c * d
  · rw [if_pos (by omega), if_pos a]
  · rw [if_neg (by omega), if_neg a]
    by_cases b : m % c * d < n % d * c
    · rw [if_pos (by omega), if_pos b]
    · rw [if_neg (by omega), if_neg b]
theorem cmp4_swap (r d s c : Int) : cmp4 r d s c = cmp4 c s d r := by
  unfold cmp4
  rw [Int.mul_comm c r, Int.mul_comm d s]
theorem cmp4_zero (r d s c : Int) (hd : 0 < d) (hc : 0 < c) (hr : 0 ≤ r) (hs : 0 ≤ s) (h : r = 0 ∨ s = 0) : cmp4 r d s c = if r < s then -1 else if s < r then 1 else 0 := by
  unfold cmp4
  rcases h with rfl | rfl
  · by_cases h0 : s = 0
    · subst h0; simp
    · have : 0 < s * d := Int.mul_pos (by omega) hd
      rw [Int.zero_mul, if_pos this, if_pos (by omega)]
  · by_cases h0 : r = 0
    · subst h0; simp
    · have : 0 < r * c := Int.mul_pos (by omega) hc
      rw [Int.zero_mul, if_neg (by omega), if_pos this, if_neg (by omega), if_pos (by omega)]
theorem cmp4_gt (n d m c : Int) (hd : 0 < d) (hc : 0 < c) (h : m / c < n / d) : cmp4 n d m c = 1 := by
  rw [cmp4_symm m c n d, cmp4_whole m c n d hc hd h]; rfl

/-- The order of fractions, as a sign. -/
def qcmp (p q : Rat) : Int := cmp4 p.num p.den q.num q.den
theorem qcmp_lt (p q : Rat) (h : p < q) : qcmp p q = -1 := by
  unfold qcmp cmp4; rw [if_pos ((Rat.lt_iff p q).1 h)]
theorem qcmp_gt (p q : Rat) (h : q < p) : qcmp p q = 1 := by
  have := (Rat.lt_iff q p).1 h
  unfold qcmp cmp4; rw [if_neg (by omega), if_pos this]
theorem qcmp_self (p : Rat) : qcmp p p = 0 := by
  unfold qcmp cmp4; rw [if_neg (by omega), if_neg (by omega)]
theorem trich (p q : Rat) : p < q ∨ p = q ∨ q < p := by
  by_cases h : p < q
  · exact .inl h
  · by_cases h2 : q < p
    · exact .inr (.inr h2)
    · exact .inr (.inl (Rat.le_antisymm (Rat.not_lt.1 h2) (Rat.not_lt.1 h)))
theorem qcmp_cases (p q : Rat) : (p < q ∧ qcmp p q = -1) ∨ (p = q ∧ qcmp p q = 0) ∨ (q < p ∧ qcmp p q = 1) := by
  rcases trich p q with h | rfl | h
  · exact .inl ⟨h, qcmp_lt _ _ h⟩
  · exact .inr (.inl ⟨rfl, qcmp_self _⟩)
  · exact .inr (.inr ⟨h, qcmp_gt _ _ h⟩)
theorem qcmp_zero (p q : Rat) : qcmp p q = 0 ↔ p = q := by
  rcases qcmp_cases p q with ⟨h, e⟩ | ⟨h, e⟩ | ⟨h, e⟩
  · rw [e]; exact ⟨by omega, fun h' => absurd h (h' ▸ Rat.lt_irrefl)⟩
  · rw [e]; exact ⟨fun _ => h, fun _ => rfl⟩
  · rw [e]; exact ⟨by omega, fun h' => absurd h (h' ▸ Rat.lt_irrefl)⟩
theorem qcmp_symm (p q : Rat) : qcmp q p = -qcmp p q := cmp4_symm _ _ _ _
theorem qcmp_le (p q : Rat) : qcmp p q ≤ 0 ↔ p ≤ q := by
  rcases qcmp_cases p q with ⟨h, e⟩ | ⟨h, e⟩ | ⟨h, e⟩
  · rw [e]; exact ⟨fun _ => Rat.le_of_lt h, fun _ => by omega⟩
  · rw [e]; exact ⟨fun _ => h ▸ Rat.le_refl, fun _ => by omega⟩
  · rw [e]; exact ⟨by omega, fun h' => absurd h (Rat.not_lt.2 h')⟩
theorem qcmp_neg (p q : Rat) : qcmp p q < 0 ↔ p < q := by
  rcases qcmp_cases p q with ⟨h, e⟩ | ⟨h, e⟩ | ⟨h, e⟩
  · rw [e]; exact ⟨fun _ => h, fun _ => by omega⟩
  · rw [e]; exact ⟨by omega, fun h' => absurd h' (h ▸ Rat.lt_irrefl)⟩
  · rw [e]; exact ⟨by omega, fun h' => absurd (Rat.le_of_lt h') (Rat.not_le.2 h)⟩
theorem qcmp_pos (p q : Rat) : 0 < qcmp p q ↔ q < p := by
  have := qcmp_neg q p
  rw [qcmp_symm p q] at this
  rw [← this]; omega
theorem qcmp_01 (p q : Rat) : -1 ≤ qcmp p q ∧ qcmp p q ≤ 1 := by
  rcases qcmp_cases p q with ⟨_, e⟩ | ⟨_, e⟩ | ⟨_, e⟩ <;> rw [e] <;> decide
end Qm
end Go.Proofs.YtabkodpjhpjgnaaGreatDoor
