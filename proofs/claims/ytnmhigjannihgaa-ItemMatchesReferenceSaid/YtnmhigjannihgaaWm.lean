/- Plain mathematics of layer 1: the groups of a number and their decoding; the register of the checksum. No program is imported. -/
namespace Go.Proofs.Ytnmhigjannihgaa.Wm

/-- The groups of y, at most f of them. -/
def encF : Nat → Nat → List UInt8
  | 0, _ => []
  | f + 1, y => if y < 128 then [UInt8.ofNat y] else UInt8.ofNat (y % 128 + 128) :: encF f (y / 128)
def enc (y : Nat) : List UInt8 := encF 9 y

/-- The number and the count of the groups at the head of a list; (0, 0) where there is no encoding. -/
def dec (i z : Nat) : List UInt8 → Nat × Nat
  | [] => (0, 0)
  | b :: r => if 9 ≤ i then (0, 0) else
      if b.toNat < 128 then (if b.toNat = 0 ∧ 0 < i then (0, 0) else (z + b.toNat % 128 * 128 ^ i, i + 1))
      else dec (i + 1) (z + b.toNat % 128 * 128 ^ i) r

def foldZ (n : Int) : Nat := if n < 0 then (2 * (-n) - 1).toNat else (2 * n).toNat
def unfoldZ (z : Nat) : Int := if z % 2 = 1 then -((z / 2 : Nat) : Int) - 1 else ((z / 2 : Nat) : Int)

theorem unfold_fold (n : Int) : unfoldZ (foldZ n) = n := by
  unfold unfoldZ foldZ
  split <;> rename_i h
  · rw [if_pos (by omega)]; omega
  · rw [if_neg (by omega)]; omega
theorem fold_unfold (z : Nat) : foldZ (unfoldZ z) = z := by
  unfold unfoldZ foldZ
  by_cases h : z % 2 = 1
  · rw [if_pos h, if_pos (by omega)]; omega
  · rw [if_neg h, if_neg (by omega)]; omega
theorem fold_lt (n : Int) (h1 : -4611686018427387903 ≤ n) (h2 : n ≤ 4611686018427387903) : foldZ n ≤ 9223372036854775806 := by
  unfold foldZ; split <;> omega
theorem unfold_bd (z : Nat) (h : z ≤ 9223372036854775806) : -4611686018427387903 ≤ unfoldZ z ∧ unfoldZ z ≤ 4611686018427387903 := by
  unfold unfoldZ; split <;> omega
theorem unfold_out (z : Nat) (h : 9223372036854775806 < z) (h2 : z < 9223372036854775808) : unfoldZ z < -4611686018427387903 := by
  unfold unfoldZ; split <;> omega
theorem unfold_wide (z : Nat) (h2 : z < 9223372036854775808) : -4611686018427387904 ≤ unfoldZ z ∧ unfoldZ z ≤ 4611686018427387903 := by
  unfold unfoldZ; split <;> omega

theorem u8_ofNat (n : Nat) (h : n < 256) : (UInt8.ofNat n).toNat = n := by
  simp [UInt8.toNat_ofNat']; omega
theorem u8_eta (b : UInt8) : UInt8.ofNat b.toNat = b := by simp

theorem encF_len_pos (f y : Nat) : 0 < (encF (f + 1) y).length := by
  unfold encF; split <;> simp
theorem encF_len_le : ∀ (f y : Nat), (encF f y).length ≤ f
  | 0, _ => by simp [encF]
  | f + 1, y => by
    unfold encF; split
    · simp
    · have := encF_len_le f (y / 128); simp; omega
/-- A number below 128^i has at most i groups, if i is not 0. -/
theorem encF_len_lt : ∀ (f i y : Nat), y < 128 ^ (i + 1) → (encF f y).length ≤ i + 1
  | 0, _, _, _ => by simp [encF]
  | f + 1, 0, y, h => by
    have : y < 128 := by simpa using h
    simp [encF, this]
  | f + 1, i + 1, y, h => by
    unfold encF; split
    · simp
    · have hy : y / 128 < 128 ^ (i + 1) := by
        rw [Nat.div_lt_iff_lt_mul (by decide)]
        rw [Nat.pow_succ] at h; exact h
      have := encF_len_lt f i (y / 128) hy
      simp; omega

theorem dec_enc (q : List UInt8) : ∀ (f i z y : Nat), f + i = 9 → y < 128 ^ f → (0 < i → 0 < y) →
    dec i z (encF f y ++ q) = (z + y * 128 ^ i, i + (encF f y).length)
  | 0, i, z, y, hf, hy, hp => by
    have : y = 0 := by simpa using hy
    have := hp (by omega)
    omega
  | f + 1, i, z, y, hf, hy, hp => by
    unfold encF
    by_cases h : y < 128
    · rw [if_pos h]
      have e : (UInt8.ofNat y).toNat = y := u8_ofNat y (by omega)
      show dec i z (UInt8.ofNat y :: q) = _
      unfold dec
      rw [if_neg (by omega), e, if_pos h, if_neg (by rintro ⟨h0, hi⟩; have := hp hi; omega), Nat.mod_eq_of_lt h]
      simp
    · rw [if_neg h]
      have e : (UInt8.ofNat (y % 128 + 128)).toNat = y % 128 + 128 := u8_ofNat _ (by omega)
      show dec i z (UInt8.ofNat (y % 128 + 128) :: (encF f (y / 128) ++ q)) = _
      unfold dec
      have hy2 : y / 128 < 128 ^ f := by
        rw [Nat.div_lt_iff_lt_mul (by decide)]
        rw [Nat.pow_succ] at hy; exact hy
      rw [if_neg (by omega), e, if_neg (by omega), dec_enc q f (i + 1) _ (y / 128) (by omega) hy2 (by omega)]
      have e2 : (y % 128 + 128) % 128 = y % 128 := by omega
      have e3 : y = y % 128 + 128 * (y / 128) := (Nat.mod_add_div y 128).symm
      rw [e2, Nat.pow_succ, List.length_cons, Prod.mk.injEq]
      refine ⟨?_, by omega⟩
      conv => rhs; rw [e3, Nat.add_mul]
      rw [Nat.add_assoc]
      congr 2
      rw [Nat.mul_comm 128 (y / 128), Nat.mul_assoc, Nat.mul_comm 128]

theorem dec_some : ∀ (l : List UInt8) (i z v k : Nat), dec i z l = (v, k) → 0 < k →
    ∃ y, v = z + y * 128 ^ i ∧ i < 9 ∧ y < 128 ^ (9 - i) ∧ k = i + (encF (9 - i) y).length ∧ l.take (encF (9 - i) y).length = encF (9 - i) y ∧ (0 < i → 0 < y)
  | [], i, z, v, k, h, hk => by
    unfold dec at h; simp at h; omega
  | b :: r, i, z, v, k, h, hk => by
    unfold dec at h
    by_cases h9 : 9 ≤ i
    · rw [if_pos h9] at h; simp at h; omega
    · rw [if_neg h9] at h
      have hb := b.toNat_lt
      obtain ⟨f, hf⟩ : ∃ f, 9 - i = f + 1 := ⟨8 - i, by omega⟩
      by_cases hlt : b.toNat < 128
      · rw [if_pos hlt] at h
        by_cases h0 : b.toNat = 0 ∧ 0 < i
        · rw [if_pos h0] at h; simp at h; omega
        · rw [if_neg h0] at h
          simp only [Prod.mk.injEq] at h
          obtain ⟨rfl, rfl⟩ := h
          refine ⟨b.toNat, by rw [Nat.mod_eq_of_lt hlt], by omega, ?_, ?_, ?_, by omega⟩
          · rw [hf, Nat.pow_succ]
            have : 0 < 128 ^ f := Nat.pow_pos (by decide)
            omega
          · rw [hf]; simp [encF, hlt]
          · rw [hf]; simp [encF, hlt]
      · rw [if_neg hlt] at h
        obtain ⟨y, hv, hi, hy, hk2, ht, hp⟩ := dec_some r (i + 1) _ v k h hk
        have hf2 : 9 - (i + 1) = f := by omega
        rw [hf2] at hy hk2 ht
        have hy0 := hp (by omega)
        have ey : (b.toNat % 128 + 128 * y) / 128 = y := by omega
        have em : (b.toNat % 128 + 128 * y) % 128 + 128 = b.toNat := by omega
        have ee : encF (f + 1) (b.toNat % 128 + 128 * y) = b :: encF f y := by
          rw [encF, if_neg (by omega), em, ey, u8_eta]
        refine ⟨b.toNat % 128 + 128 * y, ?_, by omega, ?_, ?_, ?_, by omega⟩
        · rw [hv, Nat.pow_succ, Nat.add_mul, Nat.add_assoc, Nat.mul_comm 128 y, Nat.mul_assoc, Nat.mul_comm 128]
        · rw [hf, Nat.pow_succ]; omega
        · rw [hf, ee, hk2]; simp; omega
        · rw [hf, ee]; simp [ht]

theorem dec_enc0 (y : Nat) (q : List UInt8) (h : y < 9223372036854775808) : dec 0 0 (enc y ++ q) = (y, (enc y).length) := by
  have := dec_enc q 9 0 0 y rfl (by simpa using h) (by omega)
  simpa [enc] using this
theorem dec_some0 (l : List UInt8) (v k : Nat) (h : dec 0 0 l = (v, k)) (hk : 0 < k) : v < 9223372036854775808 ∧ k = (enc v).length ∧ l.take k = enc v := by
  obtain ⟨y, hv, _, hy, hk2, ht, _⟩ := dec_some l 0 0 v k h hk
  obtain rfl : v = y := by simpa using hv
  refine ⟨by simpa using hy, by simpa [enc] using hk2, ?_⟩
  have e : k = (encF 9 v).length := by simpa using hk2
  rw [e]; simpa [enc] using ht
theorem enc_pos (y : Nat) : 0 < (enc y).length := encF_len_pos 8 y
theorem enc_le (y : Nat) : (enc y).length ≤ 9 := encF_len_le 9 y
theorem dec_none (l : List UInt8) (h : (dec 0 0 l).2 = 0) : dec 0 0 l = (0, 0) := by
  have : ∀ (l : List UInt8) (i z : Nat), (dec i z l).2 = 0 → dec i z l = (0, 0) := by
    intro l
    induction l with
    | nil => intro i z _; rfl
    | cons b r ih =>
      intro i z h
      unfold dec at h ⊢
      split at h
      · rename_i h1; rw [if_pos h1]
      · split at h
        · split at h
          · rename_i h1 h2 h3; rw [if_neg h1, if_pos h2, if_pos h3]
          · simp at h
        · rename_i h1 h2; rw [if_neg h1, if_neg h2]; exact ih _ _ h
  exact this l 0 0 h
/-- A proper prefix of an encoding has none. -/
theorem dec_prefix (y k : Nat) (h : y < 9223372036854775808) (hk : k < (enc y).length) : dec 0 0 ((enc y).take k) = (0, 0) := by
  by_cases h0 : (dec 0 0 ((enc y).take k)).2 = 0
  · exact dec_none _ h0
  · exfalso
    obtain ⟨a, b, c⟩ := dec_some0 ((enc y).take k) _ _ rfl (by omega)
    have e := dec_enc0 (dec 0 0 ((enc y).take k)).1 ((enc y).drop (dec 0 0 ((enc y).take k)).2) a
    have hl : (dec 0 0 ((enc y).take k)).2 ≤ k := by
      have := congrArg List.length c
      simp at this; omega
    rw [List.take_take, Nat.min_eq_left hl] at c
    rw [← c, List.take_append_drop] at e
    have e2 := dec_enc0 y [] h
    rw [List.append_nil] at e2
    rw [e2] at e
    have e3 := congrArg Prod.snd e
    simp only [] at e3
    have : ((enc y).take (dec 0 0 ((enc y).take k)).2).length = (dec 0 0 ((enc y).take k)).2 := by
      rw [List.length_take]; omega
    omega

/-! ### The checksum -/
def poly : Nat := 2197175160
def T1 (x : Nat) : Nat := x / 2 ^^^ x % 2 * poly
theorem T1_xor (x y : Nat) : T1 (x ^^^ y) = T1 x ^^^ T1 y := by
  unfold T1
  rw [Nat.xor_div_two]
  have hx : x % 2 = 0 ∨ x % 2 = 1 := by omega
  have hy : y % 2 = 0 ∨ y % 2 = 1 := by omega
  have hm : (x ^^^ y) % 2 = (x % 2 + y % 2) % 2 := by
    have := @Nat.xor_mod_two_eq_one x y
    omega
  rw [hm]
  rcases hx with hx | hx <;> rcases hy with hy | hy <;> rw [hx, hy] <;> simp
  · rw [Nat.xor_assoc]
  · rw [Nat.xor_assoc, Nat.xor_assoc, Nat.xor_comm poly]
  · have : x / 2 ^^^ poly ^^^ (y / 2 ^^^ poly) = x / 2 ^^^ y / 2 ^^^ (poly ^^^ poly) := by
      rw [Nat.xor_assoc, Nat.xor_comm poly, Nat.xor_assoc, Nat.xor_assoc]
    rw [this, Nat.xor_self, Nat.xor_zero]
theorem T1_lt (x : Nat) (h : x < 4294967296) : T1 x < 4294967296 := by
  unfold T1
  have h1 : x / 2 < 2 ^ 32 := by omega
  have h2 : x % 2 * poly < 2 ^ 32 := by
    have : x % 2 = 0 ∨ x % 2 = 1 := by omega
    rcases this with h | h <;> rw [h] <;> simp [poly]
  exact Nat.xor_lt_two_pow h1 h2
theorem T1_two (w : Nat) : T1 (2 * w) = w := by
  unfold T1
  have h1 : 2 * w / 2 = w := by omega
  have h2 : 2 * w % 2 = 0 := by omega
  rw [h1, h2]; simp
theorem T1_zero_iff (x : Nat) (h : x < 4294967296) : T1 x = 0 ↔ x = 0 := by
  constructor
  · intro h0
    unfold T1 at h0
    have h0 : x / 2 = x % 2 * poly := by
      have h1 : x / 2 = (x / 2 ^^^ x % 2 * poly) ^^^ x % 2 * poly := by rw [Nat.xor_assoc, Nat.xor_self, Nat.xor_zero]
      rw [h1, h0, Nat.zero_xor]
    have : x % 2 = 0 ∨ x % 2 = 1 := by omega
    rcases this with h1 | h1 <;> rw [h1] at h0
    · omega
    · simp [poly] at h0; omega
  · rintro rfl; rfl
def Tn : Nat → Nat → Nat
  | 0, x => x
  | n + 1, x => Tn n (T1 x)
theorem Tn_xor : ∀ (n x y : Nat), Tn n (x ^^^ y) = Tn n x ^^^ Tn n y
  | 0, _, _ => rfl
  | n + 1, x, y => by simp only [Tn, T1_xor, Tn_xor n]
theorem Tn_lt : ∀ (n x : Nat), x < 4294967296 → Tn n x < 4294967296
  | 0, _, h => h
  | n + 1, x, h => Tn_lt n _ (T1_lt x h)
theorem Tn_add : ∀ (m n x : Nat), Tn (m + n) x = Tn n (Tn m x)
  | 0, n, x => by simp [Tn]
  | m + 1, n, x => by rw [Nat.succ_add]; simp only [Tn, Tn_add m n]
theorem Tn_pow : ∀ (n w : Nat), Tn n (2 ^ n * w) = w
  | 0, w => by simp [Tn]
  | n + 1, w => by
    have : 2 ^ (n + 1) * w = 2 * (2 ^ n * w) := by rw [Nat.pow_succ, Nat.mul_comm (2 ^ n) 2, Nat.mul_assoc]
    rw [this]; simp only [Tn, T1_two, Tn_pow n]
theorem Tn_zero_iff : ∀ (n x : Nat), x < 4294967296 → (Tn n x = 0 ↔ x = 0)
  | 0, _, _ => Iff.rfl
  | n + 1, x, h => (Tn_zero_iff n _ (T1_lt x h)).trans (T1_zero_iff x h)
/-- The register behind a list of bytes. -/
def reg (r : Nat) : List UInt8 → Nat
  | [] => r
  | b :: l => reg (Tn 8 (r ^^^ b.toNat)) l
def crc (l : List UInt8) : Nat := 4294967295 ^^^ reg 4294967295 l
theorem reg_snoc (r : Nat) (l : List UInt8) (b : UInt8) : reg r (l ++ [b]) = Tn 8 (reg r l ^^^ b.toNat) := by
  induction l generalizing r with
  | nil => rfl
  | cons a l ih => exact ih _
theorem reg_lt (l : List UInt8) : ∀ r, r < 4294967296 → reg r l < 4294967296 := by
  induction l with
  | nil => intro r h; exact h
  | cons b l ih =>
    intro r h
    exact ih _ (Tn_lt 8 _ (Nat.xor_lt_two_pow (n := 32) (by omega) (by have := b.toNat_lt; omega)))
theorem crc_lt (l : List UInt8) : crc l < 4294967296 :=
  Nat.xor_lt_two_pow (n := 32) (by omega) (reg_lt l _ (by omega))
def num : List UInt8 → Nat
  | [] => 0
  | b :: l => b.toNat + 256 * num l
theorem byte_xor (b : UInt8) (w : Nat) : b.toNat + 256 * w = b.toNat ^^^ 256 * w := by
  have hb := b.toNat_lt
  have h := Nat.two_pow_add_eq_or_of_lt (i := 8) (b := b.toNat) (by omega) w
  have e : 2 ^ 8 * w ^^^ b.toNat = 2 ^ 8 * w ||| b.toNat := by
    apply Nat.eq_of_testBit_eq
    intro i
    rw [Nat.testBit_xor, Nat.testBit_or]
    by_cases hi : i < 8
    · have : (2 ^ 8 * w).testBit i = false := by
        rw [Nat.testBit_two_pow_mul]; simp; omega
      rw [this]; simp
    · have : b.toNat.testBit i = false := Nat.testBit_lt_two_pow (Nat.lt_of_lt_of_le (by omega : b.toNat < 2 ^ 8) (Nat.pow_le_pow_right (by decide) (by omega)))
      rw [this]; simp
  have e3 : (256 : Nat) = 2 ^ 8 := rfl
  rw [Nat.xor_comm, e3, e, ← h, Nat.add_comm]
theorem reg_num (l : List UInt8) : ∀ r, reg r l = Tn (8 * l.length) (r ^^^ num l) := by
  induction l with
  | nil => intro r; simp [reg, num, Tn]
  | cons b l ih =>
    intro r
    have e : 8 * (b :: l).length = 8 + 8 * l.length := by simp; omega
    rw [reg, ih, e, Tn_add, num, byte_xor, ← Nat.xor_assoc, Tn_xor 8 (r ^^^ b.toNat), show 256 * num l = 2 ^ 8 * num l from rfl, Tn_pow]
/-- Two strings of one length that differ in a window of at most 32 bits: their checksums agree exactly if they do. -/
theorem crc_window (a b : List UInt8) (k w : Nat) (hl : a.length = b.length) (hk : k ≤ 8 * a.length) (hw : w < 4294967296) (hd : num a = num b ^^^ 2 ^ k * w) : crc a = crc b ↔ w = 0 := by
  have e1 : crc a = crc b ^^^ Tn (8 * a.length - k) w := by
    unfold crc
    rw [reg_num, reg_num, ← hl, hd, ← Nat.xor_assoc, Tn_xor, Nat.xor_assoc]
    congr 2
    have : 8 * a.length = k + (8 * a.length - k) := by omega
    conv => lhs; rw [this]
    rw [Tn_add, Tn_pow]
  constructor
  · intro h
    rw [h] at e1
    have : Tn (8 * a.length - k) w = 0 := by
      have h2 : crc b ^^^ crc b = crc b ^^^ (crc b ^^^ Tn (8 * a.length - k) w) := by rw [← e1]
      rw [Nat.xor_self, ← Nat.xor_assoc, Nat.xor_self, Nat.zero_xor] at h2
      exact h2.symm
    exact (Tn_zero_iff _ _ hw).1 this
  · rintro rfl
    have : Tn (8 * a.length - k) 0 = 0 := (Tn_zero_iff _ _ (by omega)).2 rfl
    rw [e1, this, Nat.xor_zero]
theorem reg_xor3 : ∀ (a b c x : List UInt8) (r s t : Nat), a.length = x.length → b.length = x.length → c.length = x.length →
    (∀ i, i < x.length → x.getD i 0 = a.getD i 0 ^^^ b.getD i 0 ^^^ c.getD i 0) → reg (r ^^^ s ^^^ t) x = reg r a ^^^ reg s b ^^^ reg t c
  | a, b, c, [], r, s, t, ha, hb, hc, _ => by
    simp at ha hb hc; subst ha hb hc; rfl
  | a, b, c, y :: x, r, s, t, ha, hb, hc, h => by
    match a, b, c, ha, hb, hc, h with
    | a0 :: a, b0 :: b, c0 :: c, ha, hb, hc, h =>
      have h0 := h 0 (by simp)
      simp at h0 ha hb hc
      have ih := reg_xor3 a b c x (Tn 8 (r ^^^ a0.toNat)) (Tn 8 (s ^^^ b0.toNat)) (Tn 8 (t ^^^ c0.toNat)) ha hb hc (fun i hi => by simpa using h (i + 1) (by simp; omega))
      simp only [reg]
      rw [← ih, h0, ← Tn_xor, ← Tn_xor]
      congr 2
      simp only [UInt8.toNat_xor]
      ac_rfl
theorem crc_xor3 (a b c x : List UInt8) (ha : a.length = x.length) (hb : b.length = x.length) (hc : c.length = x.length)
    (h : ∀ i, i < x.length → x.getD i 0 = a.getD i 0 ^^^ b.getD i 0 ^^^ c.getD i 0) : crc x = crc a ^^^ crc b ^^^ crc c := by
  unfold crc
  have := reg_xor3 a b c x 4294967295 4294967295 4294967295 ha hb hc h
  rw [show (4294967295 ^^^ 4294967295 ^^^ 4294967295 : Nat) = 4294967295 from by decide] at this
  rw [this]
  generalize reg 4294967295 a = A
  generalize reg 4294967295 b = B
  generalize reg 4294967295 c = C
  have : (4294967295 ^^^ A) ^^^ (4294967295 ^^^ B) ^^^ (4294967295 ^^^ C) = (4294967295 ^^^ 4294967295 ^^^ 4294967295) ^^^ (A ^^^ B ^^^ C) := by ac_rfl
  rw [this, show (4294967295 ^^^ 4294967295 ^^^ 4294967295 : Nat) = 4294967295 from by decide]
/-- The table: what 4 bits add as they are shifted out. -/
def tab : List Nat := [0, 274646895, 549293790, 820201905, 1098587580, 1361435347, 1640403810, 1905808397, 2197175160, 2460548119, 2722870694, 2987750089, 3280807620, 3553878443, 3811616794, 4084100981]
theorem tab_lt (m : Nat) : tab.getD m 0 < 4294967296 := by
  by_cases h : m < 16
  · have : ∀ m : Fin 16, tab.getD m.val 0 < 4294967296 := by decide
    exact this ⟨m, h⟩
  · have : tab.getD m 0 = 0 := by
      rw [List.getD_eq_getElem?_getD, List.getElem?_eq_none (by simp [tab]; omega)]; rfl
    omega
theorem T4_tab (x : Nat) : Tn 4 x = x / 16 ^^^ tab.getD (x % 16) 0 := by
  have hm : ∀ m : Fin 16, Tn 4 m.val = tab.getD m.val 0 := by decide
  have e : x = 2 ^ 4 * (x / 16) ^^^ x % 16 := by
    have h := Nat.two_pow_add_eq_or_of_lt (i := 4) (b := x % 16) (by omega) (x / 16)
    have e2 : 2 ^ 4 * (x / 16) ^^^ x % 16 = 2 ^ 4 * (x / 16) ||| x % 16 := by
      apply Nat.eq_of_testBit_eq
      intro i
      rw [Nat.testBit_xor, Nat.testBit_or]
      by_cases hi : i < 4
      · have : (2 ^ 4 * (x / 16)).testBit i = false := by
          rw [Nat.testBit_two_pow_mul]; simp; omega
        rw [this]; simp
      · have : (x % 16).testBit i = false := Nat.testBit_lt_two_pow (Nat.lt_of_lt_of_le (by omega : x % 16 < 2 ^ 4) (Nat.pow_le_pow_right (by decide) (by omega)))
        rw [this]; simp
    rw [e2, ← h]; omega
  conv => lhs; rw [e]
  rw [Tn_xor, Tn_pow, hm ⟨x % 16, by omega⟩]
theorem T8_tab (x : Nat) : Tn 8 x = (x / 16 ^^^ tab.getD (x % 16) 0) / 16 ^^^ tab.getD ((x / 16 ^^^ tab.getD (x % 16) 0) % 16) 0 := by
  rw [show (8 : Nat) = 4 + 4 from rfl, Tn_add, T4_tab, T4_tab]
end Go.Proofs.Ytnmhigjannihgaa.Wm
