/- Plain mathematics of layer 3: decimal texts of integers, and which strings are valid integers. No program is named here. -/
import Derived.Test.YtflpfmkfjccmiaaGreatDoorIm
import Derived.Lib.ItoaMem
namespace Go.Proofs.YtflpfmkfjccmiaaGreatDoor
namespace Im
open Go.Lib (decDigits itoa nDigits)

/-- The number that bytes spell as decimal digits. -/
def dv (l : List UInt8) : Nat := l.foldl (fun s c => 10 * s + (c.toNat - 48)) 0
theorem dv_nil : dv [] = 0 := rfl
theorem dv_snoc (l : List UInt8) (c : UInt8) : dv (l ++ [c]) = 10 * dv l + (c.toNat - 48) := by simp [dv, List.foldl_append]
theorem snoc_ind {α : Type} {p : List α → Prop} (h0 : p []) (h1 : ∀ l x, p l → p (l ++ [x])) (l : List α) : p l := by
  have : ∀ n (l : List α), l.length = n → p l := by
    intro n
    induction n with
    | zero => intro l h; obtain rfl := List.eq_nil_of_length_eq_zero h; exact h0
    | succ n ih =>
      intro l h
      obtain ⟨r, x, rfl⟩ := snoc_of l (by intro e; subst e; cases h)
      exact h1 r x (ih r (by simpa using h))
  exact this _ l rfl
theorem dv_append (l r : List UInt8) : dv (l ++ r) = dv l * 10 ^ r.length + dv r := by
  induction r using snoc_ind with
  | h0 => simp [dv_nil]
  | h1 r c ih =>
    rw [← List.append_assoc, dv_snoc, ih, dv_snoc, List.length_append, List.length_singleton, Nat.pow_succ, Nat.mul_add, ← Nat.mul_assoc, Nat.mul_comm 10 (dv l), Nat.mul_assoc, Nat.mul_comm 10 (10 ^ r.length)]
    omega
/-- All bytes are digits. -/
def digs (l : List UInt8) : Bool := l.all fun c => decide (48 ≤ c.toNat) && decide (c.toNat ≤ 57)
theorem digs_snoc (l : List UInt8) (c : UInt8) : digs (l ++ [c]) = true ↔ digs l = true ∧ 48 ≤ c.toNat ∧ c.toNat ≤ 57 := by simp [digs]
theorem digs_append (l r : List UInt8) : digs (l ++ r) = true ↔ digs l = true ∧ digs r = true := by simp [digs]
theorem dv_lt (l : List UInt8) (h : digs l = true) : dv l < 10 ^ l.length := by
  induction l using snoc_ind with
  | h0 => simp [dv_nil]
  | h1 l c ih =>
    rw [digs_snoc] at h
    have := ih h.1
    rw [dv_snoc, List.length_append, List.length_singleton, Nat.pow_succ]; omega
theorem dd_small (n : Nat) (h : n < 10) : decDigits n = [UInt8.ofNat (48 + n)] := by rw [decDigits, dif_pos h]
theorem dd_big (n : Nat) (h : 10 ≤ n) : decDigits n = decDigits (n / 10) ++ [UInt8.ofNat (48 + n % 10)] := by
  conv => lhs; rw [decDigits]
  rw [dif_neg (by omega)]
theorem u8n (x : Nat) (h : x < 256) : (UInt8.ofNat x).toNat = x := by rw [UInt8.toNat_ofNat']; exact Nat.mod_eq_of_lt h
theorem dd_dv (n : Nat) : dv (decDigits n) = n := by
  induction n using Nat.strongRecOn with
  | _ n ih =>
    by_cases h : n < 10
    · rw [dd_small n h]; show 10 * 0 + _ = _; rw [u8n _ (by omega)]; omega
    · rw [dd_big n (by omega), dv_snoc, ih _ (by omega), u8n _ (by omega)]; omega
theorem dd_digs (n : Nat) : digs (decDigits n) = true := by
  induction n using Nat.strongRecOn with
  | _ n ih =>
    by_cases h : n < 10
    · rw [dd_small n h]; simp [digs]; rw [Nat.mod_eq_of_lt (by omega)]; omega
    · rw [dd_big n (by omega), digs_snoc, u8n _ (by omega)]; exact ⟨ih _ (by omega), by omega, by omega⟩
theorem dd_ne (n : Nat) : decDigits n ≠ [] := by
  by_cases h : n < 10
  · rw [dd_small n h]; simp
  · rw [dd_big n (by omega)]; simp
theorem dd_head (n : Nat) (h : 0 < n) : ∀ c r, decDigits n = c :: r → c.toNat ≠ 48 := by
  induction n using Nat.strongRecOn with
  | _ n ih =>
    intro c r e
    by_cases h1 : n < 10
    · rw [dd_small n h1] at e
      obtain ⟨rfl, _⟩ := List.cons.inj e
      rw [u8n _ (by omega)]; omega
    · rw [dd_big n (by omega)] at e
      cases e2 : decDigits (n / 10) with
      | nil => exact absurd e2 (dd_ne _)
      | cons c2 r2 =>
        rw [e2] at e
        obtain ⟨rfl, _⟩ := List.cons.inj e
        exact ih (n / 10) (by omega) (by omega) _ _ e2
/-- Digits that do not begin with 0 are the text of their number. -/
theorem dd_of (l : List UInt8) (h : digs l = true) (h0 : l ≠ []) (h1 : ∀ c r, l = c :: r → c.toNat ≠ 48) : 0 < dv l ∧ l = decDigits (dv l) := by
  induction l using snoc_ind with
  | h0 => exact absurd rfl h0
  | h1 l c ih =>
    rw [digs_snoc] at h
    by_cases hl : l = []
    · subst hl
      have hc := h1 c [] rfl
      have e : dv ([] ++ [c]) = c.toNat - 48 := by rw [dv_snoc, dv_nil]; omega
      rw [e, dd_small _ (by omega)]
      refine ⟨by omega, ?_⟩
      show [c] = _
      congr 1
      apply UInt8.toNat_inj.1
      rw [u8n _ (by omega)]; omega
    · obtain ⟨k1, k2⟩ := ih h.1 hl (fun c2 r e => h1 c2 (r ++ [c]) (by rw [e]; rfl))
      rw [dv_snoc]
      refine ⟨by omega, ?_⟩
      rw [dd_big _ (by omega), show (10 * dv l + (c.toNat - 48)) / 10 = dv l by omega, ← k2]
      congr 2
      apply UInt8.toNat_inj.1
      rw [u8n _ (by omega)]; omega
theorem dd_len (n k : Nat) (hk : 1 ≤ k) : (decDigits n).length ≤ k ↔ n < 10 ^ k := by
  rw [Go.Lib.decDigits_length]
  constructor
  · intro h
    exact Nat.lt_of_lt_of_le (Go.Lib.lt_pow_nDigits n) (Nat.pow_le_pow_right (by decide) h)
  · intro h
    rcases Nat.lt_or_ge k (nDigits n) with h1 | h1
    · exfalso
      by_cases h0 : n = 0
      · subst h0; rw [Go.Lib.nDigits_small (by decide)] at h1; omega
      · have h2 := dd_dv n
        have hne := dd_ne n
        cases e : decDigits n with
        | nil => exact hne e
        | cons c r =>
          have hc := dd_head n (by omega) c r e
          have hd := dd_digs n
          rw [e] at hd h2
          have hl : (c :: r).length = nDigits n := by rw [← e, Go.Lib.decDigits_length]
          have h3 : dv ([c] ++ r) = n := h2
          rw [dv_append] at h3
          have h4 : dv [c] = c.toNat - 48 := by show 10 * 0 + _ = _; omega
          have h5 : 48 ≤ c.toNat := by simp [digs] at hd; omega
          have h6 : 10 ^ k ≤ 10 ^ r.length := Nat.pow_le_pow_right (by decide) (by simp at hl; omega)
          have h7 : 1 * 10 ^ r.length ≤ dv [c] * 10 ^ r.length := Nat.mul_le_mul_right _ (by omega)
          omega
    · exact h1

/-- Four digits. -/
def dec4 (g : Nat) : List UInt8 := [UInt8.ofNat (48 + g / 1000 % 10), UInt8.ofNat (48 + g / 100 % 10), UInt8.ofNat (48 + g / 10 % 10), UInt8.ofNat (48 + g % 10)]
theorem dd_step4 (n : Nat) (h : 10000 ≤ n) : decDigits n = decDigits (n / 10000) ++ dec4 (n % 10000) := by
  rw [dd_big n (by omega), dd_big (n / 10) (by omega), dd_big (n / 10 / 10) (by omega), dd_big (n / 10 / 10 / 10) (by omega)]
  have e1 : n / 10 / 10 / 10 / 10 = n / 10000 := by omega
  have e2 : n / 10 / 10 / 10 % 10 = n % 10000 / 1000 % 10 := by omega
  have e3 : n / 10 / 10 % 10 = n % 10000 / 100 % 10 := by omega
  have e4 : n / 10 % 10 = n % 10000 / 10 % 10 := by omega
  have e5 : n % 10 = n % 10000 % 10 := by omega
  rw [e1, e2, e3, e4, e5]
  simp [dec4]
theorem dd_pad (g : Nat) (h : g < 10000) : decDigits (10000 + g) = UInt8.ofNat 49 :: dec4 g := by
  rw [dd_step4 _ (by omega), show (10000 + g) / 10000 = 1 by omega, show (10000 + g) % 10000 = g by omega, dd_small 1 (by decide)]; rfl

/-- A valid integer. -/
def strip (s : List UInt8) : List UInt8 := if s.head? = some 45 then s.tail else s
def vld (s : List UInt8) : Bool := match strip s with
  | [] => false
  | c :: r => decide ((c :: r).length ≤ 200) && (if c = 48 then s == [48] else digs (c :: r))
theorem ne45_of_digs {l : List UInt8} (h : digs l = true) : ¬ l.head? = some 45 := by
  cases l with
  | nil => simp
  | cons c r => intro e; simp at e; subst e; simp [digs] at h
theorem strip_dd (n : Nat) : strip (decDigits n) = decDigits n := by unfold strip; rw [if_neg (ne45_of_digs (dd_digs n))]
theorem strip_neg (l : List UInt8) : strip (45 :: l) = l := rfl
theorem vld_dd (n : Nat) : vld (decDigits n) = decide (n < 10 ^ 200) := by
  unfold vld
  rw [strip_dd]
  have hl := dd_len n 200 (by decide)
  cases e : decDigits n with
  | nil => exact absurd e (dd_ne n)
  | cons c r =>
    rw [e] at hl
    dsimp only
    have hd : digs (c :: r) = true := e ▸ dd_digs n
    by_cases h0 : n = 0
    · subst h0
      rw [dd_small 0 (by decide)] at e
      obtain ⟨rfl, rfl⟩ := List.cons.inj e
      decide +kernel
    · have hc := dd_head n (by omega) c r e
      rw [if_neg (by rintro rfl; exact hc rfl), hd, Bool.and_true]
      exact decide_eq_decide.2 hl
theorem vld_neg (n : Nat) (h : 0 < n) : vld (45 :: decDigits n) = decide (n < 10 ^ 200) := by
  unfold vld
  rw [strip_neg]
  have hl := dd_len n 200 (by decide)
  cases e : decDigits n with
  | nil => exact absurd e (dd_ne n)
  | cons c r =>
    rw [e] at hl
    dsimp only
    have hd : digs (c :: r) = true := e ▸ dd_digs n
    have hc := dd_head n h c r e
    rw [if_neg (by rintro rfl; exact hc rfl), hd, Bool.and_true]
    exact decide_eq_decide.2 hl
/-- The text of an integer is valid exactly if it is not too large. -/
theorem vld_itoa (z : Int) : vld (itoa z) = decide (z.natAbs < 10 ^ 200) := by
  unfold itoa
  split
  · exact vld_neg _ (by omega)
  · rw [vld_dd, show z.toNat = z.natAbs by omega]
/-- A valid string is the text of an integer. -/
theorem vld_of (s : List UInt8) (h : vld s = true) : ∃ z : Int, s = itoa z ∧ z.natAbs < 10 ^ 200 := by
  unfold vld at h
  split at h
  · cases h
  · rename_i c r e
    rw [Bool.and_eq_true, decide_eq_true_eq] at h
    obtain ⟨h1, h2⟩ := h
    by_cases hc : c = 48
    · rw [if_pos hc] at h2
      have : s = [48] := by simpa using h2
      exact ⟨0, by rw [this, itoa, if_neg (by decide)]; exact (dd_small 0 (by decide)).symm, by decide⟩
    · rw [if_neg hc] at h2
      have hne : ∀ c2 r2, (c :: r) = c2 :: r2 → c2.toNat ≠ 48 := fun c2 r2 e2 => by
        obtain ⟨rfl, _⟩ := List.cons.inj e2
        intro hh
        exact hc (UInt8.toNat_inj.1 hh)
      obtain ⟨k1, k2⟩ := dd_of (c :: r) h2 (by simp) hne
      have k3 : dv (c :: r) < 10 ^ 200 := (dd_len _ 200 (by decide)).1 (by rw [← k2]; exact h1)
      unfold strip at e
      split at e
      · rename_i hs
        refine ⟨-(dv (c :: r) : Int), ?_, by omega⟩
        cases s with
        | nil => cases hs
        | cons a s =>
          simp at hs e
          subst hs; subst e
          rw [itoa, if_pos (by omega), show (-(dv (c :: r) : Int)).natAbs = dv (c :: r) by omega, ← k2]
      · refine ⟨(dv (c :: r) : Int), ?_, by omega⟩
        rw [itoa, if_neg (by omega), e, Int.toNat_natCast, ← k2]
theorem itoa_inj {a b : Int} (h : itoa a = itoa b) : a = b := by
  unfold itoa at h
  split at h <;> split at h
  · have := congrArg dv (List.cons.inj h).2
    rw [dd_dv, dd_dv] at this; omega
  · exfalso
    have := ne45_of_digs (dd_digs b.toNat)
    rw [← h] at this; exact this rfl
  · exfalso
    have := ne45_of_digs (dd_digs a.toNat)
    rw [h] at this; exact this rfl
  · have := congrArg dv h
    rw [dd_dv, dd_dv] at this; omega
end Im
end Go.Proofs.YtflpfmkfjccmiaaGreatDoor
