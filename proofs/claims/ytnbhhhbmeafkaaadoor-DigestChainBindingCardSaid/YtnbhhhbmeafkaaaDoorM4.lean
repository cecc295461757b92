/- Plain mathematics of layer 2: what the chapter's own definitions of proofs, extensions and values give, part by part. -/
import Derived.Test.YtnbhhhbmeafkaaaDoorM3
namespace Go.Proofs.YtnbhhhbmeafkaaaDoor
namespace Dm

/-- The proof of an entry, half by half. -/
def prfF : Nat → List (List UInt8) → Nat → List (List UInt8)
  | 0, _, _ => []
  | k + 1, l, i => if l.length ≤ 1 then [] else if i < lft l.length then prfF k (l.take (lft l.length)) i ++ [root (l.drop (lft l.length))] else prfF k (l.drop (lft l.length)) (i - lft l.length) ++ [root (l.take (lft l.length))]
theorem sub_len (l : List (List UInt8)) (fr to : Nat) (hl : to ≤ l.length) : ((l.drop fr).take (to - fr)).length = to - fr := by rw [List.length_take, List.length_drop]; omega
theorem sub_left (l : List (List UInt8)) (fr to k : Nat) (h : k ≤ to - fr) : ((l.drop fr).take (to - fr)).take k = (l.drop fr).take k := by rw [List.take_take, Nat.min_eq_left h]
theorem sub_right (l : List (List UInt8)) (fr to k : Nat) : ((l.drop fr).take (to - fr)).drop k = (l.drop (fr + k)).take (to - (fr + k)) := by
  rw [List.drop_take, List.drop_drop, show to - fr - k = to - (fr + k) by omega]
theorem prf_sub (l : List (List UInt8)) : ∀ (j fr to i : Nat), fr ≤ i → to ≤ l.length → ((forks j fr to i).map fun f => root (f.other l)).reverse = prfF j ((l.drop fr).take (to - fr)) (i - fr)
  | 0, fr, to, i, _, _ => rfl
  | j + 1, fr, to, i, h1, hl => by
    unfold forks prfF
    rw [sub_len l fr to hl]
    by_cases h4 : to - fr ≤ 1
    · rw [if_pos h4, if_pos h4]; rfl
    rw [if_neg h4, if_neg h4]
    have h6 := lft_lt (to - fr) (by omega)
    rw [sub_left l fr to _ (by omega), sub_right]
    by_cases h5 : fr + lft (to - fr) ≤ i
    · rw [if_pos h5, if_neg (by omega), List.map_cons, List.reverse_cons, prf_sub l j _ to i h5 hl]
      unfold Fk.other
      dsimp only
      rw [if_pos (by simpa using h5), show fr + lft (to - fr) - fr = lft (to - fr) by omega, show i - fr - lft (to - fr) = i - (fr + lft (to - fr)) by omega]
    · rw [if_neg h5, if_pos (by omega), List.map_cons, List.reverse_cons, prf_sub l j fr _ i h1 (by omega)]
      unfold Fk.other
      dsimp only
      rw [if_neg (by simpa using h5), show fr + lft (to - fr) - fr = lft (to - fr) by omega]
theorem prf_is (l : List (List UInt8)) (i : Nat) : proof l i = prfF 64 l i := by
  have h := prf_sub l 64 0 l.length i (Nat.zero_le _) (Nat.le_refl _)
  rw [List.drop_zero, Nat.sub_zero, Nat.sub_zero, List.take_length] at h
  exact h
/-- What follows does not depend on the fuel. -/
theorem prf_fuel : ∀ (k j : Nat) (l : List (List UInt8)) (i : Nat), l.length ≤ 2 ^ k → k ≤ j → prfF j l i = prfF k l i
  | k, 0, l, i, _, h => by obtain rfl : k = 0 := by omega
                           rfl
  | 0, j + 1, l, i, h, _ => by
    have h1 : l.length ≤ 1 := by simpa using h
    unfold prfF; rw [if_pos h1]
  | k + 1, j + 1, l, i, h, hk => by
    unfold prfF
    by_cases h4 : l.length ≤ 1
    · rw [if_pos h4, if_pos h4]
    have h8 := lft_le l.length k (by omega) h
    have h9 := lft_rest l.length k (by omega) h
    have h6 := lft_lt l.length (by omega)
    rw [if_neg h4, if_neg h4, prf_fuel k j (l.take _) i (by rw [List.length_take]; omega) (by omega), prf_fuel k j (l.drop _) _ (by rw [List.length_drop]; omega) (by omega)]
theorem prf_step (l : List (List UInt8)) (i : Nat) (h2 : 2 ≤ l.length) (hn : l.length ≤ 2 ^ 63) :
    proof l i = if i < lft l.length then proof (l.take (lft l.length)) i ++ [root (l.drop (lft l.length))] else proof (l.drop (lft l.length)) (i - lft l.length) ++ [root (l.take (lft l.length))] := by
  have h6 := lft_lt l.length h2
  rw [prf_is, prf_is, prf_is]
  rw [prf_fuel 63 64 (l.take _) i (by rw [List.length_take]; omega) (by omega), prf_fuel 63 64 (l.drop _) _ (by rw [List.length_drop]; omega) (by omega)]
  conv => lhs; unfold prfF
  rw [if_neg (by omega)]
theorem prf_one (l : List (List UInt8)) (i : Nat) (h : l.length ≤ 1) : proof l i = [] := by
  rw [prf_is]; unfold prfF; rw [if_pos h]

/-- The value of a proof by the chapter's words, and whether its length is right; the last element first. -/
def valR (s : List UInt8) : Nat → Nat → List (List UInt8) → List UInt8 × Bool
  | n, _, [] => if n = 1 then (leaf s, true) else ([], false)
  | n, i, x :: r => if n = 1 then (leaf s, false) else
      if i < lft n then (node (valR s (lft n) i r).1 x, (valR s (lft n) i r).2)
      else (node x (valR s (n - lft n) (i - lft n) r).1, (valR s (n - lft n) (i - lft n) r).2)
theorem val_is (s : List UInt8) : ∀ (k j fr to i : Nat) (r : List (List UInt8)), to - fr ≤ 2 ^ k → k ≤ j → fr ≤ i → i < to →
    (valR s (to - fr) (i - fr) r).2 = (r.length == (forks j fr to i).length) ∧ (r.length = (forks j fr to i).length → (valR s (to - fr) (i - fr) r).1 = (wayR s (to - fr) (i - fr) r).2)
  | k, 0, fr, to, i, r, h, hk, h1, h2 => by
    obtain rfl : k = 0 := by omega
    have h4 : to - fr = 1 := by simp at h; omega
    rw [h4]
    cases r with
    | nil => exact ⟨rfl, fun _ => rfl⟩
    | cons x r => exact ⟨by simp [valR, forks], fun h => by simp [forks] at h⟩
  | k, j + 1, fr, to, i, r, h, hk, h1, h2 => by
    unfold forks
    by_cases h4 : to - fr ≤ 1
    · have h5 : to - fr = 1 := by omega
      rw [if_pos h4, h5]
      cases r with
      | nil => exact ⟨rfl, fun _ => rfl⟩
      | cons x r => exact ⟨by simp [valR], fun h => by simp at h⟩
    rw [if_neg h4]
    cases r with
    | nil => exact ⟨by unfold valR; rw [if_neg (by omega)]; simp, fun h => by simp at h⟩
    | cons x r =>
      have h6 := lft_lt (to - fr) (by omega)
      have h7 := lft_pos (to - fr)
      obtain ⟨k', rfl⟩ : ∃ k', k = k' + 1 := by
        cases k with
        | zero => simp at h; omega
        | succ k => exact ⟨k, rfl⟩
      have h8 := lft_le (to - fr) k' (by omega) h
      have h9 := lft_rest (to - fr) k' (by omega) h
      unfold valR wayR
      rw [if_neg (show ¬ to - fr = 1 by omega), if_neg h4]
      by_cases h5 : fr + lft (to - fr) ≤ i
      · rw [if_pos h5, if_neg (by omega), if_neg (by omega)]
        obtain ⟨i1, i2⟩ := val_is s k' j (fr + lft (to - fr)) to i r (by omega) (by omega) h5 h2
        rw [show to - fr - lft (to - fr) = to - (fr + lft (to - fr)) by omega, show i - fr - lft (to - fr) = i - (fr + lft (to - fr)) by omega]
        exact ⟨by simpa using i1, fun hl => by rw [i2 (by simpa using hl)]⟩
      · rw [if_neg h5, if_pos (by omega), if_pos (by omega)]
        obtain ⟨i1, i2⟩ := val_is s k' j fr (fr + lft (to - fr)) i r (by omega) (by omega) h1 (by omega)
        rw [show fr + lft (to - fr) - fr = lft (to - fr) by omega] at i1 i2
        exact ⟨by simpa using i1, fun hl => by rw [i2 (by simpa using hl)]⟩
theorem vfy_val (root s : List UInt8) (n i : Nat) (ps : List (List UInt8)) (hin : i < n) (hn : n ≤ 2 ^ 64) :
    vfyIn root n i s ps = ((valR s n i ps.reverse).2 && (valR s n i ps.reverse).1 == root) := by
  obtain ⟨i1, i2⟩ := val_is s 64 64 0 n i ps.reverse (by omega) (Nat.le_refl _) (Nat.zero_le _) hin
  rw [Nat.sub_zero, Nat.sub_zero] at i1 i2
  unfold vfyIn
  rw [i1]
  by_cases hl : (forks 64 0 n i).length = ps.length
  · have h3 := way_climb s 64 64 0 n i ps.reverse (by omega) (Nat.le_refl _) (Nat.zero_le _) hin (by simp [hl])
    have h4 := climb_rev (forks 64 0 n i) ps.reverse (leaf s) (by simp [hl])
    rw [List.reverse_reverse] at h4
    rw [Nat.sub_zero, Nat.sub_zero] at h3
    rw [i2 (by simp [hl]), h3, ← h4]
    simp [hl]
  · have e1 : ((forks 64 0 n i).length == ps.length) = false := by simpa using hl
    have e2 : (ps.reverse.length == (forks 64 0 n i).length) = false := by simpa using fun h => hl h.symm
    rw [e1, e2]; rfl
end Dm
end Go.Proofs.YtnbhhhbmeafkaaaDoor
