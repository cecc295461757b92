/- Plain mathematics of layer 2: extensions and their values by the chapter's own words. -/
import Derived.Test.YtnbhhhbmeafkaaaDoorM4
namespace Go.Proofs.YtnbhhhbmeafkaaaDoor
namespace Dm

/-- An extension, half by half. -/
def partF : Nat → List (List UInt8) → Nat → Bool → List (List UInt8)
  | 0, l, _, wh => if wh then [] else [root l]
  | k + 1, l, m, wh => if m = l.length then (if wh then [] else [root l]) else
      if m ≤ lft l.length then partF k (l.take (lft l.length)) m wh ++ [root (l.drop (lft l.length))] else partF k (l.drop (lft l.length)) (m - lft l.length) false ++ [root (l.take (lft l.length))]
theorem from_sec (fr mid to i : Nat) (F : List Fk) (h : mid ≤ i) : fromAt fr (⟨fr, mid, to, decide (mid ≤ i)⟩ :: F) = fromAt mid F := by
  show fromAt (if decide (mid ≤ i) = true then _ else _) F = _
  rw [if_pos (by simpa using h)]
theorem from_fst (fr mid to i : Nat) (F : List Fk) (h : ¬ mid ≤ i) : fromAt fr (⟨fr, mid, to, decide (mid ≤ i)⟩ :: F) = fromAt fr F := by
  show fromAt (if decide (mid ≤ i) = true then _ else _) F = _
  rw [if_neg (by simpa using h)]
theorem part_sub (l : List (List UInt8)) (m : Nat) : ∀ (k j fr to : Nat) (wh : Bool), to - fr ≤ 2 ^ k → k ≤ j → fr < m → m ≤ to → to ≤ l.length →
    partF j ((l.drop fr).take (to - fr)) (m - fr) wh = (if wh = true ∧ fromAt fr (upto m (forks j fr to (m - 1))) = fr then [] else [root ((l.drop (fromAt fr (upto m (forks j fr to (m - 1))))).take (m - fromAt fr (upto m (forks j fr to (m - 1)))))])
      ++ ((upto m (forks j fr to (m - 1))).map fun f => root (f.other l)).reverse
  | k, j, fr, to, wh, h, hk, h1, h2, hl => by
    have base : upto m (forks j fr to (m - 1)) = [] → to = m → partF j ((l.drop fr).take (to - fr)) (m - fr) wh = (if wh = true ∧ fromAt fr (upto m (forks j fr to (m - 1))) = fr then [] else [root ((l.drop (fromAt fr (upto m (forks j fr to (m - 1))))).take (m - fromAt fr (upto m (forks j fr to (m - 1)))))])
      ++ ((upto m (forks j fr to (m - 1))).map fun f => root (f.other l)).reverse := by
      intro he ht
      rw [he]
      subst ht
      have e : partF j ((l.drop fr).take (to - fr)) (to - fr) wh = if wh then [] else [root ((l.drop fr).take (to - fr))] := by
        cases j with
        | zero => rfl
        | succ j => unfold partF; rw [if_pos (sub_len l fr to hl).symm]
      rw [e]
      cases wh <;> simp [fromAt]
    rcases (show j = 0 ∨ ∃ i, j = i + 1 from by cases j with | zero => exact .inl rfl | succ i => exact .inr ⟨i, rfl⟩) with rfl | ⟨j, rfl⟩
    · obtain rfl : k = 0 := by omega
      exact base rfl (by simp at h; omega)
    · skip
      by_cases h5 : to - fr ≤ 1
      · exact base (by unfold forks; rw [if_pos h5]; rfl) (by omega)
      by_cases h6 : to = m
      · exact base (by unfold forks; rw [if_neg h5, upto_cons, if_pos h6]) h6
      clear base
      obtain ⟨k', rfl⟩ : ∃ k', k = k' + 1 := by
        cases k with
        | zero => simp at h; omega
        | succ k => exact ⟨k, rfl⟩
      have g1 := lft_le (to - fr) k' (by omega) h
      have g2 := lft_rest (to - fr) k' (by omega) h
      have g3 := lft_lt (to - fr) (by omega)
      have g4 := lft_pos (to - fr)
      unfold forks partF
      rw [if_neg h5, upto_cons, if_neg h6, sub_len l fr to hl, if_neg (by omega)]
      rw [sub_left l fr to _ (by omega), sub_right]
      by_cases h7 : fr + lft (to - fr) ≤ m - 1
      · rw [if_pos h7, if_neg (by omega), from_sec _ _ _ _ _ h7]
        have ih := part_sub l m k' j (fr + lft (to - fr)) to false (by omega) (by omega) (by omega) h2 hl
        have lo := fromAt_lo m j (fr + lft (to - fr)) to (m - 1)
        rw [if_neg (by simp)] at ih
        rw [show m - fr - lft (to - fr) = m - (fr + lft (to - fr)) by omega, ih, if_neg (by omega), List.map_cons, List.reverse_cons, List.append_assoc]
        unfold Fk.other
        dsimp only
        rw [if_pos (by simpa using h7), show fr + lft (to - fr) - fr = lft (to - fr) by omega]
      · rw [if_neg h7, if_pos (by omega), from_fst _ _ _ _ _ h7]
        have ih := part_sub l m k' j fr (fr + lft (to - fr)) wh (by omega) (by omega) h1 (by omega) (by omega)
        rw [show fr + lft (to - fr) - fr = lft (to - fr) by omega] at ih
        rw [ih, List.map_cons, List.reverse_cons, List.append_assoc]
        unfold Fk.other
        dsimp only
        rw [if_neg (show ¬ (decide (fr + lft (to - fr) ≤ m - 1) = true) by simpa using h7)]
  termination_by _ j => j
theorem part_is (l : List (List UInt8)) (m : Nat) (h1 : 1 ≤ m) (hm : m ≤ l.length) (hn : l.length ≤ 2 ^ 64) : extRow l m = partF 64 l m true := by
  have h := part_sub l m 64 64 0 l.length true (by omega) (Nat.le_refl _) (by omega) hm (Nat.le_refl _)
  rw [List.drop_zero, Nat.sub_zero, Nat.sub_zero, List.take_length] at h
  rw [h]
  unfold extRow extHead rootsOf
  have hz : ∀ F, fromOf F = fromAt 0 F := fun _ => rfl
  rw [hz, List.map_reverse]
  by_cases h0 : 0 < fromAt 0 (upto m (forks 64 0 l.length (m - 1)))
  · rw [if_pos h0, if_neg (by omega)]
  · rw [if_neg h0, if_pos ⟨rfl, by omega⟩]
theorem part_fuel : ∀ (k j : Nat) (l : List (List UInt8)) (m : Nat) (wh : Bool), l.length ≤ 2 ^ k → k ≤ j → 1 ≤ m → m ≤ l.length → partF j l m wh = partF k l m wh
  | k, 0, l, m, wh, _, h, _, _ => by obtain rfl : k = 0 := by omega
                                     rfl
  | 0, j + 1, l, m, wh, h, _, h1, h2 => by
    have h3 : l.length ≤ 1 := by simpa using h
    unfold partF; rw [if_pos (by omega)]
  | k + 1, j + 1, l, m, wh, h, hk, h1, h2 => by
    unfold partF
    by_cases h4 : m = l.length
    · rw [if_pos h4, if_pos h4]
    have h8 := lft_le l.length k (by omega) h
    have h9 := lft_rest l.length k (by omega) h
    have h6 := lft_lt l.length (by omega)
    rw [if_neg h4, if_neg h4]
    by_cases h5 : m ≤ lft l.length
    · rw [if_pos h5, if_pos h5, part_fuel k j (l.take _) m wh (by rw [List.length_take]; omega) (by omega) h1 (by rw [List.length_take]; omega)]
    · rw [if_neg h5, if_neg h5, part_fuel k j (l.drop _) _ false (by rw [List.length_drop]; omega) (by omega) (by omega) (by rw [List.length_drop]; omega)]
def part (l : List (List UInt8)) (m : Nat) (wh : Bool) : List (List UInt8) := partF 64 l m wh
theorem part_end (l : List (List UInt8)) (wh : Bool) : part l l.length wh = if wh then [] else [root l] := by unfold part partF; rw [if_pos rfl]
theorem part_step (l : List (List UInt8)) (m : Nat) (wh : Bool) (h1 : 1 ≤ m) (h2 : m < l.length) (hn : l.length ≤ 2 ^ 63) :
    part l m wh = if m ≤ lft l.length then part (l.take (lft l.length)) m wh ++ [root (l.drop (lft l.length))] else part (l.drop (lft l.length)) (m - lft l.length) false ++ [root (l.take (lft l.length))] := by
  have h6 := lft_lt l.length (by omega)
  unfold part
  conv => lhs; unfold partF
  rw [if_neg (by omega)]
  by_cases h5 : m ≤ lft l.length
  · rw [if_pos h5, if_pos h5, part_fuel 63 64 (l.take _) m wh (by rw [List.length_take]; omega) (by omega) h1 (by rw [List.length_take]; omega)]
  · rw [if_neg h5, if_neg h5, part_fuel 63 64 (l.drop _) _ false (by rw [List.length_drop]; omega) (by omega) (by omega) (by rw [List.length_drop]; omega)]

/-- The two values of an extension by the chapter's words, and whether its length is right; the last element first. -/
def bothR (old : List UInt8) : Nat → Nat → Bool → List (List UInt8) → List UInt8 × List UInt8 × Bool
  | m, n, wh, [] => if m = n then (if wh then (old, old, true) else ([], [], false)) else ([], [], false)
  | m, n, wh, x :: r => if m = n then (if wh then (old, old, false) else if r = [] then (x, x, true) else ([], [], false)) else
      if m ≤ lft n then ((bothR old m (lft n) wh r).1, node (bothR old m (lft n) wh r).2.1 x, (bothR old m (lft n) wh r).2.2)
      else (node x (bothR old (m - lft n) (n - lft n) false r).1, node x (bothR old (m - lft n) (n - lft n) false r).2.1, (bothR old (m - lft n) (n - lft n) false r).2.2)
def extra (wh : Bool) (fr : Nat) (F : List Fk) : Nat := if wh = true ∧ fromAt fr F = fr then 0 else 1
theorem both_is (old : List UInt8) (m : Nat) : ∀ (k j fr to : Nat) (wh : Bool) (r : List (List UInt8)), to - fr ≤ 2 ^ k → k ≤ j → fr < m → m ≤ to →
    (bothR old (m - fr) (to - fr) wh r).2.2 = (r.length == (upto m (forks j fr to (m - 1))).length + extra wh fr (upto m (forks j fr to (m - 1)))) ∧
    (r.length = (upto m (forks j fr to (m - 1))).length + extra wh fr (upto m (forks j fr to (m - 1))) →
      (bothR old (m - fr) (to - fr) wh r).1 = oldR old (m - fr) (to - fr) wh r ∧ (bothR old (m - fr) (to - fr) wh r).2.1 = (sidesR old (m - fr) (to - fr) wh r).2)
  | k, j, fr, to, wh, r, h, hk, h1, h2 => by
    have base : upto m (forks j fr to (m - 1)) = [] → to = m → (bothR old (m - fr) (to - fr) wh r).2.2 = (r.length == (upto m (forks j fr to (m - 1))).length + extra wh fr (upto m (forks j fr to (m - 1)))) ∧
        (r.length = (upto m (forks j fr to (m - 1))).length + extra wh fr (upto m (forks j fr to (m - 1))) →
          (bothR old (m - fr) (to - fr) wh r).1 = oldR old (m - fr) (to - fr) wh r ∧ (bothR old (m - fr) (to - fr) wh r).2.1 = (sidesR old (m - fr) (to - fr) wh r).2) := by
      intro he ht
      rw [he]
      subst ht
      match r, wh with
      | [], true => simp [bothR, extra, fromAt, oldR, sidesR]
      | [], false => simp [bothR, extra, fromAt]
      | [x], true => simp [bothR, extra, fromAt]
      | [x], false => simp [bothR, extra, fromAt, oldR, sidesR]
      | x :: y :: r, true => simp [bothR, extra, fromAt]
      | x :: y :: r, false => simp [bothR, extra, fromAt]
    rcases (show j = 0 ∨ ∃ i, j = i + 1 from by cases j with | zero => exact .inl rfl | succ i => exact .inr ⟨i, rfl⟩) with rfl | ⟨j, rfl⟩
    · obtain rfl : k = 0 := by omega
      exact base rfl (by simp at h; omega)
    · skip
      by_cases h5 : to - fr ≤ 1
      · exact base (by unfold forks; rw [if_pos h5]; rfl) (by omega)
      by_cases h6 : to = m
      · exact base (by unfold forks; rw [if_neg h5, upto_cons, if_pos h6]) h6
      clear base
      obtain ⟨k', rfl⟩ : ∃ k', k = k' + 1 := by
        cases k with
        | zero => simp at h; omega
        | succ k => exact ⟨k, rfl⟩
      have g1 := lft_le (to - fr) k' (by omega) h
      have g2 := lft_rest (to - fr) k' (by omega) h
      have g3 := lft_lt (to - fr) (by omega)
      have g4 := lft_pos (to - fr)
      unfold forks
      rw [if_neg h5, upto_cons, if_neg h6]
      cases r with
      | nil => exact ⟨by unfold bothR; rw [if_neg (by omega)]; simp; omega, fun h => by simp at h; omega⟩
      | cons x r =>
        unfold bothR sidesR oldR
        rw [if_neg (show ¬ m - fr = to - fr by omega), if_neg (show ¬ to - fr ≤ m - fr by omega), if_neg (show ¬ to - fr ≤ m - fr by omega)]
        by_cases h7 : fr + lft (to - fr) ≤ m - 1
        · rw [if_pos h7, if_neg (by omega), if_neg (by omega), if_neg (by omega)]
          obtain ⟨i1, i2⟩ := both_is old m k' j (fr + lft (to - fr)) to false r (by omega) (by omega) (by omega) h2
          have lo := fromAt_lo m j (fr + lft (to - fr)) to (m - 1)
          have e1 : extra wh fr (⟨fr, fr + lft (to - fr), to, decide (fr + lft (to - fr) ≤ m - 1)⟩ :: upto m (forks j (fr + lft (to - fr)) to (m - 1))) = 1 := by
            unfold extra; rw [from_sec _ _ _ _ _ h7, if_neg (by omega)]
          have e2 : extra false (fr + lft (to - fr)) (upto m (forks j (fr + lft (to - fr)) to (m - 1))) = 1 := by unfold extra; rw [if_neg (by simp)]
          rw [e2] at i1 i2
          rw [e1, show to - fr - lft (to - fr) = to - (fr + lft (to - fr)) by omega, show m - fr - lft (to - fr) = m - (fr + lft (to - fr)) by omega]
          refine ⟨?_, fun hl => ?_⟩
          · dsimp only; rw [i1, List.length_cons, List.length_cons, Bool.eq_iff_iff]; simp <;> omega
          · have := i2 (by simp at hl; omega); rw [this.1, this.2]; exact ⟨rfl, rfl⟩
        · rw [if_neg h7, if_pos (by omega), if_pos (by omega), if_pos (by omega)]
          obtain ⟨i1, i2⟩ := both_is old m k' j fr (fr + lft (to - fr)) wh r (by omega) (by omega) h1 (by omega)
          have e1 : extra wh fr (⟨fr, fr + lft (to - fr), to, decide (fr + lft (to - fr) ≤ m - 1)⟩ :: upto m (forks j fr (fr + lft (to - fr)) (m - 1))) = extra wh fr (upto m (forks j fr (fr + lft (to - fr)) (m - 1))) := by
            unfold extra; rw [from_fst _ _ _ _ _ h7]
          rw [show fr + lft (to - fr) - fr = lft (to - fr) by omega] at i1 i2
          rw [e1]
          refine ⟨?_, fun hl => ?_⟩
          · dsimp only; rw [i1, List.length_cons, List.length_cons, Bool.eq_iff_iff]; simp <;> omega
          · have := i2 (by simp at hl; omega); rw [this.1, this.2]; exact ⟨rfl, rfl⟩
  termination_by _ j => j
theorem vex_val (old root : List UInt8) (n m : Nat) (ps : List (List UInt8)) (h1 : 1 ≤ m) (hm : m ≤ n) (hn : n ≤ 2 ^ 64) :
    vexIn old root n m ps = ((bothR old m n true ps.reverse).2.2 && ((bothR old m n true ps.reverse).1 == old && (bothR old m n true ps.reverse).2.1 == root)) := by
  obtain ⟨i1, i2⟩ := both_is old m 64 64 0 n true ps.reverse (by omega) (Nat.le_refl _) (by omega) hm
  rw [Nat.sub_zero, Nat.sub_zero] at i1 i2
  rw [vex_both old root n m ps h1 hm hn]
  have e : extLen n m = (upto m (forks 64 0 n (m - 1))).length + extra true 0 (upto m (forks 64 0 n (m - 1))) := by
    unfold extLen extra
    have hz : ∀ F, fromOf F = fromAt 0 F := fun _ => rfl
    rw [hz]
    by_cases h0 : 0 < fromAt 0 (upto m (forks 64 0 n (m - 1)))
    · rw [if_pos h0, if_neg (by omega)]
    · rw [if_neg h0, if_pos ⟨rfl, by omega⟩]
  rw [← e] at i1 i2
  rw [i1, List.length_reverse]
  by_cases hl : ps.length = extLen n m
  · obtain ⟨a, b⟩ := i2 (by simpa using hl)
    rw [a, b]
  · have : (ps.length == extLen n m) = false := by simpa using hl
    rw [this]; rfl
theorem ext_binding {a b root : List UInt8} {m n : Nat} {p q : List (List UInt8)} (h1 : 1 ≤ m) (hm : m ≤ n) (hn : n ≤ 2 ^ 64) (ha : a.length = 32) (hb : b.length = 32) (hp : digs p = true) (hq : digs q = true)
    (va : vexIn a root n m p = true) (vb : vexIn b root n m q = true) (hab : a ≠ b) : col (sidesR a m n true p.reverse).1 (sidesR b m n true q.reverse).1 = true := by
  rw [vex_both _ _ _ _ _ h1 hm hn] at va vb
  simp only [Bool.and_eq_true, beq_iff_eq] at va vb
  cases e : col (sidesR a m n true p.reverse).1 (sidesR b m n true q.reverse).1 with
  | true => rfl
  | false =>
    have := col_sides a b ha hb p.reverse q.reverse m n true (by simp; omega) (fun x hx => digs_mem hp x (by simpa using hx)) (fun x hx => digs_mem hq x (by simpa using hx)) (by rw [va.2.2, vb.2.2]) e
    rw [va.2.1, vb.2.1] at this
    exact absurd this hab

/-- The head of a list of records from a head on, and the strings that are summed for it, the last one first. -/
def hdR (h : List UInt8) : List (List UInt8) → List UInt8
  | [] => h
  | r :: rs => hdR (chain h r) rs
def hdS (h : List UInt8) : List (List UInt8) → List (List UInt8)
  | [] => []
  | r :: rs => hdS (chain h r) rs ++ [2 :: (h ++ r)]
/-- The same, the last record first. -/
def headR (z : List UInt8) : List (List UInt8) → List UInt8
  | [] => z
  | r :: rs => chain (headR z rs) r
def headS (z : List UInt8) : List (List UInt8) → List (List UInt8)
  | [] => []
  | r :: rs => (2 :: (headR z rs ++ r)) :: headS z rs
theorem headR_len (z : List UInt8) (hz : z.length = 32) (l : List (List UInt8)) : (headR z l).length = 32 := by
  cases l with
  | nil => exact hz
  | cons r rs => exact sha_len _
theorem headS_len (z : List UInt8) : ∀ l, (headS z l).length = l.length
  | [] => rfl
  | r :: rs => by simp [headS, headS_len z rs]
theorem chain_binding (z : List UInt8) (hz : z.length = 32) : ∀ (a b : List (List UInt8)), headR z a = headR z b → a ≠ b →
    col (headS z a) (headS z b) = true ∨ (a.length ≠ b.length ∧ ∃ s, (if (headS z a).length < (headS z b).length then headS z b else headS z a)[min a.length b.length]? = some s ∧ sha s = z)
  | [], [], _, h => absurd rfl h
  | [], y :: b, h, _ => .inr ⟨by simp, 2 :: (headR z b ++ y), by simp [headS], h.symm⟩
  | x :: a, [], h, _ => .inr ⟨by simp, 2 :: (headR z a ++ x), by simp [headS], h⟩
  | x :: a, y :: b, h, hne => by
    rcases col_of (x := 2 :: (headR z a ++ x)) (y := 2 :: (headR z b ++ y)) (a := headS z a) (b := headS z b) h with h1 | h1
    · exact .inl h1
    · have h2 := List.append_inj (List.cons.inj h1).2 (by rw [headR_len z hz, headR_len z hz])
      rcases chain_binding z hz a b h2.1 (fun e => hne (by rw [e, h2.2])) with h3 | ⟨h3, s, h4, h5⟩
      · exact .inl (col_more h3)
      · refine .inr ⟨by simpa using h3, s, ?_, h5⟩
        rw [List.length_cons, List.length_cons, Nat.succ_min_succ]
        unfold headS
        rw [List.length_cons, List.length_cons]
        by_cases h6 : (headS z a).length < (headS z b).length
        · rw [if_pos h6] at h4
          rw [if_pos (by omega), List.getElem?_cons_succ]; exact h4
        · rw [if_neg h6] at h4
          rw [if_neg (by omega), List.getElem?_cons_succ]; exact h4
end Dm
end Go.Proofs.YtnbhhhbmeafkaaaDoor
