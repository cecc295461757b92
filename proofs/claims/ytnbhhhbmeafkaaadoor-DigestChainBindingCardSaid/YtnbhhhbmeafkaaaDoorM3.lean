/- Plain mathematics of layer 2: whoever proves two things for one place has found two strings with one digest. -/
import Derived.Test.YtnbhhhbmeafkaaaDoorM2
namespace Go.Proofs.YtnbhhhbmeafkaaaDoor
namespace Dm

/-- Two strings at one place that differ and have one digest. -/
def col (a b : List (List UInt8)) : Bool := (a.zip b).any fun p => p.1 != p.2 && sha p.1 == sha p.2
theorem col_cons (x y : List UInt8) (a b : List (List UInt8)) : col (x :: a) (y :: b) = ((x != y && sha x == sha y) || col a b) := by
  unfold col; rw [List.zip_cons_cons, List.any_cons]
theorem col_of {x y : List UInt8} {a b : List (List UInt8)} (h : sha x = sha y) : col (x :: a) (y :: b) = true ∨ x = y := by
  rw [col_cons]
  by_cases e : x = y
  · exact .inr e
  · left; simp [h, e]
theorem col_more {x y : List UInt8} {a b : List (List UInt8)} (h : col a b = true) : col (x :: a) (y :: b) = true := by rw [col_cons, h, Bool.or_true]

/-- The strings that are summed for a proof, from the root on, and its value; the proof's last element first. -/
def wayR (s : List UInt8) : Nat → Nat → List (List UInt8) → List (List UInt8) × List UInt8
  | _, _, [] => ([0 :: s], leaf s)
  | n, i, x :: r => if n ≤ 1 then ([0 :: s], leaf s) else
      if i < lft n then ((1 :: ((wayR s (lft n) i r).2 ++ x)) :: (wayR s (lft n) i r).1, node (wayR s (lft n) i r).2 x)
      else ((1 :: (x ++ (wayR s (n - lft n) (i - lft n) r).2)) :: (wayR s (n - lft n) (i - lft n) r).1, node x (wayR s (n - lft n) (i - lft n) r).2)
theorem wayR_len (s : List UInt8) (n i : Nat) (r : List (List UInt8)) : (wayR s n i r).2.length = 32 := by
  cases r with
  | nil => exact leaf_len _
  | cons x r =>
    unfold wayR
    split
    · exact leaf_len _
    · split
      · exact node_len _ _
      · exact node_len _ _
theorem append_eq {a b c d : List UInt8} (h : (1 : UInt8) :: (a ++ b) = 1 :: (c ++ d)) (hl : a.length = c.length) : a = c ∧ b = d := List.append_inj (List.cons.inj h).2 hl
theorem col_way (s t : List UInt8) (hst : s ≠ t) : ∀ (r q : List (List UInt8)) (n i : Nat), r.length = q.length → (∀ x ∈ r, x.length = 32) → (∀ x ∈ q, x.length = 32) →
    (wayR s n i r).2 = (wayR t n i q).2 → col (wayR s n i r).1 (wayR t n i q).1 = true
  | [], [], n, i, _, _, _, h => by
    rcases col_of (x := 0 :: s) (y := 0 :: t) (a := []) (b := []) h with h1 | h1
    · exact h1
    · exact absurd (List.cons.inj h1).2 hst
  | [], _ :: _, n, i, h, _, _, _ => by simp at h
  | _ :: _, [], n, i, h, _, _, _ => by simp at h
  | x :: r, y :: q, n, i, hl, hr, hq, h => by
    unfold wayR at h ⊢
    by_cases h1 : n ≤ 1
    · rw [if_pos h1, if_pos h1] at h ⊢
      rcases col_of (x := 0 :: s) (y := 0 :: t) (a := []) (b := []) h with h2 | h2
      · exact h2
      · exact absurd (List.cons.inj h2).2 hst
    rw [if_neg h1, if_neg h1] at h ⊢
    have hx := hr x (by simp); have hy := hq y (by simp)
    by_cases h2 : i < lft n
    · rw [if_pos h2, if_pos h2] at h ⊢
      rcases col_of h with h3 | h3
      · exact h3
      · have h4 := append_eq h3 (by rw [wayR_len, wayR_len])
        exact col_more (col_way s t hst r q _ _ (by simpa using hl) (fun z hz => hr z (by simp [hz])) (fun z hz => hq z (by simp [hz])) h4.1)
    · rw [if_neg h2, if_neg h2] at h ⊢
      rcases col_of h with h3 | h3
      · exact h3
      · have h4 := append_eq h3 (by rw [hx, hy])
        exact col_more (col_way s t hst r q _ _ (by simpa using hl) (fun z hz => hr z (by simp [hz])) (fun z hz => hq z (by simp [hz])) h4.2)

theorem zip_foldr_rev (f : List UInt8 → Fk × List UInt8 → List UInt8) (v : List UInt8) (F : List Fk) (r : List (List UInt8)) (h : F.length = r.length) :
    (F.reverse.zip r.reverse).foldl f v = (F.zip r).foldr (fun p v => f v p) v := by
  have : F.reverse.zip r.reverse = (F.zip r).reverse := by
    rw [List.zip_eq_zipWith, List.zip_eq_zipWith, List.reverse_zipWith h]
  rw [this, List.foldl_reverse]
theorem climb_rev (F : List Fk) (r : List (List UInt8)) (v : List UInt8) (h : F.length = r.length) : climb F.reverse r.reverse v = (F.zip r).foldr (fun p v => p.1.join v p.2) v :=
  zip_foldr_rev (fun v p => p.1.join v p.2) v F r h
theorem way_climb (s : List UInt8) : ∀ (k j fr to i : Nat) (r : List (List UInt8)), to - fr ≤ 2 ^ k → k ≤ j → fr ≤ i → i < to → r.length = (forks j fr to i).length →
    (wayR s (to - fr) (i - fr) r).2 = ((forks j fr to i).zip r).foldr (fun p v => p.1.join v p.2) (leaf s)
  | k, 0, fr, to, i, r, h, hk, h1, h2, h3 => by
    obtain rfl : r = [] := List.eq_nil_of_length_eq_zero (by simpa [forks] using h3)
    rfl
  | k, j + 1, fr, to, i, r, h, hk, h1, h2, h3 => by
    unfold forks at h3 ⊢
    by_cases h4 : to - fr ≤ 1
    · rw [if_pos h4] at h3 ⊢
      obtain rfl : r = [] := List.eq_nil_of_length_eq_zero (by simpa using h3)
      rfl
    rw [if_neg h4] at h3 ⊢
    cases r with
    | nil => simp at h3
    | cons x r =>
      have h6 := lft_lt (to - fr) (by omega)
      have h7 := lft_pos (to - fr)
      obtain ⟨k', rfl⟩ : ∃ k', k = k' + 1 := by
        cases k with
        | zero => simp at h; omega
        | succ k => exact ⟨k, rfl⟩
      have h8 := lft_le (to - fr) k' (by omega) h
      have h9 := lft_rest (to - fr) k' (by omega) h
      rw [List.zip_cons_cons, List.foldr_cons]
      unfold wayR
      rw [if_neg h4]
      by_cases h5 : fr + lft (to - fr) ≤ i
      · rw [if_pos h5, if_neg (by omega)]
        rw [if_pos h5] at h3
        have ih := way_climb s k' j (fr + lft (to - fr)) to i r (by omega) (by omega) h5 h2 (by simpa using h3)
        rw [show to - fr - lft (to - fr) = to - (fr + lft (to - fr)) by omega, show i - fr - lft (to - fr) = i - (fr + lft (to - fr)) by omega, ih]
        unfold Fk.join
        dsimp only
        rw [if_pos (by simpa using h5)]
      · rw [if_neg h5, if_pos (by omega)]
        rw [if_neg h5] at h3
        have ih := way_climb s k' j fr (fr + lft (to - fr)) i r (by omega) (by omega) h1 (by omega) (by simpa using h3)
        rw [show fr + lft (to - fr) - fr = lft (to - fr) by omega] at ih
        rw [ih]
        unfold Fk.join
        dsimp only
        rw [if_neg (by simpa using h5)]
theorem way_root {root s : List UInt8} {n i : Nat} {ps : List (List UInt8)} (hin : i < n) (hn : n ≤ 2 ^ 64) (h : vfyIn root n i s ps = true) : (wayR s n i ps.reverse).2 = root ∧ ps.length = (forks 64 0 n i).length := by
  unfold vfyIn at h
  rw [Bool.and_eq_true] at h
  have h1 : (forks 64 0 n i).length = ps.length := by simpa using h.1
  have h2 : climb (forks 64 0 n i).reverse ps (leaf s) = root := by simpa using h.2
  have h3 := way_climb s 64 64 0 n i ps.reverse (by omega) (Nat.le_refl _) (Nat.zero_le _) hin (by simp [h1])
  have h4 := climb_rev (forks 64 0 n i) ps.reverse (leaf s) (by simp [h1])
  rw [List.reverse_reverse] at h4
  rw [Nat.sub_zero, Nat.sub_zero] at h3
  exact ⟨by rw [h3, ← h4, h2], h1.symm⟩
theorem digs_mem {ps : List (List UInt8)} (h : digs ps = true) : ∀ x ∈ ps, x.length = 32 := fun x hx => by simpa using List.all_eq_true.1 h x hx
/-- Two different entries that are proved for one place. -/
theorem binding {root s t : List UInt8} {n i : Int} {p q : List (List UInt8)} (hn : n ≤ 2 ^ 63) (h1 : vfy root n i s p = true) (h2 : vfy root n i t q = true) (hst : s ≠ t) :
    col (wayR s n.toNat i.toNat p.reverse).1 (wayR t n.toNat i.toNat q.reverse).1 = true := by
  unfold vfy at h1 h2
  by_cases h : i < 0 ∨ n ≤ i
  · rw [if_pos h] at h1; cases h1
  rw [if_neg h, Bool.and_eq_true] at h1 h2
  obtain ⟨a1, a2⟩ := way_root (by omega) (by omega) h1.2
  obtain ⟨b1, b2⟩ := way_root (by omega) (by omega) h2.2
  refine col_way s t hst _ _ _ _ (by simp [a2, b2]) (fun x hx => digs_mem h1.1 x (by simpa using hx)) (fun x hx => digs_mem h2.1 x (by simpa using hx)) (by rw [a1, b1])

/-- The same for an extension: the strings that are summed for the new root, and its value. -/
def sidesR (old : List UInt8) : Nat → Nat → Bool → List (List UInt8) → List (List UInt8) × List UInt8
  | _, _, _, [] => ([], old)
  | m, n, wh, x :: r => if n ≤ m then ([], if wh then old else (x :: r).getLastD []) else
      if m ≤ lft n then ((1 :: ((sidesR old m (lft n) wh r).2 ++ x)) :: (sidesR old m (lft n) wh r).1, node (sidesR old m (lft n) wh r).2 x)
      else ((1 :: (x ++ (sidesR old (m - lft n) (n - lft n) false r).2)) :: (sidesR old (m - lft n) (n - lft n) false r).1, node x (sidesR old (m - lft n) (n - lft n) false r).2)
/-- The old root. -/
def oldR (old : List UInt8) : Nat → Nat → Bool → List (List UInt8) → List UInt8
  | _, _, _, [] => old
  | m, n, wh, x :: r => if n ≤ m then (if wh then old else (x :: r).getLastD []) else
      if m ≤ lft n then oldR old m (lft n) wh r
      else node x (oldR old (m - lft n) (n - lft n) false r)
theorem sidesR_len (old : List UInt8) (ho : old.length = 32) (m n : Nat) (wh : Bool) (r : List (List UInt8)) (hr : ∀ x ∈ r, x.length = 32) : (sidesR old m n wh r).2.length = 32 := by
  cases r with
  | nil => exact ho
  | cons x r =>
    unfold sidesR
    split
    · split
      · exact ho
      · rw [List.getLastD_eq_getLast?, List.getLast?_cons]
        rw [Option.getD_some]
        cases e : r.getLast? with
        | none => simpa using hr x (by simp)
        | some z => simpa using hr z (List.mem_cons_of_mem _ (List.mem_of_getLast? e))
    · split
      · exact node_len _ _
      · exact node_len _ _
theorem col_sides (a b : List UInt8) (ha : a.length = 32) (hb : b.length = 32) : ∀ (r q : List (List UInt8)) (m n : Nat) (wh : Bool), r.length = q.length → (∀ x ∈ r, x.length = 32) → (∀ x ∈ q, x.length = 32) →
    (sidesR a m n wh r).2 = (sidesR b m n wh q).2 → col (sidesR a m n wh r).1 (sidesR b m n wh q).1 = false → oldR a m n wh r = oldR b m n wh q
  | [], [], m, n, wh, _, _, _, h, _ => h
  | [], _ :: _, m, n, wh, h, _, _, _, _ => by simp at h
  | _ :: _, [], m, n, wh, h, _, _, _, _ => by simp at h
  | x :: r, y :: q, m, n, wh, hl, hr, hq, h, hc => by
    unfold sidesR at h hc
    unfold oldR
    have hx := hr x (by simp); have hy := hq y (by simp)
    have hr' : ∀ z ∈ r, z.length = 32 := fun z hz => hr z (by simp [hz])
    have hq' : ∀ z ∈ q, z.length = 32 := fun z hz => hq z (by simp [hz])
    by_cases h1 : n ≤ m
    · rw [if_pos h1, if_pos h1] at h ⊢
      exact h
    rw [if_neg h1, if_neg h1] at h hc ⊢
    by_cases h2 : m ≤ lft n
    · rw [if_pos h2, if_pos h2] at h hc ⊢
      rcases col_of h with h3 | h3
      · exact absurd (h3.symm.trans hc) (by decide)
      · have h4 := append_eq h3 (by rw [sidesR_len a ha _ _ _ _ hr', sidesR_len b hb _ _ _ _ hq'])
        rw [col_cons, Bool.or_eq_false_iff] at hc
        exact col_sides a b ha hb r q _ _ _ (by simpa using hl) hr' hq' h4.1 hc.2
    · rw [if_neg h2, if_neg h2] at h hc ⊢
      rcases col_of h with h3 | h3
      · exact absurd (h3.symm.trans hc) (by decide)
      · have h4 := append_eq h3 (by rw [hx, hy])
        rw [col_cons, Bool.or_eq_false_iff] at hc
        rw [h4.1, col_sides a b ha hb r q _ _ _ (by simpa using hl) hr' hq' h4.2 hc.2]
theorem fromAt_lo (m : Nat) : ∀ (k fr to i : Nat), fr ≤ fromAt fr (upto m (forks k fr to i))
  | 0, fr, to, i => by simp [forks, upto, fromAt]
  | k + 1, fr, to, i => by
    unfold forks
    split
    · simp [upto, fromAt]
    rw [upto_cons]
    split
    · simp [fromAt]
    · by_cases h : fr + lft (to - fr) ≤ i
      · rw [if_pos h]
        show fr ≤ fromAt (if decide (fr + lft (to - fr) ≤ i) = true then _ else _) _
        rw [if_pos (by simpa using h)]
        have := fromAt_lo m k (fr + lft (to - fr)) to i
        dsimp only; omega
      · rw [if_neg h]
        show fr ≤ fromAt (if decide (fr + lft (to - fr) ≤ i) = true then _ else _) _
        rw [if_neg (by simpa using h)]
        exact fromAt_lo m k fr _ i
def join2 (p : Fk × List UInt8) (v : List UInt8) : List UInt8 := if p.1.sec then p.1.join v p.2 else v
theorem sides_fold (old : List UInt8) (m : Nat) : ∀ (k j fr to : Nat) (wh : Bool) (r0 tl : List (List UInt8)) (bot : List UInt8), to - fr ≤ 2 ^ k → k ≤ j → fr < m → m ≤ to →
    r0.length = (upto m (forks j fr to (m - 1))).length → (if wh = true ∧ fromAt fr (upto m (forks j fr to (m - 1))) = fr then tl = [] ∧ bot = old else tl = [bot]) →
    (sidesR old (m - fr) (to - fr) wh (r0 ++ tl)).2 = ((upto m (forks j fr to (m - 1))).zip r0).foldr (fun p v => p.1.join v p.2) bot ∧
    oldR old (m - fr) (to - fr) wh (r0 ++ tl) = ((upto m (forks j fr to (m - 1))).zip r0).foldr join2 bot
  | k, j, fr, to, wh, r0, tl, bot, h, hk, h1, h2, h3, h4 => by
    have base : upto m (forks j fr to (m - 1)) = [] → to = m → (sidesR old (m - fr) (to - fr) wh (r0 ++ tl)).2 = ((upto m (forks j fr to (m - 1))).zip r0).foldr (fun p v => p.1.join v p.2) bot ∧
        oldR old (m - fr) (to - fr) wh (r0 ++ tl) = ((upto m (forks j fr to (m - 1))).zip r0).foldr join2 bot := by
      intro he ht
      rw [he] at h3 h4 ⊢
      obtain rfl : r0 = [] := List.eq_nil_of_length_eq_zero (by simpa using h3)
      subst ht
      rw [List.nil_append]
      by_cases hw : wh = true
      · rw [if_pos ⟨hw, rfl⟩] at h4
        obtain ⟨rfl, rfl⟩ := h4
        exact ⟨rfl, rfl⟩
      · rw [if_neg (fun h => hw h.1)] at h4
        subst h4
        unfold sidesR oldR
        rw [if_pos (Nat.le_refl _), if_pos (Nat.le_refl _), if_neg hw]
        exact ⟨rfl, rfl⟩
    rcases (show j = 0 ∨ ∃ i, j = i + 1 from by cases j with | zero => exact .inl rfl | succ i => exact .inr ⟨i, rfl⟩) with rfl | ⟨j, rfl⟩
    · obtain rfl : k = 0 := by omega
      exact base rfl (by simp at h; omega)
    · skip
      by_cases h5 : to - fr ≤ 1
      · exact base (by unfold forks; rw [if_pos h5]; rfl) (by omega)
      by_cases h6 : to = m
      · exact base (by unfold forks; rw [if_neg h5, upto_cons, if_pos h6]) h6
      clear base
      obtain ⟨k', rfl⟩ : ∃ k', k = k' + 1 := by
        cases k with
        | zero => simp at h; omega
        | succ k => exact ⟨k, rfl⟩
      have g1 := lft_le (to - fr) k' (by omega) h
      have g2 := lft_rest (to - fr) k' (by omega) h
      have g3 := lft_lt (to - fr) (by omega)
      have g4 := lft_pos (to - fr)
      unfold forks at h3 h4 ⊢
      rw [if_neg h5, upto_cons, if_neg h6] at h3 h4 ⊢
      cases r0 with
      | nil => simp at h3
      | cons x r0 =>
        rw [List.cons_append, List.zip_cons_cons, List.foldr_cons, List.foldr_cons]
        unfold sidesR oldR
        rw [if_neg (show ¬ to - fr ≤ m - fr by omega), if_neg (show ¬ to - fr ≤ m - fr by omega)]
        by_cases h7 : fr + lft (to - fr) ≤ m - 1
        · rw [if_pos h7] at h3 h4 ⊢
          rw [if_neg (show ¬ m - fr ≤ lft (to - fr) by omega), if_neg (show ¬ m - fr ≤ lft (to - fr) by omega)]
          have e0 : fromAt fr (⟨fr, fr + lft (to - fr), to, decide (fr + lft (to - fr) ≤ m - 1)⟩ :: upto m (forks j (fr + lft (to - fr)) to (m - 1))) = fromAt (fr + lft (to - fr)) (upto m (forks j (fr + lft (to - fr)) to (m - 1))) := by
            show fromAt (if decide (fr + lft (to - fr) ≤ m - 1) = true then _ else _) _ = _
            rw [if_pos (by simpa using h7)]
          have lo := fromAt_lo m j (fr + lft (to - fr)) to (m - 1)
          rw [if_neg (by rw [e0]; omega)] at h4
          obtain ⟨i1, i2⟩ := sides_fold old m k' j (fr + lft (to - fr)) to false r0 tl bot (by omega) (by omega) (by omega) h2 (by simpa using h3) (by rw [if_neg (by simp)]; exact h4)
          rw [show to - fr - lft (to - fr) = to - (fr + lft (to - fr)) by omega, show m - fr - lft (to - fr) = m - (fr + lft (to - fr)) by omega, i1, i2]
          unfold join2 Fk.join
          dsimp only
          rw [if_pos (by simpa using h7), if_pos (by simpa using h7), if_pos (by simpa using h7)]
          exact ⟨rfl, rfl⟩
        · rw [if_neg h7] at h3 h4 ⊢
          rw [if_pos (show m - fr ≤ lft (to - fr) by omega), if_pos (show m - fr ≤ lft (to - fr) by omega)]
          have e0 : fromAt fr (⟨fr, fr + lft (to - fr), to, decide (fr + lft (to - fr) ≤ m - 1)⟩ :: upto m (forks j fr (fr + lft (to - fr)) (m - 1))) = fromAt fr (upto m (forks j fr (fr + lft (to - fr)) (m - 1))) := by
            show fromAt (if decide (fr + lft (to - fr) ≤ m - 1) = true then _ else _) _ = _
            rw [if_neg (by simpa using h7)]
          rw [e0] at h4
          obtain ⟨i1, i2⟩ := sides_fold old m k' j fr (fr + lft (to - fr)) wh r0 tl bot (by omega) (by omega) h1 (by omega) (by simpa using h3) h4
          rw [show fr + lft (to - fr) - fr = lft (to - fr) by omega] at i1 i2
          rw [i1, i2]
          unfold join2 Fk.join
          dsimp only
          rw [if_neg (by simpa using h7), if_neg (by simpa using h7)]
          exact ⟨rfl, rfl⟩
  termination_by _ j => j
theorem climb2_rev (F : List Fk) (r : List (List UInt8)) (v : List UInt8) (h : F.length = r.length) : climb2 F.reverse r.reverse v = (F.zip r).foldr join2 v :=
  zip_foldr_rev (fun v p => if p.1.sec then p.1.join v p.2 else v) v F r h
/-- How many elements the proof of an extension has. -/
def extLen (n m : Nat) : Nat := (upto m (forks 64 0 n (m - 1))).length + if 0 < fromOf (upto m (forks 64 0 n (m - 1))) then 1 else 0
theorem vex_both (old root : List UInt8) (n m : Nat) (ps : List (List UInt8)) (h1 : 1 ≤ m) (hm : m ≤ n) (hn : n ≤ 2 ^ 64) :
    vexIn old root n m ps = (ps.length == extLen n m && (oldR old m n true ps.reverse == old && (sidesR old m n true ps.reverse).2 == root)) := by
  unfold vexIn vexWith extLen
  have hs := fun r0 tl bot => sides_fold old m 64 64 0 n true r0 tl bot (by omega) (Nat.le_refl _) (by omega) hm
  obtain ⟨F, hF⟩ : ∃ F, upto m (forks 64 0 n (m - 1)) = F := ⟨_, rfl⟩
  rw [hF] at hs ⊢
  have hz : fromOf F = fromAt 0 F := rfl
  rw [hz, Nat.sub_zero, Nat.sub_zero] at *
  by_cases h0 : 0 < fromAt 0 F
  · rw [if_pos h0, if_pos h0]
    cases ps with
    | nil => simp
    | cons p rs =>
      show vexEnd old root F.reverse p rs = _
      unfold vexEnd
      by_cases hl : rs.length = F.length
      · obtain ⟨i1, i2⟩ := hs rs.reverse [p] p (by simp [hl]) (by rw [if_neg (by omega)])
        have e1 := climb_rev F rs.reverse p (by simp [hl])
        have e2 := climb2_rev F rs.reverse p (by simp [hl])
        rw [List.reverse_reverse] at e1 e2
        rw [List.reverse_cons, i1, i2, e1, e2]
        simp [hl]
      · have e1 : (rs.length == F.reverse.length) = false := by simpa using hl
        have e2 : ((p :: rs).length == F.length + 1) = false := by simpa using hl
        rw [e1, e2]; rfl
  · rw [if_neg h0, if_neg h0]
    unfold vexEnd
    by_cases hl : ps.length = F.length
    · obtain ⟨i1, i2⟩ := hs ps.reverse [] old (by simp [hl]) (by rw [if_pos ⟨rfl, by omega⟩]; exact ⟨rfl, rfl⟩)
      have e1 := climb_rev F ps.reverse old (by simp [hl])
      have e2 := climb2_rev F ps.reverse old (by simp [hl])
      rw [List.reverse_reverse] at e1 e2
      rw [List.append_nil] at i1 i2
      rw [i1, i2, e1, e2]
      simp [hl]
    · have e1 : (ps.length == F.reverse.length) = false := by simpa using hl
      have e2 : (ps.length == F.length + 0) = false := by simpa using hl
      rw [e1, e2]; rfl
end Dm
end Go.Proofs.YtnbhhhbmeafkaaaDoor
