/- Plain mathematics of layer 5: readings moved, left out, or less exact; where what At and what Reads return meet. -/
import Derived.Test.YtfbgfcpehlimfaaCg
namespace Go.Proofs.Ytfbgfcpehlimfaa
namespace Ca
/-- Readings whose true seconds are moved. -/
def mv (n : Int) (x : R3) : R3 := (x.1, x.2.1 + n, x.2.2 + n)
theorem F_mv (d t n : Int) (x : R3) : F d t (mv n x) = F d t x + n := by
  unfold F mv; dsimp only; split
  · omega
  · split <;> omega
theorem U_mv (d t n : Int) (x : R3) : U d t (mv n x) = U d t x + n := by
  unfold U mv; dsimp only; split
  · omega
  · split <;> omega
theorem fst_mv (d t n : Int) (rs : List R3) (hn : 0 ≤ n) (h : 0 < fst d t rs) : fst d t (rs.map (mv n)) = fst d t rs + n := by
  have a := (fst_le d t rs (fst d t rs)).1 (Int.le_refl _)
  have b := (fst_le d t (rs.map (mv n)) (fst d t (rs.map (mv n)))).1 (Int.le_refl _)
  have c : fst d t (rs.map (mv n)) ≤ fst d t rs + n := (fst_le _ _ _ _).2 ⟨by omega, fun x hx => by
    obtain ⟨y, hy, rfl⟩ := List.mem_map.1 hx
    have := a.2 y hy
    rw [F_mv]; omega⟩
  have hex : ∃ x ∈ rs, fst d t rs - 1 < F d t x := by
    by_cases he : ∃ x ∈ rs, fst d t rs - 1 < F d t x
    · exact he
    · exfalso
      have : fst d t rs ≤ fst d t rs - 1 := (fst_le d t rs _).2 ⟨by omega, fun x hx => by
        by_cases h2 : fst d t rs - 1 < F d t x
        · exact absurd ⟨x, hx, h2⟩ he
        · omega⟩
      omega
  obtain ⟨x, hx, hxf⟩ := hex
  have h3 := b.2 _ (List.mem_map_of_mem (f := mv n) hx)
  rw [F_mv] at h3
  have e : fst d t rs ≤ fst d t (rs.map (mv n)) - n := (fst_le d t rs _).2 ⟨by omega, fun y hy => by
    have := b.2 _ (List.mem_map_of_mem (f := mv n) hy)
    rw [F_mv] at this; omega⟩
  omega
theorem lst_mv (d t n : Int) (rs : List R3) (hn : 0 ≤ n) (h0 : rs ≠ []) (hU : ∀ x ∈ rs, U d t x + n ≤ 10000000) : lst d t (rs.map (mv n)) = lst d t rs + n := by
  have a := (le_lst d t rs (lst d t rs)).1 (Int.le_refl _)
  have b := (le_lst d t (rs.map (mv n)) (lst d t (rs.map (mv n)))).1 (Int.le_refl _)
  obtain ⟨x0, r0, rfl⟩ : ∃ x0 r0, rs = x0 :: r0 := by cases rs with
    | nil => exact absurd rfl h0
    | cons x r => exact ⟨x, r, rfl⟩
  have hx0 := hU x0 (by simp)
  have c : lst d t (x0 :: r0) + n ≤ lst d t ((x0 :: r0).map (mv n)) := (le_lst _ _ _ _).2 ⟨by have := a.2 x0 (by simp); omega, fun x hx => by
    obtain ⟨y, hy, rfl⟩ := List.mem_map.1 hx
    have := a.2 y hy
    rw [U_mv]; omega⟩
  have e : lst d t ((x0 :: r0).map (mv n)) - n ≤ lst d t (x0 :: r0) := (le_lst _ _ _ _).2 ⟨by omega, fun y hy => by
    have := b.2 _ (List.mem_map_of_mem (f := mv n) hy)
    rw [U_mv] at this; omega⟩
  omega
theorem hi_5000 (d : Int) (h0 : 0 ≤ d) (h1 : d ≤ 100) : hi d 5000 ≤ 6000 := by
  have := le_hi d 5000 6001 h1
  omega
/-- Readings as they are made from courses. -/
def Made (x : R3) : Prop := 0 ≤ x.2.1 ∧ x.2.1 ≤ x.2.2 ∧ x.2.2 ≤ 4000
theorem U_near (d t : Int) (x : R3) (hd : 0 ≤ d) (h1 : d ≤ 100) (ht : 0 ≤ t) (h2 : t ≤ 5000) (hx : 0 ≤ x.1) (hm : Made x) : U d t x ≤ 10000 := by
  obtain ⟨a, b, c⟩ := hm
  have h5 := hi_5000 d hd h1
  unfold U
  split
  · have := hi_mono d (t - x.1) 5000 h1 (by omega); omega
  · split
    · have := lo_nonneg d (x.1 - t) hd (by omega); omega
    · have := hi_mono d 0 5000 h1 (by omega); omega

theorem okF_le : ∀ (l : List R3) (nx ny : Int), nx ≤ ny → okF ny l = true → okF nx l = true
  | [], _, _, _, _ => rfl
  | x :: l, nx, ny, h, g => by
    simp only [okF, Bool.and_eq_true, Bool.not_eq_true'] at g ⊢
    refine ⟨?_, g.2⟩
    have := (bad_iff ny x).1 g.1
    exact (bad_iff nx x).2 ⟨by omega, this.2⟩
theorem okF_out (l r : List R3) (x : R3) (nx : Int) (h : okF nx (l ++ x :: r) = true) : okF nx (l ++ r) = true := by
  rw [okF_cut] at h ⊢
  simp only [okF, Bool.and_eq_true, Bool.not_eq_true'] at h ⊢
  refine ⟨h.1, okF_le r _ _ ?_ h.2.2⟩
  have := (bad_iff _ x).1 h.2.1
  omega
theorem okF_vague (l r : List R3) (x y : R3) (nx : Int) (h : okF nx (l ++ x :: r) = true) (he : y.1 = x.1) (h1 : 0 ≤ y.2.1) (h2 : y.2.1 ≤ x.2.1) (h3 : x.2.2 ≤ y.2.2) (h4 : y.2.2 ≤ 10000000) : okF nx (l ++ y :: r) = true := by
  rw [okF_cut] at h ⊢
  simp only [okF, Bool.and_eq_true, Bool.not_eq_true'] at h ⊢
  refine ⟨h.1, ?_, by rw [he]; exact h.2.2⟩
  have hb := (bad_iff _ x).1 h.2.1
  obtain ⟨b0, b1, b2, b3, b4, b5⟩ := hb
  exact (bad_iff _ y).2 ⟨by omega, by omega, by omega, by omega, by omega, by omega⟩
theorem F_vague (d t : Int) (x y : R3) (he : y.1 = x.1) (h2 : y.2.1 ≤ x.2.1) : F d t y ≤ F d t x := by
  unfold F; rw [he]; split
  · omega
  · split <;> omega
theorem U_vague (d t : Int) (x y : R3) (he : y.1 = x.1) (h2 : x.2.2 ≤ y.2.2) : U d t x ≤ U d t y := by
  unfold U; rw [he]; split
  · omega
  · split <;> omega
/-- Each reading of the one clock is at least as vague as one of the other. -/
theorem win_sub (d t : Int) (rs rs' : List R3) (h : ∀ y ∈ rs', ∃ x ∈ rs, y.1 = x.1 ∧ y.2.1 ≤ x.2.1 ∧ x.2.2 ≤ y.2.2) : fst d t rs' ≤ fst d t rs ∧ lst d t rs ≤ lst d t rs' := by
  have a := (fst_le d t rs (fst d t rs)).1 (Int.le_refl _)
  have b := (le_lst d t rs (lst d t rs)).1 (Int.le_refl _)
  refine ⟨(fst_le _ _ _ _).2 ⟨a.1, fun y hy => ?_⟩, (le_lst _ _ _ _).2 ⟨b.1, fun y hy => ?_⟩⟩
  · obtain ⟨x, hx, e, h1, h2⟩ := h y hy
    exact Int.le_trans (F_vague d t x y e h1) (a.2 x hx)
  · obtain ⟨x, hx, e, h1, h2⟩ := h y hy
    exact Int.le_trans (b.2 x hx) (U_vague d t x y e h2)
end Ca

theorem atM_cases (d : Int) (rs : List Ca.R3) (t : Int) :
    Ca.valid d rs = true ∧ Ca.isT t = true ∧ Ca.fst d t rs ≤ Ca.lst d t rs ∧ atM d rs t = (Ca.fst d t rs, Ca.lst d t rs, 0) ∨ ¬ (Ca.valid d rs = true ∧ Ca.isT t = true ∧ Ca.fst d t rs ≤ Ca.lst d t rs) ∧ atM d rs t = (0, 0, 50) := by
  unfold atM
  by_cases h : (Ca.valid d rs && Ca.isT t && decide (Ca.fst d t rs ≤ Ca.lst d t rs)) = true
  · rw [if_pos h]
    simp only [Bool.and_eq_true, decide_eq_true_eq] at h
    exact .inl ⟨h.1.1, h.1.2, h.2, rfl⟩
  · rw [if_neg h]
    simp only [Bool.and_eq_true, decide_eq_true_eq] at h
    exact .inr ⟨fun ⟨a, b, c⟩ => h ⟨⟨a, b⟩, c⟩, rfl⟩
/-- ClockMoves. -/
theorem moves_m (d t n : Int) (rs : List Ca.R3) (hn : 0 ≤ n) (hn2 : n ≤ 100000) (ht : 0 ≤ t) (ht2 : t < 5000) (hm : ∀ x ∈ rs, Ca.Made x) (h0 : rs ≠ []) (e1 : (atM d rs t).2.2 = 0) (e2 : (atM d (rs.map (Ca.mv n)) t).2.2 = 0) (e3 : (atM d rs t).1 ≠ 0) :
    (atM d (rs.map (Ca.mv n)) t).1 = (atM d rs t).1 + n ∧ (atM d (rs.map (Ca.mv n)) t).2.1 = (atM d rs t).2.1 + n := by
  rcases atM_cases d rs t with ⟨a1, a2, a3, a4⟩ | ⟨a1, a4⟩
  · rcases atM_cases d (rs.map (Ca.mv n)) t with ⟨b1, b2, b3, b4⟩ | ⟨b1, b4⟩
    · rw [a4] at e3
      rw [a4, b4]
      dsimp only at e3 ⊢
      have hf := Ca.valid_fair a1
      obtain ⟨⟨d1, d2⟩, -, -⟩ := (Ca.valid_iff d rs).1 a1
      have := Ca.fst_nonneg d t rs
      exact ⟨Ca.fst_mv d t n rs hn (by omega), Ca.lst_mv d t n rs hn h0 fun x hx => by
        have := Ca.U_near d t x d1 d2 ht (by omega) (hf x hx).1 (hm x hx); omega⟩
    · rw [b4] at e2; cases e2
  · rw [a4] at e1; cases e1
/-- ClockNarrows: of a clock whose readings are each at least as vague. -/
theorem narrows_m (d t : Int) (rs rs' : List Ca.R3) (e1 : (atM d rs t).2.2 = 0) (hv : Ca.valid d rs = true → Ca.valid d rs' = true) (h : ∀ y ∈ rs', ∃ x ∈ rs, y.1 = x.1 ∧ y.2.1 ≤ x.2.1 ∧ x.2.2 ≤ y.2.2) :
    (atM d rs' t).2.2 = 0 ∧ (atM d rs' t).1 ≤ (atM d rs t).1 ∧ (atM d rs t).2.1 ≤ (atM d rs' t).2.1 := by
  rcases atM_cases d rs t with ⟨a1, a2, a3, a4⟩ | ⟨a1, a4⟩
  · obtain ⟨w1, w2⟩ := Ca.win_sub d t rs rs' h
    rcases atM_cases d rs' t with ⟨b1, b2, b3, b4⟩ | ⟨b1, b4⟩
    · rw [a4, b4]; exact ⟨rfl, w1, w2⟩
    · exact absurd ⟨hv a1, a2, by omega⟩ b1
  · rw [a4] at e1; cases e1
theorem atM_bad (d : Int) (rs : List Ca.R3) (t : Int) (h : (atM d rs t).2.2 ≠ 0) : (atM d rs t).1 = 0 ∧ (atM d rs t).2.1 = 0 := by
  rcases atM_cases d rs t with ⟨_, _, _, a4⟩ | ⟨_, a4⟩
  · rw [a4] at h; exact absurd rfl h
  · rw [a4]; exact ⟨rfl, rfl⟩
theorem atM_bnd (d : Int) (rs : List Ca.R3) (t : Int) : 0 ≤ (atM d rs t).1 ∧ (atM d rs t).1 ≤ 20000000 ∧ 0 ≤ (atM d rs t).2.1 ∧ (atM d rs t).2.1 ≤ 10000000 ∧ ((atM d rs t).2.2 = 0 ∨ (atM d rs t).2.2 = 50) := by
  rcases atM_cases d rs t with ⟨a1, a2, a3, a4⟩ | ⟨a1, a4⟩
  · rw [a4]; dsimp only
    have := Ca.fst_nonneg d t rs
    have := Ca.lst_top d t rs
    omega
  · rw [a4]; dsimp only; omega
/-- ClockInverse. -/
theorem inverse_m (d : Int) (rs : List Ca.R3) (t a b e l : Int) (h : ReadsM d rs t a b e) (ht : Ca.isT t = true) (l0 : 0 ≤ l) (l1 : l ≤ 10000000) :
    ((atM d rs l).2.2 = 0 ∧ (atM d rs l).1 ≤ t ∧ t ≤ (atM d rs l).2.1) ↔ (e = 0 ∧ a ≤ l ∧ l ≤ b) := by
  have hl : Ca.isT l = true := (Ca.isT_iff l).2 ⟨l0, l1⟩
  rcases h with ⟨h0, h1, h2, h3⟩ | ⟨h0, i, j, hi, hj, h⟩
  · rcases atM_cases d rs l with ⟨a1, a2, a3, a4⟩ | ⟨a1, a4⟩
    · rw [a1, ht] at h0; cases h0
    · rw [a4]; dsimp only; omega
  · rw [ht, Bool.and_true] at h0
    obtain ⟨k, rfl⟩ := Int.eq_ofNat_of_zero_le l0
    have hk : k < 10000001 := by omega
    have fL : t ≤ Ca.lst d (k : Int) rs ↔ i ≤ k := by
      constructor
      · intro g
        rcases Nat.lt_or_ge k i with c | c
        · have := hi.2.1 k c; simp only [Ca.pL, decide_eq_false_iff_not] at this; omega
        · exact c
      · intro g
        have := hi.2.2 k g hk; simp only [Ca.pL, decide_eq_true_eq] at this; omega
    have fF : Ca.fst d (k : Int) rs ≤ t ↔ k < j := by
      constructor
      · intro g
        rcases Nat.lt_or_ge k j with c | c
        · exact c
        · have := hj.2.2 k c hk; simp only [Ca.pF, decide_eq_true_eq] at this; omega
      · intro g
        have := hj.2.1 k g; simp only [Ca.pF, decide_eq_false_iff_not] at this; omega
    rcases atM_cases d rs k with ⟨a1, a2, a3, a4⟩ | ⟨a1, a4⟩
    · rw [a4]; dsimp only; omega
    · rw [a4]; dsimp only
      have hn : ¬ (Ca.fst d k rs ≤ Ca.lst d k rs) := fun g => a1 ⟨h0, hl, g⟩
      omega
end Go.Proofs.Ytfbgfcpehlimfaa
