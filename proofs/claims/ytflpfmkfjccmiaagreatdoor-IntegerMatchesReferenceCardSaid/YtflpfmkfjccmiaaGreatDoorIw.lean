/- Plain mathematics of layer 3: columns while numbers are added, taken away and multiplied. No program is named here. -/
import Derived.Test.YtflpfmkfjccmiaaGreatDoorIv
namespace Go.Proofs.YtflpfmkfjccmiaaGreatDoor
namespace Im

theorem getD_set (l : List Int) (k j : Nat) (x : Int) (hk : k < l.length) : (l.set k x).getD j 0 = if j = k then x else l.getD j 0 := by
  rw [List.getD_eq_getElem?_getD, List.getD_eq_getElem?_getD]
  split
  · rename_i h; subst h; rw [List.getElem?_set_self hk]; rfl
  · rename_i h; rw [List.getElem?_set_ne (fun e => h e.symm)]
theorem gs_getD {l : List Int} (h : Gs l) (j : Nat) : 0 ≤ l.getD j 0 ∧ l.getD j 0 ≤ 9999 := by
  rw [List.getD_eq_getElem?_getD]
  cases e : l[j]? with
  | none => exact ⟨by simp, by simp⟩
  | some x => have := h x (List.mem_of_getElem? e); simp; omega
/-- Columns of A to which s times the first k groups of gb have been added. -/
structure ColI (s A : Int) (gb : List Int) (N k : Nat) (L : List Int) : Prop where
  len : L.length = N
  val : val L = A + s * val (gb.take k)
  lo : ∀ j, j < N → -9999 ≤ L.getD j 0
  hi : ∀ j, j < N → L.getD j 0 ≤ 19998
  rest : ∀ j, j < N → k ≤ j → 0 ≤ L.getD j 0 ∧ L.getD j 0 ≤ 9999
theorem colI_start (s : Int) (a N : Nat) (gb : List Int) (h : (grp a).length ≤ N) : ColI s a gb N 0 (grp a ++ List.replicate (N - (grp a).length) 0) := by
  have hg : Gs (grp a ++ List.replicate (N - (grp a).length) 0) := (grp_gs a).append (gs_zeros _)
  refine ⟨by simp; omega, ?_, fun j _ => by have := gs_getD hg j; omega, fun j _ => by have := gs_getD hg j; omega, fun j _ _ => gs_getD hg j⟩
  rw [val_append, val_zeros, grp_val, Int.mul_zero, List.take_zero]; show (a : Int) + 0 = a + s * 0; omega
theorem colI_own (s : Int) (a : Nat) (gb : List Int) : ColI s a gb (grp a).length 0 (grp a) := by
  have := colI_start s a (grp a).length gb (Nat.le_refl _)
  rwa [Nat.sub_self, List.replicate_zero, List.append_nil] at this
theorem colI_step {s A : Int} {gb : List Int} {N k : Nat} {L : List Int} (h : ColI s A gb N k L) (hs : s = 1 ∨ s = -1) (hg : Gs gb) (hk : k < gb.length) (hN : k < N) : ColI s A gb N (k + 1) (L.set k (L.getD k 0 + s * gb.getD k 0)) := by
  have hkl : k < L.length := by rw [h.len]; exact hN
  have hb := gs_getD hg k
  have hr := h.rest k hN (Nat.le_refl _)
  have hx : -9999 ≤ L.getD k 0 + s * gb.getD k 0 ∧ L.getD k 0 + s * gb.getD k 0 ≤ 19998 := by rcases hs with rfl | rfl <;> omega
  refine ⟨by rw [List.length_set, h.len], ?_, fun j hj => ?_, fun j hj => ?_, fun j hj hkj => ?_⟩
  · rw [val_set L k _ hkl, h.val, val_take_succ gb k hk, Int.mul_add, ← Int.add_assoc, Int.mul_left_comm]
  · rw [getD_set _ _ _ _ hkl]; split
    · exact hx.1
    · exact h.lo j hj
  · rw [getD_set _ _ _ _ hkl]; split
    · exact hx.2
    · exact h.hi j hj
  · rw [getD_set _ _ _ _ hkl, if_neg (by omega)]; exact h.rest j hj (by omega)
theorem colI_small {s A : Int} {gb : List Int} {N k : Nat} {L : List Int} (h : ColI s A gb N k L) : ∀ x ∈ L, -1000000000000000 ≤ x ∧ x ≤ 1000000000000000 := by
  intro x hx
  obtain ⟨j, hj, rfl⟩ := List.getElem_of_mem hx
  have h1 := h.lo j (by rw [← h.len]; exact hj); have h2 := h.hi j (by rw [← h.len]; exact hj)
  rw [List.getD_eq_getElem?_getD, List.getElem?_eq_getElem hj] at h1 h2
  simp at h1 h2; omega
theorem pow_two_le (M : Nat) : (2 : Nat) * 10000 ^ M ≤ 10000 ^ (M + 1) := by rw [Nat.pow_succ]; omega
theorem plus_lt (a b M : Nat) (ha : (grp a).length ≤ M) (hb : (grp b).length ≤ M) : a + b < 10000 ^ (M + 1) := by
  have h1 := Nat.lt_of_lt_of_le (grp_lt a) (Nat.pow_le_pow_right (by decide) ha)
  have h2 := Nat.lt_of_lt_of_le (grp_lt b) (Nat.pow_le_pow_right (by decide) hb)
  have := pow_two_le M; omega
theorem castPow (N : Nat) : ((10000 ^ N : Nat) : Int) = 10000 ^ N := Int.natCast_pow _ _
theorem cast_lt {n N : Nat} (h : n < 10000 ^ N) : (n : Int) < 10000 ^ N := by rw [← castPow]; omega

/-- Columns while ga and gb are multiplied: i rows are done, and j columns of the next. -/
structure MulI (ga gb : List Int) (N i j : Nat) (L : List Int) : Prop where
  len : L.length = N
  val : val L = val (ga.take i) * val gb + 10000 ^ i * ga.getD i 0 * val (gb.take j)
  lo : ∀ m, m < N → 0 ≤ L.getD m 0
  hi : ∀ m, m < N → L.getD m 0 ≤ ((i * gb.length + j : Nat) : Int) * 100000000
theorem mulI_start (ga gb : List Int) (N : Nat) : MulI ga gb N 0 0 (List.replicate N 0) := by
  have hg := gs_zeros N
  refine ⟨by simp, ?_, fun m _ => (gs_getD hg m).1, fun m hm => ?_⟩
  · rw [val_zeros, List.take_zero]; simp [Im.val]
  · rw [List.getD_eq_getElem?_getD, List.getElem?_replicate, if_pos hm]; simp
theorem mulI_step {ga gb : List Int} {N i j : Nat} {L : List Int} (h : MulI ga gb N i j L) (ha : Gs ga) (hb : Gs gb) (hj : j < gb.length) (hN : i + j < N) : MulI ga gb N i (j + 1) (L.set (i + j) (L.getD (i + j) 0 + ga.getD i 0 * gb.getD j 0)) := by
  have hkl : i + j < L.length := by rw [h.len]; exact hN
  have hx := gs_getD ha i; have hy := gs_getD hb j
  have hp1 : 0 ≤ ga.getD i 0 * gb.getD j 0 := Int.mul_nonneg hx.1 hy.1
  have hp2 : ga.getD i 0 * gb.getD j 0 ≤ 9999 * 9999 := Int.mul_le_mul hx.2 hy.2 hy.1 (by omega)
  refine ⟨by rw [List.length_set, h.len], ?_, fun m hm => ?_, fun m hm => ?_⟩
  · rw [val_set L _ _ hkl, h.val, val_take_succ gb j hj, Int.pow_add, Int.mul_add, ← Int.add_assoc]
    congr 1
    rw [Int.mul_assoc, Int.mul_assoc, Int.mul_left_comm (10000 ^ j)]
  · have := h.lo m hm
    rw [getD_set _ _ _ _ hkl]; split
    · rename_i e; subst e; omega
    · exact this
  · have := h.hi m hm
    rw [getD_set _ _ _ _ hkl]; split
    · rename_i e; subst e; omega
    · omega
theorem mulI_row {ga gb : List Int} {N i : Nat} {L : List Int} (h : MulI ga gb N i gb.length L) (hi : i < ga.length) : MulI ga gb N (i + 1) 0 L := by
  refine ⟨h.len, ?_, h.lo, fun m hm => ?_⟩
  · rw [h.val, val_take_succ ga i hi, List.take_length, List.take_zero]; simp only [Im.val, Int.mul_zero, Int.add_zero]
    rw [Int.add_mul]
  · have := h.hi m hm
    rw [show (i + 1) * gb.length + 0 = i * gb.length + gb.length by rw [Nat.add_mul, Nat.one_mul, Nat.add_zero]]; exact this
theorem mulI_small {ga gb : List Int} {N i j : Nat} {L : List Int} (h : MulI ga gb N i j L) (hi : i ≤ 1000) (hj : j ≤ 1000) (hb : gb.length ≤ 1000) : ∀ x ∈ L, -1000000000000000 ≤ x ∧ x ≤ 1000000000000000 := by
  intro x hx
  obtain ⟨m, hm, rfl⟩ := List.getElem_of_mem hx
  have h1 := h.lo m (by rw [← h.len]; exact hm); have h2 := h.hi m (by rw [← h.len]; exact hm)
  rw [List.getD_eq_getElem?_getD, List.getElem?_eq_getElem hm] at h1 h2
  have h3 : i * gb.length ≤ 1000 * 1000 := Nat.mul_le_mul hi hb
  simp only [Option.getD_some] at h1 h2
  omega
theorem mulI_cell {ga gb : List Int} {N i j : Nat} {L : List Int} (h : MulI ga gb N i j L) (hi : i ≤ 1000) (hj : j ≤ 1000) (hb : gb.length ≤ 1000) (m : Nat) (hm : m < N) : 0 ≤ L.getD m 0 ∧ L.getD m 0 ≤ 1000000000000000 := by
  have h1 := h.lo m hm; have h2 := h.hi m hm
  have h3 : i * gb.length ≤ 1000 * 1000 := Nat.mul_le_mul hi hb
  omega
theorem mulI_end {a b N : Nat} {L : List Int} (h : MulI (grp a) (grp b) N (grp a).length 0 L) : val L = ((a * b : Nat) : Int) := by
  rw [h.val, List.take_length, List.take_zero, grp_val, grp_val]; simp [Im.val]
theorem times_lt (a b : Nat) : a * b < 10000 ^ ((grp a).length + (grp b).length) := by
  rw [Nat.pow_add]
  have h1 := grp_lt a; have h2 := grp_lt b
  exact Nat.mul_lt_mul'' h1 h2
theorem times_len (a b : Nat) : (grp (a * b)).length ≤ (grp a).length + (grp b).length := grp_len _ _ (times_lt a b)
theorem plus_len (a b M : Nat) (ha : (grp a).length ≤ M) (hb : (grp b).length ≤ M) : (grp (a + b)).length ≤ M + 1 := grp_len _ _ (plus_lt a b M ha hb)
theorem len_mono {a b : Nat} (h : a ≤ b) : (grp a).length ≤ (grp b).length := grp_len _ _ (Nat.lt_of_le_of_lt h (grp_lt b))
end Im
end Go.Proofs.YtflpfmkfjccmiaaGreatDoor
