/- Sets of uses as numbers with bits: what the reference looks through, against Hall's theorem. -/
import Derived.Test.YtenojfniknjeiaaRb
namespace Go.Proofs.Ytenojfniknjeiaa

/-- The uses of a set of bits. -/
def bitsS (n s : Nat) : List Nat := (List.range n).filter s.testBit
theorem bitsS_mem {n s k : Nat} : k ∈ bitsS n s ↔ k < n ∧ s.testBit k = true := by unfold bitsS; rw [List.mem_filter, List.mem_range]
theorem bitsS_nodup (n s : Nat) : (bitsS n s).Nodup := List.filter_sublist.nodup List.nodup_range
theorem pc_bits : ∀ (n s : Nat), s < 2 ^ n → pc s = (bitsS n s).length
  | 0, s, h => by
    have : s = 0 := by simpa using h
    subst this
    rw [pc]; rfl
  | n + 1, s, h => by
    have ih := pc_bits n (s / 2) (by rw [Nat.pow_succ] at h; omega)
    have e : (bitsS (n + 1) s).length = s % 2 + (bitsS n (s / 2)).length := by
      unfold bitsS
      rw [List.range_succ_eq_map, List.filter_cons, List.filter_map, Nat.testBit_zero]
      have e2 : (s.testBit ∘ Nat.succ) = (s / 2).testBit := funext fun k => by simp [Function.comp, Nat.testBit_succ]
      rw [e2]
      by_cases h1 : s % 2 = 1
      · rw [if_pos (by simpa using h1), List.length_cons, List.length_map, h1]; omega
      · rw [if_neg (by simpa using h1), List.length_map]; omega
    rw [e, ← ih]
    rcases Nat.eq_zero_or_pos s with h0 | h0
    · subst h0; rw [pc]
    · exact pc_step h0
/-- What the reference adds up of the plays that a set of uses can have. -/
def rsum (l : List Gr) (P : List Nat) (U : List Us) (s k : Nat) : Nat := ((List.range k).map fun i => if (bitsS U.length s).any (pG (l.getD i g0) U) then P.getD i 0 else 0).sum
theorem rsum_zero (l : List Gr) (P : List Nat) (U : List Us) (s : Nat) : rsum l P U s 0 = 0 := rfl
theorem rsum_succ (l : List Gr) (P : List Nat) (U : List Us) (s k : Nat) : rsum l P U s (k + 1) = rsum l P U s k + if (bitsS U.length s).any (pG (l.getD k g0) U) then P.getD k 0 else 0 := by
  unfold rsum; rw [List.range_succ, List.map_append, List.sum_append]; simp
theorem rsum_le {l : List Gr} {P : List Nat} {U : List Us} {s : Nat} (h : ∀ x ∈ P, x ≤ 100) : ∀ k, rsum l P U s k ≤ k * 100
  | 0 => Nat.le_refl _
  | k + 1 => by
    have ih := rsum_le (l := l) (U := U) (s := s) h k
    rw [rsum_succ]
    have hx : P.getD k 0 ≤ 100 := by
      rcases Nat.lt_or_ge k P.length with c | c
      · rw [at_eq c]; exact h _ (List.getElem_mem c)
      · rw [List.getD_eq_getElem?_getD, List.getElem?_eq_none c]; exact Nat.zero_le _
    split <;> omega
def rlackB (l : List Gr) (P : List Nat) (U : List Us) (s : Nat) : Bool := decide (rsum l P U s l.length < pc s)
theorem plays_eq {l : List Gr} {P : List Nat} {U : List Us} (hl : validG l = true) (hu : validU U = true) (hP : P.length = l.length) {S : List Nat} (hS : ∀ u ∈ S, u < U.length) : playsN P (chL l U) S = ((List.range l.length).map fun i => if S.any (pG (l.getD i g0) U) then P.getD i 0 else 0).sum := by
  unfold playsN
  rw [sum_filter, hP]
  congr 1
  refine List.map_congr_left fun i hi => ?_
  have hi := List.mem_range.1 hi
  have e : nbr (chL l U) S i = S.any (pG (l.getD i g0) U) := by
    rw [Bool.eq_iff_iff, nbr_iff, List.any_eq_true]
    constructor
    · rintro ⟨u, h3, h4⟩
      rw [chL_at hl hu (hS u h3)] at h4
      exact ⟨u, h3, (List.mem_filter.1 h4).2⟩
    · rintro ⟨u, h3, h4⟩
      refine ⟨u, h3, ?_⟩
      rw [chL_at hl hu (hS u h3)]
      exact List.mem_filter.2 ⟨List.mem_range.2 hi, h4⟩
  rw [e]
theorem rlackB_iff {l : List Gr} {P : List Nat} {U : List Us} (hl : validG l = true) (hu : validU U = true) (hP : P.length = l.length) {s : Nat} (hs : s < 2 ^ U.length) : rlackB l P U s = true ↔ LackS P (chL l U) (bitsS U.length s) := by
  have hS : ∀ u ∈ bitsS U.length s, u < U.length := fun u h => (bitsS_mem.1 h).1
  unfold rlackB
  rw [decide_eq_true_eq, pc_bits _ _ hs, show rsum l P U s l.length = playsN P (chL l U) (bitsS U.length s) from (plays_eq hl hu hP hS).symm]
  exact ⟨fun h => ⟨bitsS_nodup _ _, fun u hu' => by rw [chL_len]; exact hS u hu', h⟩, fun h => h.less⟩
/-- The number of a set. -/
def setN (S : List Nat) : Nat := S.foldr (fun u s => 2 ^ u ||| s) 0
theorem setN_bit : ∀ (S : List Nat) (k : Nat), (setN S).testBit k = true ↔ k ∈ S
  | [], k => by simp [setN]
  | u :: S, k => by
    have ih := setN_bit S k
    unfold setN at ih ⊢
    rw [List.foldr_cons, Nat.testBit_or, Bool.or_eq_true, ih, Nat.testBit_two_pow, List.mem_cons, decide_eq_true_eq]
    exact ⟨fun h => h.imp Eq.symm id, fun h => h.imp Eq.symm id⟩
theorem setN_lt {n : Nat} : ∀ {S : List Nat}, (∀ u ∈ S, u < n) → setN S < 2 ^ n
  | [], _ => Nat.two_pow_pos n
  | u :: S, h => by
    have ih := setN_lt (n := n) (S := S) fun x hx => h x (by simp [hx])
    unfold setN at ih ⊢
    rw [List.foldr_cons]
    exact Nat.or_lt_two_pow (Nat.pow_lt_pow_right (by decide) (h u (by simp))) ih
theorem bits_setN {n : Nat} {S : List Nat} (hS : ∀ u ∈ S, u < n) (k : Nat) : k ∈ bitsS n (setN S) ↔ k ∈ S := by
  rw [bitsS_mem, setN_bit]
  exact ⟨fun h => h.2, fun h => ⟨hS k h, h⟩⟩
theorem lack_congr {P : List Nat} {ch : List (List Nat)} {S T : List Nat} (h : LackS P ch S) (hT : T.Nodup) (hm : ∀ k, k ∈ T ↔ k ∈ S) : LackS P ch T := by
  have hl : T.length = S.length := Nat.le_antisymm (len_sub hT fun x hx => (hm x).1 hx) (len_sub h.nodup fun x hx => (hm x).2 hx)
  have hb : nbr ch T = nbr ch S := funext fun g => by
    rw [Bool.eq_iff_iff, nbr_iff, nbr_iff]
    exact ⟨fun ⟨u, a, b⟩ => ⟨u, (hm u).1 a, b⟩, fun ⟨u, a, b⟩ => ⟨u, (hm u).2 a, b⟩⟩
  refine ⟨hT, fun u hu => h.lt u ((hm u).1 hu), ?_⟩
  have := h.less
  unfold playsN at this ⊢
  rw [hb, hl]
  exact this
/-- Does no set of uses lack plays? -/
def enB (l : List Gr) (P : List Nat) (U : List Us) (k : Nat) : Bool := (List.range k).all fun s => !rlackB l P U s
theorem enB_succ (l : List Gr) (P : List Nat) (U : List Us) (k : Nat) : enB l P U (k + 1) = (enB l P U k && !rlackB l P U k) := by
  unfold enB; rw [List.range_succ, List.all_append]; simp
theorem enB_no {l : List Gr} {P : List Nat} {U : List Us} {k m : Nat} (h : rlackB l P U k = true) (hk : k < m) : enB l P U m = false := by
  unfold enB
  rw [List.all_eq_false]
  exact ⟨k, List.mem_range.2 hk, by rw [h]; simp⟩
theorem enB_iff {l : List Gr} {P : List Nat} {U : List Us} (hl : validG l = true) (hu : validU U = true) (hP : P.length = l.length) : enB l P U (2 ^ U.length) = true ↔ Can P (chL l U) := by
  have hch : ChOk P (chL l U) := fun u g hg => by
    rw [hP]
    obtain ⟨x, _, hx⟩ := chL_getD hg
    exact (permV_lt hx).1
  unfold enB
  rw [List.all_eq_true]
  constructor
  · intro h
    refine Classical.byContradiction fun hc => ?_
    obtain ⟨S, hS⟩ := (not_can hch).1 hc
    have hlt : ∀ u ∈ S, u < U.length := fun u hu' => by have := hS.lt u hu'; rwa [chL_len] at this
    have hs := setN_lt hlt
    have h1 := h (setN S) (List.mem_range.2 hs)
    rw [(rlackB_iff hl hu hP hs).2 (lack_congr hS (bitsS_nodup _ _) fun k => bits_setN hlt k)] at h1
    cases h1
  · intro hc s hs
    cases hb : rlackB l P U s with
    | false => rfl
    | true => exact (hc.no_lack hch ((rlackB_iff hl hu hP (List.mem_range.1 hs)).1 hb)).elim
end Go.Proofs.Ytenojfniknjeiaa
