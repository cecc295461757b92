/- The reference's Lack: the order of sets as numbers with bits. -/
import Derived.Test.YtenojfniknjeiaaRf
namespace Go.Proofs.Ytenojfniknjeiaa
open Go.RowKit Go.Shelf

theorem asc_ext : ∀ {x y : List Nat}, x.Pairwise (· < ·) → y.Pairwise (· < ·) → (∀ k, k ∈ x ↔ k ∈ y) → x = y
  | [], [], _, _, _ => rfl
  | [], b :: y, _, _, h => absurd ((h b).2 (by simp)) (by simp)
  | a :: x, [], _, _, h => absurd ((h a).1 (by simp)) (by simp)
  | a :: x, b :: y, h1, h2, h => by
    obtain ⟨p1, p2⟩ := List.pairwise_cons.1 h1
    obtain ⟨q1, q2⟩ := List.pairwise_cons.1 h2
    have e : a = b := by
      rcases List.mem_cons.1 ((h a).1 (by simp)) with e | e
      · exact e
      · rcases List.mem_cons.1 ((h b).2 (by simp)) with e2 | e2
        · exact e2.symm
        · have := q1 a e
          have := p1 b e2
          omega
    subst e
    rw [asc_ext p2 q2 fun k => ?_]
    have hk := h k
    rw [List.mem_cons, List.mem_cons] at hk
    constructor
    · intro hx
      rcases hk.1 (.inr hx) with e | e
      · have := p1 k hx; omega
      · exact e
    · intro hx
      rcases hk.2 (.inr hx) with e | e
      · have := q1 k hx; omega
      · exact e
theorem bitsS_asc (n s : Nat) : (bitsS n s).Pairwise (· < ·) := filter_asc _ n
theorem bits_back {n : Nat} {x : List Nat} (hp : x.Pairwise (· < ·)) (hx : ∀ k ∈ x, k < n) : bitsS n (setN x) = x := asc_ext (bitsS_asc _ _) hp fun k => bits_setN hx k
/-- A set comes before another one: it has the least element that only one of them has. -/
def FirstS (x y : List Nat) : Prop := ∃ k, k ∈ x ∧ k ∉ y ∧ ∀ j, j < k → (j ∈ x ↔ j ∈ y)
theorem ext_in {n : Nat} : ∀ (m : Nat) (set : List Nat) (first : Nat), ∀ x ∈ extL n m set first, (∀ y ∈ set, y ∈ x) ∧ ∀ y ∈ x, y ∈ set ∨ first ≤ y
  | 0, set, first, x, hx => by rw [List.mem_singleton.1 hx]; exact ⟨fun y h => h, fun y h => .inl h⟩
  | m + 1, set, first, x, hx => by
    unfold extL at hx
    obtain ⟨k, hk, hx⟩ := List.mem_flatMap.1 hx
    rw [List.mem_range'_1] at hk
    obtain ⟨h1, h2⟩ := ext_in m (set ++ [k]) (k + 1) x hx
    refine ⟨fun y hy => h1 y (by simp [hy]), fun y hy => ?_⟩
    rcases h2 y hy with h | h
    · rcases List.mem_append.1 h with h | h
      · exact .inl h
      · rw [List.mem_singleton.1 h]; exact .inr hk.1
    · exact .inr (by omega)
theorem ext_order {n : Nat} : ∀ (m : Nat) (set : List Nat) (first : Nat), (∀ y ∈ set, y < first) → (extL n m set first).Pairwise FirstS
  | 0, set, first, _ => List.pairwise_singleton _ _
  | m + 1, set, first, hs => by
    unfold extL
    rw [List.pairwise_flatMap]
    refine ⟨fun k hk => ?_, ?_⟩
    · rw [List.mem_range'_1] at hk
      refine ext_order m (set ++ [k]) (k + 1) fun y hy => ?_
      rcases List.mem_append.1 hy with h | h
      · have := hs y h; omega
      · rw [List.mem_singleton.1 h]; omega
    · have hr : (List.range' first (n - m - first)).Pairwise (· < ·) := List.pairwise_lt_range'
      refine List.Pairwise.imp_of_mem (fun {k k'} hk hk' hlt x hx y hy => ?_) hr
      rw [List.mem_range'_1] at hk hk'
      obtain ⟨a1, a2⟩ := ext_in m _ _ x hx
      obtain ⟨b1, b2⟩ := ext_in m _ _ y hy
      refine ⟨k, a1 k (by simp), fun hky => ?_, fun j hj => ⟨fun h => ?_, fun h => ?_⟩⟩
      · rcases b2 k hky with h | h
        · rcases List.mem_append.1 h with h | h
          · have := hs k h; omega
          · rw [List.mem_singleton] at h; omega
        · omega
      · rcases a2 j h with h | h
        · rcases List.mem_append.1 h with h | h
          · exact b1 j (by simp [h])
          · rw [List.mem_singleton] at h; omega
        · omega
      · rcases b2 j h with h | h
        · rcases List.mem_append.1 h with h | h
          · exact a1 j (by simp [h])
          · rw [List.mem_singleton] at h; omega
        · omega
theorem sets_order (n : Nat) : (setsL n).Pairwise fun x y => x.length < y.length ∨ (x.length = y.length ∧ FirstS x y) := by
  unfold setsL
  have hsz : ∀ s, ∀ x ∈ extL n s [] 0, x.length = s := fun s x hx => by
    have := (ext_shape s [] 0 List.Pairwise.nil (fun x h => by cases h) x hx).1
    simpa using this
  rw [List.pairwise_flatMap]
  refine ⟨fun s _ => ?_, ?_⟩
  · exact List.Pairwise.imp_of_mem (fun {x y} hx hy h => .inr ⟨by rw [hsz s x hx, hsz s y hy], h⟩) (ext_order s [] 0 fun y h => by cases h)
  · have hr : (List.range' 1 n).Pairwise (· < ·) := List.pairwise_lt_range'
    refine hr.imp fun {a b} hab x hx y hy => .inl ?_
    rw [hsz a x hx, hsz b y hy]
    exact hab
/-- A number comes before another one: it has the least bit that only one of them has. -/
def Fst (a b : Nat) : Prop := ∃ k, k < 10 ∧ a.testBit k = true ∧ b.testBit k = false ∧ ∀ j, j < k → a.testBit j = b.testBit j
theorem Fst.asymm {a b : Nat} (h1 : Fst a b) (h2 : Fst b a) : False := by
  obtain ⟨k, _, a1, a2, a3⟩ := h1
  obtain ⟨m, _, b1, b2, b3⟩ := h2
  rcases Nat.lt_trichotomy k m with h | h | h
  · have := b3 k h; rw [a1, a2] at this; cases this
  · subst h; rw [a1] at b2; cases b2
  · have := a3 m h; rw [b1, b2] at this; cases this
theorem Fst.trans {a b c : Nat} (h1 : Fst a b) (h2 : Fst b c) : Fst a c := by
  obtain ⟨k, hk, a1, a2, a3⟩ := h1
  obtain ⟨m, hm, b1, b2, b3⟩ := h2
  rcases Nat.lt_trichotomy k m with h | h | h
  · exact ⟨k, hk, a1, by rw [← b3 k h]; exact a2, fun j hj => (a3 j hj).trans (b3 j (by omega))⟩
  · subst h; rw [a2] at b1; cases b1
  · exact ⟨m, hm, by rw [a3 m h]; exact b1, b2, fun j hj => (a3 j (by omega)).trans (b3 j hj)⟩
theorem fst_all {a b : Nat} : ∀ k, (∀ j, j < k → a.testBit j = b.testBit j) ∨ ∃ m, m < k ∧ a.testBit m ≠ b.testBit m ∧ ∀ j, j < m → a.testBit j = b.testBit j
  | 0 => .inl fun j h => absurd h (Nat.not_lt_zero _)
  | k + 1 => by
    rcases fst_all (a := a) (b := b) k with h | ⟨m, h1, h2⟩
    · by_cases e : a.testBit k = b.testBit k
      · exact .inl fun j hj => by
          by_cases e2 : j = k
          · rw [e2]; exact e
          · exact h j (by omega)
      · exact .inr ⟨k, by omega, e, h⟩
    · exact .inr ⟨m, by omega, h2⟩
theorem fst_total {a b : Nat} (ha : a < 1024) (hb : b < 1024) (h : a ≠ b) : Fst a b ∨ Fst b a := by
  rcases fst_all (a := a) (b := b) 10 with h1 | ⟨m, h1, h2, h3⟩
  · refine absurd (Nat.eq_of_testBit_eq fun i => ?_) h
    by_cases hi : i < 10
    · exact h1 i hi
    · have h10 : 1024 ≤ 2 ^ i := Nat.le_trans (by decide) (Nat.pow_le_pow_right (n := 2) (by decide) (show 10 ≤ i by omega))
      rw [Nat.testBit_lt_two_pow (by omega), Nat.testBit_lt_two_pow (by omega)]
  · cases e : a.testBit m with
    | true => exact .inl ⟨m, h1, e, by rw [e] at h2; simpa using h2.symm, h3⟩
    | false => exact .inr ⟨m, h1, by rw [e] at h2; simpa using h2.symm, e, fun j hj => (h3 j hj).symm⟩
/-- What the reference's Lack has found among the sets before k. -/
def LkInv (lk : Nat → Bool) (k b : Nat) : Prop := (b = 0 ∧ ∀ s, 1 ≤ s → s < k → lk s = false) ∨ (1 ≤ b ∧ b < k ∧ lk b = true ∧ ∀ s, 1 ≤ s → s < k → lk s = true → pc b < pc s ∨ (pc b = pc s ∧ (s = b ∨ Fst b s)))
theorem LkInv.start (lk : Nat → Bool) : LkInv lk 1 0 := .inl ⟨rfl, fun s h1 h2 => absurd h1 (by omega)⟩
theorem LkInv.skip {lk : Nat → Bool} {k b : Nat} (h : LkInv lk k b) (hk : lk k = false) : LkInv lk (k + 1) b := by
  rcases h with ⟨h1, h2⟩ | ⟨h1, h2, h3, h4⟩
  · exact .inl ⟨h1, fun s a1 a2 => by
      by_cases e : s = k
      · rw [e]; exact hk
      · exact h2 s a1 (by omega)⟩
  · exact .inr ⟨h1, by omega, h3, fun s a1 a2 a3 => by
      by_cases e : s = k
      · rw [e, hk] at a3; cases a3
      · exact h4 s a1 (by omega) a3⟩
theorem LkInv.one {lk : Nat → Bool} {k : Nat} (h : LkInv lk k 0) (h1 : 1 ≤ k) (hk : lk k = true) : LkInv lk (k + 1) k := by
  rcases h with ⟨_, h2⟩ | ⟨h2, _⟩
  · exact .inr ⟨h1, by omega, hk, fun s a1 a2 a3 => by
      by_cases e : s = k
      · exact .inr ⟨by rw [e], .inl e⟩
      · rw [h2 s a1 (by omega)] at a3; cases a3⟩
  · omega
theorem LkInv.take {lk : Nat → Bool} {k b : Nat} (h : LkInv lk k b) (h0 : b ≠ 0) (hk : lk k = true) (hb : pc k < pc b ∨ (pc k = pc b ∧ Fst k b)) : LkInv lk (k + 1) k := by
  rcases h with ⟨h1, _⟩ | ⟨h1, h2, h3, h4⟩
  · exact absurd h1 h0
  · refine .inr ⟨by omega, by omega, hk, fun s a1 a2 a3 => ?_⟩
    by_cases e : s = k
    · exact .inr ⟨by rw [e], .inl e⟩
    · rcases h4 s a1 (by omega) a3 with h5 | ⟨h5, h6⟩
      · rcases hb with hb | ⟨hb, _⟩
        · exact .inl (by omega)
        · exact .inl (by omega)
      · rcases hb with hb | ⟨hb, hf⟩
        · exact .inl (by omega)
        · refine .inr ⟨by omega, .inr ?_⟩
          rcases h6 with h6 | h6
          · rw [h6]; exact hf
          · exact hf.trans h6
theorem LkInv.stay {lk : Nat → Bool} {k b : Nat} (h : LkInv lk k b) (h0 : b ≠ 0) (hk : k < 1024) (h1' : ¬ pc k < pc b) (h2' : ¬ (pc k = pc b ∧ Fst k b)) : LkInv lk (k + 1) b := by
  rcases h with ⟨h1, _⟩ | ⟨h1, h2, h3, h4⟩
  · exact absurd h1 h0
  · refine .inr ⟨h1, by omega, h3, fun s a1 a2 a3 => ?_⟩
    by_cases e : s = k
    · subst e
      by_cases e2 : pc s = pc b
      · refine .inr ⟨e2.symm, .inr ?_⟩
        rcases fst_total (a := s) (b := b) hk (by omega) (by omega) with h | h
        · exact absurd ⟨e2, h⟩ h2'
        · exact h
      · exact .inl (by omega)
    · exact h4 s a1 (by omega) a3
theorem lk_eq {l : List Gr} {U : List Us} (hl : validG l = true) (hu : validU U = true) {s : Nat} (hs : s < 2 ^ U.length) : rlackB l (plN l) U s = lackB l U (bitsS U.length s) := by
  rw [Bool.eq_iff_iff, rlackB_iff hl hu (plN_length l) hs, lackB_iff hl hu (fun u h => (bitsS_mem.1 h).1) (bitsS_nodup _ _)]
/-- What the reference's Lack has found in the end is the first of the smallest sets. -/
theorem LkInv.done {l : List Gr} {U : List Us} (hl : validG l = true) (hu : validU U = true) {b : Nat} (h : LkInv (rlackB l (plN l) U) (2 ^ U.length) b) : (b = 0 → lackV l U = none) ∧ (b ≠ 0 → lackV l U = some (bitsS U.length b)) := by
  have ev : lackV l U = (setsL U.length).find? (lackB l U) := by unfold lackV; rw [hl, hu]; rfl
  have hset : ∀ x ∈ setsL U.length, 1 ≤ setN x ∧ setN x < 2 ^ U.length ∧ bitsS U.length (setN x) = x := fun x hx => by
    obtain ⟨h0, hp, _⟩ := sets_shape hx
    have hlt := sets_lt x hx
    refine ⟨?_, setN_lt hlt, bits_back hp hlt⟩
    obtain ⟨k, hk⟩ := List.exists_mem_of_ne_nil x h0
    have hb := (setN_bit x k).2 hk
    refine Nat.pos_of_ne_zero fun e => ?_
    rw [e, Nat.zero_testBit] at hb
    cases hb
  rcases h with ⟨h1, h2⟩ | ⟨h1, h2, h3, h4⟩
  · refine ⟨fun _ => ?_, fun hb => absurd h1 hb⟩
    rw [ev, List.find?_eq_none]
    intro x hx hb
    obtain ⟨a1, a2, a3⟩ := hset x hx
    have := h2 _ a1 a2
    rw [lk_eq hl hu a2, a3, hb] at this
    cases this
  · refine ⟨fun hb => absurd hb (by omega), fun _ => ?_⟩
    have hTlt : ∀ u ∈ bitsS U.length b, u < U.length := fun u h => (bitsS_mem.1 h).1
    have hTl : lackB l U (bitsS U.length b) = true := by rw [← lk_eq hl hu h2]; exact h3
    have hT0 : bitsS U.length b ≠ [] := fun e => by
      have h5 := pc_bits U.length b h2
      rw [e, List.length_nil] at h5
      have h6 := pc_step (n := b) (by omega)
      rw [e] at hTl
      unfold lackB at hTl
      simp at hTl
    have hTm := sets_mem hT0 (bitsS_asc _ _) hTlt
    rw [ev]
    cases hf : (setsL U.length).find? (lackB l U) with
    | none => exact absurd hTl (by have := List.find?_eq_none.1 hf _ hTm; simpa using this)
    | some S =>
      congr 1
      refine Classical.byContradiction fun hne => ?_
      obtain ⟨hS, l1, l2, he, ha⟩ := List.find?_eq_some_iff_append.1 hf
      have hSm : S ∈ setsL U.length := by rw [he]; simp
      have ho := sets_order U.length
      rw [he] at ho hTm
      obtain ⟨s1, s2, s3⟩ := hset S hSm
      have hord : S.length < (bitsS U.length b).length ∨ (S.length = (bitsS U.length b).length ∧ FirstS S (bitsS U.length b)) := by
        rcases List.mem_append.1 hTm with hm | hm
        · have := ha _ hm
          rw [hTl] at this
          cases this
        · rcases List.mem_cons.1 hm with e | hm
          · exact absurd e.symm hne
          · exact (List.pairwise_cons.1 (List.pairwise_append.1 ho).2.1).1 _ hm
      have hsl : rlackB l (plN l) U (setN S) = true := by rw [lk_eq hl hu s2, s3]; exact hS
      have p1 := pc_bits U.length b h2
      have p2 := pc_bits U.length (setN S) s2
      rw [s3] at p2
      rcases h4 (setN S) s1 s2 hsl with h5 | ⟨h5, h6⟩
      · rcases hord with h7 | ⟨h7, _⟩ <;> omega
      · rcases hord with h7 | ⟨_, k, k1, k2, k3⟩
        · omega
        · rcases h6 with h6 | h6
          · rw [h6] at s3; exact hne s3.symm
          · have hk : k < U.length := sets_lt S hSm k k1
            have hb : ∀ j, j < U.length → (b.testBit j = true ↔ j ∈ bitsS U.length b) := fun j hj => by rw [bitsS_mem]; exact ⟨fun h => ⟨hj, h⟩, fun h => h.2⟩
            have h10 := validU_len hu
            refine h6.asymm ⟨k, by omega, (setN_bit S k).2 k1, ?_, fun j hj => ?_⟩
            · rw [← Bool.not_eq_true, hb k hk]; exact k2
            · rw [Bool.eq_iff_iff, setN_bit, hb j (by omega)]; exact k3 j hj
end Go.Proofs.Ytenojfniknjeiaa
