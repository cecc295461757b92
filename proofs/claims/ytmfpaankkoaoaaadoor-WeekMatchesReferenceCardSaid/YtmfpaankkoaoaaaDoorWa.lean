/- Mathematics of weeks: periods, complements, the laws of sets, the first second. -/
import Derived.Test.YtmfpaankkoaoaaaDoorVu
namespace Go.Proofs.YtmfpaankkoaoaaaDoor
open Go.RowKit Go.Shelf

theorem hasS_period (l : List Int) (t : Nat) : hasS l (t + 604800) = hasS l t := by
  unfold hasS
  rw [show (t + 604800) / 86400 % 7 = t / 86400 % 7 by omega, show (t + 604800) / 3600 % 24 = t / 3600 % 24 by omega]
/-- The hour with the number k of a week. -/
def hourQ (l : List Int) (k : Nat) : Bool := (hrs l (k / 24)).testBit (k % 24)
theorem cnt_hours (l : List Int) : ∀ n, n ≤ 168 → cnt (hasS l) 0 (3600 * n) = 3600 * cnt (hourQ l) 0 n
  | 0, _ => rfl
  | n + 1, h => by
    rw [show 3600 * (n + 1) = 3600 * n + 3600 by omega, cnt_add, cnt_hours l n (by omega)]
    show _ = 3600 * (cnt (hourQ l) 0 n + (if hourQ l (0 + n) then 1 else 0))
    have hp : ∀ t, 0 + 3600 * n ≤ t → t < 0 + 3600 * n + 3600 → hasS l t = hourQ l (0 + n) := by
      intro t h1 h2
      unfold hasS hourQ
      rw [show t / 86400 % 7 = (0 + n) / 24 by omega, show t / 3600 % 24 = (0 + n) % 24 by omega]
    cases hq : hourQ l (0 + n) with
    | true => rw [cnt_all (fun t h1 h2 => (hp t h1 h2).trans hq)]; simp; omega
    | false => rw [cnt_none (fun t h1 h2 => (hp t h1 h2).trans hq)]; simp
theorem week_cnt (l : List Int) (u : Nat) : cnt (hasS l) u 604800 = 3600 * cnt (hourQ l) 0 168 := by
  have h1 := cnt_add (hasS l) 0 u 604800
  have h2 := cnt_add (hasS l) 0 604800 u
  have h3 : cnt (hasS l) (0 + 604800) u = cnt (hasS l) 0 u := cnt_congr (fun i _ => by
    rw [show 0 + 604800 + i = (0 + i) + 604800 by omega, hasS_period])
  have h4 := cnt_hours l 168 (by omega)
  rw [Nat.zero_add] at h1
  rw [Nat.add_comm u 604800] at h1
  have h5 : 3600 * 168 = 604800 := rfl
  rw [h5] at h4
  omega
/-- The bit with the number h of a day's hours, as the law reads it. -/
theorem hour_bit (x h : Nat) : (((x : Int) / 2 ^ h).tmod 2) = ((if x.testBit h then 1 else 0 : Nat) : Int) := by
  rw [shift_cast, Int.tmod_eq_emod_of_nonneg (Int.natCast_nonneg _), Nat.testBit_eq_decide_div_mod_eq]
  generalize x / 2 ^ h = q
  by_cases e : q % 2 = 1
  · rw [if_pos (by simpa using e)]; omega
  · rw [if_neg (by simpa using e)]; omega

theorem compl_bit (x k : Nat) (hx : x ≤ 16777215) (hk : k < 24) : (16777215 - x).testBit k = !x.testBit k := by
  have h := Nat.testBit_two_pow_sub_succ (n := 24) (x := x) (by omega) k
  rw [show 2 ^ 24 - (x + 1) = 16777215 - x by omega] at h
  rw [h]; simp [hk]
theorem hrs_comb (F : Nat → Nat → Nat) (la lb : List Int) (k : Nat) (hk : k < 7) : hrs (combL F la lb) k = F (hrs la k) (hrs lb k) := by
  simp [hrs, combL, List.getElem?_map, List.getElem?_range hk]
theorem comb_valid (F : Nat → Nat → Nat) (la lb : List Int) (h : ∀ k, k < 7 → F (hrs la k) (hrs lb k) ≤ 16777215) : validW (combL F la lb) = true := by
  unfold validW combL
  rw [List.all_eq_true]
  intro x hx
  rw [List.mem_map] at hx
  obtain ⟨k, hk, rfl⟩ := hx
  rw [List.mem_range] at hk
  exact (okH_iff _).2 ⟨by omega, by have := h k hk; omega⟩
theorem comb_ext (F G : Nat → Nat → Nat) (la lb lc ld : List Int) (h : ∀ k, k < 7 → F (hrs la k) (hrs lb k) = G (hrs lc k) (hrs ld k)) : combL F la lb = combL G lc ld := by
  unfold combL
  refine List.map_congr_left fun k hk => ?_
  rw [h k (List.mem_range.1 hk)]
theorem comb_self (F : Nat → Nat → Nat) (la lb l : List Int) (h7 : l.length = 7) (hv : validW l = true) (h : ∀ k, k < 7 → F (hrs la k) (hrs lb k) = hrs l k) : combL F la lb = l := by
  apply List.ext_getElem?
  intro k
  by_cases hk : k < 7
  · have := (hrs_at hv (k := k) (by omega)).1
    rw [this]
    simp only [combL, List.getElem?_map, List.getElem?_range hk, Option.map_some, h k hk]
  · rw [List.getElem?_eq_none (by rw [combL_len]; omega), List.getElem?_eq_none (by omega)]
abbrev fA : Nat → Nat → Nat := fun x y => x &&& y
abbrev fO : Nat → Nat → Nat := fun x y => x ||| y
abbrev fN : Nat → Nat → Nat := fun x _ => 16777215 - x
theorem le_and {x y : Nat} (hx : x ≤ 16777215) : x &&& y ≤ 16777215 := Nat.le_trans Nat.and_le_left hx
theorem le_or {x y : Nat} (hx : x ≤ 16777215) (hy : y ≤ 16777215) : x ||| y ≤ 16777215 := by
  have := Nat.or_lt_two_pow (x := x) (y := y) (n := 24) (by omega) (by omega)
  omega
theorem valid_and {la lb : List Int} (ha : validW la = true) : validW (combL fA la lb) = true := comb_valid _ _ _ (fun k _ => le_and (hrs_le ha k))
theorem valid_or {la lb : List Int} (ha : validW la = true) (hb : validW lb = true) : validW (combL fO la lb) = true := comb_valid _ _ _ (fun k _ => le_or (hrs_le ha k) (hrs_le hb k))
theorem valid_not (la lb : List Int) : validW (combL fN la lb) = true := comb_valid _ _ _ (fun _ _ => Nat.sub_le _ _)
theorem comb_ok {F : Nat → Nat → Nat} {la lb : List Int} (ha : validW la = true) (hb : validW lb = true) : combM F la lb = (combL F la lb, 0) := by
  unfold combM; rw [ha, hb]; rfl
theorem has_and (la lb : List Int) (t : Nat) : hasS (combL fA la lb) t = (hasS la t && hasS lb t) := by
  unfold hasS; rw [hrs_comb _ _ _ _ (by omega)]; exact Nat.testBit_and _ _ _
theorem has_or (la lb : List Int) (t : Nat) : hasS (combL fO la lb) t = (hasS la t || hasS lb t) := by
  unfold hasS; rw [hrs_comb _ _ _ _ (by omega)]; exact Nat.testBit_or _ _ _
theorem has_not {la : List Int} (lb : List Int) (ha : validW la = true) (t : Nat) : hasS (combL fN la lb) t = !hasS la t := by
  unfold hasS; rw [hrs_comb _ _ _ _ (by omega)]; exact compl_bit _ _ (hrs_le ha _) (by omega)
theorem law_dist (a b c : List Int) : combL fA a (combL fO b c) = combL fO (combL fA a b) (combL fA a c) := by
  refine comb_ext _ _ _ _ _ _ fun k hk => ?_
  rw [hrs_comb _ _ _ _ hk, hrs_comb _ _ _ _ hk, hrs_comb _ _ _ _ hk]
  exact Nat.and_or_distrib_left _ _ _
theorem law_back {a : List Int} (h7 : a.length = 7) (ha : validW a = true) : combL fN (combL fN a a) (combL fN a a) = a := by
  refine comb_self _ _ _ _ h7 ha fun k hk => ?_
  rw [hrs_comb _ _ _ _ hk]
  have := hrs_le ha k
  show 16777215 - (16777215 - hrs a k) = _
  omega
theorem law_morgan {a b : List Int} (ha : validW a = true) (hb : validW b = true) : combL fN (combL fA a b) (combL fA a b) = combL fO (combL fN a a) (combL fN b b) := by
  refine comb_ext _ _ _ _ _ _ fun k hk => ?_
  rw [hrs_comb _ _ _ _ hk, hrs_comb _ _ _ _ hk, hrs_comb _ _ _ _ hk]
  have h1 := hrs_le ha k
  have h2 := hrs_le hb k
  show 16777215 - (hrs a k &&& hrs b k) = (16777215 - hrs a k) ||| (16777215 - hrs b k)
  apply Nat.eq_of_testBit_eq
  intro i
  by_cases hi : i < 24
  · rw [compl_bit _ _ (le_and h1) hi, Nat.testBit_or, compl_bit _ _ h1 hi, compl_bit _ _ h2 hi, Nat.testBit_and, Bool.not_and]
  · rw [Nat.testBit_lt_two_pow (Nat.lt_of_le_of_lt (Nat.sub_le _ _) (Nat.lt_of_lt_of_le (by decide : 16777215 < 2 ^ 24) (Nat.pow_le_pow_right (by decide) (by omega)))), Nat.testBit_lt_two_pow (Nat.lt_of_le_of_lt (le_or (Nat.sub_le _ _) (Nat.sub_le _ _)) (Nat.lt_of_lt_of_le (by decide : 16777215 < 2 ^ 24) (Nat.pow_le_pow_right (by decide) (by omega))))]

theorem in_ok {l : List Int} (hv : validW l = true) {t : Nat} (ht : t < 10000000) : inW l (t : Int) = hasS l t := by
  unfold inW
  rw [hv, (isSec_iff _).2 ⟨by omega, by omega⟩]
  simp
theorem not_cnt {a : List Int} (b : List Int) (ha : validW a = true) (u n : Nat) : cnt (hasS a) u n + cnt (hasS (combL fN a b)) u n = n :=
  cnt_compl fun t _ _ => has_not b ha t
/-- Next, in plain words: none is left, or the first one. -/
theorem next_none {l : List Int} (h7 : l.length = 7) (hv : validW l = true) {u : Nat} (hu : u < 10000000) (h : (nextV l (u : Int)).2 = false) : (nextV l (u : Int)).1 = 0 ∧ cnt (hasS l) u (10000000 - u) = 0 := by
  have ht := tiles_pcs l h7 hv u 10000000 (by omega) hu
  rw [next_ok hv ((isSec_iff _).2 ⟨by omega, by omega⟩)] at h ⊢
  cases hp : pcs l u 10000000 with
  | nil =>
    rw [hp] at ht
    exact ⟨rfl, cnt_none fun t h1 h2 => ht t h1 (by omega)⟩
  | cons q L => rw [hp] at h; cases h
theorem next_some {l : List Int} (h7 : l.length = 7) (hv : validW l = true) {u : Nat} (hu : u < 10000000) (h : (nextV l (u : Int)).2 = true) : ∃ n : Nat, (nextV l (u : Int)).1 = (n : Int) ∧ u ≤ n ∧ n < 10000000 ∧ hasS l n = true ∧ cnt (hasS l) u (n - u) = 0 := by
  have ht := tiles_pcs l h7 hv u 10000000 (by omega) hu
  rw [next_ok hv ((isSec_iff _).2 ⟨by omega, by omega⟩)] at h ⊢
  cases hp : pcs l u 10000000 with
  | nil => rw [hp] at h; cases h
  | cons q L =>
    rw [hp] at ht
    obtain ⟨x, y⟩ := q
    obtain ⟨h1, h2, h3, h4, h5, h6⟩ := ht
    exact ⟨x, rfl, h1, by omega, h5 x (by omega) h2, cnt_none fun t g1 g2 => h4 t g1 (by omega)⟩
end Go.Proofs.YtmfpaankkoaoaaaDoor
