/- RightsHall's mathematics and calls. -/
import Derived.Test.YtenojfniknjeiaaIj
namespace Go.Proofs.Ytenojfniknjeiaa
open Go.RowKit Go.Shelf
attribute [local go_sem ↓] append_appN

theorem assign_can (l : List Gr) (U : List Us) (hl : validG l = true) (hu : validU U = true) (hc : canB l U = true) (A A2 : Option Addr) (n c n2 c2 : Nat) (w : World) (hr : Recs encG 6 w w.heap.size (.slice A n c) l) (hu' : Recs encU 4 w w.heap.size (.slice A2 n2 c2) U) :
    Calls Try.prog 21 #[.slice A n c, .slice A2 n2 c2] w fun e w' => ∃ A' c' L, e = .returned (.tuple #[.slice A' L.length c', .int .i64 0]) ∧ FirstAs (plN l) (chL l U) L ∧ OwnN w' w.heap.size (.slice A' L.length c') L ∧ Below w.heap.size w w' := by
  refine (Assign_any l U A A2 n c n2 c2 w hr hu').mono ?_
  rintro e w' ⟨v, err, rfl, hb, ⟨rfl, rfl, h⟩ | ⟨rfl, _, _, L, hL, ho⟩⟩
  · rcases h with h | h
    · exact absurd ⟨hl, hu⟩ h
    · exact absurd (canB_iff.1 hc) h
  · obtain ⟨A', c', rfl, -⟩ := own_slice ho
    exact ⟨A', c', L, rfl, hL, ho, hb⟩
theorem assign_not (l : List Gr) (U : List Us) (hc : canB l U = false) (A A2 : Option Addr) (n c n2 c2 : Nat) (w : World) (hr : Recs encG 6 w w.heap.size (.slice A n c) l) (hu' : Recs encU 4 w w.heap.size (.slice A2 n2 c2) U) :
    Calls Try.prog 21 #[.slice A n c, .slice A2 n2 c2] w fun e w' => e = .returned (.tuple #[.slice none 0 0, .int .i64 80]) ∧ Below w.heap.size w w' := by
  refine (Assign_any l U A A2 n c n2 c2 w hr hu').mono ?_
  rintro e w' ⟨v, err, rfl, hb, ⟨rfl, rfl, h⟩ | ⟨rfl, _, _, L, hL, ho⟩⟩
  · exact ⟨rfl, hb⟩
  · have h2 := canB_iff.2 ⟨L, hL.is⟩
    rw [hc] at h2
    cases h2
theorem zi_contains (L : List Nat) (x : Nat) : (zi L).contains (x : Int) = L.contains x := by
  rw [Bool.eq_iff_iff, List.contains_iff_mem, List.contains_iff_mem]
  unfold zi
  rw [List.mem_map]
  exact ⟨fun ⟨y, hy, e⟩ => by rwa [← Int.ofNat.inj e], fun h => ⟨x, h, rfl⟩⟩
/-- How often each grant has been used. -/
def cntL (l : List Gr) (a : List Nat) : List Nat := (List.range l.length).map fun g => a.count g
theorem cntL_len (l : List Gr) (a : List Nat) : (cntL l a).length = l.length := by simp [cntL]
theorem cntL_nil (l : List Gr) : cntL l [] = List.replicate l.length 0 := by
  unfold cntL
  apply List.ext_getElem
  · simp
  · intro i h1 h2
    simp
theorem cntL_get {l : List Gr} {a : List Nat} {g : Nat} (h : g < l.length) : (cntL l a)[g]? = some (a.count g) := by
  unfold cntL
  simp [h]
theorem cntL_snoc {l : List Gr} {a : List Nat} {g : Nat} (_ : g < l.length) : cntL l (a ++ [g]) = (cntL l a).set g (a.count g + 1) := by
  apply List.ext_getElem
  · simp [cntL]
  · intro i h1 h2
    have hi : i < l.length := by rw [cntL_len] at h1; exact h1
    rw [List.getElem_set]
    unfold cntL
    simp only [List.getElem_map, List.getElem_range, List.count_append]
    by_cases hg : g = i
    · subst hg
      rw [if_pos rfl]
      simp
    · rw [if_neg hg, List.count_singleton, if_neg (by simpa using hg), Nat.add_zero]
/-- What is known of the use i of an assignment. -/
structure AsAt (l : List Gr) (U : List Us) (a : List Nat) (i g : Nat) : Prop where
  lt : g < l.length
  get : a[i]? = some g
  has : (zi (permV l (U.getD i u0))).contains (g : Int) = true
  snoc : cntL l (a.take (i + 1)) = (cntL l (a.take i)).set g ((a.take i).count g + 1)
  old : (cntL l (a.take i))[g]? = some ((a.take i).count g)
  le : (((a.take i).count g : Nat) : Int) + 1 ≤ (l.getD g g0).plays
  small : ((a.take i).count g : Nat) ≤ 10
theorem as_at {l : List Gr} {U : List Us} {a : List Nat} (hl : validG l = true) (hu : validU U = true) (h : IsAs (plN l) (chL l U) a) {i : Nat} (hi : i < U.length) : ∃ g, AsAt l U a i g := by
  have hlen : a.length = U.length := by rw [h.len, chL_len]
  have hia : i < a.length := by omega
  have hm := h.mem i (by rw [chL_len]; exact hi)
  have e : a.getD i 0 = a[i] := at_eq hia
  rw [chL_get8 hi, e] at hm
  obtain ⟨_, _, hg, _⟩ := mem_permV.1 hm
  have ht : a.take (i + 1) = a.take i ++ [a[i]] := by rw [List.take_add_one, List.getElem?_eq_getElem hia]; rfl
  have hcnt : (a.take i).count a[i] + 1 ≤ (plN l).getD a[i] 0 := by
    have h4 := (List.take_sublist (i + 1) a).count_le a[i]
    rw [ht, List.count_append, List.count_singleton_self] at h4
    exact Nat.le_trans h4 (h.cnt _)
  have hp : (plN l).getD a[i] 0 = l[a[i]].plays.toNat := by unfold plN; simp [List.getD_eq_getElem?_getD, hg]
  have hq : l.getD a[i] g0 = l[a[i]] := by simp [List.getD_eq_getElem?_getD, hg]
  have h100 := validG_plays hl _ (List.getElem_mem hg)
  refine ⟨a[i], hg, List.getElem?_eq_getElem hia, ?_, ?_, cntL_get hg, ?_, ?_⟩
  · rw [zi_contains]; simpa using hm
  · rw [ht]; exact cntL_snoc hg
  · rw [hq]; omega
  · have h1 := List.count_le_length (a := a[i]) (l := a.take i)
    rw [List.length_take] at h1
    have := validU_len hu
    omega
/-- What is known of a set that Lack answers. -/
structure LackAt (l : List Gr) (U : List Us) (S : List Nat) : Prop where
  pos : 0 < S.length
  le : S.length ≤ U.length
  lt : ∀ u ∈ S, u < U.length
  asc : S.Pairwise (· < ·)
  sum : sumL l U S < S.length
theorem lack_at {l : List Gr} {U : List Us} {S : List Nat} (hl : validG l = true) (hu : validU U = true) (h : lackV l U = some S) : LackAt l U S := by
  have e : lackV l U = (setsL U.length).find? (lackB l U) := by unfold lackV; rw [hl, hu]; rfl
  rw [e] at h
  have hm := List.mem_of_find?_eq_some h
  have hb := List.find?_some h
  obtain ⟨h0, hp, hll⟩ := sets_shape hm
  exact ⟨List.length_pos_iff.2 h0, hll, sets_lt S hm, hp, by unfold lackB at hb; exact of_decide_eq_true hb⟩
theorem has_perm {l : List Gr} {U : List Us} (hl : validG l = true) (hu : validU U = true) {u g : Nat} (h : u < U.length) (hg : g < l.length) : (zi (permV l (U.getD u u0))).contains (g : Int) = pG (l.getD g g0) U u := by
  rw [zi_contains, Bool.eq_iff_iff, List.contains_iff_mem, mem_permV]
  have e : U.getD u u0 = U[u] := by simp [List.getD_eq_getElem?_getD, h]
  constructor
  · rintro ⟨_, _, _, h4⟩; exact h4
  · intro h4
    exact ⟨hl, by rw [e]; exact okU_of hu (List.getElem_mem h), hg, h4⟩
theorem any_take {p : Nat → Bool} {S : List Nat} {k x : Nat} (h : S[k]? = some x) : (S.take (k + 1)).any p = ((S.take k).any p || p x) := by
  rw [List.take_add_one, h, Option.toList_some, List.any_append]
  simp
end Go.Proofs.Ytenojfniknjeiaa
