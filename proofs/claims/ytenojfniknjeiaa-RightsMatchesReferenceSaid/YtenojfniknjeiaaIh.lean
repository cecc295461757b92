/- What an assignment leaves of the plays. -/
import Derived.Test.YtenojfniknjeiaaIe
namespace Go.Proofs.Ytenojfniknjeiaa

/-- The plays that a list of grants leaves. -/
def restN (l : List Gr) (a : List Nat) : List Nat := (List.range l.length).map fun g => (plN l).getD g 0 - a.count g
theorem restN_nil (l : List Gr) : restN l [] = plN l := by
  unfold restN
  apply List.ext_getElem
  · simp [plN]
  · intro i h1 h2
    simp at h1
    simp [plN, List.getD_eq_getElem?_getD, h1]
theorem restN_getD {l : List Gr} {a : List Nat} {g : Nat} (h : g < l.length) : (restN l a).getD g 0 = (plN l).getD g 0 - a.count g := by
  unfold restN
  simp [List.getD_eq_getElem?_getD, h]
theorem restN_snoc {l : List Gr} {a : List Nat} {g : Nat} (h : g < l.length) : restN l (a ++ [g]) = (restN l a).set g ((restN l a).getD g 0 - 1) := by
  rw [restN_getD h]
  apply List.ext_getElem
  · simp [restN]
  · intro i h1 h2
    have hi : i < l.length := by unfold restN at h1; rw [List.length_map, List.length_range] at h1; exact h1
    rw [List.getElem_set]
    unfold restN
    simp only [List.getElem_map, List.getElem_range, List.count_append]
    by_cases hg : g = i
    · subst hg
      rw [if_pos rfl]
      simp
      omega
    · rw [if_neg hg, List.count_singleton, if_neg (by simpa using hg), Nat.add_zero]
/-- Left answers what an assignment leaves. -/
theorem left_is {l : List Gr} {U : List Us} {a : List Nat} (hlen : a.length = U.length) (hm : ∀ i, i < U.length → a.getD i 0 < l.length ∧ perB (l.getD (a.getD i 0) g0) (U.getD i u0) = true) (hc : ∀ g, a.count g ≤ (plN l).getD g 0) :
    leftO l U (zi a) = some (restN l a) := by
  have key : ∀ i, i ≤ a.length → (((zi a).zip U).take i).foldl (leftStep l) (some (plN l)) = some (restN l (a.take i)) := by
    intro i
    induction i with
    | zero => intro _; rw [List.take_zero, List.take_zero, restN_nil]; rfl
    | succ i ih =>
      intro hi
      have hz : ((zi a).zip U)[i]? = some (((a.getD i 0 : Nat) : Int), U.getD i u0) := by
        have h1 : i < a.length := by omega
        have h2 : i < U.length := by omega
        rw [List.getElem?_zip_eq_some]
        exact ⟨by simp [zi, List.getD_eq_getElem?_getD, h1], by simp [List.getD_eq_getElem?_getD, h2]⟩
      have ih' := ih (by omega)
      rw [left_step hz ih']
      obtain ⟨h1, h2⟩ := hm i (by omega)
      have ht : a.take (i + 1) = a.take i ++ [a.getD i 0] := by
        have h3 : i < a.length := by omega
        rw [List.take_add_one, List.getElem?_eq_getElem h3]
        simp [List.getD_eq_getElem?_getD, h3]
      have hcnt : (a.take i).count (a.getD i 0) + 1 ≤ (plN l).getD (a.getD i 0) 0 := by
        have h4 := (List.take_sublist (i + 1) a).count_le (a.getD i 0)
        rw [ht, List.count_append, List.count_singleton_self] at h4
        exact Nat.le_trans h4 (hc _)
      have hne : (restN l (a.take i)).getD (a.getD i 0) 0 ≠ 0 := by rw [restN_getD h1]; omega
      unfold leftStep
      rw [ht, restN_snoc h1]
      simp only [Option.bind_some, Int.toNat_natCast]
      rw [if_pos ⟨by omega, h1, h2, hne⟩]
  have h := key a.length (Nat.le_refl _)
  have hz : ((zi a).zip U).take a.length = (zi a).zip U := List.take_of_length_le (by rw [List.length_zip, zi_len]; omega)
  rw [hz, List.take_length] at h
  exact h
end Go.Proofs.Ytenojfniknjeiaa
