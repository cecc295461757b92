/- RightsFirst's mathematics: with an earlier grant the others cannot be assigned any more. -/
import Derived.Test.YtenojfniknjeiaaIi
namespace Go.Proofs.Ytenojfniknjeiaa

theorem first_no {P : List Nat} {ch : List (List Nat)} {L : List Nat} (hF : FirstAs P ch L) {n k : Nat} (hn : n < ch.length) (hk : k ∈ ch.getD n []) (hlt : k < L.getD n 0)
    {P' : List Nat} {ch' : List (List Nat)} (hl : ch'.length = ch.length - (n + 1)) (hc : ∀ u, u < ch'.length → ∀ g ∈ ch'.getD u [], g ∈ ch.getD (u + (n + 1)) []) (hP : ∀ g, P'.getD g 0 + (L.take n ++ [k]).count g ≤ P.getD g 0) : ¬ Can P' ch' := by
  rintro ⟨b, hb⟩
  have hL := hF.is.len
  have hlen : (L.take n ++ [k]).length = n + 1 := by rw [List.length_append, List.length_take]; simp; omega
  refine hF.first n (by omega) k hk hlt ((can_pre (by omega)).2 ⟨(L.take n ++ [k]) ++ b, ?_, ?_, fun u h1 h2 => ?_, fun g => ?_⟩)
  · have := hb.len
    rw [List.length_append]; omega
  · rw [List.take_append_of_le_length (Nat.le_refl _), List.take_length]
  · have hbl := hb.len
    have e : ((L.take n ++ [k]) ++ b).getD u 0 = b.getD (u - (n + 1)) 0 := by
      rw [List.getD_eq_getElem?_getD, List.getElem?_append_right h1, ← List.getD_eq_getElem?_getD, hlen]
    rw [e]
    have h3 := hc (u - (n + 1)) (by omega) _ (hb.mem (u - (n + 1)) (by omega))
    rwa [show u - (n + 1) + (n + 1) = u by omega] at h3
  · rw [List.count_append]
    have := hb.cnt g
    have := hP g
    omega
end Go.Proofs.Ytenojfniknjeiaa
