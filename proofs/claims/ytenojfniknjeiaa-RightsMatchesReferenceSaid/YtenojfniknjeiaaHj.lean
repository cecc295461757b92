/- Hall's theorem for uses and grants; the first assignment. -/
import Derived.Test.YtenojfniknjeiaaHh
namespace Go.Proofs.Ytenojfniknjeiaa

theorem mem_lt {ch G : List (List Nat)} {P : List Nat} (hG : GOk P ch G) {i x : Nat} (hx : x ∈ G.getD i []) : x < ch.length := by
  have h1 := hG.mem i x hx
  rcases Nat.lt_or_ge x ch.length with h2 | h2
  · exact h2
  · rw [List.getD_eq_getElem?_getD, List.getElem?_eq_none h2] at h1; cases h1
theorem step_ex {P : List Nat} {ch : List (List Nat)} (hch : ChOk P ch) {G : List (List Nat)} (hG : GOk P ch G) : ∀ (n use : Nat) (T : List Bool), untr T < n → T.length = P.length → use < ch.length → ∃ b T' G', Step P ch use T G b T' G'
  | 0, _, _, h, _, _ => absurd h (Nat.not_lt_zero _)
  | n + 1, use, T, hn, hT, hu => by
    have outer : ∀ (m k : Nat) (Tk : List Bool), k + m = (ch.getD use []).length → OutI P ch use k T G Tk → ∃ b T' G', Step P ch use T G b T' G' := by
      intro m
      induction m with
      | zero =>
        intro k Tk hk hO
        have hk' : k = (ch.getD use []).length := by omega
        subst hk'
        exact ⟨_, _, _, hO.done hG⟩
      | succ m ihm =>
        intro k Tk hk hO
        have hkl : k < (ch.getD use []).length := by omega
        obtain ⟨i, hi⟩ : ∃ i, (ch.getD use []).getD k 0 = i := ⟨_, rfl⟩
        have hm : i ∈ ch.getD use [] := by rw [← hi]; exact at_mem hkl
        have hil := hch use i hm
        cases ht : tr Tk i with
        | true => exact ihm (k + 1) Tk (by omega) (hO.skip (by rw [hi]; exact ht))
        | false =>
          by_cases hf : (G.getD i []).length < P.getD i 0
          · exact ⟨_, _, _, hO.free hG hT hil hm ht hf⟩
          · have inner : ∀ (m' j : Nat) (Tj : List Bool), j + m' = (G.getD i []).length → InI P ch i j Tk G Tj → ∃ b T' G', Step P ch use T G b T' G' := by
              intro m'
              induction m' with
              | zero =>
                intro j Tj hj hI
                have hj' : j = (G.getD i []).length := by omega
                subst hj'
                exact ihm (k + 1) Tj (by omega) (InI.done hO hI hT hil hi (by omega))
              | succ m' ihi =>
                intro j Tj hj hI
                have hjl : j < (G.getD i []).length := by omega
                have hiT : i < Tk.length := by rw [hO.tlen, hT]; exact hil
                have h1 := untr_set hiT ht
                have h2 := untr_le (T := Tk.set i true) (T' := Tj) (by rw [List.length_set]; exact hI.tlen) hI.sub
                have h3 := untr_le (T := T) (T' := Tk) hO.tlen hO.sub
                obtain ⟨b, T', G', hs⟩ := step_ex hch hG n ((G.getD i []).getD j 0) Tj (by omega) (by rw [hI.tlen, hO.tlen, hT]) (mem_lt hG (at_mem hjl))
                cases b with
                | true => exact ⟨_, _, _, (InI.found hO hI hT hil hm ht hjl hs).2⟩
                | false => exact ihi (j + 1) T' (by omega) (hI.next hs).2
            exact inner _ 0 _ (Nat.zero_add _) (InI.start _ _)
    exact outer _ 0 T (Nat.zero_add _) (OutI.start _ _ _ _ _)
/-- Hall's theorem. -/
theorem hall {P : List Nat} {ch : List (List Nat)} (hch : ChOk P ch) : Can P ch ∨ ∃ S, LackS P ch S := by
  have top : ∀ n, n ≤ ch.length → (∃ G, TopI P ch n G) ∨ ∃ S, LackS P ch S := by
    intro n
    induction n with
    | zero => intro _; exact .inl ⟨_, TopI.start⟩
    | succ n ih =>
      intro hn
      rcases ih (by omega) with ⟨G, hT⟩ | h
      · obtain ⟨b, T', G', hs⟩ := step_ex hch hT.ok (P.length + 1) n (List.replicate P.length false) (by have := untr_le_len (List.replicate P.length false); rw [List.length_replicate] at this; omega) (by simp) (by omega)
        cases b with
        | true => exact .inl ⟨G', hT.next hs⟩
        | false => exact .inr (hT.lack (by omega) (fun g => tr_rep _ _) hs)
      · exact .inr h
  rcases top _ (Nat.le_refl _) with ⟨G, hT⟩ | h
  · exact .inl hT.can
  · exact .inr h
theorem not_can {P : List Nat} {ch : List (List Nat)} (hch : ChOk P ch) : ¬ Can P ch ↔ ∃ S, LackS P ch S :=
  ⟨fun h => (hall hch).resolve_left h, fun ⟨_, h⟩ c => c.no_lack hch h⟩
/-- The choices, the first of which are settled. -/
def pre (L : List Nat) (ch : List (List Nat)) : List (List Nat) := (L.map fun g => [g]) ++ ch.drop L.length
theorem pre_len {L : List Nat} {ch : List (List Nat)} (h : L.length ≤ ch.length) : (pre L ch).length = ch.length := by
  unfold pre; rw [List.length_append, List.length_map, List.length_drop]; omega
theorem pre_nil (ch : List (List Nat)) : pre [] ch = ch := by simp [pre]
theorem getD_app {a b : List (List Nat)} (u : Nat) : (a ++ b).getD u [] = if u < a.length then a.getD u [] else b.getD (u - a.length) [] := by
  rw [List.getD_eq_getElem?_getD, List.getElem?_append]
  split <;> rw [List.getD_eq_getElem?_getD]
theorem pre_getD (L : List Nat) (ch : List (List Nat)) (u : Nat) : (pre L ch).getD u [] = if u < L.length then [L.getD u 0] else ch.getD u [] := by
  unfold pre
  rw [getD_app, List.length_map]
  split
  · next h => rw [List.getD_eq_getElem?_getD, List.getElem?_map, List.getElem?_eq_getElem h, at_eq h]; rfl
  · next h => rw [List.getD_eq_getElem?_getD, List.getElem?_drop, show L.length + (u - L.length) = u by omega, ← List.getD_eq_getElem?_getD]
theorem pre_ok {P L : List Nat} {ch : List (List Nat)} (hch : ChOk P ch) (hL : ∀ j, j < L.length → L.getD j 0 ∈ ch.getD j []) : ChOk P (pre L ch) := fun u g hg => by
  rw [pre_getD] at hg
  split at hg
  · next h => rw [List.mem_singleton.1 hg]; exact hch u _ (hL u h)
  · exact hch u g hg
theorem pre_snoc {L : List Nat} {ch : List (List Nat)} (h : L.length < ch.length) (g : Nat) : pre (L ++ [g]) ch = (pre L ch).set L.length [g] := by
  unfold pre
  rw [List.set_append_right _ _ (by simp), List.length_map, Nat.sub_self, List.map_append, List.append_assoc, List.length_append, List.length_singleton]
  congr 1
  rw [List.drop_eq_getElem_cons h]
  rfl
/-- What can still be assigned when the first ones are settled. -/
theorem can_pre {P L : List Nat} {ch : List (List Nat)} (hl : L.length ≤ ch.length) : Can P (pre L ch) ↔ ∃ a : List Nat, a.length = ch.length ∧ a.take L.length = L ∧ (∀ u, L.length ≤ u → u < ch.length → a.getD u 0 ∈ ch.getD u []) ∧ ∀ g, a.count g ≤ P.getD g 0 := by
  constructor
  · rintro ⟨a, h1, h2, h3⟩
    rw [pre_len hl] at h1 h2
    refine ⟨a, h1, ?_, fun u hu hu2 => ?_, h3⟩
    · apply List.ext_getElem
      · rw [List.length_take]; omega
      · intro u hu hu2
        have := h2 u (by omega)
        rw [pre_getD, if_pos hu2, List.mem_singleton, at_eq (by omega), at_eq hu2] at this
        rw [List.getElem_take]; exact this
    · have := h2 u hu2
      rwa [pre_getD, if_neg (by omega)] at this
  · rintro ⟨a, h1, h2, h3, h4⟩
    refine ⟨a, ⟨by rw [pre_len hl]; exact h1, fun u hu => ?_, h4⟩⟩
    rw [pre_len hl] at hu
    rw [pre_getD]
    split
    · next h =>
      have e : L.getD u 0 = a.getD u 0 := by
        rw [List.getD_eq_getElem?_getD, List.getD_eq_getElem?_getD, ← h2, List.getElem?_take, if_pos h]
      rw [e]; simp
    · next h => exact h3 u (by omega) hu
theorem can_step {P L : List Nat} {ch : List (List Nat)} (hl : L.length < ch.length) (h : Can P (pre L ch)) : ∃ g ∈ ch.getD L.length [], Can P (pre (L ++ [g]) ch) := by
  obtain ⟨a, h1, h2, h3, h4⟩ := (can_pre (by omega)).1 h
  refine ⟨a.getD L.length 0, h3 _ (Nat.le_refl _) hl, (can_pre (by simp; omega)).2 ⟨a, h1, ?_, fun u hu hu2 => h3 u (by simp at hu; omega) hu2, h4⟩⟩
  rw [List.length_append, List.length_singleton, List.take_add_one, h2, List.getElem?_eq_getElem (by omega), at_eq (by omega)]; rfl
/-- What Assign knows behind the first uses. -/
structure AsI (P : List Nat) (ch : List (List Nat)) (L : List Nat) : Prop where
  len : L.length ≤ ch.length
  mem : ∀ j, j < L.length → L.getD j 0 ∈ ch.getD j []
  can : L ≠ [] → Can P (pre L ch)
  first : ∀ j, j < L.length → ∀ g ∈ ch.getD j [], g < L.getD j 0 → ¬ Can P (pre (L.take j ++ [g]) ch)
theorem AsI.nil (P : List Nat) (ch : List (List Nat)) : AsI P ch [] := ⟨Nat.zero_le _, fun _ h => absurd h (Nat.not_lt_zero _), fun h => absurd rfl h, fun _ h => absurd h (Nat.not_lt_zero _)⟩
theorem AsI.snoc {P : List Nat} {ch : List (List Nat)} {L : List Nat} (h : AsI P ch L) (hl : L.length < ch.length) {g : Nat} (hg : g ∈ ch.getD L.length []) (hc : Can P (pre (L ++ [g]) ch)) (hf : ∀ x ∈ ch.getD L.length [], x < g → ¬ Can P (pre (L ++ [x]) ch)) : AsI P ch (L ++ [g]) := by
  have e : ∀ j, j < (L ++ [g]).length → j < L.length ∨ j = L.length := fun j hj => by simp at hj; omega
  have ea : ∀ j, j < L.length → (L ++ [g]).getD j 0 = L.getD j 0 := fun j hj => by rw [List.getD_eq_getElem?_getD, List.getD_eq_getElem?_getD, List.getElem?_append_left hj]
  have eb : (L ++ [g]).getD L.length 0 = g := by rw [List.getD_eq_getElem?_getD, List.getElem?_append_right (Nat.le_refl _)]; simp
  refine ⟨by simp; omega, fun j hj => ?_, fun _ => hc, fun j hj x hx hlt => ?_⟩
  · rcases e j hj with h1 | h1
    · rw [ea j h1]; exact h.mem j h1
    · rw [h1, eb]; exact hg
  · rcases e j hj with h1 | h1
    · rw [ea j h1] at hlt
      rw [List.take_append_of_le_length (by omega)]
      exact h.first j h1 x hx hlt
    · subst h1
      rw [eb] at hlt
      rw [List.take_left]
      exact hf x hx hlt
theorem AsI.fails {P : List Nat} {ch : List (List Nat)} {L : List Nat} (h : AsI P ch L) (hl : L.length < ch.length) (hf : ∀ x ∈ ch.getD L.length [], ¬ Can P (pre (L ++ [x]) ch)) : ¬ Can P ch := fun hc => by
  have h1 : Can P (pre L ch) := by
    by_cases he : L = []
    · rw [he, pre_nil]; exact hc
    · exact h.can he
  obtain ⟨g, hg, h2⟩ := can_step hl h1
  exact hf g hg h2
/-- The first assignment. -/
structure FirstAs (P : List Nat) (ch : List (List Nat)) (L : List Nat) : Prop where
  is : IsAs P ch L
  first : ∀ j, j < L.length → ∀ g ∈ ch.getD j [], g < L.getD j 0 → ¬ Can P (pre (L.take j ++ [g]) ch)
theorem AsI.done {P : List Nat} {ch : List (List Nat)} {L : List Nat} (h : AsI P ch L) (hl : L.length = ch.length) : FirstAs P ch L := by
  refine ⟨⟨hl, fun u hu => h.mem u (by omega), fun g => ?_⟩, h.first⟩
  by_cases he : L = []
  · subst he; exact Nat.zero_le _
  · obtain ⟨a, h1, h2, _, h4⟩ := (can_pre (by omega)).1 (h.can he)
    rw [List.take_of_length_le (by omega)] at h2
    rw [← h2]; exact h4 g
end Go.Proofs.Ytenojfniknjeiaa
