/- The lengths of an item: their symmetry. -/
import Derived.Test.YtnmhigjannihgaaKq
namespace Go.Proofs.Ytnmhigjannihgaa
open Go.RowKit Go.Shelf

theorem flip_bit : ∀ (z : Fin 16) (k : Fin 4), (15 - z.val).testBit k.val = !z.val.testBit k.val := by decide +kernel
theorem sum_add {α : Type} (f g h : α → Int) : ∀ (l : List α), (∀ x ∈ l, f x + g x = h x) → (l.map f).sum + (l.map g).sum = (l.map h).sum
  | [], _ => rfl
  | x :: l, e => by
    rw [List.map_cons, List.map_cons, List.map_cons, List.sum_cons, List.sum_cons, List.sum_cons]
    have h1 := e x (by simp)
    have h2 := sum_add f g h l (fun y hy => e y (by simp [hy]))
    omega
theorem tot_flip {trims : List (Int × Int)} (h4 : trims.length ≤ 4) {z : Nat} (hz : z < 16) : tot (goneL trims (bitsL trims.length z)) + tot (goneL trims (bitsL trims.length (15 - z))) = tot trims := by
  have h1 := tot_bits trims trims.length z (Nat.le_refl _)
  have h2 := tot_bits trims trims.length (15 - z) (Nat.le_refl _)
  have h3 := tot_bits trims trims.length 15 (Nat.le_refl _)
  rw [gone_all h4] at h3
  rw [h1, h2, h3]
  refine sum_add _ _ _ _ (fun k hk => ?_)
  have hk4 : k < 4 := by have := List.mem_range.1 hk; omega
  have hb : Nat.testBit 15 k = true := by
    have : k = 0 ∨ k = 1 ∨ k = 2 ∨ k = 3 := by omega
    rcases this with rfl | rfl | rfl | rfl <;> rfl
  have hf := flip_bit ⟨z, hz⟩ ⟨k, hk4⟩
  dsimp only at hf
  rw [hb, hf]
  cases z.testBit k <;> simp
theorem lenI_bits {i : ItemP} {z : Nat} {G : List (Int × Int)} {n : Int} (hf : CutF i z G n) : lenI i (bitsL i.trims.length z) = n := by unfold lenI; rw [hf.length]
theorem cutF_n {i : ItemP} {z : Nat} {G : List (Int × Int)} {n : Int} (hf : CutF i z G n) : n = i.len - tot (goneL i.trims (bitsL i.trims.length z)) := by
  rw [← hf.nn, bef_len hf.p, hf.gl]
/-- What ItemLengths looks at. -/
structure LenF (i : ItemP) (L : List Int) (n rest least : Int) : Prop where
  asc : Asc L
  ne : 0 < L.length
  first : L[0]? = some least
  last : L[L.length - 1]? = some i.len
  two : n + rest = least + i.len
  lo : 1 ≤ least
  mir : ∀ (k : Nat) (x y : Int), L[k]? = some x → L[L.length - 1 - k]? = some y → x + y = least + i.len
  bd : ∀ x ∈ L, 1 ≤ x ∧ x ≤ i.len
  c : (n = rest → cnt2 n rest L = 1) ∧ (n ≠ rest → cnt2 n rest L = 2)
theorem lens_mem {i : ItemP} (h : OkItem i) {z : Nat} {G : List (Int × Int)} {n : Int} (hz : z < 16) (hf : CutF i z G n) : n ∈ lensV i := by
  unfold lensV
  rw [(validI_iff i).2 h, if_pos rfl, sortC_mem, List.mem_map]
  exact ⟨_, bits_mem h.n1 hz, lenI_bits hf⟩
theorem lens_inv {i : ItemP} (h : OkItem i) {x : Int} (hx : x ∈ lensV i) : ∃ (z : Nat) (G : List (Int × Int)), z < 16 ∧ CutF i z G x := by
  unfold lensV at hx
  rw [(validI_iff i).2 h, if_pos rfl, sortC_mem, List.mem_map] at hx
  obtain ⟨c, hc, rfl⟩ := hx
  obtain ⟨s, hs⟩ := cuts_bits ⟨i.trims.length, by have := h.n1; omega⟩ c hc
  dsimp only at hs
  obtain ⟨G, n, hf⟩ := cutF_of h s.isLt
  refine ⟨s.val, G, s.isLt, ?_⟩
  have := lenI_bits hf
  rw [hs] at this
  rw [this]; exact hf
theorem lenF_of {i : ItemP} (h : OkItem i) {z : Nat} (hz : z < 16) {G G2 G3 : List (Int × Int)} {n rest least : Int} (hf : CutF i z G n) (hf2 : CutF i (15 - z) G2 rest) (hf3 : CutF i 15 G3 least) : LenF i (lensV i) n rest least := by
  have hasc : Asc (lensV i) := by unfold lensV; rw [(validI_iff i).2 h, if_pos rfl]; exact sortC_asc _
  have hle : least = i.len - tot i.trims := by rw [cutF_n hf3, gone_all h.n1]
  have hsum : ∀ {z' : Nat} {G G' : List (Int × Int)} {a b : Int}, z' < 16 → CutF i z' G a → CutF i (15 - z') G' b → a + b = least + i.len := fun hz' ha hb => by
    have h1 := cutF_n ha; have h2 := cutF_n hb; have h3 := tot_flip h.n1 hz'
    omega
  have hmir : ∀ x ∈ lensV i, least + i.len - x ∈ lensV i := fun x hx => by
    obtain ⟨z', G', hz', hf'⟩ := lens_inv h hx
    obtain ⟨G4, b, hf4⟩ := cutF_of h (show 15 - z' < 16 by omega)
    have h1 := hsum hz' hf' hf4
    have h2 := lens_mem h (by omega) hf4
    rw [show least + i.len - x = b by omega]; exact h2
  have hm3 := lens_mem h (by omega) hf3
  have hbd : ∀ x ∈ lensV i, least ≤ x ∧ x ≤ i.len := fun x hx => by
    obtain ⟨z', G', hz', hf'⟩ := lens_inv h hx
    have h1 := cutF_n hf'; have h2 := tot_some h.p1 h.n1 z'
    have h3 := hf'.hi
    omega
  have hfirst := asc_first hasc hm3 (fun y hy => (hbd y hy).1)
  have hne : 0 < (lensV i).length := (List.getElem?_eq_some_iff.1 hfirst).1
  have hmm : ∀ (k : Nat) (x y : Int), (lensV i)[k]? = some x → (lensV i)[(lensV i).length - 1 - k]? = some y → x + y = least + i.len := fun k x y hx hy => by
    obtain ⟨h1, h2⟩ := List.getElem?_eq_some_iff.1 hx
    obtain ⟨h3, h4⟩ := List.getElem?_eq_some_iff.1 hy
    have := mirror_at hasc hmir h1
    rw [h2, h4] at this; exact this
  have hlast : (lensV i)[(lensV i).length - 1]? = some i.len := by
    have h1 : (lensV i)[(lensV i).length - 1]? = some ((lensV i)[(lensV i).length - 1]'(by omega)) := List.getElem?_eq_getElem _
    have h2 := hmm 0 _ _ hfirst (by rw [Nat.sub_zero]; exact h1)
    rw [h1, show (lensV i)[(lensV i).length - 1]'(by omega) = i.len by omega]
  refine ⟨hasc, hne, hfirst, hlast, hsum hz hf hf2, hf3.lo, hmm, fun x hx => ⟨by have := hbd x hx; have := hf3.lo; omega, (hbd x hx).2⟩, ?_, ?_⟩
  · rintro rfl
    exact cnt2_one hasc (lens_mem h hz hf)
  · intro hn
    rcases Int.lt_or_le n rest with c | c
    · exact cnt2_two c hasc (lens_mem h hz hf) (lens_mem h (by omega) hf2)
    · rw [cnt2_swap]
      exact cnt2_two (by omega) hasc (lens_mem h (by omega) hf2) (lens_mem h hz hf)
theorem cnt2_snoc {l : List Int} {k : Nat} {x : Int} (a b : Int) (h : l[k]? = some x) : cnt2 a b (l.take (k + 1)) = cnt2 a b (l.take k) + (if x = a ∨ x = b then 1 else 0) := by
  rw [List.take_add_one, h]
  unfold cnt2
  rw [List.filter_append, List.length_append]
  congr 1
  by_cases h1 : x = a
  · simp [h1]
  · by_cases h2 : x = b
    · simp [h2]
    · simp [h1, h2]
theorem cnt2_le (a b : Int) (l : List Int) : cnt2 a b l ≤ l.length := List.length_filter_le _ _
end Go.Proofs.Ytnmhigjannihgaa
