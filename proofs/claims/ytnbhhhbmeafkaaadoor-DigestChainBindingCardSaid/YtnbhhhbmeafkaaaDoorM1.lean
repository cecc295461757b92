/- Plain mathematics of layer 2: the proof of an entry leads to the root; its length. -/
import Derived.Test.YtnbhhhbmeafkaaaDoorDt
namespace Go.Proofs.YtnbhhhbmeafkaaaDoor
namespace Dm

theorem lft_uniq (x j : Nat) (h1 : 2 ^ j < x) (h2 : x ≤ 2 ^ (j + 1)) : lft x = 2 ^ j := by
  have hx : 2 ≤ x := by have := Nat.two_pow_pos j; omega
  have a := lft_le x j hx h2
  have b := lft_half x hx
  have : Nat.log2 (x - 1) = j := by
    have h3 : j ≤ Nat.log2 (x - 1) := (Nat.le_log2 (by omega)).2 (by omega)
    have h4 : Nat.log2 (x - 1) < j + 1 := (Nat.log2_lt (by omega)).2 (by omega)
    omega
  unfold lft; rw [this]
theorem lft_same (x y : Nat) (h0 : 2 ≤ y) (h1 : lft y < x) (h2 : x ≤ y) : lft x = lft y := by
  have h3 := lft_half y h0
  have h4 : lft x = 2 ^ Nat.log2 (y - 1) := lft_uniq x (Nat.log2 (y - 1)) h1 (by rw [Nat.pow_succ]; unfold lft at h3; omega)
  exact h4
theorem forks_len2 : ∀ (k j fr to i : Nat), to - fr ≤ 2 ^ k → (forks j fr to i).length ≤ k
  | k, 0, fr, to, i, _ => by simp [forks]
  | 0, j + 1, fr, to, i, h => by
    have : to - fr ≤ 1 := by simpa using h
    unfold forks; rw [if_pos this]; simp
  | k + 1, j + 1, fr, to, i, h => by
    unfold forks
    by_cases h1 : to - fr ≤ 1
    · rw [if_pos h1]; simp
    · rw [if_neg h1, List.length_cons]
      have h2 := lft_le (to - fr) k (by omega) h
      have h3 := lft_rest (to - fr) k (by omega) h
      have h4 := lft_lt (to - fr) (by omega)
      split
      · have := forks_len2 k j (fr + lft (to - fr)) to i (by omega); omega
      · have := forks_len2 k j fr (fr + lft (to - fr)) i (by omega); omega
/-- The number of binary digits. -/
def bin (n : Nat) : Nat := if n = 0 then 0 else Nat.log2 n + 1
theorem lt_bin (n : Nat) : n < 2 ^ bin n := by
  unfold bin
  split
  · rename_i h; subst h; decide
  · exact Nat.lt_log2_self
theorem bin_div (n : Nat) (h : n ≠ 0) : bin n = bin (n / 2) + 1 := by
  unfold bin
  rw [if_neg h]
  by_cases h2 : n / 2 = 0
  · rw [if_pos h2]
    have : n = 1 := by omega
    subst this; rfl
  · rw [if_neg h2, Nat.log2_def n, if_pos (by omega)]
theorem forks_bin (n i : Nat) : (forks 64 0 n i).length ≤ bin n := forks_len2 (bin n) 64 0 n i (by have := lt_bin n; omega)

theorem zip_map_foldl {α β γ : Type} (g : α → β) (f : γ → α → β → γ) : ∀ (l : List α) (v : γ), (l.zip (l.map g)).foldl (fun v p => f v p.1 p.2) v = l.foldl (fun v a => f v a (g a)) v
  | [], v => rfl
  | a :: l, v => by rw [List.map_cons, List.zip_cons_cons, List.foldl_cons, List.foldl_cons, zip_map_foldl g f l]
theorem climb_map (fs : List Fk) (g : Fk → List UInt8) (v : List UInt8) : climb fs.reverse (fs.reverse.map g) v = fs.foldr (fun f v => f.join v (g f)) v := by
  have h := zip_map_foldl g (fun (v : List UInt8) (f : Fk) (x : List UInt8) => f.join v x) fs.reverse v
  unfold climb
  rw [h, List.foldl_reverse]
theorem part_two (l : List (List UInt8)) (fr to : Nat) (h2 : 2 ≤ to - fr) (hl : to ≤ l.length) :
    root ((l.drop fr).take (to - fr)) = node (root ((l.drop fr).take (lft (to - fr)))) (root ((l.drop (fr + lft (to - fr))).take (to - (fr + lft (to - fr))))) := by
  have hlen : ((l.drop fr).take (to - fr)).length = to - fr := by rw [List.length_take, List.length_drop]; omega
  have h3 := lft_lt (to - fr) h2
  rw [root_two _ (by omega), hlen, List.take_take, List.drop_take, List.drop_drop]
  rw [Nat.min_eq_left (by omega), show to - fr - lft (to - fr) = to - (fr + lft (to - fr)) by omega]
theorem part_one (l : List (List UInt8)) (i : Nat) (h : i < l.length) : (l.drop i).take 1 = [l.getD i []] := by
  rw [List.drop_eq_getElem_cons h, List.take_succ_cons, List.take_zero]
  simp [List.getElem?_eq_getElem h]
theorem fold_root (l : List (List UInt8)) : ∀ (k fr to i : Nat), to - fr ≤ 2 ^ k → fr ≤ i → i < to → to ≤ l.length →
    (forks k fr to i).foldr (fun f v => f.join v (root (f.other l))) (leaf (l.getD i [])) = root ((l.drop fr).take (to - fr))
  | 0, fr, to, i, h, h1, h2, h3 => by
    have h4 : to - fr ≤ 1 := by simpa using h
    obtain rfl : i = fr := by omega
    rw [show to - i = 1 by omega, part_one l i (by omega), root_one]; rfl
  | k + 1, fr, to, i, h, h1, h2, h3 => by
    unfold forks
    by_cases h4 : to - fr ≤ 1
    · obtain rfl : i = fr := by omega
      rw [if_pos h4, show to - i = 1 by omega, part_one l i (by omega), root_one]; rfl
    · have h5 := lft_le (to - fr) k (by omega) h
      have h6 := lft_rest (to - fr) k (by omega) h
      have h7 := lft_lt (to - fr) (by omega)
      have h8 := lft_pos (to - fr)
      rw [if_neg h4, List.foldr_cons, part_two l fr to (by omega) h3]
      by_cases h9 : fr + lft (to - fr) ≤ i
      · rw [if_pos h9, fold_root l k _ to i (by omega) h9 h2 h3]
        unfold Fk.join Fk.other
        dsimp only
        rw [if_pos (by simpa using h9), if_pos (by simpa using h9), show fr + lft (to - fr) - fr = lft (to - fr) by omega]
      · rw [if_neg h9, fold_root l k fr _ i (by omega) h1 (by omega) (by omega)]
        unfold Fk.join Fk.other
        dsimp only
        rw [if_neg (by simpa using h9), if_neg (by simpa using h9), show fr + lft (to - fr) - fr = lft (to - fr) by omega]
theorem proof_climbs (l : List (List UInt8)) (i : Nat) (hi : i < l.length) (hn : l.length ≤ 2 ^ 64) : climb (forks 64 0 l.length i).reverse (proof l i) (leaf (l.getD i [])) = root l := by
  have h := climb_map (forks 64 0 l.length i) (fun f => root (f.other l)) (leaf (l.getD i []))
  unfold proof
  rw [← List.map_reverse, h, fold_root l 64 0 l.length i (by omega) (by omega) hi (Nat.le_refl _)]
  simp
theorem proof_digs (l : List (List UInt8)) (i : Nat) : digs (proof l i) = true := by
  unfold digs proof
  rw [List.all_eq_true]
  intro x hx
  rw [List.mem_reverse, List.mem_map] at hx
  obtain ⟨f, _, rfl⟩ := hx
  simp [root_len]
theorem proof_len (l : List (List UInt8)) (i : Nat) : (proof l i).length = (forks 64 0 l.length i).length := by simp [proof]
end Dm
end Go.Proofs.YtnbhhhbmeafkaaaDoor
