/- Plain mathematics of layer 2: forks, roots, proofs and extensions of lists of strings. No program is named here. -/
import Derived.Test.YtnbhhhbmeafkaaaDoorDm
namespace Go.Proofs.YtnbhhhbmeafkaaaDoor
namespace Dm

/-- The greatest power of two less than n, which is at least 2. -/
def lft (n : Nat) : Nat := 2 ^ Nat.log2 (n - 1)
theorem lft_pos (n : Nat) : 0 < lft n := Nat.two_pow_pos _
theorem lft_lt (n : Nat) (h : 2 ≤ n) : lft n < n := by
  have := Nat.log2_self_le (n := n - 1) (by omega)
  unfold lft; omega
theorem lft_half (n : Nat) (h : 2 ≤ n) : n ≤ 2 * lft n := by
  have := Nat.lt_log2_self (n := n - 1)
  unfold lft; rw [Nat.pow_succ] at this; omega
theorem lft_le (n k : Nat) (h : 2 ≤ n) (hk : n ≤ 2 ^ (k + 1)) : lft n ≤ 2 ^ k := by
  unfold lft
  refine Nat.pow_le_pow_right (by decide) ?_
  have : Nat.log2 (n - 1) < k + 1 := (Nat.log2_lt (by omega)).2 (by omega)
  omega
theorem lft_rest (n k : Nat) (h : 2 ≤ n) (hk : n ≤ 2 ^ (k + 1)) : n - lft n ≤ 2 ^ k := by
  have := lft_half n h
  have := lft_le n k h hk
  omega

structure Fk where
  (fr mid to : Nat)
  (sec : Bool)
/-- The parts on the way down to the entry i, k of them at most. -/
def forks : Nat → Nat → Nat → Nat → List Fk
  | 0, _, _, _ => []
  | k + 1, fr, to, i => if to - fr ≤ 1 then [] else
      ⟨fr, fr + lft (to - fr), to, decide (fr + lft (to - fr) ≤ i)⟩ :: (if fr + lft (to - fr) ≤ i then forks k (fr + lft (to - fr)) to i else forks k fr (fr + lft (to - fr)) i)
theorem forks_len : ∀ (k fr to i : Nat), (forks k fr to i).length ≤ k
  | 0, _, _, _ => by simp [forks]
  | k + 1, fr, to, i => by
    unfold forks
    split
    · simp
    · simp only [List.length_cons]
      split
      · have := forks_len k (fr + lft (to - fr)) to i; omega
      · have := forks_len k fr (fr + lft (to - fr)) i; omega

def leaf (s : List UInt8) : List UInt8 := sha (0 :: s)
def node (a b : List UInt8) : List UInt8 := sha (1 :: (a ++ b))
def chain (h r : List UInt8) : List UInt8 := sha (2 :: (h ++ r))
def rootF : Nat → List (List UInt8) → List UInt8
  | 0, _ => sha []
  | k + 1, l => match l with
    | [] => sha []
    | [s] => leaf s
    | l => node (rootF k (l.take (lft l.length))) (rootF k (l.drop (lft l.length)))
def root (l : List (List UInt8)) : List UInt8 := rootF l.length l
theorem rootF_nil (k : Nat) : rootF k [] = sha [] := by cases k <;> rfl
theorem rootF_one (k : Nat) (s : List UInt8) : rootF (k + 1) [s] = leaf s := rfl
theorem rootF_two (k : Nat) (l : List (List UInt8)) (h : 2 ≤ l.length) : rootF (k + 1) l = node (rootF k (l.take (lft l.length))) (rootF k (l.drop (lft l.length))) := by
  match l, h with
  | a :: b :: l, _ => rfl
theorem rootF_fuel (k : Nat) : ∀ (l : List (List UInt8)) (j : Nat), l.length ≤ k → l.length ≤ j → rootF k l = rootF j l := by
  induction k with
  | zero => intro l j h _; obtain rfl := List.eq_nil_of_length_eq_zero (by omega : l.length = 0); rw [rootF_nil, rootF_nil]
  | succ k ih =>
    intro l j h hj
    match l, h, hj with
    | [], _, _ => rw [rootF_nil, rootF_nil]
    | [s], _, hj => obtain ⟨j, rfl⟩ : ∃ i, j = i + 1 := ⟨j - 1, by simp at hj; omega⟩; rw [rootF_one, rootF_one]
    | a :: b :: l, h, hj =>
      obtain ⟨j, rfl⟩ : ∃ i, j = i + 1 := ⟨j - 1, by simp at hj; omega⟩
      have h2 : 2 ≤ (a :: b :: l).length := by simp
      have h3 := lft_lt _ h2
      have h4 := lft_pos (a :: b :: l).length
      rw [rootF_two _ _ h2, rootF_two _ _ h2, ih _ j (by rw [List.length_take]; omega) (by rw [List.length_take]; omega), ih _ j (by rw [List.length_drop]; omega) (by rw [List.length_drop]; omega)]
theorem root_nil : root [] = sha [] := rfl
theorem root_one (s : List UInt8) : root [s] = leaf s := rfl
theorem root_two (l : List (List UInt8)) (h : 2 ≤ l.length) : root l = node (root (l.take (lft l.length))) (root (l.drop (lft l.length))) := by
  have h3 := lft_lt _ h
  have h4 := lft_pos l.length
  obtain ⟨k, hk⟩ : ∃ k, l.length = k + 1 := ⟨l.length - 1, by omega⟩
  unfold root
  rw [rootF_fuel l.length l (k + 1) (Nat.le_refl _) (by omega), rootF_two _ _ h, rootF_fuel k _ (l.take (lft l.length)).length (by rw [List.length_take]; omega) (Nat.le_refl _),
    rootF_fuel k _ (l.drop (lft l.length)).length (by rw [List.length_drop]; omega) (Nat.le_refl _)]
theorem leaf_len (s : List UInt8) : (leaf s).length = 32 := sha_len _
theorem node_len (a b : List UInt8) : (node a b).length = 32 := sha_len _
theorem root_len (l : List (List UInt8)) : (root l).length = 32 := by
  match l with
  | [] => rw [root_nil, sha_len]
  | [s] => rw [root_one, leaf_len]
  | a :: b :: l => rw [root_two _ (by simp), node_len]

def Fk.other (f : Fk) (l : List (List UInt8)) : List (List UInt8) := if f.sec then (l.drop f.fr).take (f.mid - f.fr) else (l.drop f.mid).take (f.to - f.mid)
def Fk.join (f : Fk) (here x : List UInt8) : List UInt8 := if f.sec then node x here else node here x
def proof (l : List (List UInt8)) (i : Nat) : List (List UInt8) := ((forks 64 0 l.length i).map fun f => root (f.other l)).reverse
def digs (l : List (List UInt8)) : Bool := l.all fun s => s.length == 32
def climb (fs : List Fk) (xs : List (List UInt8)) (v : List UInt8) : List UInt8 := (fs.zip xs).foldl (fun v p => p.1.join v p.2) v
end Dm
end Go.Proofs.YtnbhhhbmeafkaaaDoor
