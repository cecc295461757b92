/- Words for the reference's block: rows of words that grow; the constants; rotations that draw. -/
import Derived.Test.YtnbhhhbmeafkaaaDoorL6
import Derived.StillTailTactics
import Derived.Deep.QuietTactic
import Derived.BigQuiet
namespace Go.Proofs.YtnbhhhbmeafkaaaDoor
open Go.RowKit
attribute [local go_sem ↓] append_appN

def wordCells (l : List Nat) : List Value := l.map fun (x : Nat) => Value.int .u32 (x : Int)
theorem wordCells_len (l : List Nat) : (wordCells l).length = l.length := by simp [wordCells]
theorem wordCells_snoc (l : List Nat) (x : Nat) : wordCells (l ++ [x]) = wordCells l ++ [.int .u32 (x : Int)] := by simp [wordCells]
theorem wordCells_get (l : List Nat) (i : Nat) (h : i < l.length) : (wordCells l)[i]? = some (.int .u32 ((l.getD i 0 : Nat) : Int)) := by
  simp [wordCells, List.getElem?_eq_getElem h]
theorem snoc_u32 {w w1 : World} {v : Value} {l : List Nat} {n : Nat} {b : Nat} {i0 : TypeInfo} (hi0 : Tryd.prog.info? 48 = some i0) (hz0 : i0.zero = some (.int .u32 0)) (hz1 : i0.size = 1) (hz2 : i0.bytes = 4)
    (hrow : w1.ownsRow w.heap.size 48 1 v n (wordCells l)) (hb : Below w.heap.size w w1) (hn : n ≤ 100000) :
    ∃ v' w', Sem.run Tryd.prog (appN #[49, 49] 49 #[v, .slice (some ⟨w1.heap.size, 0, none⟩) 1 1]) (w1.alloc (.cells #[.int .u32 (b : Int)] 48)) = .ok v' w' ∧
      w'.ownsRow w.heap.size 48 1 v' (n + 1) (wordCells (l ++ [b])) ∧ Below w.heap.size w w' := by
  obtain ⟨v', w', hrun, hown, hgr, _⟩ := run_append_own (P := Tryd.prog) (w1.alloc (.cells #[.int .u32 (b : Int)] 48)) w.heap.size 49 49 48 i0 (.int .u32 0) 1 4 Tryd.underlying49 hi0 hz0 hz1 hz2 rfl (by decide)
    v n _ (hrow.alloc _) ⟨w1.heap.size, 0, none⟩ 1 1 [.int .u32 (b : Int)] rfl (fun j u h => cell_one_new _ _ _ j u h) (by simp [Value.oneCell']) (by unfold maxLen; omega) (by omega) (by have := hb.size; simp; omega)
  refine ⟨v', w', hrun, ?_, below_grown hb hb.size hrow (Below.refl _ _) hgr⟩
  rw [wordCells_snoc]; exact hown
/-- A cell of a row of words. -/
theorem word_cell {w : World} {base g n c : Nat} {l : List Nat} (h : w.ownsRow base 48 1 (.slice (some ⟨g, 0, none⟩) n c) n (wordCells l)) (i : Nat) (hi : i < n) : w.cell? ⟨g, i, none⟩ = some (.int .u32 ((l.getD i 0 : Nat) : Int)) := by
  have hl : l.length = n := by have := h.1; rwa [wordCells_len, Nat.mul_one] at this
  rw [h.cellAt i (by omega), wordCells_get l i (by omega)]
theorem word_slice {w : World} {base n : Nat} {v : Value} {xs : List Value} (h : w.ownsRow base 48 1 v n xs) (h0 : 0 < n) : ∃ g c, v = .slice (some ⟨g, 0, none⟩) n c ∧ g < w.heap.size ∧ base ≤ g ∧ n ≤ c ∧ c ≤ maxLen := by
  rcases h.2 with ⟨_, h1⟩ | ⟨g, cap, cur, e2, h1, h2, h3, h4, _⟩
  · omega
  · exact ⟨g, cap, e2, (Array.getElem?_eq_some_iff.1 h2).1, h1, h3, h4⟩
theorem refRot_q (x n : Nat) (w : World) (m : Nat) (hx : x < 4294967296) (h1 : 1 ≤ n) (h2 : n ≤ 31) :
    Calls Tryd.prog 60 #[.int .u32 (x : Int), .int .i64 (n : Int)] (w.drewN m) fun e w' => e = .returned (.int .u32 (Dm.rotr x n : Nat)) ∧ ∃ d, w' = w.drewN d :=
  Calls.quiet_of (refRot_any x n _ hx h1 h2)

set_option maxRecDepth 100000 in
set_option maxHeartbeats 1000000 in
theorem constants_any (w : World) :
    Calls Tryd.prog 61 #[] w fun e w' => e = .returned (.slice (some ⟨w.heap.size, 0, none⟩) 64 64) ∧ w' = w.alloc (.cells (u32row Dm.K) 48) := by
  go_enter Tryd.func61, Tryd.ntmps61
  go_wp2
  go_ret
  exact ⟨rfl, rfl⟩
end Go.Proofs.YtnbhhhbmeafkaaaDoor
