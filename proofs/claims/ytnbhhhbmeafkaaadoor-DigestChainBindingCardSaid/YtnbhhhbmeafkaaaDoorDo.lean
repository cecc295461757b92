/- Contracts of Collect over forks, and of Reverse of a row of forks. -/
import Derived.Test.YtnbhhhbmeafkaaaDoorDn
import Derived.BigRegion
namespace Go.Proofs.YtnbhhhbmeafkaaaDoor
open Go.RowKit

def FkRow (fs : List Dm.Fk) (base : Nat) (w : World) (e : Ending) (w' : World) : Prop := ∃ v, e = .returned v ∧ w'.ownsRow base 57 4 v fs.length (fkCells fs) ∧ Below w.heap.size w w'

set_option maxHeartbeats 400000 in
theorem collect_in (n i Bn Bi : Nat) (hn : n ≤ 9223372036854775807) (hi : i ≤ 9223372036854775807) (w : World) (rn : Row w Bn 3 #[.int .i64 (n : Int)]) (ri : Row w Bi 3 #[.int .i64 (i : Int)]) :
    Calls Tryd.prog 51 #[.func (.func 62) #[] #[.pointer (some ⟨Bn, 0, none⟩), .pointer (some ⟨Bi, 0, none⟩)]] w (FkRow (Dm.forks 64 0 n i) w.heap.size w) := by
  have H := Lib.hid (appendSeq_in n i Bn Bi hn hi w rn ri)
  go_enter Tryd.func51, Tryd.ntmps51
  go_wp2_with (go_at_call 66; refine H.out.mono ?_; rintro e w' ⟨v, rfl, h1, h2⟩)
  go_ret
  exact ⟨v, rfl, h1, h2⟩

def fkRowA (fs : List Dm.Fk) (rest : List Value) : Array Value := (fkCells fs ++ rest).toArray
theorem fkCells_get (fs : List Dm.Fk) (k r : Nat) (hr : r < 4) (h : k < fs.length) : (fkCells fs)[4 * k + r]? = ([.int .i64 (fs[k].fr : Int), .int .i64 (fs[k].mid : Int), .int .i64 (fs[k].to : Int), .bool fs[k].sec] : List Value)[r]? := by
  induction fs generalizing k with
  | nil => simp at h
  | cons f fs ih =>
    have e : fkCells (f :: fs) = [.int .i64 (f.fr : Int), .int .i64 (f.mid : Int), .int .i64 (f.to : Int), .bool f.sec] ++ fkCells fs := by simp [fkCells]
    cases k with
    | zero => rw [e, List.getElem?_append_left (by simp; omega)]; simp
    | succ k =>
      rw [e, List.getElem?_append_right (by simp; omega)]
      have := ih k (by simp at h; omega)
      simp only [List.length_cons, List.length_nil, List.getElem_cons_succ]
      rw [← this]; congr 1; omega
theorem fkRowA_get (fs : List Dm.Fk) (rest : List Value) (k r : Nat) (hr : r < 4) (h : k < fs.length) : (fkRowA fs rest)[4 * k + r]? = ([.int .i64 (fs[k].fr : Int), .int .i64 (fs[k].mid : Int), .int .i64 (fs[k].to : Int), .bool fs[k].sec] : List Value)[r]? := by
  unfold fkRowA
  rw [List.getElem?_toArray, List.getElem?_append_left (by rw [fkCells_len]; omega)]
  exact fkCells_get fs k r hr h
theorem fkCells_set (fs : List Dm.Fk) (k : Nat) (f : Dm.Fk) (h : k < fs.length) :
    ((((fkCells fs).set (4 * k) (.int .i64 (f.fr : Int))).set (4 * k + 1) (.int .i64 (f.mid : Int))).set (4 * k + 2) (.int .i64 (f.to : Int))).set (4 * k + 3) (.bool f.sec) = fkCells (fs.set k f) := by
  induction fs generalizing k with
  | nil => simp at h
  | cons x fs ih =>
    have e : ∀ (y : Dm.Fk) (ys : List Dm.Fk), fkCells (y :: ys) = .int .i64 (y.fr : Int) :: .int .i64 (y.mid : Int) :: .int .i64 (y.to : Int) :: .bool y.sec :: fkCells ys := by intro y ys; simp [fkCells]
    cases k with
    | zero => simp [e]
    | succ k =>
      rw [List.set_cons_succ, e, e, ← ih k (by simp at h; omega)]
      have a : 4 * (k + 1) = 4 * k + 4 := by omega
      rw [a]
      rfl
theorem fkRowA_set (fs : List Dm.Fk) (rest : List Value) (k : Nat) (f : Dm.Fk) (h : k < fs.length) :
    ((((fkRowA fs rest).setIfInBounds (4 * k) (.int .i64 (f.fr : Int))).setIfInBounds (4 * k + 1) (.int .i64 (f.mid : Int))).setIfInBounds (4 * k + 2) (.int .i64 (f.to : Int))).setIfInBounds (4 * k + 3) (.bool f.sec) = fkRowA (fs.set k f) rest := by
  unfold fkRowA
  rw [← fkCells_set fs k f h]
  simp only [List.setIfInBounds_toArray]
  have hl : 4 * k + 3 < (fkCells fs).length := by rw [fkCells_len]; omega
  rw [List.set_append_left _ _ (by omega), List.set_append_left _ _ (by simp; omega), List.set_append_left _ _ (by simp; omega), List.set_append_left _ _ (by simp; omega)]

/-- The list after k exchanges from the two ends inward. -/
def rev (fs : List Dm.Fk) (k : Nat) : List Dm.Fk := (List.range fs.length).map fun t => if t < k ∨ fs.length - k ≤ t then fs.getD (fs.length - 1 - t) ⟨0, 0, 0, false⟩ else fs.getD t ⟨0, 0, 0, false⟩
theorem rev_len (fs : List Dm.Fk) (k : Nat) : (rev fs k).length = fs.length := by simp [rev]
theorem rev_at (fs : List Dm.Fk) (k t : Nat) (h : t < fs.length) : (rev fs k)[t]? = some (if t < k ∨ fs.length - k ≤ t then fs.getD (fs.length - 1 - t) ⟨0, 0, 0, false⟩ else fs.getD t ⟨0, 0, 0, false⟩) := by
  simp [rev, List.getElem?_map, List.getElem?_range h]
theorem rev_0 (fs : List Dm.Fk) : rev fs 0 = fs := by
  apply List.ext_getElem?
  intro t
  by_cases h : t < fs.length
  · rw [rev_at fs 0 t h, if_neg (by omega), List.getD_eq_getElem?_getD, List.getElem?_eq_getElem h]; rfl
  · rw [List.getElem?_eq_none (by rw [rev_len]; omega), List.getElem?_eq_none (by omega)]
theorem rev_end (fs : List Dm.Fk) (k : Nat) (h : fs.length - 1 - k ≤ k) : rev fs k = fs.reverse := by
  apply List.ext_getElem?
  intro t
  by_cases ht : t < fs.length
  · rw [rev_at fs k t ht, List.getElem?_reverse ht, List.getElem?_eq_getElem (by omega)]
    by_cases hc : t < k ∨ fs.length - k ≤ t
    · rw [if_pos hc, List.getD_eq_getElem?_getD, List.getElem?_eq_getElem (by omega)]; rfl
    · rw [if_neg hc]
      have e : fs.length - 1 - t = t := by omega
      rw [List.getD_eq_getElem?_getD, List.getElem?_eq_getElem ht]
      simp [e]
  · rw [List.getElem?_eq_none (by rw [rev_len]; omega), List.getElem?_eq_none (by simp; omega)]
theorem rev_step (fs : List Dm.Fk) (k : Nat) (h : k < fs.length - 1 - k) : ((rev fs k).set k (fs.getD (fs.length - 1 - k) ⟨0, 0, 0, false⟩)).set (fs.length - 1 - k) (fs.getD k ⟨0, 0, 0, false⟩) = rev fs (k + 1) := by
  apply List.ext_getElem?
  intro t
  by_cases ht : t < fs.length
  · rw [rev_at fs (k + 1) t ht, List.getElem?_set, List.getElem?_set, List.length_set, rev_len]
    by_cases h1 : fs.length - 1 - k = t
    · rw [if_pos h1, if_pos (by omega), if_pos (by omega), show fs.length - 1 - t = k from by omega]
    · rw [if_neg h1]
      by_cases h2 : k = t
      · rw [if_pos h2, if_pos (by omega), if_pos (by omega), h2]
      · rw [if_neg h2, rev_at fs k t ht]
        by_cases h3 : t < k ∨ fs.length - k ≤ t
        · rw [if_pos h3, if_pos (by omega)]
        · rw [if_neg h3, if_neg (by omega)]
  · rw [List.getElem?_eq_none (by simp [rev_len]; omega), List.getElem?_eq_none (by rw [rev_len]; omega)]
end Go.Proofs.YtnbhhhbmeafkaaaDoor
