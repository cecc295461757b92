/- The sets below a number, one size after the other; a slice that is appended to in place stays readable. -/
import Derived.Test.YtenojfniknjeiaaHp
namespace Go.Proofs.Ytenojfniknjeiaa
open Go.RowKit

/-- The sets that begin with set and have m more elements, from first on. -/
def extL (n : Nat) : Nat → List Nat → Nat → List (List Nat)
  | 0, set, _ => [set]
  | m + 1, set, first => (List.range' first (n - m - first)).flatMap fun k => extL n m (set ++ [k]) (k + 1)
def setsL (n : Nat) : List (List Nat) := (List.range' 1 n).flatMap fun size => extL n size [] 0
theorem range_cons {k c : Nat} : List.range' k (c + 1) = k :: List.range' (k + 1) c := rfl
/-- An append to a row of one's own: the shorter slice stays one, as long as the longer one does. -/
theorem push_set {w : World} {B : Nat} {v : Value} {L : List Nat} (hv : OwnN w B v L) (hn : L.length ≤ 1000) (hB : B ≤ w.heap.size) (k : Int) (j : Nat) (hk : k = (j : Int)) :
    ∃ A c w', Sem.run Try.prog (appN #[26, 26] 26 #[v, .slice (some ⟨w.heap.size, 0, none⟩) 1 1]) (w.alloc (.cells #[.int .i64 k] 3)) = .ok (.slice A (L.length + 1) c) w' ∧
      OwnN w' B (.slice A (L.length + 1) c) (L ++ [j]) ∧ (w.alloc (.cells #[.int .i64 k] 3)).grownBy w' v.ownBlock ∧ ((Value.slice A (L.length + 1) c).ownBlock = v.ownBlock ∨ (Value.slice A (L.length + 1) c).ownBlock = some (w.heap.size + 1)) ∧ (∀ q, v.ownBlock = some q → (Value.slice A (L.length + 1) c).ownBlock ≠ some q → w'.heap[q]? = w.heap[q]?) ∧
      ∀ Y : World, OwnN Y B (.slice A (L.length + 1) c) (L ++ [j]) → (∀ q, v.ownBlock = some q → (Value.slice A (L.length + 1) c).ownBlock ≠ some q → Y.heap[q]? = w.heap[q]?) → OwnN Y B v L := by
  subst hk
  have e2 : iv1 (zi (L ++ [j])) = iv1 (zi L) ++ [Value.int .i64 (j : Int)] := by simp [iv1, zi]
  have hl : (iv1 (zi L)).length = L.length := by simp [iv1, zi]
  rcases hv.2 with ⟨rfl, h0⟩ | ⟨g, cap, cur, rfl, hBg, hh, h1, h2, h3, h4⟩
  · obtain ⟨A, c, w', hrun, hown, hgr, hloc⟩ := push_one (x := .int .i64 (j : Int)) (B := B) Try.underlying26 infoInt rfl rfl (by omega) hv (by omega) hB
    refine ⟨A, c, w', hrun, by unfold OwnN; rw [List.length_append, e2]; exact hown, hgr, hloc, (fun q e => by cases e), fun Y _ _ => ?_⟩
    have hL : L = [] := List.eq_nil_of_length_eq_zero h0
    subst hL
    exact World.ownsRow_nil _ _ _ _
  · by_cases hfit : L.length + 1 ≤ cap
    · obtain ⟨i0, hi0, hz0, hz1, hz2⟩ := info_parts infoInt
      have hnews : ∀ j' u, ([Value.int .i64 (j : Int)] : List Value)[j']? = some u → (w.alloc (.cells #[.int .i64 (j : Int)] 3)).cell? (Addr.add ⟨w.heap.size, 0, none⟩ j') = some u := fun j' u hj => by
        have hc := (Row.new w 3 #[.int .i64 (j : Int)]).cell j'
        have ha : Addr.add ⟨w.heap.size, 0, none⟩ j' = ⟨w.heap.size, j', none⟩ := by rw [Addr.add_lit, Nat.zero_add]
        rw [ha, hc]; simpa using hj
      have hva : (w.alloc (.cells #[.int .i64 (j : Int)] 3)).ownsRow B 3 1 (.slice (some ⟨g, 0, none⟩) L.length cap) L.length (iv1 (zi L)) := hv.alloc _
      obtain ⟨w', hrun, hown, hgr⟩ := run_append_fits (P := Try.prog) (w := w.alloc (.cells #[.int .i64 (j : Int)] 3)) B 26 26 3 i0 1 Try.underlying26 hi0 hz1 g L.length cap _ hva ⟨w.heap.size, 0, none⟩ 1 1 [.int .i64 (j : Int)] rfl hnews (fun u hu => by rw [List.mem_singleton.1 hu]; rfl) hfit
      refine ⟨some ⟨g, 0, none⟩, cap, w', hrun, by unfold OwnN; rw [List.length_append, e2]; exact hown, hgr, .inl rfl, (fun q e hne => absurd e hne), fun Y hY _ => ?_⟩
      obtain ⟨hY1, hY2⟩ := hY
      rcases hY2 with ⟨h5, _⟩ | ⟨g', cap', cur', h5, h6, h7, h8, h9, h10, h11⟩
      · cases h5
      · injection h5 with a1 a2 a3
        obtain rfl : g = g' := by injection a1 with a1; injection a1
        subst a3
        refine ⟨by simp [iv1, zi], .inr ⟨g, cap, cur', rfl, hBg, h7, h1, h2, h10, ?_⟩⟩
        have t2 : cur'.toList.take (L.length + 1) = iv1 (zi L) ++ [Value.int .i64 (j : Int)] := by
          rw [← e2, ← h11]; simp
        have t1 : cur'.toList.take L.length = (cur'.toList.take (L.length + 1)).take L.length := by
          rw [List.take_take]; congr 1; omega
        rw [Nat.mul_one, t1, t2, List.take_append_of_le_length (by omega), List.take_of_length_le (by omega)]
    · obtain ⟨i0, hi0, hz0, hz1, hz2⟩ := info_parts infoInt
      obtain ⟨A, c, w', hrun, hown, hgr, hloc⟩ := push_one (x := .int .i64 (j : Int)) (B := B) Try.underlying26 infoInt rfl rfl (by omega) hv (by omega) hB
      have hnews : ∀ j' u, ([Value.int .i64 (j : Int)] : List Value)[j']? = some u → (w.alloc (.cells #[.int .i64 (j : Int)] 3)).cell? (Addr.add ⟨w.heap.size, 0, none⟩ j') = some u := fun j' u hj => by
        have hc := (Row.new w 3 #[.int .i64 (j : Int)]).cell j'
        have ha : Addr.add ⟨w.heap.size, 0, none⟩ j' = ⟨w.heap.size, j', none⟩ := by rw [Addr.add_lit, Nat.zero_add]
        rw [ha, hc]; simpa using hj
      have hold : ∀ j' u, (iv1 (zi L))[j']? = some u → (w.alloc (.cells #[.int .i64 (j : Int)] 3)).cell? (Addr.add ⟨g, 0, none⟩ j') = some u := fun j' u hj => by
        have hjl := (List.getElem?_eq_some_iff.1 hj).1
        rw [hl] at hjl
        have hvo : w.ownsRow B 3 1 (.slice (some ⟨g, 0, none⟩) L.length cap) L.length (iv1 (zi L)) := hv
        have hc := hvo.cellAt j' (by omega)
        have ha : Addr.add ⟨g, 0, none⟩ j' = ⟨g, j', none⟩ := by rw [Addr.add_lit, Nat.zero_add]
        rw [ha]
        have hb : (w.alloc (.cells #[.int .i64 (j : Int)] 3)).cell? ⟨g, j', none⟩ = w.cell? ⟨g, j', none⟩ := World.cell?_of_block (a := ⟨g, j', none⟩) (Below.heap_alloc w _ g (Array.getElem?_eq_some_iff.1 hh).1)
        rw [hb, hc]; exact hj
      have hgw := run_append_grow (P := Try.prog) (w := w.alloc (.cells #[.int .i64 (j : Int)] 3)) 26 26 3 i0 (.int .i64 0) Try.underlying26 hi0 hz0 ⟨g, 0, none⟩ L.length cap (iv1 (zi L)) (by rw [hz1, hl, Nat.mul_one]) hold ⟨w.heap.size, 0, none⟩ 1 1 [.int .i64 (j : Int)] (by rw [hz1]; rfl) hnews (by omega) (by omega) (growslice_fits (by omega) (by rw [hz2]; omega))
      have he := hrun.symm.trans hgw
      injection he with he1 he2
      injection he1 with he3 he4 he5
      subst he3
      refine ⟨_, c, w', hrun, by unfold OwnN; rw [List.length_append, e2]; exact hown, hgr, .inr (by simp [Value.ownBlock]), fun q e _ => ?_, fun Y _ hk => ?_⟩
      · have hq := own_lt hv q e
        rw [he2]
        exact (Below.heap_alloc _ _ q (by show q < (w.alloc _).heap.size; simp; omega)).trans (Below.heap_alloc w _ q hq)
      exact own_keep hv fun q e => by
        have hq : g = q := Option.some.inj e
        subst hq
        refine hk g rfl fun e5 => ?_
        have := (Array.getElem?_eq_some_iff.1 hh).1
        simp [Value.ownBlock] at e5
        omega
end Go.Proofs.Ytenojfniknjeiaa
