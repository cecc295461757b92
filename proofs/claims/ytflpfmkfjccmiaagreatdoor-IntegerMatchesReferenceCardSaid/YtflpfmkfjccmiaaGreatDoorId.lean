/- Rows that are written in place; contracts of Clone, plus, minus, times, square and timesGroup of magnitudes. -/
import Derived.Test.YtflpfmkfjccmiaaGreatDoorIc
import Derived.WalkSpells
import Derived.Laws.CopyRow
import Derived.Laws.IdiomCopy
namespace Go.Proofs.YtflpfmkfjccmiaaGreatDoor
open Go.RowKit
attribute [local go_sem ↓] append_appN

/-- Block g holds the integers l from its head on, none frozen. -/
structure Arr (w : World) (g : Nat) (l : List Int) : Prop where
  lt : g < w.heap.size
  cell : ∀ j, j < l.length → w.cell? ⟨g, j, none⟩ = some (.int .i64 (l.getD j 0))
  free : ∀ j, w.frozen? ⟨g, j, none⟩ = false
theorem Arr.drew {w : World} {g : Nat} {l : List Int} (h : Arr w g l) : Arr w.drew g l := ⟨h.lt, h.cell, h.free⟩
theorem Arr.of_row {w : World} {g : Nat} {l : List Int} (h : Row w g 3 (intRow l)) : Arr w g l := ⟨h.lt, fun j hj => (h.cell j).trans (intRow_get l j hj), h.free⟩
theorem Arr.put {w : World} {g : Nat} {l : List Int} (h : Arr w g l) (k : Nat) (hk : k < l.length) (x : Int) : Arr (w.setCell ⟨g, k, none⟩ (.int .i64 x)) g (l.set k x) := by
  refine ⟨by simp [World.setCell]; exact h.lt, fun j hj => ?_, fun j => by rw [World.frozen?_setCell]; exact h.free j⟩
  rw [List.length_set] at hj
  by_cases e : k = j
  · subst e
    rw [World.cell?_setCell_same _ _ _ (h.cell k hk), List.getD_eq_getElem?_getD, List.getElem?_set_self hk]; rfl
  · rw [World.cell?_setCell_other _ _ _ _ (by intro e2; injection e2; omega), h.cell j hj, List.getD_eq_getElem?_getD, List.getD_eq_getElem?_getD, List.getElem?_set_ne e]
theorem Arr.ints {w : World} {g c : Nat} {l : List Int} (h : Arr w g l) (hc : l.length ≤ c) (hm : c ≤ maxLen) : Ints w w.heap.size (.slice (some ⟨g, 0, none⟩) l.length c) l :=
  ⟨_, _, rfl, hc, hm, .inr ⟨g, 0, rfl, h.lt, fun j x hj => by
    have hjl : j < l.length := (List.getElem?_eq_some_iff.1 hj).1
    rw [Nat.zero_add, h.cell j hjl, List.getD_eq_getElem?_getD, hj]; rfl⟩⟩
theorem Arr.below {w w' : World} {g B : Nat} {l : List Int} (h : Arr w g l) (hb : Below B w w') (hg : g < B) : Arr w' g l :=
  ⟨by have := hb.size; have := h.lt; omega, fun j hj => (hb.cell (p := ⟨g, j, none⟩) hg).trans (h.cell j hj), fun j => (hb.frozen (p := ⟨g, j, none⟩) hg).trans (h.free j)⟩
theorem Arr.of_own {w : World} {base n : Nat} {v : Value} {l : List Int} (h : w.ownsRow base 3 1 v n (intCells l)) (h0 : 0 < n) : ∃ g c, v = .slice (some ⟨g, 0, none⟩) n c ∧ Arr w g l ∧ base ≤ g ∧ n ≤ c ∧ c ≤ maxLen ∧ l.length = n := by
  have hl : l.length = n := by have := h.1; rwa [intCells_len, Nat.mul_one] at this
  rcases h.2 with ⟨_, h1⟩ | ⟨g, cap, cur, rfl, h1, h2, h3, h4, _⟩
  · omega
  · refine ⟨g, cap, rfl, ⟨(Array.getElem?_eq_some_iff.1 h2).1, fun j hj => ?_, fun j => frozen_of_row w g j cur _ h2⟩, h1, h3, h4, hl⟩
    rw [h.cellAt j (by omega)]
    simp [intCells, List.getElem?_eq_getElem hj]
/-- A store into the array, said of blocks below. -/
theorem below_put {w0 w : World} {B g k : Nat} {x : Value} (h : Below B w0 w) (hg : B ≤ g) : Below B w0 (w.setCell ⟨g, k, none⟩ x) := h.setCell hg x

/-- A slice of integers behind a row of the call's own. -/
theorem app_ints {U : World} {B n m c : Nat} {d : Value} {A : Option Addr} {D l : List Int} {t : TypeId} {i0 : TypeInfo} (hu : Tryz.prog.underlying t = some (.slice 3)) (hi0 : Tryz.prog.info? 3 = some i0) (hz0 : i0.zero = some (.int .i64 0)) (hz1 : i0.size = 1) (hz2 : i0.bytes = 8)
    (hd : U.ownsRow B 3 1 d n (intCells D)) (hv : Ints U U.heap.size (.slice A m c) l) (hn : n + m ≤ 10000) (hB : B ≤ U.heap.size) :
    ∃ v' w', Sem.run Tryz.prog (appN #[t, t] t #[d, .slice A m c]) U = .ok v' w' ∧ w'.ownsRow B 3 1 v' (n + m) (intCells (D ++ l)) ∧ Below B U w' := by
  obtain ⟨hm, _, _⟩ := ints_cap hv
  have hbl : ∀ w', U.grownBy w' d.ownBlock → Below B U w' := fun w' hg => ⟨hg.os, hg.tape, hg.output, hg.size, fun k hk => hg.block k (by omega) (fun e => by have := own_ge hd k e.symm; omega)⟩
  obtain ⟨A', c', h1, _, _, h4⟩ := hv
  injection h1 with e1 e2 e3
  subst e1; subst e3
  rcases h4 with ⟨rfl, rfl⟩ | ⟨g, off, rfl, hg, hc⟩
  · obtain rfl : m = 0 := by simpa using hm
    refine ⟨_, _, run_append_owned_none (P := Tryz.prog) U B t t 3 i0 1 hu hi0 d n _ hd, by simpa using hd, Below.refl _ _⟩
  · obtain ⟨v', w', hrun, hown, hgr, _⟩ := run_append_own (P := Tryz.prog) U B t t 3 i0 (.int .i64 0) 1 8 hu hi0 hz0 hz1 hz2 rfl (by decide)
      d n _ hd ⟨g, off, none⟩ m c (intCells l) (by rw [intCells_len, Nat.mul_one, hm]) (fun j x hj => by
        rw [show (⟨g, off, none⟩ : Addr).add j = ⟨g, off + j, none⟩ from by unfold Addr.add; split <;> simp_all]
        simp only [intCells, List.getElem?_map, Option.map_eq_some_iff] at hj
        obtain ⟨y, hy, rfl⟩ := hj
        exact hc j y hy)
      (fun x hx => by obtain ⟨t, _, rfl⟩ := List.mem_map.1 hx; rfl) (by unfold maxLen; omega) (by omega) hB
    refine ⟨v', w', hrun, ?_, hbl _ hgr⟩
    rw [show intCells (D ++ l) = intCells D ++ intCells l by simp [intCells]]; exact hown

def OwnInts (l : List Int) (w : World) (e : Ending) (w' : World) : Prop := ∃ v, e = .returned v ∧ w'.ownsRow w.heap.size 3 1 v l.length (intCells l) ∧ Below w.heap.size w w'
set_option maxHeartbeats 400000 in
theorem clone_any (l : List Int) (v : Value) (w : World) (hv : Ints w w.heap.size v l) (hl : l.length ≤ 1000) :
    Calls Tryz.prog 77 #[v] w (OwnInts l w) := by
  obtain ⟨i0, hi0, hz0, hz1, hz2⟩ := info_parts Tryz.infoInt
  have hq := fun a n c => Lib.run_eql_slice_nil (P := Tryz.prog) w 45 3 a n c 0 0 Tryz.underlying45
  obtain ⟨A, c, rfl, hc1, hc2, hA⟩ := hv
  rcases hA with ⟨rfl, rfl⟩ | ⟨g, off, rfl, hg, hc⟩
  · have hq0 := hq none 0 c
    simp only [List.length_nil]
    clear hq
    go_enter Tryz.func77, Tryz.ntmps77
    go_wp2
    go_ret
    exact ⟨_, rfl, World.ownsRow_nil _ _ _ _, Below.refl _ _⟩
  · have hq0 := hq (some ⟨g, off, none⟩) l.length c
    have hv : Ints w w.heap.size (.slice (some ⟨g, off, none⟩) l.length c) l := ⟨_, _, rfl, hc1, hc2, .inr ⟨g, off, rfl, hg, hc⟩⟩
    have ho : (w.alloc (.cells #[] 3)).ownsRow w.heap.size 3 1 (.slice (some ⟨w.heap.size, 0, none⟩) 0 0) 0 (intCells []) :=
      ⟨rfl, .inr ⟨w.heap.size, 0, #[], rfl, Nat.le_refl _, heap_alloc_new w _, Nat.le_refl _, by decide, rfl, rfl⟩⟩
    obtain ⟨v', w', hrun, hown, hb⟩ := app_ints Tryz.underlying45 hi0 hz0 hz1 hz2 ho (hv.next ((Below.refl _ w).alloc (Nat.le_refl _) _)) (by omega) (by simp)
    rw [List.nil_append, Nat.zero_add] at hown
    have HO := Lib.hid hown; have HB := Lib.hid (((Below.refl _ w).alloc (Nat.le_refl _) (.cells #[] 3)).trans hb)
    clear hq hv ho hown hb hc hi0 hz0 hz1 hz2
    simp only [Option.isNone_some] at hq0
    go_enter Tryz.func77, Tryz.ntmps77
    go_wp2
    go_ret
    exact ⟨_, rfl, HO.out, HB.out⟩
end Go.Proofs.YtflpfmkfjccmiaaGreatDoor
