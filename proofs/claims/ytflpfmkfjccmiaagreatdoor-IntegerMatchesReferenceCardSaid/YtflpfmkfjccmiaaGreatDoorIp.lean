/- Contracts of slices.Grow and slices.Concat of magnitudes. -/
import Derived.Test.YtflpfmkfjccmiaaGreatDoorIo
import Derived.Lib.AppendZeros
namespace Go.Proofs.YtflpfmkfjccmiaaGreatDoor
open Go.RowKit Go.Shelf
attribute [local go_sem ↓] append_appN

def GrowPost (w : World) (e : Ending) (w' : World) : Prop := ∃ c, e = .returned (.slice (some ⟨w.heap.size, 0, none⟩) 0 c) ∧ w'.ownsRow w.heap.size 3 1 (.slice (some ⟨w.heap.size, 0, none⟩) 0 c) 0 (intCells []) ∧ Below w.heap.size w w'
set_option maxRecDepth 100000 in
set_option maxHeartbeats 1000000 in
theorem grow_any (n : Nat) (w : World) (h0 : 0 < n) (hn : n ≤ 2000) :
    Calls Tryz.prog 100 #[.slice none 0 0, .int .i64 (n : Int)] w (GrowPost w) := by
  obtain ⟨i0, hi0, hz0, hz1, hz2⟩ := info_parts Tryz.infoInt
  have hrun : Sem.run Tryz.prog (appN #[45, 3] 45 #[.slice none 0 0, .int .i64 (n : Int)]) w = .ok (.slice (some ⟨w.heap.size, 0, none⟩) n (grownCap w n 0 3)) _ :=
    Lib.run_append_nil_zeros (P := Tryz.prog) w 45 3 45 3 i0 (.int .i64 0) .i64 .i64 Tryz.underlying45 (by kernel_rfl) hi0 hz0 n h0 (by omega) (by omega) (by rw [hz2]; omega)
  have hge := grownCap_ge w n 0 3
  have hle := grownCap_le_maxLen w n 0 3 (by unfold maxLen; omega)
  obtain ⟨c, hc⟩ : ∃ c, grownCap w n 0 3 = c := ⟨_, rfl⟩
  rw [hc] at hrun hge hle
  obtain ⟨W, hW⟩ : ∃ W, w.drew.alloc (.cells (Builtin.zeroCells (Value.int .i64 0).cells n ++ Builtin.zeroCells (Value.int .i64 0).cells (c - n)) 3) = W := ⟨_, rfl⟩
  rw [hW] at hrun
  have hb : Below w.heap.size w W := by rw [← hW]; exact ((Below.refl _ w).drew).alloc (Nat.le_refl _) _
  have hown : W.ownsRow w.heap.size 3 1 (.slice (some ⟨w.heap.size, 0, none⟩) 0 c) 0 (intCells []) := by
    rw [← hW]
    refine ⟨rfl, .inr ⟨w.heap.size, c, _, rfl, Nat.le_refl _, heap_alloc_new w.drew _, Nat.zero_le _, hle, ?_, by simp [intCells]⟩⟩
    rw [Array.size_append, size_zeroCells, size_zeroCells]; simp [Value.cells]; omega
  unfold maxLen at hle
  have HB := Lib.hid hb; have HO := Lib.hid hown
  clear hc hW hb hown hi0 hz0 hz1 hz2
  go_enter Tryz.func100, Tryz.ntmps100
  go_wp2
  go_ret
  exact ⟨_, rfl, HO.out, HB.out⟩

set_option maxRecDepth 100000 in
set_option maxHeartbeats 1000000 in
theorem concat_any (G : Nat) (l1 l2 : List Int) (v1 v2 : Value) (w : World) (hrow : Row w G 45 #[v1, v2]) (h1 : Ints w w.heap.size v1 l1) (h2 : Ints w w.heap.size v2 l2) (n1 : 1 ≤ l1.length) (m1 : l1.length ≤ 500) (m2 : l2.length ≤ 500) :
    Calls Tryz.prog 79 #[.slice (some ⟨G, 0, none⟩) 2 2] w (OwnInts (l1 ++ l2) w) := by
  obtain ⟨i0, hi0, hz0, hz1, hz2⟩ := info_parts Tryz.infoInt
  obtain ⟨A1, k1, rfl, hk1, hk1'⟩ := ints_form h1
  obtain ⟨A2, k2, rfl, hk2, hk2'⟩ := ints_form h2
  have c1 := hrow.cell 0
  have c2 := hrow.cell 1
  have hG := hrow.lt
  simp only [List.getElem?_toArray, List.getElem?_cons_zero, List.getElem?_cons_succ] at c1 c2
  have hgw := grow_any (l1.length + l2.length) w (by omega) (by omega)
  have a1 := fun U v (hb : Below w.heap.size w U) (hd : U.ownsRow w.heap.size 3 1 v 0 (intCells [])) => app_ints (t := 45) Tryz.underlying45 hi0 hz0 hz1 hz2 hd (h1.below hb |>.more hb.size) (by omega) hb.size
  have a2 := fun U v (hb : Below w.heap.size w U) (hd : U.ownsRow w.heap.size 3 1 v l1.length (intCells l1)) => app_ints (t := 45) Tryz.underlying45 hi0 hz0 hz1 hz2 hd (h2.below hb |>.more hb.size) (by omega) hb.size
  simp only [List.nil_append, Nat.zero_add] at a1
  have HL : Hid ((l1 ++ l2).length = l1.length + l2.length) := Lib.hid (by simp)
  obtain ⟨N1, hN1⟩ : ∃ n, l1.length = n := ⟨_, rfl⟩
  obtain ⟨N2, hN2⟩ : ∃ n, l2.length = n := ⟨_, rfl⟩
  rw [hN1, hN2] at HL a2 hgw
  rw [hN1] at hk1 c1 a1 n1 m1; rw [hN2] at hk2 c2 m2
  rw [Int.natCast_add] at hgw
  have A1' := Lib.hid a1; have A2' := Lib.hid a2; have HG := Lib.hid hgw
  clear a1 a2 hgw hrow h1 h2 hi0 hz0 hz1 hz2 hN1 hN2
  go_enter Tryz.func79, Tryz.ntmps79
  go_wp2
  go_loopw [3, 5, 11] (fun s _ i wr => w = wr ∧ ((i = .int .i64 0 ∧ s = .int .i64 0) ∨ (i = .int .i64 1 ∧ s = .int .i64 (N1 : Int)) ∨ (i = .int .i64 2 ∧ s = .int .i64 ((N1 : Int) + (N2 : Int))))) (fun _ _ i _ => 2 - (intOf i).toNat)
  case atStart => exact ⟨rfl, .inl ⟨rfl, rfl⟩⟩
  case round =>
    obtain ⟨rfl, (⟨rfl, rfl⟩ | ⟨rfl, rfl⟩ | ⟨rfl, rfl⟩)⟩ := hrel
    · go_wp2
      go_roundw
      case rel => exact ⟨trivial, .inr (.inl ⟨rfl, by go_num⟩)⟩
      case measure => decide
    · have i1 : ¬ ((N1 : Int) + (N2 : Int) < 0) := by omega
      go_wp2
      go_roundw
      case rel => exact ⟨trivial, .inr (.inr ⟨rfl, by go_num⟩)⟩
      case measure => decide
    · go_wp2_with (go_at_call 100; refine HG.out.mono ?_; unfold GrowPost; rintro e w1 ⟨c, rfl, hown, hb⟩)
      have HO := Lib.hid hown; have HB := Lib.hid hb
      clear hown hb
      go_loopw [6, 8, 27] (fun s _ i wr => Hid (Below w.heap.size w wr) ∧ ((i = .int .i64 0 ∧ ∃ c, s = .slice (some ⟨w.heap.size, 0, none⟩) 0 c ∧ Hid (wr.ownsRow w.heap.size 3 1 s 0 (intCells []))) ∨ (i = .int .i64 1 ∧ Hid (wr.ownsRow w.heap.size 3 1 s N1 (intCells l1))) ∨ (i = .int .i64 2 ∧ Hid (wr.ownsRow w.heap.size 3 1 s (N1 + N2) (intCells (l1 ++ l2)))))) (fun _ _ i _ => 2 - (intOf i).toNat)
      case atStart => exact ⟨HB, .inl ⟨rfl, _, rfl, HO⟩⟩
      case round =>
        obtain ⟨HBW, (⟨rfl, c', rfl, HOW⟩ | ⟨rfl, HOW⟩ | ⟨rfl, HOW⟩)⟩ := hrel
        · have d1 := (HBW.out.cell (p := ⟨G, 0, none⟩) hG).trans c1
          obtain ⟨v', w', hrun, hown, hbe⟩ := A1'.out wr _ HBW.out HOW.out
          obtain ⟨A', c'', rfl⟩ := own_slice hown
          have HO2 := Lib.hid hown; have HB2 := Lib.hid hbe
          clear hown hbe
          go_wp2
          go_roundw
          case rel => exact ⟨Lib.hid (HBW.out.trans HB2.out), .inr (.inl ⟨rfl, HO2⟩)⟩
          case measure => decide
        · have d1 := (HBW.out.cell (p := ⟨G, 1, none⟩) hG).trans c2
          obtain ⟨v', w', hrun, hown, hbe⟩ := A2'.out wr _ HBW.out HOW.out
          obtain ⟨A', c'', rfl⟩ := own_slice hown
          obtain ⟨A0, c0, rfl⟩ := own_slice HOW.out
          have HO2 := Lib.hid hown; have HB2 := Lib.hid hbe
          clear hown hbe
          go_wp2
          go_roundw
          case rel => exact ⟨Lib.hid (HBW.out.trans HB2.out), .inr (.inr ⟨rfl, HO2⟩)⟩
          case measure => decide
        · obtain ⟨A0, c0, rfl⟩ := own_slice HOW.out
          go_wp2
          go_ret
          exact ⟨_, rfl, by rw [HL.out]; exact HOW.out, HBW.out⟩
end Go.Proofs.YtflpfmkfjccmiaaGreatDoor
