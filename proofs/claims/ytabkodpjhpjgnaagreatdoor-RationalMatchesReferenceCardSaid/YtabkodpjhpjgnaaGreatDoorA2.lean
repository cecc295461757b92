/- Words for slices of integers: what a slice reads, rows that a call makes for itself; contracts of trimmed and isZero. Contracts of carried and what it calls. Contracts of fold with carried's function, and of carried. Rows that are written in place; contracts of Clone, plus, minus, times, square and timesGroup of magnitudes. Contracts of plus, minus, times, square and timesGroup of magnitudes. Contracts of minus, times, square and timesGroup of magnitudes. A law for 'for i, x := range seq' over an iterator that yields N pairs in a known order, with a body that may leave by a jump or a return; the iterator of slices.Backward. The iterator of slices.Backward: it yields the places and the integers of a slice, the last one first. Contracts of above, quotientBounds and compare of magnitudes. Contract of compare of magnitudes. -/
import Derived.Test.YtabkodpjhpjgnaaGreatDoorProg
import Derived.Test.YtabkodpjhpjgnaaGreatDoorA1
import Derived.WalkKit
import Derived.Lib.Hide
import Derived.Below
import Derived.Laws.Rows
import Derived.Laws.OwnMore
import Derived.Deep.Draws
import Derived.Deep.QuietTactic
import Derived.BigQuiet
import Derived.BigRegion
import Derived.StillTailTactics
import Derived.LoopN
import Derived.Outline
import Derived.Maps.AppendAt
import Derived.RangeFuncBox
import Derived.WalkSpells
import Derived.Laws.CopyRow
import Derived.Laws.IdiomCopy
import Derived.Laws.CopyOwn
import Derived.RangeFuncNested
import Derived.RangeFuncBound
import Derived.RangeFuncCalls
import Derived.RangeFuncLeaves
import Derived.Shelf.Abstract
import Derived.Shelf.RegionOpen
import Derived.OwnWalkIn
import Derived.TacticsInMore
import Derived.LoopNIn
import Derived.LoopIn
namespace Go.Proofs.YtabkodpjhpjgnaaGreatDoor
open Go.RowKit

def bs (l : List UInt8) : ByteArray := ⟨l.toArray⟩
abbrev strOf (l : List UInt8) : Value := .string (bs l)
theorem bs_size (l : List UInt8) : (bs l).size = l.length := by simp [bs, ByteArray.size]
theorem bs_list (l : List UInt8) : (bs l).data.toList = l := by simp [bs]
theorem bs_of (s : ByteArray) : bs s.data.toList = s := by simp [bs]
theorem bs_append (a b : List UInt8) : bs a ++ bs b = bs (a ++ b) := by simp [bs, ByteArray.mk_append_mk]
theorem bs_inj (a b : List UInt8) : bs a = bs b ↔ a = b := ⟨fun h => by rw [← bs_list a, h, bs_list], fun h => by rw [h]⟩
theorem u8_ofNat (n : Nat) (h : n < 256) : (UInt8.ofNat n).toNat = n := by simp [UInt8.toNat_ofNat']; omega

def intRow (l : List Int) : Array Value := (l.map fun x => Value.int .i64 x).toArray
def intCells (l : List Int) : List Value := l.map fun x => Value.int .i64 x
theorem intCells_len (l : List Int) : (intCells l).length = l.length := by simp [intCells]
theorem intCells_snoc (l : List Int) (x : Int) : intCells (l ++ [x]) = intCells l ++ [.int .i64 x] := by simp [intCells]
theorem intRow_size (l : List Int) : (intRow l).size = l.length := by simp [intRow]
theorem intRow_get (l : List Int) (i : Nat) (h : i < l.length) : (intRow l)[i]? = some (.int .i64 (l.getD i 0)) := by
  simp [intRow, List.getElem?_eq_getElem h]
theorem intRow_put (l : List Int) (i : Nat) (x : Int) : (intRow l).setIfInBounds i (.int .i64 x) = intRow (l.set i x) := by
  simp [intRow, List.map_set]

/-- Block g is just the cells cs, none frozen. -/
def Row (w : World) (g : Nat) (t : TypeId) (cs : Array Value) : Prop := w.heap[g]? = some (.cells cs t (0, 0))
section
variable {w w' : World} {g : Nat} {t : TypeId} {cs : Array Value}
theorem Row.lt (h : Row w g t cs) : g < w.heap.size := by
  by_cases hl : g < w.heap.size
  · exact hl
  · unfold Row at h; rw [Array.getElem?_eq_none (by omega)] at h; cases h
theorem Row.cell (h : Row w g t cs) (i : Nat) : w.cell? ⟨g, i, none⟩ = cs[i]? := cell_of_row w g i cs t (0, 0) h
theorem Row.free (h : Row w g t cs) (i : Nat) : w.frozen? ⟨g, i, none⟩ = false := frozen_of_row w g i cs t h
theorem Row.new (w : World) (t : TypeId) (cs : Array Value) : Row (w.alloc (.cells cs t)) w.heap.size t cs := heap_alloc_new w _
theorem Row.drew (h : Row w g t cs) : Row w.drew g t cs := h
theorem Row.drewN (h : Row w g t cs) (n : Nat) : Row (w.drewN n) g t cs := h
theorem Row.alloc (h : Row w g t cs) (o : Obj) : Row (w.alloc o) g t cs := (Below.heap_alloc w o g h.lt).trans h
theorem Row.put (h : Row w g t cs) (i : Nat) (u : Value) : Row (w.setCell ⟨g, i, none⟩ u) g t (cs.setIfInBounds i u) := by
  unfold Row at h ⊢
  simp [World.setCell, Array.getElem?_modify, h]
theorem Row.far (h : Row w g t cs) {p : Addr} (hp : g ≠ p.block) (u : Value) : Row (w.setCell p u) g t cs := (Below.heap_setCell w p u g hp).trans h
theorem Row.below {B : Nat} (h : Row w g t cs) (hb : Below B w w') (hg : g < B) : Row w' g t cs := (hb.block g hg).trans h
end
theorem belowN {B : Nat} {w w' : World} (h : Below B w w') (n : Nat) : Below B w (w'.drewN n) := ⟨h.os, h.tape, h.output, h.size, h.block⟩
theorem below_to {w w1 w2 : World} (h1 : Below w.heap.size w w1) (h2 : Below w1.heap.size w1 w2) : Below w.heap.size w w2 := h1.trans (h2.mono h1.size)
theorem below_same {w w' : World} (h : w = w') : Below w.heap.size w w' := h ▸ Below.refl _ _

/-- A slice that reads as the integers l, in blocks below B. -/
def Ints (w : World) (B : Nat) (v : Value) (l : List Int) : Prop :=
  ∃ A c, v = .slice A l.length c ∧ l.length ≤ c ∧ c ≤ maxLen ∧ (A = none ∧ l = [] ∨ ∃ g off, A = some ⟨g, off, none⟩ ∧ g < B ∧ ∀ j x, l[j]? = some x → w.cell? ⟨g, off + j, none⟩ = some (.int .i64 x))
theorem Ints.keep {w w' : World} {B : Nat} {v : Value} {l : List Int} (h : Ints w B v l) (hk : ∀ p : Addr, p.block < B → w'.cell? p = w.cell? p) : Ints w' B v l := by
  obtain ⟨A, c, h1, h2, h3, h4⟩ := h
  refine ⟨A, c, h1, h2, h3, ?_⟩
  rcases h4 with h4 | ⟨g, off, h4, h5, h6⟩
  · exact .inl h4
  · exact .inr ⟨g, off, h4, h5, fun j s hj => (hk _ h5).trans (h6 j s hj)⟩
theorem Ints.below {w w' : World} {B : Nat} {v : Value} {l : List Int} (h : Ints w B v l) (hb : Below B w w') : Ints w' B v l := h.keep fun _ hp => hb.cell hp
theorem Ints.more {w : World} {B B' : Nat} {v : Value} {l : List Int} (h : Ints w B v l) (hB : B ≤ B') : Ints w B' v l := by
  obtain ⟨A, c, h1, h2, h3, h4⟩ := h
  refine ⟨A, c, h1, h2, h3, ?_⟩
  rcases h4 with h4 | ⟨g, off, h4, h5, h6⟩
  · exact .inl h4
  · exact .inr ⟨g, off, h4, by omega, h6⟩
theorem Ints.next {w w' : World} {v : Value} {l : List Int} (h : Ints w w.heap.size v l) (hb : Below w.heap.size w w') : Ints w' w'.heap.size v l := (h.below hb).more hb.size
theorem ints_nil (w : World) (B : Nat) : Ints w B (.slice none 0 0) [] := ⟨none, 0, rfl, Nat.le_refl _, by decide, .inl ⟨rfl, rfl⟩⟩
theorem ints_pre {w : World} {B n c : Nat} {A : Option Addr} {l : List Int} (h : Ints w B (.slice A n c) l) (k : Nat) (hk : k ≤ l.length) : Ints w B (.slice A k c) (l.take k) := by
  obtain ⟨A', c', e, h1, h2, h3⟩ := h
  injection e with e1 e2 e3
  subst e1; subst e3
  refine ⟨_, c, by rw [List.length_take, Nat.min_eq_left hk], by rw [List.length_take]; omega, h2, ?_⟩
  rcases h3 with ⟨h3, h4⟩ | ⟨g', off', h3, hg, hc⟩
  · exact .inl ⟨h3, by rw [h4]; simp⟩
  · refine .inr ⟨g', off', h3, hg, fun j s hj => ?_⟩
    have hjk : j < k := by have := (List.getElem?_eq_some_iff.1 hj).1; rw [List.length_take] at this; omega
    rw [List.getElem?_take_of_lt hjk] at hj
    exact hc j s hj
theorem ints_suf {w : World} {B g off n c : Nat} {l : List Int} (h : Ints w B (.slice (some ⟨g, off, none⟩) n c) l) (k : Nat) (hk : k ≤ l.length) : Ints w B (.slice (some ⟨g, off + k, none⟩) (n - k) (c - k)) (l.drop k) := by
  obtain ⟨A', c', e, h1, h2, h3⟩ := h
  injection e with e1 e2 e3
  subst e1; subst e3
  refine ⟨_, _, by rw [List.length_drop, e2], by rw [List.length_drop]; omega, by omega, ?_⟩
  rcases h3 with ⟨h3, h4⟩ | ⟨g', off', h3, hg, hc⟩
  · cases h3
  · injection h3 with h3
    injection h3 with h4 h5
    subst h4; subst h5
    refine .inr ⟨g, off + k, rfl, hg, fun j s hj => ?_⟩
    rw [List.getElem?_drop] at hj
    rw [Nat.add_assoc]; exact hc _ s hj
theorem ints_at {w : World} {B n c : Nat} {A : Option Addr} {l : List Int} (h : Ints w B (.slice A n c) l) (k : Nat) (hk : k < l.length) : ∃ g off, A = some ⟨g, off, none⟩ ∧ g < B ∧ ∀ j, j < l.length → w.cell? ⟨g, off + j, none⟩ = some (.int .i64 (l.getD j 0)) := by
  obtain ⟨A', c', e, h1, h2, h3⟩ := h
  injection e with e1 e2 e3
  subst e1
  rcases h3 with ⟨_, h4⟩ | ⟨g, off, h3, hg, hc⟩
  · rw [h4] at hk; simp at hk
  · exact ⟨g, off, h3, hg, fun j hj => by rw [hc j _ (List.getElem?_eq_getElem hj), List.getD_eq_getElem?_getD, List.getElem?_eq_getElem hj]; rfl⟩
theorem ints_form {w : World} {B : Nat} {v : Value} {l : List Int} (h : Ints w B v l) : ∃ A c, v = .slice A l.length c ∧ l.length ≤ c ∧ c ≤ 9223372036854775807 := by
  obtain ⟨A, c, h1, h2, h3, _⟩ := h
  exact ⟨A, c, h1, h2, by unfold maxLen at h3; omega⟩
theorem ints_cap {w : World} {B n c : Nat} {A : Option Addr} {l : List Int} (h : Ints w B (.slice A n c) l) : n = l.length ∧ l.length ≤ c ∧ c ≤ 9223372036854775807 := by
  obtain ⟨A', c', h1, h2, h3, _⟩ := h
  injection h1 with e1 e2 e3
  subst e3
  exact ⟨e2, h2, by unfold maxLen at h3; omega⟩
theorem ints_of_own {w : World} {base : Nat} {v : Value} {n : Nat} {l : List Int} (h : w.ownsRow base 3 1 v n (intCells l)) (hn : l.length = n) : Ints w w.heap.size v l := by
  subst hn
  rcases h.2 with ⟨rfl, h0⟩ | ⟨g, cap, cur, rfl, hb, hg, h1, h2, h3, h4⟩
  · have : l = [] := List.eq_nil_of_length_eq_zero h0
    subst this
    exact ints_nil _ _
  · refine ⟨_, cap, rfl, h1, h2, .inr ⟨g, 0, rfl, (Array.getElem?_eq_some_iff.1 hg).1, fun j s hj => ?_⟩⟩
    have hjl : j < l.length := (List.getElem?_eq_some_iff.1 hj).1
    have := h.cellAt j (by omega)
    rw [Nat.zero_add, this]
    simp [intCells, List.getElem?_map, hj]
theorem ints_of_row {w : World} {g : Nat} {l : List Int} (h : Row w g 3 (intRow l)) (hl : l.length ≤ 100000) : Ints w w.heap.size (.slice (some ⟨g, 0, none⟩) l.length l.length) l :=
  ⟨_, _, rfl, Nat.le_refl _, by unfold maxLen; omega, .inr ⟨g, 0, rfl, h.lt, fun j x hj => by
    have hjl : j < l.length := (List.getElem?_eq_some_iff.1 hj).1
    rw [Nat.zero_add, h.cell j, intRow_get l j hjl, List.getD_eq_getElem?_getD, hj]; rfl⟩⟩

/-- A slice that reads as the groups of n. -/
def Mag (w : World) (v : Value) (n : Nat) : Prop := Ints w w.heap.size v (Im.grp n)
theorem Mag.next {w w' : World} {v : Value} {n : Nat} (h : Mag w v n) (hb : Below w.heap.size w w') : Mag w' v n := Ints.next h hb
def MagPost (n : Nat) (w : World) (e : Ending) (w' : World) : Prop := ∃ v, e = .returned v ∧ Mag w' v n ∧ Below w.heap.size w w'

theorem ret_i64 {a b : Int} (h : a = b) : Ending.returned (.int .i64 a) = .returned (.int .i64 b) := by rw [h]
theorem ret_bool {a b : Bool} (h : a = b) : Ending.returned (.bool a) = .returned (.bool b) := by rw [h]
theorem ret_str {a b : List UInt8} (h : a = b) : Ending.returned (strOf a) = .returned (strOf b) := by rw [h]

set_option maxRecDepth 100000 in
set_option maxHeartbeats 400000 in
theorem trimmed_any (l : List Int) (A : Option Addr) (c : Nat) (w : World) (hv : Ints w w.heap.size (.slice A l.length c) l) :
    Calls Tryz.prog 138 #[.slice A l.length c] w fun e w' => e = .returned (.slice A (Im.trim l).length c) ∧ w = w' := by
  obtain ⟨-, hc1, hc2⟩ := ints_cap hv
  have HV := Lib.hid (fun k hk => ints_at hv k hk)
  obtain ⟨N, hN⟩ : ∃ N, l.length = N := ⟨_, rfl⟩
  have HN := Lib.hid hN
  rw [hN] at hc1 ⊢
  clear hv hN
  go_enter Tryz.func138, Tryz.ntmps138
  go_wp2
  go_loop [3] (fun n => ∃ k : Nat, k ≤ N ∧ n = .int .i64 (k : Int) ∧ Hid (∀ j, k ≤ j → j < l.length → l.getD j 0 = 0)) (fun n => (intOf n).toNat)
  case atStart => exact ⟨N, by omega, rfl, Lib.hid fun j h1 h2 => by have := HN.out; omega⟩
  case round =>
    obtain ⟨k, hk, rfl, HZ⟩ := hrel
    by_cases h0 : 0 < k
    · obtain ⟨g, off, rfl, hg, hcell⟩ := HV.out (k - 1) (by have := HN.out; omega)
      have c0 := hcell (k - 1) (by have := HN.out; omega)
      obtain ⟨x, hx⟩ : ∃ x, l.getD (k - 1) 0 = x := ⟨_, rfl⟩
      rw [hx] at c0
      have HX := Lib.hid hx
      obtain ⟨j, rfl⟩ : ∃ j, k = j + 1 := ⟨k - 1, by omega⟩
      rw [Nat.add_sub_cancel] at c0 HX
      have e1 : ((j + 1 : Nat) : Int) - 1 = (j : Int) := by omega
      have i1 : (0 : Int) ≤ (j : Int) := by omega
      have i2 : (j : Int) < (N : Int) := by omega
      have i3 : (0 : Int) < ((j + 1 : Nat) : Int) := by omega
      clear hcell hx
      by_cases hz : x = 0
      · have t1 : (x == 0) = true := by simpa using hz
        have HZ2 : Hid (∀ i, j ≤ i → i < l.length → l.getD i 0 = 0) := Lib.hid fun i h1 h2 => by
          by_cases e : i = j
          · rw [e, HX.out, hz]
          · exact HZ.out i (by omega) h2
        clear hz
        go_wp2
        go_round
        case rel => exact ⟨j, by omega, by go_num, HZ2⟩
        case measure => simp [intOf]
      · have t1 : (x == 0) = false := by simpa using hz
        have hl : (Im.trim l).length = j + 1 := by
          rw [Im.trim_at l (j + 1) (by have := HN.out; omega) HZ.out (fun _ => by rw [Nat.add_sub_cancel, HX.out]; exact hz), List.length_take]
          have := HN.out; omega
        have HL := Lib.hid hl
        have i4 : ((j + 1 : Nat) : Int) ≤ (c : Int) := by omega
        clear hz hl
        go_wp2
        go_ret
        exact ⟨by rw [HL.out]; rfl, rfl⟩
    · obtain rfl : k = 0 := by omega
      have hl : (Im.trim l).length = 0 := by
        rw [Im.trim_at l 0 (by omega) HZ.out (fun h => by omega)]; rfl
      have HL := Lib.hid hl
      clear hl h0
      go_wp2
      go_ret
      exact ⟨by rw [HL.out]; rfl, rfl⟩
theorem trimmed_ints {w : World} {l : List Int} {A : Option Addr} {c : Nat} (h : Ints w w.heap.size (.slice A l.length c) l) (n : Nat) (hg : Im.Gs l) (hv : Im.val l = n) : Mag w (.slice A (Im.trim l).length c) n := by
  have := ints_pre h (Im.trim l).length (Im.trim_len_le l)
  rw [← Im.trim_take, Im.trim_grp l n hg hv] at this
  rw [Im.trim_grp l n hg hv]; exact this
theorem isZero_any (v : Value) (n : Nat) (w : World) (hv : Mag w v n) :
    Calls Tryz.prog 116 #[v] w fun e w' => e = .returned (.bool (decide (n = 0))) ∧ w = w' := by
  obtain ⟨A, c, rfl, hc1, hc2⟩ := ints_form hv
  have h0 := Im.grp_len0 n
  obtain ⟨N, hN⟩ : ∃ N, (Im.grp n).length = N := ⟨_, rfl⟩
  rw [hN] at h0 hc1 ⊢
  by_cases hz : N = 0
  · subst hz
    have hd : decide (n = 0) = true := by simpa using h0.1 rfl
    rw [hd]
    clear hv hN h0 hd
    go_enter Tryz.func116, Tryz.ntmps116
    go_wp2
    go_ret
    exact ⟨rfl, rfl⟩
  · have hd : decide (n = 0) = false := by simpa using fun h => hz (h0.2 h)
    have i5 : ((N : Int) == 0) = false := by rw [beq_eq_false_iff_ne]; omega
    rw [hd]
    clear hv hN h0 hd hz
    go_enter Tryz.func116, Tryz.ntmps116
    go_wp2
    go_ret
    exact ⟨rfl, rfl⟩
end Go.Proofs.YtabkodpjhpjgnaaGreatDoor

namespace Go.Proofs.YtabkodpjhpjgnaaGreatDoor
open Go.RowKit

theorem Tryz.infoInt : (Tryz.prog.info? 3).map (fun i => (i.zero, i.size, i.bytes)) = some (some (.int .i64 0), 1, 8) := by kernel_rfl
/-- Append under a name that the walk doesn't unfold. -/
def appN (ts : Array TypeId) (t : TypeId) (vs : Array Value) := Builtin.append_ ts t vs
theorem append_appN (ts : Array TypeId) (t : TypeId) (vs : Array Value) : Builtin.append_ ts t vs = appN ts t vs := rfl
attribute [local go_sem ↓] append_appN

theorem own_ge {w : World} {base : Nat} {e : TypeId} {size : Nat} {v : Value} {n : Nat} {xs : List Value} (h : w.ownsRow base e size v n xs) : ∀ k, v.ownBlock = some k → base ≤ k := by
  intro k hk
  rcases h.2 with ⟨rfl, _⟩ | ⟨g, cap, cur, rfl, hb, _⟩
  · simp [Value.ownBlock] at hk
  · simp [Value.ownBlock] at hk; omega
theorem own_lt {w : World} {base : Nat} {e : TypeId} {size : Nat} {v : Value} {n : Nat} {xs : List Value} (h : w.ownsRow base e size v n xs) : ∀ k, v.ownBlock = some k → k < w.heap.size := by
  intro k hk
  rcases h.2 with ⟨rfl, _⟩ | ⟨g, cap, cur, rfl, hb, hh, _⟩
  · simp [Value.ownBlock] at hk
  · simp [Value.ownBlock] at hk; subst hk; exact (Array.getElem?_eq_some_iff.1 hh).1
theorem own_below {w w' : World} {base B : Nat} {e : TypeId} {size : Nat} {v : Value} {n : Nat} {xs : List Value} (h : w.ownsRow base e size v n xs) (hb : Below B w w') (hB : ∀ k, v.ownBlock = some k → k < B) : w'.ownsRow base e size v n xs := by
  refine ⟨h.1, ?_⟩
  rcases h.2 with h2 | ⟨g, cap, cur, rfl, h3, h4, h5⟩
  · exact .inl h2
  · exact .inr ⟨g, cap, cur, rfl, h3, (hb.block g (hB g rfl)).trans h4, h5⟩
theorem own_base {w : World} {B B' : Nat} {e : TypeId} {size n : Nat} {v : Value} {xs : List Value} (h : w.ownsRow B e size v n xs) (hB : B' ≤ B) : w.ownsRow B' e size v n xs := by
  refine ⟨h.1, ?_⟩
  rcases h.2 with h | ⟨g, cap, cur, h1, h2, h3⟩
  · exact .inl h
  · exact .inr ⟨g, cap, cur, h1, by omega, h3⟩
theorem own_slice {w : World} {base : Nat} {e : TypeId} {size n : Nat} {v : Value} {xs : List Value} (h : w.ownsRow base e size v n xs) : ∃ A c, v = .slice A n c := by
  rcases h.2 with ⟨rfl, rfl⟩ | ⟨g, cap, cur, rfl, _⟩
  · exact ⟨_, _, rfl⟩
  · exact ⟨_, _, rfl⟩
/-- One integer more behind a row of the call's own. -/
theorem snoc_int {w : World} {B n : Nat} {v : Value} {l : List Int} {x : Int} {i0 : TypeInfo} (hi0 : Tryz.prog.info? 3 = some i0) (hz0 : i0.zero = some (.int .i64 0)) (hz1 : i0.size = 1) (hz2 : i0.bytes = 8)
    (hrow : w.ownsRow B 3 1 v n (intCells l)) (hn : n ≤ 100000) (hB : B ≤ w.heap.size) :
    ∃ v' w', Sem.run Tryz.prog (appN #[40, 40] 40 #[v, .slice (some ⟨w.heap.size, 0, none⟩) 1 1]) (w.alloc (.cells #[.int .i64 x] 3)) = .ok v' w' ∧
      w'.ownsRow B 3 1 v' (n + 1) (intCells (l ++ [x])) ∧ (w.alloc (.cells #[.int .i64 x] 3)).grownBy w' v.ownBlock := by
  obtain ⟨v', w', hrun, hown, hgr, _⟩ := run_append_own (P := Tryz.prog) (w.alloc (.cells #[.int .i64 x] 3)) B 40 40 3 i0 (.int .i64 0) 1 8 Tryz.underlying40 hi0 hz0 hz1 hz2 rfl (by decide)
    v n _ (hrow.alloc _) ⟨w.heap.size, 0, none⟩ 1 1 [.int .i64 x] rfl (fun j u h => cell_one_new _ _ _ j u h) (by simp [Value.oneCell']) (by unfold maxLen; omega) (by omega) (by simp; omega)
  exact ⟨v', w', hrun, by rw [intCells_snoc]; exact hown, hgr⟩
theorem grown_below {w w' : World} {B n : Nat} {v : Value} {xs : List Value} {o : Obj} (hrow : w.ownsRow B 3 1 v n xs) (hB : B ≤ w.heap.size) (hg : (w.alloc o).grownBy w' v.ownBlock) : Below B w w' := by
  have h3 : Below B w (w.alloc o) := (Below.refl _ w).alloc hB o
  exact ⟨hg.os.trans h3.os, hg.tape.trans h3.tape, hg.output.trans h3.output, Nat.le_trans h3.size hg.size, fun k hk =>
    (hg.block k (by simp; omega) (fun e => by have := own_ge hrow k e.symm; omega)).trans (h3.block k hk)⟩

/-- A box that holds a slice of the call's own with these integers. -/
def OwnBox (W : World) (Bx base : Nat) (l : List Int) : Prop := ∃ v, Boxed W Bx 40 v ∧ W.ownsRow base 3 1 v l.length (intCells l)
def StepPost (q : Int) (Bx base : Nat) (l : List Int) (w : World) (e : Ending) (w' : World) : Prop := e = .returned (.int .i64 q) ∧ OwnBox w' Bx base l ∧ Below base w w'

set_option maxRecDepth 100000 in
set_option maxHeartbeats 1000000 in
theorem step_any (c x : Int) (Bx base : Nat) (l : List Int) (w : World) (hb : OwnBox w Bx base l) (hB : base ≤ Bx) (hBw : base ≤ w.heap.size) (hl : l.length ≤ 1000) (hc1 : -2000000000000000 ≤ c) (hc2 : c ≤ 2000000000000000)
    (hx1 : -1000000000000000 ≤ x) (hx2 : x ≤ 1000000000000000) :
    Calls Tryz.prog 157 #[.int .i64 c, .int .i64 x, .pointer (some ⟨Bx, 0, none⟩)] w (StepPost ((c + x) / 10000) Bx base (l ++ [(c + x) % 10000]) w) := by
  obtain ⟨i0, hi0, hz0, hz1, hz2⟩ := info_parts Tryz.infoInt
  obtain ⟨v, hbox, hrow⟩ := hb
  have hm := Im.gmod_go (c + x)
  have hd := Im.gdiv_go (c + x)
  have hs1 : IntKind.i64.wrap (c + x) = c + x := IntWalk.i64_in _ (by omega)
  obtain ⟨s, hs⟩ : ∃ s, c + x = s := ⟨_, rfl⟩
  rw [hs] at hm hd hs1
  have hsb : -3000000000000000 ≤ s ∧ s ≤ 3000000000000000 := by omega
  obtain ⟨sb1, sb2⟩ := hsb
  have ht : -10000 < s.tmod 10000 ∧ s.tmod 10000 < 10000 := by
    rw [Int.tmod_eq_emod]; split <;> omega
  obtain ⟨t, htt⟩ : ∃ t, s.tmod 10000 = t := ⟨_, rfl⟩
  rw [htt] at hm ht
  have hs2 : IntKind.i64.wrap (t + 10000) = t + 10000 := IntWalk.i64_in _ (by omega)
  obtain ⟨q, hq⟩ : ∃ q, s % 10000 = q := ⟨_, rfl⟩
  rw [hq] at hm hd
  have hqb : 0 ≤ q ∧ q < 10000 := by omega
  obtain ⟨qb1, qb2⟩ := hqb
  have hs3 : IntKind.i64.wrap (s - q) = s - q := IntWalk.i64_in _ (by omega)
  obtain ⟨d, hdd⟩ : ∃ d, s / 10000 = d := ⟨_, rfl⟩
  rw [hdd] at hd
  have hdb : -1000000000000 ≤ d ∧ d ≤ 1000000000000 := by omega
  have hs4 : IntKind.i64.wrap d = d := IntWalk.i64_in _ (by omega)
  obtain ⟨v', w1, hrun, hown, hgr⟩ := snoc_int (x := q) hi0 hz0 hz1 hz2 hrow (by omega) hBw
  obtain ⟨g', cap', rfl⟩ := ownsRow_succ hown
  obtain ⟨k1, k2, k3, _, k5⟩ := hbox.appended (by decide) hrow hBw hB hown hgr
  have hc0 := hbox.cell
  have hf1 := k1.frozen
  have hc1' := k1.cell
  have HR := Lib.hid (⟨_, k2, by rw [List.length_append, List.length_singleton]; exact k3⟩ : OwnBox (w1.setCell ⟨Bx, 0, none⟩ (.slice (some ⟨g', 0, none⟩) (l.length + 1) cap')) Bx base (l ++ [q]))
  have HB := Lib.hid k5
  obtain ⟨ht1, ht2⟩ := ht
  have hm2 : (t + 10000) % 10000 = q := by rw [← hm, Int.tmod_eq_emod_of_nonneg (by omega)]
  have hm3 : (0 : Int) ≤ t + 10000 := by omega
  rw [hs, hdd, hq]
  clear hbox hrow hown hgr k1 k2 k3 k5 hq hdd hdb hi0 hz0 hz1 hz2
  go_enter Tryz.func157, Tryz.ntmps157
  go_wp2
  go_ret
  exact ⟨rfl, HR.out, HB.out⟩
end Go.Proofs.YtabkodpjhpjgnaaGreatDoor

namespace Go.Proofs.YtabkodpjhpjgnaaGreatDoor
open Go.RowKit

theorem made_int (N : Nat) : madeCells #[.int .i64 0] N = intRow (List.replicate N 0) := by
  apply Array.ext
  · rw [size_madeCells, intRow_size, List.length_replicate]
  · intro i h1 h2
    simp [madeCells, intRow, Nat.mod_one]
def FoldPost (Bx base : Nat) (l : List Int) (w : World) (e : Ending) (w' : World) : Prop := (∃ c : Int, e = .returned (.int .i64 c)) ∧ OwnBox w' Bx base l ∧ Below base w w'

set_option maxRecDepth 100000 in
set_option maxHeartbeats 1000000 in
theorem foldc_any (cols : List Int) (v : Value) (Bx base : Nat) (w : World) (hv : Ints w base v cols) (hb : OwnBox w Bx base []) (hB : base ≤ Bx) (hBw : base ≤ w.heap.size) (hl : cols.length ≤ 1000)
    (hc : ∀ x ∈ cols, -1000000000000000 ≤ x ∧ x ≤ 1000000000000000) :
    Calls Tryz.prog 156 #[v, .int .i64 0, .func (.func 157) #[] #[.pointer (some ⟨Bx, 0, none⟩)]] w (FoldPost Bx base (Im.car cols 0).2 w) := by
  obtain ⟨A, c, rfl, hc1, hc2⟩ := ints_form hv
  obtain ⟨N, hN⟩ : ∃ N, cols.length = N := ⟨_, rfl⟩
  have HV := Lib.hid (fun k hk => ints_at hv k hk)
  have HN := Lib.hid hN
  have HC := Lib.hid hc
  rw [hN] at hc1 hl ⊢
  clear hv hN hc
  go_enter Tryz.func156, Tryz.ntmps156
  go_wp2
  go_loopw [1, 8, 11] (fun s _ i wr => ∃ k : Nat, k ≤ N ∧ i = .int .i64 (k : Int) ∧ s = .int .i64 (Im.car (cols.take k) 0).1 ∧ OwnBox wr Bx base (Im.car (cols.take k) 0).2 ∧ Below base w wr) (fun _ _ i _ => N - (intOf i).toNat)
  case atStart => exact ⟨0, by omega, rfl, rfl, hb, Below.refl _ _⟩
  case round =>
    obtain ⟨k, hk, rfl, rfl, hbx, hbw⟩ := hrel
    have hsm := Im.car_small (cols.take k) 0 1000000000000000 (fun x hx => HC.out x (List.mem_of_mem_take hx)) (by omega) (by omega) (by omega)
    have hln : (Im.car (cols.take k) 0).2.length ≤ 1000 := by rw [Im.car_len, List.length_take]; omega
    by_cases hlt : k < N
    · have hkl : k < cols.length := by have := HN.out; omega
      obtain ⟨g, off, rfl, hg, hcell⟩ := HV.out k hkl
      have c0 := (hbw.cell (p := ⟨g, off + k, none⟩) hg).trans (hcell k hkl)
      have hx := HC.out cols[k] (List.getElem_mem hkl)
      have hxe : cols.getD k 0 = cols[k] := by rw [List.getD_eq_getElem?_getD, List.getElem?_eq_getElem hkl]; rfl
      have htk : cols.take (k + 1) = cols.take k ++ [cols[k]] := List.take_succ_eq_append_getElem hkl
      have hsn := Im.car_snoc (cols.take k) 0 cols[k]
      rw [← htk] at hsn
      rw [hxe] at c0
      obtain ⟨x, hxx⟩ : ∃ x, cols[k] = x := ⟨_, rfl⟩
      rw [hxx] at c0 hx hsn
      obtain ⟨p, hp⟩ : ∃ p, Im.car (cols.take k) 0 = p := ⟨_, rfl⟩
      rw [hp] at hbx hsm hln hsn ⊢
      obtain ⟨cr, l⟩ := p
      dsimp only at hbx hsm hln hsn ⊢
      have hst := step_any cr x Bx base l wr hbx hB (by have := hbw.size; omega) hln (by omega) (by omega) hx.1 hx.2
      have ST := Lib.hid hst; have HSN := Lib.hid hsn; have HBW := Lib.hid hbw
      clear hst hsn hbw hbx hsm hln hcell hxe htk hxx hp hx
      have i1 : (0 : Int) ≤ (k : Int) := by omega
      have i2 : (k : Int) < (N : Int) := by omega
      go_wp2_with (go_at_call 157; refine ST.out.mono ?_; unfold StepPost; rintro e w1 ⟨rfl, hbx1, hb1⟩)
      go_roundw
      case rel => exact ⟨k + 1, by omega, by go_num, by rw [HSN.out], by rw [HSN.out]; exact hbx1, HBW.out.trans hb1⟩
      case measure => simp [intOf]; omega
    · have hta : cols.take k = cols := List.take_of_length_le (by have := HN.out; omega)
      rw [hta] at hbx
      have HBX := Lib.hid hbx
      clear hsm hln hta hbx
      go_wp2
      go_ret
      exact ⟨⟨_, rfl⟩, HBX.out, hbw⟩

theorem mk_int (len cap : Nat) (w : World) (hlc : len ≤ cap) (hc : cap ≤ 100000) : (Instr.makeSlice 40 (.int .i64 (len : Int)) (.int .i64 (cap : Int))).run Tryz.prog w = .ok (.slice (some ⟨w.heap.size, 0, none⟩) len cap) (w.alloc (.cells (intRow (List.replicate cap 0)) 3)) := by
  obtain ⟨i0, hi0, hz0, hz1, hz2⟩ := info_parts Tryz.infoInt
  have := run_make (P := Tryz.prog) w 40 3 i0 (.int .i64 0) Tryz.underlying40 hi0 hz0 .i64 .i64 (len : Int) (cap : Int) (by omega) (by omega) (by rw [hz2]; omega) (by omega)
  rw [hz1, Int.toNat_natCast, Int.toNat_natCast, Nat.mul_one, show (Value.int .i64 0).cells = #[.int .i64 0] from rfl, made_int] at this
  exact this
theorem made_own (w : World) (N : Nat) (hN : N ≤ 100000) : (w.alloc (.cells (intRow (List.replicate N 0)) 3)).ownsRow w.heap.size 3 1 (.slice (some ⟨w.heap.size, 0, none⟩) 0 N) 0 [] :=
  ⟨rfl, .inr ⟨w.heap.size, N, intRow (List.replicate N 0), rfl, Nat.le_refl _, heap_alloc_new w _, by omega, by unfold maxLen; omega, by simp [intRow], rfl⟩⟩

set_option maxRecDepth 100000 in
set_option maxHeartbeats 1000000 in
theorem carried_any (cols : List Int) (n : Nat) (v : Value) (w : World) (hv : Ints w w.heap.size v cols) (hl : cols.length ≤ 1000) (hc : ∀ x ∈ cols, -1000000000000000 ≤ x ∧ x ≤ 1000000000000000)
    (hval : Im.val cols = n) (hn : (n : Int) < 10000 ^ cols.length) :
    Calls Tryz.prog 132 #[v] w (MagPost n w) := by
  have hgr := Im.car_grp cols n hval hn
  have hgs := Im.car_gs cols 0
  have hcl := Im.car_len cols 0
  have hf := fun Bx W hb hw => foldc_any cols v Bx w.heap.size W hb hw
  obtain ⟨A, c, rfl, hc1, hc2⟩ := ints_form hv
  obtain ⟨N, hN⟩ : ∃ N, cols.length = N := ⟨_, rfl⟩
  rw [hN] at hc1 hl hcl hf ⊢
  have hmk : ∀ w, (Instr.makeSlice 40 (.int .i64 0) (.int .i64 (N : Int))).run Tryz.prog w = .ok (.slice (some ⟨w.heap.size, 0, none⟩) 0 N) (w.alloc (.cells (intRow (List.replicate N 0)) 3)) := fun w => mk_int 0 N w (by omega) (by omega)
  obtain ⟨W, hW⟩ : ∃ W, (w.alloc (.cells (intRow (List.replicate N 0)) 3)).alloc (.cells #[.slice (some ⟨w.heap.size, 0, none⟩) 0 N] 40) = W := ⟨_, rfl⟩
  have hb0 : Below w.heap.size w W := by rw [← hW]; exact ((Below.refl _ w).alloc (Nat.le_refl _) _).alloc (by simp) _
  have hsz : W.heap.size = w.heap.size + 2 := by rw [← hW]; simp
  have hbx : OwnBox W (w.heap.size + 1) w.heap.size [] := by
    rw [← hW]
    refine ⟨_, ?_, (made_own w N (by omega)).alloc _⟩
    have := Row.new (w.alloc (.cells (intRow (List.replicate N 0)) 3)) 40 #[.slice (some ⟨w.heap.size, 0, none⟩) 0 N]
    rw [World.size_alloc] at this; exact this
  have hff := hf (w.heap.size + 1) W (hN ▸ hv.below hb0) hbx (by omega) (by omega) hl hc
  have HF := Lib.hid hff; have HB0 := Lib.hid hb0; have HW := Lib.hid hW
  have HG := Lib.hid hgr; have HGS := Lib.hid hgs; have HCL := Lib.hid hcl; have HSZ := Lib.hid hsz
  clear hf hff hb0 hbx hW hgr hgs hcl hv hc hval hn hN hsz
  go_enter Tryz.func132, Tryz.ntmps132
  go_wp2_with (go_at_call 156; rw [HW.out]; refine HF.out.mono ?_; unfold FoldPost; rintro e w1 ⟨⟨c1, rfl⟩, ⟨vb, hbox, hrow⟩, hb1⟩; have hc0 := hbox.cell; have HROW := Lib.hid hrow; have HB1 := Lib.hid hb1; clear hrow hb1 hbox)
  have hii := ints_of_own HROW.out rfl
  obtain ⟨A1, cc, rfl⟩ := own_slice HROW.out
  have htr := trimmed_any _ A1 cc w1 hii
  have HII := Lib.hid hii
  have HT := Lib.hid htr
  clear hii htr
  go_wp2_with (go_at_call 138; refine HT.out.mono ?_; rintro e w2 ⟨rfl, rfl⟩)
  go_ret
  refine ⟨_, rfl, ?_, HB0.out.trans HB1.out⟩
  have := ints_pre HII.out _ (Im.trim_len_le _)
  rw [← Im.trim_take, HG.out] at this
  rw [HG.out]; exact this
end Go.Proofs.YtabkodpjhpjgnaaGreatDoor

namespace Go.Proofs.YtabkodpjhpjgnaaGreatDoor
open Go.RowKit
attribute [local go_sem ↓] append_appN

/-- Block g holds the integers l from its head on, none frozen. -/
structure Arr (w : World) (g : Nat) (l : List Int) : Prop where
  lt : g < w.heap.size
  cell : ∀ j, j < l.length → w.cell? ⟨g, j, none⟩ = some (.int .i64 (l.getD j 0))
  free : ∀ j, w.frozen? ⟨g, j, none⟩ = false
theorem Arr.drew {w : World} {g : Nat} {l : List Int} (h : Arr w g l) : Arr w.drew g l := ⟨h.lt, h.cell, h.free⟩
theorem Arr.of_row {w : World} {g : Nat} {l : List Int} (h : Row w g 3 (intRow l)) : Arr w g l := ⟨h.lt, fun j hj => (h.cell j).trans (intRow_get l j hj), h.free⟩
theorem Arr.put {w : World} {g : Nat} {l : List Int} (h : Arr w g l) (k : Nat) (hk : k < l.length) (x : Int) : Arr (w.setCell ⟨g, k, none⟩ (.int .i64 x)) g (l.set k x) := by
  refine ⟨by simp [World.setCell]; exact h.lt, fun j hj => ?_, fun j => by rw [World.frozen?_setCell]; exact h.free j⟩
  rw [List.length_set] at hj
  by_cases e : k = j
  · subst e
    rw [World.cell?_setCell_same _ _ _ (h.cell k hk), List.getD_eq_getElem?_getD, List.getElem?_set_self hk]; rfl
  · rw [World.cell?_setCell_other _ _ _ _ (by intro e2; injection e2; omega), h.cell j hj, List.getD_eq_getElem?_getD, List.getD_eq_getElem?_getD, List.getElem?_set_ne e]
theorem Arr.ints {w : World} {g c : Nat} {l : List Int} (h : Arr w g l) (hc : l.length ≤ c) (hm : c ≤ maxLen) : Ints w w.heap.size (.slice (some ⟨g, 0, none⟩) l.length c) l :=
  ⟨_, _, rfl, hc, hm, .inr ⟨g, 0, rfl, h.lt, fun j x hj => by
    have hjl : j < l.length := (List.getElem?_eq_some_iff.1 hj).1
    rw [Nat.zero_add, h.cell j hjl, List.getD_eq_getElem?_getD, hj]; rfl⟩⟩
theorem Arr.below {w w' : World} {g B : Nat} {l : List Int} (h : Arr w g l) (hb : Below B w w') (hg : g < B) : Arr w' g l :=
  ⟨by have := hb.size; have := h.lt; omega, fun j hj => (hb.cell (p := ⟨g, j, none⟩) hg).trans (h.cell j hj), fun j => (hb.frozen (p := ⟨g, j, none⟩) hg).trans (h.free j)⟩
theorem Arr.of_own {w : World} {base n : Nat} {v : Value} {l : List Int} (h : w.ownsRow base 3 1 v n (intCells l)) (h0 : 0 < n) : ∃ g c, v = .slice (some ⟨g, 0, none⟩) n c ∧ Arr w g l ∧ base ≤ g ∧ n ≤ c ∧ c ≤ maxLen ∧ l.length = n := by
  have hl : l.length = n := by have := h.1; rwa [intCells_len, Nat.mul_one] at this
  rcases h.2 with ⟨_, h1⟩ | ⟨g, cap, cur, rfl, h1, h2, h3, h4, _⟩
  · omega
  · refine ⟨g, cap, rfl, ⟨(Array.getElem?_eq_some_iff.1 h2).1, fun j hj => ?_, fun j => frozen_of_row w g j cur _ h2⟩, h1, h3, h4, hl⟩
    rw [h.cellAt j (by omega)]
    simp [intCells, List.getElem?_eq_getElem hj]
/-- A store into the array, said of blocks below. -/
theorem below_put {w0 w : World} {B g k : Nat} {x : Value} (h : Below B w0 w) (hg : B ≤ g) : Below B w0 (w.setCell ⟨g, k, none⟩ x) := h.setCell hg x

/-- A slice of integers behind a row of the call's own. -/
theorem app_ints {U : World} {B n m c : Nat} {d : Value} {A : Option Addr} {D l : List Int} {t : TypeId} {i0 : TypeInfo} (hu : Tryz.prog.underlying t = some (.slice 3)) (hi0 : Tryz.prog.info? 3 = some i0) (hz0 : i0.zero = some (.int .i64 0)) (hz1 : i0.size = 1) (hz2 : i0.bytes = 8)
    (hd : U.ownsRow B 3 1 d n (intCells D)) (hv : Ints U U.heap.size (.slice A m c) l) (hn : n + m ≤ 10000) (hB : B ≤ U.heap.size) :
    ∃ v' w', Sem.run Tryz.prog (appN #[t, t] t #[d, .slice A m c]) U = .ok v' w' ∧ w'.ownsRow B 3 1 v' (n + m) (intCells (D ++ l)) ∧ Below B U w' := by
  obtain ⟨hm, _, _⟩ := ints_cap hv
  have hbl : ∀ w', U.grownBy w' d.ownBlock → Below B U w' := fun w' hg => ⟨hg.os, hg.tape, hg.output, hg.size, fun k hk => hg.block k (by omega) (fun e => by have := own_ge hd k e.symm; omega)⟩
  obtain ⟨A', c', h1, _, _, h4⟩ := hv
  injection h1 with e1 e2 e3
  subst e1; subst e3
  rcases h4 with ⟨rfl, rfl⟩ | ⟨g, off, rfl, hg, hc⟩
  · obtain rfl : m = 0 := by simpa using hm
    refine ⟨_, _, run_append_owned_none (P := Tryz.prog) U B t t 3 i0 1 hu hi0 d n _ hd, by simpa using hd, Below.refl _ _⟩
  · obtain ⟨v', w', hrun, hown, hgr, _⟩ := run_append_own (P := Tryz.prog) U B t t 3 i0 (.int .i64 0) 1 8 hu hi0 hz0 hz1 hz2 rfl (by decide)
      d n _ hd ⟨g, off, none⟩ m c (intCells l) (by rw [intCells_len, Nat.mul_one, hm]) (fun j x hj => by
        rw [show (⟨g, off, none⟩ : Addr).add j = ⟨g, off + j, none⟩ from by unfold Addr.add; split <;> simp_all]
        simp only [intCells, List.getElem?_map, Option.map_eq_some_iff] at hj
        obtain ⟨y, hy, rfl⟩ := hj
        exact hc j y hy)
      (fun x hx => by obtain ⟨t, _, rfl⟩ := List.mem_map.1 hx; rfl) (by unfold maxLen; omega) (by omega) hB
    refine ⟨v', w', hrun, ?_, hbl _ hgr⟩
    rw [show intCells (D ++ l) = intCells D ++ intCells l by simp [intCells]]; exact hown

def OwnInts (l : List Int) (w : World) (e : Ending) (w' : World) : Prop := ∃ v, e = .returned v ∧ w'.ownsRow w.heap.size 3 1 v l.length (intCells l) ∧ Below w.heap.size w w'
set_option maxHeartbeats 400000 in
theorem clone_any (l : List Int) (v : Value) (w : World) (hv : Ints w w.heap.size v l) (hl : l.length ≤ 1000) :
    Calls Tryz.prog 135 #[v] w (OwnInts l w) := by
  obtain ⟨i0, hi0, hz0, hz1, hz2⟩ := info_parts Tryz.infoInt
  have hq := fun a n c => Lib.run_eql_slice_nil (P := Tryz.prog) w 97 3 a n c 0 0 Tryz.underlying97
  obtain ⟨A, c, rfl, hc1, hc2, hA⟩ := hv
  rcases hA with ⟨rfl, rfl⟩ | ⟨g, off, rfl, hg, hc⟩
  · have hq0 := hq none 0 c
    simp only [List.length_nil]
    clear hq
    go_enter Tryz.func135, Tryz.ntmps135
    go_wp2
    go_ret
    exact ⟨_, rfl, World.ownsRow_nil _ _ _ _, Below.refl _ _⟩
  · have hq0 := hq (some ⟨g, off, none⟩) l.length c
    have hv : Ints w w.heap.size (.slice (some ⟨g, off, none⟩) l.length c) l := ⟨_, _, rfl, hc1, hc2, .inr ⟨g, off, rfl, hg, hc⟩⟩
    have ho : (w.alloc (.cells #[] 3)).ownsRow w.heap.size 3 1 (.slice (some ⟨w.heap.size, 0, none⟩) 0 0) 0 (intCells []) :=
      ⟨rfl, .inr ⟨w.heap.size, 0, #[], rfl, Nat.le_refl _, heap_alloc_new w _, Nat.le_refl _, by decide, rfl, rfl⟩⟩
    obtain ⟨v', w', hrun, hown, hb⟩ := app_ints Tryz.underlying97 hi0 hz0 hz1 hz2 ho (hv.next ((Below.refl _ w).alloc (Nat.le_refl _) _)) (by omega) (by simp)
    rw [List.nil_append, Nat.zero_add] at hown
    have HO := Lib.hid hown; have HB := Lib.hid (((Below.refl _ w).alloc (Nat.le_refl _) (.cells #[] 3)).trans hb)
    clear hq hv ho hown hb hc hi0 hz0 hz1 hz2
    simp only [Option.isNone_some] at hq0
    go_enter Tryz.func135, Tryz.ntmps135
    go_wp2
    go_ret
    exact ⟨_, rfl, HO.out, HB.out⟩
end Go.Proofs.YtabkodpjhpjgnaaGreatDoor

namespace Go.Proofs.YtabkodpjhpjgnaaGreatDoor
open Go.RowKit

/-- Copy under a name that the walk doesn't unfold. -/
def copyN (ts : Array TypeId) (t : TypeId) (vs : Array Value) := Builtin.copy_ ts t vs
theorem copy_copyN (ts : Array TypeId) (t : TypeId) (vs : Array Value) : Builtin.copy_ ts t vs = copyN ts t vs := rfl
attribute [local go_sem ↓] copy_copyN

theorem copy_ints (l : List Int) (A : Option Addr) (c N : Nat) (w0 : World) (hv : Ints w0 w0.heap.size (.slice A l.length c) l) (hN : l.length ≤ N) :
    ∃ W' : World, Sem.run Tryz.prog (copyN #[40, 97] 3 #[.slice (some ⟨w0.heap.size, 0, none⟩) N N, .slice A l.length c]) (w0.alloc (.cells (intRow (List.replicate N 0)) 3)) = .ok (.int .i64 (l.length : Int)) W' ∧
      Arr W' w0.heap.size (l ++ List.replicate (N - l.length) 0) ∧ Below w0.heap.size w0 W' := by
  have hb0 : Below w0.heap.size w0 (w0.alloc (.cells (intRow (List.replicate N 0)) 3)) := (Below.refl _ w0).alloc (Nat.le_refl _) _
  have hsz : (Tryz.prog.info? 3).map (·.size) = some 1 := by kernel_rfl
  have hrow := Row.new w0 3 (intRow (List.replicate N 0))
  obtain ⟨A', c', h1, h2, h3, h4⟩ := hv
  injection h1 with e1 e2 e3
  subst e1; subst e3
  by_cases h0 : l.length = 0
  · obtain rfl : l = [] := List.eq_nil_of_length_eq_zero h0
    refine ⟨_, run_copy_none (P := Tryz.prog) _ 40 97 3 3 _ A N N 0 c Tryz.underlying40 hsz (by simp), ?_, hb0⟩
    rw [List.nil_append, List.length_nil, Nat.sub_zero]
    exact Arr.of_row hrow
  · rcases h4 with ⟨_, rfl⟩ | ⟨g, off, rfl, hg, hc⟩
    · simp at h0
    · have := run_copy_row (P := Tryz.prog) (w0.alloc (.cells (intRow (List.replicate N 0)) 3)) 40 97 3 3 w0.heap.size 0 N N ⟨g, off, none⟩ l.length c (intRow (List.replicate N 0)) 3 (intCells l)
        Tryz.underlying40 hsz hrow (by rw [intCells_len]; exact (Nat.min_eq_left hN).symm) (fun j x hj => by
          rw [show (⟨g, off, none⟩ : Addr).add j = ⟨g, off + j, none⟩ from by unfold Addr.add; split <;> simp_all]
          simp only [intCells, List.getElem?_map, Option.map_eq_some_iff] at hj
          obtain ⟨y, hy, rfl⟩ := hj
          exact (hb0.cell (p := ⟨g, off + j, none⟩) hg).trans (hc j y hy)) (by rw [intCells_len, intRow_size, List.length_replicate]; omega)
        (fun x hx => by obtain ⟨t, _, rfl⟩ := List.mem_map.1 hx; rfl)
      rw [intCells_len] at this
      refine ⟨_, this, ?_, ?_⟩
      · have e : ((intRow (List.replicate N 0)).toList.take 0 ++ intCells l ++ (intRow (List.replicate N 0)).toList.drop (0 + l.length)).toArray = intRow (l ++ List.replicate (N - l.length) 0) := by
          simp [intRow, intCells]
        rw [e]
        exact Arr.of_row (setRow_heap _ _ _ _ _ _ hrow)
      · exact below_setRow hb0 (Nat.le_refl _) _

theorem run_max2 {P : Program} {w : World} (ts : Array TypeId) (t : TypeId) (k k1 : IntKind) (x y n : Int) (h : max x y = n) :
    Sem.run P (Builtin.max_ ts t #[.int k x, .int k1 y]) w = .ok (.int k n) w := by
  have e : (if y > x then y else x) = n := by split <;> omega
  simp [Builtin.max_, Builtin.max2, e]
theorem run_min2 {P : Program} {w : World} (ts : Array TypeId) (t : TypeId) (k k1 : IntKind) (x y n : Int) (h : min x y = n) :
    Sem.run P (Builtin.min_ ts t #[.int k x, .int k1 y]) w = .ok (.int k n) w := by
  have e : (if y < x then y else x) = n := by split <;> omega
  simp [Builtin.min_, Builtin.min2, e]

set_option maxRecDepth 100000 in
set_option maxHeartbeats 1000000 in
theorem plus_any (va vb : Value) (a b : Nat) (w : World) (ha : Mag w va a) (hb : Mag w vb b) (la : (Im.grp a).length ≤ 400) (lb : (Im.grp b).length ≤ 400) :
    Calls Tryz.prog 111 #[va, vb] w (MagPost (a + b) w) := by
  obtain ⟨A, ca, rfl, hca1, hca2⟩ := ints_form ha
  obtain ⟨B, cb, rfl, hcb1, hcb2⟩ := ints_form hb
  obtain ⟨M, hM⟩ : ∃ M, max (Im.grp a).length (Im.grp b).length = M := ⟨_, rfl⟩
  have hlt := Im.plus_lt a b M (by omega) (by omega)
  obtain ⟨W, hrun, harr, hbW⟩ := copy_ints (Im.grp a) A ca (M + 1) w ha (by omega)
  have hst := Im.colI_start 1 a (M + 1) (Im.grp b) (by omega)
  have hgs := Im.grp_gs b
  have HV := Lib.hid (fun k hk => ints_at (hb.below hbW) k hk)
  have hcar := fun L v u hv hl hc hval hn => carried_any L (a + b) v u hv hl hc hval hn
  have hgb := Im.grp_val b
  obtain ⟨la', hla⟩ : ∃ n, (Im.grp a).length = n := ⟨_, rfl⟩
  obtain ⟨gb, hgbe⟩ : ∃ g, Im.grp b = g := ⟨_, rfl⟩
  rw [hgbe] at hM hgs hst HV hgb hcb1 lb ⊢
  rw [hla] at hrun harr hM hca1 la hst ⊢
  obtain ⟨N, hN⟩ : ∃ n, gb.length = n := ⟨_, rfl⟩
  rw [hN] at hM hcb1 lb ⊢
  have hmx := fun (w : World) => run_max2 (P := Tryz.prog) (w := w) #[3, 3] 3 .i64 .i64 la' N M (by omega)
  have hmk : ∀ w, (Instr.makeSlice 40 (.int .i64 ((M : Int) + 1)) (.int .i64 ((M : Int) + 1))).run Tryz.prog w = .ok (.slice (some ⟨w.heap.size, 0, none⟩) (M + 1) (M + 1)) (w.alloc (.cells (intRow (List.replicate (M + 1) 0)) 3)) := fun w => mk_int (M + 1) (M + 1) w (Nat.le_refl _) (by omega)
  obtain ⟨L0, hL0⟩ : ∃ L, Im.grp a ++ List.replicate (M + 1 - la') 0 = L := ⟨_, rfl⟩
  rw [hL0] at harr hst
  have HST := Lib.hid hst; have HARR := Lib.hid harr; have HB := Lib.hid hbW; have HGS := Lib.hid hgs; have HN := Lib.hid hN; have HLT := Lib.hid hlt; have HCAR := Lib.hid hcar; have HGB := Lib.hid hgb
  have hM2 : M ≤ 400 := by omega
  have hNM : N ≤ M := by omega
  clear hst harr hbW hgs hN hlt hcar hM hL0 ha hb hla hgbe hgb
  go_enter Tryz.func111, Tryz.ntmps111
  go_wp2
  clear hrun hmk hmx
  go_loopw [6, 7, 20] (fun _ _ i wr => ∃ (k : Nat) (L : List Int), k ≤ N ∧ i = .int .i64 (k : Int) ∧ Hid (Im.ColI 1 a gb (M + 1) k L) ∧ Hid (Arr wr w.heap.size L) ∧ Hid (Below w.heap.size w wr)) (fun _ _ i _ => N - (intOf i).toNat)
  case atStart => exact ⟨0, L0, by omega, rfl, HST, HARR, HB⟩
  case round =>
    obtain ⟨k, L, hk, rfl, HI, HA, HW⟩ := hrel
    by_cases hlt : k < N
    · have hkl : k < gb.length := by have := HN.out; omega
      obtain ⟨g, off, rfl, hg, hcell⟩ := HV.out k hkl
      have c0 : wr.cell? ⟨g, off + k, none⟩ = some (.int .i64 (gb.getD k 0)) := by
        have h1 := hcell k hkl
        rw [HB.out.cell (p := ⟨g, off + k, none⟩) hg] at h1
        exact (HW.out.cell (p := ⟨g, off + k, none⟩) hg).trans h1
      have hkL : k < L.length := by have := HI.out.len; omega
      have c1 := HA.out.cell k hkL
      have f1 := HA.out.free k
      have hgy := Im.gs_getD HGS.out k
      have hgx := HI.out.rest k (by omega) (Nat.le_refl _)
      have hstep := Im.colI_step HI.out (.inl rfl) HGS.out hkl (by omega)
      have hput := HA.out.put k hkL (L.getD k 0 + 1 * gb.getD k 0)
      rw [Int.one_mul] at hstep hput
      obtain ⟨x, hx⟩ : ∃ x, L.getD k 0 = x := ⟨_, rfl⟩
      obtain ⟨y, hy⟩ : ∃ x, gb.getD k 0 = x := ⟨_, rfl⟩
      rw [hx] at c1 hgx hstep hput; rw [hy] at c0 hgy hstep hput
      obtain ⟨gx1, gx2⟩ := hgx
      obtain ⟨gy1, gy2⟩ := hgy
      have HS := Lib.hid hstep; have HP := Lib.hid hput
      clear hstep hput hx hy hcell hkl hkL
      have i1 : (0 : Int) ≤ (k : Int) := by omega
      have i2 : (k : Int) < (N : Int) := by omega
      have i3 : (k : Int) < (M : Int) + 1 := by omega
      have i4 : (k : Int) < ((M + 1 : Nat) : Int) := by omega
      go_wp2
      go_roundw
      case rel => exact ⟨k + 1, L.set k (x + y), by omega, by go_num, HS, HP, Lib.hid (HW.out.setCell (by simp) _)⟩
      case measure => simp [intOf]; omega
    · obtain rfl : k = N := by omega
      have hI := HI.out
      have hv := hI.val
      rw [List.take_of_length_le (by have := HN.out; omega), HGB.out] at hv
      have hcr := HCAR.out L (.slice (some ⟨w.heap.size, 0, none⟩) (M + 1) (M + 1)) wr (by have := HA.out.ints (c := M + 1) (by rw [hI.len]; exact Nat.le_refl _) (by unfold maxLen; omega); rwa [hI.len] at this) (by rw [hI.len]; omega) (Im.colI_small hI) (by rw [hv]; omega)
        (by rw [hI.len]; exact Im.cast_lt HLT.out)
      have HC := Lib.hid hcr
      clear hI hv hcr hlt
      go_wp2_with (go_at_call 132; refine HC.out.mono ?_; unfold MagPost; rintro e w2 ⟨v2, rfl, hm2, hb2⟩)
      go_ret
      exact ⟨_, rfl, hm2, below_to HW.out hb2⟩
end Go.Proofs.YtabkodpjhpjgnaaGreatDoor

namespace Go.Proofs.YtabkodpjhpjgnaaGreatDoor
open Go.RowKit

theorem magPost_nil {n : Nat} (h : n = 0) (w : World) : MagPost n w (.returned (.slice none 0 0)) w := by
  subst h; exact ⟨_, rfl, ints_nil _ _, Below.refl _ _⟩

set_option maxRecDepth 100000 in
set_option maxHeartbeats 1000000 in
theorem minus_any (va vb : Value) (a b : Nat) (w : World) (ha : Mag w va a) (hb : Mag w vb b) (hab : b ≤ a) (la : (Im.grp a).length ≤ 400) :
    Calls Tryz.prog 113 #[va, vb] w (MagPost (a - b) w) := by
  have hlen := Im.len_mono hab
  have hcl := clone_any (Im.grp a) va w ha (by omega)
  have hst := Im.colI_own (-1) a (Im.grp b)
  have hgs := Im.grp_gs b
  have hgb := Im.grp_val b
  have halt := Im.grp_lt a
  have hcar := fun L v u hv hl hc hval hn => carried_any L (a - b) v u hv hl hc hval hn
  obtain ⟨A, ca, rfl, hca1, hca2⟩ := ints_form ha
  obtain ⟨B, cb, rfl, hcb1, hcb2⟩ := ints_form hb
  have HV := Lib.hid (fun k hk => ints_at hb k hk)
  obtain ⟨ga, hga⟩ : ∃ g, Im.grp a = g := ⟨_, rfl⟩
  obtain ⟨gb, hgbe⟩ : ∃ g, Im.grp b = g := ⟨_, rfl⟩
  rw [hga] at hlen hcl hst hca1 la halt ⊢
  rw [hgbe] at hlen hst hgs HV hgb hcb1 ⊢
  obtain ⟨M, hM⟩ : ∃ n, ga.length = n := ⟨_, rfl⟩
  obtain ⟨N, hN⟩ : ∃ n, gb.length = n := ⟨_, rfl⟩
  rw [hM] at hlen hcl hst hca1 la halt ⊢; rw [hN] at hlen hcb1 ⊢
  have HST := Lib.hid hst; have HGS := Lib.hid hgs; have HN := Lib.hid hN; have HCAR := Lib.hid hcar; have HGB := Lib.hid hgb; have HCL := Lib.hid hcl; have HALT := Lib.hid halt; have HMM := Lib.hid hM
  clear hst hgs hN hcar hgb hcl halt hM ha hb hga hgbe
  go_enter Tryz.func113, Tryz.ntmps113
  go_wp2_with (go_at_call 135; refine HCL.out.mono ?_; unfold OwnInts; rintro e W ⟨v, rfl, hown, hbW⟩; have HO := Lib.hid hown; have HB := Lib.hid hbW; clear hown hbW)
  by_cases hN0 : N = 0
  · have hv := HST.out.val
    obtain ⟨A1, c1, rfl⟩ := own_slice HO.out
    have hown := HO.out
    rw [HMM.out] at hown
    obtain ⟨hk1, hk2, hk3⟩ := ints_cap (ints_of_own hown HMM.out)
    have hcr := HCAR.out ga (.slice A1 ga.length c1) W (ints_of_own HO.out rfl) (by rw [HMM.out]; omega) (Im.colI_small HST.out) (by rw [hv, List.take_zero]; have := HGB.out; rw [List.eq_nil_of_length_eq_zero (show gb.length = 0 by rw [HN.out]; exact hN0)] at this; simp [Im.val] at this ⊢; omega)
      (by have := HALT.out; rw [HMM.out]; exact Im.cast_lt (Nat.lt_of_le_of_lt (Nat.sub_le _ _) this))
    subst hN0
    have HC := Lib.hid hcr
    clear hv hown hk1 hk2 hk3 hcr
    go_wp2
    go_loopw [6, 7, 12] (fun _ _ i wr => i = .int .i64 0 ∧ wr = W) (fun _ _ _ _ => 0)
    case atStart => exact ⟨rfl, rfl⟩
    case round =>
      obtain ⟨rfl, rfl⟩ := hrel
      go_wp2_with (go_at_call 132; refine HC.out.mono ?_; unfold MagPost; rintro e w2 ⟨v2, rfl, hm2, hb2⟩)
      go_ret
      exact ⟨_, rfl, hm2, below_to HB.out hb2⟩
  · obtain ⟨g0, c0, rfl, harr, hge, hgc, hgm, hgl⟩ := Arr.of_own HO.out (by have := HMM.out; omega)
    unfold maxLen at hgm
    have HA0 := Lib.hid harr
    rw [HMM.out] at hgc
    have hM0 := HMM.out
    have HGE := Lib.hid hge
    clear harr hgl HO
    rw [hM0]
    clear hM0
    go_wp2
    go_loopw [6, 7, 12] (fun _ _ i wr => ∃ (k : Nat) (L : List Int), k ≤ N ∧ i = .int .i64 (k : Int) ∧ Hid (Im.ColI (-1) a gb M k L) ∧ Hid (Arr wr g0 L) ∧ Hid (Below w.heap.size w wr)) (fun _ _ i _ => N - (intOf i).toNat)
    case atStart => exact ⟨0, ga, by omega, rfl, HST, HA0, HB⟩
    case round =>
      obtain ⟨k, L, hk, rfl, HI, HA, HW⟩ := hrel
      by_cases hlt : k < N
      · have hkl : k < gb.length := by have := HN.out; omega
        obtain ⟨g, off, rfl, hg, hcell⟩ := HV.out k hkl
        have c0 := (HW.out.cell (p := ⟨g, off + k, none⟩) hg).trans (hcell k hkl)
        have hkL : k < L.length := by have := HI.out.len; omega
        have c1 := HA.out.cell k hkL
        have f1 := HA.out.free k
        have hgy := Im.gs_getD HGS.out k
        have hgx := HI.out.rest k (by omega) (Nat.le_refl _)
        have hstep := Im.colI_step HI.out (.inr rfl) HGS.out hkl (by omega)
        have e1 : L.getD k 0 + -1 * gb.getD k 0 = L.getD k 0 - gb.getD k 0 := by omega
        have hput := HA.out.put k hkL (L.getD k 0 - gb.getD k 0)
        rw [e1] at hstep
        obtain ⟨x, hx⟩ : ∃ x, L.getD k 0 = x := ⟨_, rfl⟩
        obtain ⟨y, hy⟩ : ∃ x, gb.getD k 0 = x := ⟨_, rfl⟩
        rw [hx] at c1 hgx hstep hput; rw [hy] at c0 hgy hstep hput
        obtain ⟨gx1, gx2⟩ := hgx
        obtain ⟨gy1, gy2⟩ := hgy
        have HS := Lib.hid hstep; have HP := Lib.hid hput
        clear hstep hput hx hy hcell hkl hkL e1
        have i1 : (0 : Int) ≤ (k : Int) := by omega
        have i2 : (k : Int) < (N : Int) := by omega
        have i3 : (k : Int) < (M : Int) := by omega
        go_wp2
        go_roundw
        case rel => exact ⟨k + 1, L.set k (x - y), by omega, by go_num, HS, HP, Lib.hid (HW.out.setCell HGE.out _)⟩
        case measure => simp [intOf]; omega
      · obtain rfl : k = N := by omega
        have hI := HI.out
        have hv := hI.val
        rw [List.take_of_length_le (by have := HN.out; omega), HGB.out] at hv
        have hcr := HCAR.out L (.slice (some ⟨g0, 0, none⟩) M c0) wr (by have := HA.out.ints (c := c0) (by rw [hI.len]; exact hgc) (by unfold maxLen; omega); rwa [hI.len] at this) (by rw [hI.len]; omega) (Im.colI_small hI) (by rw [hv]; omega)
          (by rw [hI.len]; exact Im.cast_lt (Nat.lt_of_le_of_lt (Nat.sub_le _ _) HALT.out))
        have HC := Lib.hid hcr
        clear hI hv hcr hlt
        go_wp2_with (go_at_call 132; refine HC.out.mono ?_; unfold MagPost; rintro e w2 ⟨v2, rfl, hm2, hb2⟩)
        go_ret
        exact ⟨_, rfl, hm2, below_to HW.out hb2⟩

set_option maxRecDepth 100000 in
set_option maxHeartbeats 2000000 in
theorem times_any (va vb : Value) (a b : Nat) (w : World) (ha : Mag w va a) (hb : Mag w vb b) (la : (Im.grp a).length ≤ 400) (lb : (Im.grp b).length ≤ 400) :
    Calls Tryz.prog 136 #[va, vb] w (MagPost (a * b) w) := by
  obtain ⟨A, ca, rfl, hca1, hca2⟩ := ints_form ha
  obtain ⟨B, cb, rfl, hcb1, hcb2⟩ := ints_form hb
  have hlt := Im.times_lt a b
  have HVA := Lib.hid (fun k hk => ints_at ha k hk)
  have HVB := Lib.hid (fun k hk => ints_at hb k hk)
  have hgsa := Im.grp_gs a
  have hgsb := Im.grp_gs b
  have hend := fun (N : Nat) (L : List Int) => Im.mulI_end (a := a) (b := b) (N := N) (L := L)
  have hcar := fun L v u hv hl hc hval hn => carried_any L (a * b) v u hv hl hc hval hn
  obtain ⟨ga, hga⟩ : ∃ g, Im.grp a = g := ⟨_, rfl⟩
  obtain ⟨gb, hgb⟩ : ∃ g, Im.grp b = g := ⟨_, rfl⟩
  rw [hga] at hlt HVA hgsa hend hca1 la ⊢
  rw [hgb] at hlt HVB hgsb hend hcb1 lb ⊢
  obtain ⟨M, hM⟩ : ∃ n, ga.length = n := ⟨_, rfl⟩
  obtain ⟨N, hN⟩ : ∃ n, gb.length = n := ⟨_, rfl⟩
  rw [hM] at hlt hend hca1 la ⊢; rw [hN] at hlt hcb1 lb ⊢
  have hmk : ∀ w, (Instr.makeSlice 40 (.int .i64 ((M : Int) + (N : Int))) (.int .i64 ((M : Int) + (N : Int)))).run Tryz.prog w = .ok (.slice (some ⟨w.heap.size, 0, none⟩) (M + N) (M + N)) (w.alloc (.cells (intRow (List.replicate (M + N) 0)) 3)) := fun w => mk_int (M + N) (M + N) w (Nat.le_refl _) (by omega)
  have HST := Lib.hid (Im.mulI_start ga gb (M + N))
  have HARR := Lib.hid (Arr.of_row (Row.new w 3 (intRow (List.replicate (M + N) 0))))
  have HB := Lib.hid ((Below.refl w.heap.size w).alloc (Nat.le_refl _) (.cells (intRow (List.replicate (M + N) 0)) 3))
  have HM := Lib.hid hM; have HN := Lib.hid hN; have HLT := Lib.hid hlt; have HCAR := Lib.hid hcar; have HEND := Lib.hid hend; have HGA := Lib.hid hgsa; have HGB := Lib.hid hgsb
  clear hM hN hlt hcar hend hgsa hgsb ha hb hga hgb
  go_enter Tryz.func136, Tryz.ntmps136
  go_wp2
  clear hmk
  go_loopw [6, 7, 8, 9, 18, 23, 24, 25] (fun _ _ _ _ i _ _ _ wr => ∃ (k : Nat) (L : List Int), k ≤ M ∧ i = .int .i64 (k : Int) ∧ Hid (Im.MulI ga gb (M + N) k 0 L) ∧ Hid (Arr wr w.heap.size L) ∧ Hid (Below w.heap.size w wr)) (fun _ _ _ _ i _ _ _ _ => M - (intOf i).toNat)
  case atStart => exact ⟨0, _, by omega, rfl, HST, HARR, HB⟩
  case round =>
    obtain ⟨i, L, hi, rfl, HI, HA, HW⟩ := hrel
    by_cases hlt : i < M
    · have hil : i < ga.length := by have := HM.out; omega
      obtain ⟨g, off, rfl, hg, hcell⟩ := HVA.out i hil
      have c0 := (HW.out.cell (p := ⟨g, off + i, none⟩) hg).trans (hcell i hil)
      have hgx := Im.gs_getD HGA.out i
      obtain ⟨x, hx⟩ : ∃ x, ga.getD i 0 = x := ⟨_, rfl⟩
      rw [hx] at c0 hgx
      have HX := Lib.hid hx
      obtain ⟨gx1, gx2⟩ := hgx
      clear hcell hx hil
      have i1 : (0 : Int) ≤ (i : Int) := by omega
      have i2 : (i : Int) < (M : Int) := by omega
      obtain ⟨wo, hwo⟩ : ∃ wo : World, wo = wr := ⟨_, rfl⟩
      subst hwo
      go_wp2
      go_loopw [8, 9, 25] (fun _ _ jj wr => ∃ (j : Nat) (L : List Int), j ≤ N ∧ jj = .int .i64 (j : Int) ∧ Hid (Im.MulI ga gb (M + N) i j L) ∧ Hid (Arr wr w.heap.size L) ∧ Hid (Below w.heap.size w wr)) (fun _ _ jj _ => N - (intOf jj).toNat)
      case atStart => exact ⟨0, L, by omega, rfl, HI, HA, HW⟩
      case round =>
        obtain ⟨j, L, hj, rfl, HI, HA, HW⟩ := hrel
        by_cases hltj : j < N
        · have hjl : j < gb.length := by have := HN.out; omega
          obtain ⟨g2, off2, rfl, hg2, hcell2⟩ := HVB.out j hjl
          have c1 := (HW.out.cell (p := ⟨g2, off2 + j, none⟩) hg2).trans (hcell2 j hjl)
          have hkL : i + j < L.length := by have := HI.out.len; omega
          have c2 := HA.out.cell (i + j) hkL
          have f2 := HA.out.free (i + j)
          have hgy := Im.gs_getD HGB.out j
          have hgz := Im.mulI_cell HI.out (by omega) (by omega) (by have := HN.out; omega) (i + j) (by omega)
          have hstep := Im.mulI_step HI.out HGA.out HGB.out hjl (by omega)
          have hput := HA.out.put (i + j) hkL (L.getD (i + j) 0 + ga.getD i 0 * gb.getD j 0)
          rw [HX.out] at hstep hput
          obtain ⟨z, hz⟩ : ∃ x, L.getD (i + j) 0 = x := ⟨_, rfl⟩
          obtain ⟨y, hy⟩ : ∃ x, gb.getD j 0 = x := ⟨_, rfl⟩
          rw [hz] at c2 hgz hstep hput; rw [hy] at c1 hgy hstep hput
          obtain ⟨gy1, gy2⟩ := hgy
          obtain ⟨gz1, gz2⟩ := hgz
          have hp1 : 0 ≤ x * y := Int.mul_nonneg gx1 gy1
          have hp2 : x * y ≤ 9999 * 9999 := Int.mul_le_mul gx2 gy2 gy1 (by omega)
          obtain ⟨p, hp⟩ : ∃ p, x * y = p := ⟨_, rfl⟩
          rw [hp] at hstep hput hp1 hp2
          have hw1 : IntKind.i64.wrap p = p := IntWalk.i64_in _ (by omega)
          have hw2 : IntKind.i64.wrap (x * y) = p := by rw [hp]; exact hw1
          have hw3 : IntKind.i64.wrap (z + p) = z + p := IntWalk.i64_in _ (by omega)
          have HS := Lib.hid hstep; have HP := Lib.hid hput
          clear hstep hput hz hy hcell2 hjl hkL
          have j1 : (0 : Int) ≤ (j : Int) := by omega
          have j2 : (j : Int) < (N : Int) := by omega
          have j3 : (i : Int) + (j : Int) < (M : Int) + (N : Int) := by omega
          have j4 : (0 : Int) ≤ (i : Int) + (j : Int) := by omega
          have j5 : ((i : Int) + (j : Int)).toNat = i + j := by omega
          have j6 : (i : Int) + (j : Int) < ((M + N : Nat) : Int) := by omega
          go_wp2
          go_roundw
          case rel => exact ⟨j + 1, L.set (i + j) (z + p), by omega, by go_num, HS, HP, Lib.hid (HW.out.setCell (Nat.le_refl _) _)⟩
          case measure => simp [intOf]; omega
        · obtain rfl : j = N := by omega
          have HI2 := Lib.hid (Im.mulI_row (N := M + j) (i := i) (L := L) (ga := ga) (gb := gb) (by rw [HN.out]; exact HI.out) (by rw [HM.out]; exact hlt))
          clear hltj
          go_wp2
          go_roundw
          case rel => exact ⟨i + 1, L, by omega, by go_num, HI2, HA, HW⟩
          case measure => simp [intOf]; omega
    · obtain rfl : i = M := by omega
      have hI := HI.out
      have hv := HEND.out _ _ hI
      have hcr := HCAR.out L (.slice (some ⟨w.heap.size, 0, none⟩) (i + N) (i + N)) wr (by have := HA.out.ints (c := i + N) (by rw [hI.len]; exact Nat.le_refl _) (by unfold maxLen; omega); rwa [hI.len] at this) (by rw [hI.len]; omega) (Im.mulI_small hI (by omega) (by omega) (by rw [HN.out]; omega)) hv
        (by rw [hI.len]; exact Im.cast_lt HLT.out)
      have HC := Lib.hid hcr
      clear hI hv hcr hlt
      go_wp2_with (go_at_call 132; refine HC.out.mono ?_; unfold MagPost; rintro e w2 ⟨v2, rfl, hm2, hb2⟩)
      go_ret
      exact ⟨_, rfl, hm2, below_to HW.out hb2⟩

set_option maxHeartbeats 400000 in
theorem timesGroup_any (va : Value) (a g : Nat) (w : World) (ha : Mag w va a) (la : (Im.grp a).length ≤ 400) (hg : g < 10000) :
    Calls Tryz.prog 137 #[va, .int .i64 (g : Int)] w (MagPost (a * g) w) := by
  obtain ⟨W, hW⟩ : ∃ W, w.alloc (.cells #[.int .i64 (g : Int)] 3) = W := ⟨_, rfl⟩
  have hb0 : Below w.heap.size w W := by rw [← hW]; exact (Below.refl _ w).alloc (Nat.le_refl _) _
  have hii : Ints W W.heap.size (.slice (some ⟨w.heap.size, 0, none⟩) [(g : Int)].length 1) [(g : Int)] := by
    rw [← hW]; exact ints_of_row (l := [(g : Int)]) (Row.new w 3 _) (by simp)
  have hgs : Im.Gs [(g : Int)] := Im.Gs.cons (by omega) (by omega) Im.Gs.nil
  have htr := trimmed_any [(g : Int)] (some ⟨w.heap.size, 0, none⟩) 1 W hii
  have hmg := trimmed_ints hii g hgs (by simp [Im.val])
  have htm := times_any va _ a g W (ha.next hb0) hmg la (by have := Im.grp_len g 1 (by omega); omega)
  have HW := Lib.hid hW; have HT := Lib.hid htr; have HM := Lib.hid htm; have HB := Lib.hid hb0
  clear hW htr htm hb0 hii hmg hgs ha
  go_enter Tryz.func137, Tryz.ntmps137
  go_wp2_with (first | (go_at_call 138; rw [HW.out]; refine HT.out.mono ?_; rintro e w1 ⟨rfl, rfl⟩) | (go_at_call 136; refine HM.out.mono ?_; unfold MagPost; rintro e w1 ⟨v1, rfl, hm, hb⟩))
  go_ret
  exact ⟨_, rfl, hm, below_to HB.out hb⟩
end Go.Proofs.YtabkodpjhpjgnaaGreatDoor

namespace Go.Proofs.YtabkodpjhpjgnaaGreatDoor
open Go.RowKit Go.Shelf

/-- All blocks that lay keep what they held, but those of which 'no' speaks. -/
structure Keeps (no : Nat → Prop) (W W' : World) : Prop where
  os : W'.os = W.os
  tape : W'.tape = W.tape
  output : W'.output = W.output
  size : W.heap.size ≤ W'.heap.size
  block : ∀ k, k < W.heap.size → ¬ no k → W'.heap[k]? = W.heap[k]?
theorem Keeps.refl (no : Nat → Prop) (W : World) : Keeps no W W := ⟨rfl, rfl, rfl, Nat.le_refl _, fun _ _ _ => rfl⟩
theorem Keeps.trans {no : Nat → Prop} {A B C : World} (h : Keeps no A B) (k : Keeps no B C) : Keeps no A C :=
  ⟨k.os.trans h.os, k.tape.trans h.tape, k.output.trans h.output, Nat.le_trans h.size k.size, fun i hi hn => (k.block i (Nat.lt_of_lt_of_le hi h.size) hn).trans (h.block i hi hn)⟩
theorem Keeps.putObj {no : Nat → Prop} {W : World} {r : Nat} {o : Obj} (h : no r) : Keeps no W (W.putObj r o) :=
  ⟨rfl, rfl, rfl, by simp, fun k _ hn => World.putObj_heap_other (fun e => hn (e ▸ h))⟩
theorem Keeps.of_below {no : Nat → Prop} {W W' : World} (h : Below W.heap.size W W') : Keeps no W W' := ⟨h.os, h.tape, h.output, h.size, fun k hk _ => h.block k hk⟩
theorem Keeps.setCell {no : Nat → Prop} {W : World} {p : Addr} (h : no p.block) (u : Value) : Keeps no W (W.setCell p u) :=
  ⟨rfl, rfl, rfl, by simp [World.setCell], fun k _ hn => Below.heap_setCell _ _ _ _ (fun e => hn (e ▸ h))⟩
theorem Keeps.setRow {no : Nat → Prop} {W : World} {g : Nat} (h : no g) (cs : Array Value) : Keeps no W (W.setRow g cs) :=
  ⟨rfl, rfl, rfl, by simp [World.setRow], fun k _ hn => setRow_other _ _ _ _ (fun e => hn (e ▸ h))⟩
theorem Keeps.below {no : Nat → Prop} {W W' : World} {B : Nat} (h : Keeps no W W') (hn : ∀ k, no k → B ≤ k) (hB : B ≤ W.heap.size) : Below B W W' :=
  ⟨h.os, h.tape, h.output, h.size, fun k hk => h.block k (by omega) (fun e => by have := hn k e; omega)⟩

variable {F : Fence} {n : Nat} {P : Program}

def GivesN (F : Fence) (n : Nat) (P : Program) (g : Nat) (lb : Array Value) (encs : Nat → Array Value) (no : World → Nat → Prop) (fix : Nat → Prop) (N : Nat) (w : World) : Prop :=
  ∀ (l : Nat) (J Jx : Nat → World → Prop) (W : World), Below w.heap.size w W → W.heap.size = w.heap.size + 2 → l = w.heap.size + 1 →
    (∀ k X Y, J k X → Below X.heap.size X Y → J k Y) →
    (∀ k X Y j, J k X → Below X.heap.size X Y → no Y j → j < X.heap.size ∧ ¬ fix j) →
    (∀ k W1, k < N → J k W1 → W.heap.size ≤ W1.heap.size → YieldAt F (n - 1) P l (encs k) W1 fun e W' => (e = .returned (.bool true) ∧ J (k + 1) W' ∧ Keeps (no W1) W1 W') ∨ (e = .returned (.bool false) ∧ Jx k W')) →
    J 0 W →
    CallsIn F n P g (#[.func (.yield l) #[] #[]] ++ lb) W fun e W' => (∃ v, e = .returned v) ∧ (J N W' ∨ ∃ k, k < N ∧ Jx k W')

def goesN (I : Nat → World → Prop) (Ix : Code → Nat → World → Prop) (no : World → Nat → Prop) (k : Nat) (W : World) : Exit → Act → World → Prop
  | .normal, _, W' => Keeps (no W) W W' ∧ I (k + 1) W'
  | .ret, _, W' => Keeps (no W) W W' ∧ Ix .ret k W'
  | .exit id, _, W' => Keeps (no W) W W' ∧ Ix (.exit id) k W'
  | _, _, _ => False

theorem rangeFunc_n {g : Operand} {ps : Array Tmp} {assign body : Code} {Q : Exit → Act → World → Prop} {a : Act} {w : World}
    (hro : F.round = none) (h1 : 1 ≤ n) {gf : Nat} {lb : Array Value} (hg : a.eval g = .func (.func gf) #[] lb) (hFg : F.fn gf) (eg : ∀ args w, (callFunc gf args).run P w = .ok (.enter gf args) w)
    {encs : Nat → Array Value} {no : World → Nat → Prop} {fix : Nat → Prop} {N : Nat} (hseq : GivesN F (n - 1) P gf lb encs (fun X k => no X k ∨ k = w.heap.size ∨ k = w.heap.size + 1) fix N w)
    (hps : ∀ x, (encs x).size = ps.size) (hfix : ∀ k, fix k → k < w.heap.size)
    (I : Nat → World → Prop) (hno : ∀ pre X Y k, I pre X → Below X.heap.size X Y → no Y k → no X k ∧ k < X.heap.size ∧ ¬ fix k ∧ k ≠ w.heap.size ∧ k ≠ w.heap.size + 1) (hnp : ∀ pre X o k, I pre X → no (X.putObj (w.heap.size + 1) o) k → no X k)
    (Ix : Code → Nat → World → Prop) (hIx : ∀ c pre X r o, r = w.heap.size + 1 → (∃ L, X.heap[r]? = some (.loop L)) → Ix c pre X → Ix c pre (X.putObj r o)) (hI : ∀ pre X Y, I pre X → Below X.heap.size X Y → I pre Y) (hIp : ∀ pre X r o, r = w.heap.size + 1 → (∃ L, X.heap[r]? = some (.loop L)) → I pre X → I pre (X.putObj r o)) (h0 : I 0 w) (Ax : Nat → Act → World → Prop)
    (hAx : ∀ x a' W r o, w.heap.size ≤ r → r < w.heap.size + 2 → Ax x a' W → Ax x a' (W.putObj r o))
    (hassign : ∀ (l : Nat) (k : Nat) (W : World) (K : Act → World → Prop), k < N → w.heap.size + 2 ≤ W.heap.size → I k W → (∀ a' W', Below W.heap.size W W' → Ax k a' W' → K a' W') →
      assign.wpIn (F.inRound l) (n - 1 - 1) P (Exit.then K (fun _ _ _ => False)) { tmps := (ps.zip (encs k)).foldl (fun t (p, v) => t.setIfInBounds p v) a.tmps, defers := [] } W)
    (hbody : ∀ (l : Nat) (k : Nat) (a' : Act) (W : World), k < N → w.heap.size + 2 ≤ W.heap.size → I k W → Ax k a' W → body.wpIn (F.inRound l) (n - 1 - 1) P (goesN I Ix no k W) a' W)
    (hdone : ∀ (D : Nat) (W : World), w.heap.size ≤ D → I N W → W.heap[D]? = some (.deferred (some [])) → Q .normal { a with defers := { target := .collected D, args := #[] } :: a.defers } W)
    (hstop : ∀ (D : Nat) (c : Code) (k : Nat) (W : World), w.heap.size ≤ D → k < N → Ix c k W → W.heap[D]? = some (.deferred (some [])) → c.wpIn F n P Q { a with defers := { target := .collected D, args := #[] } :: a.defers } W) :
    (Code.rangeFunc g ps assign body).wpIn F n P Q a w := by
  refine wpIn_rangeFunc ?_
  intro fn hfn
  rw [hro]
  obtain ⟨rec, hrec⟩ : ∃ rec : LoopState → Option Code → Loop, rec = fun st pe => { state := st, pending := pe, fn, tmps := a.tmps, params := ps, assign, body, defers := w.heap.size } := ⟨_, rfl⟩
  obtain ⟨W1, hW1⟩ : ∃ W1, (w.alloc (.deferred (some []))).alloc (.loop (rec .ready none)) = W1 := ⟨_, rfl⟩
  have hL1 : W1.heap[w.heap.size + 1]? = some (.loop (rec .ready none)) := by
    rw [← hW1]; have := World.alloc_heap_new (w.alloc (.deferred (some []))) (.loop (rec .ready none)); rwa [World.size_alloc] at this
  have hK1 : W1.heap[w.heap.size]? = some (.deferred (some [])) := by
    rw [← hW1]; exact (Below.heap_alloc _ _ _ (by simp)).trans (World.alloc_heap_new w _)
  have hb1 : Below w.heap.size w W1 := by
    rw [← hW1]; exact ((Below.refl _ w).alloc (Nat.le_refl _) _).alloc (by simp) _
  have hs1 : W1.heap.size = w.heap.size + 2 := by rw [← hW1]; simp
  have hI1 : I 0 W1 := hI _ _ _ h0 hb1
  refine ⟨w.heap.size + 1, [{ target := .collected w.heap.size, args := #[] }], W1, { target := .fn (.func gf) lb, args := #[.func (.yield (w.heap.size + 1)) #[] #[]] }, W1, gf,
    #[.func (.yield (w.heap.size + 1)) #[] #[]] ++ lb, W1, ?_, ?_, ?_, ?_, fun _ => h1, ?_⟩
  · rw [← hW1, hrec]; exact run_enterLoop_outer _ _ _ _ _
  · simp only [resolve, hg]
    simp [go_sem]
  · intro f' hf'; simp [Target.leads] at hf'; subst hf'; exact hFg
  · simp [invoke, go_sem, eg]
  · refine (hseq (w.heap.size + 1)
      (fun pre W => I pre W ∧ W.heap[w.heap.size + 1]? = some (.loop (rec .ready none)) ∧ W.heap[w.heap.size]? = some (.deferred (some [])))
      (fun pre W => ∃ c, Ix c pre W ∧ W.heap[w.heap.size + 1]? = some (.loop (rec .done (some c))) ∧ W.heap[w.heap.size]? = some (.deferred (some [])))
      W1 hb1 hs1 rfl
      (fun s A B hs hb => ⟨hI s A B hs.1 hb, (hb.block _ (Array.getElem?_eq_some_iff.1 hs.2.1).1).trans hs.2.1, (hb.block _ (Array.getElem?_eq_some_iff.1 hs.2.2).1).trans hs.2.2⟩)
      (fun s A B k hs hb hk => by
        have hsz := (Array.getElem?_eq_some_iff.1 hs.2.1).1
        rcases hk with hk | rfl | rfl
        · have := hno s A B k hs.1 hb hk; exact ⟨this.2.1, this.2.2.1⟩
        · exact ⟨by omega, fun e => by have := hfix _ e; omega⟩
        · exact ⟨by omega, fun e => by have := hfix _ e; omega⟩)
      ?_ ⟨hI1, hL1, hK1⟩).mono ?_
    · rintro k W hkN ⟨hi, hl, hk⟩ hsz
      have hy := run_yield (P := P) (args := encs k) hl (by rw [hrec]; exact hps k)
      rw [hrec] at hy
      refine ⟨fn, _, assign, body, hy, roundIn_of_wpIn hfn (hassign _ k W _ hkN (by omega) hi ?_)⟩
      intro a' Wa hba hax
      have hla := (hba.block (w.heap.size + 1) (by omega)).trans hl
      have hka := (hba.block w.heap.size (by omega)).trans hk
      have hia := hI _ _ _ hi hba
      have hsa := hba.size
      refine ⟨_, run_beginRound hla (by rw [hrec]), ?_⟩
      have hl2 : (Wa.putObj (w.heap.size + 1) (.loop { rec .ready none with state := .busy })).heap[w.heap.size + 1]? = some (.loop { rec .ready none with state := .busy }) := World.putObj_heap_same (by omega)
      have hk2 : (Wa.putObj (w.heap.size + 1) (.loop { rec .ready none with state := .busy })).heap[w.heap.size]? = some (.deferred (some [])) := (World.putObj_heap_other (by omega)).trans hka
      have hib := hIp _ _ (w.heap.size + 1) (.loop { rec .ready none with state := .busy }) rfl ⟨_, hla⟩ hia
      have hnn : ∀ k, no (Wa.putObj (w.heap.size + 1) (.loop { rec .ready none with state := .busy })) k → no W k := fun k hk => (hno _ _ _ _ hi hba (hnp _ _ _ _ hia hk)).1
      refine wpIn_mono (hbody _ k a' _ hkN (by simp; omega) hib (hAx _ _ _ _ _ (by omega) (by omega) hax)) ?_
      rintro e a3 W3 hp
      cases e with
      | normal =>
        obtain ⟨hk3, hi3⟩ := hp
        have hl3 := (hk3.block (w.heap.size + 1) (by simp; omega) (fun e => by have := hno _ _ _ _ hib (Below.refl _ _) e; omega)).trans hl2
        have hd3 := (hk3.block w.heap.size (by simp; omega) (fun e => by have := hno _ _ _ _ hib (Below.refl _ _) e; omega)).trans hk2
        have hs3 := hk3.size
        have := run_endRound (P := P) none hl3
        rw [hrec] at this
        refine ⟨_, _, this, .inl ⟨rfl, ⟨hIp _ _ _ _ rfl ⟨_, hl3⟩ hi3, ?_, (World.putObj_heap_other (by omega)).trans hd3⟩, ?_⟩⟩
        · rw [hrec]; exact World.putObj_heap_same (by simp at hs3; omega)
        · exact (Keeps.of_below hba).trans ((Keeps.putObj (.inr (.inr rfl))).trans ((Keeps.trans ⟨hk3.os, hk3.tape, hk3.output, hk3.size, fun k hk hn => hk3.block k hk (fun e => hn (.inl (hnn _ e)))⟩ (Keeps.putObj (.inr (.inr rfl))))))
      | ret =>
        obtain ⟨hk3, hi3⟩ := hp
        have hl3 := (hk3.block (w.heap.size + 1) (by simp; omega) (fun e => by have := hno _ _ _ _ hib (Below.refl _ _) e; omega)).trans hl2
        have hd3 := (hk3.block w.heap.size (by simp; omega) (fun e => by have := hno _ _ _ _ hib (Below.refl _ _) e; omega)).trans hk2
        have hs3 := hk3.size
        have := run_endRound (P := P) (some .ret) hl3
        rw [hrec] at this
        refine ⟨_, _, this, .inr ⟨rfl, .ret, hIx _ _ _ _ _ rfl ⟨_, hl3⟩ hi3, ?_, (World.putObj_heap_other (by omega)).trans hd3⟩⟩
        rw [hrec]; exact World.putObj_heap_same (by simp at hs3; omega)
      | exit id =>
        obtain ⟨hk3, hi3⟩ := hp
        have hl3 := (hk3.block (w.heap.size + 1) (by simp; omega) (fun e => by have := hno _ _ _ _ hib (Below.refl _ _) e; omega)).trans hl2
        have hd3 := (hk3.block w.heap.size (by simp; omega) (fun e => by have := hno _ _ _ _ hib (Below.refl _ _) e; omega)).trans hk2
        have hs3 := hk3.size
        have := run_endRound (P := P) (some (.exit id)) hl3
        rw [hrec] at this
        refine ⟨_, _, this, .inr ⟨rfl, .exit id, hIx _ _ _ _ _ rfl ⟨_, hl3⟩ hi3, ?_, (World.putObj_heap_other (by omega)).trans hd3⟩⟩
        rw [hrec]; exact World.putObj_heap_same (by simp at hs3; omega)
      | goto t => exact hp.elim
      | panic ch => exact hp.elim
      | outgrown => exact hp.elim
    · rintro e W2 ⟨⟨v, rfl⟩, (⟨hi, hl, hk⟩ | ⟨k, hkN, c, hi, hl, hk⟩)⟩
      rotate_left
      · have hlt : w.heap.size + 1 < W2.heap.size := (Array.getElem?_eq_some_iff.1 hl).1
        refine ⟨some c, _, by have := run_endLoop (P := P) hl (by rw [hrec]; simp); rw [hrec] at this; exact this, hstop _ c k _ (Nat.le_refl _) hkN (hIx _ _ _ _ _ rfl ⟨_, hl⟩ hi) ((World.putObj_heap_other (by omega)).trans hk)⟩
      have hlt : w.heap.size + 1 < W2.heap.size := (Array.getElem?_eq_some_iff.1 hl).1
      refine ⟨none, _, by have := run_endLoop (P := P) hl (by rw [hrec]; simp); rw [hrec] at this; exact this, hdone _ _ (Nat.le_refl _) (hIp _ _ _ _ rfl ⟨_, hl⟩ hi) ((World.putObj_heap_other (by omega)).trans hk)⟩
end Go.Proofs.YtabkodpjhpjgnaaGreatDoor

namespace Go.Proofs.YtabkodpjhpjgnaaGreatDoor
open Go.RowKit Go.Shelf
attribute [local go_sem] Oper.semAt_some

theorem room_of_none {F : Fence} (hd : F.depth = none) (k : Nat) : F.room k := fun d h => by rw [hd] at h; cases h
theorem yield_any {m : Nat} (m' : Nat) {P : Program} {l : Nat} {args : Array Value} {W : World} {R : Ending → World → Prop} (h : YieldAt Fence.wide m P l args W R) : YieldAt Fence.wide m' P l args W R := by
  obtain ⟨fn, tmps, assign, body, hy, hR⟩ := h
  exact ⟨fn, tmps, assign, body, hy, hR.1, fun c cs _ => hR.2 c cs (room_of_none rfl _)⟩

/-- The blocks that the iterator reads. -/
def fixB (Bs : Nat) (A : Option Addr) (j : Nat) : Prop := j = Bs ∨ ∃ off, A = some ⟨j, off, none⟩
theorem ints_kept {W W' : World} {B B' n c : Nat} {A : Option Addr} {l : List Int} (h : Ints W B (.slice A n c) l) (hk : ∀ j, (∃ off, A = some ⟨j, off, none⟩) → W'.heap[j]? = W.heap[j]?) (hB : B ≤ B') : Ints W' B' (.slice A n c) l := by
  obtain ⟨A', c', h1, h2, h3, h4⟩ := h
  have h1' := h1
  injection h1 with e1 e2 e3
  subst e1
  refine ⟨A, c', h1', h2, h3, ?_⟩
  rcases h4 with h4 | ⟨g, off, h4, h5, h6⟩
  · exact .inl h4
  · exact .inr ⟨g, off, h4, by omega, fun j x hj => by rw [World.cell?_of_block (w := W) (a := ⟨g, off + j, none⟩) (hk g ⟨off, h4⟩)]; exact h6 j x hj⟩
def encB (l : List Int) (k : Nat) : Array Value := #[.int .i64 ((l.length : Int) - 1 - (k : Int)), .int .i64 (l.getD (l.length - 1 - k) 0)]

set_option maxRecDepth 100000 in
set_option maxHeartbeats 2000000 in
theorem back1_in (no : World → Nat → Prop) (y B0 m Bs c : Nat) (A : Option Addr) (l : List Int) (J Jx : Nat → World → Prop)
    (hno : ∀ k X Y j, J k X → Below X.heap.size X Y → no Y j → j < X.heap.size ∧ ¬ fixB Bs A j)
    (hY : ∀ k W1, k < l.length → J k W1 → B0 ≤ W1.heap.size → YieldAt Fence.wide (m - 1) Tryz.prog y (encB l k) W1 fun e W' => (e = .returned (.bool true) ∧ J (k + 1) W' ∧ Keeps (no W1) W1 W') ∨ (e = .returned (.bool false) ∧ Jx k W'))
    (W : World) (hB0 : B0 ≤ W.heap.size) (hbox : Row W Bs 97 #[.slice A l.length c]) (hv : Ints W W.heap.size (.slice A l.length c) l) (h0 : J 0 W) :
    CallsIn Fence.wide m Tryz.prog 159 #[.func (.yield y) #[] #[], .pointer (some ⟨Bs, 0, none⟩)] W fun e W' => (∃ v, e = .returned v) ∧ (J l.length W' ∨ ∃ k, k < l.length ∧ Jx k W') := by
  refine callsIn_of_wp Tryz.func159 rfl trivial ?_ rfl
  simp only [Tryz.ntmps159, List.size_toArray, List.length_cons, List.length_nil, Nat.reduceAdd, Nat.reduceSub, Array.replicate_succ, Array.replicate_zero, List.push_toArray, List.append_toArray, List.nil_append, List.cons_append]
  obtain ⟨-, hc1, hc2⟩ := ints_cap hv
  have cs := hbox.cell 0
  simp only [List.getElem?_toArray, List.getElem?_cons_zero] at cs
  obtain ⟨n, hn⟩ : ∃ n, l.length = n := ⟨_, rfl⟩
  have hY' := fun k W1 h1 h2 h3 => yield_any (m - 1) (hY k W1 h1 h2 h3)
  unfold encB at hY'
  rw [hn] at hY' hc1 hbox hv cs ⊢
  have HB := Lib.hid hbox; have HV := Lib.hid hv; have HN := Lib.hid hn
  clear hbox hv hn hY
  have s1 : IntKind.i64.wrap ((n : Int) - 1) = (n : Int) - 1 := IntWalk.i64_in _ (by omega)
  gi_wp2
  clear cs s1
  gi_loopw [3] (fun i wr => ∃ k : Nat, k ≤ n ∧ i = .int .i64 ((n : Int) - 1 - (k : Int)) ∧ J k wr ∧ Hid (Row wr Bs 97 #[.slice A n c]) ∧ Hid (Ints wr wr.heap.size (.slice A n c) l) ∧ B0 ≤ wr.heap.size) (fun i _ => (intOf i + 1).toNat)
  case atStart => exact ⟨0, by omega, by go_num, h0, HB, HV, hB0⟩
  case round =>
    obtain ⟨k, hk, rfl, hj, HB, HV, hsz⟩ := hrel
    have cs := HB.out.cell 0
    simp only [List.getElem?_toArray, List.getElem?_cons_zero] at cs
    by_cases hlt : k < n
    · obtain ⟨g, off, rfl, hg, hcell⟩ := ints_at HV.out (n - 1 - k) (by have := HN.out; omega)
      have c0 := hcell (n - 1 - k) (by have := HN.out; omega)
      obtain ⟨fn, tmps, assign, body, hyy, hR⟩ := hY' k wr hlt hj hsz
      have hnk := fun j hj2 => hno k wr wr j hj (Below.refl _ _) hj2
      obtain ⟨x, hx⟩ : ∃ x, l.getD (n - 1 - k) 0 = x := ⟨_, rfl⟩
      rw [hx] at c0 hyy
      have HNK := Lib.hid hnk
      have i1 : (0 : Int) ≤ (n : Int) - 1 - (k : Int) := by omega
      have i2 : (n : Int) - 1 - (k : Int) < (n : Int) := by omega
      have i3 : ((n : Int) - 1 - (k : Int)).toNat = n - 1 - k := by omega
      have i4 : IntKind.i64.wrap ((n : Int) - 1 - (k : Int) - 1) = (n : Int) - 1 - (k : Int) - 1 := IntWalk.i64_in _ (by omega)
      clear hcell hx hnk
      gi_wp2
      refine ⟨(fun h => absurd h (by decide)), hR.mono ?_⟩
      clear hR hyy
      rintro e w4 (⟨rfl, hj4, hk4⟩ | ⟨rfl, hx4⟩)
      · have HB4 : Hid (Row w4 Bs 97 #[.slice (some ⟨g, off, none⟩) n c]) := Lib.hid ((hk4.block _ HB.out.lt (fun e => (HNK.out _ e).2 (.inl rfl))).trans HB.out)
        have HV4 : Hid (Ints w4 w4.heap.size (.slice (some ⟨g, off, none⟩) n c) l) := Lib.hid (ints_kept HV.out (fun j hj => by
          obtain ⟨o, ho⟩ := hj
          injection ho with ho
          injection ho with h1 h2
          subst h1
          exact hk4.block _ hg (fun e => (HNK.out _ e).2 (.inr ⟨_, rfl⟩))) hk4.size)
        have hs4 := hk4.size
        gi_wp2
        go_roundw
        case rel => exact ⟨k + 1, by omega, by go_num, hj4, HB4, HV4, by omega⟩
        case measure => simp [intOf]; omega
      · gi_wp2
        refine bodyPost_ret (results_none rfl _ _ _) rfl ?_
        exact ⟨⟨_, rfl⟩, .inr ⟨k, hlt, hx4⟩⟩
    · obtain rfl : k = n := by omega
      have hd : decide ((0 : Int) ≤ (k : Int) - 1 - (k : Int)) = false := by simp; omega
      gi_wp2
      go_end0
      exact ⟨⟨_, rfl⟩, .inl hj⟩

theorem back_gives (m Bs c : Nat) (A : Option Addr) (l : List Int) (no : World → Nat → Prop) (w : World) (hbox : Row w Bs 97 #[.slice A l.length c]) (hv : Ints w w.heap.size (.slice A l.length c) l) :
    GivesN Fence.wide m Tryz.prog 159 #[.pointer (some ⟨Bs, 0, none⟩)] (encB l) no (fixB Bs A) l.length w := by
  intro y J Jx W hb _ _ _ hno hY h0
  exact back1_in no y W.heap.size m Bs c A l J Jx hno hY W (Nat.le_refl _) (hbox.below hb hbox.lt) (hv.next hb) h0

theorem back_in (m : Nat) (A : Option Addr) (n c : Nat) (w : World) :
    CallsIn Fence.wide m Tryz.prog 134 #[.slice A n c] w fun e w' => e = .returned (.func (.func 159) #[] #[.pointer (some ⟨w.heap.size, 0, none⟩)]) ∧ w' = w.alloc (.cells #[.slice A n c] 97) := by
  refine callsIn_of_wp Tryz.func134 rfl trivial ?_ rfl
  try simp only [Tryz.ntmps134, List.size_toArray, List.length_cons, List.length_nil, Nat.reduceAdd, Nat.reduceSub, Array.replicate_succ, Array.replicate_zero, List.push_toArray, List.append_toArray, List.nil_append, List.cons_append]
  gi_wp2
  go_ret
  exact ⟨rfl, rfl⟩
end Go.Proofs.YtabkodpjhpjgnaaGreatDoor

namespace Go.Proofs.YtabkodpjhpjgnaaGreatDoor
open Go.RowKit Go.Shelf
attribute [local go_sem] Oper.semAt_some

/-- Where a slice begins that is cut from place k on. -/
def slA (A : Option Addr) (c k : Nat) : Option Addr := if c = k then A else A.map (·.add k)
theorem slice_from (t : TypeId) (hu : Tryz.prog.underlying t = some (.slice 3)) (w : World) (A : Option Addr) (n c k : Nat) (hk : k ≤ n) :
    (Instr.slice t (.slice A n c) (some (.int .i64 (k : Int))) none none).run Tryz.prog w = .ok (.slice (slA A c k) (n - k) (c - k)) w := by
  have he : Tryz.prog.elem t = 3 := by simp [Program.elem, hu]
  rw [run_slice_l w t A n c (by rw [hu, he]) .i64 (k : Int) (by omega) (by omega), he]
  have hs : ∀ w, (sizeOf 3).run Tryz.prog w = .ok 1 w := fun _ => by kernel_rfl
  rw [hs]
  simp only [Result.andThen, sliced, Int.toNat_natCast, Nat.mul_one]
  rfl
theorem ints_from {w : World} {B n c : Nat} {A : Option Addr} {l : List Int} (h : Ints w B (.slice A n c) l) (k : Nat) (hk : k ≤ l.length) : Ints w B (.slice (slA A c k) (n - k) (c - k)) (l.drop k) := by
  have hcap := ints_cap h
  unfold slA
  by_cases e : c = k
  · subst e
    have : l.drop c = [] := List.drop_eq_nil_of_le (by omega)
    rw [this, if_pos rfl, Nat.sub_self]
    obtain ⟨A', c', h1, h2, h3, h4⟩ := h
    injection h1 with e1 e2 e3
    subst e1
    refine ⟨A, 0, by rw [show n - c = 0 by omega]; rfl, Nat.le_refl _, by decide, ?_⟩
    rcases h4 with ⟨h4, _⟩ | ⟨g, off, h4, hg, _⟩
    · exact .inl ⟨h4, rfl⟩
    · exact .inr ⟨g, off, h4, hg, fun j x hj => by simp at hj⟩
  · rw [if_neg e]
    cases A with
    | none =>
      obtain ⟨A', c', h1, h2, h3, h4⟩ := h
      injection h1 with e1 e2 e3
      subst e1; subst e3
      rcases h4 with ⟨_, rfl⟩ | ⟨g, off, h4, _⟩
      · obtain rfl : k = 0 := by simpa using hk
        exact ⟨none, c, by simp [e2], by simp, h3, .inl ⟨rfl, by simp⟩⟩
      · cases h4
    | some a =>
      obtain ⟨A', c', h1, h2, h3, h4⟩ := id h
      injection h1 with e1 e2 e3
      subst e1; subst e3
      rcases h4 with ⟨h4, _⟩ | ⟨g, off, h4, _⟩
      · cases h4
      · injection h4 with h4
        subst h4
        have := ints_suf h k hk
        rw [show Option.map (fun x => Addr.add x k) (some (⟨g, off, none⟩ : Addr)) = some ⟨g, off + k, none⟩ from by simp [Addr.add]]
        exact this

theorem above_step (q n k : Nat) (h : k < n) : 10000 * (q / 10000 ^ (n - k)) + q / 10000 ^ (n - 1 - k) % 10000 = q / 10000 ^ (n - (k + 1)) := by
  have := Im.div_shift q (n - 1 - k)
  rw [show n - 1 - k + 1 = n - k by omega] at this
  rw [show n - (k + 1) = n - 1 - k by omega]; omega

set_option maxRecDepth 100000 in
set_option maxHeartbeats 2000000 in
theorem above_any (v : Value) (n f : Nat) (w : World) (hv : Mag w v n) (hl : (Im.grp n).length ≤ f + 3) (_ : f ≤ 1000) :
    Calls Tryz.prog 161 #[v, .int .i64 (f : Int)] w fun e w' => e = .returned (.int .i64 ((n / 10000 ^ f : Nat) : Int)) ∧ Below w.heap.size w w' := by
  obtain ⟨A, c, rfl, hc1, hc2⟩ := ints_form hv
  obtain ⟨N, hN⟩ : ∃ N, (Im.grp n).length = N := ⟨_, rfl⟩
  obtain ⟨k0, hk0⟩ : ∃ k, min f N = k := ⟨_, rfl⟩
  have hsl := fun w => slice_from 97 Tryz.underlying97 w A N c k0 (by omega)
  have hvd := ints_from hv k0 (by omega)
  have hdrop : (Im.grp n).drop k0 = Im.grp (n / 10000 ^ f) := by
    by_cases h : f ≤ N
    · rw [← hk0, Nat.min_eq_left h, Im.grp_drop]
    · rw [← hk0, Nat.min_eq_right (by omega), List.drop_eq_nil_of_le (by omega)]
      have := Im.grp_drop n f
      rw [List.drop_eq_nil_of_le (by omega)] at this; exact this
  have hlen2 : (Im.grp (n / 10000 ^ f)).length = N - k0 := by rw [← hdrop, List.length_drop, hN]
  obtain ⟨q, hq⟩ : ∃ q, n / 10000 ^ f = q := ⟨_, rfl⟩
  rw [hdrop, hN, hq] at hvd
  rw [hq] at hlen2 ⊢
  have hq0 := Im.grp_lt q
  have hqd := fun i => Im.grp_getD q i
  rw [hN] at hc1 ⊢
  obtain ⟨l, hll⟩ : ∃ l, Im.grp q = l := ⟨_, rfl⟩
  rw [hll] at hvd hlen2 hq0 hqd
  obtain ⟨n2, hn2⟩ : ∃ n2, N - k0 = n2 := ⟨_, rfl⟩
  have hn3 : n2 ≤ 3 := by omega
  have hq1 : q < 1000000000000 := by
    have : 10000 ^ n2 ≤ 10000 ^ 3 := Nat.pow_le_pow_right (by decide) hn3
    rw [hlen2, hn2] at hq0
    exact Nat.lt_of_lt_of_le hq0 this
  rw [hlen2, hn2] at hq0
  rw [hn2] at hvd hsl hlen2
  obtain ⟨A2, hA2⟩ : ∃ A2, slA A c k0 = A2 := ⟨_, rfl⟩
  rw [hA2] at hvd hsl
  have hmn := fun (w : World) => run_min2 (P := Tryz.prog) (w := w) #[3, 3] 3 .i64 .i64 f N k0 (by omega)
  have HVD := Lib.hid hvd; have HL2 := Lib.hid hlen2; have HQD := Lib.hid hqd; have HQ0 := Lib.hid hq0; have HMN := Lib.hid hmn; have HSL := Lib.hid hsl
  clear hvd hdrop hlen2 hqd hq0 hv hN hk0 hA2 hn2 hq hll hmn hsl
  refine (callsIn_wide (n := 3)).1 ?_
  refine callsIn_of_wp_marks Tryz.func161 rfl trivial ?_ rfl
  simp only [Tryz.ntmps161, List.size_toArray, List.length_cons, List.length_nil, Nat.reduceAdd, Nat.reduceSub, Array.replicate_succ, Array.replicate_zero, List.push_toArray, List.append_toArray, List.nil_append, List.cons_append]
  have hmn := HMN.out; have hsl := HSL.out
  gi_wp2_with (refine ⟨trivial, ?_⟩; gi_at_call 134; refine (back_in _ _ _ _ _).mono ?_; rintro e w' ⟨rfl, rfl⟩)
  clear hmn hsl HMN HSL
  obtain ⟨W0, hW0⟩ : ∃ W0, (w.alloc (.cells #[.int .i64 0] 3)).alloc (.cells #[.slice A2 n2 (c - k0)] 97) = W0 := ⟨_, rfl⟩
  have hb0 : Below w.heap.size w W0 := by rw [← hW0]; exact ((Below.refl _ w).alloc (Nat.le_refl _) _).alloc (by simp) _
  have hs0 : W0.heap.size = w.heap.size + 2 := by rw [← hW0]; simp
  have rn0 : Row W0 w.heap.size 3 #[.int .i64 0] := by rw [← hW0]; exact (Row.new w _ _).alloc _
  have rb0 : Row W0 (w.heap.size + 1) 97 #[.slice A2 n2 (c - k0)] := by
    rw [← hW0]
    have := Row.new (w.alloc (.cells #[.int .i64 0] 3)) 97 #[.slice A2 n2 (c - k0)]
    rw [World.size_alloc] at this; exact this
  rw [hW0]
  clear hW0
  have hgv : GivesN Fence.wide (3 - 1) Tryz.prog 159 #[.pointer (some ⟨w.heap.size + 1, 0, none⟩)] (encB l) (fun X j => j = w.heap.size ∨ j = W0.heap.size ∨ j = W0.heap.size + 1) (fixB (w.heap.size + 1) A2) l.length W0 :=
    back_gives (3 - 1) (w.heap.size + 1) (c - k0) A2 l _ W0 (by rw [HL2.out]; exact rb0) (by rw [HL2.out]; exact HVD.out.next hb0)
  have hAf : ∀ j, fixB (w.heap.size + 1) A2 j → j < W0.heap.size ∧ j ≠ w.heap.size := by
    rintro j (rfl | ⟨off, rfl⟩)
    · omega
    · obtain ⟨A', c', h1, _, _, h4⟩ := HVD.out
      injection h1 with e1 e2 e3
      subst e1
      rcases h4 with ⟨h4, _⟩ | ⟨g, o, h4, h5, _⟩
      · cases h4
      · injection h4 with h4
        injection h4 with h6 h7
        subst h6; omega
  have HAF := Lib.hid hAf
  clear hAf
  have HRN := Lib.hid rn0; have HB0 := Lib.hid hb0
  rw [HL2.out] at hgv
  refine rangeFunc_n (F := Fence.wide) rfl (by decide) (gf := 159) (lb := #[.pointer (some ⟨w.heap.size + 1, 0, none⟩)]) rfl trivial (enters_of Tryz.func159 (by kernel_rfl) rfl)
    (no := fun _ j => j = w.heap.size) hgv
    (fun _ => rfl) (fun j h => (HAF.out j h).1)
    (fun k W => Row W w.heap.size 3 #[.int .i64 ((q / 10000 ^ (n2 - k) : Nat) : Int)] ∧ Below w.heap.size w W)
    (fun k X Y j h hb hj => by subst hj; exact ⟨rfl, h.1.lt, fun e => (HAF.out _ e).2 rfl, by omega, by omega⟩)
    (fun _ _ _ _ _ h => h)
    (fun _ _ _ => False) (fun _ _ _ _ _ _ _ h => h)
    (fun k X Y h hb => ⟨h.1.below hb h.1.lt, h.2.trans (hb.mono h.2.size)⟩)
    (fun k X r o hr _ h => ⟨(World.putObj_heap_other (by omega)).trans h.1, h.2.trans ⟨rfl, rfl, rfl, by simp, fun j hj => World.putObj_heap_other (by omega)⟩⟩)
    ⟨by rw [Nat.sub_zero, Nat.div_eq_of_lt HQ0.out]; exact HRN.out, HB0.out⟩
    (fun k a' _ => a' = { tmps := #[.slice A N c, .int .i64 (f : Int), undef, undef, .int .i64 0, .pointer (some ⟨w.heap.size, 0, none⟩), undef, .int .i64 (l.getD (l.length - 1 - k) 0), .slice A N c, .int .i64 (f : Int), .slice A N c, .int .i64 (N : Int), .int .i64 (k0 : Int), .slice A2 n2 (c - k0),
      .func (.func 159) #[] #[.pointer (some ⟨w.heap.size + 1, 0, none⟩)], .int .i64 ((l.length : Int) - 1 - (k : Int)), .int .i64 (l.getD (l.length - 1 - k) 0), undef, undef, undef, undef, undef], defers := [] })
    (fun _ _ _ _ _ _ _ h => h) ?assign ?body ?done ?stop
  case assign =>
    intro y k W K hkn hsz hI hK
    unfold encB
    have HK := Lib.hid hK
    clear hK
    gi_wp2
    exact HK.out _ _ (Below.refl _ _) rfl
  case body =>
    rintro y k a' W hkn hsz ⟨hr, hbw⟩ rfl
    have cn := hr.cell 0
    have fn := hr.free 0
    simp only [List.getElem?_toArray, List.getElem?_cons_zero] at cn
    have hx := HQD.out (n2 - 1 - k)
    rw [HL2.out, hx]
    have hst := above_step q n2 k hkn
    have hle : q / 10000 ^ (n2 - (k + 1)) ≤ q := Nat.div_le_self _ _
    have hlt : q / 10000 ^ (n2 - 1 - k) % 10000 < 10000 := Nat.mod_lt _ (by decide)
    obtain ⟨x, hxx⟩ : ∃ x, q / 10000 ^ (n2 - 1 - k) % 10000 = x := ⟨_, rfl⟩
    obtain ⟨t, htt⟩ : ∃ t, q / 10000 ^ (n2 - k) = t := ⟨_, rfl⟩
    obtain ⟨u, huu⟩ : ∃ t, q / 10000 ^ (n2 - (k + 1)) = t := ⟨_, rfl⟩
    rw [hxx, htt, huu] at hst; rw [huu] at hle; rw [hxx] at hlt ⊢; rw [htt] at cn
    have e1 : 10000 * (t : Int) + (x : Int) = (u : Int) := by omega
    have e2 : IntKind.i64.wrap (10000 * (t : Int)) = 10000 * (t : Int) := IntWalk.i64_in _ (by omega)
    have e3 : IntKind.i64.wrap (10000 * (t : Int) + (x : Int)) = (u : Int) := by rw [e1]; exact IntWalk.i64_in _ (by omega)
    have HR := Lib.hid hr; have HU := Lib.hid huu
    clear hx hst hxx htt huu hr
    have t1 : t ≤ 1000000000000 := by omega
    gi_wp2
    refine ⟨Keeps.setCell (no := fun j => j = w.heap.size) (p := ⟨w.heap.size, 0, none⟩) rfl _, ?_, hbw.setCell (Nat.le_refl _) _⟩
    have := HR.out.put 0 (.int .i64 (u : Int))
    rw [HU.out]; exact this
  case done =>
    rintro D W hD ⟨hr, hbw⟩ hK
    have cn := hr.cell 0
    simp only [List.getElem?_toArray, List.getElem?_cons_zero, Nat.sub_self, Nat.pow_zero, Nat.div_one] at cn
    gi_wp2
    refine ⟨by simp, .inl ⟨_, _, rfl, run_takeDeferred hK, ?_⟩⟩
    refine ⟨_, results_tmp rfl _ _ _, rfl, ?_⟩
    exact hbw.trans (belowK_b (w := w) (Nat.le_refl _) W D _ _ (by omega) hK rfl rfl)
  case stop =>
    intro D c k W _ _ h _
    exact h.elim
end Go.Proofs.YtabkodpjhpjgnaaGreatDoor

namespace Go.Proofs.YtabkodpjhpjgnaaGreatDoor
open Go.RowKit Go.Shelf
attribute [local go_sem] Oper.semAt_some

/-- The sign of a difference. -/
def sg (x y : Int) : Int := if x < y then -1 else if y < x then 1 else 0
theorem sg_lt {x y : Int} (h : x < y) : sg x y = -1 := if_pos h
theorem sg_gt {x y : Int} (h : y < x) : sg x y = 1 := by unfold sg; rw [if_neg (by omega), if_pos h]
theorem sg_eq {x y : Int} (h : x = y) : sg x y = 0 := by unfold sg; rw [if_neg (by omega), if_neg (by omega)]

set_option maxHeartbeats 400000 in
theorem isNaN_any (x : Int) (w : World) : Calls Tryz.prog 158 #[.int .i64 x] w fun e w' => e = .returned (.bool false) ∧ w = w' := by
  have h : (x != x) = false := by simp
  go_enter Tryz.func158, Tryz.ntmps158
  go_wp2
  go_ret
  exact ⟨rfl, rfl⟩
set_option maxHeartbeats 400000 in
theorem cmp_any (x y : Int) (w : World) : Calls Tryz.prog 133 #[.int .i64 x, .int .i64 y] w fun e w' => e = .returned (.int .i64 (sg x y)) ∧ w = w' := by
  rcases Int.lt_trichotomy x y with h | h | h
  · rw [sg_lt h]
    go_enter Tryz.func133, Tryz.ntmps133
    go_wp2_with (go_at_call 158; refine (isNaN_any _ _).mono ?_; rintro e w' ⟨rfl, rfl⟩)
    go_ret
    exact ⟨rfl, rfl⟩
  · rw [sg_eq h]
    subst h
    have h1 : decide (x < x) = false := by simp
    go_enter Tryz.func133, Tryz.ntmps133
    go_wp2_with (go_at_call 158; refine (isNaN_any _ _).mono ?_; rintro e w' ⟨rfl, rfl⟩)
    go_ret
    exact ⟨rfl, rfl⟩
  · rw [sg_gt h]
    have h1 : decide (x < y) = false := by simp; omega
    go_enter Tryz.func133, Tryz.ntmps133
    go_wp2_with (go_at_call 158; refine (isNaN_any _ _).mono ?_; rintro e w' ⟨rfl, rfl⟩)
    go_ret
    exact ⟨rfl, rfl⟩

theorem sg_cast (a b : Nat) : sg (a : Int) (b : Int) = if a < b then -1 else if b < a then 1 else 0 := by unfold sg; split <;> split <;> first | rfl | omega
theorem grp_same_len {a b : Nat} (hl : (Im.grp a).length = (Im.grp b).length) (i : Nat) (hi : i < (Im.grp a).length) (he : (Im.grp a).drop (i + 1) = (Im.grp b).drop (i + 1)) (hne : (Im.grp a).getD i 0 ≠ (Im.grp b).getD i 0) :
    sg ((Im.grp a).getD i 0) ((Im.grp b).getD i 0) = sg (a : Int) (b : Int) := by
  have ha := Im.grp_val a; have hb := Im.grp_val b
  rcases Int.lt_trichotomy ((Im.grp a).getD i 0) ((Im.grp b).getD i 0) with h | h | h
  · have := Im.val_cmp _ _ i (Im.grp_gs a) (Im.grp_gs b) hl hi he h
    rw [sg_lt h, sg_lt (by omega)]
  · exact absurd h hne
  · have := Im.val_cmp _ _ i (Im.grp_gs b) (Im.grp_gs a) hl.symm (by omega) he.symm h
    rw [sg_gt h, sg_gt (by omega)]
theorem drop_eq_step {a b : List Int} (hl : a.length = b.length) (i : Nat) (hi : i < a.length) (he : a.drop (i + 1) = b.drop (i + 1)) (hx : a.getD i 0 = b.getD i 0) : a.drop i = b.drop i := by
  have hib : i < b.length := by omega
  rw [List.drop_eq_getElem_cons hi, List.drop_eq_getElem_cons hib, he]
  rw [List.getD_eq_getElem?_getD, List.getD_eq_getElem?_getD, List.getElem?_eq_getElem hi, List.getElem?_eq_getElem hib] at hx
  have hx' : a[i] = b[i] := by simpa using hx
  rw [hx']

theorem results_cell1 {fn : Func} {p : Tmp} (h : fn.results = #[.cell p 3]) (tmps : Array Value) (w : World) (a : Addr) (x : Int) (hp : tmps.getD p undef = .pointer (some a)) (hc : w.cell? a = some (.int .i64 x)) :
    (results fn tmps).run Tryz.prog w = .ok (.int .i64 x) w := by
  have hp' : tmps[p]?.getD undef = .pointer (some a) := by simpa using hp
  simp [results, h, hp', asAddr, go_sem, hc]

set_option maxRecDepth 100000 in
set_option maxHeartbeats 2000000 in
theorem compare_any (va vb : Value) (a b : Nat) (w : World) (ha : Mag w va a) (hb : Mag w vb b) :
    Calls Tryz.prog 112 #[va, vb] w fun e w' => e = .returned (.int .i64 (sg (a : Int) (b : Int))) ∧ Below w.heap.size w w' := by
  obtain ⟨A, ca, rfl, hca1, hca2⟩ := ints_form ha
  obtain ⟨B, cb, rfl, hcb1, hcb2⟩ := ints_form hb
  have hgl := Im.grp_len_lt a b; have hgl2 := Im.grp_len_lt b a
  have hfin := fun hl i hi he hne => grp_same_len (a := a) (b := b) hl i hi he hne
  have hinj := fun (h : Im.grp a = Im.grp b) => Im.grp_inj h
  obtain ⟨la, hla⟩ : ∃ l, Im.grp a = l := ⟨_, rfl⟩
  obtain ⟨lb, hlb⟩ : ∃ l, Im.grp b = l := ⟨_, rfl⟩
  unfold Mag at ha hb
  rw [hla] at ha hgl hgl2 hfin hinj hca1 ⊢; rw [hlb] at hb hgl hgl2 hfin hinj hcb1 ⊢
  obtain ⟨N, hN⟩ : ∃ n, la.length = n := ⟨_, rfl⟩
  obtain ⟨M, hM⟩ : ∃ n, lb.length = n := ⟨_, rfl⟩
  have HVA := Lib.hid ha; have HVB := Lib.hid hb; have HN := Lib.hid hN; have HM := Lib.hid hM
  rw [hN] at HVA hgl hgl2 hca1 ⊢; rw [hM] at HVB hgl hgl2 hcb1 ⊢
  have HFIN := Lib.hid hfin; have HINJ := Lib.hid hinj
  clear ha hb hN hM hla hlb hfin hinj
  refine (callsIn_wide (n := 3)).1 ?_
  refine callsIn_of_wp_marks Tryz.func112 rfl trivial ?_ rfl
  simp only [Tryz.ntmps112, List.size_toArray, List.length_cons, List.length_nil, Nat.reduceAdd, Nat.reduceSub, Array.replicate_succ, Array.replicate_zero, List.push_toArray, List.append_toArray, List.nil_append, List.cons_append]
  by_cases hne : N = M
  · subst hne
    clear hgl hgl2
    have d1 : ((N : Int) != (N : Int)) = false := by simp
    gi_wp2_with (refine ⟨trivial, ?_⟩; gi_at_call 134; refine (back_in _ _ _ _ _).mono ?_; rintro e w' ⟨rfl, rfl⟩)
    obtain ⟨W0, hW0⟩ : ∃ W0, ((w.alloc (.cells #[.slice B N cb] 97)).alloc (.cells #[.int .i64 0] 3)).alloc (.cells #[.slice A N ca] 97) = W0 := ⟨_, rfl⟩
    have hb0 : Below w.heap.size w W0 := by rw [← hW0]; exact (((Below.refl _ w).alloc (Nat.le_refl _) _).alloc (by simp) _).alloc (by simp; omega) _
    have hs0 : W0.heap.size = w.heap.size + 3 := by rw [← hW0]; simp
    have ro0 : Row W0 w.heap.size 97 #[.slice B N cb] := by rw [← hW0]; exact ((Row.new w _ _).alloc _).alloc _
    have rr0 : Row W0 (w.heap.size + 1) 3 #[.int .i64 0] := by
      rw [← hW0]
      have := (Row.new (w.alloc (.cells #[.slice B N cb] 97)) 3 #[.int .i64 0]).alloc (.cells #[.slice A N ca] 97)
      rw [World.size_alloc] at this; exact this
    have rb0 : Row W0 (w.heap.size + 1 + 1) 97 #[.slice A N ca] := by
      rw [← hW0]
      have := Row.new ((w.alloc (.cells #[.slice B N cb] 97)).alloc (.cells #[.int .i64 0] 3)) 97 #[.slice A N ca]
      rw [World.size_alloc, World.size_alloc] at this; exact this
    rw [hW0]
    clear hW0
    have hgv : GivesN Fence.wide (3 - 1) Tryz.prog 159 #[.pointer (some ⟨w.heap.size + 1 + 1, 0, none⟩)] (encB la) (fun X j => j = w.heap.size + 1 ∨ j = W0.heap.size ∨ j = W0.heap.size + 1) (fixB (w.heap.size + 1 + 1) A) la.length W0 :=
      back_gives (3 - 1) (w.heap.size + 1 + 1) ca A la _ W0 (by rw [HN.out]; exact rb0) (by rw [HN.out]; exact HVA.out.next hb0)
    have hAf : ∀ j, fixB (w.heap.size + 1 + 1) A j → j < W0.heap.size ∧ j ≠ w.heap.size + 1 := by
      rintro j (rfl | ⟨off, rfl⟩)
      · omega
      · obtain ⟨A', c', h1, _, _, h4⟩ := HVA.out
        injection h1 with e1 e2 e3
        subst e1
        rcases h4 with ⟨h4, _⟩ | ⟨g, o, h4, h5, _⟩
        · cases h4
        · injection h4 with h4
          injection h4 with h6 h7
          subst h6; omega
    have HAF := Lib.hid hAf
    clear hAf
    have HRR := Lib.hid rr0; have HB0 := Lib.hid hb0; have HRO := Lib.hid ro0
    rw [HN.out] at hgv
    refine rangeFunc_n (F := Fence.wide) rfl (by decide) (gf := 159) (lb := #[.pointer (some ⟨w.heap.size + 1 + 1, 0, none⟩)]) rfl trivial (enters_of Tryz.func159 (by kernel_rfl) rfl)
      (no := fun _ j => j = w.heap.size + 1) hgv
      (fun _ => rfl) (fun j h => (HAF.out j h).1)
      (fun k W => Row W w.heap.size 97 #[.slice B N cb] ∧ Row W (w.heap.size + 1) 3 #[.int .i64 0] ∧ Hid (la.drop (N - k) = lb.drop (N - k)) ∧ Below w.heap.size w W)
      (fun k X Y j h hb hj => by subst hj; exact ⟨rfl, h.2.1.lt, fun e => (HAF.out _ e).2 rfl, by omega, by omega⟩)
      (fun _ _ _ _ _ h => h)
      (fun c _ W => c = .ret ∧ Row W (w.heap.size + 1) 3 #[.int .i64 (sg (a : Int) (b : Int))] ∧ Below w.heap.size w W)
      (fun c k X r o hr _ h => ⟨h.1, (World.putObj_heap_other (by omega)).trans h.2.1, h.2.2.trans ⟨rfl, rfl, rfl, by simp, fun j hj => World.putObj_heap_other (by omega)⟩⟩)
      (fun k X Y h hb => ⟨h.1.below hb h.1.lt, h.2.1.below hb h.2.1.lt, h.2.2.1, h.2.2.2.trans (hb.mono h.2.2.2.size)⟩)
      (fun k X r o hr _ h => ⟨(World.putObj_heap_other (by omega)).trans h.1, (World.putObj_heap_other (by omega)).trans h.2.1, h.2.2.1, h.2.2.2.trans ⟨rfl, rfl, rfl, by simp, fun j hj => World.putObj_heap_other (by omega)⟩⟩)
      ⟨HRO.out, HRR.out, Lib.hid (by rw [Nat.sub_zero, List.drop_eq_nil_of_le (by rw [HN.out]; exact Nat.le_refl _), List.drop_eq_nil_of_le (by rw [HM.out]; exact Nat.le_refl _)]), HB0.out⟩
      (fun k a' _ => a' = { tmps := #[.slice A N ca, .slice B N cb, undef, .pointer (some ⟨w.heap.size, 0, none⟩), .pointer (some ⟨w.heap.size + 1, 0, none⟩), .int .i64 ((la.length : Int) - 1 - (k : Int)), .int .i64 (la.getD (la.length - 1 - k) 0), .slice A N ca, .int .i64 (N : Int), .slice B N cb, .int .i64 (N : Int), .bool false, undef, undef, undef, undef, undef, .slice A N ca,
        .func (.func 159) #[] #[.pointer (some ⟨w.heap.size + 1 + 1, 0, none⟩)], .int .i64 ((la.length : Int) - 1 - (k : Int)), .int .i64 (la.getD (la.length - 1 - k) 0), undef, undef, undef, undef, undef, undef, undef, undef, undef, undef, undef, undef], defers := [] })
      (fun _ _ _ _ _ _ _ h => h) ?assign ?body ?done ?stop
    case assign =>
      intro y k W K hkn hsz hI hK
      unfold encB
      have HK := Lib.hid hK
      clear hK
      gi_wp2
      exact HK.out _ _ (Below.refl _ _) rfl
    case body =>
      rintro y k a' W hkn hsz ⟨hro, hrr, HE, hbw⟩ rfl
      have co := hro.cell 0
      have cr := hrr.cell 0; have fr := hrr.free 0
      simp only [List.getElem?_toArray, List.getElem?_cons_zero] at co cr
      obtain ⟨g, off, hBe, hg, hcell⟩ := ints_at HVB.out (N - 1 - k) (by rw [HM.out]; omega)
      subst hBe
      have c0 := (hbw.cell (p := ⟨g, off + (N - 1 - k), none⟩) hg).trans (hcell (N - 1 - k) (by rw [HM.out]; omega))
      have he := HE.out
      rw [show N - k = N - 1 - k + 1 by omega] at he
      have hst := drop_eq_step (a := la) (b := lb) (by rw [HN.out, HM.out]) (N - 1 - k) (by rw [HN.out]; omega) he
      have hfn := HFIN.out (by rw [HN.out, HM.out]) (N - 1 - k) (by rw [HN.out]; omega) he
      rw [HN.out]
      obtain ⟨x, hx⟩ : ∃ x, la.getD (N - 1 - k) 0 = x := ⟨_, rfl⟩
      obtain ⟨z, hz⟩ : ∃ x, lb.getD (N - 1 - k) 0 = x := ⟨_, rfl⟩
      rw [hx, hz] at hst hfn; rw [hz] at c0; rw [hx]
      have i1 : (0 : Int) ≤ (N : Int) - 1 - (k : Int) := by omega
      have i2 : (N : Int) - 1 - (k : Int) < (N : Int) := by omega
      have i3 : ((N : Int) - 1 - (k : Int)).toNat = N - 1 - k := by omega
      have HRO2 := Lib.hid hro; have HRR2 := Lib.hid hrr; have HST := Lib.hid hst; have HFN := Lib.hid hfn
      clear hro hrr hst hfn he hx hz hcell
      by_cases hxz : x = z
      · have t1 : (x != z) = false := by simpa using hxz
        have HXZ := Lib.hid hxz
        clear hxz
        gi_wp2
        refine ⟨Keeps.refl _ _, HRO2.out, HRR2.out, Lib.hid ?_, hbw⟩
        rw [show N - (k + 1) = N - 1 - k by omega]; exact HST.out HXZ.out
      · have t1 : (x != z) = true := by simpa using hxz
        have hsg := HFN.out hxz
        have HSG := Lib.hid hsg
        clear hxz hsg
        gi_wp2_with (refine ⟨trivial, (CallsIn.inRound y (callsIn_wide.2 (cmp_any _ _ _))).mono ?_⟩; rintro e w' ⟨rfl, rfl⟩)
        refine ⟨Keeps.setCell (no := fun j => j = w.heap.size + 1) (p := ⟨w.heap.size + 1, 0, none⟩) rfl _, rfl, ?_, hbw.setCell (Nat.le_succ _) _⟩
        have := HRR2.out.put 0 (.int .i64 (sg x z))
        rw [← HSG.out]; exact this
    case done =>
      rintro D W hD ⟨hro, hrr, HE, hbw⟩ hK
      have cr := hrr.cell 0; have fr := hrr.free 0
      simp only [List.getElem?_toArray, List.getElem?_cons_zero] at cr
      have he := HE.out
      rw [Nat.sub_self, List.drop_zero, List.drop_zero] at he
      have hab := HINJ.out he
      have hsg : sg (a : Int) (b : Int) = 0 := sg_eq (by omega)
      have HSG := Lib.hid hsg; have HRR2 := Lib.hid hrr
      clear he hab hsg hrr
      gi_wp2
      have hK2 : (W.setCell ⟨w.heap.size + 1, 0, none⟩ (.int .i64 0)).heap[D]? = some (.deferred (some [])) := (Below.heap_setCell _ _ _ _ (by dsimp only; omega)).trans hK
      have hr2 := HRR2.out.put 0 (.int .i64 0)
      have hDs : D < (W.setCell ⟨w.heap.size + 1, 0, none⟩ (.int .i64 0)).heap.size := (Array.getElem?_eq_some_iff.1 hK2).1
      refine ⟨by simp, .inl ⟨_, _, rfl, run_takeDeferred hK2, ?_⟩⟩
      refine ⟨_, results_cell1 rfl _ _ ⟨w.heap.size + 1, 0, none⟩ 0 rfl (Row.cell (show Row _ (w.heap.size + 1) 3 _ from (World.putObj_heap_other (by omega)).trans hr2) 0), by rw [HSG.out], ?_⟩
      exact (hbw.setCell (Nat.le_succ _) _).trans (belowK_b (w := w) (Nat.le_refl _) _ D _ _ (by omega) hK2 rfl rfl)
    case stop =>
      rintro D c k W hD hkn ⟨rfl, hrr, hbw⟩ hK
      gi_wp2
      refine ⟨by simp, .inl ⟨_, _, rfl, run_takeDeferred hK, ?_⟩⟩
      refine ⟨_, results_cell1 rfl _ _ ⟨w.heap.size + 1, 0, none⟩ _ rfl (Row.cell (show Row _ (w.heap.size + 1) 3 _ from (World.putObj_heap_other (by omega)).trans hrr) 0), rfl, ?_⟩
      exact hbw.trans (belowK_b (w := w) (Nat.le_refl _) _ D _ _ (by omega) hK rfl rfl)
  · have hs : sg (N : Int) (M : Int) = sg (a : Int) (b : Int) := by
      rcases Nat.lt_or_ge N M with h | h
      · have := hgl h; rw [sg_lt (by omega), sg_lt (by omega)]
      · have := hgl2 (by omega); rw [sg_gt (by omega), sg_gt (by omega)]
    have d1 : ((N : Int) != (M : Int)) = true := by simp; omega
    have HS := Lib.hid hs
    clear hs hne
    gi_wp2_with (refine ⟨trivial, ?_⟩; gi_at_call 133; refine (callsIn_wide.2 (cmp_any _ _ _)).mono ?_; rintro e w' ⟨rfl, rfl⟩)
    refine ⟨_, results_cell1 rfl _ _ ⟨w.heap.size + 1, 0, none⟩ (sg (N : Int) (M : Int)) rfl ?_, by rw [HS.out], ((Below.refl _ w).alloc (Nat.le_refl _) _).alloc (by simp) _⟩
    have := Row.new (w.alloc (.cells #[.slice B M cb] 97)) 3 #[.int .i64 (sg (N : Int) (M : Int))]
    rw [World.size_alloc] at this
    exact this.cell 0
end Go.Proofs.YtabkodpjhpjgnaaGreatDoor
