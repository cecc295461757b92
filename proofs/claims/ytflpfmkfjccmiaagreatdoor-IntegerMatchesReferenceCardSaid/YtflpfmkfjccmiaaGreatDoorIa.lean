/- Words for slices of integers: what a slice reads, rows that a call makes for itself; contracts of trimmed and isZero. -/
import Derived.Test.YtflpfmkfjccmiaaGreatDoorProg
import Derived.Test.YtflpfmkfjccmiaaGreatDoorIv
import Derived.WalkKit
import Derived.Lib.Hide
import Derived.Below
import Derived.Laws.Rows
import Derived.Laws.OwnMore
import Derived.Deep.Draws
import Derived.Deep.QuietTactic
import Derived.BigQuiet
import Derived.BigRegion
import Derived.StillTailTactics
import Derived.LoopN
import Derived.Outline
import Derived.Maps.AppendAt
import Derived.RangeFuncBox
namespace Go.Proofs.YtflpfmkfjccmiaaGreatDoor
open Go.RowKit

def bs (l : List UInt8) : ByteArray := ⟨l.toArray⟩
abbrev strOf (l : List UInt8) : Value := .string (bs l)
theorem bs_size (l : List UInt8) : (bs l).size = l.length := by simp [bs, ByteArray.size]
theorem bs_list (l : List UInt8) : (bs l).data.toList = l := by simp [bs]
theorem bs_of (s : ByteArray) : bs s.data.toList = s := by simp [bs]
theorem bs_append (a b : List UInt8) : bs a ++ bs b = bs (a ++ b) := by simp [bs, ByteArray.mk_append_mk]
theorem bs_inj (a b : List UInt8) : bs a = bs b ↔ a = b := ⟨fun h => by rw [← bs_list a, h, bs_list], fun h => by rw [h]⟩
theorem u8_ofNat (n : Nat) (h : n < 256) : (UInt8.ofNat n).toNat = n := by simp [UInt8.toNat_ofNat']; omega

def intRow (l : List Int) : Array Value := (l.map fun x => Value.int .i64 x).toArray
def intCells (l : List Int) : List Value := l.map fun x => Value.int .i64 x
theorem intCells_len (l : List Int) : (intCells l).length = l.length := by simp [intCells]
theorem intCells_snoc (l : List Int) (x : Int) : intCells (l ++ [x]) = intCells l ++ [.int .i64 x] := by simp [intCells]
theorem intRow_size (l : List Int) : (intRow l).size = l.length := by simp [intRow]
theorem intRow_get (l : List Int) (i : Nat) (h : i < l.length) : (intRow l)[i]? = some (.int .i64 (l.getD i 0)) := by
  simp [intRow, List.getElem?_eq_getElem h]
theorem intRow_put (l : List Int) (i : Nat) (x : Int) : (intRow l).setIfInBounds i (.int .i64 x) = intRow (l.set i x) := by
  simp [intRow, List.map_set]

/-- Block g is just the cells cs, none frozen. -/
def Row (w : World) (g : Nat) (t : TypeId) (cs : Array Value) : Prop := w.heap[g]? = some (.cells cs t (0, 0))
section
variable {w w' : World} {g : Nat} {t : TypeId} {cs : Array Value}
theorem Row.lt (h : Row w g t cs) : g < w.heap.size := by
  by_cases hl : g < w.heap.size
  · exact hl
  · unfold Row at h; rw [Array.getElem?_eq_none (by omega)] at h; cases h
theorem Row.cell (h : Row w g t cs) (i : Nat) : w.cell? ⟨g, i, none⟩ = cs[i]? := cell_of_row w g i cs t (0, 0) h
theorem Row.free (h : Row w g t cs) (i : Nat) : w.frozen? ⟨g, i, none⟩ = false := frozen_of_row w g i cs t h
theorem Row.new (w : World) (t : TypeId) (cs : Array Value) : Row (w.alloc (.cells cs t)) w.heap.size t cs := heap_alloc_new w _
theorem Row.drew (h : Row w g t cs) : Row w.drew g t cs := h
theorem Row.drewN (h : Row w g t cs) (n : Nat) : Row (w.drewN n) g t cs := h
theorem Row.alloc (h : Row w g t cs) (o : Obj) : Row (w.alloc o) g t cs := (Below.heap_alloc w o g h.lt).trans h
theorem Row.put (h : Row w g t cs) (i : Nat) (u : Value) : Row (w.setCell ⟨g, i, none⟩ u) g t (cs.setIfInBounds i u) := by
  unfold Row at h ⊢
  simp [World.setCell, Array.getElem?_modify, h]
theorem Row.far (h : Row w g t cs) {p : Addr} (hp : g ≠ p.block) (u : Value) : Row (w.setCell p u) g t cs := (Below.heap_setCell w p u g hp).trans h
theorem Row.below {B : Nat} (h : Row w g t cs) (hb : Below B w w') (hg : g < B) : Row w' g t cs := (hb.block g hg).trans h
end
theorem belowN {B : Nat} {w w' : World} (h : Below B w w') (n : Nat) : Below B w (w'.drewN n) := ⟨h.os, h.tape, h.output, h.size, h.block⟩
theorem below_to {w w1 w2 : World} (h1 : Below w.heap.size w w1) (h2 : Below w1.heap.size w1 w2) : Below w.heap.size w w2 := h1.trans (h2.mono h1.size)
theorem below_same {w w' : World} (h : w = w') : Below w.heap.size w w' := h ▸ Below.refl _ _

/-- A slice that reads as the integers l, in blocks below B. -/
def Ints (w : World) (B : Nat) (v : Value) (l : List Int) : Prop :=
  ∃ A c, v = .slice A l.length c ∧ l.length ≤ c ∧ c ≤ maxLen ∧ (A = none ∧ l = [] ∨ ∃ g off, A = some ⟨g, off, none⟩ ∧ g < B ∧ ∀ j x, l[j]? = some x → w.cell? ⟨g, off + j, none⟩ = some (.int .i64 x))
theorem Ints.keep {w w' : World} {B : Nat} {v : Value} {l : List Int} (h : Ints w B v l) (hk : ∀ p : Addr, p.block < B → w'.cell? p = w.cell? p) : Ints w' B v l := by
  obtain ⟨A, c, h1, h2, h3, h4⟩ := h
  refine ⟨A, c, h1, h2, h3, ?_⟩
  rcases h4 with h4 | ⟨g, off, h4, h5, h6⟩
  · exact .inl h4
  · exact .inr ⟨g, off, h4, h5, fun j s hj => (hk _ h5).trans (h6 j s hj)⟩
theorem Ints.below {w w' : World} {B : Nat} {v : Value} {l : List Int} (h : Ints w B v l) (hb : Below B w w') : Ints w' B v l := h.keep fun _ hp => hb.cell hp
theorem Ints.more {w : World} {B B' : Nat} {v : Value} {l : List Int} (h : Ints w B v l) (hB : B ≤ B') : Ints w B' v l := by
  obtain ⟨A, c, h1, h2, h3, h4⟩ := h
  refine ⟨A, c, h1, h2, h3, ?_⟩
  rcases h4 with h4 | ⟨g, off, h4, h5, h6⟩
  · exact .inl h4
  · exact .inr ⟨g, off, h4, by omega, h6⟩
theorem Ints.next {w w' : World} {v : Value} {l : List Int} (h : Ints w w.heap.size v l) (hb : Below w.heap.size w w') : Ints w' w'.heap.size v l := (h.below hb).more hb.size
theorem ints_nil (w : World) (B : Nat) : Ints w B (.slice none 0 0) [] := ⟨none, 0, rfl, Nat.le_refl _, by decide, .inl ⟨rfl, rfl⟩⟩
theorem ints_pre {w : World} {B n c : Nat} {A : Option Addr} {l : List Int} (h : Ints w B (.slice A n c) l) (k : Nat) (hk : k ≤ l.length) : Ints w B (.slice A k c) (l.take k) := by
  obtain ⟨A', c', e, h1, h2, h3⟩ := h
  injection e with e1 e2 e3
  subst e1; subst e3
  refine ⟨_, c, by rw [List.length_take, Nat.min_eq_left hk], by rw [List.length_take]; omega, h2, ?_⟩
  rcases h3 with ⟨h3, h4⟩ | ⟨g', off', h3, hg, hc⟩
  · exact .inl ⟨h3, by rw [h4]; simp⟩
  · refine .inr ⟨g', off', h3, hg, fun j s hj => ?_⟩
    have hjk : j < k := by have := (List.getElem?_eq_some_iff.1 hj).1; rw [List.length_take] at this; omega
    rw [List.getElem?_take_of_lt hjk] at hj
    exact hc j s hj
theorem ints_suf {w : World} {B g off n c : Nat} {l : List Int} (h : Ints w B (.slice (some ⟨g, off, none⟩) n c) l) (k : Nat) (hk : k ≤ l.length) : Ints w B (.slice (some ⟨g, off + k, none⟩) (n - k) (c - k)) (l.drop k) := by
  obtain ⟨A', c', e, h1, h2, h3⟩ := h
  injection e with e1 e2 e3
  subst e1; subst e3
  refine ⟨_, _, by rw [List.length_drop, e2], by rw [List.length_drop]; omega, by omega, ?_⟩
  rcases h3 with ⟨h3, h4⟩ | ⟨g', off', h3, hg, hc⟩
  · cases h3
  · injection h3 with h3
    injection h3 with h4 h5
    subst h4; subst h5
    refine .inr ⟨g, off + k, rfl, hg, fun j s hj => ?_⟩
    rw [List.getElem?_drop] at hj
    rw [Nat.add_assoc]; exact hc _ s hj
theorem ints_at {w : World} {B n c : Nat} {A : Option Addr} {l : List Int} (h : Ints w B (.slice A n c) l) (k : Nat) (hk : k < l.length) : ∃ g off, A = some ⟨g, off, none⟩ ∧ g < B ∧ ∀ j, j < l.length → w.cell? ⟨g, off + j, none⟩ = some (.int .i64 (l.getD j 0)) := by
  obtain ⟨A', c', e, h1, h2, h3⟩ := h
  injection e with e1 e2 e3
  subst e1
  rcases h3 with ⟨_, h4⟩ | ⟨g, off, h3, hg, hc⟩
  · rw [h4] at hk; simp at hk
  · exact ⟨g, off, h3, hg, fun j hj => by rw [hc j _ (List.getElem?_eq_getElem hj), List.getD_eq_getElem?_getD, List.getElem?_eq_getElem hj]; rfl⟩
theorem ints_form {w : World} {B : Nat} {v : Value} {l : List Int} (h : Ints w B v l) : ∃ A c, v = .slice A l.length c ∧ l.length ≤ c ∧ c ≤ 9223372036854775807 := by
  obtain ⟨A, c, h1, h2, h3, _⟩ := h
  exact ⟨A, c, h1, h2, by unfold maxLen at h3; omega⟩
theorem ints_cap {w : World} {B n c : Nat} {A : Option Addr} {l : List Int} (h : Ints w B (.slice A n c) l) : n = l.length ∧ l.length ≤ c ∧ c ≤ 9223372036854775807 := by
  obtain ⟨A', c', h1, h2, h3, _⟩ := h
  injection h1 with e1 e2 e3
  subst e3
  exact ⟨e2, h2, by unfold maxLen at h3; omega⟩
theorem ints_of_own {w : World} {base : Nat} {v : Value} {n : Nat} {l : List Int} (h : w.ownsRow base 3 1 v n (intCells l)) (hn : l.length = n) : Ints w w.heap.size v l := by
  subst hn
  rcases h.2 with ⟨rfl, h0⟩ | ⟨g, cap, cur, rfl, hb, hg, h1, h2, h3, h4⟩
  · have : l = [] := List.eq_nil_of_length_eq_zero h0
    subst this
    exact ints_nil _ _
  · refine ⟨_, cap, rfl, h1, h2, .inr ⟨g, 0, rfl, (Array.getElem?_eq_some_iff.1 hg).1, fun j s hj => ?_⟩⟩
    have hjl : j < l.length := (List.getElem?_eq_some_iff.1 hj).1
    have := h.cellAt j (by omega)
    rw [Nat.zero_add, this]
    simp [intCells, List.getElem?_map, hj]
theorem ints_of_row {w : World} {g : Nat} {l : List Int} (h : Row w g 3 (intRow l)) (hl : l.length ≤ 100000) : Ints w w.heap.size (.slice (some ⟨g, 0, none⟩) l.length l.length) l :=
  ⟨_, _, rfl, Nat.le_refl _, by unfold maxLen; omega, .inr ⟨g, 0, rfl, h.lt, fun j x hj => by
    have hjl : j < l.length := (List.getElem?_eq_some_iff.1 hj).1
    rw [Nat.zero_add, h.cell j, intRow_get l j hjl, List.getD_eq_getElem?_getD, hj]; rfl⟩⟩

/-- A slice that reads as the groups of n. -/
def Mag (w : World) (v : Value) (n : Nat) : Prop := Ints w w.heap.size v (Im.grp n)
theorem Mag.next {w w' : World} {v : Value} {n : Nat} (h : Mag w v n) (hb : Below w.heap.size w w') : Mag w' v n := Ints.next h hb
def MagPost (n : Nat) (w : World) (e : Ending) (w' : World) : Prop := ∃ v, e = .returned v ∧ Mag w' v n ∧ Below w.heap.size w w'

theorem ret_i64 {a b : Int} (h : a = b) : Ending.returned (.int .i64 a) = .returned (.int .i64 b) := by rw [h]
theorem ret_bool {a b : Bool} (h : a = b) : Ending.returned (.bool a) = .returned (.bool b) := by rw [h]
theorem ret_str {a b : List UInt8} (h : a = b) : Ending.returned (strOf a) = .returned (strOf b) := by rw [h]

set_option maxRecDepth 100000 in
set_option maxHeartbeats 400000 in
theorem trimmed_any (l : List Int) (A : Option Addr) (c : Nat) (w : World) (hv : Ints w w.heap.size (.slice A l.length c) l) :
    Calls Tryz.prog 67 #[.slice A l.length c] w fun e w' => e = .returned (.slice A (Im.trim l).length c) ∧ w = w' := by
  obtain ⟨-, hc1, hc2⟩ := ints_cap hv
  have HV := Lib.hid (fun k hk => ints_at hv k hk)
  obtain ⟨N, hN⟩ : ∃ N, l.length = N := ⟨_, rfl⟩
  have HN := Lib.hid hN
  rw [hN] at hc1 ⊢
  clear hv hN
  go_enter Tryz.func67, Tryz.ntmps67
  go_wp2
  go_loop [3] (fun n => ∃ k : Nat, k ≤ N ∧ n = .int .i64 (k : Int) ∧ Hid (∀ j, k ≤ j → j < l.length → l.getD j 0 = 0)) (fun n => (intOf n).toNat)
  case atStart => exact ⟨N, by omega, rfl, Lib.hid fun j h1 h2 => by have := HN.out; omega⟩
  case round =>
    obtain ⟨k, hk, rfl, HZ⟩ := hrel
    by_cases h0 : 0 < k
    · obtain ⟨g, off, rfl, hg, hcell⟩ := HV.out (k - 1) (by have := HN.out; omega)
      have c0 := hcell (k - 1) (by have := HN.out; omega)
      obtain ⟨x, hx⟩ : ∃ x, l.getD (k - 1) 0 = x := ⟨_, rfl⟩
      rw [hx] at c0
      have HX := Lib.hid hx
      obtain ⟨j, rfl⟩ : ∃ j, k = j + 1 := ⟨k - 1, by omega⟩
      rw [Nat.add_sub_cancel] at c0 HX
      have e1 : ((j + 1 : Nat) : Int) - 1 = (j : Int) := by omega
      have i1 : (0 : Int) ≤ (j : Int) := by omega
      have i2 : (j : Int) < (N : Int) := by omega
      have i3 : (0 : Int) < ((j + 1 : Nat) : Int) := by omega
      clear hcell hx
      by_cases hz : x = 0
      · have t1 : (x == 0) = true := by simpa using hz
        have HZ2 : Hid (∀ i, j ≤ i → i < l.length → l.getD i 0 = 0) := Lib.hid fun i h1 h2 => by
          by_cases e : i = j
          · rw [e, HX.out, hz]
          · exact HZ.out i (by omega) h2
        clear hz
        go_wp2
        go_round
        case rel => exact ⟨j, by omega, by go_num, HZ2⟩
        case measure => simp [intOf]
      · have t1 : (x == 0) = false := by simpa using hz
        have hl : (Im.trim l).length = j + 1 := by
          rw [Im.trim_at l (j + 1) (by have := HN.out; omega) HZ.out (fun _ => by rw [Nat.add_sub_cancel, HX.out]; exact hz), List.length_take]
          have := HN.out; omega
        have HL := Lib.hid hl
        have i4 : ((j + 1 : Nat) : Int) ≤ (c : Int) := by omega
        clear hz hl
        go_wp2
        go_ret
        exact ⟨by rw [HL.out]; rfl, rfl⟩
    · obtain rfl : k = 0 := by omega
      have hl : (Im.trim l).length = 0 := by
        rw [Im.trim_at l 0 (by omega) HZ.out (fun h => by omega)]; rfl
      have HL := Lib.hid hl
      clear hl h0
      go_wp2
      go_ret
      exact ⟨by rw [HL.out]; rfl, rfl⟩
theorem trimmed_ints {w : World} {l : List Int} {A : Option Addr} {c : Nat} (h : Ints w w.heap.size (.slice A l.length c) l) (n : Nat) (hg : Im.Gs l) (hv : Im.val l = n) : Mag w (.slice A (Im.trim l).length c) n := by
  have := ints_pre h (Im.trim l).length (Im.trim_len_le l)
  rw [← Im.trim_take, Im.trim_grp l n hg hv] at this
  rw [Im.trim_grp l n hg hv]; exact this
theorem isZero_any (v : Value) (n : Nat) (w : World) (hv : Mag w v n) :
    Calls Tryz.prog 60 #[v] w fun e w' => e = .returned (.bool (decide (n = 0))) ∧ w = w' := by
  obtain ⟨A, c, rfl, hc1, hc2⟩ := ints_form hv
  have h0 := Im.grp_len0 n
  obtain ⟨N, hN⟩ : ∃ N, (Im.grp n).length = N := ⟨_, rfl⟩
  rw [hN] at h0 hc1 ⊢
  by_cases hz : N = 0
  · subst hz
    have hd : decide (n = 0) = true := by simpa using h0.1 rfl
    rw [hd]
    clear hv hN h0 hd
    go_enter Tryz.func60, Tryz.ntmps60
    go_wp2
    go_ret
    exact ⟨rfl, rfl⟩
  · have hd : decide (n = 0) = false := by simpa using fun h => hz (h0.2 h)
    have i5 : ((N : Int) == 0) = false := by rw [beq_eq_false_iff_ne]; omega
    rw [hd]
    clear hv hN h0 hd hz
    go_enter Tryz.func60, Tryz.ntmps60
    go_wp2
    go_ret
    exact ⟨rfl, rfl⟩
end Go.Proofs.YtflpfmkfjccmiaaGreatDoor
