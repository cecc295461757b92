/- Contract of the reference's PutInt: the string of the groups, for every integer in range; the error for every other. -/
import Derived.Test.YtihifbhfgdifeaaDoorWa
import Derived.Maps.AppendAt
import Derived.RangeFuncBox
namespace Go.Proofs.YtihifbhfgdifeaaDoor
open Go.RowKit

theorem Tryd.infoU8 : (Tryd.prog.info? 5).map (fun i => (i.zero, i.size, i.bytes)) = some (some (.int .u8 0), 1, 1) := by kernel_rfl

def byteCells (l : List UInt8) : List Value := l.map fun b => Value.int .u8 (b.toNat : Int)
theorem byteCells_snoc (l : List UInt8) (b : UInt8) : byteCells (l ++ [b]) = byteCells l ++ [.int .u8 (b.toNat : Int)] := by simp [byteCells]
theorem byteCells_len (l : List UInt8) : (byteCells l).length = l.length := by simp [byteCells]
theorem own_ge {w : World} {base : Nat} {e : TypeId} {size : Nat} {v : Value} {n : Nat} {xs : List Value} (h : w.ownsRow base e size v n xs) : ∀ k, v.ownBlock = some k → base ≤ k := by
  intro k hk
  rcases h.2 with ⟨rfl, _⟩ | ⟨g, cap, cur, rfl, hb, _⟩
  · simp [Value.ownBlock] at hk
  · simp [Value.ownBlock] at hk; omega
def bs (l : List UInt8) : ByteArray := ⟨l.toArray⟩
abbrev strOf (l : List UInt8) : Value := .string (bs l)
/-- An owned row of bytes reads as a string. -/
theorem own_string {w : World} {base g cap n : Nat} {xs : List Value} (l : List UInt8) (h : w.ownsRow base 5 1 (.slice (some ⟨g, 0, none⟩) n cap) n xs) (hn : l.length = n) (hx : xs = byteCells l) :
    Sem.run Tryd.prog (Go.convert 38 9 (.slice (some ⟨g, 0, none⟩) n cap)) w = .ok (strOf l) w := by
  subst hn hx
  refine run_convert_bytes_back w 38 9 5 ⟨g, 0, none⟩ cap l Tryd.underlying38 Tryd.underlying5 Tryd.underlying9 fun j hj => ?_
  have := h.cellAt j (by omega)
  rw [show (⟨g, 0, none⟩ : Addr).add j = ⟨g, j, none⟩ from by simp [Addr.add]; omega, this]
  simp [byteCells, List.getElem?_eq_getElem hj]
theorem encF_last (f y : Nat) (h : y < 128) (hf : 0 < f) : Wm.encF f y = [UInt8.ofNat y] := by
  obtain ⟨f, rfl⟩ : ∃ g, f = g + 1 := ⟨f - 1, by omega⟩
  rw [Wm.encF, if_pos h]
theorem encF_more (f y : Nat) (h : ¬ y < 128) (hf : 0 < f) : Wm.encF f y = UInt8.ofNat (y % 128 + 128) :: Wm.encF (f - 1) (y / 128) := by
  obtain ⟨f, rfl⟩ : ∃ g, f = g + 1 := ⟨f - 1, by omega⟩
  rw [Wm.encF, if_neg h]; rfl

set_option maxRecDepth 100000 in
set_option maxHeartbeats 400000 in
theorem refPut_out (n : Int) (w : World) (h : n < -4611686018427387903 ∨ 4611686018427387903 < n) (h1 : -9223372036854775808 ≤ n) (h2 : n ≤ 9223372036854775807) :
    Calls Tryd.prog 13 #[.int .i64 n] w fun e w' => e = .returned (.tuple #[.string ⟨#[]⟩, .int .i64 10]) ∧ Below w.heap.size w w' := by
  rcases h with h | h
  · go_enter Tryd.func13, Tryd.ntmps13
    go_wp2
    go_ret2
    exact ⟨rfl, Below.refl _ _⟩
  · have h' : ¬ n < -4611686018427387903 := by omega
    go_enter Tryd.func13, Tryd.ntmps13
    go_wp2
    go_ret2
    exact ⟨rfl, Below.refl _ _⟩

set_option maxRecDepth 100000 in
set_option maxHeartbeats 1000000 in
theorem refPut_in (n : Int) (w : World) (h1 : -4611686018427387903 ≤ n) (h2 : n ≤ 4611686018427387903) :
    Calls Tryd.prog 13 #[.int .i64 n] w fun e w' => e = .returned (.tuple #[strOf (Wm.enc (Wm.foldZ n)), .int .i64 0]) ∧ Below w.heap.size w w' := by
  have hz := Wm.fold_lt n h1 h2
  have hc := fun w => zigzag_any n w (by omega) (by omega)
  obtain ⟨z, hzz⟩ : ∃ z, Wm.foldZ n = z := ⟨_, rfl⟩
  rw [hzz] at hz hc ⊢
  clear hzz
  have HC := Lib.hid hc; clear hc
  obtain ⟨i0, hi, hz0, hz1, hz2⟩ := info_parts Tryd.infoU8
  go_enter Tryd.func13, Tryd.ntmps13
  go_wp2_with (go_at_call 25; refine (HC.out _).mono ?_; rintro e w' ⟨rfl, rfl⟩)
  go_loopw [4, 5] (fun zs v wr => ∃ (l : List UInt8) (y : Nat), l.length ≤ 8 ∧ y < 128 ^ (9 - l.length) ∧ y ≤ 9223372036854775806 ∧ zs = .int .u64 y ∧ wr.ownsRow w.heap.size 5 1 v l.length (byteCells l) ∧ Below w.heap.size w wr ∧ Wm.enc z = l ++ Wm.encF (9 - l.length) y)
    (fun zs _ _ => (intOf zs).toNat)
  case atStart => exact ⟨[], z, by simp, by simp; omega, by omega, rfl, World.ownsRow_nil _ _ _ _, Below.refl _ _, rfl⟩
  case round =>
    obtain ⟨l, y, hl, hy, hy2, rfl, hown, hB, hE⟩ := hrel
    have HE := Lib.hid hE; clear hE
    have HY := Lib.hid hy; clear hy
    have hl2 : l.length + 1 ≤ maxLen := by unfold maxLen; omega
    by_cases hlt : y < 128
    · have hyb : (UInt8.ofNat y).toNat = y := Wm.u8_ofNat y (by omega)
      have HYB := Lib.hid hyb; clear hyb
      go_wp2_with (at_builtin; refine wpList_append_own _ rfl _ _ 38 rfl w.heap.size 5 i0 (.int .u8 0) 1 1 Tryd.underlying38 hi hz0 hz1 hz2 rfl (by decide) _ _ _ rfl (hown.alloc _) ⟨wr.heap.size, 0, none⟩ 1 1 [.int .u8 (y : Int)] rfl rfl (cell_one_new _ _ _) (by simp [Value.oneCell']) hl2 (by omega) (by have := hB.size; simp; omega) ?_; intro v' w1 hown' hgrow _; obtain ⟨g', cap', rfl⟩ := ownsRow_succ hown'; have hcv := own_string (l ++ [UInt8.ofNat y]) hown' (by simp) (by rw [byteCells_snoc, HYB.out]))
      go_ret2
      have e := encF_last (9 - l.length) y hlt (by omega)
      refine ⟨by rw [HE.out, e]; rfl, ?_⟩
      exact (hB.alloc hB.size _).grown hgrow (by have := hB.size; simp; omega) (own_ge hown)
    · have hyb : (UInt8.ofNat (y % 128 + 128)).toNat = y % 128 + 128 := Wm.u8_ofNat _ (by omega)
      have HYB := Lib.hid hyb; clear hyb
      have hl8 : l.length + 1 ≤ 8 := by
        have := HY.out
        by_cases h8 : l.length = 8
        · rw [h8] at this; simp at this; omega
        · omega
      go_wp2_with (at_builtin; refine wpList_append_own _ rfl _ _ 38 rfl w.heap.size 5 i0 (.int .u8 0) 1 1 Tryd.underlying38 hi hz0 hz1 hz2 rfl (by decide) _ _ _ rfl (hown.alloc _) ⟨wr.heap.size, 0, none⟩ 1 1 [.int .u8 ((y : Int) % 128 + 128)] rfl rfl (cell_one_new _ _ _) (by simp [Value.oneCell']) hl2 (by omega) (by have := hB.size; simp; omega) ?_; intro v' w1 hown' hgrow _; obtain ⟨g', cap', rfl⟩ := ownsRow_succ hown')
      go_roundw
      case rel =>
        have e := encF_more (9 - l.length) y hlt (by omega)
        refine ⟨l ++ [UInt8.ofNat (y % 128 + 128)], y / 128, by simp; omega, ?_, by omega, rfl, ?_, (hB.alloc hB.size _).grown hgrow (by have := hB.size; simp; omega) (own_ge hown), ?_⟩
        · have := HY.out
          rw [List.length_append, List.length_singleton, Nat.div_lt_iff_lt_mul (by decide)]
          rw [show 9 - l.length = (9 - (l.length + 1)) + 1 from by omega, Nat.pow_succ] at this
          exact this
        · rw [byteCells_snoc, HYB.out, List.length_append]; simpa using hown'
        · rw [HE.out, e, List.length_append, List.length_singleton, List.append_assoc, show 9 - l.length - 1 = 9 - (l.length + 1) from by omega]; rfl
      case measure => simp [intOf]; omega
end Go.Proofs.YtihifbhfgdifeaaDoor
