/- Contract of padding: what extends a string of n bytes to whole blocks. -/
import Derived.Test.YtnbhhhbmeafkaaaDoorDd
namespace Go.Proofs.YtnbhhhbmeafkaaaDoor
open Go.RowKit

theorem made_u8 (N : Nat) : madeCells #[.int .u8 0] N = u8row (List.replicate N 0) := by
  apply Array.ext
  · rw [size_madeCells, u8row_size, List.length_replicate]
  · intro i h1 h2
    simp [madeCells, u8row, Nat.mod_one]
theorem set_mid (A B : List UInt8) (m : Nat) (x : UInt8) : (A ++ (List.replicate (m + 1) 0 ++ B)).set (A.length + m) x = A ++ (List.replicate m 0 ++ x :: B) := by
  rw [List.set_append_right _ _ (by omega), Nat.add_sub_cancel_left, List.replicate_succ', List.append_assoc, List.set_append_right _ _ (by simp)]
  simp
def padAt (n k : Nat) : List UInt8 := ([128] ++ List.replicate (Dm.zeros n) 0) ++ (List.replicate (8 - k) 0 ++ (Dm.len8 n).drop (8 - k))
theorem padAt_len (n k : Nat) (_ : k ≤ 8) : (padAt n k).length = 9 + Dm.zeros n := by
  simp [padAt, Dm.len8_len]; omega
theorem padAt_8 (n : Nat) : padAt n 8 = Dm.pad n := by simp [padAt, Dm.pad]
theorem padAt_0 (n : Nat) : padAt n 0 = (List.replicate (9 + Dm.zeros n) 0).set 0 128 := by
  have e : List.replicate (9 + Dm.zeros n) (0 : UInt8) = 0 :: (List.replicate (Dm.zeros n) 0 ++ List.replicate 8 0) := by
    rw [List.replicate_append_replicate, show 9 + Dm.zeros n = (Dm.zeros n + 8) + 1 from by omega]; rfl
  have d : (Dm.len8 n).drop 8 = [] := List.drop_eq_nil_of_le (by rw [Dm.len8_len]; omega)
  rw [e, List.set_cons_zero, padAt, d]
  simp
theorem padAt_set (n k : Nat) (h : k < 8) : (padAt n k).set (8 + Dm.zeros n - k) (UInt8.ofNat (8 * n / 256 ^ k % 256)) = padAt n (k + 1) := by
  have e : 8 - k = (7 - k) + 1 := by omega
  have hi : 7 - k < (Dm.len8 n).length := by rw [Dm.len8_len]; omega
  have hd : (Dm.len8 n).drop (7 - k) = UInt8.ofNat (8 * n / 256 ^ k % 256) :: (Dm.len8 n).drop (8 - k) := by
    rw [e, List.drop_eq_getElem_cons hi]
    congr 1
    simp only [Dm.len8, List.getElem_map, List.getElem_range]
    rw [show 7 - (7 - k) = k from by omega]
  unfold padAt
  have := set_mid ([128] ++ List.replicate (Dm.zeros n) 0) ((Dm.len8 n).drop (8 - k)) (7 - k) (UInt8.ofNat (8 * n / 256 ^ k % 256))
  have hl : ([128] ++ List.replicate (Dm.zeros n) (0 : UInt8)).length + (7 - k) = 8 + Dm.zeros n - k := by simp; omega
  rw [hl, ← e] at this
  rw [this, show 8 - (k + 1) = 7 - k from by omega, hd]
theorem u8row_put (l : List UInt8) (i x : Nat) (h : x < 256) : (u8row l).setIfInBounds i (.int .u8 (x : Int)) = u8row (l.set i (UInt8.ofNat x)) := by
  have e : (x : Int) % 256 = x := by omega
  simp [u8row, List.map_set, e]

theorem shr_pow (n k : Nat) : 8 * (n : Int) / 2 ^ (8 * k) % 256 = ((8 * n / 256 ^ k % 256 : Nat) : Int) := by
  have e : 8 * (n : Int) = ((8 * n : Nat) : Int) := by omega
  have e2 : (256 : Nat) ^ k = 2 ^ (8 * k) := by rw [Nat.pow_mul]
  rw [e, shr_cast, e2]; omega

set_option maxRecDepth 100000 in
set_option maxHeartbeats 1000000 in
theorem padding_any (n : Nat) (w : World) (hn : n ≤ 1099511627776) :
    Calls Tryd.prog 69 #[.int .i64 (n : Int)] w fun e w' => e = .returned (strOf (Dm.pad n)) ∧ Below w.heap.size w w' := by
  obtain ⟨i0, hi, hz0, hz1, hz2⟩ := info_parts Tryd.infoU8
  obtain ⟨z, hz⟩ : ∃ z, Dm.zeros n = z := ⟨_, rfl⟩
  have hzl : z < 64 := by rw [← hz]; unfold Dm.zeros; exact Nat.mod_lt _ (by decide)
  have e1 : (119 - (n : Int) % 64) % 64 = (z : Int) := by rw [← hz]; unfold Dm.zeros; omega
  have hmk : ∀ w, (Instr.makeSlice 43 (.int .i64 (1 + (z : Int) + 8)) (.int .i64 (1 + (z : Int) + 8))).run Tryd.prog w = .ok (.slice (some ⟨w.heap.size, 0, none⟩) (9 + z) (9 + z)) (w.alloc (.cells (u8row (List.replicate (9 + z) 0)) 5)) := by
    intro w
    have := run_make (P := Tryd.prog) w 43 5 i0 (.int .u8 0) Tryd.underlying43 hi hz0 .i64 .i64 (1 + (z : Int) + 8) (1 + (z : Int) + 8) (by omega) (by omega) (by rw [hz2]; omega) (by omega)
    rw [hz1, show (1 + (z : Int) + 8).toNat = 9 + z from by omega, Nat.mul_one, show (Value.int .u8 0).cells = #[.int .u8 0] from rfl, made_u8] at this
    exact this
  have c0 := ((Row.new w 5 (u8row (List.replicate (9 + z) 0))).cell 0).trans (u8row_get _ 0 (by simp; omega))
  have f0 := (Row.new w 5 (u8row (List.replicate (9 + z) 0))).free 0
  have HZ := Lib.hid hz
  clear hz
  have b9 : (0 : Int) < ((9 + z : Nat) : Int) := by omega
  go_enter Tryd.func69, Tryd.ntmps69
  go_wp2
  clear e1 hmk c0 f0
  go_loopw [6, 20] (fun _ i wr => ∃ k : Nat, k ≤ 8 ∧ i = .int .i64 k ∧ Row wr w.heap.size 5 (u8row (padAt n k)) ∧ Below w.heap.size w wr) (fun _ i _ => 8 - (intOf i).toNat)
  case atStart =>
    refine ⟨0, by omega, rfl, ?_, (Below.refl _ _).alloc (Nat.le_refl _) _⟩
    rw [padAt_0, HZ.out]
    have e := u8row_put (List.replicate (9 + z) 0) 0 128 (by decide)
    exact e ▸ Row.new w 5 _
  case round =>
    obtain ⟨k, hk, rfl, r1, hB⟩ := hrel
    by_cases hlt : k < 8
    · have hl := padAt_len n k hk
      rw [HZ.out] at hl
      have ck := (r1.cell (8 + z - k)).trans (u8row_get _ (8 + z - k) (by omega))
      have fk := r1.free (8 + z - k)
      obtain ⟨q, hq⟩ : ∃ q, 8 * n / 256 ^ k % 256 = q := ⟨_, rfl⟩
      have hp := padAt_set n k hlt
      rw [HZ.out, hq] at hp
      have R1 := Lib.hid r1; have HP := Lib.hid hp
      have ht : (8 * (k : Int)).toNat = 8 * k := by omega
      have hv : IntKind.u8.wrap (8 * (n : Int) / 2 ^ (8 * k)) = (q : Int) := by
        rw [IntKind.wrap_u8, ← hq]; exact shr_pow n k
      have hj : (((9 + z : Nat) : Int) - 1 - (k : Int)).toNat = 8 + z - k := by omega
      have HQ := Lib.hid (show q < 256 from by omega)
      clear hq hl hp r1
      go_wp2
      go_roundw
      case rel =>
        refine ⟨k + 1, by omega, by go_num, ?_, hB.setCell (by simp) _⟩
        have := R1.out.put (8 + z - k) (.int .u8 (q : Int))
        rw [u8row_put _ _ _ (by have := HQ.out; omega), HP.out] at this
        exact this
      case measure => simp [intOf]; omega
    · have hk8 : k = 8 := by omega
      rw [hk8, padAt_8] at r1
      have hl : (Dm.pad n).length = 9 + z := by rw [Dm.pad_len, HZ.out]
      have hown : wr.ownsRow w.heap.size 5 1 (.slice (some ⟨w.heap.size, 0, none⟩) (9 + z) (9 + z)) (9 + z) (byteCells (Dm.pad n)) := by
        refine ⟨by rw [byteCells_len, hl, Nat.mul_one], .inr ⟨w.heap.size, 9 + z, u8row (Dm.pad n), rfl, Nat.le_refl _, r1, Nat.le_refl _, by unfold maxLen; omega, by rw [u8row_size, hl, Nat.mul_one], ?_⟩⟩
        rw [Nat.mul_one, u8row, byteCells, List.take_of_length_le (by simp [hl])]
      have hcv := own_string (Dm.pad n) hown hl rfl
      clear hown hl r1 hk8
      go_wp2
      go_ret
      exact ⟨rfl, hB⟩
end Go.Proofs.YtnbhhhbmeafkaaaDoor
