/- Contracts of digest and of padding: the bytes of the words of a state; what extends a string to whole blocks. -/
import Derived.Test.YtnbhhhbmeafkaaaDoorDu
namespace Go.Proofs.YtnbhhhbmeafkaaaDoor
open Go.RowKit

set_option maxRecDepth 100000 in
set_option maxHeartbeats 1000000 in
theorem digest_any (s : Dm.St) (hs : s.ok) (w : World) :
    Calls Tryd.prog 59 #[.agg (stA s)] w fun e w' => e = .returned (strOf (Dm.out s)) ∧ Below w.heap.size w w' := by
  obtain ⟨i0, hi, hz0, hz1, hz2⟩ := info_parts Tryd.infoU8
  have hmk : ∀ w, (Instr.makeSlice 43 (.int .i64 0) (.int .i64 32)).run Tryd.prog w = .ok (.slice (some ⟨w.heap.size, 0, none⟩) 0 32) (w.alloc (.cells z32 5)) := fun _ => by kernel_rfl
  obtain ⟨sa, hsa⟩ : ∃ x, stA s = x := ⟨_, rfl⟩
  have hix := fun k (h : k < 8) => stA_get s k h
  have hi8 : (Tryd.prog.info? 73).map (·.size) = some sa.size := by rw [← hsa]; kernel_rfl
  rw [hsa] at hix ⊢
  have HI8 := Lib.hid hi8; have HIX := Lib.hid hix; have HS := Lib.hid hs
  clear hi8 hix hsa hs
  have r0 := Lib.hid ((Row.new w 73 sa).alloc (.cells z32 5))
  have o0 := own_z32 (w.alloc (.cells sa 73))
  rw [World.size_alloc] at o0
  have O0 := Lib.hid o0
  clear o0
  go_enter Tryd.func59, Tryd.ntmps59
  go_wp2_with (refine wpList_load_row rfl 73 (.tmp 1) rfl w.heap.size rfl 73 sa (0, 0) _ r0.out Tryd.underlying73 rfl HI8.out ?_)
  go_loopw [3, 5, 8] (fun v _ i wr => ∃ k : Nat, k ≤ 8 ∧ i = .int .i64 k ∧ wr.ownsRow (w.heap.size + 1) 5 1 v (4 * k) (byteCells ((s.l.take k).flatMap Dm.bytes4)) ∧ (∃ g c, v = .slice (some ⟨g, 0, none⟩) (4 * k) c) ∧ Below w.heap.size w wr) (fun _ _ i _ => 8 - (intOf i).toNat)
  case atStart => exact ⟨0, by omega, rfl, O0.out, ⟨_, _, rfl⟩, ((Below.refl _ _).alloc (Nat.le_refl _) _).alloc (by simp) _⟩
  case round =>
    obtain ⟨k, hk, rfl, hown, ⟨g, c, rfl⟩, hB⟩ := hrel
    by_cases hlt : k < 8
    · have hx := HIX.out k hlt
      have hl := l_lt HS.out k
      obtain ⟨x, hxx⟩ : ∃ x, s.l.getD k 0 = x := ⟨_, rfl⟩
      have hot := out_take s k hlt
      rw [hxx] at hx hl hot
      have HOT := Lib.hid hot
      clear hot hxx
      obtain ⟨q0, hq0⟩ : ∃ q, x / 16777216 = q := ⟨_, rfl⟩
      obtain ⟨m1, hm1⟩ : ∃ q, x / 65536 = q := ⟨_, rfl⟩
      obtain ⟨m2, hm2⟩ : ∃ q, x / 256 = q := ⟨_, rfl⟩
      obtain ⟨q1, hq1⟩ : ∃ q, m1 % 256 = q := ⟨_, rfl⟩
      obtain ⟨q2, hq2⟩ : ∃ q, m2 % 256 = q := ⟨_, rfl⟩
      obtain ⟨q3, hq3⟩ : ∃ q, x % 256 = q := ⟨_, rfl⟩
      have d0 : (x : Int) / 16777216 = (q0 : Int) := by omega
      have d1 : (x : Int) / 65536 = (m1 : Int) := by omega
      have d2 : (x : Int) / 256 = (m2 : Int) := by omega
      have w0 : IntKind.u8.wrap (q0 : Int) = (q0 : Int) := by rw [IntKind.wrap_u8]; omega
      have w1 : IntKind.u8.wrap (m1 : Int) = (q1 : Int) := by rw [IntKind.wrap_u8]; omega
      have w2 : IntKind.u8.wrap (m2 : Int) = (q2 : Int) := by rw [IntKind.wrap_u8]; omega
      have w3 : IntKind.u8.wrap (x : Int) = (q3 : Int) := by rw [IntKind.wrap_u8]; omega
      have hb : byteCells (Dm.bytes4 x) = [.int .u8 (q0 : Int), .int .u8 (q1 : Int), .int .u8 (q2 : Int), .int .u8 (q3 : Int)] := by
        unfold byteCells Dm.bytes4
        rw [hq0, hm1, hm2, hq1, hq2, hq3, List.map_cons, List.map_cons, List.map_cons, List.map_cons, List.map_nil, u8_ofNat _ (by omega), u8_ofNat _ (by omega), u8_ofNat _ (by omega), u8_ofNat _ (by omega), Nat.mod_eq_of_lt (by omega)]
      have HBB := Lib.hid hb
      clear hb hq0 hm1 hm2 hq1 hq2 hq3 hl
      go_wp2_with (at_builtin; refine wpList_append_own _ rfl _ _ 43 rfl (w.heap.size + 1) 5 i0 (.int .u8 0) 1 1 Tryd.underlying43 hi hz0 hz1 hz2 rfl (by decide) _ _ _ rfl (hown.alloc _) ⟨wr.heap.size, 0, none⟩ 4 4 [.int .u8 (q0 : Int), .int .u8 (q1 : Int), .int .u8 (q2 : Int), .int .u8 (q3 : Int)] rfl rfl (cells_new _ _ _) (by simp [Value.oneCell']) (by unfold maxLen; omega) (by omega) (by have := hB.size; have := own_lt hown g rfl; have := own_ge hown g rfl; simp; omega) ?_; intro v' wn hown' hgrow _; obtain ⟨g', cap', rfl⟩ := ownsRow_succ hown')
      go_roundw
      case rel =>
        refine ⟨k + 1, by omega, by go_num, ?_, ⟨_, _, by rw [Nat.mul_add]⟩, (hB.alloc hB.size _).grown hgrow (by have := hB.size; simp; omega) (fun j hj => by have := own_ge hown j hj; omega)⟩
        rw [HOT.out, byteCells_append, HBB.out, Nat.mul_add]
        exact hown'
      case measure => simp [intOf]; omega
    · have hk8 : k = 8 := by omega
      have hcv := own_string (Dm.out s) hown (by rw [Dm.out_len]; omega) (by rw [hk8]; rfl)
      clear hown hk8
      go_wp2
      go_ret
      exact ⟨rfl, hB⟩
end Go.Proofs.YtnbhhhbmeafkaaaDoor
