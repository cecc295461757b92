/- Cut at one byte; Print and Parse. -/
import Derived.Test.YtabkodpjhpjgnaaGreatDoorQl
import Derived.Test.YtabkodpjhpjgnaaGreatDoorShelg
import Derived.Deep.QuietTactic
import Derived.BigQuiet
namespace Go.Proofs.YtabkodpjhpjgnaaGreatDoor
open Go.RowKit Go.Shelf

theorem index_no (c : UInt8) : ∀ l : List UInt8, c ∉ l → Lib.indexByte l c = -1
  | [], _ => rfl
  | b :: l, h => by
    rw [List.mem_cons, not_or] at h
    have ih := index_no c l h.2
    have hb : (b == c) = false := beq_eq_false_iff_ne.2 (Ne.symm h.1)
    unfold Lib.indexByte
    rw [hb, ih]; rfl
theorem index_yes (c : UInt8) (B : List UInt8) : ∀ A : List UInt8, c ∉ A → Lib.indexByte (A ++ c :: B) c = (A.length : Int)
  | [], _ => by
    show Lib.indexByte (c :: B) c = _
    unfold Lib.indexByte
    rw [beq_self_eq_true]; rfl
  | b :: A, h => by
    rw [List.mem_cons, not_or] at h
    have ih := index_yes c B A h.2
    have hb : (b == c) = false := beq_eq_false_iff_ne.2 (Ne.symm h.1)
    show Lib.indexByte (b :: (A ++ c :: B)) c = _
    unfold Lib.indexByte
    rw [hb, ih]
    have h0 : (((A.length : Int)) == -1) = false := beq_eq_false_iff_ne.2 (by omega)
    rw [h0]
    simp
/-- The first place of a byte divides a text. -/
theorem cut_ways (c : UInt8) : ∀ l : List UInt8, c ∉ l ∨ ∃ A B, c ∉ A ∧ l = A ++ c :: B
  | [] => .inl (by simp)
  | b :: l => by
    by_cases hb : b = c
    · exact .inr ⟨[], l, by simp, by rw [hb]; rfl⟩
    · rcases cut_ways c l with h | ⟨A, B, h, rfl⟩
      · exact .inl (by rw [List.mem_cons, not_or]; exact ⟨Ne.symm hb, h⟩)
      · exact .inr ⟨b :: A, B, by rw [List.mem_cons, not_or]; exact ⟨Ne.symm hb, h⟩, rfl⟩
theorem index_any (l : List UInt8) (c : UInt8) (i : Int) (hi : Lib.indexByte l c = i) (w : World) : Calls Tryz.prog 109 #[strOf l, .string ⟨#[c]⟩] w fun e w' => e = .returned (.int .i64 i) ∧ w = w' := by
  refine (Tryz.stringslite_Index_one (bs l) c w).mono fun e w' ⟨h1, h2⟩ => ⟨?_, h2.symm⟩
  rw [h1, bs_list, hi]

set_option maxRecDepth 100000 in
set_option maxHeartbeats 1000000 in
theorem cut_no (l : List UInt8) (c : UInt8) (h : c ∉ l) (w : World) : Calls Tryz.prog 65 #[strOf l, .string ⟨#[c]⟩] w fun e w' => e = .returned (.tuple #[strOf l, .string ⟨#[]⟩, .bool false]) ∧ Below w.heap.size w w' := by
  have HI := Lib.hid (index_any l c (-1) (index_no c l h))
  unfold strOf at *
  generalize bs l = L at *
  clear h
  have HC : Hid (∀ w, Calls Tryz.prog 88 #[.string L, .string ⟨#[c]⟩] w fun e w' => e = .returned (.tuple #[.string L, .string ⟨#[]⟩, .bool false]) ∧ w = w') := Lib.hid (fun w => by
    go_enter Tryz.func88, Tryz.ntmps88
    go_wp2_with (go_at_call 109; (with_reducible refine Calls.mono (HI.out _) ?_); rintro e w1 ⟨rfl, rfl⟩)
    go_ret3
    exact ⟨rfl, rfl⟩)
  clear HI
  go_enter Tryz.func65, Tryz.ntmps65
  go_wp2_with (go_at_call 88; (with_reducible refine Calls.mono (HC.out _) ?_); rintro e w1 ⟨rfl, rfl⟩)
  go_ret3
  exact ⟨rfl, Below.refl _ _⟩
set_option maxRecDepth 100000 in
set_option maxHeartbeats 1000000 in
theorem cut_yes (A B : List UInt8) (c : UInt8) (h : c ∉ A) (hl : A.length + B.length ≤ 1000000) (w : World) : Calls Tryz.prog 65 #[strOf (A ++ c :: B), .string ⟨#[c]⟩] w fun e w' => e = .returned (.tuple #[strOf A, strOf B, .bool true]) ∧ Below w.heap.size w w' := by
  obtain ⟨k, hk⟩ : ∃ k, A.length = k := ⟨_, rfl⟩
  have HI := Lib.hid (index_any (A ++ c :: B) c (k : Int) (by rw [index_yes c B A h, hk]))
  have hsz : (bs (A ++ c :: B)).size = k + 1 + B.length := by rw [bs_size, List.length_append, List.length_cons]; omega
  have hp : (bs (A ++ c :: B)).extract 0 k = bs A := by
    rw [ByteArray.ext_iff, ByteArray.data_extract]
    unfold bs
    rw [List.extract_toArray, ← hk]; simp
  have hq : (bs (A ++ c :: B)).extract (k + 1) (k + 1 + B.length) = bs B := by
    rw [ByteArray.ext_iff, ByteArray.data_extract]
    unfold bs
    rw [List.extract_toArray, ← hk]
    have e : A ++ c :: B = (A ++ [c]) ++ B := by simp
    rw [e]
    simp [List.drop_append, List.drop_eq_nil_of_le]
  unfold strOf at *
  generalize bs (A ++ c :: B) = L at *
  have hsl : ∀ w, (Instr.slice 9 (.string L) none (some (.int .i64 (k : Int))) none).run Tryz.prog w = .ok (.string (bs A)) w := fun w => by
    rw [run_slice_string_h (P := Tryz.prog) w 9 L Tryz.underlying9 .i64 (k : Int) (by omega) (by omega), Int.toNat_natCast, hp]
  have hsr : ∀ w, (Instr.slice 9 (.string L) (some (.int .i64 ((k : Int) + 1))) none none).run Tryz.prog w = .ok (.string (bs B)) w := fun w => by
    rw [run_slice_string_l (P := Tryz.prog) w 9 L Tryz.underlying9 .i64 ((k : Int) + 1) (by omega) (by omega), hsz, show ((k : Int) + 1).toNat = k + 1 from by omega, hq]
  have i0 : (0 : Int) ≤ (k : Int) := by omega
  have s1 : IntKind.i64.wrap ((k : Int) + 1) = (k : Int) + 1 := IntWalk.i64_in _ (by omega)
  generalize bs A = P at *
  generalize bs B = Q at *
  clear h hk hl hsz hp hq
  have HC : Hid (∀ w, Calls Tryz.prog 88 #[.string L, .string ⟨#[c]⟩] w fun e w' => e = .returned (.tuple #[.string P, .string Q, .bool true]) ∧ Below w.heap.size w w') := Lib.hid (fun w => by
    go_enter Tryz.func88, Tryz.ntmps88
    go_wp2_with (go_at_call 109; (with_reducible refine Calls.mono (HI.out _) ?_); rintro e w1 ⟨rfl, rfl⟩)
    go_quiet (fail)
    go_wp2
    go_ret3
    exact ⟨rfl, belowN (Below.refl _ _) _⟩)
  clear HI hsl hsr i0 s1
  go_enter Tryz.func65, Tryz.ntmps65
  go_wp2_with (go_at_call 88; (with_reducible refine Calls.mono (HC.out _) ?_); rintro e w1 ⟨rfl, hb⟩)
  go_ret3
  exact ⟨rfl, hb⟩
end Go.Proofs.YtabkodpjhpjgnaaGreatDoor
