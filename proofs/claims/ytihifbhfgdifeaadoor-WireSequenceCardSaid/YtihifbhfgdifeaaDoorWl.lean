/- Contract of the statements' fixed examples (sane): where the table reads as laid, they are all as the document says. -/
import Derived.Test.YtihifbhfgdifeaaDoorWk
namespace Go.Proofs.YtihifbhfgdifeaaDoor
open Go.RowKit

set_option maxRecDepth 100000 in
set_option maxHeartbeats 1000000 in
theorem sane_any (w : World) (ht : TabOk w) :
    Calls Tryd.prog 10 #[] w fun e w' => e = .returned (.bool true) ∧ Below w.heap.size w w' := by
  have c1 : ∀ w, Calls Tryd.prog 12 #[.int .i64 (-64)] w fun e w' => e = .returned (.tuple #[.string ⟨#[127]⟩, .int .i64 0]) ∧ Below w.heap.size w w' := fun w => put_any (-64) w (by decide) (by decide)
  have c2 : ∀ w, Calls Tryd.prog 12 #[.int .i64 64] w fun e w' => e = .returned (.tuple #[.string ⟨#[128, 1]⟩, .int .i64 0]) ∧ Below w.heap.size w w' := fun w => put_any 64 w (by decide) (by decide)
  have c3 : ∀ w, Calls Tryd.prog 15 #[.string ⟨#[97, 172, 2, 98]⟩, .int .i64 1] w fun e w' => e = .returned (.tuple #[.int .i64 150, .int .i64 3, .int .i64 0]) ∧ w = w' := fun w => int_any ⟨#[97, 172, 2, 98]⟩ 1 w (by decide) (by decide) (by decide)
  have c4 : ∀ w, Calls Tryd.prog 15 #[.string ⟨#[128, 0]⟩, .int .i64 0] w fun e w' => e = .returned (.tuple #[.int .i64 0, .int .i64 0, .int .i64 10]) ∧ w = w' := fun w => int_any ⟨#[128, 0]⟩ 0 w (by decide) (by decide) (by decide)
  have c5 : ∀ w, Calls Tryd.prog 19 #[.string ⟨#[97, 98]⟩] w fun e w' => e = .returned (.tuple #[.string ⟨#[4, 97, 98]⟩, .int .i64 0]) ∧ Below w.heap.size w w' := fun w => putS_any ⟨#[97, 98]⟩ w (by decide)
  have c6 : ∀ w, Calls Tryd.prog 17 #[.string ⟨#[4, 97, 98, 99]⟩, .int .i64 0] w fun e w' => e = .returned (.tuple #[.string ⟨#[97, 98]⟩, .int .i64 3, .int .i64 0]) ∧ Below w.heap.size w w' := fun w => string_any ⟨#[4, 97, 98, 99]⟩ 0 w (by decide) (by decide) (by decide)
  have c7 : ∀ w, Calls Tryd.prog 17 #[.string ⟨#[4, 97]⟩, .int .i64 0] w fun e w' => e = .returned (.tuple #[.string ⟨#[]⟩, .int .i64 0, .int .i64 10]) ∧ Below w.heap.size w w' := fun w => string_any ⟨#[4, 97]⟩ 0 w (by decide) (by decide) (by decide)
  have c8 : ∀ w, Calls Tryd.prog 12 #[.int .i64 4611686018427387904] w fun e w' => e = .returned (.tuple #[.string ⟨#[]⟩, .int .i64 10]) ∧ Below w.heap.size w w' := fun w => put_any 4611686018427387904 w (by decide) (by decide)
  have c9 : ∀ w, Calls Tryd.prog 15 #[.string ⟨#[]⟩, .int .i64 1] w fun e w' => e = .returned (.tuple #[.int .i64 0, .int .i64 0, .int .i64 2]) ∧ w = w' := fun w => int_any ⟨#[]⟩ 1 w (by decide) (by decide) (by decide)
  have hcrc : Wm.crc [49, 50, 51, 52, 53, 54, 55, 56, 57] = 3808858755 := by decide +kernel
  have c10 : ∀ w, TabOk w → Calls Tryd.prog 21 #[.string ⟨#[49, 50, 51, 52, 53, 54, 55, 56, 57]⟩] w fun e w' => e = .returned (.int .i64 3808858755) ∧ w = w' := fun w h => by
    have := sum_any ⟨#[49, 50, 51, 52, 53, 54, 55, 56, 57]⟩ w (by decide) h
    rw [show (⟨#[49, 50, 51, 52, 53, 54, 55, 56, 57]⟩ : ByteArray).data.toList = [49, 50, 51, 52, 53, 54, 55, 56, 57] from rfl, hcrc] at this
    exact this
  have H1 := Lib.hid c1; have H2 := Lib.hid c2; have H3 := Lib.hid c3; have H4 := Lib.hid c4; have H5 := Lib.hid c5
  have H6 := Lib.hid c6; have H7 := Lib.hid c7; have H8 := Lib.hid c8; have H9 := Lib.hid c9; have H10 := Lib.hid c10
  have HT := Lib.hid ht
  clear c1 c2 c3 c4 c5 c6 c7 c8 c9 c10 hcrc ht
  go_enter Tryd.func10, Tryd.ntmps10
  go_wp2_with fail
  refine (H1.out _).mono ?_
  rintro e w1 ⟨rfl, b1⟩
  go_wp2_with fail
  refine (H2.out _).mono ?_
  rintro e w2 ⟨rfl, b2⟩
  go_wp2_with fail
  refine (H3.out _).mono ?_
  rintro e w' ⟨rfl, rfl⟩
  go_wp2_with fail
  refine (H4.out _).mono ?_
  rintro e w' ⟨rfl, rfl⟩
  go_wp2_with fail
  refine (H5.out _).mono ?_
  rintro e w3 ⟨rfl, b3⟩
  go_wp2_with fail
  refine (H6.out _).mono ?_
  rintro e w4 ⟨rfl, b4⟩
  go_wp2_with fail
  refine (H7.out _).mono ?_
  rintro e w5 ⟨rfl, b5⟩
  go_wp2_with fail
  refine (H8.out _).mono ?_
  rintro e w6 ⟨rfl, b6⟩
  go_wp2_with fail
  refine (H9.out _).mono ?_
  rintro e w' ⟨rfl, rfl⟩
  have t1 := HT.out.next b1
  have t2 := t1.next b2
  have t3 := t2.next b3
  have t4 := t3.next b4
  have t5 := t4.next b5
  have t6 := Lib.hid (t5.next b6)
  clear t1 t2 t3 t4 t5
  go_wp2_with fail
  refine (H10.out _ t6.out).mono ?_
  rintro e w' ⟨rfl, rfl⟩
  go_wp2
  go_ret
  have s1 := b1.size; have s2 := b2.size; have s3 := b3.size; have s4 := b4.size; have s5 := b5.size
  have d2 := below_chain b1 s1 b2
  have d3 := below_chain d2 (by omega) b3
  have d4 := below_chain d3 (by omega) b4
  have d5 := below_chain d4 (by omega) b5
  exact ⟨rfl, below_chain d5 (by omega) b6⟩
end Go.Proofs.YtihifbhfgdifeaaDoor
