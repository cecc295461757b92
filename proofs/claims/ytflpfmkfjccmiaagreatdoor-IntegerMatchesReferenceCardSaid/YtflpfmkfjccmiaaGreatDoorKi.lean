/- Contract of ToInt. -/
import Derived.Test.YtflpfmkfjccmiaaGreatDoorKh
namespace Go.Proofs.YtflpfmkfjccmiaaGreatDoor
open Go.RowKit

set_option maxRecDepth 100000 in
set_option maxHeartbeats 1000000 in
theorem toInt_ok (z : Int) (w : World) (hz : okz z = true) (h0 : -9223372036854775808 ≤ z) (h1 : z ≤ 9223372036854775807) :
    Calls Tryz.prog 19 #[strOf (Lib.itoa z)] w fun e w' => e = .returned (.tuple #[.int .i64 z, .int .i64 0]) ∧ Below w.heap.size w w' := by
  have hv := valid_itoa z w
  rw [hz] at hv
  have HV := Lib.hid hv; have HA := Lib.hid (fun u => atoi_ok z u hz h0 h1)
  unfold strOf at *
  generalize bs (Lib.itoa z) = S at *
  clear hv hz h0 h1
  go_enter Tryz.func19, Tryz.ntmps19
  go_wp2_with (first | (go_at_call 21; refine HV.out.mono ?_; rintro e w1 ⟨rfl, hb1⟩) | (go_at_call 49; refine (HA.out _).mono ?_; rintro e w2 ⟨rfl, hb2⟩))
  go_ret2
  exact ⟨rfl, below_to hb1 hb2⟩
set_option maxRecDepth 100000 in
set_option maxHeartbeats 1000000 in
theorem toInt_out (z : Int) (w : World) (hz : okz z = true) (he : ErrP w) (h : ¬ (-9223372036854775808 ≤ z ∧ z ≤ 9223372036854775807)) :
    Calls Tryz.prog 19 #[strOf (Lib.itoa z)] w fun e w' => e = .returned (.tuple #[.int .i64 0, .int .i64 30]) ∧ Below w.heap.size w w' := by
  have hv := valid_itoa z w
  rw [hz] at hv
  have HV := Lib.hid hv; have HA := Lib.hid (fun u hu => atoi_out z u hz hu h); have HE := Lib.hid he
  unfold strOf at *
  generalize bs (Lib.itoa z) = S at *
  clear hv hz h he
  go_enter Tryz.func19, Tryz.ntmps19
  go_wp2_with (first | (go_at_call 21; refine HV.out.mono ?_; rintro e w1 ⟨rfl, hb1⟩) | (go_at_call 49; refine (HA.out _ (HE.out.next hb1)).mono ?_; rintro e w2 ⟨⟨v, t, p, rfl⟩, hb2⟩))
  go_ret2
  exact ⟨rfl, below_to hb1 hb2⟩
set_option maxRecDepth 100000 in
set_option maxHeartbeats 1000000 in
theorem toInt_bad (l : List UInt8) (w : World) (h : Im.vld l = false) :
    Calls Tryz.prog 19 #[strOf l] w fun e w' => e = .returned (.tuple #[.int .i64 0, .int .i64 30]) ∧ Below w.heap.size w w' := by
  have hv := valid_any l w
  rw [h] at hv
  have HV := Lib.hid hv
  unfold strOf at *
  generalize bs l = S at *
  clear hv h
  go_enter Tryz.func19, Tryz.ntmps19
  go_wp2_with (go_at_call 21; refine HV.out.mono ?_; rintro e w1 ⟨rfl, hb1⟩)
  go_ret2
  exact ⟨rfl, hb1⟩
theorem toInt_c (z : Int) (hz : okz z = true) (h0 : -9223372036854775808 ≤ z) (h1 : z ≤ 9223372036854775807) : CallT 19 #[strOf (Lib.itoa z)] (.tuple #[.int .i64 z, .int .i64 0]) := fun u _ => toInt_ok z u hz h0 h1
theorem toIntb_c (l : List UInt8) (h : Im.vld l = false) : CallT 19 #[strOf l] (.tuple #[.int .i64 0, .int .i64 30]) := fun u _ => toInt_bad l u h
theorem from_c (z : Int) (h0 : -9223372036854775808 ≤ z) (h1 : z ≤ 9223372036854775807) : CallT 25 #[.int .i64 z] (strOf (Lib.itoa z)) := fun u hu => fromInt_ok z u hu h0 h1
theorem ok_int (z : Int) (h0 : -9223372036854775808 ≤ z) (h1 : z ≤ 9223372036854775807) : okz z = true := by
  have h : B 19 z := by
    unfold B
    have e : (10 : Nat) ^ 19 = 10000000000000000000 := by decide
    rw [e]; omega
  exact h.ok (by decide)
end Go.Proofs.YtflpfmkfjccmiaaGreatDoor
