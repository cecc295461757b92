/- The walk of WireMatchesReference: where the table reads as laid, it returns true for every input. -/
import Derived.Test.YtihifbhfgdifeaaDoorWe1
namespace Go.Proofs.YtihifbhfgdifeaaDoor
open Go.RowKit

set_option maxRecDepth 100000 in
set_option maxHeartbeats 2000000 in
theorem matches_walk (n : Int) (s : ByteArray) (at_ : Int) (w : World) (ht : TabOk w) (hn1 : -9223372036854775808 ≤ n) (hn2 : n ≤ 9223372036854775807) (hs : s.size ≤ maxLen) (ha1 : -9223372036854775808 ≤ at_) (ha2 : at_ ≤ 9223372036854775807) :
    Calls Tryd.prog 3 #[.int .i64 n, .string s, .int .i64 at_] w fun e w' => e = .returned (.bool true) ∧ Below w.heap.size w w' := by
  obtain ⟨u, hu⟩ : ∃ u, s.extract 0 (min (s.size : Int) 300).toNat = u := ⟨_, rfl⟩
  have hus := cut_size hu
  have hul : u.size ≤ maxLen := by unfold maxLen; omega
  have hsn := fun w h => sane_any w h
  have hnm := fun w => num_any n w hn1 hn2
  have hnb := numZ_bd n
  obtain ⟨m, hm⟩ : ∃ m, numZ n = m := ⟨_, rfl⟩
  rw [hm] at hnm hnb
  clear hm
  have hpk := fun w => pick_any at_ (u.size + 2) w ha1 ha2 (by omega) (by omega)
  have hpb := pickZ_bd at_ (u.size + 2) (by omega)
  obtain ⟨q, hq⟩ : ∃ q, pickZ at_ (u.size + 2) = q := ⟨_, rfl⟩
  rw [hq] at hpk hpb
  clear hq
  have hS1 := fun (w : World) (h : TabOk w) => sum_any u w hul h
  have hS2 := fun (w : World) => refSum_any u w hul
  obtain ⟨cr, hcr⟩ : ∃ cr, Wm.crc u.data.toList = cr := ⟨_, rfl⟩
  rw [hcr] at hS1 hS2
  have hP1 := fun (w : World) => putS_any u w hul
  have hP2 := fun (w : World) => refPutS_any u w hul
  obtain ⟨X, ex, hX⟩ : ∃ (X : ByteArray) (ex : Int), tupS (putS u.data.toList) = .tuple #[.string X, .int .i64 ex] := ⟨_, _, rfl⟩
  rw [hX] at hP1 hP2
  clear hX hcr
  unfold maxLen at hs
  have H0 := Lib.hid hsn; have H1 := Lib.hid hnm; have H2 := Lib.hid hpk; have H3 := Lib.hid hS1; have H4 := Lib.hid hS2; have H5 := Lib.hid hP1; have H6 := Lib.hid hP2
  have HT := Lib.hid ht
  clear hsn hnm hpk hS1 hS2 hP1 hP2 ht
  go_enter Tryd.func3, Tryd.ntmps3
  go_wp2_with fail
  refine (H0.out _ HT.out).mono ?_
  rintro e w1 ⟨rfl, b1⟩
  go_wp2_with fail
  refine (H1.out _).mono ?_
  rintro e w2 ⟨rfl, b2⟩
  go_wp2_with fail
  go_loopw [10, 11, 12, 13, 14, 44] (fun _ _ _ _ _ i wr => ∃ k : Nat, k ≤ 2 ∧ i = .int .i64 k ∧ Below (w2.heap.size + 1) (w2.alloc (.cells #[.int .i64 n, .int .i64 m] 3)) wr) (fun _ _ _ _ _ i _ => 2 - (intOf i).toNat)
  case atStart => exact ⟨0, by omega, rfl, Below.refl _ _⟩
  case round =>
    obtain ⟨k, hk, rfl, hB⟩ := hrel
    by_cases hlt : k < 2
    · obtain ⟨v, hv, hv1, hv2⟩ : ∃ v : Int, wr.cell? ⟨w2.heap.size, k, none⟩ = some (.int .i64 v) ∧ -9223372036854775808 ≤ v ∧ v ≤ 9223372036854775807 := by
        rcases (by omega : k = 0 ∨ k = 1) with rfl | rfl
        · exact ⟨n, (hB.cell (p := ⟨w2.heap.size, 0, none⟩) (by simp)).trans (by simp), hn1, hn2⟩
        · exact ⟨m, (hB.cell (p := ⟨w2.heap.size, 1, none⟩) (by simp)).trans (by simp), by omega, by omega⟩
      have k1 := fun (w : World) => put_any v w hv1 hv2
      have k2 := fun (w : World) => refPut_any v w hv1 hv2
      obtain ⟨Y, ey, hY⟩ : ∃ (Y : ByteArray) (ey : Int), tupS (putR v) = .tuple #[.string Y, .int .i64 ey] := ⟨_, _, rfl⟩
      rw [hY] at k1 k2
      clear hY
      have K1 := Lib.hid k1; have K2 := Lib.hid k2; clear k1 k2
      go_wp2_with fail
      refine (K1.out _).mono ?_
      rintro e w3 ⟨rfl, b3⟩
      go_wp2_with fail
      refine (K2.out _).mono ?_
      rintro e w4 ⟨rfl, b4⟩
      go_wp2_with fail
      go_roundw
      case rel => exact ⟨k + 1, by omega, by go_num, (hB.trans (b3.mono (by have := hB.size; simpa using this))).trans (b4.mono (by have := hB.size; have := b3.size; simp at *; omega))⟩
      case measure => simp [intOf]; omega
    · obtain rfl : k = 2 := by omega
      obtain ⟨w5, rfl⟩ : ∃ w5 : World, w5 = wr := ⟨_, rfl⟩
      go_wp2_with fail
      refine (H2.out _).mono ?_
      rintro e w' ⟨rfl, rfl⟩
      go_wp2_with fail
      go_loopw [16, 17, 18, 19, 20, 21, 22, 23, 24, 25, 26, 27, 28, 75] (fun _ _ _ _ _ _ _ _ _ _ _ _ _ i wr => ∃ k : Nat, k ≤ 2 ∧ i = .int .i64 k ∧ Below (w5.heap.size + 1) (w5.alloc (.cells #[.int .i64 at_, .int .i64 q] 3)) wr) (fun _ _ _ _ _ _ _ _ _ _ _ _ _ i _ => 2 - (intOf i).toNat)
      case atStart => exact ⟨0, by omega, rfl, Below.refl _ _⟩
      case round =>
        obtain ⟨k, hk, rfl, hC⟩ := hrel
        by_cases hlt : k < 2
        · obtain ⟨v, hv, hv1, hv2⟩ : ∃ v : Int, wr.cell? ⟨w5.heap.size, k, none⟩ = some (.int .i64 v) ∧ -9223372036854775808 ≤ v ∧ v ≤ 9223372036854775807 := by
            rcases (by omega : k = 0 ∨ k = 1) with rfl | rfl
            · exact ⟨at_, (hC.cell (p := ⟨w5.heap.size, 0, none⟩) (by simp)).trans (by simp), ha1, ha2⟩
            · exact ⟨q, (hC.cell (p := ⟨w5.heap.size, 1, none⟩) (by simp)).trans (by simp), by omega, by omega⟩
          have k1 := fun (w : World) => int_any u v w hul hv1 hv2
          have k2 := fun (w : World) => refInt_any u v w hul hv1 hv2
          have k3 := fun (w : World) => string_any u v w hul hv1 hv2
          have k4 := fun (w : World) => refString_any u v w hul hv1 hv2
          obtain ⟨y1, y2, y3, hY⟩ : ∃ y1 y2 y3 : Int, tup3 (intR u.data.toList v) = .tuple #[.int .i64 y1, .int .i64 y2, .int .i64 y3] := ⟨_, _, _, rfl⟩
          obtain ⟨z1, z2, z3, hZ⟩ : ∃ (z1 : ByteArray) (z2 z3 : Int), tupT (strR u.data.toList v) = .tuple #[.string z1, .int .i64 z2, .int .i64 z3] := ⟨_, _, _, rfl⟩
          rw [hY] at k1 k2
          rw [hZ] at k3 k4
          clear hY hZ
          have K1 := Lib.hid k1; have K2 := Lib.hid k2; have K3 := Lib.hid k3; have K4 := Lib.hid k4; clear k1 k2 k3 k4
          go_wp2_with fail
          refine (K1.out _).mono ?_
          rintro e w' ⟨rfl, rfl⟩
          go_wp2_with fail
          refine (K2.out _).mono ?_
          rintro e w6 ⟨rfl, b6⟩
          go_wp2_with fail
          refine (K3.out _).mono ?_
          rintro e w7 ⟨rfl, b7⟩
          go_wp2_with fail
          refine (K4.out _).mono ?_
          rintro e w8 ⟨rfl, b8⟩
          go_wp2_with fail
          go_roundw
          case rel =>
            have s5 : w5.heap.size + 1 ≤ wr.heap.size := by have := hC.size; simpa using this
            have s6 := b6.size; have s7 := b7.size
            exact ⟨k + 1, by omega, by go_num, below_chain (below_chain (below_chain hC s5 b6) (by omega) b7) (by omega) b8⟩
          case measure => simp [intOf]; omega
        · obtain rfl : k = 2 := by omega
          have s2 := b1.size; have s3 := b2.size
          have d2 := below_chain b1 s2 b2
          have d3 : Below w.heap.size w (w2.alloc (.cells #[.int .i64 n, .int .i64 m] 3)) := d2.alloc (by omega) _
          have d4 : Below w.heap.size w w5 := d3.trans (hB.mono (by omega))
          have s5 : w2.heap.size + 1 ≤ w5.heap.size := by have := hB.size; simpa using this
          have d5 : Below w.heap.size w (w5.alloc (.cells #[.int .i64 at_, .int .i64 q] 3)) := d4.alloc (by omega) _
          have d6 : Below w.heap.size w wr := d5.trans (hC.mono (by omega))
          have s6 : w5.heap.size + 1 ≤ wr.heap.size := by have := hC.size; simpa using this
          clear d2 d3 d4 d5
          go_wp2_with fail
          refine (H5.out _).mono ?_
          rintro e w9 ⟨rfl, b9⟩
          go_wp2_with fail
          refine (H6.out _).mono ?_
          rintro e w10 ⟨rfl, b10⟩
          have s9 := b9.size
          have d7 := below_chain d6 (by omega) b9
          have d8 := below_chain d7 (by omega) b10
          have t8 := Lib.hid (HT.out.next d8)
          go_wp2_with fail
          refine (H3.out _ t8.out).mono ?_
          rintro e w' ⟨rfl, rfl⟩
          go_wp2_with fail
          refine (H4.out _).mono ?_
          rintro e w' ⟨rfl, rfl⟩
          go_wp2
          go_ret
          exact ⟨rfl, d8⟩
end Go.Proofs.YtihifbhfgdifeaaDoor
