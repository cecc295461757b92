/- The walk of WireTruncated: where the table reads as laid, it returns true for every input. -/
import Derived.Test.YtihifbhfgdifeaaDoorWe1
namespace Go.Proofs.YtihifbhfgdifeaaDoor
open Go.RowKit

set_option maxRecDepth 100000 in
set_option maxHeartbeats 1000000 in
theorem truncated_walk (c d : Int) (tx : ByteArray) (at_ : Int) (w : World) (ht : TabOk w) (hc1 : -9223372036854775808 ≤ c) (hc2 : c ≤ 9223372036854775807) (hd1 : -9223372036854775808 ≤ d) (hd2 : d ≤ 9223372036854775807)
    (htx : tx.size ≤ maxLen) (ha1 : -9223372036854775808 ≤ at_) (ha2 : at_ ≤ 9223372036854775807) :
    Calls Tryd.prog 7 #[.int .i64 c, .int .i64 d, .string tx, .int .i64 at_] w fun e w' => e = .returned (.bool true) ∧ Below w.heap.size w w' := by
  obtain ⟨u, hu⟩ : ∃ u, tx.extract 0 (min (tx.size : Int) 200).toNat = u := ⟨_, rfl⟩
  have hus := cut_size hu
  have hsn := fun w h => sane_any w h
  have hn1 := fun w => num_any c w hc1 hc2
  have hn2 := fun w => num_any d w hd1 hd2
  have hb1 := numZ_bd c
  have hb2 := numZ_bd d
  obtain ⟨n, hn⟩ : ∃ n, numZ c = n := ⟨_, rfl⟩
  obtain ⟨m, hm⟩ : ∃ m, numZ d = m := ⟨_, rfl⟩
  rw [hn] at hn1 hb1
  rw [hm] at hn2 hb2
  clear hn hm
  have hp1 := fun w => put_in n w (by omega) (by omega)
  have hp2 := fun w => put_in m w (by omega) (by omega)
  obtain ⟨A, hA⟩ : ∃ A, A = bs (Wm.enc (Wm.foldZ n)) := ⟨_, rfl⟩
  obtain ⟨B, hB⟩ : ∃ B, B = bs (Wm.enc (Wm.foldZ m)) := ⟨_, rfl⟩
  rw [show strOf (Wm.enc (Wm.foldZ n)) = .string A from by rw [hA]] at hp1
  rw [show strOf (Wm.enc (Wm.foldZ m)) = .string B from by rw [hB]] at hp2
  have hAs : 1 ≤ A.size ∧ A.size ≤ 9 := by rw [hA, bs_size]; exact ⟨Wm.enc_pos _, Wm.enc_le _⟩
  have hBs : B.size ≤ 9 := by rw [hB, bs_size]; exact Wm.enc_le _
  have hps2 : ∀ w, Calls Tryd.prog 19 #[.string u] w fun e w' => e = .returned (tupS (putS u.data.toList)) ∧ Below w.heap.size w w' := fun w => putS_any u w (by unfold maxLen; omega)
  rw [putS_small u (by omega)] at hps2
  obtain ⟨T, hT⟩ : ∃ T, T = bs (Wm.enc (Wm.foldZ u.size) ++ u.data.toList) := ⟨_, rfl⟩
  rw [show tupS (Wm.enc (Wm.foldZ u.size) ++ u.data.toList, 0) = .tuple #[.string T, .int .i64 0] from by rw [hT]; rfl] at hps2
  have hTs : 1 ≤ T.size ∧ T.size ≤ 209 := by rw [hT, bs_size]; have := Wm.enc_le (Wm.foldZ u.size); have := Wm.enc_pos (Wm.foldZ u.size); simp; omega
  have hk1 := fun w => pick_any at_ A.size w ha1 ha2 (by omega) (by omega)
  have hk2 := fun w => pick_any at_ T.size w ha1 ha2 (by omega) (by omega)
  obtain ⟨k1, e1, l1⟩ : ∃ k : Nat, pickZ at_ A.size = k ∧ k < A.size := by
    have := pickZ_bd at_ A.size (by omega)
    exact ⟨(pickZ at_ A.size).toNat, by omega, by omega⟩
  obtain ⟨k2, e2, l2⟩ : ∃ k : Nat, pickZ at_ T.size = k ∧ k < T.size := by
    have := pickZ_bd at_ T.size (by omega)
    exact ⟨(pickZ at_ T.size).toNat, by omega, by omega⟩
  rw [e1] at hk1
  rw [e2] at hk2
  clear e1 e2
  have hI : ∀ w, Calls Tryd.prog 15 #[.string (A.extract 0 k1), .int .i64 0] w fun e w' => e = .returned (.tuple #[.int .i64 0, .int .i64 0, .int .i64 10]) ∧ w = w' := fun w => by
    have h := int_any (A.extract 0 k1) 0 w (by rw [ByteArray.size_extract]; unfold maxLen; omega) (by omega) (by omega)
    rw [Lib.extract_data, List.drop_zero, Nat.sub_zero, hA, bs_list, intR_cut _ _ (by have := Wm.fold_lt n (by omega) (by omega); omega) (by rw [hA, bs_size] at l1; exact l1)] at h
    rw [hA]; exact h
  have hSt : ∀ w, Calls Tryd.prog 17 #[.string (T.extract 0 k2), .int .i64 0] w fun e w' => e = .returned (.tuple #[.string ⟨#[]⟩, .int .i64 0, .int .i64 10]) ∧ Below w.heap.size w w' := fun w => by
    have h := string_any (T.extract 0 k2) 0 w (by rw [ByteArray.size_extract]; unfold maxLen; omega) (by omega) (by omega)
    have hul : u.data.toList.length = u.size := by simp
    rw [Lib.extract_data, List.drop_zero, Nat.sub_zero, hT, bs_list, ← hul, strR_cut _ _ (by rw [hul]; omega) (by rw [hT, bs_size] at l2; rw [hul]; exact l2)] at h
    rw [hT]; exact h
  unfold maxLen at htx
  have hA0 : ((A.size : Int) == 0) = false := by rw [beq_eq_false_iff_ne]; omega
  have hT0 : ((T.size : Int) == 0) = false := by rw [beq_eq_false_iff_ne]; omega
  have H1 := Lib.hid hn1; have H2 := Lib.hid hn2; have H3 := Lib.hid hp1; have H4 := Lib.hid hp2; have H5 := Lib.hid hps2
  have H6 := Lib.hid hk1; have H7 := Lib.hid hk2; have H8 := Lib.hid hI; have H9 := Lib.hid hSt; have H0 := Lib.hid hsn
  have HT := Lib.hid ht
  have hq : n = m → A = B := fun h => by rw [hA, hB, h]
  have hr : n ≠ m → (B.extract 0 A.size).toList ≠ A.toList := fun h e => by
    rw [Lib.toList_data, Lib.toList_data, Lib.extract_data, List.drop_zero, Nat.sub_zero, hA, hB, bs_list, bs_list, bs_size] at e
    exact enc_apart n m (by omega) (by omega) h e
  clear hn1 hn2 hp1 hp2 hps2 hk1 hk2 hI hSt hsn ht hA hB hT
  by_cases hnm : n = m
  · obtain rfl := hq hnm
    subst hnm
    have hx : A.extract 0 A.size = A := by
      apply ByteArray.ext; apply Array.toList_inj.1
      rw [Lib.extract_data, List.drop_zero, Nat.sub_zero, List.take_of_length_le (by simp)]
    clear hq hr
    go_enter Tryd.func7, Tryd.ntmps7
    go_wp2_with fail
    refine (H0.out _ HT.out).mono ?_
    rintro e w1 ⟨rfl, b1⟩
    go_wp2_with fail
    refine (H1.out _).mono ?_
    rintro e w2 ⟨rfl, b2⟩
    go_wp2_with fail
    refine (H3.out _).mono ?_
    rintro e w3 ⟨rfl, b3⟩
    go_wp2_with fail
    refine (H2.out _).mono ?_
    rintro e w4 ⟨rfl, b4⟩
    go_wp2_with fail
    refine (H4.out _).mono ?_
    rintro e w5 ⟨rfl, b5⟩
    go_wp2_with fail
    refine (H5.out _).mono ?_
    rintro e w6 ⟨rfl, b6⟩
    go_wp2_with fail
    refine (H6.out _).mono ?_
    rintro e w' ⟨rfl, rfl⟩
    go_wp2_with fail
    refine (H8.out _).mono ?_
    rintro e w' ⟨rfl, rfl⟩
    go_wp2_with fail
    refine (H7.out _).mono ?_
    rintro e w' ⟨rfl, rfl⟩
    go_wp2_with fail
    refine (H9.out _).mono ?_
    rintro e w7 ⟨rfl, b7⟩
    go_wp2_with fail
    refine (H1.out _).mono ?_
    rintro e w8 ⟨rfl, b8⟩
    go_wp2_with fail
    refine (H2.out _).mono ?_
    rintro e w9 ⟨rfl, b9⟩
    go_wp2
    go_ret
    have s1 := b1.size; have s2 := b2.size; have s3 := b3.size; have s4 := b4.size; have s5 := b5.size; have s6 := b6.size; have s7 := b7.size; have s8 := b8.size
    have d2 := below_chain b1 s1 b2
    have d3 := below_chain d2 (by omega) b3
    have d4 := below_chain d3 (by omega) b4
    have d5 := below_chain d4 (by omega) b5
    have d6 := below_chain d5 (by omega) b6
    have d7 := below_chain d6 (by omega) b7
    have d8 := below_chain d7 (by omega) b8
    exact ⟨rfl, below_chain d8 (by omega) b9⟩
  · have hne : (n == m) = false := by simp [hnm]
    have hxt : ((B.extract 0 A.size).toList == A.toList) = false := by simp [hr hnm]
    clear hq hr hnm
    by_cases hle : A.size ≤ B.size
    all_goals
      go_enter Tryd.func7, Tryd.ntmps7
      go_wp2_with fail
      refine (H0.out _ HT.out).mono ?_
      rintro e w1 ⟨rfl, b1⟩
      go_wp2_with fail
      refine (H1.out _).mono ?_
      rintro e w2 ⟨rfl, b2⟩
      go_wp2_with fail
      refine (H3.out _).mono ?_
      rintro e w3 ⟨rfl, b3⟩
      go_wp2_with fail
      refine (H2.out _).mono ?_
      rintro e w4 ⟨rfl, b4⟩
      go_wp2_with fail
      refine (H4.out _).mono ?_
      rintro e w5 ⟨rfl, b5⟩
      go_wp2_with fail
      refine (H5.out _).mono ?_
      rintro e w6 ⟨rfl, b6⟩
      go_wp2_with fail
      refine (H6.out _).mono ?_
      rintro e w' ⟨rfl, rfl⟩
      go_wp2_with fail
      refine (H8.out _).mono ?_
      rintro e w' ⟨rfl, rfl⟩
      go_wp2_with fail
      refine (H7.out _).mono ?_
      rintro e w' ⟨rfl, rfl⟩
      go_wp2_with fail
      refine (H9.out _).mono ?_
      rintro e w7 ⟨rfl, b7⟩
      go_wp2_with fail
      refine (H1.out _).mono ?_
      rintro e w8 ⟨rfl, b8⟩
      go_wp2_with fail
      refine (H2.out _).mono ?_
      rintro e w9 ⟨rfl, b9⟩
      go_wp2
      go_ret
      have s1 := b1.size; have s2 := b2.size; have s3 := b3.size; have s4 := b4.size; have s5 := b5.size; have s6 := b6.size; have s7 := b7.size; have s8 := b8.size
      have d2 := below_chain b1 s1 b2
      have d3 := below_chain d2 (by omega) b3
      have d4 := below_chain d3 (by omega) b4
      have d5 := below_chain d4 (by omega) b5
      have d6 := below_chain d5 (by omega) b6
      have d7 := below_chain d6 (by omega) b7
      have d8 := below_chain d7 (by omega) b8
      exact ⟨rfl, below_chain d8 (by omega) b9⟩
end Go.Proofs.YtihifbhfgdifeaaDoor
