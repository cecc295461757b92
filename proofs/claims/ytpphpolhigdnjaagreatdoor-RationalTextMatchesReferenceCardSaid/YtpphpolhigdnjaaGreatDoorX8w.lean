/- The walk of RationalTextMatchesReference: what both sides say of every text. -/
import Derived.Test.YtpphpolhigdnjaaGreatDoorX8
import Derived.Test.YtpphpolhigdnjaaGreatDoorX1
namespace Go.Proofs.YtpphpolhigdnjaaGreatDoor
open Go.RowKit Go.Shelf

theorem itoa_ne (z : Int) : Lib.itoa z ≠ [] := by
  unfold Lib.itoa
  split
  · simp
  · exact Im.dd_ne _
theorem qtxt_ne (q : Rat) : qtxt q ≠ [] := by
  unfold qtxt
  split
  · exact itoa_ne _
  · simp
theorem bs_toL (l : List UInt8) : (bs l).toList = l := by rw [ByteArray.toList_eq, bs_list]
theorem alike_f (l r : List UInt8) (hl : l.length ≤ 1000000) (hr : r.length ≤ 1000000) : AlikeF (bs l) (bs r) := by
  cases hv : vldR l r with
  | true =>
    obtain ⟨q, hq, rfl, rfl⟩ := vldR_of hv
    have V := valid_r (Lib.itoa q.num) (Lib.itoa ((q.den : Nat) : Int))
    rw [hv] at V
    exact ⟨_, _, _, 0, true, print_q q hq, built _ _ q fun u hu => parse_q q hq u hu, rprint_q q hq, V, .inl ⟨rfl, rfl, rfl, rfl, by rw [bs_toL]; exact beq_eq_false_iff_ne.2 (qtxt_ne q), by rw [bs_toL]; exact qtxt_ne q⟩⟩
  | false =>
    have V := valid_r l r
    rw [hv] at V
    exact ⟨⟨#[]⟩, ⟨#[]⟩, ⟨#[]⟩, 40, false, print_no l r hv, failed _ _ (qv 0) fun u hu => parse_no [] (by decide) (fun q _ h => qtxt_ne q h.symm) 0 u hu, rprint_no l r hl hr hv, V, .inr ⟨rfl, rfl, rfl, rfl, rfl⟩⟩
theorem alike_t (l : List UInt8) (hl : l.length ≤ 1000000) : AlikeT (bs l) := by
  by_cases h : ∃ q : Rat, okq q = true ∧ l = qtxt q
  · obtain ⟨q, hq, rfl⟩ := h
    exact ⟨_, _, 0, built _ _ q fun u hu => parse_q q hq u hu, rparse_q q hq, .inl ⟨rfl, print_q q hq⟩⟩
  · have hn : ∀ q : Rat, okq q = true → l ≠ qtxt q := fun q hq e => h ⟨q, hq, e⟩
    exact ⟨⟨#[]⟩, ⟨#[]⟩, 40, failed _ _ (qv 0) fun u hu => parse_no l hl hn 0 u hu, rparse_no l hl hn, .inr rfl⟩
theorem text_walk (s t : ByteArray) (a0 a1 a2 a3 pos cc : Int) (raw : ByteArray) (b0 : -9223372036854775808 ≤ a0 ∧ a0 ≤ 9223372036854775807) (b1 : -9223372036854775808 ≤ a1 ∧ a1 ≤ 9223372036854775807) (b2 : -9223372036854775808 ≤ a2 ∧ a2 ≤ 9223372036854775807) (b3 : -9223372036854775808 ≤ a3 ∧ a3 ≤ 9223372036854775807)
    (bp : -9223372036854775808 ≤ pos ∧ pos ≤ 9223372036854775807) (bc : 0 ≤ cc ∧ cc ≤ 255) (w : World) (ht : TabP w) :
    Calls Tryz.prog 4 #[.agg #[.string s, .string t], .agg #[.int .i64 a0, .int .i64 a1, .int .i64 a2, .int .i64 a3], .int .i64 pos, .int .u8 cc, .string raw] w fun e w' => e = .returned (.bool true) ∧ Below w.heap.size w w' := by
  obtain ⟨l, r, hl, hr, C1⟩ := cut_c s t
  have C2 := long_c a0 a1 a2 a3 b0 b1 b2 b3
  have hB := longQ_B a0 a1 a2 a3
  generalize longQ a0 a1 a2 a3 = q at *
  have hq := hB.ok (by decide)
  obtain ⟨q1, q2⟩ := okq_iff.1 hq
  have n1 := itoa_len q1
  have n2 := itoa_len q2
  have hlen := qtxt_len hq
  have C5 := rprint_q q hq
  have hne := qtxt_ne q
  generalize qtxt q = tx at *
  have hsz : (bs tx).size = tx.length := bs_size tx
  have hpos : 0 < tx.length := List.length_pos_iff.2 hne
  have C6 := pickL_any pos (bs tx).size (by omega) (by omega) bp.1 bp.2
  have lk := pickN_lt pos (bs tx).size (by omega)
  generalize pickN pos (bs tx).size = kn at *
  obtain ⟨kr, hk⟩ : ∃ k, min raw.size 420 = k := ⟨_, rfl⟩
  obtain ⟨cu, hcu⟩ : ∃ l, (raw.extract 0 kr).data.toList = l := ⟨_, rfl⟩
  have hp : raw.extract 0 kr = bs cu := by rw [← hcu, bs_of]
  have lcu : cu.length ≤ 420 := by
    have := congrArg ByteArray.size hp
    rw [bs_size, ByteArray.size_extract] at this; omega
  obtain ⟨d, rfl⟩ : ∃ d : Nat, cc = (d : Int) := ⟨cc.toNat, by omega⟩
  have hA : (bs tx).extract 0 kn = bs (tx.take kn) := by
    rw [ByteArray.ext_iff, ByteArray.data_extract]
    unfold bs
    rw [List.extract_toArray]; simp
  have hBx : (bs tx).extract (kn + 1) (bs tx).size = bs (tx.drop (kn + 1)) := by
    rw [hsz, ByteArray.ext_iff, ByteArray.data_extract]
    unfold bs
    rw [List.extract_toArray]
    simp [List.take_of_length_le]
  refine text_core s t raw (bs l) (bs r) _ _ (bs tx) (bs cu) (bs (tx.take kn ++ [UInt8.ofNat d] ++ tx.drop (kn + 1))) (bs (tx.take kn)) (bs (tx.drop (kn + 1))) (bs [UInt8.ofNat d]) a0 a1 a2 a3 pos d kn kr C1 C2 (alike_f l r (by omega) (by omega)) (alike_f _ _ (by omega) (by omega)) C5 ?_ C6
    (alike_t cu (by omega)) (alike_t _ ?_) (fun w => run_min2 #[3, 3] 3 .i64 .i64 (raw.size : Int) 420 (kr : Int) (by omega)) (fun w => ?_) (fun w => ?_) (fun w => ?_) (fun w => conv1 d (by omega) w) ?_ ?_ (by omega) w ht
  · exact ⟨by rw [bs_toL]; exact beq_eq_false_iff_ne.2 hne, by rw [bs_toL]; exact hne⟩
  · have : (tx.take kn).length ≤ tx.length := List.length_take_le' _ _
    have : (tx.drop (kn + 1)).length ≤ tx.length := by rw [List.length_drop]; omega
    rw [List.length_append, List.length_append, List.length_singleton]; omega
  · rw [run_slice_string_h (P := Tryz.prog) w 9 raw Tryz.underlying9 .i64 (kr : Int) (by omega) (by omega), Int.toNat_natCast, hp]
  · rw [run_slice_string_h (P := Tryz.prog) w 9 (bs tx) Tryz.underlying9 .i64 (kn : Int) (by omega) (by omega), Int.toNat_natCast, hA]
  · rw [run_slice_string_l (P := Tryz.prog) w 9 (bs tx) Tryz.underlying9 .i64 ((kn : Int) + 1) (by omega) (by omega), show ((kn : Int) + 1).toNat = kn + 1 from by omega, hBx]
  · rw [bs_append, bs_append]
  · refine ⟨?_, by rw [bs_size]; rfl, ?_⟩
    · rw [bs_size, List.length_take]; omega
    · rw [bs_size, List.length_drop]; omega
end Go.Proofs.YtpphpolhigdnjaaGreatDoor
