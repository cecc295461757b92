/- ItemFewest: its walk. -/
import Derived.Test.YtplkcjgabaoefaaKq
namespace Go.Proofs.Ytplkcjgabaoefaa
open Go.RowKit Go.Shelf

set_option maxRecDepth 100000 in
set_option maxHeartbeats 16000000 in
theorem fewest_true (id x0 x1 x2 x3 x4 x5 set odd : Int) (hid : I64 id) (hx6 : ∀ x ∈ [x0, x1, x2, x3, x4, x5], I64 x) (hset : I64 set) (_ : I64 odd) (w : World) :
    Calls Try.prog 5 #[.int .i64 id, .agg #[.int .i64 x0, .int .i64 x1, .int .i64 x2, .int .i64 x3, .int .i64 x4, .int .i64 x5], .int .i64 set, .int .i64 odd] w fun e w' => e = .returned (.bool true) ∧ Below w.heap.size w w' := by
  obtain ⟨z, hzz⟩ : ∃ z, (pickI set 16).toNat = z := ⟨_, rfl⟩
  have hz : z < 16 := by have := pickI_lt set 16 (by decide); omega
  go_enter Try.func5, Try.ntmps5
  go_wp2_with (first | (go_at_call 9; (with_reducible refine Calls.mono (sane_any _) ?_); rintro r u1 ⟨rfl, hb⟩; have HBz := Lib.hid (below_to ((Below.refl _ w).alloc (Nat.le_refl _) _) hb); have Bc := Lib.hid (HBz.out); have sz := Bc.out.size; have sc1 := Nat.le_trans (Nat.le_refl w.heap.size) (HBz.out).size; have RX := Lib.hid ((Row.new w 25 #[.int .i64 x0, .int .i64 x1, .int .i64 x2, .int .i64 x3, .int .i64 x4, .int .i64 x5]).below hb (Row.new w 25 #[.int .i64 x0, .int .i64 x1, .int .i64 x2, .int .i64 x3, .int .i64 x4, .int .i64 x5]).lt); have X_0 := RX.out.cell 0; have X_1 := RX.out.cell 1; have X_2 := RX.out.cell 2; have X_3 := RX.out.cell 3; have X_4 := RX.out.cell 4; have X_5 := RX.out.cell 5; have lX := RX.out.lt; clear hb) | (go_at_call 10; (with_reducible refine Calls.mono (rmade_any id x0 x1 x2 x3 x4 x5 hid hx6 _) ?_); rintro r u2 ⟨i, A1, A2, n1, c1, n2, c2, rfl, hok, hit, hb⟩; have Bc := Lib.hid (below_to Bc.out hb); have sz := Bc.out.size; have sc2 := Nat.le_trans (Nat.le_refl u1.heap.size) (hb).size; have RX := Lib.hid (RX.out.below hb RX.out.lt); clear X_0 X_1 X_2 X_3 X_4 X_5 lX; have X_0 := RX.out.cell 0; have X_1 := RX.out.cell 1; have X_2 := RX.out.cell 2; have X_3 := RX.out.cell 3; have X_4 := RX.out.cell 4; have X_5 := RX.out.cell 5; have lX := RX.out.lt; have HIT := Lib.hid hit; have HN1 := Lib.hid hit.lens.1; have HN2 := Lib.hid hit.lens.2; have HOK := Lib.hid hok; obtain ⟨G, n, hcf⟩ := cutF_of hok hz; have hlen := hcf.length; obtain ⟨d, hd1, hd2, hd3⟩ := fewest hok hz hcf; obtain ⟨D, hD⟩ : ∃ D, bitsL i.trims.length z = D := ⟨_, rfl⟩; rw [hD] at hlen hd3; have HLEN := Lib.hid hlen; have HD1 := Lib.hid hd1; have HD2 := Lib.hid hd2; have HD3 := Lib.hid hd3; have HDD := Lib.hid hD; have hli := listed hok odd; obtain ⟨b, hb⟩ : ∃ b, (cutV i odd).isSome = b := ⟨_, rfl⟩; obtain ⟨L, hL⟩ : ∃ L, lensV i = L := ⟨_, rfl⟩; rw [hb, hL] at hli; have HLI := Lib.hid hli; have HSM := Lib.hid hb; have HLV := Lib.hid hL; clear hcf hlen hd1 hd2 hd3 hD hli hb hL; clear hit hok; clear hb) | (go_at_call 22; (with_reducible refine Calls.mono (cutOf_any set hset i.id i.kind i.len i.artist i.tempo i.lang A1 A2 n1 c1 n2 c2 (by have := HN1.out; have := HOK.out.n1; omega) _) ?_); rintro r u3 ⟨A3, n3, c3, rfl, h3, hb⟩; have HBz := Lib.hid (below_to ((Below.refl _ u2).alloc (Nat.le_refl _) _) hb); have Bc := Lib.hid (below_to Bc.out HBz.out); have sz := Bc.out.size; have sc3 := Nat.le_trans (Nat.le_refl u2.heap.size) (HBz.out).size; have RX := Lib.hid (RX.out.below HBz.out RX.out.lt); have RI := Lib.hid ((Row.new u2 24 #[.int .i64 i.id, .int .i64 i.kind, .int .i64 i.len, .slice A1 n1 c1, .slice A2 n2 c2, .int .i64 i.artist, .int .i64 i.tempo, .int .i64 i.lang]).below hb (Row.new u2 24 #[.int .i64 i.id, .int .i64 i.kind, .int .i64 i.len, .slice A1 n1 c1, .slice A2 n2 c2, .int .i64 i.artist, .int .i64 i.tempo, .int .i64 i.lang]).lt); clear X_0 X_1 X_2 X_3 X_4 X_5 lX; have X_0 := RX.out.cell 0; have X_1 := RX.out.cell 1; have X_2 := RX.out.cell 2; have X_3 := RX.out.cell 3; have X_4 := RX.out.cell 4; have X_5 := RX.out.cell 5; have lX := RX.out.lt; have I_0 := RI.out.cell 0; have I_1 := RI.out.cell 1; have I_2 := RI.out.cell 2; have I_3 := RI.out.cell 3; have I_4 := RI.out.cell 4; have I_5 := RI.out.cell 5; have I_6 := RI.out.cell 6; have I_7 := RI.out.cell 7; have lI := RI.out.lt; have HIT := Lib.hid (HIT.out.next HBz.out); rw [HN1.out, hzz, HDD.out] at h3; have HS := Lib.hid (StL.mk HIT.out h3 RI.out Bc.out); clear h3; clear hb) | (go_at_call 24; (with_reducible refine Calls.mono (length_at HLEN.out HS.out.it HS.out.c) ?_); rintro r u4 ⟨rfl, hb⟩; have Bc := Lib.hid (below_to Bc.out hb); have sz := Bc.out.size; have sc4 := Nat.le_trans (Nat.le_refl u3.heap.size) (hb).size; have HS := Lib.hid (HS.out.next hb); clear I_0 I_1 I_2 I_3 I_4 I_5 I_6 I_7 lI; have I_0 := HS.out.box.cell 0; have I_1 := HS.out.box.cell 1; have I_2 := HS.out.box.cell 2; have I_3 := HS.out.box.cell 3; have I_4 := HS.out.box.cell 4; have I_5 := HS.out.box.cell 5; have I_6 := HS.out.box.cell 6; have I_7 := HS.out.box.cell 7; have lI := HS.out.box.lt; clear hb) | (go_at_call 20; (with_reducible refine Calls.mono (cut_at HD1.out HS.out.it) ?_); rintro r u5 ⟨A4, n4, c4, rfl, h4, hb⟩; have Bc := Lib.hid (below_to Bc.out hb); have sz := Bc.out.size; have sc5 := Nat.le_trans (Nat.le_refl u4.heap.size) (hb).size; have HS := Lib.hid (HS.out.next hb); have HC4 := Lib.hid h4; clear h4; clear I_0 I_1 I_2 I_3 I_4 I_5 I_6 I_7 lI; have I_0 := HS.out.box.cell 0; have I_1 := HS.out.box.cell 1; have I_2 := HS.out.box.cell 2; have I_3 := HS.out.box.cell 3; have I_4 := HS.out.box.cell 4; have I_5 := HS.out.box.cell 5; have I_6 := HS.out.box.cell 6; have I_7 := HS.out.box.cell 7; have lI := HS.out.box.lt; clear hb) | (go_at_call 24; (with_reducible refine Calls.mono (length_at HD2.out HS.out.it HC4.out) ?_); rintro r u6 ⟨rfl, hb⟩; have Bc := Lib.hid (below_to Bc.out hb); have sz := Bc.out.size; have sc6 := Nat.le_trans (Nat.le_refl u5.heap.size) (hb).size; have HS := Lib.hid (HS.out.next hb); have HC4 := Lib.hid (HC4.out.next hb); clear I_0 I_1 I_2 I_3 I_4 I_5 I_6 I_7 lI; have I_0 := HS.out.box.cell 0; have I_1 := HS.out.box.cell 1; have I_2 := HS.out.box.cell 2; have I_3 := HS.out.box.cell 3; have I_4 := HS.out.box.cell 4; have I_5 := HS.out.box.cell 5; have I_6 := HS.out.box.cell 6; have I_7 := HS.out.box.cell 7; have lI := HS.out.box.lt; clear hb) | (go_at_call 33; (with_reducible refine Calls.mono (before_at HD3.out HS.out.c HC4.out) ?_); rintro r u7 ⟨rfl, hb⟩; have Bc := Lib.hid (below_to Bc.out hb); have sz := Bc.out.size; have sc7 := Nat.le_trans (Nat.le_refl u6.heap.size) (hb).size; have HS := Lib.hid (HS.out.next hb); have HC4 := Lib.hid (HC4.out.next hb); clear I_0 I_1 I_2 I_3 I_4 I_5 I_6 I_7 lI; have I_0 := HS.out.box.cell 0; have I_1 := HS.out.box.cell 1; have I_2 := HS.out.box.cell 2; have I_3 := HS.out.box.cell 3; have I_4 := HS.out.box.cell 4; have I_5 := HS.out.box.cell 5; have I_6 := HS.out.box.cell 6; have I_7 := HS.out.box.cell 7; have lI := HS.out.box.lt; clear hb) | (go_at_call 14; (with_reducible refine Calls.mono (lens_at HOK.out HLV.out HS.out.it) ?_); rintro r u8 ⟨A5, n5, c5, rfl, h5, hb⟩; have Bc := Lib.hid (below_to Bc.out hb); have sz := Bc.out.size; have sc8 := Nat.le_trans (Nat.le_refl u7.heap.size) (hb).size; have HS := Lib.hid (HS.out.next hb); have HC4 := Lib.hid (HC4.out.next hb); have HL5 := Lib.hid h5; clear h5; clear I_0 I_1 I_2 I_3 I_4 I_5 I_6 I_7 lI; have I_0 := HS.out.box.cell 0; have I_1 := HS.out.box.cell 1; have I_2 := HS.out.box.cell 2; have I_3 := HS.out.box.cell 3; have I_4 := HS.out.box.cell 4; have I_5 := HS.out.box.cell 5; have I_6 := HS.out.box.cell 6; have I_7 := HS.out.box.cell 7; have lI := HS.out.box.lt; clear hb))
  go_loopw [19, 20] (fun lf k wr => ∃ (K : Nat) (bb : Bool), lf = .bool bb ∧ k = .int .i64 (K : Int) ∧ K ≤ n5 ∧ Hid (bb = (L.take K).contains odd) ∧ Hid (StL w i A1 n1 c1 A2 n2 c2 u2.heap.size (zi D) A3 n3 c3 wr) ∧ Hid (Recs enc1 1 wr wr.heap.size (.slice A5 n5 c5) L)) (fun _ k _ => n5 - (intOf k).toNat)
  case atStart => exact ⟨0, false, rfl, rfl, Nat.zero_le _, Lib.hid rfl, HS, HL5⟩
  case round =>
    have hn5 := recs_cap HL5.out
    have HN5 := Lib.hid hn5.1
    have hn9 : n5 ≤ 9223372036854775807 := by omega
    clear HS HL5 I_0 I_1 I_2 I_3 I_4 I_5 I_6 I_7 lI hn5
    obtain ⟨K, bb, rfl, rfl, hK, HBB, HS, HL5⟩ := hrel
    have I_0 := HS.out.box.cell 0; have I_1 := HS.out.box.cell 1; have I_2 := HS.out.box.cell 2; have I_3 := HS.out.box.cell 3; have I_4 := HS.out.box.cell 4; have I_5 := HS.out.box.cell 5; have I_6 := HS.out.box.cell 6; have I_7 := HS.out.box.cell 7; have lI := HS.out.box.lt
    have Bc := Lib.hid HS.out.b
    have k_0 : (0 : Int) ≤ (K : Int) := by omega
    by_cases hlt : K < n5
    · have k_1 : (K : Int) < (n5 : Int) := by omega
      obtain ⟨y, hy⟩ : ∃ y, L[K]? = some y := ⟨_, List.getElem?_eq_getElem (by rw [← HN5.out]; exact hlt)⟩
      have HNX := Lib.hid (has_snoc (x := odd) hy)
      rw [← HBB.out] at HNX
      obtain ⟨g5, o5, rfl, hg5, a0⟩ := cell1_at HL5.out hy
      clear hy
      cases bb with
      | true =>
        have HN := Lib.hid (HNX.out.trans (Bool.true_or _))
        go_wp2
        go_roundw
        case rel => exact ⟨K + 1, true, rfl, by go_num, by omega, Lib.hid HN.out.symm, HS, HL5⟩
        case measure => simp [intOf]; omega
      | false =>
        by_cases hyo : y = odd
        · have e1 : (y == odd) = true := by simp [hyo]
          have HN := Lib.hid (HNX.out.trans (by rw [e1]; rfl) : _ = true)
          subst hyo
          go_wp2
          go_roundw
          case rel => exact ⟨K + 1, true, rfl, by go_num, by omega, Lib.hid HN.out.symm, HS, HL5⟩
          case measure => simp [intOf]; omega
        · have e1 : (y == odd) = false := beq_eq_false_iff_ne.2 hyo
          have HN := Lib.hid (HNX.out.trans (by rw [e1]; rfl) : _ = false)
          clear hyo
          go_wp2
          go_roundw
          case rel => exact ⟨K + 1, false, rfl, by go_num, by omega, Lib.hid HN.out.symm, HS, HL5⟩
          case measure => simp [intOf]; omega
    · have k_1 : ¬ (K : Int) < (n5 : Int) := by omega
      have hbb : bb = L.contains odd := by rw [HBB.out, List.take_of_length_le (by rw [← HN5.out]; omega)]
      have hb2 : b = bb := by
        rw [hbb]
        cases hc : L.contains odd with
        | true => exact HLI.out.2 (by simpa using hc)
        | false =>
          cases hb3 : b with
          | false => rfl
          | true => have := HLI.out.1 hb3; rw [List.contains_eq_mem, decide_eq_false_iff_not] at hc; exact absurd this hc
      subst hb2
      clear hbb
      cases b with
      | true =>
        have HEV := Lib.hid (show (if true then (0 : Int) else 70) = 0 from rfl)
        go_wp2_with (first | (go_at_call 20; (with_reducible refine Calls.mono (cut_err HSM.out HEV.out HS.out.it) ?_); rintro r u9 ⟨A6, n6, c6, rfl, hb⟩; have Bc := Lib.hid (below_to Bc.out hb); have sz := Bc.out.size; have sc9 := Nat.le_trans (Nat.le_refl wr.heap.size) (hb).size; have HS := Lib.hid (HS.out.next hb); clear I_0 I_1 I_2 I_3 I_4 I_5 I_6 I_7 lI; have I_0 := HS.out.box.cell 0; have I_1 := HS.out.box.cell 1; have I_2 := HS.out.box.cell 2; have I_3 := HS.out.box.cell 3; have I_4 := HS.out.box.cell 4; have I_5 := HS.out.box.cell 5; have I_6 := HS.out.box.cell 6; have I_7 := HS.out.box.cell 7; have lI := HS.out.box.lt; clear hb))
        go_ret
        exact ⟨rfl, Bc.out⟩
      | false =>
        have HEV := Lib.hid (show (if false then (0 : Int) else 70) = 70 from rfl)
        go_wp2_with (first | (go_at_call 20; (with_reducible refine Calls.mono (cut_err HSM.out HEV.out HS.out.it) ?_); rintro r u9 ⟨A6, n6, c6, rfl, hb⟩; have Bc := Lib.hid (below_to Bc.out hb); have sz := Bc.out.size; have sc9 := Nat.le_trans (Nat.le_refl wr.heap.size) (hb).size; have HS := Lib.hid (HS.out.next hb); clear I_0 I_1 I_2 I_3 I_4 I_5 I_6 I_7 lI; have I_0 := HS.out.box.cell 0; have I_1 := HS.out.box.cell 1; have I_2 := HS.out.box.cell 2; have I_3 := HS.out.box.cell 3; have I_4 := HS.out.box.cell 4; have I_5 := HS.out.box.cell 5; have I_6 := HS.out.box.cell 6; have I_7 := HS.out.box.cell 7; have lI := HS.out.box.lt; clear hb))
        go_ret
        exact ⟨rfl, Bc.out⟩
end Go.Proofs.Ytplkcjgabaoefaa
