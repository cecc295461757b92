/- The reference's in, Valid. -/
import Derived.Test.YtinhjobjlpkflaaFd
import Derived.BigQuiet
namespace Go.Proofs.Ytinhjobjlpkflaa
open Go.RowKit Go.Shelf

set_option maxHeartbeats 4000000 in
theorem rin_any (n lo hi : Int) (w : World) : Calls Try.prog 31 #[.int .i64 n, .int .i64 lo, .int .i64 hi] w fun e w' => e = .returned (.bool (decide (lo ≤ n) && decide (n ≤ hi))) ∧ w = w' := by
  by_cases h0 : lo ≤ n
  · by_cases h1 : n ≤ hi
    · rw [decide_eq_true h0, decide_eq_true h1]
      go_enter Try.func31, Try.ntmps31
      go_wp2
      go_ret
      exact ⟨rfl, rfl⟩
    · rw [decide_eq_true h0, decide_eq_false h1]
      go_enter Try.func31, Try.ntmps31
      go_wp2
      go_ret
      exact ⟨rfl, rfl⟩
  · rw [decide_eq_false h0, Bool.false_and]
    go_enter Try.func31, Try.ntmps31
    go_wp2
    go_ret
    exact ⟨rfl, rfl⟩
theorem okAp_four (n : Int) (z0 z1 z2 z3 : Int) : okAp n ⟨z0, z1, z2, z3⟩ = (((decide (0 ≤ z0) && decide (z0 ≤ n - 1)) && (decide (0 ≤ z1) && decide (z1 ≤ 10000000))) && ((decide (1 ≤ z2) && decide (z2 ≤ 3600)) && (decide (1 ≤ z3) && decide (z3 ≤ 10)))) := by
  unfold okAp
  rw [Bool.eq_iff_iff]
  simp only [Bool.and_eq_true, decide_eq_true_eq]
  omega
set_option maxRecDepth 100000 in
set_option maxHeartbeats 16000000 in
theorem rvalid_any (n : Int) (l : List Ap) (A : Option Addr) (len c : Nat) (w : World) (hr : Recs encP 4 w w.heap.size (.slice A len c) l) : Calls Try.prog 15 #[.int .i64 n, .slice A len c] w fun e w' => e = .returned (.bool (validA n l)) ∧ Below w.heap.size w w' := by
  obtain ⟨hn, hc1, hc2⟩ := recs_cap hr
  have HR := Lib.hid hr
  have HN := Lib.hid hn
  have hn9 : len ≤ 9223372036854775807 := by omega
  clear hr hc1 hc2
  obtain ⟨b, hb⟩ : ∃ b, (decide (2 ≤ n) && decide (n ≤ 8)) = b := ⟨_, rfl⟩
  have HN0 := Lib.hid (fun u => rin_any n 2 8 u)
  rw [hb] at HN0
  have hv0 : validA n l = (b && decide (l.length ≤ 60) && apsK n l l.length) := by unfold validA; rw [hb]
  cases b with
  | false =>
    have HE := Lib.hid (show validA n l = false by rw [hv0]; simp)
    clear hn hb hv0
    go_enter Try.func15, Try.ntmps15
    go_wp2_with (go_at_call 31; (with_reducible refine Calls.mono (HN0.out _) ?_); rintro r y1 ⟨rfl, rfl⟩)
    go_ret
    exact ⟨by rw [HE.out]; rfl, Below.refl _ _⟩
  | true =>
    simp only [Bool.and_eq_true, decide_eq_true_eq] at hb
    obtain ⟨n2, n8⟩ := hb
    by_cases h60 : 60 < len
    · have HE := Lib.hid (show validA n l = false by rw [hv0, show decide (l.length ≤ 60) = false by rw [decide_eq_false_iff_not]; omega]; simp)
      have x60 : (60 : Int) < (len : Int) := by omega
      clear hn hv0
      go_enter Try.func15, Try.ntmps15
      go_wp2_with (go_at_call 31; (with_reducible refine Calls.mono (HN0.out _) ?_); rintro r y1 ⟨rfl, rfl⟩)
      go_ret
      exact ⟨by rw [HE.out]; rfl, Below.refl _ _⟩
    · have HV := Lib.hid (show validA n l = apsK n l l.length by rw [hv0, show decide (l.length ≤ 60) = true by rw [decide_eq_true_eq]; omega]; simp)
      have x60 : ¬ (60 : Int) < (len : Int) := by omega
      have en : IntKind.i64.wrap (n - 1) = n - 1 := IntWalk.i64_in _ (by omega)
      clear hn hv0
      go_enter Try.func15, Try.ntmps15
      go_wp2_with (go_at_call 31; (with_reducible refine Calls.mono (HN0.out _) ?_); rintro r y1 ⟨rfl, rfl⟩)
      go_loopw [5] (fun j wr => ∃ k : Nat, j = .int .i64 (k : Int) ∧ k ≤ len ∧ Hid (apsK n l k = true) ∧ Hid (Below w.heap.size w wr)) (fun j _ => len - (intOf j).toNat)
      case atStart => exact ⟨0, rfl, Nat.zero_le _, Lib.hid rfl, Lib.hid (Below.refl _ _)⟩
      case round =>
        obtain ⟨k, rfl, hk, HF, HB⟩ := hrel
        have k0 : (0 : Int) ≤ (k : Int) := by omega
        by_cases hlt : k < len
        · have hka : k < l.length := by have := HN.out; omega
          obtain ⟨g0, o, rfl, hg, hcell⟩ := recs_at (HR.out.below HB.out) k hka
          obtain ⟨q, hq⟩ : ∃ q, l[k]? = some q := ⟨_, List.getElem?_eq_getElem hka⟩
          have k1 : (k : Int) < (len : Int) := by omega
          have e7 : IntKind.i64.wrap ((k : Int) + 1) = (k : Int) + 1 := IntWalk.i64_in _ (by omega)
          have a0 : wr.cell? ⟨g0, o + k * 4, none⟩ = some (.int .i64 q.cand) := hcell k q hq 0 _ rfl
          have a1 : wr.cell? ⟨g0, o + k * 4 + 1, none⟩ = some (.int .i64 q.at_) := hcell k q hq 1 _ rfl
          have a2 : wr.cell? ⟨g0, o + k * 4 + 2, none⟩ = some (.int .i64 q.secs) := hcell k q hq 2 _ rfl
          have a3 : wr.cell? ⟨g0, o + k * 4 + 3, none⟩ = some (.int .i64 q.weight) := hcell k q hq 3 _ rfl
          have HCY := Lib.hid (fun j y (hy : l[j]? = some y) => show wr.cell? ⟨g0, o + j * 4 + 1, none⟩ = some (.int .i64 y.at_) from hcell j y hy 1 _ rfl)
          have lw := HB.out.size
          have g1 : g0 < wr.heap.size := by omega
          have HSN := Lib.hid (show apsK n l (k + 1) = (true && (okAp n q && (decide (k = 0) || decide ((l.getD (k - 1) ⟨0, 0, 0, 0⟩).at_ < q.at_)))) by rw [apsK_succ, HF.out, ap_getD hq])
          have HBA := Lib.hid (HB.out.alloc HB.out.size (.cells #[.int .i64 q.cand, .int .i64 q.at_, .int .i64 q.secs, .int .i64 q.weight] 49))
          obtain ⟨z0, z1, z2, z3⟩ := q
          rw [okAp_four] at HSN
          dsimp only at a0 a1 a2 a3 HSN HBA
          clear hcell hq
          obtain ⟨b0, hb0⟩ : ∃ b, (decide (0 ≤ z0) && decide (z0 ≤ (n - 1))) = b := ⟨_, rfl⟩
          have HI0 := Lib.hid (fun u => rin_any z0 0 (n - 1) u)
          rw [hb0] at HI0 HSN
          clear hb0
          obtain ⟨b1, hb1⟩ : ∃ b, (decide (0 ≤ z1) && decide (z1 ≤ 10000000)) = b := ⟨_, rfl⟩
          have HI1 := Lib.hid (fun u => rin_any z1 0 10000000 u)
          rw [hb1] at HI1 HSN
          clear hb1
          obtain ⟨b2, hb2⟩ : ∃ b, (decide (1 ≤ z2) && decide (z2 ≤ 3600)) = b := ⟨_, rfl⟩
          have HI2 := Lib.hid (fun u => rin_any z2 1 3600 u)
          rw [hb2] at HI2 HSN
          clear hb2
          obtain ⟨b3, hb3⟩ : ∃ b, (decide (1 ≤ z3) && decide (z3 ≤ 10)) = b := ⟨_, rfl⟩
          have HI3 := Lib.hid (fun u => rin_any z3 1 10 u)
          rw [hb3] at HI3 HSN
          clear hb3
          cases b0 with
          | false =>
            have HE := Lib.hid (show validA n l = false by unfold validA; rw [apsK_no (k := k) (m := l.length) (by rw [HSN.out]; simp) hka]; simp)
            go_upto_region 7 with fail
            go_quiet (first | (go_at_call 31; (with_reducible refine quiet_same (HI0.out _))) | (go_at_call 31; (with_reducible refine quiet_same (HI1.out _))) | (go_at_call 31; (with_reducible refine quiet_same (HI2.out _))) | (go_at_call 31; (with_reducible refine quiet_same (HI3.out _))))
            go_wp2
            go_ret
            exact ⟨by rw [HE.out]; rfl, belowN HBA.out _⟩
          | true =>
            cases b1 with
            | false =>
              have HE := Lib.hid (show validA n l = false by unfold validA; rw [apsK_no (k := k) (m := l.length) (by rw [HSN.out]; simp) hka]; simp)
              go_upto_region 7 with fail
              go_quiet (first | (go_at_call 31; (with_reducible refine quiet_same (HI0.out _))) | (go_at_call 31; (with_reducible refine quiet_same (HI1.out _))) | (go_at_call 31; (with_reducible refine quiet_same (HI2.out _))) | (go_at_call 31; (with_reducible refine quiet_same (HI3.out _))))
              go_wp2
              go_ret
              exact ⟨by rw [HE.out]; rfl, belowN HBA.out _⟩
            | true =>
              cases b2 with
              | false =>
                have HE := Lib.hid (show validA n l = false by unfold validA; rw [apsK_no (k := k) (m := l.length) (by rw [HSN.out]; simp) hka]; simp)
                go_upto_region 7 with fail
                go_quiet (first | (go_at_call 31; (with_reducible refine quiet_same (HI0.out _))) | (go_at_call 31; (with_reducible refine quiet_same (HI1.out _))) | (go_at_call 31; (with_reducible refine quiet_same (HI2.out _))) | (go_at_call 31; (with_reducible refine quiet_same (HI3.out _))))
                go_wp2
                go_ret
                exact ⟨by rw [HE.out]; rfl, belowN HBA.out _⟩
              | true =>
                cases b3 with
                | false =>
                  have HE := Lib.hid (show validA n l = false by unfold validA; rw [apsK_no (k := k) (m := l.length) (by rw [HSN.out]; simp) hka]; simp)
                  go_upto_region 7 with fail
                  go_quiet (first | (go_at_call 31; (with_reducible refine quiet_same (HI0.out _))) | (go_at_call 31; (with_reducible refine quiet_same (HI1.out _))) | (go_at_call 31; (with_reducible refine quiet_same (HI2.out _))) | (go_at_call 31; (with_reducible refine quiet_same (HI3.out _))))
                  go_wp2
                  go_ret
                  exact ⟨by rw [HE.out]; rfl, belowN HBA.out _⟩
                | true =>
                  by_cases hk0 : k = 0
                  · have d0 : decide (0 < k) = false := by rw [decide_eq_false_iff_not]; omega
                    have d1 : decide ((0 : Int) < (k : Int)) = false := by rw [decide_eq_false_iff_not]; omega
                    rw [decide_eq_true hk0] at HSN
                    clear hk0
                    go_upto_region 7 with fail
                    go_quiet (first | (go_at_call 31; (with_reducible refine quiet_same (HI0.out _))) | (go_at_call 31; (with_reducible refine quiet_same (HI1.out _))) | (go_at_call 31; (with_reducible refine quiet_same (HI2.out _))) | (go_at_call 31; (with_reducible refine quiet_same (HI3.out _))))
                    go_wp2
                    go_roundw
                    case rel => exact ⟨k + 1, by go_num, by omega, Lib.hid (by rw [HSN.out]; simp), Lib.hid (belowN HBA.out _)⟩
                    case measure => simp [intOf]; omega
                  · have d0 : decide (0 < k) = true := by rw [decide_eq_true_eq]; omega
                    have d1 : decide ((0 : Int) < (k : Int)) = true := by rw [decide_eq_true_eq]; omega
                    obtain ⟨j, hj⟩ : ∃ j, k - 1 = j := ⟨_, rfl⟩
                    obtain ⟨y, hy⟩ : ∃ y, l[j]? = some y := ⟨_, List.getElem?_eq_getElem (by omega)⟩
                    have p1 : wr.cell? ⟨g0, o + j * 4 + 1, none⟩ = some (.int .i64 y.at_) := HCY.out j y hy
                    have j0 : (0 : Int) ≤ (j : Int) := by omega
                    have j1 : (j : Int) < (len : Int) := by omega
                    have ej : IntKind.i64.wrap ((k : Int) - 1) = (j : Int) := by rw [show (k : Int) - 1 = (j : Int) by omega]; exact IntWalk.i64_in _ (by omega)
                    rw [decide_eq_false hk0, hj, ap_getD hy] at HSN
                    clear hk0 hj hy
                    generalize y.at_ = pa at *
                    by_cases hle : z1 ≤ pa
                    · have d2 : decide (z1 ≤ pa) = true := by rw [decide_eq_true_eq]; exact hle
                      rw [show decide (pa < z1) = false by rw [decide_eq_false_iff_not]; omega] at HSN
                      clear hle
                      have HE := Lib.hid (show validA n l = false by unfold validA; rw [apsK_no (k := k) (m := l.length) (by rw [HSN.out]; simp) hka]; simp)
                      go_upto_region 7 with fail
                      go_quiet (first | (go_at_call 31; (with_reducible refine quiet_same (HI0.out _))) | (go_at_call 31; (with_reducible refine quiet_same (HI1.out _))) | (go_at_call 31; (with_reducible refine quiet_same (HI2.out _))) | (go_at_call 31; (with_reducible refine quiet_same (HI3.out _))))
                      go_wp2
                      go_ret
                      exact ⟨by rw [HE.out]; rfl, belowN HBA.out _⟩
                    · have d2 : decide (z1 ≤ pa) = false := by rw [decide_eq_false_iff_not]; exact hle
                      rw [show decide (pa < z1) = true by rw [decide_eq_true_eq]; omega] at HSN
                      clear hle
                      go_upto_region 7 with fail
                      go_quiet (first | (go_at_call 31; (with_reducible refine quiet_same (HI0.out _))) | (go_at_call 31; (with_reducible refine quiet_same (HI1.out _))) | (go_at_call 31; (with_reducible refine quiet_same (HI2.out _))) | (go_at_call 31; (with_reducible refine quiet_same (HI3.out _))))
                      go_wp2
                      go_roundw
                      case rel => exact ⟨k + 1, by go_num, by omega, Lib.hid (by rw [HSN.out]; simp), Lib.hid (belowN HBA.out _)⟩
                      case measure => simp [intOf]; omega
        · have k1 : ¬ (k : Int) < (len : Int) := by omega
          have HE := Lib.hid (show validA n l = true by rw [HV.out, show l.length = k by have := HN.out; omega]; exact HF.out)
          go_wp2
          go_ret
          exact ⟨by rw [HE.out]; rfl, HB.out⟩
end Go.Proofs.Ytinhjobjlpkflaa
