/- The reference: in, bit, Valid, ValidUses. -/
import Derived.Test.YtenojfniknjeiaaIk
namespace Go.Proofs.Ytenojfniknjeiaa
open Go.RowKit Go.Shelf

set_option maxHeartbeats 4000000 in
theorem in_any (n lo hi : Int) (w : World) : Calls Try.prog 33 #[.int .i64 n, .int .i64 lo, .int .i64 hi] w fun e w' => e = .returned (.bool (decide (lo ≤ n) && decide (n ≤ hi))) ∧ w = w' := by
  by_cases h0 : lo ≤ n
  · by_cases h1 : n ≤ hi
    · rw [decide_eq_true h0, decide_eq_true h1]
      go_enter Try.func33, Try.ntmps33
      go_wp2
      go_ret
      exact ⟨rfl, rfl⟩
    · rw [decide_eq_true h0, decide_eq_false h1]
      go_enter Try.func33, Try.ntmps33
      go_wp2
      go_ret
      exact ⟨rfl, rfl⟩
  · rw [decide_eq_false h0, Bool.false_and]
    go_enter Try.func33, Try.ntmps33
    go_wp2
    go_ret
    exact ⟨rfl, rfl⟩
theorem bit_eq (n k : Nat) : ((n : Int) / 2 ^ k % 2 == 1) = n.testBit k := by
  rw [Nat.testBit_eq_decide_div_mod_eq]
  have e : (n : Int) / 2 ^ k % 2 = ((n / 2 ^ k % 2 : Nat) : Int) := by push_cast; rfl
  rw [e]
  rw [Bool.eq_iff_iff, beq_iff_eq, decide_eq_true_eq]
  omega
set_option maxHeartbeats 4000000 in
theorem bit_any (n k : Nat) (hk : k ≤ 10) (hn : n < 4096) (w : World) : Calls Try.prog 45 #[.int .i64 (n : Int), .int .i64 (k : Int)] w fun e w' => e = .returned (.bool (n.testBit k)) ∧ w = w' := by
  have h0 : (0 : Int) ≤ (k : Int) := by omega
  have h1 : (k : Int) < 64 := by omega
  have hb := bit_eq n k
  obtain ⟨b, hbb⟩ : ∃ b, n.testBit k = b := ⟨_, rfl⟩
  rw [hbb] at hb ⊢
  clear hbb
  have hd0 : (0 : Int) ≤ (n : Int) / 2 ^ k := Int.ediv_nonneg (by omega) (Int.pow_nonneg (by decide))
  have hd1 : (n : Int) / 2 ^ k ≤ (n : Int) := Int.ediv_le_self _ (by omega)
  have tk : ((k : Int)).toNat = k := by omega
  go_enter Try.func45, Try.ntmps45
  go_wp2
  go_ret
  exact ⟨rfl, rfl⟩
theorem okG_parts (q : Gr) : okG q = ((decide (0 ≤ q.item) && decide (q.item ≤ 199)) && (decide (1 ≤ q.acts) && decide (q.acts ≤ 31)) && (decide (1 ≤ q.regions) && decide (q.regions ≤ 255)) && (decide (0 ≤ q.plays) && decide (q.plays ≤ 100)) && !decide (q.fr < 0) && !decide (q.tw ≤ q.fr) && !decide (10000000 < q.tw)) := by
  rw [Bool.eq_iff_iff]
  unfold okG
  simp only [Bool.and_eq_true, decide_eq_true_eq, Bool.not_eq_true', decide_eq_false_iff_not]
  omega
set_option maxRecDepth 100000 in
set_option maxHeartbeats 8000000 in
theorem rvalid_any (l : List Gr) (A : Option Addr) (n c : Nat) (w : World) (hr : Recs encG 6 w w.heap.size (.slice A n c) l) : Calls Try.prog 14 #[.slice A n c] w fun e w' => e = .returned (.bool (validG l)) ∧ Below w.heap.size w w' := by
  obtain ⟨hn, hc1, hc2⟩ := recs_cap hr
  have HR := Lib.hid hr
  have HN := Lib.hid hn
  have hn9 : n ≤ 9223372036854775807 := by omega
  clear hr hn hc1 hc2
  go_enter Try.func14, Try.ntmps14
  go_wp2
  go_loopw [3] (fun j wr => ∃ k : Nat, j = .int .i64 (k : Int) ∧ k ≤ n ∧ Hid ((l.take k).all okG = true) ∧ Hid (Below w.heap.size w wr)) (fun j _ => n - (intOf j).toNat)
  case atStart => exact ⟨0, rfl, Nat.zero_le _, Lib.hid rfl, Lib.hid (Below.refl _ _)⟩
  case round =>
    obtain ⟨k, rfl, hk, HF, HB⟩ := hrel
    by_cases hlt : k < n
    · have hka : k < l.length := by have := HN.out; omega
      obtain ⟨g0, o, rfl, hg, hcell⟩ := recs_at (HR.out.below HB.out) k hka
      obtain ⟨q, hq⟩ : ∃ q, l[k]? = some q := ⟨_, List.getElem?_eq_getElem hka⟩
      have HQ := Lib.hid hq
      have a0 : wr.cell? ⟨g0, o + k * 6, none⟩ = some (.int .i64 q.item) := hcell k q hq 0 _ rfl
      have a1 : wr.cell? ⟨g0, o + k * 6 + 1, none⟩ = some (.int .i64 q.acts) := hcell k q hq 1 _ rfl
      have a2 : wr.cell? ⟨g0, o + k * 6 + 2, none⟩ = some (.int .i64 q.regions) := hcell k q hq 2 _ rfl
      have a3 : wr.cell? ⟨g0, o + k * 6 + 3, none⟩ = some (.int .i64 q.plays) := hcell k q hq 3 _ rfl
      have a4 : wr.cell? ⟨g0, o + k * 6 + 4, none⟩ = some (.int .i64 q.fr) := hcell k q hq 4 _ rfl
      have a5 : wr.cell? ⟨g0, o + k * 6 + 5, none⟩ = some (.int .i64 q.tw) := hcell k q hq 5 _ rfl
      have lw := HB.out.size
      have g1 : g0 < wr.heap.size := by omega
      have k0 : (0 : Int) ≤ (k : Int) := by omega
      have k1 : (k : Int) < (n : Int) := by omega
      have e7 : IntKind.i64.wrap ((k : Int) + 1) = (k : Int) + 1 := IntWalk.i64_in _ (by omega)
      have HPT := Lib.hid (okG_parts q)
      have HBA := Lib.hid (HB.out.alloc HB.out.size (.cells #[.int .i64 q.item, .int .i64 q.acts, .int .i64 q.regions, .int .i64 q.plays, .int .i64 q.fr, .int .i64 q.tw] 52))
      obtain ⟨b0, hb0⟩ : ∃ b, (decide (0 ≤ q.item) && decide (q.item ≤ 199)) = b := ⟨_, rfl⟩
      have HI0 := Lib.hid (fun u => in_any q.item 0 199 u)
      rw [hb0] at HI0 HPT
      clear hb0
      obtain ⟨b1, hb1⟩ : ∃ b, (decide (1 ≤ q.acts) && decide (q.acts ≤ 31)) = b := ⟨_, rfl⟩
      have HI1 := Lib.hid (fun u => in_any q.acts 1 31 u)
      rw [hb1] at HI1 HPT
      clear hb1
      obtain ⟨b2, hb2⟩ : ∃ b, (decide (1 ≤ q.regions) && decide (q.regions ≤ 255)) = b := ⟨_, rfl⟩
      have HI2 := Lib.hid (fun u => in_any q.regions 1 255 u)
      rw [hb2] at HI2 HPT
      clear hb2
      obtain ⟨b3, hb3⟩ : ∃ b, (decide (0 ≤ q.plays) && decide (q.plays ≤ 100)) = b := ⟨_, rfl⟩
      have HI3 := Lib.hid (fun u => in_any q.plays 0 100 u)
      rw [hb3] at HI3 HPT
      clear hb3
      obtain ⟨b4, hb4⟩ : ∃ b, decide (q.fr < 0) = b := ⟨_, rfl⟩
      rw [hb4] at HPT
      obtain ⟨b5, hb5⟩ : ∃ b, decide (q.tw ≤ q.fr) = b := ⟨_, rfl⟩
      rw [hb5] at HPT
      obtain ⟨b6, hb6⟩ : ∃ b, decide (10000000 < q.tw) = b := ⟨_, rfl⟩
      rw [hb6] at HPT
      clear hcell hq
      generalize q.item = z0 at *
      generalize q.acts = z1 at *
      generalize q.regions = z2 at *
      generalize q.plays = z3 at *
      generalize q.fr = z4 at *
      generalize q.tw = z5 at *
      cases b0 with
      | false =>
        have HE := Lib.hid (show validG l = false by unfold validG; rw [← List.take_append_drop (k + 1) l, List.all_append, validG_take HQ.out, HPT.out]; simp)
        go_wp2_with (first | (go_at_call 33; (with_reducible refine Calls.mono (HI0.out _) ?_); rintro r y1 ⟨rfl, rfl⟩) | (go_at_call 33; (with_reducible refine Calls.mono (HI1.out _) ?_); rintro r y1 ⟨rfl, rfl⟩) | (go_at_call 33; (with_reducible refine Calls.mono (HI2.out _) ?_); rintro r y1 ⟨rfl, rfl⟩) | (go_at_call 33; (with_reducible refine Calls.mono (HI3.out _) ?_); rintro r y1 ⟨rfl, rfl⟩))
        go_ret
        exact ⟨by rw [HE.out]; rfl, HBA.out⟩
      | true =>
        cases b1 with
        | false =>
          have HE := Lib.hid (show validG l = false by unfold validG; rw [← List.take_append_drop (k + 1) l, List.all_append, validG_take HQ.out, HPT.out]; simp)
          go_wp2_with (first | (go_at_call 33; (with_reducible refine Calls.mono (HI0.out _) ?_); rintro r y1 ⟨rfl, rfl⟩) | (go_at_call 33; (with_reducible refine Calls.mono (HI1.out _) ?_); rintro r y1 ⟨rfl, rfl⟩) | (go_at_call 33; (with_reducible refine Calls.mono (HI2.out _) ?_); rintro r y1 ⟨rfl, rfl⟩) | (go_at_call 33; (with_reducible refine Calls.mono (HI3.out _) ?_); rintro r y1 ⟨rfl, rfl⟩))
          go_ret
          exact ⟨by rw [HE.out]; rfl, HBA.out⟩
        | true =>
          cases b2 with
          | false =>
            have HE := Lib.hid (show validG l = false by unfold validG; rw [← List.take_append_drop (k + 1) l, List.all_append, validG_take HQ.out, HPT.out]; simp)
            go_wp2_with (first | (go_at_call 33; (with_reducible refine Calls.mono (HI0.out _) ?_); rintro r y1 ⟨rfl, rfl⟩) | (go_at_call 33; (with_reducible refine Calls.mono (HI1.out _) ?_); rintro r y1 ⟨rfl, rfl⟩) | (go_at_call 33; (with_reducible refine Calls.mono (HI2.out _) ?_); rintro r y1 ⟨rfl, rfl⟩) | (go_at_call 33; (with_reducible refine Calls.mono (HI3.out _) ?_); rintro r y1 ⟨rfl, rfl⟩))
            go_ret
            exact ⟨by rw [HE.out]; rfl, HBA.out⟩
          | true =>
            cases b3 with
            | false =>
              have HE := Lib.hid (show validG l = false by unfold validG; rw [← List.take_append_drop (k + 1) l, List.all_append, validG_take HQ.out, HPT.out]; simp)
              go_wp2_with (first | (go_at_call 33; (with_reducible refine Calls.mono (HI0.out _) ?_); rintro r y1 ⟨rfl, rfl⟩) | (go_at_call 33; (with_reducible refine Calls.mono (HI1.out _) ?_); rintro r y1 ⟨rfl, rfl⟩) | (go_at_call 33; (with_reducible refine Calls.mono (HI2.out _) ?_); rintro r y1 ⟨rfl, rfl⟩) | (go_at_call 33; (with_reducible refine Calls.mono (HI3.out _) ?_); rintro r y1 ⟨rfl, rfl⟩))
              go_ret
              exact ⟨by rw [HE.out]; rfl, HBA.out⟩
            | true =>
              cases b4 with
              | true =>
                have HE := Lib.hid (show validG l = false by unfold validG; rw [← List.take_append_drop (k + 1) l, List.all_append, validG_take HQ.out, HPT.out]; simp)
                go_wp2_with (first | (go_at_call 33; (with_reducible refine Calls.mono (HI0.out _) ?_); rintro r y1 ⟨rfl, rfl⟩) | (go_at_call 33; (with_reducible refine Calls.mono (HI1.out _) ?_); rintro r y1 ⟨rfl, rfl⟩) | (go_at_call 33; (with_reducible refine Calls.mono (HI2.out _) ?_); rintro r y1 ⟨rfl, rfl⟩) | (go_at_call 33; (with_reducible refine Calls.mono (HI3.out _) ?_); rintro r y1 ⟨rfl, rfl⟩))
                go_ret
                exact ⟨by rw [HE.out]; rfl, HBA.out⟩
              | false =>
                cases b5 with
                | true =>
                  have HE := Lib.hid (show validG l = false by unfold validG; rw [← List.take_append_drop (k + 1) l, List.all_append, validG_take HQ.out, HPT.out]; simp)
                  go_wp2_with (first | (go_at_call 33; (with_reducible refine Calls.mono (HI0.out _) ?_); rintro r y1 ⟨rfl, rfl⟩) | (go_at_call 33; (with_reducible refine Calls.mono (HI1.out _) ?_); rintro r y1 ⟨rfl, rfl⟩) | (go_at_call 33; (with_reducible refine Calls.mono (HI2.out _) ?_); rintro r y1 ⟨rfl, rfl⟩) | (go_at_call 33; (with_reducible refine Calls.mono (HI3.out _) ?_); rintro r y1 ⟨rfl, rfl⟩))
                  go_ret
                  exact ⟨by rw [HE.out]; rfl, HBA.out⟩
                | false =>
                  cases b6 with
                  | true =>
                    have HE := Lib.hid (show validG l = false by unfold validG; rw [← List.take_append_drop (k + 1) l, List.all_append, validG_take HQ.out, HPT.out]; simp)
                    go_wp2_with (first | (go_at_call 33; (with_reducible refine Calls.mono (HI0.out _) ?_); rintro r y1 ⟨rfl, rfl⟩) | (go_at_call 33; (with_reducible refine Calls.mono (HI1.out _) ?_); rintro r y1 ⟨rfl, rfl⟩) | (go_at_call 33; (with_reducible refine Calls.mono (HI2.out _) ?_); rintro r y1 ⟨rfl, rfl⟩) | (go_at_call 33; (with_reducible refine Calls.mono (HI3.out _) ?_); rintro r y1 ⟨rfl, rfl⟩))
                    go_ret
                    exact ⟨by rw [HE.out]; rfl, HBA.out⟩
                  | false =>
                    have HE := Lib.hid (show (l.take (k + 1)).all okG = true by rw [validG_take HQ.out, HPT.out, HF.out]; rfl)
                    go_wp2_with (first | (go_at_call 33; (with_reducible refine Calls.mono (HI0.out _) ?_); rintro r y1 ⟨rfl, rfl⟩) | (go_at_call 33; (with_reducible refine Calls.mono (HI1.out _) ?_); rintro r y1 ⟨rfl, rfl⟩) | (go_at_call 33; (with_reducible refine Calls.mono (HI2.out _) ?_); rintro r y1 ⟨rfl, rfl⟩) | (go_at_call 33; (with_reducible refine Calls.mono (HI3.out _) ?_); rintro r y1 ⟨rfl, rfl⟩))
                    go_roundw
                    case rel => exact ⟨k + 1, by go_num, by omega, HE, HBA⟩
                    case measure => simp [intOf]; omega
    · have k1 : ¬ (k : Int) < (n : Int) := by omega
      have HA := Lib.hid (show l.all okG = true by have := HF.out; rwa [List.take_of_length_le (by have := HN.out; omega)] at this)
      by_cases h12 : n ≤ 12
      · have i0 : (n : Int) ≤ 12 := by omega
        have HE := Lib.hid (show validG l = true by unfold validG; rw [HA.out, decide_eq_true (by have := HN.out; omega)]; rfl)
        clear h12
        go_wp2
        go_ret
        exact ⟨by rw [HE.out]; rfl, HB.out⟩
      · have i0 : ¬ (n : Int) ≤ 12 := by omega
        have HE := Lib.hid (show validG l = false by unfold validG; rw [decide_eq_false (by have := HN.out; omega)]; rfl)
        clear h12
        go_wp2
        go_ret
        exact ⟨by rw [HE.out]; rfl, HB.out⟩
theorem okU_parts (q : Us) : okU q = ((decide (0 ≤ q.item) && decide (q.item ≤ 199)) && (decide (1 ≤ q.acts) && decide (q.acts ≤ 31)) && (decide (0 ≤ q.region) && decide (q.region ≤ 7)) && (decide (0 ≤ q.at_) && decide (q.at_ ≤ 9999999))) := by
  rw [Bool.eq_iff_iff]
  unfold okU
  simp only [Bool.and_eq_true, decide_eq_true_eq]
  omega
set_option maxRecDepth 100000 in
set_option maxHeartbeats 8000000 in
theorem rvaliduses_any (l : List Us) (A : Option Addr) (n c : Nat) (w : World) (hr : Recs encU 4 w w.heap.size (.slice A n c) l) : Calls Try.prog 16 #[.slice A n c] w fun e w' => e = .returned (.bool (validU l)) ∧ Below w.heap.size w w' := by
  obtain ⟨hn, hc1, hc2⟩ := recs_cap hr
  have HR := Lib.hid hr
  have HN := Lib.hid hn
  have hn9 : n ≤ 9223372036854775807 := by omega
  clear hr hn hc1 hc2
  go_enter Try.func16, Try.ntmps16
  go_wp2
  go_loopw [3] (fun j wr => ∃ k : Nat, j = .int .i64 (k : Int) ∧ k ≤ n ∧ Hid ((l.take k).all okU = true) ∧ Hid (Below w.heap.size w wr)) (fun j _ => n - (intOf j).toNat)
  case atStart => exact ⟨0, rfl, Nat.zero_le _, Lib.hid rfl, Lib.hid (Below.refl _ _)⟩
  case round =>
    obtain ⟨k, rfl, hk, HF, HB⟩ := hrel
    by_cases hlt : k < n
    · have hka : k < l.length := by have := HN.out; omega
      obtain ⟨g0, o, rfl, hg, hcell⟩ := recs_at (HR.out.below HB.out) k hka
      obtain ⟨q, hq⟩ : ∃ q, l[k]? = some q := ⟨_, List.getElem?_eq_getElem hka⟩
      have HQ := Lib.hid hq
      have a0 : wr.cell? ⟨g0, o + k * 4, none⟩ = some (.int .i64 q.item) := hcell k q hq 0 _ rfl
      have a1 : wr.cell? ⟨g0, o + k * 4 + 1, none⟩ = some (.int .i64 q.acts) := hcell k q hq 1 _ rfl
      have a2 : wr.cell? ⟨g0, o + k * 4 + 2, none⟩ = some (.int .i64 q.region) := hcell k q hq 2 _ rfl
      have a3 : wr.cell? ⟨g0, o + k * 4 + 3, none⟩ = some (.int .i64 q.at_) := hcell k q hq 3 _ rfl
      have lw := HB.out.size
      have g1 : g0 < wr.heap.size := by omega
      have k0 : (0 : Int) ≤ (k : Int) := by omega
      have k1 : (k : Int) < (n : Int) := by omega
      have e7 : IntKind.i64.wrap ((k : Int) + 1) = (k : Int) + 1 := IntWalk.i64_in _ (by omega)
      have HPT := Lib.hid (okU_parts q)
      have HBA := Lib.hid (HB.out.alloc HB.out.size (.cells #[.int .i64 q.item, .int .i64 q.acts, .int .i64 q.region, .int .i64 q.at_] 46))
      obtain ⟨b0, hb0⟩ : ∃ b, (decide (0 ≤ q.item) && decide (q.item ≤ 199)) = b := ⟨_, rfl⟩
      have HI0 := Lib.hid (fun u => in_any q.item 0 199 u)
      rw [hb0] at HI0 HPT
      clear hb0
      obtain ⟨b1, hb1⟩ : ∃ b, (decide (1 ≤ q.acts) && decide (q.acts ≤ 31)) = b := ⟨_, rfl⟩
      have HI1 := Lib.hid (fun u => in_any q.acts 1 31 u)
      rw [hb1] at HI1 HPT
      clear hb1
      obtain ⟨b2, hb2⟩ : ∃ b, (decide (0 ≤ q.region) && decide (q.region ≤ 7)) = b := ⟨_, rfl⟩
      have HI2 := Lib.hid (fun u => in_any q.region 0 7 u)
      rw [hb2] at HI2 HPT
      clear hb2
      obtain ⟨b3, hb3⟩ : ∃ b, (decide (0 ≤ q.at_) && decide (q.at_ ≤ 9999999)) = b := ⟨_, rfl⟩
      have HI3 := Lib.hid (fun u => in_any q.at_ 0 9999999 u)
      rw [hb3] at HI3 HPT
      clear hb3
      clear hcell hq
      generalize q.item = z0 at *
      generalize q.acts = z1 at *
      generalize q.region = z2 at *
      generalize q.at_ = z3 at *
      cases b0 with
      | false =>
        have HE := Lib.hid (show validU l = false by unfold validU; rw [← List.take_append_drop (k + 1) l, List.all_append, validU_take HQ.out, HPT.out]; simp)
        go_wp2_with (first | (go_at_call 33; (with_reducible refine Calls.mono (HI0.out _) ?_); rintro r y1 ⟨rfl, rfl⟩) | (go_at_call 33; (with_reducible refine Calls.mono (HI1.out _) ?_); rintro r y1 ⟨rfl, rfl⟩) | (go_at_call 33; (with_reducible refine Calls.mono (HI2.out _) ?_); rintro r y1 ⟨rfl, rfl⟩) | (go_at_call 33; (with_reducible refine Calls.mono (HI3.out _) ?_); rintro r y1 ⟨rfl, rfl⟩))
        go_ret
        exact ⟨by rw [HE.out]; rfl, HBA.out⟩
      | true =>
        cases b1 with
        | false =>
          have HE := Lib.hid (show validU l = false by unfold validU; rw [← List.take_append_drop (k + 1) l, List.all_append, validU_take HQ.out, HPT.out]; simp)
          go_wp2_with (first | (go_at_call 33; (with_reducible refine Calls.mono (HI0.out _) ?_); rintro r y1 ⟨rfl, rfl⟩) | (go_at_call 33; (with_reducible refine Calls.mono (HI1.out _) ?_); rintro r y1 ⟨rfl, rfl⟩) | (go_at_call 33; (with_reducible refine Calls.mono (HI2.out _) ?_); rintro r y1 ⟨rfl, rfl⟩) | (go_at_call 33; (with_reducible refine Calls.mono (HI3.out _) ?_); rintro r y1 ⟨rfl, rfl⟩))
          go_ret
          exact ⟨by rw [HE.out]; rfl, HBA.out⟩
        | true =>
          cases b2 with
          | false =>
            have HE := Lib.hid (show validU l = false by unfold validU; rw [← List.take_append_drop (k + 1) l, List.all_append, validU_take HQ.out, HPT.out]; simp)
            go_wp2_with (first | (go_at_call 33; (with_reducible refine Calls.mono (HI0.out _) ?_); rintro r y1 ⟨rfl, rfl⟩) | (go_at_call 33; (with_reducible refine Calls.mono (HI1.out _) ?_); rintro r y1 ⟨rfl, rfl⟩) | (go_at_call 33; (with_reducible refine Calls.mono (HI2.out _) ?_); rintro r y1 ⟨rfl, rfl⟩) | (go_at_call 33; (with_reducible refine Calls.mono (HI3.out _) ?_); rintro r y1 ⟨rfl, rfl⟩))
            go_ret
            exact ⟨by rw [HE.out]; rfl, HBA.out⟩
          | true =>
            cases b3 with
            | false =>
              have HE := Lib.hid (show validU l = false by unfold validU; rw [← List.take_append_drop (k + 1) l, List.all_append, validU_take HQ.out, HPT.out]; simp)
              go_wp2_with (first | (go_at_call 33; (with_reducible refine Calls.mono (HI0.out _) ?_); rintro r y1 ⟨rfl, rfl⟩) | (go_at_call 33; (with_reducible refine Calls.mono (HI1.out _) ?_); rintro r y1 ⟨rfl, rfl⟩) | (go_at_call 33; (with_reducible refine Calls.mono (HI2.out _) ?_); rintro r y1 ⟨rfl, rfl⟩) | (go_at_call 33; (with_reducible refine Calls.mono (HI3.out _) ?_); rintro r y1 ⟨rfl, rfl⟩))
              go_ret
              exact ⟨by rw [HE.out]; rfl, HBA.out⟩
            | true =>
              have HE := Lib.hid (show (l.take (k + 1)).all okU = true by rw [validU_take HQ.out, HPT.out, HF.out]; rfl)
              go_wp2_with (first | (go_at_call 33; (with_reducible refine Calls.mono (HI0.out _) ?_); rintro r y1 ⟨rfl, rfl⟩) | (go_at_call 33; (with_reducible refine Calls.mono (HI1.out _) ?_); rintro r y1 ⟨rfl, rfl⟩) | (go_at_call 33; (with_reducible refine Calls.mono (HI2.out _) ?_); rintro r y1 ⟨rfl, rfl⟩) | (go_at_call 33; (with_reducible refine Calls.mono (HI3.out _) ?_); rintro r y1 ⟨rfl, rfl⟩))
              go_roundw
              case rel => exact ⟨k + 1, by go_num, by omega, HE, HBA⟩
              case measure => simp [intOf]; omega
    · have k1 : ¬ (k : Int) < (n : Int) := by omega
      have HA := Lib.hid (show l.all okU = true by have := HF.out; rwa [List.take_of_length_le (by have := HN.out; omega)] at this)
      by_cases h12 : n ≤ 10
      · have i0 : (n : Int) ≤ 10 := by omega
        have HE := Lib.hid (show validU l = true by unfold validU; rw [HA.out, decide_eq_true (by have := HN.out; omega)]; rfl)
        clear h12
        go_wp2
        go_ret
        exact ⟨by rw [HE.out]; rfl, HB.out⟩
      · have i0 : ¬ (n : Int) ≤ 10 := by omega
        have HE := Lib.hid (show validU l = false by unfold validU; rw [decide_eq_false (by have := HN.out; omega)]; rfl)
        clear h12
        go_wp2
        go_ret
        exact ⟨by rw [HE.out]; rfl, HB.out⟩
end Go.Proofs.Ytenojfniknjeiaa
