/- EqualLevels. -/
import Derived.Test.YtinhjobjlpkflaaFd
import Derived.BigQuiet
namespace Go.Proofs.Ytinhjobjlpkflaa
open Go.RowKit Go.Shelf

theorem great_bd {n : Nat} {l : List Ap} {now : Int} (hn : 2 ≤ n) (hn8 : n ≤ 8) (h : apsK (n : Int) l l.length = true) (hl : l.length ≤ 60) : 0 ≤ greatL (totV n l now) ∧ greatL (totV n l now) ≤ 100000000 := by
  obtain ⟨h1, h2⟩ := levels (now := now) hn hn8 h
  obtain ⟨M, hM, hb⟩ := (acc_ok (now := now) hn hn8 h l.length (Nat.le_refl _)).lev
  obtain ⟨t, ht⟩ : ∃ t, (totV n l now)[0]? = some t := ⟨_, List.getElem?_eq_getElem (by omega)⟩
  obtain ⟨a1, a2, a3⟩ := h2 0 t _ ht (owV_get (by omega))
  have a4 := hM.sum 0 (by omega)
  have a5 : t = (accK n l now l.length).had.getD 0 0 := by
    unfold totV accV at ht
    rw [List.getElem?_take_of_lt (by omega)] at ht
    rw [List.getD_eq_getElem?_getD, ht]
    rfl
  have a6 : owedL ((accV n l now).op.getD 0 []) = owedL ((accK n l now l.length).op.getD 0 []) := rfl
  omega
set_option maxRecDepth 100000 in
set_option maxHeartbeats 16000000 in
theorem levels_true (x0 : Int) (v1 : Value) (xs : List I4) (x2 : Int) (w : World) (h0 : -9223372036854775808 ≤ x0 ∧ x0 ≤ 9223372036854775807) (hr1 : Recs enc4 4 w w.heap.size v1 xs) (hx : ∀ x ∈ xs, OkI4 x) (h2 : -9223372036854775808 ≤ x2 ∧ x2 ≤ 9223372036854775807) :
    Calls Try.prog 4 #[.int .i64 x0, v1, .int .i64 x2] w fun e w' => e = .returned (.bool true) ∧ Below w.heap.size w w' := by
  obtain ⟨A1, c1, rfl, -⟩ := recs_form hr1
  obtain ⟨L, hL⟩ : ∃ L, madeA x0 xs = L := ⟨_, rfl⟩
  have HM := Lib.hid (fun u (h : Below w.heap.size w u) => made_at2 x0 h0 xs hx hL A1 _ c1 u (hr1.next h))
  have hva := made_valid x0 xs
  obtain ⟨m, hm, m2, m5⟩ := count_nat x0
  rw [hL, hm] at hva
  have HCT := Lib.hid (fun u => count_any x0 h0.1 h0.2 u)
  rw [hm] at HCT
  have P1 := Lib.hid (fun u => pick_any x2 3000000 (by decide) (by decide) h2.1 h2.2 u)
  have b1 := pickI_lt x2 3000000 (by decide)
  obtain ⟨s, hs⟩ : ∃ s, pickI x2 3000000 = s := ⟨_, rfl⟩
  rw [hs] at P1 b1
  have HVA := Lib.hid hva
  have HNB := Lib.hid (show nowB s = true by unfold nowB; simp; omega)
  have hlev := levels (now := s) m2 (by omega) (validA_parts hva).2.2.2
  obtain ⟨T, hT⟩ : ∃ T, totV m L s = T := ⟨_, rfl⟩
  obtain ⟨O, hO⟩ : ∃ O, owV m L s = O := ⟨_, rfl⟩
  have hol : O.length = m := by rw [← hO]; exact owV_len m L s
  rw [hT, hO] at hlev
  have HT0 := Lib.hid hT; have HO0 := Lib.hid hO; have HTL := Lib.hid hlev.1; have HOL := Lib.hid hol
  have HLV := Lib.hid hlev.2
  have HGR := Lib.hid (fun A n c u (h : Recs enc1 1 u u.heap.size (.slice A n c) T) => greatest_any T A n c u h)
  have hgb := great_bd (now := s) m2 (by omega) (validA_parts hva).2.2.2 (validA_parts hva).2.2.1
  rw [hT] at hgb
  obtain ⟨G, hG⟩ : ∃ G, greatL T = G := ⟨_, rfl⟩
  rw [hG] at HLV HGR hgb
  have HGB2 := Lib.hid hgb
  have m0 : (m == m) = true := by simp
  have m9 : m ≤ 9223372036854775807 := by omega
  clear hr1 hx h0 h2 hL hva hm hs hT hO hol hlev hG b1 hgb
  go_enter Try.func4, Try.ntmps4
  go_wp2_with (first | (go_at_call 10; (with_reducible refine Calls.mono (sane_any _) ?_); rintro r u1 ⟨rfl, hb⟩; have B1 := Lib.hid hb; clear hb) | (go_at_call 11; (with_reducible refine Calls.mono (HM.out _ B1.out) ?_); rintro r u2 ⟨A2, c2, rfl, ho, hr2, hb⟩; have B2 := Lib.hid (below_to B1.out hb); have HL := Lib.hid hr2; clear hb hr2 ho) | (go_at_call 12; (with_reducible refine Calls.mono (HCT.out _) ?_); rintro r y1 ⟨rfl, rfl⟩) | (go_at_call 13; (with_reducible refine Calls.mono (P1.out _) ?_); rintro r y1 ⟨rfl, rfl⟩) | (go_at_call 23; (with_reducible refine Calls.mono (tot_at m s L _ _ _ _ HL.out HVA.out HNB.out HT0.out HTL.out) ?_); rintro r u3 ⟨A3, c3, rfl, h3, hb⟩; have B3 := Lib.hid (below_to B2.out hb); have HL := Lib.hid (HL.out.next hb); have HT := Lib.hid h3; clear hb h3) | (go_at_call 21; (with_reducible refine Calls.mono (owed_at m s L _ _ _ _ HL.out HVA.out HNB.out HO0.out) ?_); rintro r u4 ⟨A4, c4, rfl, h4, hb⟩; have B4 := Lib.hid (below_to B3.out hb); have HT := Lib.hid (HT.out.next hb); have HO := Lib.hid h4; clear hb h4))
  go_loopw [13] (fun z wr => ∃ k : Nat, z = .int .i64 (k : Int) ∧ k ≤ m ∧ Hid (Below u4.heap.size u4 wr)) (fun z _ => m - (intOf z).toNat)
  case atStart => exact ⟨0, rfl, Nat.zero_le _, Lib.hid (Below.refl _ _)⟩
  case round =>
    obtain ⟨k, rfl, hk, HB⟩ := hrel
    have k0 : (0 : Int) ≤ (k : Int) := by omega
    by_cases hlt : k < m
    · have k1 : (k : Int) < (m : Int) := by omega
      have HTr := Lib.hid (HT.out.next HB.out)
      have HGQ := Lib.hid (fun n => HGR.out _ _ _ _ (HTr.out.drewN n))
      obtain ⟨g, o, rfl, hg, hcell⟩ := recs_at HTr.out k (by rw [HTL.out]; exact hlt)
      obtain ⟨g2, o2, rfl, hg2, hcell2⟩ := recs_at (HO.out.next HB.out) k (by rw [HOL.out]; exact hlt)
      obtain ⟨t, ht⟩ : ∃ t, T[k]? = some t := ⟨_, List.getElem?_eq_getElem (by rw [HTL.out]; exact hlt)⟩
      obtain ⟨q, hq⟩ : ∃ q, O[k]? = some q := ⟨_, List.getElem?_eq_getElem (by rw [HOL.out]; exact hlt)⟩
      have a0 : wr.cell? ⟨g, o + k, none⟩ = some (.int .i64 t) := by have := hcell k t ht 0 _ rfl; rwa [Nat.mul_one, Nat.add_zero] at this
      have a1 : wr.cell? ⟨g2, o2 + k, none⟩ = some (.int .i64 q) := by have := hcell2 k q hq 0 _ rfl; rwa [Nat.mul_one, Nat.add_zero] at this
      obtain ⟨f1, f2, f3⟩ := HLV.out k t q ht hq
      have d1 : decide (t < 0) = false := by rw [decide_eq_false_iff_not]; omega
      have d2 : decide (q < 0) = false := by rw [decide_eq_false_iff_not]; omega
      have d3 : IntKind.i64.wrap (t + q) = G := by rw [f3]; exact IntWalk.i64_in _ (by have := HGB2.out; omega)
      have d4 : (G != G) = false := by simp
      have e7 : IntKind.i64.wrap ((k : Int) + 1) = (k : Int) + 1 := IntWalk.i64_in _ (by omega)
      clear hcell hcell2 ht hq f1 f2 f3
      go_upto_region 12 with fail
      go_quiet (first | (go_at_call 28; (with_reducible refine quiet_same (HGQ.out _))))
      go_wp2
      go_roundw
      case rel => exact ⟨k + 1, by go_num, by omega, Lib.hid (belowN HB.out _)⟩
      case measure => simp [intOf]; omega
    · have k1 : ¬ (k : Int) < (m : Int) := by omega
      go_wp2
      go_ret
      exact ⟨rfl, below_to B4.out HB.out⟩
end Go.Proofs.Ytinhjobjlpkflaa
