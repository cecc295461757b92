/- EqualLater. -/
import Derived.Test.YtinhjobjlpkflaaFf
import Derived.Deep.CutBlock
namespace Go.Proofs.Ytinhjobjlpkflaa
open Go.RowKit Go.Shelf

/-- The second that EqualLater takes. -/
def nowA (L : List Ap) (k : Nat) (p : Int) : Int := if k = 0 then p else (L.getD (k - 1) ⟨0, 0, 0, 0⟩).at_
def nowZ (L : List Ap) (k : Nat) (a : Int) : Int := if k < L.length ∧ (L.getD k ⟨0, 0, 0, 0⟩).at_ ≤ a then (L.getD k ⟨0, 0, 0, 0⟩).at_ - 1 else a
theorem now_is {L : List Ap} {n : Int} (h : apsK n L L.length = true) (h1 : ∀ x ∈ L, 1 ≤ x.at_ ∧ x.at_ ≤ 1728000) {k : Nat} (hk : k ≤ L.length) {p : Int} (hp : 0 ≤ p ∧ p < 86400) :
    0 ≤ nowA L k p ∧ nowA L k p ≤ 1728000 ∧ 0 ≤ nowZ L k (nowA L k p) ∧ nowZ L k (nowA L k p) ≤ 1728000 ∧ (∀ i x, i < k → L[i]? = some x → x.at_ ≤ nowZ L k (nowA L k p)) ∧ (∀ i x, k ≤ i → L[i]? = some x → nowZ L k (nowA L k p) < x.at_) := by
  have hA : 0 ≤ nowA L k p ∧ nowA L k p ≤ 1728000 := by
    unfold nowA
    split
    · omega
    · have hq : L[k - 1]? = some L[k - 1] := List.getElem?_eq_getElem (by omega)
      rw [ap_getD hq]
      have := h1 _ (List.getElem_mem (show k - 1 < L.length by omega))
      omega
  refine ⟨hA.1, hA.2, ?_⟩
  obtain ⟨a, ha⟩ : ∃ a, nowA L k p = a := ⟨_, rfl⟩
  rw [ha] at hA ⊢
  have hZ : 0 ≤ nowZ L k a ∧ nowZ L k a ≤ 1728000 := by
    unfold nowZ
    split
    · rename_i c
      have hq : L[k]? = some L[k] := List.getElem?_eq_getElem c.1
      have := c.2
      rw [ap_getD hq] at *
      have := h1 _ (List.getElem_mem c.1)
      omega
    · omega
  refine ⟨hZ.1, hZ.2, fun i x hi hx => ?_, fun i x hi hx => ?_⟩
  · have hk0 : ¬ k = 0 := by omega
    have hq : L[k - 1]? = some L[k - 1] := List.getElem?_eq_getElem (by omega)
    have hka : a = L[k - 1].at_ := by rw [← ha]; unfold nowA; rw [if_neg hk0, ap_getD hq]
    have hle : x.at_ ≤ L[k - 1].at_ := by
      by_cases e : i = k - 1
      · subst e
        rw [hx] at hq
        rw [← Option.some.inj hq]
        exact Int.le_refl _
      · exact Int.le_of_lt (aps_lt h (show i < k - 1 by omega) hx hq)
    unfold nowZ
    split
    · rename_i c
      have hq2 : L[k]? = some L[k] := List.getElem?_eq_getElem c.1
      have c2 := c.2
      rw [ap_getD hq2] at c2 ⊢
      have := aps_lt h (show k - 1 < k by omega) hq hq2
      omega
    · omega
  · have hil := (List.getElem?_eq_some_iff.1 hx).1
    have hq2 : L[k]? = some L[k] := List.getElem?_eq_getElem (by omega)
    have hle : L[k].at_ ≤ x.at_ := by
      by_cases e : k = i
      · subst e
        rw [hx] at hq2
        rw [← Option.some.inj hq2]
        exact Int.le_refl _
      · exact Int.le_of_lt (aps_lt h (show k < i by omega) hq2 hx)
    unfold nowZ
    rw [ap_getD hq2]
    split
    · omega
    · rename_i c
      have := fun e => c ⟨by omega, e⟩
      omega
set_option maxRecDepth 100000 in
set_option maxHeartbeats 16000000 in
theorem later_true (x0 : Int) (v1 : Value) (xs : List I4) (x2 x3 : Int) (w : World) (h0 : -9223372036854775808 ≤ x0 ∧ x0 ≤ 9223372036854775807) (hr1 : Recs enc4 4 w w.heap.size v1 xs) (hx : ∀ x ∈ xs, OkI4 x) (h2 : -9223372036854775808 ≤ x2 ∧ x2 ≤ 9223372036854775807) (h3 : -9223372036854775808 ≤ x3 ∧ x3 ≤ 9223372036854775807) :
    Calls Try.prog 8 #[.int .i64 x0, v1, .int .i64 x2, .int .i64 x3] w fun e w' => e = .returned (.bool true) ∧ Below w.heap.size w w' := by
  obtain ⟨A1, c1, rfl, -⟩ := recs_form hr1
  obtain ⟨L, hL⟩ : ∃ L, madeA x0 xs = L := ⟨_, rfl⟩
  have HM := Lib.hid (fun u (h : Below w.heap.size w u) => made_at2 x0 h0 xs hx hL A1 _ c1 u (hr1.next h))
  have hva := made_valid x0 xs
  have hml := made_len x0 xs
  have hat : ∀ x ∈ L, 1 ≤ x.at_ ∧ x.at_ ≤ 1728000 := fun x hx => by
    rw [← hL] at hx
    have := made_at x0 xs hx
    omega
  obtain ⟨m, hm, m2, m5⟩ := count_nat x0
  rw [hL] at hml
  rw [hL, hm] at hva
  have HCT := Lib.hid (fun u => count_any x0 h0.1 h0.2 u)
  rw [hm] at HCT
  have hll : L.length ≤ 20 := hml.1
  have P1 := Lib.hid (fun u => pick_any x2 ((L.length : Int) + 1) (by omega) (by omega) h2.1 h2.2 u)
  have P2 := Lib.hid (fun u => pick_any x3 86400 (by decide) (by decide) h3.1 h3.2 u)
  have P3 := Lib.hid (fun u => pick_any x3 1209600 (by decide) (by decide) h3.1 h3.2 u)
  have P4 := Lib.hid (fun u => pick_any x3 1000 (by decide) (by decide) h3.1 h3.2 u)
  have b1 := pickI_lt x2 ((L.length : Int) + 1) (by omega)
  have b2 := pickI_lt x3 86400 (by decide)
  have b3 := pickI_lt x3 1209600 (by decide)
  have b4 := pickI_lt x3 1000 (by decide)
  obtain ⟨k, hk⟩ : ∃ k : Nat, pickI x2 ((L.length : Int) + 1) = (k : Int) := ⟨(pickI x2 ((L.length : Int) + 1)).toNat, by omega⟩
  rw [hk] at P1 b1
  generalize pickI x3 86400 = p at *
  generalize pickI x3 1209600 = p2 at *
  generalize pickI x3 1000 = p3 at *
  have hkl : k ≤ L.length := by omega
  have haps := (validA_parts hva).2.2.2
  obtain ⟨n1, n2, n3, n4, n5, n6⟩ := now_is haps hat hkl b2
  obtain ⟨NA, hNA⟩ : ∃ a, nowA L k p = a := ⟨_, rfl⟩
  rw [hNA] at n1 n2 n3 n4 n5 n6
  obtain ⟨NOW, hNZ⟩ : ∃ a, nowZ L k NA = a := ⟨_, rfl⟩
  rw [hNZ] at n3 n4 n5 n6
  have HNA := Lib.hid hNA; have HNZ := Lib.hid hNZ
  have hlat := later_is m2 (by omega) haps hkl n5 n6 (p := p2) (q := p3) b3.1 b4.1
  have HVA := Lib.hid hva
  have HVS := Lib.hid (valid_take hva k)
  obtain ⟨S, hS⟩ : ∃ S, L.take k = S := ⟨_, rfl⟩
  rw [hS] at hlat HVS
  have HSE := Lib.hid hS
  obtain ⟨T1, hT1⟩ : ∃ T1, NOW + p2 = T1 := ⟨_, rfl⟩
  rw [hT1] at hlat
  obtain ⟨T2, hT2⟩ : ∃ T2, T1 + p3 = T2 := ⟨_, rfl⟩
  rw [hT2] at hlat
  have HNB := Lib.hid (show nowB NOW = true by unfold nowB; simp; omega)
  have HNB1 := Lib.hid (show nowB T1 = true by unfold nowB; simp; omega)
  have HNB2 := Lib.hid (show nowB T2 = true by unfold nowB; simp; omega)
  obtain ⟨C, hC⟩ : ∃ C, clV m S NOW = C := ⟨_, rfl⟩
  obtain ⟨O, hO⟩ : ∃ O, owV m S NOW = O := ⟨_, rfl⟩
  obtain ⟨Z, hZ⟩ : ∃ Z, clV m S T1 = Z := ⟨_, rfl⟩
  have hX0 : ∃ X, (clV m S T1).filter (late T1) = X := ⟨_, rfl⟩
  obtain ⟨X, hX⟩ := hX0
  obtain ⟨Y, hY⟩ : ∃ Y, (clV m S T2).filter (late T2) = Y := ⟨_, rfl⟩
  rw [hC, hO, hX, hY, hZ] at hlat
  obtain ⟨q1, q2, q3, q4, q5, q6⟩ := hlat
  have HC0 := Lib.hid q1; have HO0 := Lib.hid q2; have HC1 := Lib.hid hC; have HO1 := Lib.hid hO; have HX0 := Lib.hid hX; have HY0 := Lib.hid hY; have HZ0 := Lib.hid hZ
  have HLE1 := Lib.hid q3; have HLE2 := Lib.hid q4; have HTK1 := Lib.hid q5; have HTK2 := Lib.hid q6
  have g1 : ¬ (Y.length : Int) < (X.length : Int) := by omega
  have g2 : ¬ Y.length < X.length := by omega
  have g3 : ¬ (Z.length : Int) < (Y.length : Int) := by omega
  have g4 : ¬ Z.length < Y.length := by omega
  have e1 : IntKind.i64.wrap ((L.length : Int) + 1) = (L.length : Int) + 1 := IntWalk.i64_in _ (by omega)
  have e2 : IntKind.i64.wrap (NOW + p2) = T1 := by rw [hT1]; exact IntWalk.i64_in _ (by omega)
  have e3 : IntKind.i64.wrap (T1 + p3) = T2 := by rw [hT2]; exact IntWalk.i64_in _ (by omega)
  have l9 : L.length ≤ 9223372036854775807 := by omega
  have k0 : (0 : Int) ≤ (k : Int) := by omega
  have HKL := Lib.hid hkl
  have HAT := Lib.hid hat
  have HN12 := Lib.hid (show 0 ≤ NA ∧ NA ≤ 1728000 from ⟨n1, n2⟩)
  clear hr1 hx h0 h2 h3 hL hva hm hml hk hNA hNZ hS hT1 hT2 hC hO hZ hX hY q1 q2 q3 q4 q5 q6 b1 b2 b3 b4 n1 n2 n3 n4 n5 n6 haps hat hkl
  go_enter Try.func8, Try.ntmps8
  go_upto_if 43 with (first | (go_at_call 10; (with_reducible refine Calls.mono (sane_any _) ?_); rintro r u1 ⟨rfl, hb⟩; have B1 := Lib.hid hb; clear hb) | (go_at_call 11; (with_reducible refine Calls.mono (HM.out _ B1.out) ?_); rintro r u2 ⟨A2, c2, rfl, ho, hr2, hb⟩; have B2 := Lib.hid (below_to B1.out hb); have HL := Lib.hid hr2; clear hr2 ho; clear hb) | (go_at_call 12; (first | (with_reducible refine Calls.mono (HCT.out _) ?_)); rintro r y1 ⟨rfl, rfl⟩) | (go_at_call 13; (first | (with_reducible refine Calls.mono (P1.out _) ?_) | (with_reducible refine Calls.mono (P2.out _) ?_) | (with_reducible refine Calls.mono (P3.out _) ?_) | (with_reducible refine Calls.mono (P4.out _) ?_)); rintro r y1 ⟨rfl, rfl⟩))
  have hcap := recs_cap HL.out
  have HCP := Lib.hid hcap
  clear hcap
  go_cut [13] from 42 to 49 (fun z wx => z = .int .i64 NA ∧ u2 = wx)
  case first =>
    by_cases hk0 : k = 0
    · have z1 : ¬ (0 : Int) < (k : Int) := by omega
      have HE := Lib.hid (show p = NA by rw [← HNA.out]; unfold nowA; rw [if_pos hk0])
      clear hk0
      go_wp2_with fail
      go_meet
      exact ⟨by rw [HE.out], rfl⟩
    · have z1 : (0 : Int) < (k : Int) := by omega
      obtain ⟨j, hj⟩ : ∃ j, k - 1 = j := ⟨_, rfl⟩
      have hjl : j < L.length := by have := HKL.out; omega
      obtain ⟨b, o, rfl, hg, hcell⟩ := recs_at HL.out j hjl
      obtain ⟨q, hq⟩ : ∃ q, L[j]? = some q := ⟨_, List.getElem?_eq_getElem hjl⟩
      have a1 : u2.cell? ⟨b, o + j * 4 + 1, none⟩ = some (.int .i64 q.at_) := hcell j q hq 1 _ rfl
      have j0 : (0 : Int) ≤ (j : Int) := by omega
      have j1 : (j : Int) < (L.length : Int) := by omega
      have e9 : IntKind.i64.wrap ((k : Int) - 1) = (j : Int) := by rw [show (k : Int) - 1 = (j : Int) by omega]; exact IntWalk.i64_in _ (by omega)
      have HE := Lib.hid (show q.at_ = NA by rw [← HNA.out]; unfold nowA; rw [if_neg hk0, hj, ap_getD hq])
      clear hk0 hcell hq hj
      go_wp2_with fail
      go_meet
      exact ⟨by rw [HE.out], rfl⟩
  case rest =>
    obtain ⟨rfl, rfl⟩ := hcut
    have sl0 := fun w => slice_head w 22 49 Try.underlying22 infoApp A2 L.length c2 k (by have := HCP.out.2.1; have := HKL.out; omega)
    obtain ⟨bt, hbt⟩ : ∃ b : Bool, decide (k < L.length ∧ (L.getD k ⟨0, 0, 0, 0⟩).at_ ≤ NA) = b := ⟨_, rfl⟩
    have HBT := Lib.hid hbt
    clear hbt
    go_upto_region 11 with fail
    go_cut [65] from 53 to 64 (fun z wx => z = .bool bt ∧ u2 = wx)
    case first =>
      by_cases hkl : k < L.length
      · have z1 : (k : Int) < (L.length : Int) := by omega
        obtain ⟨b, o, rfl, hg, hcell⟩ := recs_at HL.out k hkl
        obtain ⟨q, hq⟩ : ∃ q, L[k]? = some q := ⟨_, List.getElem?_eq_getElem hkl⟩
        have a1 : u2.cell? ⟨b, o + k * 4 + 1, none⟩ = some (.int .i64 q.at_) := hcell k q hq 1 _ rfl
        have HE := Lib.hid (show bt = decide (q.at_ ≤ NA) by rw [← HBT.out, ap_getD hq, decide_eq_decide]; exact ⟨fun h => h.2, fun h => ⟨hkl, h⟩⟩)
        clear hcell hq
        go_wp2_with fail
        go_meet
        exact ⟨by rw [HE.out], rfl⟩
      · have z1 : ¬ (k : Int) < (L.length : Int) := by omega
        have HE := Lib.hid (show bt = false by rw [← HBT.out, decide_eq_false_iff_not]; exact fun h => hkl h.1)
        go_wp2_with fail
        go_meet
        exact ⟨by rw [HE.out], rfl⟩
    case rest =>
    obtain ⟨rfl, rfl⟩ := hcut
    go_upto_if 65 with fail
    go_cut [13] from 66 to 71 (fun z wx => z = .int .i64 NOW ∧ u2 = wx)
    case first =>
      cases bt with
      | true =>
        have hb := of_decide_eq_true HBT.out
        have hkl := hb.1
        have z1 : (k : Int) < (L.length : Int) := by omega
        obtain ⟨b, o, rfl, hg, hcell⟩ := recs_at HL.out k hkl
        obtain ⟨q, hq⟩ : ∃ q, L[k]? = some q := ⟨_, List.getElem?_eq_getElem hkl⟩
        have a1 : u2.cell? ⟨b, o + k * 4 + 1, none⟩ = some (.int .i64 q.at_) := hcell k q hq 1 _ rfl
        have hqb := HAT.out q (List.mem_of_getElem? hq)
        have e9 : IntKind.i64.wrap (q.at_ - 1) = q.at_ - 1 := IntWalk.i64_in _ (by omega)
        have HE := Lib.hid (show q.at_ - 1 = NOW by rw [← HNZ.out]; unfold nowZ; rw [if_pos hb, ap_getD hq])
        clear hcell hq hb
        go_wp2_with fail
        go_meet
        exact ⟨by rw [HE.out], rfl⟩
      | false =>
        have HE := Lib.hid (show NA = NOW by rw [← HNZ.out]; unfold nowZ; rw [if_neg (of_decide_eq_false HBT.out)])
        go_wp2_with fail
        go_meet
        exact ⟨by rw [HE.out], rfl⟩
    case rest =>
      obtain ⟨rfl, rfl⟩ := hcut
      have HS := Lib.hid (recs_pre HL.out k HKL.out)
      rw [HSE.out] at HS
      go_wp2_with (first | (go_at_call 16; (with_reducible refine Calls.mono (claims_at m NOW L _ _ _ _ HL.out HVA.out HNB.out HC0.out) ?_); rintro r u3 ⟨A3, c3, rfl, h3, hb⟩; have B3 := Lib.hid (below_to B2.out hb); have HL := Lib.hid (HL.out.next hb); have HS := Lib.hid (HS.out.next hb); have HQ1 := Lib.hid h3; clear h3; clear hb) | (go_at_call 16; (with_reducible refine Calls.mono (claims_at m NOW S _ _ _ _ HS.out HVS.out HNB.out HC1.out) ?_); rintro r u4 ⟨A4, c4, rfl, h4, hb⟩; have B4 := Lib.hid (below_to B3.out hb); have HL := Lib.hid (HL.out.next hb); have HS := Lib.hid (HS.out.next hb); have HQ1 := Lib.hid (HQ1.out.next hb); have HQ2 := Lib.hid h4; clear h4; clear hb) | (go_at_call 21; (with_reducible refine Calls.mono (owed_at m NOW L _ _ _ _ HL.out HVA.out HNB.out HO0.out) ?_); rintro r u5 ⟨A5, c5, rfl, h5, hb⟩; have B5 := Lib.hid (below_to B4.out hb); have HL := Lib.hid (HL.out.next hb); have HS := Lib.hid (HS.out.next hb); have HQ1 := Lib.hid (HQ1.out.next hb); have HQ2 := Lib.hid (HQ2.out.next hb); have HP1 := Lib.hid h5; clear h5; clear hb) | (go_at_call 21; (with_reducible refine Calls.mono (owed_at m NOW S _ _ _ _ HS.out HVS.out HNB.out HO1.out) ?_); rintro r u6 ⟨A6, c6, rfl, h6, hb⟩; have B6 := Lib.hid (below_to B5.out hb); have HL := Lib.hid (HL.out.next hb); have HS := Lib.hid (HS.out.next hb); have HQ1 := Lib.hid (HQ1.out.next hb); have HQ2 := Lib.hid (HQ2.out.next hb); have HP1 := Lib.hid (HP1.out.next hb); have HP2 := Lib.hid h6; clear h6; clear hb) | (go_at_call 20; (with_reducible refine Calls.mono (rsame_eq C _ _ _ _ _ _ _ HQ1.out HQ2.out) ?_); rintro r u7 ⟨rfl, hb⟩; have B7 := Lib.hid (below_to B6.out hb); have HL := Lib.hid (HL.out.next hb); have HS := Lib.hid (HS.out.next hb); have HQ1 := Lib.hid (HQ1.out.next hb); have HQ2 := Lib.hid (HQ2.out.next hb); have HP1 := Lib.hid (HP1.out.next hb); have HP2 := Lib.hid (HP2.out.next hb); clear hb) | (go_at_call 27; (with_reducible refine Calls.mono (rints_eq O _ _ _ _ _ _ _ HP1.out HP2.out) ?_); rintro r u8 ⟨rfl, hb⟩; have B8 := Lib.hid (below_to B7.out hb); have HL := Lib.hid (HL.out.next hb); have HS := Lib.hid (HS.out.next hb); have HQ1 := Lib.hid (HQ1.out.next hb); have HQ2 := Lib.hid (HQ2.out.next hb); have HP1 := Lib.hid (HP1.out.next hb); have HP2 := Lib.hid (HP2.out.next hb); clear hb) | (go_at_call 13; (first | (with_reducible refine Calls.mono (P1.out _) ?_) | (with_reducible refine Calls.mono (P2.out _) ?_) | (with_reducible refine Calls.mono (P3.out _) ?_) | (with_reducible refine Calls.mono (P4.out _) ?_)); rintro r y1 ⟨rfl, rfl⟩) | (go_at_call 18; (with_reducible refine Calls.mono (over_at m T1 S _ _ _ _ HS.out HVS.out HNB1.out HX0.out) ?_); rintro r u9 ⟨A9, c9, rfl, h9, hb⟩; have B9 := Lib.hid (below_to B8.out hb); have HL := Lib.hid (HL.out.next hb); have HS := Lib.hid (HS.out.next hb); have HQ1 := Lib.hid (HQ1.out.next hb); have HQ2 := Lib.hid (HQ2.out.next hb); have HP1 := Lib.hid (HP1.out.next hb); have HP2 := Lib.hid (HP2.out.next hb); have HX := Lib.hid h9; clear h9; clear hb) | (go_at_call 18; (with_reducible refine Calls.mono (over_at m T2 S _ _ _ _ HS.out HVS.out HNB2.out HY0.out) ?_); rintro r u10 ⟨A10, c10, rfl, h10, hb⟩; have B10 := Lib.hid (below_to B9.out hb); have HL := Lib.hid (HL.out.next hb); have HS := Lib.hid (HS.out.next hb); have HQ1 := Lib.hid (HQ1.out.next hb); have HQ2 := Lib.hid (HQ2.out.next hb); have HP1 := Lib.hid (HP1.out.next hb); have HP2 := Lib.hid (HP2.out.next hb); have HX := Lib.hid (HX.out.next hb); have HY := Lib.hid h10; clear h10; have sl1 := fun w => slice_head w 31 39 Try.underlying31 infoClaim A10 Y.length c10 X.length (by have := (recs_cap HY.out).2.1; have := HLE1.out; omega); have HYX := Lib.hid (recs_pre HY.out X.length HLE1.out); rw [HTK1.out] at HYX; clear hb) | (go_at_call 16; (with_reducible refine Calls.mono (claims_at m T1 S _ _ _ _ HS.out HVS.out HNB1.out HZ0.out) ?_); rintro r u11 ⟨A11, c11, rfl, h11, hb⟩; have B11 := Lib.hid (below_to B10.out hb); have HL := Lib.hid (HL.out.next hb); have HS := Lib.hid (HS.out.next hb); have HQ1 := Lib.hid (HQ1.out.next hb); have HQ2 := Lib.hid (HQ2.out.next hb); have HP1 := Lib.hid (HP1.out.next hb); have HP2 := Lib.hid (HP2.out.next hb); have HX := Lib.hid (HX.out.next hb); have HY := Lib.hid (HY.out.next hb); have HYX := Lib.hid (HYX.out.next hb); have HZ := Lib.hid h11; clear h11; have sl2 := fun w => slice_head w 31 39 Try.underlying31 infoClaim A11 Z.length c11 Y.length (by have := (recs_cap HZ.out).2.1; have := HLE2.out; omega); have HZY := Lib.hid (recs_pre HZ.out Y.length HLE2.out); rw [HTK2.out] at HZY; clear hb) | (go_at_call 20; (with_reducible refine Calls.mono (rsame_eq X _ _ _ _ _ _ _ HX.out HYX.out) ?_); rintro r u12 ⟨rfl, hb⟩; have B12 := Lib.hid (below_to B11.out hb); have HL := Lib.hid (HL.out.next hb); have HS := Lib.hid (HS.out.next hb); have HQ1 := Lib.hid (HQ1.out.next hb); have HQ2 := Lib.hid (HQ2.out.next hb); have HP1 := Lib.hid (HP1.out.next hb); have HP2 := Lib.hid (HP2.out.next hb); have HX := Lib.hid (HX.out.next hb); have HY := Lib.hid (HY.out.next hb); have HYX := Lib.hid (HYX.out.next hb); have HZ := Lib.hid (HZ.out.next hb); have HZY := Lib.hid (HZY.out.next hb); clear hb) | (go_at_call 20; (with_reducible refine Calls.mono (rsame_eq Y _ _ _ _ _ _ _ HY.out HZY.out) ?_); rintro r u13 ⟨rfl, hb⟩; have B13 := Lib.hid (below_to B12.out hb); have HL := Lib.hid (HL.out.next hb); have HS := Lib.hid (HS.out.next hb); have HQ1 := Lib.hid (HQ1.out.next hb); have HQ2 := Lib.hid (HQ2.out.next hb); have HP1 := Lib.hid (HP1.out.next hb); have HP2 := Lib.hid (HP2.out.next hb); have HX := Lib.hid (HX.out.next hb); have HY := Lib.hid (HY.out.next hb); have HYX := Lib.hid (HYX.out.next hb); have HZ := Lib.hid (HZ.out.next hb); have HZY := Lib.hid (HZY.out.next hb); clear hb))
      go_ret
      exact ⟨rfl, B13.out⟩
end Go.Proofs.Ytinhjobjlpkflaa
