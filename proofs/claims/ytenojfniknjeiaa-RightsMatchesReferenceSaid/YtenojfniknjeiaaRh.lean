/- The reference: first, Lack. -/
import Derived.Test.YtenojfniknjeiaaRg
namespace Go.Proofs.Ytenojfniknjeiaa
open Go.RowKit Go.Shelf
attribute [local go_sem ↓] append_appN

noncomputable def fstB (a b : Nat) : Bool := @decide (Fst a b) (Classical.propDecidable _)
theorem fstB_iff {a b : Nat} : fstB a b = true ↔ Fst a b := by
  unfold fstB
  exact @decide_eq_true_iff _ (Classical.propDecidable _)
set_option maxRecDepth 100000 in
set_option maxHeartbeats 8000000 in
theorem first_any (a b : Nat) (ha : a < 4096) (hb : b < 4096) (w : World) : Calls Try.prog 44 #[.int .i64 (a : Int), .int .i64 (b : Int)] w fun e w' => e = .returned (.bool (fstB a b)) ∧ w = w' := by
  have HA := Lib.hid (fun k (hk : k < 10) y => bit_any a k (by omega) ha y)
  have HB := Lib.hid (fun k (hk : k < 10) y => bit_any b k (by omega) hb y)
  obtain ⟨rv, hrv⟩ : ∃ rv, fstB a b = rv := ⟨_, rfl⟩
  have HRV := Lib.hid hrv
  rw [hrv]
  clear hrv ha hb
  go_enter Try.func44, Try.ntmps44
  go_wp2
  go_loopw [5] (fun z wr => ∃ k : Nat, z = .int .i64 (k : Int) ∧ k ≤ 10 ∧ Hid (∀ j, j < k → a.testBit j = b.testBit j) ∧ Hid (wr = w)) (fun z _ => 10 - (intOf z).toNat)
  case atStart => exact ⟨0, rfl, Nat.zero_le _, Lib.hid (fun j h => absurd h (Nat.not_lt_zero _)), Lib.hid rfl⟩
  case round =>
    obtain ⟨k, rfl, hk, HE, HW⟩ := hrel
    have k0 : (0 : Int) ≤ (k : Int) := by omega
    have e7 : IntKind.i64.wrap ((k : Int) + 1) = (k : Int) + 1 := IntWalk.i64_in _ (by omega)
    by_cases hkl : k < 10
    · have k1 : (k : Int) < 10 := by omega
      have hA := HA.out k hkl
      have hB := HB.out k hkl
      obtain ⟨x, hx⟩ : ∃ x, a.testBit k = x := ⟨_, rfl⟩
      obtain ⟨y, hy⟩ : ∃ y, b.testBit k = y := ⟨_, rfl⟩
      rw [hx] at hA
      rw [hy] at hB
      have HX := Lib.hid hx
      have HY := Lib.hid hy
      have HBA := Lib.hid hA
      have HBB := Lib.hid hB
      clear hx hy hA hB
      cases x with
      | true =>
        cases y with
        | true =>
          have HN := Lib.hid (fun j (hj : j < k + 1) => show a.testBit j = b.testBit j by
            by_cases e : j = k
            · rw [e, HX.out, HY.out]
            · exact HE.out j (by omega))
          go_wp2_with (first | (go_at_call 45; (with_reducible refine Calls.mono (HBA.out _) ?_); rintro r y1 ⟨rfl, rfl⟩) | (go_at_call 45; (with_reducible refine Calls.mono (HBB.out _) ?_); rintro r y1 ⟨rfl, rfl⟩))
          go_roundw
          case rel => exact ⟨k + 1, by go_num, by omega, HN, HW⟩
          case measure => simp [intOf]; omega
        | false =>
          have HV := Lib.hid (show rv = true by rw [← HRV.out, fstB_iff]; exact ⟨k, hkl, HX.out, HY.out, HE.out⟩)
          go_wp2_with (first | (go_at_call 45; (with_reducible refine Calls.mono (HBA.out _) ?_); rintro r y1 ⟨rfl, rfl⟩) | (go_at_call 45; (with_reducible refine Calls.mono (HBB.out _) ?_); rintro r y1 ⟨rfl, rfl⟩))
          go_ret
          exact ⟨by rw [HV.out]; rfl, HW.out.symm⟩
      | false =>
        cases y with
        | false =>
          have HN := Lib.hid (fun j (hj : j < k + 1) => show a.testBit j = b.testBit j by
            by_cases e : j = k
            · rw [e, HX.out, HY.out]
            · exact HE.out j (by omega))
          go_wp2_with (first | (go_at_call 45; (with_reducible refine Calls.mono (HBA.out _) ?_); rintro r y1 ⟨rfl, rfl⟩) | (go_at_call 45; (with_reducible refine Calls.mono (HBB.out _) ?_); rintro r y1 ⟨rfl, rfl⟩))
          go_roundw
          case rel => exact ⟨k + 1, by go_num, by omega, HN, HW⟩
          case measure => simp [intOf]; omega
        | true =>
          have HV := Lib.hid (show rv = false by
            rw [← HRV.out, ← Bool.not_eq_true, fstB_iff]
            exact fun h => h.asymm ⟨k, hkl, HY.out, HX.out, fun j hj => (HE.out j hj).symm⟩)
          go_wp2_with (first | (go_at_call 45; (with_reducible refine Calls.mono (HBA.out _) ?_); rintro r y1 ⟨rfl, rfl⟩) | (go_at_call 45; (with_reducible refine Calls.mono (HBB.out _) ?_); rintro r y1 ⟨rfl, rfl⟩))
          go_ret
          exact ⟨by rw [HV.out]; rfl, HW.out.symm⟩
    · have k1 : ¬ (k : Int) < 10 := by omega
      have HV := Lib.hid (show rv = false by
        rw [← HRV.out, ← Bool.not_eq_true, fstB_iff]
        rintro ⟨m, hm, h1, h2, _⟩
        rw [HE.out m (by omega), h2] at h1
        cases h1)
      go_wp2
      go_ret
      exact ⟨by rw [HV.out]; rfl, HW.out.symm⟩
def LackPost (w : World) (V : Option (List Nat)) (e : Ending) (w' : World) : Prop := ∃ A' n' c', e = .returned (.tuple #[.slice A' n' c', .bool V.isSome]) ∧ Recs enc1 1 w' w'.heap.size (.slice A' n' c') (zi (V.getD [])) ∧ Below w.heap.size w w'
set_option maxRecDepth 100000 in
set_option maxHeartbeats 16000000 in
theorem rLack_any (l : List Gr) (U : List Us) (A A2 : Option Addr) (n c n2 c2 : Nat) (w : World) (hr : Recs encG 6 w w.heap.size (.slice A n c) l) (hu : Recs encU 4 w w.heap.size (.slice A2 n2 c2) U) :
    Calls Try.prog 24 #[.slice A n c, .slice A2 n2 c2] w (LackPost w (lackV l U)) := by
  obtain ⟨hn2, -, -⟩ := recs_cap hu
  have HR := Lib.hid hr
  have HU := Lib.hid hu
  have HN2 := Lib.hid hn2
  have HG := Lib.hid (rvalid_any l A n c w hr)
  have HV := Lib.hid (fun u (h : Below w.heap.size w u) => rvaliduses_any U A2 n2 c2 u (HU.out.next h))
  obtain ⟨b0, hb0⟩ : ∃ b, validG l = b := ⟨_, rfl⟩
  obtain ⟨b1, hb1⟩ : ∃ b, validU U = b := ⟨_, rfl⟩
  rw [hb0] at HG
  rw [hb1] at HV
  have H0 := Lib.hid hb0
  have H1 := Lib.hid hb1
  clear hr hu hn2 hb0 hb1
  cases b0 with
  | false =>
    have HLV := Lib.hid (show lackV l U = none by unfold lackV; rw [H0.out]; rfl)
    rw [HLV.out]
    go_enter Try.func24, Try.ntmps24
    go_wp2_with (go_at_call 14; (with_reducible refine Calls.mono HG.out ?_); rintro r u1 ⟨rfl, hb⟩; have B1 := Lib.hid hb; clear hb)
    refine bodyPost_ret (results_tmp2 rfl _ _ _) rfl ?_
    exact ⟨_, _, _, rfl, recs_nil _ _ _ _, B1.out⟩
  | true =>
    cases b1 with
    | false =>
      have HLV := Lib.hid (show lackV l U = none by unfold lackV; rw [H1.out, Bool.and_false]; rfl)
      rw [HLV.out]
      go_enter Try.func24, Try.ntmps24
      go_wp2_with (first | (go_at_call 14; (with_reducible refine Calls.mono HG.out ?_); rintro r u1 ⟨rfl, hb⟩; have B1 := Lib.hid hb; clear hb) | (go_at_call 16; (with_reducible refine Calls.mono (HV.out _ B1.out) ?_); rintro r u2 ⟨rfl, hb⟩; have B2 := Lib.hid (below_to B1.out hb); clear hb))
      refine bodyPost_ret (results_tmp2 rfl _ _ _) rfl ?_
      exact ⟨_, _, _, rfl, recs_nil _ _ _ _, B2.out⟩
    | true =>
      have h10 : n2 ≤ 10 := by rw [HN2.out]; exact validU_len H1.out
      obtain ⟨M, hM⟩ : ∃ M : Nat, 2 ^ U.length = M := ⟨_, rfl⟩
      have hM9 : M ≤ 1024 := by rw [← hM, ← HN2.out]; exact pow_le h10
      have HMM := Lib.hid hM
      have hpw : (2 : Int) ^ n2 = (M : Int) := by rw [HN2.out, ← hM]; push_cast; rfl
      have hsh : IntKind.i64.wrap (2 ^ n2) = (M : Int) := by rw [hpw]; exact IntWalk.i64_in _ (by omega)
      have n30 : (0 : Int) ≤ (n2 : Int) := by omega
      have n364 : (n2 : Int) < 64 := by omega
      have t3 : ((n2 : Int)).toNat = n2 := by omega
      have hM1 : 1 ≤ M := by rw [← hM]; exact Nat.two_pow_pos _
      have HPY := Lib.hid (fun u (h : Below w.heap.size w u) => plays_any l H0.out A n c u (HR.out.next h))
      have HLK := Lib.hid (fun s (hs : s < M) A3 c3 u (h : Below w.heap.size w u) (h2 : Recs enc1 1 u u.heap.size (.slice A3 l.length c3) (zi (plN l))) => rlacks_any l (plN l) U s H0.out H1.out (plN_length l) (plN_le H0.out) (by omega) A A3 A2 n c l.length c3 n2 c2 u (HR.out.next h) h2 (HU.out.next h))
      have HDN := Lib.hid (fun b (h : LkInv (rlackB l (plN l) U) M b) => LkInv.done H0.out H1.out (b := b) (by rw [hM]; exact h))
      clear hM
      obtain ⟨lk, hlk⟩ : ∃ lk, rlackB l (plN l) U = lk := ⟨_, rfl⟩
      rw [hlk] at HDN
      have HLK := Lib.hid (show ∀ s, s < M → ∀ A3 c3 u, Below w.heap.size w u → Recs enc1 1 u u.heap.size (.slice A3 l.length c3) (zi (plN l)) → Calls Try.prog 42 #[.slice A n c, .slice A3 l.length c3, .slice A2 n2 c2, .int .i64 (s : Int)] u fun e w' => e = .returned (.bool (lk s)) ∧ Below u.heap.size u w' from fun s hs A3 c3 u h h2 => by rw [← hlk]; exact HLK.out s hs A3 c3 u h h2)
      clear hlk
      go_enter Try.func24, Try.ntmps24
      go_upto_region 3 with (first | (go_at_call 14; (with_reducible refine Calls.mono HG.out ?_); rintro r u1 ⟨rfl, hb⟩; have B1 := Lib.hid hb; clear hb) | (go_at_call 16; (with_reducible refine Calls.mono (HV.out _ B1.out) ?_); rintro r u2 ⟨rfl, hb⟩; have B2 := Lib.hid (below_to B1.out hb); clear hb))
      go_wp2
      go_loopw [6, 7] (fun v z wr => ∃ b k : Nat, v = .int .i64 (b : Int) ∧ z = .int .i64 (k : Int) ∧ b < 1024 ∧ 1 ≤ k ∧ k ≤ M ∧ Hid (LkInv lk k b) ∧ Hid (Below w.heap.size w wr)) (fun _ z _ => M - (intOf z).toNat)
      case atStart => exact ⟨0, 1, rfl, rfl, by decide, Nat.le_refl _, hM1, Lib.hid (LkInv.start _), B2⟩
      case round =>
        obtain ⟨b, k, rfl, rfl, hb, hk1, hk, HI, HB⟩ := hrel
        have k0 : (0 : Int) ≤ (k : Int) := by omega
        have b0' : (0 : Int) ≤ (b : Int) := by omega
        have e7 : IntKind.i64.wrap ((k : Int) + 1) = (k : Int) + 1 := IntWalk.i64_in _ (by omega)
        by_cases hkl : k < M
        · have k1 : (k : Int) < (M : Int) := by omega
          have HLK2 := Lib.hid (HLK.out k hkl)
          obtain ⟨lb, hlb⟩ : ∃ lb, lk k = lb := ⟨_, rfl⟩
          rw [hlb] at HLK2
          have HLB := Lib.hid hlb
          have HSK := Lib.hid (fun y => size_any k (by omega) y)
          have HSB := Lib.hid (fun y => size_any b (by omega) y)
          have HFI := Lib.hid (fun y => first_any k b (by omega) (by omega) y)
          obtain ⟨p, hp⟩ : ∃ p, pc k = p := ⟨_, rfl⟩
          obtain ⟨q, hq⟩ : ∃ q, pc b = q := ⟨_, rfl⟩
          obtain ⟨fb, hfb⟩ : ∃ fb, fstB k b = fb := ⟨_, rfl⟩
          rw [hp] at HSK
          rw [hq] at HSB
          rw [hfb] at HFI
          have HP := Lib.hid hp
          have HQ := Lib.hid hq
          have HFB := Lib.hid hfb
          clear hp hq hfb hlb
          cases lb with
          | false =>
            have HN := Lib.hid (HI.out.skip HLB.out)
            go_wp2_with (first | (go_at_call 37; (with_reducible refine Calls.mono (HPY.out _ HB.out) ?_); rintro r u5 ⟨A5, c5, rfl, ho, hb⟩; have B5 := Lib.hid (below_to HB.out hb); have HR5 := Lib.hid (ints_own ho (by rw [zi_len])); clear hb ho) | (go_at_call 42; (with_reducible refine Calls.mono (HLK2.out _ _ _ B5.out HR5.out) ?_); rintro r u6 ⟨rfl, hb⟩; have B6 := Lib.hid (below_to B5.out hb); clear hb) | (go_at_call 43; (with_reducible refine Calls.mono (HSK.out _) ?_); rintro r y1 ⟨rfl, rfl⟩) | (go_at_call 43; (with_reducible refine Calls.mono (HSB.out _) ?_); rintro r y1 ⟨rfl, rfl⟩) | (go_at_call 44; (with_reducible refine Calls.mono (HFI.out _) ?_); rintro r y1 ⟨rfl, rfl⟩))
            go_roundw
            case rel => exact ⟨b, k + 1, rfl, by go_num, hb, by omega, by omega, HN, B6⟩
            case measure => simp [intOf]; omega
          | true =>
            by_cases hb0 : b = 0
            · subst hb0
              have HN := Lib.hid (HI.out.one hk1 HLB.out)
              go_wp2_with (first | (go_at_call 37; (with_reducible refine Calls.mono (HPY.out _ HB.out) ?_); rintro r u5 ⟨A5, c5, rfl, ho, hb⟩; have B5 := Lib.hid (below_to HB.out hb); have HR5 := Lib.hid (ints_own ho (by rw [zi_len])); clear hb ho) | (go_at_call 42; (with_reducible refine Calls.mono (HLK2.out _ _ _ B5.out HR5.out) ?_); rintro r u6 ⟨rfl, hb⟩; have B6 := Lib.hid (below_to B5.out hb); clear hb) | (go_at_call 43; (with_reducible refine Calls.mono (HSK.out _) ?_); rintro r y1 ⟨rfl, rfl⟩) | (go_at_call 43; (with_reducible refine Calls.mono (HSB.out _) ?_); rintro r y1 ⟨rfl, rfl⟩) | (go_at_call 44; (with_reducible refine Calls.mono (HFI.out _) ?_); rintro r y1 ⟨rfl, rfl⟩))
              go_roundw
              case rel => exact ⟨k, k + 1, rfl, by go_num, by omega, by omega, by omega, HN, B6⟩
              case measure => simp [intOf]; omega
            · have eb : ((b : Int) == 0) = false := by rw [beq_eq_false_iff_ne]; omega
              have HB0 := Lib.hid hb0
              clear hb0
              by_cases hpq : p < q
              · have f1 : (p : Int) < (q : Int) := by omega
                have HN := Lib.hid (HI.out.take HB0.out HLB.out (.inl (by rw [HP.out, HQ.out]; exact hpq)))
                clear hpq
                go_wp2_with (first | (go_at_call 37; (with_reducible refine Calls.mono (HPY.out _ HB.out) ?_); rintro r u5 ⟨A5, c5, rfl, ho, hb⟩; have B5 := Lib.hid (below_to HB.out hb); have HR5 := Lib.hid (ints_own ho (by rw [zi_len])); clear hb ho) | (go_at_call 42; (with_reducible refine Calls.mono (HLK2.out _ _ _ B5.out HR5.out) ?_); rintro r u6 ⟨rfl, hb⟩; have B6 := Lib.hid (below_to B5.out hb); clear hb) | (go_at_call 43; (with_reducible refine Calls.mono (HSK.out _) ?_); rintro r y1 ⟨rfl, rfl⟩) | (go_at_call 43; (with_reducible refine Calls.mono (HSB.out _) ?_); rintro r y1 ⟨rfl, rfl⟩) | (go_at_call 44; (with_reducible refine Calls.mono (HFI.out _) ?_); rintro r y1 ⟨rfl, rfl⟩))
                go_roundw
                case rel => exact ⟨k, k + 1, rfl, by go_num, by omega, by omega, by omega, HN, B6⟩
                case measure => simp [intOf]; omega
              · have f1 : ¬ (p : Int) < (q : Int) := by omega
                have HPQ := Lib.hid hpq
                by_cases hpe : p = q
                · have f2 : ((p : Int) == (q : Int)) = true := by rw [hpe]; exact beq_self_eq_true _
                  have HPE := Lib.hid hpe
                  clear hpe hpq
                  cases fb with
                  | true =>
                    have HN := Lib.hid (HI.out.take HB0.out HLB.out (.inr ⟨by rw [HP.out, HQ.out]; exact HPE.out, fstB_iff.1 HFB.out⟩))
                    go_wp2_with (first | (go_at_call 37; (with_reducible refine Calls.mono (HPY.out _ HB.out) ?_); rintro r u5 ⟨A5, c5, rfl, ho, hb⟩; have B5 := Lib.hid (below_to HB.out hb); have HR5 := Lib.hid (ints_own ho (by rw [zi_len])); clear hb ho) | (go_at_call 42; (with_reducible refine Calls.mono (HLK2.out _ _ _ B5.out HR5.out) ?_); rintro r u6 ⟨rfl, hb⟩; have B6 := Lib.hid (below_to B5.out hb); clear hb) | (go_at_call 43; (with_reducible refine Calls.mono (HSK.out _) ?_); rintro r y1 ⟨rfl, rfl⟩) | (go_at_call 43; (with_reducible refine Calls.mono (HSB.out _) ?_); rintro r y1 ⟨rfl, rfl⟩) | (go_at_call 44; (with_reducible refine Calls.mono (HFI.out _) ?_); rintro r y1 ⟨rfl, rfl⟩))
                    go_roundw
                    case rel => exact ⟨k, k + 1, rfl, by go_num, by omega, by omega, by omega, HN, B6⟩
                    case measure => simp [intOf]; omega
                  | false =>
                    have HN := Lib.hid (HI.out.stay HB0.out (by omega) (by rw [HP.out, HQ.out]; exact HPQ.out) (fun h => by have := fstB_iff.2 h.2; rw [HFB.out] at this; cases this))
                    go_wp2_with (first | (go_at_call 37; (with_reducible refine Calls.mono (HPY.out _ HB.out) ?_); rintro r u5 ⟨A5, c5, rfl, ho, hb⟩; have B5 := Lib.hid (below_to HB.out hb); have HR5 := Lib.hid (ints_own ho (by rw [zi_len])); clear hb ho) | (go_at_call 42; (with_reducible refine Calls.mono (HLK2.out _ _ _ B5.out HR5.out) ?_); rintro r u6 ⟨rfl, hb⟩; have B6 := Lib.hid (below_to B5.out hb); clear hb) | (go_at_call 43; (with_reducible refine Calls.mono (HSK.out _) ?_); rintro r y1 ⟨rfl, rfl⟩) | (go_at_call 43; (with_reducible refine Calls.mono (HSB.out _) ?_); rintro r y1 ⟨rfl, rfl⟩) | (go_at_call 44; (with_reducible refine Calls.mono (HFI.out _) ?_); rintro r y1 ⟨rfl, rfl⟩))
                    go_roundw
                    case rel => exact ⟨b, k + 1, rfl, by go_num, hb, by omega, by omega, HN, B6⟩
                    case measure => simp [intOf]; omega
                · have f2 : ((p : Int) == (q : Int)) = false := by rw [beq_eq_false_iff_ne]; omega
                  have HN := Lib.hid (HI.out.stay HB0.out (by omega) (by rw [HP.out, HQ.out]; exact hpq) (fun h => by have := h.1; rw [HP.out, HQ.out] at this; exact hpe this))
                  clear hpe hpq
                  go_wp2_with (first | (go_at_call 37; (with_reducible refine Calls.mono (HPY.out _ HB.out) ?_); rintro r u5 ⟨A5, c5, rfl, ho, hb⟩; have B5 := Lib.hid (below_to HB.out hb); have HR5 := Lib.hid (ints_own ho (by rw [zi_len])); clear hb ho) | (go_at_call 42; (with_reducible refine Calls.mono (HLK2.out _ _ _ B5.out HR5.out) ?_); rintro r u6 ⟨rfl, hb⟩; have B6 := Lib.hid (below_to B5.out hb); clear hb) | (go_at_call 43; (with_reducible refine Calls.mono (HSK.out _) ?_); rintro r y1 ⟨rfl, rfl⟩) | (go_at_call 43; (with_reducible refine Calls.mono (HSB.out _) ?_); rintro r y1 ⟨rfl, rfl⟩) | (go_at_call 44; (with_reducible refine Calls.mono (HFI.out _) ?_); rintro r y1 ⟨rfl, rfl⟩))
                  go_roundw
                  case rel => exact ⟨b, k + 1, rfl, by go_num, hb, by omega, by omega, HN, B6⟩
                  case measure => simp [intOf]; omega
        · have k1 : ¬ (k : Int) < (M : Int) := by omega
          have hdn := HDN.out b (by have h := HI.out; rwa [show k = M by omega] at h)
          have HD := Lib.hid hdn
          have HBT := Lib.hid (fun j (hj : j ≤ 10) y => bit_any b j hj (by omega) y)
          obtain ⟨W5, hW5⟩ : ∃ W, W = wr := ⟨_, rfl⟩
          subst hW5
          clear hdn
          go_wp2
          go_loopw [8, 9] (fun o z wi => ∃ j : Nat, z = .int .i64 (j : Int) ∧ j ≤ n2 ∧ Hid (Gat W5 W5.heap.size ((List.range j).filter b.testBit) o wi)) (fun _ z _ => n2 - (intOf z).toNat)
          case atStart => exact ⟨0, rfl, Nat.zero_le _, Lib.hid ⟨World.ownsRow_nil _ _ _ _, Below.refl _ _, Nat.le_refl _, Nat.le_refl _⟩⟩
          case round =>
            obtain ⟨j, rfl, hj, HGA⟩ := hrel
            have j0 : (0 : Int) ≤ (j : Int) := by omega
            have e8 : IntKind.i64.wrap ((j : Int) + 1) = (j : Int) + 1 := IntWalk.i64_in _ (by omega)
            by_cases hjl : j < n2
            · have j1 : (j : Int) < (n2 : Int) := by omega
              have HSN := Lib.hid (show (List.range (j + 1)).filter b.testBit = (List.range j).filter b.testBit ++ (if b.testBit j then [j] else []) by rw [List.range_succ, List.filter_append, List.filter_cons, List.filter_nil])
              have hbt := HBT.out j (by omega)
              obtain ⟨tb, htb⟩ : ∃ tb, b.testBit j = tb := ⟨_, rfl⟩
              rw [htb] at HSN hbt
              have HBJ := Lib.hid hbt
              obtain ⟨F, hF⟩ : ∃ F, (List.range j).filter b.testBit = F := ⟨_, rfl⟩
              have HLF := Lib.hid (show F.length ≤ 10 by rw [← hF]; have h1 := List.length_filter_le b.testBit (List.range j); rw [List.length_range] at h1; omega)
              rw [hF] at HSN HGA
              obtain ⟨A5, c5, rfl, -⟩ := own_slice HGA.out.own
              clear htb hbt hF
              cases tb with
              | false =>
                have HN := Lib.hid (show (List.range (j + 1)).filter b.testBit = F by rw [HSN.out]; simp)
                go_wp2_with (go_at_call 45; (with_reducible refine Calls.mono (HBJ.out _) ?_); rintro r y1 ⟨rfl, rfl⟩)
                go_roundw
                case rel => exact ⟨j + 1, by go_num, by omega, by rw [HN.out]; exact HGA⟩
                case measure => simp [intOf]; omega
              | true =>
                have HN := Lib.hid (show (List.range (j + 1)).filter b.testBit = F ++ [j] by rw [HSN.out]; rfl)
                obtain ⟨A6, c6, w6, hrun, hG, -⟩ := HGA.out.push (by have := HLF.out; omega) (j : Int) j rfl
                have HG6 := Lib.hid (show Gat W5 W5.heap.size ((List.range (j + 1)).filter b.testBit) (.slice A6 (F.length + 1) c6) w6 by rw [HN.out]; exact hG)
                clear hG
                go_wp2_with (go_at_call 45; (with_reducible refine Calls.mono (HBJ.out _) ?_); rintro r y1 ⟨rfl, rfl⟩)
                go_roundw
                case rel => exact ⟨j + 1, by go_num, by omega, HG6⟩
                case measure => simp [intOf]; omega
            · have j1 : ¬ (j : Int) < (n2 : Int) := by omega
              have HJE := Lib.hid (show (List.range j).filter b.testBit = bitsS U.length b by rw [show j = U.length by have := HN2.out; omega]; rfl)
              rw [HJE.out] at HGA
              obtain ⟨A5, c5, rfl, -⟩ := own_slice HGA.out.own
              by_cases hb0 : b = 0
              · have f0 : ¬ 0 < (b : Int) := by omega
                have f0n : decide (0 < b) = false := decide_eq_false (by omega)
                have HLV := Lib.hid (HD.out.1 hb0)
                have HBE := Lib.hid (show bitsS U.length b = [] by rw [hb0]; unfold bitsS; rw [List.filter_eq_nil_iff]; intro x _; simp)
                clear hb0
                go_wp2
                refine bodyPost_ret (results_tmp2 rfl _ _ _) rfl ?_
                exact ⟨_, _, _, by rw [HLV.out]; rfl, by rw [HLV.out, show (none : Option (List Nat)).getD [] = bitsS U.length b by rw [HBE.out]; rfl]; exact HGA.out.recs, below_to HB.out HGA.out.b⟩
              · have f0 : 0 < (b : Int) := by omega
                have f0n : decide (0 < b) = true := decide_eq_true (by omega)
                have HLV := Lib.hid (HD.out.2 hb0)
                clear hb0
                go_wp2
                refine bodyPost_ret (results_tmp2 rfl _ _ _) rfl ?_
                exact ⟨_, _, _, by rw [HLV.out]; rfl, by rw [HLV.out]; exact HGA.out.recs, below_to HB.out HGA.out.b⟩
end Go.Proofs.Ytenojfniknjeiaa
