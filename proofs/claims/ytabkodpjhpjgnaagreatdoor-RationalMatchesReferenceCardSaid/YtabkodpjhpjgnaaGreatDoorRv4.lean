/- The reference's Compare: by whole parts, and by the remainders upside down. -/
import Derived.Test.YtabkodpjhpjgnaaGreatDoorRx5
namespace Go.Proofs.YtabkodpjhpjgnaaGreatDoor
open Go.RowKit Go.Shelf

theorem zeroOr_zero : CallT 53 #[strOf (Lib.itoa 0)] (strOf (Lib.itoa 0)) := fun w ht => by
  rw [lit0]
  go_enter Tryz.func53, Tryz.ntmps53
  go_wp2
  go_ret
  exact ⟨rfl, Below.refl _ _⟩
theorem zeroOr_one (z : Int) (hz : z ≠ 0) : CallT 53 #[strOf (Lib.itoa z)] (strOf (Lib.itoa 1)) := fun w ht => by
  rw [lit1]
  have h := txt_zero z
  rw [decide_eq_false hz] at h
  unfold strOf
  generalize bs (Lib.itoa z) = Z at *
  go_enter Tryz.func53, Tryz.ntmps53
  go_wp2
  go_ret
  exact ⟨rfl, Below.refl _ _⟩
/-- The loop's five slots: a sign, and two fractions of one order. -/
def CmpR (K : Int) (sv nv dv mv cv : Value) : Prop := ∃ (s n d m c : Int), sv = .int .i64 s ∧ nv = strOf (Lib.itoa n) ∧ dv = strOf (Lib.itoa d) ∧ mv = strOf (Lib.itoa m) ∧ cv = strOf (Lib.itoa c) ∧ (s = 1 ∨ s = -1) ∧ okz n = true ∧ okz d = true ∧ okz m = true ∧ okz c = true ∧ 0 < d ∧ 0 < c ∧ s * Qm.cmp4 n d m c = K
noncomputable def denV (v : Value) : Nat := @dite Nat (∃ d : Int, 0 < d ∧ v = strOf (Lib.itoa d)) (Classical.propDecidable _) (fun h => h.choose.toNat) (fun _ => 0)
theorem strOf_inj {a b : Int} (h : strOf (Lib.itoa a) = strOf (Lib.itoa b)) : a = b := by
  unfold strOf at h
  injection h with h
  exact Im.itoa_inj ((bs_inj _ _).1 h)
theorem denV_eq {d : Int} (h0 : 0 < d) : (denV (strOf (Lib.itoa d)) : Int) = d := by
  unfold denV
  have h : ∃ e : Int, 0 < e ∧ strOf (Lib.itoa d) = strOf (Lib.itoa e) := ⟨d, h0, rfl⟩
  rw [dif_pos h]
  have h1 := h.choose_spec.1
  have h2 := strOf_inj h.choose_spec.2
  omega
theorem cmp_turn (n d m c : Int) (h : n / d = m / c) : Qm.cmp4 d (n % d) c (m % c) = -Qm.cmp4 n d m c := by
  rw [Qm.cmp4_rest n d m c h, Qm.cmp4_swap (n % d) d (m % c) c, Qm.cmp4_symm c (m % c) d (n % d)]
theorem ok_mod {a d : Int} (h0 : 0 < d) (hd : okz d = true) : okz (a % d) = true := ok_le hd (by
  have h1 := Int.emod_nonneg a (show d ≠ 0 by omega)
  have h2 := Int.emod_lt_of_pos a h0
  omega)
theorem ok_div {a d : Int} (h0 : 0 < d) (ha : okz a = true) : okz (a / d) = true := ok_le ha (ediv_abs h0)
set_option maxRecDepth 100000 in
set_option maxHeartbeats 8000000 in
theorem rcompare_q (p q : Rat) (hp : okq p = true) (hq : okq q = true) : CallT 21 #[qv p, qv q] (.int .i64 (Qm.qcmp p q)) := fun w ht => by
  obtain ⟨p1, p2⟩ := okq_iff.1 hp
  obtain ⟨q1, q2⟩ := okq_iff.1 hq
  have dp := Qm.den_pos p
  have dq := Qm.den_pos q
  have HV1 := Lib.hid (rvalid_q hp); have HV2 := Lib.hid (rvalid_q hq)
  have HT := Lib.hid ht
  obtain ⟨K, hK⟩ : ∃ K, Qm.qcmp p q = K := ⟨_, rfl⟩
  rw [hK]
  have HC : Hid (CmpR K (.int .i64 1) (strOf (Lib.itoa p.num)) (strOf (Lib.itoa ((p.den : Nat) : Int))) (strOf (Lib.itoa q.num)) (strOf (Lib.itoa ((q.den : Nat) : Int)))) := Lib.hid ⟨1, p.num, _, q.num, _, rfl, rfl, rfl, rfl, rfl, .inl rfl, p1, p2, q1, q2, dp, dq, by rw [Int.one_mul]; exact hK⟩
  clear hp hq p1 p2 q1 q2 dp dq hK ht
  unfold qv rv strOf at *
  generalize bs (Lib.itoa p.num) = A1 at *
  generalize bs (Lib.itoa ((p.den : Nat) : Int)) = A2 at *
  generalize bs (Lib.itoa q.num) = B1 at *
  generalize bs (Lib.itoa ((q.den : Nat) : Int)) = B2 at *
  obtain ⟨W0, hW0⟩ : ∃ W0, (w.alloc (.cells #[.string A1, .string A2] 23)).alloc (.cells #[.string B1, .string B2] 23) = W0 := ⟨_, rfl⟩
  have hr : Rws W0 [(w.heap.size + 1, 23, #[.string B1, .string B2]), (w.heap.size, 23, #[.string A1, .string A2])] := by
    rw [← hW0]
    have h := ((Rws.nil w).cons 23 #[.string A1, .string A2]).cons 23 #[.string B1, .string B2]
    simp only [World.size_alloc] at h
    exact h
  have hb : Below w.heap.size w W0 := by rw [← hW0]; exact ((Below.refl _ _).alloc (Nat.le_refl _) _).alloc (by simp) _
  have HW0 := Lib.hid hW0; have HR := Lib.hid hr; have HB := Lib.hid hb
  clear hW0 hr hb
  go_enter Tryz.func21, Tryz.ntmps21
  go_upto_region 1 with (fail)
  rw [HW0.out]
  clear HW0
  have x0_0 : W0.cell? ⟨w.heap.size + 1, 0, none⟩ = some (.string B1) := (HR.out.at (x := (w.heap.size + 1, 23, #[.string B1, .string B2])) 0 rfl).cell 0
  have x0_1 : W0.cell? ⟨w.heap.size + 1, 1, none⟩ = some (.string B2) := (HR.out.at (x := (w.heap.size + 1, 23, #[.string B1, .string B2])) 0 rfl).cell 1
  have y0 : w.heap.size + 1 < W0.heap.size := (HR.out.at (x := (w.heap.size + 1, 23, #[.string B1, .string B2])) 0 rfl).lt
  have x1_0 : W0.cell? ⟨w.heap.size, 0, none⟩ = some (.string A1) := (HR.out.at (x := (w.heap.size, 23, #[.string A1, .string A2])) 1 rfl).cell 0
  have x1_1 : W0.cell? ⟨w.heap.size, 1, none⟩ = some (.string A2) := (HR.out.at (x := (w.heap.size, 23, #[.string A1, .string A2])) 1 rfl).cell 1
  have y1 : w.heap.size < W0.heap.size := (HR.out.at (x := (w.heap.size, 23, #[.string A1, .string A2])) 1 rfl).lt
  go_upto_region 10 with (first | (go_at_call 30; (with_reducible refine Calls.mono (HV1.out _ (HT.out.next HB.out)) ?_); rintro e w1 ⟨rfl, hb⟩; have hq := HR.out.below hb; clear x0_0 x0_1 y0 x1_0 x1_1 y1; have x0_0 : w1.cell? ⟨w.heap.size + 1, 0, none⟩ = some (.string B1) := (hq.at (x := (w.heap.size + 1, 23, #[.string B1, .string B2])) 0 rfl).cell 0; have x0_1 : w1.cell? ⟨w.heap.size + 1, 1, none⟩ = some (.string B2) := (hq.at (x := (w.heap.size + 1, 23, #[.string B1, .string B2])) 0 rfl).cell 1; have y0 : w.heap.size + 1 < w1.heap.size := (hq.at (x := (w.heap.size + 1, 23, #[.string B1, .string B2])) 0 rfl).lt; have x1_0 : w1.cell? ⟨w.heap.size, 0, none⟩ = some (.string A1) := (hq.at (x := (w.heap.size, 23, #[.string A1, .string A2])) 1 rfl).cell 0; have x1_1 : w1.cell? ⟨w.heap.size, 1, none⟩ = some (.string A2) := (hq.at (x := (w.heap.size, 23, #[.string A1, .string A2])) 1 rfl).cell 1; have y1 : w.heap.size < w1.heap.size := (hq.at (x := (w.heap.size, 23, #[.string A1, .string A2])) 1 rfl).lt; replace HR := Lib.hid hq; replace HB := Lib.hid (below_to HB.out hb); clear hb hq) | (go_at_call 30; (with_reducible refine Calls.mono (HV2.out _ (HT.out.next HB.out)) ?_); rintro e w2 ⟨rfl, hb⟩; have hq := HR.out.below hb; clear x0_0 x0_1 y0 x1_0 x1_1 y1; have x0_0 : w2.cell? ⟨w.heap.size + 1, 0, none⟩ = some (.string B1) := (hq.at (x := (w.heap.size + 1, 23, #[.string B1, .string B2])) 0 rfl).cell 0; have x0_1 : w2.cell? ⟨w.heap.size + 1, 1, none⟩ = some (.string B2) := (hq.at (x := (w.heap.size + 1, 23, #[.string B1, .string B2])) 0 rfl).cell 1; have y0 : w.heap.size + 1 < w2.heap.size := (hq.at (x := (w.heap.size + 1, 23, #[.string B1, .string B2])) 0 rfl).lt; have x1_0 : w2.cell? ⟨w.heap.size, 0, none⟩ = some (.string A1) := (hq.at (x := (w.heap.size, 23, #[.string A1, .string A2])) 1 rfl).cell 0; have x1_1 : w2.cell? ⟨w.heap.size, 1, none⟩ = some (.string A2) := (hq.at (x := (w.heap.size, 23, #[.string A1, .string A2])) 1 rfl).cell 1; have y1 : w.heap.size < w2.heap.size := (hq.at (x := (w.heap.size, 23, #[.string A1, .string A2])) 1 rfl).lt; replace HR := Lib.hid hq; replace HB := Lib.hid (below_to HB.out hb); clear hb hq))
  go_loopw [7, 8, 9, 10, 11] (fun sv nv dv mv cv wr => CmpR K sv nv dv mv cv ∧ Hid (Below w.heap.size w wr)) (fun _ _ dv _ _ _ => denV dv)
  case atStart => exact ⟨HC.out, HB⟩
  case round =>
    clear HB HR HC x0_0 x0_1 x1_0 x1_1 y0 y1
    obtain ⟨⟨s, n, d, m, c, rfl, rfl, rfl, rfl, rfl, hs, hn, hd, hm, hc, d0, c0, hK⟩, HB⟩ := hrel
    have D1 := Lib.hid (rdivT n d _ _ rfl rfl hn hd (by omega) (ok_div d0 hn) (ok_mod d0 hd))
    have D2 := Lib.hid (rdivT m c _ _ rfl rfl hm hc (by omega) (ok_div c0 hm) (ok_mod c0 hc))
    have r0 := Int.emod_nonneg n (show d ≠ 0 by omega)
    have r1 := Int.emod_lt_of_pos n d0
    have s0 := Int.emod_nonneg m (show c ≠ 0 by omega)
    have s1 := Int.emod_lt_of_pos m c0
    have tr := txt_zero (n % d)
    have ts := txt_zero (m % c)
    have KW := Lib.hid (rcmpT (n / d) (m / c) _ rfl (ok_div d0 hn) (ok_div c0 hm))
    have or := ok_mod (a := n) d0 hd
    have os := ok_mod (a := m) c0 hc
    rcases (by omega : n / d < m / c ∨ m / c < n / d ∨ n / d = m / c) with hlt | hgt | heq
    · have CW := KW.out
      rw [sg_lt hlt] at CW
      rw [Qm.cmp4_whole n d m c d0 c0 hlt] at hK
      replace CW := Lib.hid CW
      have HKK := Lib.hid hK
      clear KW hK tr ts or os r0 r1 s0 s1 hn hd hm hc d0 c0 hlt
      unfold strOf at *
      generalize bs (Lib.itoa n) = N at *
      generalize bs (Lib.itoa d) = D at *
      generalize bs (Lib.itoa m) = M at *
      generalize bs (Lib.itoa c) = C at *
      generalize bs (Lib.itoa (n / d)) = Q1 at *
      generalize bs (Lib.itoa (m / c)) = Q2 at *
      generalize bs (Lib.itoa (n % d)) = R1 at *
      generalize bs (Lib.itoa (m % c)) = R2 at *
      go_wp2_with (first | (go_at_call 51; (with_reducible refine Calls.mono (D1.out _ (HT.out.next HB.out)) ?_); rintro e w3 ⟨rfl, hb⟩; replace HB := Lib.hid (below_to HB.out hb); clear hb) | (go_at_call 51; (with_reducible refine Calls.mono (D2.out _ (HT.out.next HB.out)) ?_); rintro e w4 ⟨rfl, hb⟩; replace HB := Lib.hid (below_to HB.out hb); clear hb) | (go_at_call 52; (with_reducible refine Calls.mono (CW.out _ (HT.out.next HB.out)) ?_); rintro e w5 ⟨rfl, hb⟩; replace HB := Lib.hid (below_to HB.out hb); clear hb))
      go_ret
      exact ⟨by rcases hs with rfl | rfl <;> (rw [← HKK.out]; rfl), HB.out⟩
    · have CW := KW.out
      rw [sg_gt hgt] at CW
      rw [Qm.cmp4_gt n d m c d0 c0 hgt] at hK
      replace CW := Lib.hid CW
      have HKK := Lib.hid hK
      clear KW hK tr ts or os r0 r1 s0 s1 hn hd hm hc d0 c0 hgt
      unfold strOf at *
      generalize bs (Lib.itoa n) = N at *
      generalize bs (Lib.itoa d) = D at *
      generalize bs (Lib.itoa m) = M at *
      generalize bs (Lib.itoa c) = C at *
      generalize bs (Lib.itoa (n / d)) = Q1 at *
      generalize bs (Lib.itoa (m / c)) = Q2 at *
      generalize bs (Lib.itoa (n % d)) = R1 at *
      generalize bs (Lib.itoa (m % c)) = R2 at *
      go_wp2_with (first | (go_at_call 51; (with_reducible refine Calls.mono (D1.out _ (HT.out.next HB.out)) ?_); rintro e w3 ⟨rfl, hb⟩; replace HB := Lib.hid (below_to HB.out hb); clear hb) | (go_at_call 51; (with_reducible refine Calls.mono (D2.out _ (HT.out.next HB.out)) ?_); rintro e w4 ⟨rfl, hb⟩; replace HB := Lib.hid (below_to HB.out hb); clear hb) | (go_at_call 52; (with_reducible refine Calls.mono (CW.out _ (HT.out.next HB.out)) ?_); rintro e w5 ⟨rfl, hb⟩; replace HB := Lib.hid (below_to HB.out hb); clear hb))
      go_ret
      exact ⟨by rcases hs with rfl | rfl <;> (rw [← HKK.out]; rfl), HB.out⟩
    · have CW := KW.out
      rw [sg_eq heq] at CW
      replace CW := Lib.hid CW
      have HT4 := cmp_turn n d m c heq
      have HK2 := hK
      rw [Qm.cmp4_rest n d m c heq] at hK
      by_cases hz : n % d = 0 ∨ m % c = 0
      · rw [Qm.cmp4_zero (n % d) d (m % c) c d0 c0 r0 s0 hz] at hK
        clear HT4 HK2
        by_cases hr : n % d = 0
        · by_cases hw : m % c = 0
          · have ZA : Hid (CallT 53 #[strOf (Lib.itoa (n % d))] (strOf (Lib.itoa 0))) := Lib.hid (by rw [hr]; exact zeroOr_zero)
            have ZB : Hid (CallT 53 #[strOf (Lib.itoa (m % c))] (strOf (Lib.itoa 0))) := Lib.hid (by rw [hw]; exact zeroOr_zero)
            have CZ := Lib.hid (rcmpT 0 0 0 rfl ok0 ok0)
            rw [hr, hw] at hK
            rw [decide_eq_true hr] at tr
            have HKK := Lib.hid hK
            clear KW hK or os r0 r1 s0 s1 hn hd hm hc d0 c0 heq hz hr hw
            unfold strOf at *
            generalize bs (Lib.itoa n) = N at *
            generalize bs (Lib.itoa d) = D at *
            generalize bs (Lib.itoa m) = M at *
            generalize bs (Lib.itoa c) = C at *
            generalize bs (Lib.itoa (n / d)) = Q1 at *
            generalize bs (Lib.itoa (m / c)) = Q2 at *
            generalize bs (Lib.itoa (n % d)) = R1 at *
            generalize bs (Lib.itoa (m % c)) = R2 at *
            go_wp2_with (first | (go_at_call 51; (with_reducible refine Calls.mono (D1.out _ (HT.out.next HB.out)) ?_); rintro e w3 ⟨rfl, hb⟩; replace HB := Lib.hid (below_to HB.out hb); clear hb) | (go_at_call 51; (with_reducible refine Calls.mono (D2.out _ (HT.out.next HB.out)) ?_); rintro e w4 ⟨rfl, hb⟩; replace HB := Lib.hid (below_to HB.out hb); clear hb) | (go_at_call 52; (with_reducible refine Calls.mono (CW.out _ (HT.out.next HB.out)) ?_); rintro e w5 ⟨rfl, hb⟩; replace HB := Lib.hid (below_to HB.out hb); clear hb) | (go_at_call 53; (with_reducible refine Calls.mono (ZA.out _ (HT.out.next HB.out)) ?_); rintro e w6 ⟨rfl, hb⟩; replace HB := Lib.hid (below_to HB.out hb); clear hb) | (go_at_call 53; (with_reducible refine Calls.mono (ZB.out _ (HT.out.next HB.out)) ?_); rintro e w7 ⟨rfl, hb⟩; replace HB := Lib.hid (below_to HB.out hb); clear hb) | (go_at_call 52; (with_reducible refine Calls.mono (CZ.out _ (HT.out.next HB.out)) ?_); rintro e w8 ⟨rfl, hb⟩; replace HB := Lib.hid (below_to HB.out hb); clear hb))
            go_ret
            exact ⟨by rcases hs with rfl | rfl <;> (rw [← HKK.out]; rfl), HB.out⟩
          · have ZA : Hid (CallT 53 #[strOf (Lib.itoa (n % d))] (strOf (Lib.itoa 0))) := Lib.hid (by rw [hr]; exact zeroOr_zero)
            have ZB := Lib.hid (zeroOr_one (m % c) hw)
            have CZ := Lib.hid (rcmpT 0 1 (-1) rfl ok0 ok1)
            rw [hr, if_pos (by omega)] at hK
            rw [decide_eq_true hr] at tr
            have HKK := Lib.hid hK
            clear KW hK or os r0 r1 s0 s1 hn hd hm hc d0 c0 heq hz hr hw
            unfold strOf at *
            generalize bs (Lib.itoa n) = N at *
            generalize bs (Lib.itoa d) = D at *
            generalize bs (Lib.itoa m) = M at *
            generalize bs (Lib.itoa c) = C at *
            generalize bs (Lib.itoa (n / d)) = Q1 at *
            generalize bs (Lib.itoa (m / c)) = Q2 at *
            generalize bs (Lib.itoa (n % d)) = R1 at *
            generalize bs (Lib.itoa (m % c)) = R2 at *
            go_wp2_with (first | (go_at_call 51; (with_reducible refine Calls.mono (D1.out _ (HT.out.next HB.out)) ?_); rintro e w3 ⟨rfl, hb⟩; replace HB := Lib.hid (below_to HB.out hb); clear hb) | (go_at_call 51; (with_reducible refine Calls.mono (D2.out _ (HT.out.next HB.out)) ?_); rintro e w4 ⟨rfl, hb⟩; replace HB := Lib.hid (below_to HB.out hb); clear hb) | (go_at_call 52; (with_reducible refine Calls.mono (CW.out _ (HT.out.next HB.out)) ?_); rintro e w5 ⟨rfl, hb⟩; replace HB := Lib.hid (below_to HB.out hb); clear hb) | (go_at_call 53; (with_reducible refine Calls.mono (ZA.out _ (HT.out.next HB.out)) ?_); rintro e w6 ⟨rfl, hb⟩; replace HB := Lib.hid (below_to HB.out hb); clear hb) | (go_at_call 53; (with_reducible refine Calls.mono (ZB.out _ (HT.out.next HB.out)) ?_); rintro e w7 ⟨rfl, hb⟩; replace HB := Lib.hid (below_to HB.out hb); clear hb) | (go_at_call 52; (with_reducible refine Calls.mono (CZ.out _ (HT.out.next HB.out)) ?_); rintro e w8 ⟨rfl, hb⟩; replace HB := Lib.hid (below_to HB.out hb); clear hb))
            go_ret
            exact ⟨by rcases hs with rfl | rfl <;> (rw [← HKK.out]; rfl), HB.out⟩
        · have hw : m % c = 0 := hz.resolve_left hr
          have ZA := Lib.hid (zeroOr_one (n % d) hr)
          have ZB : Hid (CallT 53 #[strOf (Lib.itoa (m % c))] (strOf (Lib.itoa 0))) := Lib.hid (by rw [hw]; exact zeroOr_zero)
          have CZ := Lib.hid (rcmpT 1 0 1 rfl ok1 ok0)
          rw [hw, if_neg (by omega), if_pos (by omega)] at hK
          rw [decide_eq_false hr] at tr
          rw [decide_eq_true hw] at ts
          have HKK := Lib.hid hK
          clear KW hK or os r0 r1 s0 s1 hn hd hm hc d0 c0 heq hz hr hw
          unfold strOf at *
          generalize bs (Lib.itoa n) = N at *
          generalize bs (Lib.itoa d) = D at *
          generalize bs (Lib.itoa m) = M at *
          generalize bs (Lib.itoa c) = C at *
          generalize bs (Lib.itoa (n / d)) = Q1 at *
          generalize bs (Lib.itoa (m / c)) = Q2 at *
          generalize bs (Lib.itoa (n % d)) = R1 at *
          generalize bs (Lib.itoa (m % c)) = R2 at *
          go_wp2_with (first | (go_at_call 51; (with_reducible refine Calls.mono (D1.out _ (HT.out.next HB.out)) ?_); rintro e w3 ⟨rfl, hb⟩; replace HB := Lib.hid (below_to HB.out hb); clear hb) | (go_at_call 51; (with_reducible refine Calls.mono (D2.out _ (HT.out.next HB.out)) ?_); rintro e w4 ⟨rfl, hb⟩; replace HB := Lib.hid (below_to HB.out hb); clear hb) | (go_at_call 52; (with_reducible refine Calls.mono (CW.out _ (HT.out.next HB.out)) ?_); rintro e w5 ⟨rfl, hb⟩; replace HB := Lib.hid (below_to HB.out hb); clear hb) | (go_at_call 53; (with_reducible refine Calls.mono (ZA.out _ (HT.out.next HB.out)) ?_); rintro e w6 ⟨rfl, hb⟩; replace HB := Lib.hid (below_to HB.out hb); clear hb) | (go_at_call 53; (with_reducible refine Calls.mono (ZB.out _ (HT.out.next HB.out)) ?_); rintro e w7 ⟨rfl, hb⟩; replace HB := Lib.hid (below_to HB.out hb); clear hb) | (go_at_call 52; (with_reducible refine Calls.mono (CZ.out _ (HT.out.next HB.out)) ?_); rintro e w8 ⟨rfl, hb⟩; replace HB := Lib.hid (below_to HB.out hb); clear hb))
          go_ret
          exact ⟨by rcases hs with rfl | rfl <;> (rw [← HKK.out]; rfl), HB.out⟩
      · have hr : ¬ n % d = 0 := fun e => hz (.inl e)
        have hw : ¬ m % c = 0 := fun e => hz (.inr e)
        rw [decide_eq_false hr] at tr
        rw [decide_eq_false hw] at ts
        have HREL : Hid (CmpR K (.int .i64 (-s)) (strOf (Lib.itoa d)) (strOf (Lib.itoa (n % d))) (strOf (Lib.itoa c)) (strOf (Lib.itoa (m % c)))) := Lib.hid ⟨-s, d, n % d, c, m % c, rfl, rfl, rfl, rfl, rfl, by rcases hs with h | h <;> omega, hd, or, hc, os, by omega, by omega, by rw [HT4, Int.neg_mul_neg]; exact HK2⟩
        have HMS : Hid (denV (strOf (Lib.itoa (n % d))) < denV (strOf (Lib.itoa d))) := Lib.hid (by
          have e1 := denV_eq (show 0 < n % d by omega)
          have e2 := denV_eq d0
          omega)
        clear HT4 HK2 hz hr hw
        clear KW hK or os r0 r1 s0 s1 hn hd hm hc d0 c0 heq
        unfold strOf at *
        generalize bs (Lib.itoa n) = N at *
        generalize bs (Lib.itoa d) = D at *
        generalize bs (Lib.itoa m) = M at *
        generalize bs (Lib.itoa c) = C at *
        generalize bs (Lib.itoa (n / d)) = Q1 at *
        generalize bs (Lib.itoa (m / c)) = Q2 at *
        generalize bs (Lib.itoa (n % d)) = R1 at *
        generalize bs (Lib.itoa (m % c)) = R2 at *
        rcases hs with rfl | rfl
        · go_wp2_with (first | (go_at_call 51; (with_reducible refine Calls.mono (D1.out _ (HT.out.next HB.out)) ?_); rintro e w3 ⟨rfl, hb⟩; replace HB := Lib.hid (below_to HB.out hb); clear hb) | (go_at_call 51; (with_reducible refine Calls.mono (D2.out _ (HT.out.next HB.out)) ?_); rintro e w4 ⟨rfl, hb⟩; replace HB := Lib.hid (below_to HB.out hb); clear hb) | (go_at_call 52; (with_reducible refine Calls.mono (CW.out _ (HT.out.next HB.out)) ?_); rintro e w5 ⟨rfl, hb⟩; replace HB := Lib.hid (below_to HB.out hb); clear hb))
          go_roundw
          case rel => exact ⟨HREL.out, HB⟩
          case measure => exact HMS.out
        · go_wp2_with (first | (go_at_call 51; (with_reducible refine Calls.mono (D1.out _ (HT.out.next HB.out)) ?_); rintro e w3 ⟨rfl, hb⟩; replace HB := Lib.hid (below_to HB.out hb); clear hb) | (go_at_call 51; (with_reducible refine Calls.mono (D2.out _ (HT.out.next HB.out)) ?_); rintro e w4 ⟨rfl, hb⟩; replace HB := Lib.hid (below_to HB.out hb); clear hb) | (go_at_call 52; (with_reducible refine Calls.mono (CW.out _ (HT.out.next HB.out)) ?_); rintro e w5 ⟨rfl, hb⟩; replace HB := Lib.hid (below_to HB.out hb); clear hb))
          go_roundw
          case rel => exact ⟨HREL.out, HB⟩
          case measure => exact HMS.out
end Go.Proofs.YtabkodpjhpjgnaaGreatDoor
