/- The contract of Valid. -/
import Derived.Test.YtfbgfcpehlimfaaCd
namespace Go.Proofs.Ytfbgfcpehlimfaa
open Go.RowKit

set_option maxRecDepth 100000 in
set_option maxHeartbeats 4000000 in
theorem valid_any (d : Int) (rs : List Ca.R3) (A : Option Addr) (c : Nat) (w : World) (hv : Recs enc3 3 w w.heap.size (.slice A rs.length c) rs) :
    Calls Try.prog 16 #[.agg #[.int .i64 d, .slice A rs.length c]] w fun e w' => e = .returned (.bool (Ca.valid d rs)) ∧ Below w.heap.size w w' := by
  have hD := fun w => isDrift_any d w
  obtain ⟨-, hc1, hc2⟩ := recs_cap hv
  have HV := Lib.hid (fun k hk => recs_at hv k hk)
  obtain ⟨N, hN⟩ : ∃ N, rs.length = N := ⟨_, rfl⟩
  have HN := Lib.hid hN
  have hva : Ca.valid d rs = (Ca.isD d && decide (N ≤ 12) && Ca.okF 0 rs) := by unfold Ca.valid; rw [hN]
  rw [hva]
  have hN2 : N ≤ 9223372036854775807 := by omega
  rw [hN] at hc1 ⊢
  clear hv hN hva
  cases hd : Ca.isD d with
  | false =>
    rw [hd] at hD
    clear hd
    go_enter Try.func16, Try.ntmps16
    go_wp2_with (go_at_call 29; refine (hD _).mono ?_; rintro e w' ⟨rfl, rfl⟩)
    go_ret
    exact ⟨rfl, (Below.refl _ _).alloc (Nat.le_refl _) _⟩
  | true =>
    rw [hd] at hD
    clear hd
    by_cases h12 : N ≤ 12
    · have t1 : decide (N ≤ 12) = true := decide_eq_true h12
      have t2 : (N : Int) ≤ 12 := by omega
      rw [t1, Bool.and_self, Bool.true_and]
      have HT := Lib.hid (fun (y : Int) w => isTime_any y w)
      clear t1
      go_enter Try.func16, Try.ntmps16
      go_wp2_with (go_at_call 29; refine (hD _).mono ?_; rintro e w' ⟨rfl, rfl⟩)
      go_loopw [3, 5, 19] (fun nx _ i wr => ∃ k : Nat, k ≤ N ∧ i = .int .i64 (k : Int) ∧ nx = .int .i64 (Ca.lastNx 0 (rs.take k)) ∧ Ca.okF 0 (rs.take k) = true ∧ Below w.heap.size w wr ) (fun _ _ i _ => N - (intOf i).toNat)
      case atStart => exact ⟨0, by omega, rfl, rfl, rfl, (Below.refl _ _).alloc (Nat.le_refl _) _⟩
      case round =>
        obtain ⟨k, hk, rfl, rfl, hok, hbw⟩ := hrel
        by_cases hlt : k < N
        · have hkl : k < rs.length := by have := HN.out; omega
          obtain ⟨g, off, rfl, hg, hcell⟩ := HV.out k hkl
          obtain ⟨c0, c1, c2⟩ := cells3 hcell k hkl
          rw [← hbw.cell (p := ⟨g, off + k * 3, none⟩) hg] at c0
          rw [← hbw.cell (p := ⟨g, off + k * 3 + 1, none⟩) hg] at c1
          rw [← hbw.cell (p := ⟨g, off + k * 3 + 2, none⟩) hg] at c2
          have hdr : rs = rs.take k ++ rs[k] :: rs.drop (k + 1) := by rw [List.getElem_cons_drop, List.take_append_drop]
          have htk : rs.take (k + 1) = rs.take k ++ [rs[k]] := List.take_succ_eq_append_getElem hkl
          have hbad : Ca.okF 0 rs = (!Ca.bad (Ca.lastNx 0 (rs.take k)) rs[k] && Ca.okF (rs[k].1 + 1) (rs.drop (k + 1))) := by
            conv => lhs; rw [hdr]
            rw [Ca.okF_cut, hok, Bool.true_and]; rfl
          have hsn : Ca.okF 0 (rs.take (k + 1)) = !Ca.bad (Ca.lastNx 0 (rs.take k)) rs[k] := by rw [htk, Ca.okF_snoc, hok, Bool.true_and]
          have hln : Ca.lastNx 0 (rs.take (k + 1)) = rs[k].1 + 1 := by rw [htk, Ca.lastNx_snoc]
          obtain ⟨x, hx⟩ : ∃ x, rs[k] = x := ⟨_, rfl⟩
          obtain ⟨nx, hnx⟩ : ∃ nx, Ca.lastNx 0 (rs.take k) = nx := ⟨_, rfl⟩
          rw [hx] at c0 c1 c2 hbad hsn hln
          rw [hnx] at hbad hsn ⊢
          obtain ⟨p, q, r⟩ := x
          dsimp only at c0 c1 c2 hln
          have HBAD := Lib.hid hbad; have HSN := Lib.hid hsn; have HLN := Lib.hid hln; have HBW := Lib.hid hbw
          have i1 : (0 : Int) ≤ (k : Int) := by omega
          have i2 : (k : Int) < (N : Int) := by omega
          have hsz := hbw.size
          clear hcell hdr htk hbad hsn hln hx hnx hok hbw
          have hTp := fun w => isTime_any p w
          have hTq := fun w => isTime_any q w
          have hTr := fun w => isTime_any r w
          have hB : Ca.bad nx (p, q, r) = (decide (p < nx) || !Ca.isT p || decide (q > r) || !Ca.isT q || !Ca.isT r) := rfl
          by_cases h1 : p < nx
          · have HB : Hid (Ca.bad nx (p, q, r) = true) := Lib.hid (by rw [hB]; simp [h1])
            clear hB
            go_wp2_with (go_at_call 30; first | (refine (hTp _).mono ?_; rintro e w' ⟨rfl, rfl⟩) | (refine (hTq _).mono ?_; rintro e w' ⟨rfl, rfl⟩) | (refine (hTr _).mono ?_; rintro e w' ⟨rfl, rfl⟩))
            go_ret
            exact ⟨by rw [HBAD.out, HB.out]; rfl, HBW.out.trans ((Below.refl _ _).alloc hsz _)⟩
          have h1' : nx ≤ p := by omega
          cases h2 : Ca.isT p with
          | false =>
            have HB : Hid (Ca.bad nx (p, q, r) = true) := Lib.hid (by rw [hB, h2]; simp)
            rw [h2] at hTp
            clear hB h2
            go_wp2_with (go_at_call 30; first | (refine (hTp _).mono ?_; rintro e w' ⟨rfl, rfl⟩) | (refine (hTq _).mono ?_; rintro e w' ⟨rfl, rfl⟩) | (refine (hTr _).mono ?_; rintro e w' ⟨rfl, rfl⟩))
            go_ret
            exact ⟨by rw [HBAD.out, HB.out]; rfl, HBW.out.trans ((Below.refl _ _).alloc hsz _)⟩
          | true =>
          rw [h2] at hTp
          by_cases h3 : q > r
          · have HB : Hid (Ca.bad nx (p, q, r) = true) := Lib.hid (by rw [hB]; simp [h3])
            clear hB h2
            go_wp2_with (go_at_call 30; first | (refine (hTp _).mono ?_; rintro e w' ⟨rfl, rfl⟩) | (refine (hTq _).mono ?_; rintro e w' ⟨rfl, rfl⟩) | (refine (hTr _).mono ?_; rintro e w' ⟨rfl, rfl⟩))
            go_ret
            exact ⟨by rw [HBAD.out, HB.out]; rfl, HBW.out.trans ((Below.refl _ _).alloc hsz _)⟩
          have h3' : q ≤ r := by omega
          cases h4 : Ca.isT q with
          | false =>
            have HB : Hid (Ca.bad nx (p, q, r) = true) := Lib.hid (by rw [hB, h4]; simp)
            rw [h4] at hTq
            clear hB h4 h2
            go_wp2_with (go_at_call 30; first | (refine (hTp _).mono ?_; rintro e w' ⟨rfl, rfl⟩) | (refine (hTq _).mono ?_; rintro e w' ⟨rfl, rfl⟩) | (refine (hTr _).mono ?_; rintro e w' ⟨rfl, rfl⟩))
            go_ret
            exact ⟨by rw [HBAD.out, HB.out]; rfl, HBW.out.trans ((Below.refl _ _).alloc hsz _)⟩
          | true =>
          rw [h4] at hTq
          cases h5 : Ca.isT r with
          | false =>
            have HB : Hid (Ca.bad nx (p, q, r) = true) := Lib.hid (by rw [hB, h5]; simp)
            rw [h5] at hTr
            clear hB h5 h4 h2
            go_wp2_with (go_at_call 30; first | (refine (hTp _).mono ?_; rintro e w' ⟨rfl, rfl⟩) | (refine (hTq _).mono ?_; rintro e w' ⟨rfl, rfl⟩) | (refine (hTr _).mono ?_; rintro e w' ⟨rfl, rfl⟩))
            go_ret
            exact ⟨by rw [HBAD.out, HB.out]; rfl, HBW.out.trans ((Below.refl _ _).alloc hsz _)⟩
          | true =>
          have HB : Hid (Ca.bad nx (p, q, r) = false) := Lib.hid (by rw [hB, h2, h4, h5]; simp; omega)
          obtain ⟨p1, p2⟩ := (Ca.isT_iff p).1 h2
          have s1 : IntKind.i64.wrap (p + 1) = p + 1 := IntWalk.i64_in _ (by omega)
          rw [h5] at hTr
          clear hB h2 h4 h5
          go_wp2_with (go_at_call 30; first | (refine (hTp _).mono ?_; rintro e w' ⟨rfl, rfl⟩) | (refine (hTq _).mono ?_; rintro e w' ⟨rfl, rfl⟩) | (refine (hTr _).mono ?_; rintro e w' ⟨rfl, rfl⟩))
          go_roundw
          case rel => exact ⟨k + 1, by omega, by go_num, by rw [HLN.out], by rw [HSN.out, HB.out]; rfl, HBW.out.trans ((Below.refl _ _).alloc hsz _)⟩
          case measure => simp [intOf]; omega
        · have hta : rs.take k = rs := List.take_of_length_le (by have := HN.out; omega)
          rw [hta] at hok
          have HOK := Lib.hid hok; have HBW := Lib.hid hbw
          clear hok hbw hta
          go_wp2
          go_ret
          exact ⟨by rw [HOK.out]; rfl, HBW.out⟩
    · have t1 : decide (N ≤ 12) = false := decide_eq_false h12
      have t2 : (12 : Int) < (N : Int) := by omega
      rw [t1]
      clear t1 h12
      go_enter Try.func16, Try.ntmps16
      go_wp2_with (go_at_call 29; refine (hD _).mono ?_; rintro e w' ⟨rfl, rfl⟩)
      go_ret
      exact ⟨rfl, (Below.refl _ _).alloc (Nat.le_refl _) _⟩
end Go.Proofs.Ytfbgfcpehlimfaa
