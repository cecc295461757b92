/- Contract of the reference's Valid. -/
import Derived.Test.YtfbgfcpehlimfaaCp
import Derived.Test.YtfbgfcpehlimfaaCv
namespace Go.Proofs.Ytfbgfcpehlimfaa
open Go.RowKit

theorem okF_bad {rs : List Ca.R3} {k : Nat} (hk : k < rs.length) (hok : Ca.okF 0 (rs.take k) = true) (h : Ca.bad (Ca.lastNx 0 (rs.take k)) rs[k] = true) : Ca.okF 0 rs = false := by
  have hdr : rs = rs.take k ++ rs[k] :: rs.drop (k + 1) := by rw [List.getElem_cons_drop, List.take_append_drop]
  rw [hdr, Ca.okF_cut, hok, Bool.true_and]
  show (!Ca.bad _ _ && _) = false
  rw [h]; rfl
theorem okF_good {rs : List Ca.R3} {k : Nat} (hk : k < rs.length) (hok : Ca.okF 0 (rs.take k) = true) (h : Ca.bad (Ca.lastNx 0 (rs.take k)) rs[k] = false) : Ca.okF 0 (rs.take (k + 1)) = true := by
  have htk : rs.take (k + 1) = rs.take k ++ [rs[k]] := List.take_succ_eq_append_getElem hk
  rw [htk, Ca.okF_snoc, hok, h]; rfl
theorem last_at (rs : List Ca.R3) (m : Nat) (hk : m < rs.length) : Ca.lastNx 0 (rs.take (m + 1)) = rs[m].1 + 1 := by
  rw [List.take_succ_eq_append_getElem hk, Ca.lastNx_snoc]
theorem bad_true {nx p q r : Int} (h : p < nx ∨ p < 0 ∨ 10000000 < p ∨ q < 0 ∨ r < q ∨ 10000000 < r) : Ca.bad nx (p, q, r) = true := by
  cases e : Ca.bad nx (p, q, r) with
  | true => rfl
  | false =>
    have := (Ca.bad_iff nx (p, q, r)).1 e
    obtain ⟨b0, b1, b2, b3, b4, b5⟩ := this
    dsimp only at b0 b1 b2 b3 b4 b5
    omega
theorem bad_false {nx p q r : Int} (h0 : nx ≤ p) (h1 : ¬ p < 0) (h2 : ¬ 10000000 < p) (h3 : ¬ q < 0) (h4 : ¬ r < q) (h5 : ¬ 10000000 < r) : Ca.bad nx (p, q, r) = false :=
  (Ca.bad_iff nx (p, q, r)).2 ⟨h0, by show 0 ≤ p; omega, by show p ≤ _; omega, by show 0 ≤ q; omega, by show q ≤ r; omega, by show r ≤ _; omega⟩
set_option maxRecDepth 100000 in
set_option maxHeartbeats 8000000 in
theorem rvalid_any (d : Int) (rs : List Ca.R3) (v : Value) (w : World) (hv : Clk w v d rs) :
    Calls Try.prog 17 #[v] w fun e w' => e = .returned (.bool (Ca.valid d rs)) ∧ Below w.heap.size w w' := by
  obtain ⟨A, c, rfl, hr⟩ := hv.form
  obtain ⟨-, hc1, hc2⟩ := recs_cap hr
  have HV := Lib.hid (fun k hk => recs_at hr k hk)
  obtain ⟨N, hN⟩ : ∃ N, rs.length = N := ⟨_, rfl⟩
  have HN := Lib.hid hN
  have hva : Ca.valid d rs = (Ca.isD d && decide (N ≤ 12) && Ca.okF 0 rs) := by unfold Ca.valid; rw [hN]
  rw [hN] at hc1 ⊢
  rw [hva]
  clear hv hr hN hva
  by_cases d1 : d < 0
  · have e1 : Ca.isD d = false := by cases e : Ca.isD d with
      | false => rfl
      | true => have := (Ca.isD_iff d).1 e; omega
    rw [e1, Bool.false_and, Bool.false_and]
    clear e1
    go_enter Try.func17, Try.ntmps17
    go_wp2
    go_ret
    exact ⟨rfl, (Below.refl _ _).alloc (Nat.le_refl _) _⟩
  by_cases d2 : 100 < d
  · have e1 : Ca.isD d = false := by cases e : Ca.isD d with
      | false => rfl
      | true => have := (Ca.isD_iff d).1 e; omega
    rw [e1, Bool.false_and, Bool.false_and]
    clear e1
    go_enter Try.func17, Try.ntmps17
    go_wp2
    go_ret
    exact ⟨rfl, (Below.refl _ _).alloc (Nat.le_refl _) _⟩
  have e1 : Ca.isD d = true := (Ca.isD_iff d).2 ⟨by omega, by omega⟩
  rw [e1, Bool.true_and]
  clear e1
  by_cases d3 : 12 < N
  · rw [decide_eq_false (show ¬ N ≤ 12 by omega), Bool.false_and]
    have d4 : (12 : Int) < (N : Int) := by omega
    clear d3
    go_enter Try.func17, Try.ntmps17
    go_wp2
    go_ret
    exact ⟨rfl, (Below.refl _ _).alloc (Nat.le_refl _) _⟩
  rw [decide_eq_true (show N ≤ 12 by omega), Bool.true_and]
  have d4 : ¬ (12 : Int) < (N : Int) := by omega
  go_enter Try.func17, Try.ntmps17
  go_wp2
  go_loopw [3, 4] (fun i _ wr => ∃ k : Nat, k ≤ N ∧ i = .int .i64 (k : Int) ∧ Hid (Ca.okF 0 (rs.take k) = true) ∧ Below w.heap.size w wr ∧ Row wr w.heap.size 24 #[.int .i64 d, .slice A N c]) (fun i _ _ => N - (intOf i).toNat)
  case atStart => exact ⟨0, by omega, rfl, Lib.hid rfl, (Below.refl _ _).alloc (Nat.le_refl _) _, Row.new _ _ _⟩
  case round =>
    obtain ⟨k, hk, rfl, HOK, hbw, hbox⟩ := hrel
    have hb0 := hbox.cell 0
    have hb1 := hbox.cell 1
    simp only [List.getElem?_toArray, List.getElem?_cons_zero, List.getElem?_cons_succ] at hb0 hb1
    have hsz := hbox.lt
    by_cases hlt : k < N
    · have hkl : k < rs.length := by have := HN.out; omega
      obtain ⟨g, off, rfl, hg, hcell⟩ := HV.out k hkl
      obtain ⟨c0, c1, c2⟩ := cells3 hcell k hkl
      rw [← hbw.cell (p := ⟨g, off + k * 3, none⟩) hg] at c0
      rw [← hbw.cell (p := ⟨g, off + k * 3 + 1, none⟩) hg] at c1
      rw [← hbw.cell (p := ⟨g, off + k * 3 + 2, none⟩) hg] at c2
      have HBAD := fun h => okF_bad hkl HOK.out h
      have HGOOD := fun h => okF_good hkl HOK.out h
      have hlast : ∀ m, (hm : k = m + 1) → ∃ y, Ca.lastNx 0 (rs.take k) = y + 1 ∧ wr.cell? ⟨g, off + m * 3, none⟩ = some (.int .i64 y) := fun m hm => by
        obtain ⟨l0, l1, l2⟩ := cells3 hcell m (by omega)
        exact ⟨rs[m].1, by subst hm; exact last_at rs m (by omega), (hbw.cell (p := ⟨g, off + m * 3, none⟩) hg).trans l0⟩
      have hlast0 : k = 0 → Ca.lastNx 0 (rs.take k) = 0 := fun h => by rw [h]; rfl
      obtain ⟨x, hx⟩ : ∃ x, rs[k] = x := ⟨_, rfl⟩
      rw [hx] at c0 c1 c2 HBAD HGOOD
      obtain ⟨nx, hnx⟩ : ∃ nx, Ca.lastNx 0 (rs.take k) = nx := ⟨_, rfl⟩
      rw [hnx] at HBAD HGOOD hlast0
      simp only [hnx] at hlast
      obtain ⟨p, q, r⟩ := x
      dsimp only at c0 c1 c2
      have HBW := Lib.hid hbw; have HBX := Lib.hid hbox
      have hgw : g < wr.heap.size := by omega
      have i1 : (0 : Int) ≤ (k : Int) := by omega
      have i2 : (k : Int) < (N : Int) := by omega
      clear hcell hx hnx hbw hbox HOK
      by_cases a0 : p < 0
      · have b0 : decide (p < 0) = true := decide_eq_true a0
        have HB := Lib.hid (HBAD (bad_true (.inr (.inl a0))))
        clear HBAD HGOOD hlast hlast0
        go_wp2
        go_quiet (fail)
        go_wp2
        go_ret
        exact ⟨by rw [HB.out]; rfl, belowN (HBW.out.alloc (by omega) _) _⟩
      have b0 : decide (p < 0) = false := decide_eq_false a0
      by_cases a1 : 10000000 < p
      · have b1 : decide (10000000 < p) = true := decide_eq_true a1
        have HB := Lib.hid (HBAD (bad_true (.inr (.inr (.inl a1)))))
        clear HBAD HGOOD hlast hlast0
        go_wp2
        go_quiet (fail)
        go_wp2
        go_ret
        exact ⟨by rw [HB.out]; rfl, belowN (HBW.out.alloc (by omega) _) _⟩
      have b1 : decide (10000000 < p) = false := decide_eq_false a1
      by_cases a2 : q < 0
      · have b2 : decide (q < 0) = true := decide_eq_true a2
        have HB := Lib.hid (HBAD (bad_true (.inr (.inr (.inr (.inl a2))))))
        clear HBAD HGOOD hlast hlast0
        go_wp2
        go_quiet (fail)
        go_wp2
        go_ret
        exact ⟨by rw [HB.out]; rfl, belowN (HBW.out.alloc (by omega) _) _⟩
      have b2 : decide (q < 0) = false := decide_eq_false a2
      by_cases a3 : r < q
      · have b3 : decide (r < q) = true := decide_eq_true a3
        have HB := Lib.hid (HBAD (bad_true (.inr (.inr (.inr (.inr (.inl a3)))))))
        clear HBAD HGOOD hlast hlast0
        go_wp2
        go_quiet (fail)
        go_wp2
        go_ret
        exact ⟨by rw [HB.out]; rfl, belowN (HBW.out.alloc (by omega) _) _⟩
      have b3 : decide (r < q) = false := decide_eq_false a3
      by_cases a4 : 10000000 < r
      · have b4 : decide (10000000 < r) = true := decide_eq_true a4
        have HB := Lib.hid (HBAD (bad_true (.inr (.inr (.inr (.inr (.inr a4)))))))
        clear HBAD HGOOD hlast hlast0
        go_wp2
        go_quiet (fail)
        go_wp2
        go_ret
        exact ⟨by rw [HB.out]; rfl, belowN (HBW.out.alloc (by omega) _) _⟩
      have b4 : decide (10000000 < r) = false := decide_eq_false a4
      by_cases k0 : k = 0
      · have hn0 := hlast0 k0
        subst k0
        simp only [Nat.zero_mul, Nat.add_zero] at c0 c1 c2
        have HG := Lib.hid (HGOOD (bad_false (by omega) a0 a1 a2 a3 a4))
        clear HBAD HGOOD hlast hlast0
        go_wp2
        go_quiet (fail)
        go_wp2
        go_roundw
        case rel => exact ⟨_, by omega, by go_num, HG, belowN (HBW.out.alloc (by omega) _) _, (HBX.out.alloc _).drewN _⟩
        case measure => simp [intOf]; omega
      obtain ⟨m, rfl⟩ : ∃ m, k = m + 1 := ⟨k - 1, by omega⟩
      obtain ⟨y, hy, l0⟩ := hlast m rfl
      have m1 : (m : Int) + 1 - 1 = (m : Int) := by omega
      have m2 : (0 : Int) < (m : Int) + 1 := by omega
      have m5 : decide ((0 : Int) < (m : Int) + 1) = true := decide_eq_true m2
      have m3 : (0 : Int) ≤ (m : Int) := by omega
      have m4 : (m : Int) < (N : Int) := by omega
      by_cases a5 : p ≤ y
      · have b5 : decide (p ≤ y) = true := decide_eq_true a5
        have hlt9 : p < nx := by omega
        have HB := Lib.hid (HBAD (bad_true (.inl hlt9)))
        clear HBAD HGOOD hlast hlast0
        go_wp2
        go_quiet (fail)
        go_wp2
        go_ret
        exact ⟨by rw [HB.out]; rfl, belowN (HBW.out.alloc (by omega) _) _⟩
      have b5 : decide (p ≤ y) = false := decide_eq_false a5
      have HG := Lib.hid (HGOOD (bad_false (by omega) a0 a1 a2 a3 a4))
      clear HBAD HGOOD hlast hlast0
      go_wp2
      go_quiet (fail)
      go_wp2
      go_roundw
      case rel => exact ⟨_, by omega, by go_num, HG, belowN (HBW.out.alloc (by omega) _) _, (HBX.out.alloc _).drewN _⟩
      case measure => simp [intOf]; omega
    · have hkN : k = N := by omega
      have hta : rs.take k = rs := List.take_of_length_le (by have := HN.out; omega)
      have hok := HOK.out
      rw [hta] at hok
      have HO := Lib.hid hok; have HBW := Lib.hid hbw
      clear hok hta hbw hbox hkN
      go_wp2
      go_ret
      exact ⟨by rw [HO.out]; rfl, HBW.out⟩
end Go.Proofs.Ytfbgfcpehlimfaa
