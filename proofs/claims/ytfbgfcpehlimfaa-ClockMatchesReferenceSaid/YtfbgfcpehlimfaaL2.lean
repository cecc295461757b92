/- The law ClockExact answers true. -/
import Derived.Test.YtfbgfcpehlimfaaCl
import Derived.Test.YtfbgfcpehlimfaaCx
namespace Go.Proofs.Ytfbgfcpehlimfaa
open Go.RowKit

theorem pick_k {W : World} (c n : Int) (hn : 0 < n) (hn2 : n ≤ 9223372036854775807) (h : I64 c) : Known W 18 #[.int .i64 c, .int .i64 n] (.int .i64 (pickI c n)) := fun u _ => (pick_any c n hn hn2 h.1 h.2 u).mono fun _ _ ⟨h1, h2⟩ => ⟨h1, h2 ▸ Below.refl _ _⟩
theorem mul_bound (a y b c : Int) (h1 : 0 ≤ a) (h2 : a ≤ b) (h3 : 0 ≤ y) (h4 : y ≤ c) : 0 ≤ a * y ∧ a * y ≤ b * c :=
  ⟨Int.mul_nonneg h1 h3, Int.le_trans (Int.mul_le_mul_of_nonneg_right h2 h3) (Int.mul_le_mul_of_nonneg_left h4 (by omega))⟩
set_option maxRecDepth 100000 in
set_option maxHeartbeats 8000000 in
theorem exact_any (drift more n m x : Int) (w : World) (h1 : I64 drift) (h2 : I64 more) (h3 : I64 n) (h4 : I64 m) (h5 : I64 x) :
    Calls Try.prog 4 #[.int .i64 drift, .int .i64 more, .int .i64 n, .int .i64 m, .int .i64 x] w fun e w' => e = .returned (.bool true) ∧ Below w.heap.size w w' := by
  have hcur : Below w.heap.size w w := Below.refl _ _
  have S0 := Lib.hid (fun (u : World) (_ : Below w.heap.size w u) => sane_any u)
  have k1 := pick_k (W := w) drift 101 (by omega) (by omega) h1
  obtain ⟨d1, d2⟩ := pickI_lt drift 101 (by omega)
  obtain ⟨d, hd⟩ : ∃ d, pickI drift 101 = d := ⟨_, rfl⟩
  rw [hd] at k1 d1 d2
  have k2 := pick_k (W := w) n 10000001 (by omega) (by omega) h3
  obtain ⟨n1, n2⟩ := pickI_lt n 10000001 (by omega)
  obtain ⟨z, hz⟩ : ∃ z, pickI n 10000001 = z := ⟨_, rfl⟩
  rw [hz] at k2 n1 n2
  have k3 := pick_k (W := w) m (10000001 - z) (by omega) (by omega) h4
  obtain ⟨m1, m2⟩ := pickI_lt m (10000001 - z) (by omega)
  obtain ⟨y, hy⟩ : ∃ y, pickI m (10000001 - z) = y := ⟨_, rfl⟩
  rw [hy] at k3 m1 m2
  have k4 := pick_k (W := w) x 20000000 (by omega) (by omega) h5
  obtain ⟨x1, x2⟩ := pickI_lt x 20000000 (by omega)
  obtain ⟨p, hp⟩ : ∃ p, pickI x 20000000 = p := ⟨_, rfl⟩
  rw [hp] at k4 x1 x2
  have k6 := pick_k (W := w) more (101 - d) (by omega) (by omega) h2
  obtain ⟨e1, e2⟩ := pickI_lt more (101 - d) (by omega)
  obtain ⟨e, he⟩ : ∃ e, pickI more (101 - d) = e := ⟨_, rfl⟩
  rw [he] at k6 e1 e2
  have iD : Ca.isD d = true := (Ca.isD_iff d).2 ⟨d1, by omega⟩
  have iE : Ca.isD (d + e) = true := (Ca.isD_iff _).2 ⟨by omega, by omega⟩
  have iZ : Ca.isT z = true := (Ca.isT_iff z).2 ⟨n1, by omega⟩
  have iY : Ca.isT (z + y) = true := (Ca.isT_iff _).2 ⟨by omega, by omega⟩
  have s1 := spread_k w d z
  have s2 := spread_k w 0 z
  have s3 := spread_k w d (z + y)
  have s4 := spread_k w (d + e) z
  rw [spr_ok iD iZ] at s1
  rw [spr_ok (by decide) iZ, Ca.lo_zero, Ca.hi_zero] at s2
  rw [spr_ok iD iY] at s3
  rw [spr_ok iE iZ] at s4
  dsimp only at s1 s2 s3 s4
  have a1 := Ca.lo_nonneg d z d1 n1
  have a2 := Ca.lo_hi d z d1 (by omega) n1
  have a3 := Ca.hi_top d z d1 (by omega) n1 (by omega)
  have a4 := Ca.lo_mono d z (z + y) d1 (by omega)
  have a5 := Ca.hi_mono d z (z + y) (by omega) (by omega)
  have a6 := Ca.lo_wide d e z d1 e1 n1
  have a7 := Ca.hi_wide d e z d1 e1 (by omega) n1
  have L1 := Lib.hid (fun v => Ca.lo_le d z v d1)
  have L2 := Lib.hid (fun v => Ca.le_hi d z v (by omega))
  obtain ⟨lo, hlo⟩ : ∃ lo, Ca.lo d z = lo := ⟨_, rfl⟩
  obtain ⟨hi, hhi⟩ : ∃ hi, Ca.hi d z = hi := ⟨_, rfl⟩
  rw [hlo] at s1 a1 a2 a4 a6 L1
  rw [hhi] at s1 a2 a3 a5 a7 L2
  obtain ⟨l3, hl3⟩ : ∃ l3, Ca.lo d (z + y) = l3 := ⟨_, rfl⟩
  obtain ⟨h3', hh3⟩ : ∃ h3', Ca.hi d (z + y) = h3' := ⟨_, rfl⟩
  obtain ⟨l4, hl4⟩ : ∃ l4, Ca.lo (d + e) z = l4 := ⟨_, rfl⟩
  obtain ⟨h4', hh4⟩ : ∃ h4', Ca.hi (d + e) z = h4' := ⟨_, rfl⟩
  rw [hl3] at s3 a4
  rw [hh3] at s3 a5
  rw [hl4] at s4 a6
  rw [hh4] at s4 a7
  have k5 := pick_k (W := w) x (hi - lo + 1) (by omega) (by omega) h5
  obtain ⟨y1, y2⟩ := pickI_lt x (hi - lo + 1) (by omega)
  obtain ⟨q, hq⟩ : ∃ q, pickI x (hi - lo + 1) = q := ⟨_, rfl⟩
  rw [hq] at k5 y1 y2
  have K1 := Lib.hid k1; have K2 := Lib.hid k2; have K3 := Lib.hid k3; have K4 := Lib.hid k4; have K5 := Lib.hid k5; have K6 := Lib.hid k6
  have S1 := Lib.hid s1; have S2 := Lib.hid s2; have S3 := Lib.hid s3; have S4 := Lib.hid s4
  clear k1 k2 k3 k4 k5 k6 s1 s2 s3 s4 hd hz hy hp he hq hlo hhi hl3 hh3 hl4 hh4 h1 h2 h3 h4 h5 iD iE iZ iY
  go_enter Try.func4, Try.ntmps4
  go_wp2_with (first | (go_at_call 9; (first | (with_reducible refine Calls.mono (S0.out _ hcur) ?_)); rintro e w' ⟨rfl, hb⟩; have hcur := below_to hcur hb; clear hb) | (go_at_call 18; (first | (with_reducible refine Calls.mono (K1.out _ hcur) ?_) | (with_reducible refine Calls.mono (K2.out _ hcur) ?_) | (with_reducible refine Calls.mono (K3.out _ hcur) ?_) | (with_reducible refine Calls.mono (K4.out _ hcur) ?_) | (with_reducible refine Calls.mono (K5.out _ hcur) ?_) | (with_reducible refine Calls.mono (K6.out _ hcur) ?_)); rintro e w' ⟨rfl, hb⟩; have hcur := below_to hcur hb; clear hb) | (go_at_call 10; (first | (with_reducible refine Calls.mono (S1.out _ hcur) ?_) | (with_reducible refine Calls.mono (S2.out _ hcur) ?_) | (with_reducible refine Calls.mono (S3.out _ hcur) ?_) | (with_reducible refine Calls.mono (S4.out _ hcur) ?_)); rintro e w' ⟨rfl, hb⟩; have hcur := below_to hcur hb; clear hb))
  go_loopw [16, 17] (fun i _ wr => ∃ k : Nat, k ≤ 6 ∧ i = .int .i64 (k : Int) ∧ Below w.heap.size w wr ∧ Row wr w'.heap.size 3 #[.int .i64 (lo - 1), .int .i64 lo, .int .i64 hi, .int .i64 (hi + 1), .int .i64 p, .int .i64 (lo + q)]) (fun i _ _ => 6 - (intOf i).toNat)
  case atStart => exact ⟨0, by omega, rfl, hcur.alloc hcur.size _, Row.new _ _ _⟩
  case round =>
    obtain ⟨k, hk, rfl, hbw, hrow⟩ := hrel
    by_cases hlt : k < 6
    · have hel : ∃ v, (#[.int .i64 (lo - 1), .int .i64 lo, .int .i64 hi, .int .i64 (hi + 1), .int .i64 p, .int .i64 (lo + q)] : Array Value)[k]? = some (.int .i64 v) ∧ -1 ≤ v ∧ v ≤ 20000001 := by
        have : k = 0 ∨ k = 1 ∨ k = 2 ∨ k = 3 ∨ k = 4 ∨ k = 5 := by omega
        rcases this with rfl | rfl | rfl | rfl | rfl | rfl <;> exact ⟨_, rfl, by omega, by omega⟩
      obtain ⟨v, hv, v1, v2⟩ := hel
      have c0 := hrow.cell k
      rw [hv] at c0
      have i1 : (0 : Int) ≤ (k : Int) := by omega
      have i2 : (k : Int) < 6 := by omega
      have HROW := Lib.hid hrow
      clear hrow hv
      by_cases v0 : 0 ≤ v
      · obtain ⟨t1, t2⟩ := mul_bound (1000 - d) v 1000 20000001 (by omega) (by omega) v0 v2
        obtain ⟨t3, t4⟩ := mul_bound (1000 + d) v 1100 20000001 (by omega) (by omega) v0 v2
        have l1 := L1.out v
        have l2 := L2.out v
        obtain ⟨P1, hP1⟩ : ∃ P1, (1000 - d) * v = P1 := ⟨_, rfl⟩
        obtain ⟨P2, hP2⟩ : ∃ P2, (1000 + d) * v = P2 := ⟨_, rfl⟩
        rw [hP1] at t1 t2 l2
        rw [hP2] at t3 t4 l1
        by_cases hA : v ≤ hi
        · have g1 : P1 - 1000 < 1000 * z := l2.1 hA
          by_cases hB : lo ≤ v
          · have g2 : 1000 * z < P2 + 1000 := l1.1 hB
            clear l1 l2
            go_wp2
            go_roundw
            case rel => exact ⟨k + 1, by omega, by go_num, hbw, HROW.out⟩
            case measure => simp [intOf]; omega
          · have g2 : ¬ 1000 * z < P2 + 1000 := fun h => hB (l1.2 h)
            clear l1 l2
            go_wp2
            go_roundw
            case rel => exact ⟨k + 1, by omega, by go_num, hbw, HROW.out⟩
            case measure => simp [intOf]; omega
        · have g1 : ¬ P1 - 1000 < 1000 * z := fun h => hA (l2.2 h)
          have hB : lo ≤ v := by omega
          clear l1 l2
          go_wp2
          go_roundw
          case rel => exact ⟨k + 1, by omega, by go_num, hbw, HROW.out⟩
          case measure => simp [intOf]; omega
      · have hB : ¬ lo ≤ v := by omega
        go_wp2
        go_roundw
        case rel => exact ⟨k + 1, by omega, by go_num, hbw, HROW.out⟩
        case measure => simp [intOf]; omega
    · have hk6 : k = 6 := by omega
      subst hk6
      clear hrow
      have hcur : Below w.heap.size w wr := hbw
      go_wp2_with (first | (go_at_call 9; (first | (with_reducible refine Calls.mono (S0.out _ hcur) ?_)); rintro e w' ⟨rfl, hb⟩; have hcur := below_to hcur hb; clear hb) | (go_at_call 18; (first | (with_reducible refine Calls.mono (K1.out _ hcur) ?_) | (with_reducible refine Calls.mono (K2.out _ hcur) ?_) | (with_reducible refine Calls.mono (K3.out _ hcur) ?_) | (with_reducible refine Calls.mono (K4.out _ hcur) ?_) | (with_reducible refine Calls.mono (K5.out _ hcur) ?_) | (with_reducible refine Calls.mono (K6.out _ hcur) ?_)); rintro e w' ⟨rfl, hb⟩; have hcur := below_to hcur hb; clear hb) | (go_at_call 10; (first | (with_reducible refine Calls.mono (S1.out _ hcur) ?_) | (with_reducible refine Calls.mono (S2.out _ hcur) ?_) | (with_reducible refine Calls.mono (S3.out _ hcur) ?_) | (with_reducible refine Calls.mono (S4.out _ hcur) ?_)); rintro e w' ⟨rfl, hb⟩; have hcur := below_to hcur hb; clear hb))
      go_ret
      exact ⟨rfl, hcur⟩
end Go.Proofs.Ytfbgfcpehlimfaa
