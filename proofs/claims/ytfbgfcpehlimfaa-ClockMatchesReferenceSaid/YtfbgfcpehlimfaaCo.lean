/- Contracts of the reference's Fits, Spread and bounds. -/
import Derived.Test.YtfbgfcpehlimfaaCn
namespace Go.Proofs.Ytfbgfcpehlimfaa
open Go.RowKit

theorem mulb (a y b c : Int) (h1 : 0 ≤ a) (h2 : a ≤ b) (h3 : 0 ≤ y) (h4 : y ≤ c) : 0 ≤ a * y ∧ a * y ≤ b * c :=
  ⟨Int.mul_nonneg h1 h3, Int.le_trans (Int.mul_le_mul_of_nonneg_right h2 h3) (Int.mul_le_mul_of_nonneg_left h4 (by omega))⟩
set_option maxRecDepth 100000 in
set_option maxHeartbeats 1000000 in
theorem fits_any (d x n : Int) (w : World) (d1 : 0 ≤ d) (d2 : d ≤ 100) (x1 : 0 ≤ x) (x2 : x ≤ 20000002) (n1 : 0 ≤ n) (n2 : n ≤ 10000000) :
    Calls Try.prog 31 #[.int .i64 d, .int .i64 x, .int .i64 n] w fun e w' => e = .returned (.bool (decide (Ca.lo d n ≤ x) && decide (x ≤ Ca.hi d n))) ∧ w = w' := by
  have h1 := Ca.lo_le d n x d1
  have h2 := Ca.le_hi d n x d2
  obtain ⟨t1, t2⟩ := mulb (1000 - d) x 1000 20000002 (by omega) (by omega) x1 x2
  obtain ⟨t3, t4⟩ := mulb (1000 + d) x 1100 20000002 (by omega) (by omega) x1 x2
  obtain ⟨P1, hP1⟩ : ∃ P1, (1000 - d) * x = P1 := ⟨_, rfl⟩
  obtain ⟨P2, hP2⟩ : ∃ P2, (1000 + d) * x = P2 := ⟨_, rfl⟩
  rw [hP1] at t1 t2 h2
  rw [hP2] at t3 t4 h1
  by_cases g1 : P1 - 1000 < 1000 * n
  · rw [decide_eq_true (h2.2 g1)]
    by_cases g2 : 1000 * n < P2 + 1000
    · rw [decide_eq_true (h1.2 g2)]
      clear h1 h2
      go_enter Try.func31, Try.ntmps31
      go_wp2
      go_ret
      exact ⟨rfl, rfl⟩
    · rw [decide_eq_false (fun h => g2 (h1.1 h))]
      clear h1 h2
      go_enter Try.func31, Try.ntmps31
      go_wp2
      go_ret
      exact ⟨rfl, rfl⟩
  · rw [decide_eq_false (fun h => g1 (h2.1 h)), Bool.and_false]
    clear h1 h2
    go_enter Try.func31, Try.ntmps31
    go_wp2
    go_ret
    exact ⟨rfl, rfl⟩
theorem tdiv_first (d n : Int) (d1 : 0 ≤ d) (n1 : 0 ≤ n) : -1 ≤ (1000 * (n - 1)).tdiv (1000 + d) ∧ (1000 * (n - 1)).tdiv (1000 + d) ≤ Ca.lo d n := by
  by_cases h : n = 0
  · subst h
    have e : (1000 * ((0 : Int) - 1)).tdiv (1000 + d) = -((1000 : Int).tdiv (1000 + d)) := by
      rw [show (1000 * ((0 : Int) - 1)) = -1000 by omega, Int.neg_tdiv]
    have e2 : (1000 : Int).tdiv (1000 + d) = 1000 / (1000 + d) := Int.tdiv_eq_ediv_of_nonneg (by omega)
    have a := Int.ediv_nonneg (a := 1000) (b := 1000 + d) (by omega) (by omega)
    have b : (1000 : Int) / (1000 + d) ≤ 1 := Int.ediv_le_of_le_mul (by omega) (by omega)
    have c := Ca.lo_nonneg d 0 d1 (by omega)
    rw [e, e2]; omega
  · have e : (1000 * (n - 1)).tdiv (1000 + d) = 1000 * (n - 1) / (1000 + d) := Int.tdiv_eq_ediv_of_nonneg (by omega)
    rw [e]
    have a := Int.ediv_nonneg (a := 1000 * (n - 1)) (b := 1000 + d) (by omega) (by omega)
    have b : 1000 * (n - 1) / (1000 + d) ≤ Ca.lo d n := Int.ediv_le_ediv (by omega) (by omega)
    omega
theorem tdiv_second (d n : Int) (d2 : d ≤ 100) (n1 : 0 ≤ n) : 0 ≤ (1000 * n).tdiv (1000 - d) ∧ (1000 * n).tdiv (1000 - d) ≤ Ca.hi d n := by
  have e : (1000 * n).tdiv (1000 - d) = 1000 * n / (1000 - d) := Int.tdiv_eq_ediv_of_nonneg (by omega)
  rw [e]
  exact ⟨Int.ediv_nonneg (by omega) (by omega), Int.ediv_le_ediv (by omega) (by omega)⟩
set_option maxRecDepth 100000 in
set_option maxHeartbeats 2000000 in
theorem rspread_ok (d n : Int) (w : World) (d1 : 0 ≤ d) (d2 : d ≤ 100) (n1 : 0 ≤ n) (n2 : n ≤ 10000000) :
    Calls Try.prog 11 #[.int .i64 d, .int .i64 n] w fun e w' => e = .returned (.tuple #[.int .i64 (Ca.lo d n), .int .i64 (Ca.hi d n)]) ∧ w = w' := by
  have hf := fun (x : Int) (w : World) (x1 : 0 ≤ x) (x2 : x ≤ 20000002) => fits_any d x n w d1 d2 x1 x2 n1 n2
  obtain ⟨a1, a2⟩ := tdiv_first d n d1 n1
  obtain ⟨b1, b2⟩ := tdiv_second d n d2 n1
  have c1 := Ca.lo_nonneg d n d1 n1
  have c2 := Ca.lo_hi d n d1 d2 n1
  have c3 := Ca.hi_top d n d1 d2 n1 n2
  obtain ⟨lo, hlo⟩ : ∃ lo, Ca.lo d n = lo := ⟨_, rfl⟩
  obtain ⟨hi, hhi⟩ : ∃ hi, Ca.hi d n = hi := ⟨_, rfl⟩
  obtain ⟨p, hp⟩ : ∃ p, (1000 * (n - 1)).tdiv (1000 + d) = p := ⟨_, rfl⟩
  obtain ⟨q, hq⟩ : ∃ q, (1000 * n).tdiv (1000 - d) = q := ⟨_, rfl⟩
  rw [hlo, hhi] at hf ⊢
  rw [hlo] at a2 c1 c2
  rw [hhi] at b2 c2 c3
  rw [hp] at a1 a2
  rw [hq] at b1 b2
  obtain ⟨m1, hm1⟩ : ∃ m1, max (p - 1) 0 = m1 := ⟨_, rfl⟩
  obtain ⟨m2, hm2⟩ : ∃ m2, max (q - 1) lo = m2 := ⟨_, rfl⟩
  have hx1 := fun (w : World) => run_max2 (P := Try.prog) (w := w) #[3, 3] 3 .i64 .i64 (p - 1) 0 m1 hm1
  have hx2 := fun (w : World) => run_max2 (P := Try.prog) (w := w) #[3, 3] 3 .i64 .i64 (q - 1) lo m2 hm2
  have z1 : ¬ (1000 + d = 0) := by omega
  have z2 : ¬ (1000 - d = 0) := by omega
  have r1 : 0 ≤ m1 := by omega
  have r2 : m1 ≤ lo := by omega
  have r3 : lo ≤ m2 := by omega
  have r4 : m2 ≤ hi := by omega
  have HF := Lib.hid hf
  clear hlo hhi hm1 hm2 hf
  go_enter Try.func11, Try.ntmps11
  go_wp2
  go_loop [6] (fun s => ∃ x : Int, s = .int .i64 x ∧ 0 ≤ x ∧ x ≤ lo) (fun s => (lo - intOf s).toNat)
  case atStart => exact ⟨m1, rfl, r1, r2⟩
  case round =>
    obtain ⟨x, rfl, x1, x2⟩ := hrel
    have hfx := fun w => HF.out x w x1 (by omega)
    by_cases hx : x = lo
    · subst hx
      rw [decide_eq_true (Int.le_refl x), decide_eq_true c2, Bool.and_self] at hfx
      go_wp2_with (go_at_call 31; refine (hfx _).mono ?_; rintro e w' ⟨rfl, rfl⟩)
      go_loop [7] (fun s => ∃ y : Int, s = .int .i64 y ∧ x ≤ y ∧ y ≤ hi) (fun s => (hi - intOf s).toNat)
      case atStart => exact ⟨m2, rfl, r3, r4⟩
      case round =>
        obtain ⟨y, rfl, y1, y2⟩ := hrel
        have hfy := fun w => HF.out (y + 1) w (by omega) (by omega)
        rw [decide_eq_true (show x ≤ y + 1 by omega), Bool.true_and] at hfy
        clear hfx
        by_cases hy : y = hi
        · subst hy
          rw [decide_eq_false (show ¬ y + 1 ≤ y by omega)] at hfy
          go_wp2_with (go_at_call 31; refine (hfy _).mono ?_; rintro e w' ⟨rfl, rfl⟩)
          go_ret2
          exact ⟨rfl, rfl⟩
        · rw [decide_eq_true (show y + 1 ≤ hi by omega)] at hfy
          go_wp2_with (go_at_call 31; refine (hfy _).mono ?_; rintro e w' ⟨rfl, rfl⟩)
          go_round
          case rel => exact ⟨y + 1, rfl, by omega, by omega⟩
          case measure => simp [intOf]; omega
    · rw [decide_eq_false (show ¬ lo ≤ x by omega), Bool.false_and] at hfx
      go_wp2_with (go_at_call 31; refine (hfx _).mono ?_; rintro e w' ⟨rfl, rfl⟩)
      go_round
      case rel => exact ⟨x + 1, rfl, by omega, by omega⟩
      case measure => simp [intOf]; omega
end Go.Proofs.Ytfbgfcpehlimfaa
