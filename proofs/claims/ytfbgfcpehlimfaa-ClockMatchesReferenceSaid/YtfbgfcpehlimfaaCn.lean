/- Contract of the reference's Shown. -/
import Derived.Test.YtfbgfcpehlimfaaCe
import Derived.Test.YtfbgfcpehlimfaaCx
namespace Go.Proofs.Ytfbgfcpehlimfaa
open Go.RowKit

def enc1 (x : Int) : List Value := [.int .i64 x]
theorem cells1 {w : World} {g off : Nat} {l : List Int} (h : ∀ j x, l[j]? = some x → ∀ i u, (enc1 x)[i]? = some u → w.cell? ⟨g, off + j * 1 + i, none⟩ = some u) (j : Nat) (hj : j < l.length) :
    w.cell? ⟨g, off + j, none⟩ = some (.int .i64 l[j]) := by
  have := h j _ (List.getElem?_eq_getElem hj) 0 _ rfl
  rwa [Nat.mul_one, Nat.add_zero] at this
theorem rate_bound (q d n : Int) (h0 : 0 ≤ q) (h1 : q ≤ 2 * d) (hd : d ≤ 100) (hn : 0 ≤ n) : -(100 * n) ≤ (q - d) * n ∧ (q - d) * n ≤ 100 * n := by
  have a : (q - d) * n ≤ 100 * n := Int.mul_le_mul_of_nonneg_right (by omega) hn
  have b : -100 * n ≤ (q - d) * n := Int.mul_le_mul_of_nonneg_right (by omega) hn
  omega
set_option maxRecDepth 100000 in
set_option maxHeartbeats 4000000 in
theorem shown_any (drift start t : Int) (l : List Int) (v : Value) (w : World) (hv : Recs enc1 1 w w.heap.size v l) (hq : ∀ x ∈ l, I64 x) (h1 : I64 drift) (h2 : I64 start) (ht : 0 ≤ t) (ht2 : t < 5000) :
    Calls Try.prog 27 #[.int .i64 drift, .int .i64 start, v, .int .i64 t] w fun e w' => ∃ s : Int, e = .returned (.int .i64 s) ∧ 0 ≤ s ∧ s ≤ 10000 ∧ w = w' := by
  obtain ⟨A, c, rfl, hc1, hc2⟩ := recs_form hv
  have HV := Lib.hid (fun k hk => recs_at hv k hk)
  have HQ := Lib.hid hq
  have hp1 := fun w => rpick_any drift 101 (by omega) (by omega) h1.1 h1.2 w
  have hp2 := fun w => rpick_any start 1000 (by omega) (by omega) h2.1 h2.2 w
  obtain ⟨d1, d2⟩ := pickI_lt drift 101 (by omega)
  obtain ⟨s1, s2⟩ := pickI_lt start 1000 (by omega)
  obtain ⟨d, hd⟩ : ∃ d, pickI drift 101 = d := ⟨_, rfl⟩
  obtain ⟨s, hs⟩ : ∃ s, pickI start 1000 = s := ⟨_, rfl⟩
  rw [hd] at hp1 d1 d2
  rw [hs] at hp2 s1 s2
  obtain ⟨N, hN⟩ : ∃ N, l.length = N := ⟨_, rfl⟩
  have HN := Lib.hid hN
  have HP1 := Lib.hid hp1; have HP2 := Lib.hid hp2
  rw [hN] at hc1 ⊢
  have hN2 : N ≤ 9223372036854775807 := by omega
  clear hv hN hq hp1 hp2 hd hs h1 h2
  go_enter Try.func27, Try.ntmps27
  go_wp2_with (go_at_call 34; refine (HP1.out _).mono ?_; rintro e w' ⟨rfl, rfl⟩)
  go_loop [10, 11] (fun s i => ∃ (k : Nat) (m : Int), k ≤ N ∧ k ≤ 20 ∧ i = .int .i64 (k : Int) ∧ s = .int .i64 m ∧ -(100 * min t (100 * k)) ≤ m ∧ m ≤ 100 * min t (100 * k)) (fun _ i => N - (intOf i).toNat)
  case atStart => exact ⟨0, 0, by omega, by omega, rfl, rfl, by omega, by omega⟩
  case round =>
    obtain ⟨k, m, hk, hk2, rfl, rfl, hm1, hm2⟩ := hrel
    by_cases hlt : k < N ∧ k < 20 ∧ 100 * (k : Int) < t
    · obtain ⟨g1, g2, g3⟩ := hlt
      have hkl : k < l.length := by have := HN.out; omega
      obtain ⟨g, off, rfl, hg, hcell⟩ := HV.out k hkl
      have c0 := cells1 hcell k hkl
      have hx64 := HQ.out l[k] (List.getElem_mem hkl)
      obtain ⟨x, hx⟩ : ∃ x, l[k] = x := ⟨_, rfl⟩
      rw [hx] at c0 hx64
      have hp3 := fun w => rpick_any x (2 * d + 1) (by omega) (by omega) hx64.1 hx64.2 w
      obtain ⟨q1, q2⟩ := pickI_lt x (2 * d + 1) (by omega)
      obtain ⟨q, hq⟩ : ∃ q, pickI x (2 * d + 1) = q := ⟨_, rfl⟩
      rw [hq] at hp3 q1 q2
      obtain ⟨n, hn⟩ : ∃ n, min (t - 100 * (k : Int)) 100 = n := ⟨_, rfl⟩
      have hmn := fun (w : World) => run_min2 (P := Try.prog) (w := w) #[3, 3] 3 .i64 .i64 (t - 100 * (k : Int)) 100 n hn
      obtain ⟨b1, b2⟩ := rate_bound q d n q1 (by omega) (by omega) (by omega)
      obtain ⟨P, hP⟩ : ∃ P, (q - d) * n = P := ⟨_, rfl⟩
      rw [hP] at b1 b2
      have n1 : 0 ≤ n := by omega
      have n2 : n ≤ 100 := by omega
      have hnt : 100 * min t (100 * (k : Int)) + 100 * n = 100 * min t (100 * ((k : Int) + 1)) := by omega
      have i1 : (0 : Int) ≤ (k : Int) := by omega
      have i2 : (k : Int) < (N : Int) := by omega
      have i3 : (k : Int) < 20 := by omega
      have m1 : -500000 ≤ m := by omega
      have m2 : m ≤ 500000 := by omega
      have M1 := Lib.hid hm1; have M2 := Lib.hid hm2; have NT := Lib.hid hnt; have HP3 := Lib.hid hp3
      clear hcell hx hq hn hx64 hm1 hm2 hnt hp3
      go_wp2_with (go_at_call 34; refine (HP3.out _).mono ?_; rintro e w' ⟨rfl, rfl⟩)
      go_round
      case rel => exact ⟨k + 1, m + P, by omega, by omega, by go_num, rfl, by have := M1.out; have := NT.out; omega, by have := M2.out; have := NT.out; omega⟩
      case measure => simp [intOf]; omega
    · have e1 : (m + 1000 * t).tdiv 1000 = (m + 1000 * t) / 1000 := Int.tdiv_eq_ediv_of_nonneg (by omega)
      obtain ⟨Q, hQ⟩ : ∃ Q, (m + 1000 * t) / 1000 = Q := ⟨_, rfl⟩
      have q1 : 0 ≤ Q := by omega
      have q2 : Q ≤ 6000 := by omega
      rw [hQ] at e1
      have m1 : -500000 ≤ m := by omega
      have m2 : m ≤ 500000 := by omega
      clear hQ hm1 hm2
      have i1 : (0 : Int) ≤ (k : Int) := by omega
      by_cases g1 : (k : Int) < (N : Int)
      · by_cases g2 : (k : Int) < 20
        · have g3 : ¬ 100 * (k : Int) < t := fun h => hlt ⟨by omega, by omega, h⟩
          clear hlt
          go_wp2_with (go_at_call 34; refine (HP2.out _).mono ?_; rintro e w' ⟨rfl, rfl⟩)
          go_ret
          exact ⟨s + Q, rfl, by omega, by omega, rfl⟩
        · clear hlt
          go_wp2_with (go_at_call 34; refine (HP2.out _).mono ?_; rintro e w' ⟨rfl, rfl⟩)
          go_ret
          exact ⟨s + Q, rfl, by omega, by omega, rfl⟩
      · clear hlt
        go_wp2_with (go_at_call 34; refine (HP2.out _).mono ?_; rintro e w' ⟨rfl, rfl⟩)
        go_ret
        exact ⟨s + Q, rfl, by omega, by omega, rfl⟩
end Go.Proofs.Ytfbgfcpehlimfaa
