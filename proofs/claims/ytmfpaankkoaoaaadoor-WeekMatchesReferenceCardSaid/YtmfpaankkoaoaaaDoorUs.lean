/- isNew. -/
import Derived.Test.YtmfpaankkoaoaaaDoorUr
namespace Go.Proofs.YtmfpaankkoaoaaaDoor
open Go.RowKit Go.Shelf

/-- Whether a day with the hours x shows that the group is no new one. -/
def clash (days hours : Nat) (d : Nat) (x : Nat) : Bool := decide (x = hours) || (decide (x ≠ 0) && days.testBit d)
/-- Whether none of the groups that made the week has a day of this one, or its hours. -/
def newG (days hours : Nat) (l : List Int) : Bool := (List.range 7).all fun d => !clash days hours d (hrs l d)
theorem newG_bad {days hours k : Nat} {l : List Int} (hk : k < 7) (h : clash days hours k (hrs l k) = true) : newG days hours l = false := by
  unfold newG
  rw [List.all_eq_false]
  exact ⟨k, List.mem_range.2 hk, by simp [h]⟩
theorem newG_ok {days hours : Nat} {l : List Int} (h : ∀ k, k < 7 → clash days hours k (hrs l k) = false) : newG days hours l = true := by
  unfold newG
  rw [List.all_eq_true]
  intro k hk
  simp [h k (List.mem_range.1 hk)]
set_option maxRecDepth 100000 in
set_option maxHeartbeats 2000000 in
theorem isNew_any (days hours : Nat) (hd : days ≤ 16777215) (l : List Int) (h7 : l.length = 7) (hv : validW l = true) (w : World) : Calls Tryd.prog 50 #[.agg #[.int .i64 (days : Int), .int .i64 (hours : Int)], wv l] w fun e w' => e = .returned (.bool (newG days hours l)) ∧ Below w.heap.size w w' := by
  have HI := Lib.hid (fun k (hk : k < 7) (w : World) => run_index_week l h7 k _ (hrs_at hv (show k < l.length by omega)).1 w)
  have HS := Lib.hid (fun k (hk : k < 7) => (hrs_at hv (show k < l.length by omega)).2)
  have HN1 := Lib.hid (fun k (hk : k < 7) (h : clash days hours k (hrs l k) = true) => newG_bad hk h)
  have HN2 := Lib.hid (fun (h : ∀ k, k < 7 → clash days hours k (hrs l k) = false) => newG_ok h)
  obtain ⟨r, hr⟩ : ∃ r, newG days hours l = r := ⟨_, rfl⟩
  rw [hr] at HN1 HN2 ⊢
  obtain ⟨H, hH⟩ : ∃ H : Nat → Nat, hrs l = H := ⟨_, rfl⟩
  rw [hH] at HI HS HN1 HN2
  obtain ⟨L, hL⟩ : ∃ L, l = L := ⟨_, rfl⟩
  obtain ⟨a, b, c, d, e, f, g, rfl⟩ := seven h7
  rw [hL] at HI ⊢
  have hwv : wv L = .agg #[.int .i64 a, .int .i64 b, .int .i64 c, .int .i64 d, .int .i64 e, .int .i64 f, .int .i64 g] := by rw [← hL]; rfl
  rw [hwv] at HI ⊢
  clear hwv h7 hL hv hr hH
  have HHAS := Lib.hid (fun k (hk : k < 7) u => has_any days k hd (show k < 63 by omega) u)
  go_enter Tryd.func50, Tryd.ntmps50
  go_wp2
  go_loop [5, 6, 8] (fun _ _ i => ∃ k : Nat, k ≤ 7 ∧ i = .int .i64 (k : Int) ∧ Hid (∀ j, j < k → clash days hours j (H j) = false)) (fun _ _ i => 7 - (intOf i).toNat)
  case atStart => exact ⟨0, by omega, rfl, Lib.hid (fun j hj => absurd hj (Nat.not_lt_zero _))⟩
  case round =>
    obtain ⟨k, hk, rfl, HV⟩ := hrel
    have i1 : (0 : Int) ≤ (k : Int) := by omega
    by_cases hlt : k < 7
    · have i2 : (k : Int) < 7 := by omega
      have hidx := fun w => HI.out k hlt w
      have HH := Lib.hid (fun u => HHAS.out k hlt u)
      have hN := HN1.out k hlt
      have hC : clash days hours k (H k) = (decide (H k = hours) || (decide (H k ≠ 0) && days.testBit k)) := rfl
      obtain ⟨x, hx⟩ : ∃ x, H k = x := ⟨_, rfl⟩
      obtain ⟨q, hq⟩ : ∃ q, days.testBit k = q := ⟨_, rfl⟩
      rw [hx] at hidx
      rw [hq] at HH
      have HC := Lib.hid (show clash days hours k (H k) = (decide (x = hours) || (decide (x ≠ 0) && q)) by rw [hC, hx, hq])
      have HN := Lib.hid hN
      clear hN hC hx hq HI HS HHAS
      by_cases c1 : x = hours
      · have t1 : ((x : Int) == (hours : Int)) = true := by simp; omega
        have HX := Lib.hid (HN.out (by rw [HC.out, decide_eq_true c1]; rfl))
        clear c1 HN HC
        go_wp2_with (go_at_call 33; ((with_reducible refine Calls.mono (HH.out _) ?_); rintro e' w1 ⟨rfl, rfl⟩))
        go_ret
        exact ⟨by rw [HX.out]; rfl, ((Below.refl _ _).alloc (Nat.le_refl _) _).alloc (by simp) _⟩
      · have t1 : ((x : Int) == (hours : Int)) = false := by simp; omega
        by_cases c2 : x = 0
        · have HX := Lib.hid (show clash days hours k (H k) = false by rw [HC.out, decide_eq_false c1, decide_eq_false (fun h => h c2)]; rfl)
          have t2 : ((x : Int) == 0) = true := by simp; omega
          have t3 : ((x : Int) != 0) = false := by simp; omega
          clear c1 c2 HN HC
          go_wp2_with (go_at_call 33; ((with_reducible refine Calls.mono (HH.out _) ?_); rintro e' w1 ⟨rfl, rfl⟩))
          go_round
          case rel => exact ⟨k + 1, by omega, by go_num, Lib.hid (fun j hj => if h : j = k then by rw [h]; exact HX.out else HV.out j (by omega))⟩
          case measure => simp [intOf]; omega
        · have t2 : ((x : Int) == 0) = false := by simp; omega
          have t3 : ((x : Int) != 0) = true := by simp; omega
          cases q with
          | true =>
            have HX := Lib.hid (HN.out (by rw [HC.out, decide_eq_true c2]; simp))
            clear c1 c2 HN HC
            go_wp2_with (go_at_call 33; ((with_reducible refine Calls.mono (HH.out _) ?_); rintro e' w1 ⟨rfl, rfl⟩))
            go_ret
            exact ⟨by rw [HX.out]; rfl, ((Below.refl _ _).alloc (Nat.le_refl _) _).alloc (by simp) _⟩
          | false =>
            have HX := Lib.hid (show clash days hours k (H k) = false by rw [HC.out, decide_eq_false c1]; simp)
            clear c1 c2 HN HC
            go_wp2_with (go_at_call 33; ((with_reducible refine Calls.mono (HH.out _) ?_); rintro e' w1 ⟨rfl, rfl⟩))
            go_round
            case rel => exact ⟨k + 1, by omega, by go_num, Lib.hid (fun j hj => if h : j = k then by rw [h]; exact HX.out else HV.out j (by omega))⟩
            case measure => simp [intOf]; omega
    · obtain rfl : k = 7 := by omega
      have HX := Lib.hid (HN2.out HV.out)
      go_wp2
      go_ret
      exact ⟨by rw [HX.out]; rfl, ((Below.refl _ _).alloc (Nat.le_refl _) _).alloc (by simp) _⟩
end Go.Proofs.YtmfpaankkoaoaaaDoor
