/- Contracts of quotientBounds, of sort.Search with greatest's function, and of greatest. -/
import Derived.Test.YtflpfmkfjccmiaaGreatDoorIk
import Derived.Deep.RegionHeld3
namespace Go.Proofs.YtflpfmkfjccmiaaGreatDoor
open Go.RowKit

def BoundsPost (q : Nat) (w : World) (e : Ending) (w' : World) : Prop := ∃ lo hi : Nat, e = .returned (.tuple #[.int .i64 (lo : Int), .int .i64 (hi : Int)]) ∧ lo ≤ q ∧ q ≤ hi ∧ hi ≤ 9999 ∧ Below w.heap.size w w'
set_option maxRecDepth 100000 in
set_option maxHeartbeats 1000000 in
theorem bounds_any (va vd : Value) (a d : Nat) (w : World) (ha : Mag w va a) (hd : Mag w vd d) (hd0 : d ≠ 0) (hl : (Im.grp a).length ≤ (Im.grp d).length + 1) (hdl : (Im.grp d).length ≤ 400) (hq : a / d ≤ 9999) :
    Calls Tryz.prog 80 #[va, vd] w (BoundsPost (a / d) w) := by
  have hlen0 : (Im.grp d).length ≠ 0 := fun e => hd0 ((Im.grp_len0 d).1 e)
  obtain ⟨f, hf⟩ : ∃ f, (Im.grp d).length - 2 = f := ⟨_, rfl⟩
  have h1 := fun u (hu : Below w.heap.size w u) => above_any vd d f u (hd.next hu) (by omega) (by omega)
  have h2 := fun u (hu : Below w.heap.size w u) => above_any va a f u (ha.next hu) (by omega) (by omega)
  have hpos : 0 < d / 10000 ^ f := Nat.div_pos (Nat.le_trans (Nat.pow_le_pow_right (by decide) (by omega)) (Im.grp_ge d hd0)) (Nat.pow_pos (by decide))
  have hlo := Im.quot_low a d f hpos
  have hhi := Im.quot_high a d f hpos
  have hb1 : d / 10000 ^ f < 10000 ^ 2 := Nat.div_lt_of_lt_mul (by rw [← Nat.pow_add]; exact Nat.lt_of_lt_of_le (Im.grp_lt d) (Nat.pow_le_pow_right (by decide) (by omega)))
  have hb2 : a / 10000 ^ f < 10000 ^ 3 := Nat.div_lt_of_lt_mul (by rw [← Nat.pow_add]; exact Nat.lt_of_lt_of_le (Im.grp_lt a) (Nat.pow_le_pow_right (by decide) (by omega)))
  obtain ⟨x, hx⟩ : ∃ x, d / 10000 ^ f = x := ⟨_, rfl⟩
  obtain ⟨y, hy⟩ : ∃ x, a / 10000 ^ f = x := ⟨_, rfl⟩
  obtain ⟨q, hqq⟩ : ∃ q, a / d = q := ⟨_, rfl⟩
  rw [hx] at h1 hpos hlo hhi hb1; rw [hy] at h2 hlo hhi hb2; rw [hqq] at hlo hhi hq ⊢
  obtain ⟨A, ca, rfl, hca1, hca2⟩ := ints_form ha
  obtain ⟨D, cd, rfl, hcd1, hcd2⟩ := ints_form hd
  obtain ⟨M, hM⟩ : ∃ n, (Im.grp d).length = n := ⟨_, rfl⟩
  rw [hM] at hf hcd1 hlen0 hdl h1 ⊢
  obtain ⟨lo, hlo2⟩ : ∃ t, y / (x + 1) = t := ⟨_, rfl⟩
  obtain ⟨hi, hhi2⟩ : ∃ t, y / x = t := ⟨_, rfl⟩
  rw [hlo2] at hlo; rw [hhi2] at hhi
  have e1 : (y : Int) / ((x : Int) + 1) = (lo : Int) := by rw [← hlo2]; norm_cast
  have e2 : (y : Int) / (x : Int) = (hi : Int) := by rw [← hhi2]; norm_cast
  have hx' : x < 100000000 := hb1
  have hy' : y < 1000000000000 := hb2
  have hhb : hi ≤ 1000000000000 := by rw [← hhi2]; exact Nat.le_trans (Nat.div_le_self _ _) (by omega)
  have hmx := fun (w : World) => run_max2 (P := Tryz.prog) (w := w) #[3, 3] 3 .i64 .i64 0 ((M : Int) - 2) f (by omega)
  obtain ⟨hm, hhm⟩ : ∃ t, min 9999 hi = t := ⟨_, rfl⟩
  have hmn := fun (w : World) => run_min2 (P := Tryz.prog) (w := w) #[3, 3] 3 .i64 .i64 9999 hi hm (by omega)
  have H1 := Lib.hid h1; have H2 := Lib.hid h2
  have HF := Lib.hid (show lo ≤ q ∧ q ≤ hm ∧ hm ≤ 9999 by omega)
  have x1 : (0 : Int) < (x : Int) := by omega
  have x2 : (0 : Int) < (x : Int) + 1 := by omega
  have y1 : (0 : Int) ≤ (y : Int) := by omega
  have x3 : ((x : Int) == 0) = false := by rw [beq_eq_false_iff_ne]; omega
  have x4 : ((x : Int) + 1 == 0) = false := by rw [beq_eq_false_iff_ne]; omega
  have x5 : IntKind.i64.wrap ((x : Int) + 1) = (x : Int) + 1 := IntWalk.i64_in _ (by omega)
  have e3 : (y : Int).tdiv ((x : Int) + 1) = (lo : Int) := by rw [Int.tdiv_eq_ediv_of_nonneg y1]; exact e1
  have e4 : (y : Int).tdiv (x : Int) = (hi : Int) := by rw [Int.tdiv_eq_ediv_of_nonneg y1]; exact e2
  have x6 : IntKind.i64.wrap (lo : Int) = (lo : Int) := IntWalk.i64_in _ (by omega)
  have x7 : IntKind.i64.wrap (hi : Int) = (hi : Int) := IntWalk.i64_in _ (by omega)
  clear h1 h2 hx hy hqq hM hlo2 hhi2 hlo hhi ha hd hf hhm hb1 hb2
  go_enter Tryz.func80, Tryz.ntmps80
  go_wp2_with (first | (go_at_call 101; ((with_reducible refine (H1.out _ (Below.refl _ _)).mono ?_); rintro e w1 ⟨rfl, hb1⟩)) | (go_at_call 101; ((with_reducible refine (H2.out _ hb1).mono ?_); rintro e w2 ⟨rfl, hb2⟩)))
  go_region
  all_goals
    go_wp2
    go_ret2
    exact ⟨lo, hm, rfl, HF.out.1, HF.out.2.1, HF.out.2.2, (below_to hb1 hb2).drew⟩
end Go.Proofs.YtflpfmkfjccmiaaGreatDoor
