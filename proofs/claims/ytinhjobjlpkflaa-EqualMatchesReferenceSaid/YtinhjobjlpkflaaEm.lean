/- The order of claims. -/
import Derived.Test.YtinhjobjlpkflaaEl
import Derived.Shelf.SlSortCmp.NoneTotal
import Derived.Deep.RegionHeld3
namespace Go.Proofs.Ytinhjobjlpkflaa
open Go.RowKit

def cmpI (x y : Int) : Int := if x < y then -1 else if y < x then 1 else 0
theorem isNaN_any (x : Int) (w : World) : Calls Try.prog 51 #[.int .i64 x] w fun e w' => e = .returned (.bool false) ∧ w = w' := by
  go_enter Try.func51, Try.ntmps51
  go_wp2
  go_ret
  exact ⟨by simp, rfl⟩
theorem compare_any (x y : Int) (w : World) : Calls Try.prog 44 #[.int .i64 x, .int .i64 y] w fun e w' => e = .returned (.int .i64 (cmpI x y)) ∧ w = w' := by
  unfold cmpI
  rcases Int.lt_trichotomy x y with h | h | h
  · rw [if_pos h]
    go_enter Try.func44, Try.ntmps44
    go_wp2_with (go_at_call 51; refine (isNaN_any _ _).mono ?_; rintro e w' ⟨rfl, rfl⟩)
    go_ret
    exact ⟨rfl, rfl⟩
  · subst h
    rw [if_neg (by omega), if_neg (by omega)]
    go_enter Try.func44, Try.ntmps44
    go_wp2_with (go_at_call 51; refine (isNaN_any _ _).mono ?_; rintro e w' ⟨rfl, rfl⟩)
    go_ret
    exact ⟨rfl, rfl⟩
  · have h' : ¬ x < y := by omega
    rw [if_neg h', if_pos h]
    go_enter Try.func44, Try.ntmps44
    go_wp2_with (go_at_call 51; refine (isNaN_any _ _).mono ?_; rintro e w' ⟨rfl, rfl⟩)
    go_ret
    exact ⟨rfl, rfl⟩
def orI (a b : Int) : Int := if a = 0 then b else a
set_option maxHeartbeats 4000000 in
theorem or_any (b : Nat) (x y : Int) (w : World) (h0 : w.cell? ⟨b, 0, none⟩ = some (.int .i64 x)) (h1 : w.cell? ⟨b, 1, none⟩ = some (.int .i64 y)) : Calls Try.prog 43 #[.slice (some ⟨b, 0, none⟩) 2 2] w fun e w' => e = .returned (.int .i64 (orI x y)) ∧ w = w' := by
  go_enter Try.func43, Try.ntmps43
  go_wp2
  go_loop [8] (fun z => ∃ k : Nat, z = .int .i64 (k : Int) ∧ k ≤ 2 ∧ (1 ≤ k → x = 0) ∧ (2 ≤ k → y = 0)) (fun z => 2 - (intOf z).toNat)
  case atStart => exact ⟨0, rfl, by omega, by omega, by omega⟩
  case round =>
    obtain ⟨k, rfl, hk, hx, hy⟩ := hrel
    by_cases k0 : k = 0
    · subst k0
      clear hx hy
      by_cases hz : x = 0
      · have e0 : (x != 0) = false := by rw [hz]; rfl
        go_wp2
        go_round
        case rel => exact ⟨1, rfl, by omega, fun _ => hz, by omega⟩
        case measure => simp [intOf]
      · have e0 : (x != 0) = true := by rw [bne_iff_ne]; exact hz
        have HZ := Lib.hid (show orI x y = x by unfold orI; rw [if_neg hz])
        clear hz
        go_wp2
        go_ret
        exact ⟨by rw [HZ.out]; rfl, rfl⟩
    · by_cases k1 : k = 1
      · subst k1
        have HZ := Lib.hid (show orI x y = y by unfold orI; rw [if_pos (hx (by omega))])
        have HX := Lib.hid (hx (by omega))
        clear hx hy
        by_cases hz : y = 0
        · have e0 : (y != 0) = false := by rw [hz]; rfl
          go_wp2
          go_round
          case rel => exact ⟨2, rfl, by omega, fun _ => HX.out, fun _ => hz⟩
          case measure => simp [intOf]
        · have e0 : (y != 0) = true := by rw [bne_iff_ne]; exact hz
          clear hz
          go_wp2
          go_ret
          exact ⟨by rw [HZ.out]; rfl, rfl⟩
      · obtain rfl : k = 2 := by omega
        have HZ := Lib.hid (show orI x y = 0 by unfold orI; rw [if_pos (hx (by omega)), hy (by omega)])
        clear hx hy
        go_wp2
        go_ret
        exact ⟨by rw [HZ.out]; rfl, rfl⟩
theorem or_alloc (x y : Int) (w : World) : Calls Try.prog 43 #[.slice (some ⟨w.heap.size, 0, none⟩) 2 2] (w.alloc (.cells #[.int .i64 x, .int .i64 y] 3)) fun e w' => e = .returned (.int .i64 (orI x y)) ∧ w.alloc (.cells #[.int .i64 x, .int .i64 y] 3) = w' := by
  have h := Row.new w 3 #[.int .i64 x, .int .i64 y]
  have y0 := h.cell 0; have y1 := h.cell 1
  simp only [List.getElem?_toArray, List.getElem?_cons_zero, List.getElem?_cons_succ] at y0 y1
  exact or_any _ x y _ y0 y1
theorem or_alloc_drew (x y : Int) (w : World) : Calls Try.prog 43 #[.slice (some ⟨w.heap.size, 0, none⟩) 2 2] (w.alloc (.cells #[.int .i64 x, .int .i64 y] 3)).drew fun e w' => e = .returned (.int .i64 (orI x y)) ∧ (w.alloc (.cells #[.int .i64 x, .int .i64 y] 3)).drew = w' := by
  have h := Row.new w 3 #[.int .i64 x, .int .i64 y]
  have y0 := h.cell 0; have y1 := h.cell 1
  simp only [List.getElem?_toArray, List.getElem?_cons_zero, List.getElem?_cons_succ] at y0 y1
  exact or_any _ x y _ y0 y1
def cmpC (x y : Cl) : Int := orI (cmpI x.of_ y.of_) (cmpI x.cand y.cand)
set_option maxRecDepth 100000 in
set_option maxHeartbeats 8000000 in
theorem closure_any (x z : Cl) (W : World) : Calls Try.prog 42 #[.agg #[.int .i64 x.cand, .int .i64 x.of_, .int .i64 x.rest, .int .i64 x.until_], .agg #[.int .i64 z.cand, .int .i64 z.of_, .int .i64 z.rest, .int .i64 z.until_]] W fun e w' => e = .returned (.int .i64 (cmpC x z)) ∧ ∃ q os', w' = Go.Sort.grow (W.drewN q) os' := by
  unfold cmpC
  have C1 := Lib.hid (fun u => compare_any x.of_ z.of_ u)
  have C2 := Lib.hid (fun u => compare_any x.cand z.cand u)
  generalize cmpI x.of_ z.of_ = r1 at C1 ⊢
  generalize cmpI x.cand z.cand = r2 at C2 ⊢
  have hr1 := Row.new W 39 #[.int .i64 x.cand, .int .i64 x.of_, .int .i64 x.rest, .int .i64 x.until_]
  obtain ⟨W1, hW1⟩ : ∃ U, W.alloc (.cells #[.int .i64 x.cand, .int .i64 x.of_, .int .i64 x.rest, .int .i64 x.until_] 39) = U := ⟨_, rfl⟩
  rw [hW1] at hr1
  have hr2 := Row.new W1 39 #[.int .i64 z.cand, .int .i64 z.of_, .int .i64 z.rest, .int .i64 z.until_]
  have hr3 := hr1.below ((Below.refl _ W1).alloc (Nat.le_refl _) (.cells #[.int .i64 z.cand, .int .i64 z.of_, .int .i64 z.rest, .int .i64 z.until_] 39)) hr1.lt
  obtain ⟨W2, hW2⟩ : ∃ U, W1.alloc (.cells #[.int .i64 z.cand, .int .i64 z.of_, .int .i64 z.rest, .int .i64 z.until_] 39) = U := ⟨_, rfl⟩
  rw [hW2] at hr2 hr3
  have HG := Lib.hid (show ∃ q os, W2.drew = Go.Sort.grow (W.drewN q) os from ⟨1, _, by rw [← hW2, ← hW1, Go.Sort.alloc_eq_grow, Go.Sort.alloc_eq_grow, Go.Sort.grow_grow]; rfl⟩)
  obtain ⟨g1, hg1⟩ : ∃ g, W.heap.size = g := ⟨_, rfl⟩
  obtain ⟨g2, hg2⟩ : ∃ g, W1.heap.size = g := ⟨_, rfl⟩
  rw [hg1] at hr1 hr3
  rw [hg2] at hr2
  have l1 := hr3.lt
  have l2 := hr2.lt
  have a0 := hr3.cell 0; have a1 := hr3.cell 1; have b0 := hr2.cell 0; have b1 := hr2.cell 1
  simp only [List.getElem?_toArray, List.getElem?_cons_zero, List.getElem?_cons_succ] at a0 a1 b0 b1
  have HSK : Hid (∀ y, (∃ q os, y = Go.Sort.grow (W.drewN q) os) → Below W2.heap.size W2 y → ((∃ q os, y = Go.Sort.grow (W.drewN q) os) ∧ Below W2.heap.size W2 y ∧ y.cell? ⟨g1, 1, none⟩ = some (.int .i64 x.of_) ∧ y.cell? ⟨g2, 1, none⟩ = some (.int .i64 z.of_) ∧ y.cell? ⟨g1, 0, none⟩ = some (.int .i64 x.cand) ∧ y.cell? ⟨g2, 0, none⟩ = some (.int .i64 z.cand))) := Lib.hid (fun y hq hy => ⟨hq, hy, (hy.cell (p := ⟨g1, 1, none⟩) (by exact l1)).trans a1, (hy.cell (p := ⟨g2, 1, none⟩) (by exact l2)).trans b1, (hy.cell (p := ⟨g1, 0, none⟩) (by exact l1)).trans a0, (hy.cell (p := ⟨g2, 0, none⟩) (by exact l2)).trans b0⟩)
  have HSA : Hid (∀ o, (∃ q os, (W2.alloc o).drew = Go.Sort.grow (W.drewN q) os) ∧ Below W2.heap.size W2 (W2.alloc o).drew) := Lib.hid (fun o => ⟨⟨1, _, by rw [← hW2, ← hW1, Go.Sort.alloc_eq_grow, Go.Sort.alloc_eq_grow, Go.Sort.alloc_eq_grow, Go.Sort.grow_grow, Go.Sort.grow_grow]; rfl⟩, ((Below.refl _ W2).alloc (Nat.le_refl _) o).drew⟩)
  clear hr1 hr2 hr3
  go_enter Try.func42, Try.ntmps42
  go_upto_region 1 with fail
  go_region_held3 (fun y => (∃ q os, y = Go.Sort.grow (W.drewN q) os) ∧ Below W2.heap.size W2 y ∧ y.cell? ⟨g1, 1, none⟩ = some (.int .i64 x.of_) ∧ y.cell? ⟨g2, 1, none⟩ = some (.int .i64 z.of_) ∧ y.cell? ⟨g1, 0, none⟩ = some (.int .i64 x.cand) ∧ y.cell? ⟨g2, 0, none⟩ = some (.int .i64 z.cand)) (first | assumption | (exact HSK.out _ HG.out (Below.refl _ _).drew) | (exact HSK.out _ (HSA.out _).1 (HSA.out _).2)) (first | (go_at_call 44; ((with_reducible refine Calls.mono (C1.out _) ?_); rintro r w5 ⟨rfl, rfl⟩)) | (go_at_call 44; ((with_reducible refine Calls.mono (C2.out _) ?_); rintro r w5 ⟨rfl, rfl⟩)) | (go_at_call 43; ((with_reducible refine Calls.mono (or_alloc_drew _ _ _) ?_); rintro r w6 ⟨rfl, rfl⟩)))
  go_wp2
  go_ret
  exact ⟨rfl, (HSA.out _).1⟩
end Go.Proofs.Ytinhjobjlpkflaa
