/- The reference's Ints, Count; the law's pick. -/
import Derived.Test.YtinhjobjlpkflaaEj
import Derived.BigRegion
namespace Go.Proofs.Ytinhjobjlpkflaa
open Go.RowKit

set_option maxRecDepth 100000 in
set_option maxHeartbeats 4000000 in
theorem rints_any (a b : List Int) (A A2 : Option Addr) (n c n2 c2 : Nat) (w : World) (hr : Recs enc1 1 w w.heap.size (.slice A n c) a) (hr2 : Recs enc1 1 w w.heap.size (.slice A2 n2 c2) b) :
    Calls Try.prog 27 #[.slice A n c, .slice A2 n2 c2] w fun e w' => e = .returned (.bool (decide (a = b))) ∧ Below w.heap.size w w' := by
  obtain ⟨hn, hc1, hc2⟩ := recs_cap hr
  obtain ⟨hm, hc3, hc4⟩ := recs_cap hr2
  have HR := Lib.hid hr; have HR2 := Lib.hid hr2
  have HN := Lib.hid hn; have HM := Lib.hid hm
  have hn9 : n ≤ 9223372036854775807 := by omega
  have hm9 : n2 ≤ 9223372036854775807 := by omega
  clear hr hr2 hn hm
  by_cases hl : n = n2
  · subst hl
    have i0 : (n == n) = true := by simp
    go_enter Try.func27, Try.ntmps27
    go_wp2
    go_loopw [5] (fun j wr => ∃ k : Nat, j = .int .i64 (k : Int) ∧ k ≤ n ∧ Hid (a.take k = b.take k) ∧ Hid (Below w.heap.size w wr)) (fun j _ => n - (intOf j).toNat)
    case atStart => exact ⟨0, rfl, Nat.zero_le _, Lib.hid rfl, Lib.hid (Below.refl _ _)⟩
    case round =>
      obtain ⟨k, rfl, hk, HF, HB⟩ := hrel
      have k0 : (0 : Int) ≤ (k : Int) := by omega
      by_cases hlt : k < n
      · have k1 : (k : Int) < (n : Int) := by omega
        have hka : k < a.length := by have := HN.out; omega
        have hkb : k < b.length := by have := HM.out; omega
        obtain ⟨g, o, rfl, hg, hcell⟩ := recs_at (HR.out.below HB.out) k hka
        obtain ⟨g2, o2, rfl, hg2, hcell2⟩ := recs_at (HR2.out.below HB.out) k hkb
        have a0 := cells1 hcell k hka
        have a1 := cells1 hcell2 k hkb
        have HTE := Lib.hid (take_eq_snoc (List.getElem?_eq_getElem hka) (List.getElem?_eq_getElem hkb) HF.out)
        obtain ⟨x, hx⟩ : ∃ x, a[k] = x := ⟨_, rfl⟩
        obtain ⟨y, hy⟩ : ∃ y, b[k] = y := ⟨_, rfl⟩
        rw [hx] at a0 HTE
        rw [hy] at a1 HTE
        have lw := HB.out.size
        have g1 : g < wr.heap.size := by omega
        have g3 : g2 < wr.heap.size := by omega
        clear hcell hcell2 hx hy hka hkb
        by_cases hxy : x = y
        · have e1 : (x == y) = true := by simp [hxy]
          have e2 : (x != y) = false := by simp [hxy]
          have HE := Lib.hid (HTE.out.2 hxy)
          clear hxy
          go_wp2
          go_region
          all_goals (
            go_wp2
            go_roundw
            case rel => exact ⟨k + 1, by go_num, by omega, HE, Lib.hid (belowN HB.out _)⟩
            case measure => simp [intOf]; omega)
        · have e1 : (x == y) = false := by simp [hxy]
          have e2 : (x != y) = true := by simp [hxy]
          have HE := Lib.hid (fun e : a = b => hxy (HTE.out.1 (by rw [e])))
          clear hxy
          go_wp2
          go_region
          all_goals (
            go_wp2
            go_ret
            exact ⟨by rw [decide_eq_false HE.out]; rfl, belowN HB.out _⟩)
      · have k1 : ¬ (k : Int) < (n : Int) := by omega
        have HE := Lib.hid (show a = b by
          have := HF.out
          rwa [List.take_of_length_le (by have := HN.out; omega), List.take_of_length_le (by have := HM.out; omega)] at this)
        go_wp2
        go_ret
        exact ⟨by rw [decide_eq_true HE.out]; rfl, HB.out⟩
  · have i0 : ((n : Int) == (n2 : Int)) = false := by simp; omega
    have HE := Lib.hid (fun e : a = b => hl (by rw [HN.out, HM.out, e]))
    have i1 : ¬ (n : Int) = (n2 : Int) := by omega
    go_enter Try.func27, Try.ntmps27
    go_wp2
    go_ret
    exact ⟨by rw [decide_eq_false HE.out]; rfl, Below.refl _ _⟩

/-- The number of candidates that an integer determines. -/
def countV (n : Int) : Int := 2 + pickI n 4
set_option maxHeartbeats 4000000 in
theorem count_any (n : Int) (h0 : -9223372036854775808 ≤ n) (h1 : n ≤ 9223372036854775807) (w : World) : Calls Try.prog 12 #[.int .i64 n] w fun e w' => e = .returned (.int .i64 (countV n)) ∧ w = w' := by
  have HP := Lib.hid (fun u => rpick_any n 4 (by decide) (by decide) h0 h1 u)
  have hlt := pickI_lt n 4 (by decide)
  unfold countV
  obtain ⟨k, hk⟩ : ∃ k, pickI n 4 = k := ⟨_, rfl⟩
  rw [hk] at HP hlt ⊢
  clear hk h0 h1
  go_enter Try.func12, Try.ntmps12
  go_wp2_with (go_at_call 29; (with_reducible refine Calls.mono (HP.out _) ?_); rintro r u1 ⟨rfl, rfl⟩)
  go_ret
  exact ⟨rfl, rfl⟩
end Go.Proofs.Ytinhjobjlpkflaa
