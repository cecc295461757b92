/- Contract of Same. -/
import Derived.Test.YtnbhhhbmeafkaaaDoorE2
import Derived.Deep.QuietTactic
import Derived.BigQuiet
namespace Go.Proofs.YtnbhhhbmeafkaaaDoor
open Go.RowKit

set_option maxRecDepth 100000 in
set_option maxHeartbeats 1000000 in
theorem same_any (v1 v2 : Value) (a b : List (List UInt8)) (w : World) (ha : Strs w w.heap.size v1 a) (hb : Strs w w.heap.size v2 b) :
    Calls Tryd.prog 26 #[v1, v2] w fun e w' => e = .returned (.bool (a == b)) ∧ Below w.heap.size w w' := by
  obtain ⟨A, c1, rfl, hc1, hc2, hA⟩ := ha
  obtain ⟨B, c2, rfl, hd1, hd2, hB⟩ := hb
  obtain ⟨N, hN⟩ : ∃ N, a.length = N := ⟨_, rfl⟩
  obtain ⟨M, hM⟩ : ∃ M, b.length = M := ⟨_, rfl⟩
  rw [hN] at hc1 ⊢; rw [hM] at hd1 ⊢
  unfold maxLen at hc2 hd2
  have HN := Lib.hid hN; have HM := Lib.hid hM
  clear hN hM
  by_cases hl : N = M
  · subst hl
    have e0 : ((N : Int) != (N : Int)) = false := by simp
    go_enter Tryd.func26, Tryd.ntmps26
    go_wp2
    go_loopw [5] (fun i wr => ∃ k : Nat, k ≤ N ∧ i = .int .i64 (k : Int) ∧ Hid (a.take k = b.take k) ∧ Below w.heap.size w wr) (fun i _ => N - (intOf i).toNat)
    case atStart => exact ⟨0, by omega, rfl, Lib.hid rfl, Below.refl _ _⟩
    case round =>
      obtain ⟨k, hk, rfl, hq, hbw⟩ := hrel
      by_cases hlt : k < N
      · have k1 : k < a.length := by have := HN.out; omega
        have k2 : k < b.length := by have := HM.out; omega
        rcases hA with ⟨_, hp⟩ | ⟨ga, oa, rfl, hga, hca⟩
        · rw [hp] at k1; simp at k1
        rcases hB with ⟨_, hp⟩ | ⟨gb, ob, rfl, hgb, hcb⟩
        · rw [hp] at k2; simp at k2
        have ca := (hbw.cell (p := ⟨ga, oa + k, none⟩) hga).trans (hca k _ (List.getElem?_eq_getElem k1))
        have cb := (hbw.cell (p := ⟨gb, ob + k, none⟩) hgb).trans (hcb k _ (List.getElem?_eq_getElem k2))
        have hst : a[k] = b[k] → Hid (a.take (k + 1) = b.take (k + 1)) := fun h => Lib.hid (by rw [List.take_succ_eq_append_getElem k1, List.take_succ_eq_append_getElem k2, hq.out, h])
        have hno : a[k] ≠ b[k] → (a == b) = false := fun h => by
          have : a ≠ b := fun e => h (by subst e; rfl)
          simpa using this
        obtain ⟨x, hx⟩ : ∃ x, a[k] = x := ⟨_, rfl⟩
        obtain ⟨y, hy⟩ : ∃ y, b[k] = y := ⟨_, rfl⟩
        rw [hx] at ca hst hno; rw [hy] at cb hst hno
        have HST := Lib.hid hst; have HNO := Lib.hid hno; have HBW := Lib.hid hbw
        have hwa : ga < wr.heap.size := by have := hbw.size; omega
        have hwb : gb < wr.heap.size := by have := hbw.size; omega
        clear hx hy hst hno hca hcb hq hbw
        have i1 : (k : Int) < (N : Int) := by omega
        have i3 : (0 : Int) ≤ (k : Int) := by omega
        by_cases hxy : x = y
        · have HQ := Lib.hid (HST.out hxy)
          subst hxy
          have e1 : ((bs x).toList != (bs x).toList) = false := by simp
          clear HST HNO
          go_wp2
          go_quiet (fail)
          go_wp2
          go_roundw
          case rel => exact ⟨k + 1, by omega, by go_num, HQ.out, belowN HBW.out _⟩
          case measure => simp [intOf]; omega
        · have HQ := Lib.hid (HNO.out hxy)
          have e1 : ((bs x).toList == (bs y).toList) = false := by rw [bs_eqb]; simpa using hxy
          have e2 : ((bs x).toList != (bs y).toList) = true := by rw [bne, e1]; rfl
          clear hxy HST HNO
          go_wp2
          go_quiet (fail)
          go_wp2
          go_ret
          exact ⟨ret_bool HQ.out.symm, belowN HBW.out _⟩
      · have hq2 : (a == b) = true := by
          have h1 : a.take k = a := List.take_of_length_le (by have := HN.out; omega)
          have h2 : b.take k = b := List.take_of_length_le (by have := HM.out; omega)
          have := hq.out
          rw [h1, h2] at this
          simpa using this
        have HQ := Lib.hid hq2; have HBW := Lib.hid hbw
        clear hq2 hq hbw
        go_wp2
        go_ret
        exact ⟨ret_bool HQ.out.symm, HBW.out⟩
  · have e0 : ((N : Int) != (M : Int)) = true := by simp; omega
    have hq : (a == b) = false := by
      have : a ≠ b := fun e => hl (by rw [← HN.out, ← HM.out, e])
      simpa using this
    have HQ := Lib.hid hq
    clear hq
    go_enter Tryd.func26, Tryd.ntmps26
    go_wp2
    go_ret
    exact ⟨ret_bool HQ.out.symm, Below.refl _ _⟩
end Go.Proofs.YtnbhhhbmeafkaaaDoor
