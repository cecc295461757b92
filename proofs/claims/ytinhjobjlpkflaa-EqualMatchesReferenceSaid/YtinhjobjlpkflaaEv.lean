/- Equality of claims; Same. -/
import Derived.Test.YtinhjobjlpkflaaEu
import Derived.ChangeKeysEq
import Derived.Laws.StructEq
import Derived.BigRegion
namespace Go.Proofs.Ytinhjobjlpkflaa
open Go.RowKit

set_option maxRecDepth 100000 in
set_option maxHeartbeats 4000000 in
theorem eq_claim (a0 a1 a2 a3 b0 b1 b2 b3 : Int) (w : World) : (Op.equalIn 10000 39 (.agg #[.int .i64 a0, .int .i64 a1, .int .i64 a2, .int .i64 a3]) (.agg #[.int .i64 b0, .int .i64 b1, .int .i64 b2, .int .i64 b3])).run Try.prog w = .ok (decide ((⟨a0, a1, a2, a3⟩ : Cl) = ⟨b0, b1, b2, b3⟩)) w := by
  rw [run_equalIn_agg w 9999 39 _ _ Try.underlying39 (by kernel_rfl)]
  by_cases h0 : a0 = b0
  · subst h0
    by_cases h1 : a1 = b1
    · subst h1
      by_cases h2 : a2 = b2
      · subst h2
        by_cases h3 : a3 = b3
        · subst h3
          go_simp
        · have e : decide ((⟨a0, a1, a2, a3⟩ : Cl) = ⟨a0, a1, a2, b3⟩) = false := by simp [h3]
          rw [e]
          have q3 : (a3 == b3) = false := by simp [h3]
          go_simp
      · have e : decide ((⟨a0, a1, a2, a3⟩ : Cl) = ⟨a0, a1, b2, b3⟩) = false := by simp [h2]
        rw [e]
        have q2 : (a2 == b2) = false := by simp [h2]
        go_simp
    · have e : decide ((⟨a0, a1, a2, a3⟩ : Cl) = ⟨a0, b1, b2, b3⟩) = false := by simp [h1]
      rw [e]
      have q1 : (a1 == b1) = false := by simp [h1]
      go_simp
  · have e : decide ((⟨a0, a1, a2, a3⟩ : Cl) = ⟨b0, b1, b2, b3⟩) = false := by simp [h0]
    rw [e]
    have q0 : (a0 == b0) = false := by simp [h0]
    go_simp
set_option maxRecDepth 100000 in
theorem neq_claim (a0 a1 a2 a3 b0 b1 b2 b3 : Int) (w : World) : (binOp .neq 39 (.agg #[.int .i64 a0, .int .i64 a1, .int .i64 a2, .int .i64 a3]) (.agg #[.int .i64 b0, .int .i64 b1, .int .i64 b2, .int .i64 b3])).run Try.prog w = .ok (.bool (!decide ((⟨a0, a1, a2, a3⟩ : Cl) = ⟨b0, b1, b2, b3⟩))) w := by
  rw [run_neq_struct, eq_claim]
  rfl
set_option maxRecDepth 100000 in
set_option maxHeartbeats 4000000 in
theorem rsame_any (a b : List Cl) (A A2 : Option Addr) (n c n2 c2 : Nat) (w : World) (hr : Recs encC 4 w w.heap.size (.slice A n c) a) (hr2 : Recs encC 4 w w.heap.size (.slice A2 n2 c2) b) :
    Calls Try.prog 20 #[.slice A n c, .slice A2 n2 c2] w fun e w' => e = .returned (.bool (decide (a = b))) ∧ Below w.heap.size w w' := by
  obtain ⟨hn, hc1, hc2⟩ := recs_cap hr
  obtain ⟨hm, hc3, hc4⟩ := recs_cap hr2
  have HR := Lib.hid hr; have HR2 := Lib.hid hr2
  have HN := Lib.hid hn; have HM := Lib.hid hm
  have hn9 : n ≤ 9223372036854775807 := by omega
  have hm9 : n2 ≤ 9223372036854775807 := by omega
  clear hr hr2 hn hm
  by_cases hl : n = n2
  · subst hl
    have i0 : (n == n) = true := by simp
    go_enter Try.func20, Try.ntmps20
    go_wp2
    go_loopw [5] (fun j wr => ∃ k : Nat, j = .int .i64 (k : Int) ∧ k ≤ n ∧ Hid (a.take k = b.take k) ∧ Hid (Below w.heap.size w wr)) (fun j _ => n - (intOf j).toNat)
    case atStart => exact ⟨0, rfl, Nat.zero_le _, Lib.hid rfl, Lib.hid (Below.refl _ _)⟩
    case round =>
      obtain ⟨k, rfl, hk, HF, HB⟩ := hrel
      have k0 : (0 : Int) ≤ (k : Int) := by omega
      by_cases hlt : k < n
      · have k1 : (k : Int) < (n : Int) := by omega
        have hka : k < a.length := by have := HN.out; omega
        have hkb : k < b.length := by have := HM.out; omega
        obtain ⟨g, o, rfl, hg, hcell⟩ := recs_at (HR.out.below HB.out) k hka
        obtain ⟨g2, o2, rfl, hg2, hcell2⟩ := recs_at (HR2.out.below HB.out) k hkb
        have a0 : wr.cell? ⟨g, o + k * 4, none⟩ = some (.int .i64 a[k].cand) := hcell k _ (List.getElem?_eq_getElem hka) 0 _ rfl
        have a1 : wr.cell? ⟨g, o + k * 4 + 1, none⟩ = some (.int .i64 a[k].of_) := hcell k _ (List.getElem?_eq_getElem hka) 1 _ rfl
        have a2 : wr.cell? ⟨g, o + k * 4 + 2, none⟩ = some (.int .i64 a[k].rest) := hcell k _ (List.getElem?_eq_getElem hka) 2 _ rfl
        have a3 : wr.cell? ⟨g, o + k * 4 + 3, none⟩ = some (.int .i64 a[k].until_) := hcell k _ (List.getElem?_eq_getElem hka) 3 _ rfl
        have b0 : wr.cell? ⟨g2, o2 + k * 4, none⟩ = some (.int .i64 b[k].cand) := hcell2 k _ (List.getElem?_eq_getElem hkb) 0 _ rfl
        have b1 : wr.cell? ⟨g2, o2 + k * 4 + 1, none⟩ = some (.int .i64 b[k].of_) := hcell2 k _ (List.getElem?_eq_getElem hkb) 1 _ rfl
        have b2 : wr.cell? ⟨g2, o2 + k * 4 + 2, none⟩ = some (.int .i64 b[k].rest) := hcell2 k _ (List.getElem?_eq_getElem hkb) 2 _ rfl
        have b3 : wr.cell? ⟨g2, o2 + k * 4 + 3, none⟩ = some (.int .i64 b[k].until_) := hcell2 k _ (List.getElem?_eq_getElem hkb) 3 _ rfl
        have HTE := Lib.hid (take_eq_snoc (List.getElem?_eq_getElem hka) (List.getElem?_eq_getElem hkb) HF.out)
        obtain ⟨x, hx⟩ : ∃ x, a[k] = x := ⟨_, rfl⟩
        obtain ⟨y, hy⟩ : ∃ y, b[k] = y := ⟨_, rfl⟩
        rw [hx] at a0 a1 a2 a3 HTE
        rw [hy] at b0 b1 b2 b3 HTE
        obtain ⟨x1, x2, x3, x4⟩ := x
        obtain ⟨y1, y2, y3, y4⟩ := y
        dsimp only at a0 a1 a2 a3 b0 b1 b2 b3
        have lw := HB.out.size
        have g1 : g < wr.heap.size := by omega
        have g3 : g2 < wr.heap.size := by omega
        clear hcell hcell2 hx hy hka hkb
        have HNE := neq_claim x1 x2 x3 x4 y1 y2 y3 y4
        by_cases hxy : (⟨x1, x2, x3, x4⟩ : Cl) = ⟨y1, y2, y3, y4⟩
        · rw [decide_eq_true hxy] at HNE
          have HE := Lib.hid (HTE.out.2 hxy)
          clear hxy
          go_wp2
          go_region
          all_goals (
            go_wp2
            go_roundw
            case rel => exact ⟨k + 1, by go_num, by omega, HE, Lib.hid (belowN HB.out _)⟩
            case measure => simp [intOf]; omega)
        · rw [decide_eq_false hxy] at HNE
          have HE := Lib.hid (fun e : a = b => hxy (HTE.out.1 (by rw [e])))
          clear hxy
          go_wp2
          go_region
          all_goals (
            go_wp2
            go_ret
            exact ⟨by rw [decide_eq_false HE.out]; rfl, belowN HB.out _⟩)
      · have k1 : ¬ (k : Int) < (n : Int) := by omega
        have HE := Lib.hid (show a = b by
          have := HF.out
          rwa [List.take_of_length_le (by have := HN.out; omega), List.take_of_length_le (by have := HM.out; omega)] at this)
        go_wp2
        go_ret
        exact ⟨by rw [decide_eq_true HE.out]; rfl, HB.out⟩
  · have i0 : ((n : Int) == (n2 : Int)) = false := by simp; omega
    have HE := Lib.hid (fun e : a = b => hl (by rw [HN.out, HM.out, e]))
    have i1 : ¬ (n : Int) = (n2 : Int) := by omega
    go_enter Try.func20, Try.ntmps20
    go_wp2
    go_ret
    exact ⟨by rw [decide_eq_false HE.out]; rfl, Below.refl _ _⟩
end Go.Proofs.Ytinhjobjlpkflaa
