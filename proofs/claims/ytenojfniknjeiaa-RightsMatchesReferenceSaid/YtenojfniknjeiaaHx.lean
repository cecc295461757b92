/- Ints, has, Same. -/
import Derived.Test.YtenojfniknjeiaaHv
import Derived.ChangeKeysEq
import Derived.Laws.StructEq
namespace Go.Proofs.Ytenojfniknjeiaa
open Go.RowKit Go.Shelf

theorem take_eq_snoc {α : Type} {a b : List α} {k : Nat} {x y : α} (hx : a[k]? = some x) (hy : b[k]? = some y) (h : a.take k = b.take k) : (a.take (k + 1) = b.take (k + 1) ↔ x = y) := by
  rw [List.take_add_one, List.take_add_one, hx, hy, h]
  constructor
  · intro e
    have := List.append_cancel_left e
    simpa using this
  · rintro rfl; rfl
set_option maxRecDepth 100000 in
set_option maxHeartbeats 4000000 in
theorem rints_any (a b : List Int) (A A2 : Option Addr) (n c n2 c2 : Nat) (w : World) (hr : Recs enc1 1 w w.heap.size (.slice A n c) a) (hr2 : Recs enc1 1 w w.heap.size (.slice A2 n2 c2) b) :
    Calls Try.prog 25 #[.slice A n c, .slice A2 n2 c2] w fun e w' => e = .returned (.bool (decide (a = b))) ∧ Below w.heap.size w w' := by
  obtain ⟨hn, hc1, hc2⟩ := recs_cap hr
  obtain ⟨hm, hc3, hc4⟩ := recs_cap hr2
  have HR := Lib.hid hr; have HR2 := Lib.hid hr2
  have HN := Lib.hid hn; have HM := Lib.hid hm
  have hn9 : n ≤ 9223372036854775807 := by omega
  have hm9 : n2 ≤ 9223372036854775807 := by omega
  clear hr hr2 hn hm
  by_cases hl : n = n2
  · subst hl
    have i0 : (n == n) = true := by simp
    go_enter Try.func25, Try.ntmps25
    go_wp2
    go_loopw [5] (fun j wr => ∃ k : Nat, j = .int .i64 (k : Int) ∧ k ≤ n ∧ Hid (a.take k = b.take k) ∧ Hid (Below w.heap.size w wr)) (fun j _ => n - (intOf j).toNat)
    case atStart => exact ⟨0, rfl, Nat.zero_le _, Lib.hid rfl, Lib.hid (Below.refl _ _)⟩
    case round =>
      obtain ⟨k, rfl, hk, HF, HB⟩ := hrel
      have k0 : (0 : Int) ≤ (k : Int) := by omega
      by_cases hlt : k < n
      · have k1 : (k : Int) < (n : Int) := by omega
        have hka : k < a.length := by have := HN.out; omega
        have hkb : k < b.length := by have := HM.out; omega
        obtain ⟨g, o, rfl, hg, hcell⟩ := recs_at (HR.out.below HB.out) k hka
        obtain ⟨g2, o2, rfl, hg2, hcell2⟩ := recs_at (HR2.out.below HB.out) k hkb
        have a0 := cells1 hcell k hka
        have a1 := cells1 hcell2 k hkb
        have HTE := Lib.hid (take_eq_snoc (List.getElem?_eq_getElem hka) (List.getElem?_eq_getElem hkb) HF.out)
        obtain ⟨x, hx⟩ : ∃ x, a[k] = x := ⟨_, rfl⟩
        obtain ⟨y, hy⟩ : ∃ y, b[k] = y := ⟨_, rfl⟩
        rw [hx] at a0 HTE
        rw [hy] at a1 HTE
        have lw := HB.out.size
        have g1 : g < wr.heap.size := by omega
        have g3 : g2 < wr.heap.size := by omega
        clear hcell hcell2 hx hy hka hkb
        by_cases hxy : x = y
        · have e1 : (x == y) = true := by simp [hxy]
          have e2 : (x != y) = false := by simp [hxy]
          have HE := Lib.hid (HTE.out.2 hxy)
          clear hxy
          go_wp2
          go_region
          all_goals (
            go_wp2
            go_roundw
            case rel => exact ⟨k + 1, by go_num, by omega, HE, Lib.hid (belowN HB.out _)⟩
            case measure => simp [intOf]; omega)
        · have e1 : (x == y) = false := by simp [hxy]
          have e2 : (x != y) = true := by simp [hxy]
          have HE := Lib.hid (fun e : a = b => hxy (HTE.out.1 (by rw [e])))
          clear hxy
          go_wp2
          go_region
          all_goals (
            go_wp2
            go_ret
            exact ⟨by rw [decide_eq_false HE.out]; rfl, belowN HB.out _⟩)
      · have k1 : ¬ (k : Int) < (n : Int) := by omega
        have HE := Lib.hid (show a = b by
          have := HF.out
          rwa [List.take_of_length_le (by have := HN.out; omega), List.take_of_length_le (by have := HM.out; omega)] at this)
        go_wp2
        go_ret
        exact ⟨by rw [decide_eq_true HE.out]; rfl, HB.out⟩
  · have i0 : ((n : Int) == (n2 : Int)) = false := by simp; omega
    have HE := Lib.hid (fun e : a = b => hl (by rw [HN.out, HM.out, e]))
    have i1 : ¬ (n : Int) = (n2 : Int) := by omega
    go_enter Try.func25, Try.ntmps25
    go_wp2
    go_ret
    exact ⟨by rw [decide_eq_false HE.out]; rfl, Below.refl _ _⟩

set_option maxRecDepth 100000 in
set_option maxHeartbeats 4000000 in
theorem eq_grant (a0 a1 a2 a3 a4 a5 b0 b1 b2 b3 b4 b5 : Int) (w : World) : (Op.equalIn 10000 52 (.agg #[.int .i64 a0, .int .i64 a1, .int .i64 a2, .int .i64 a3, .int .i64 a4, .int .i64 a5]) (.agg #[.int .i64 b0, .int .i64 b1, .int .i64 b2, .int .i64 b3, .int .i64 b4, .int .i64 b5])).run Try.prog w = .ok (decide ((⟨a0, a1, a2, a3, a4, a5⟩ : Gr) = ⟨b0, b1, b2, b3, b4, b5⟩)) w := by
  rw [run_equalIn_agg w 9999 52 _ _ Try.underlying52 (by kernel_rfl)]
  by_cases h0 : a0 = b0
  · subst h0
    by_cases h1 : a1 = b1
    · subst h1
      by_cases h2 : a2 = b2
      · subst h2
        by_cases h3 : a3 = b3
        · subst h3
          by_cases h4 : a4 = b4
          · subst h4
            by_cases h5 : a5 = b5
            · subst h5
              go_simp
            · have e : decide ((⟨a0, a1, a2, a3, a4, a5⟩ : Gr) = ⟨a0, a1, a2, a3, a4, b5⟩) = false := by simp [h5]
              rw [e]
              have q5 : (a5 == b5) = false := by simp [h5]
              go_simp
          · have e : decide ((⟨a0, a1, a2, a3, a4, a5⟩ : Gr) = ⟨a0, a1, a2, a3, b4, b5⟩) = false := by simp [h4]
            rw [e]
            have q4 : (a4 == b4) = false := by simp [h4]
            go_simp
        · have e : decide ((⟨a0, a1, a2, a3, a4, a5⟩ : Gr) = ⟨a0, a1, a2, b3, b4, b5⟩) = false := by simp [h3]
          rw [e]
          have q3 : (a3 == b3) = false := by simp [h3]
          go_simp
      · have e : decide ((⟨a0, a1, a2, a3, a4, a5⟩ : Gr) = ⟨a0, a1, b2, b3, b4, b5⟩) = false := by simp [h2]
        rw [e]
        have q2 : (a2 == b2) = false := by simp [h2]
        go_simp
    · have e : decide ((⟨a0, a1, a2, a3, a4, a5⟩ : Gr) = ⟨a0, b1, b2, b3, b4, b5⟩) = false := by simp [h1]
      rw [e]
      have q1 : (a1 == b1) = false := by simp [h1]
      go_simp
  · have e : decide ((⟨a0, a1, a2, a3, a4, a5⟩ : Gr) = ⟨b0, b1, b2, b3, b4, b5⟩) = false := by simp [h0]
    rw [e]
    have q0 : (a0 == b0) = false := by simp [h0]
    go_simp
theorem neq_grant (a0 a1 a2 a3 a4 a5 b0 b1 b2 b3 b4 b5 : Int) (w : World) : (binOp .neq 52 (.agg #[.int .i64 a0, .int .i64 a1, .int .i64 a2, .int .i64 a3, .int .i64 a4, .int .i64 a5]) (.agg #[.int .i64 b0, .int .i64 b1, .int .i64 b2, .int .i64 b3, .int .i64 b4, .int .i64 b5])).run Try.prog w = .ok (.bool (!decide ((⟨a0, a1, a2, a3, a4, a5⟩ : Gr) = ⟨b0, b1, b2, b3, b4, b5⟩))) w := by
  rw [run_neq_struct, eq_grant]
  rfl
end Go.Proofs.Ytenojfniknjeiaa
