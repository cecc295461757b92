/- permits; Valid, ValidUses. -/
import Derived.Test.YtenojfniknjeiaaHb
namespace Go.Proofs.Ytenojfniknjeiaa
open Go.RowKit

/-- Does a grant permit a use? -/
def perB (g : Gr) (u : Us) : Bool := (g.item == u.item) && (bits BinOp.and IntKind.i64 g.acts u.acts == u.acts) && (bits BinOp.and IntKind.i64 (g.regions / 2 ^ u.region.toNat) 1 == 1) && decide (g.fr ≤ u.at_) && decide (u.at_ < g.tw)
set_option maxRecDepth 100000 in
set_option maxHeartbeats 8000000 in
theorem permits_any (g : Gr) (u : Us) (h0 : 0 ≤ u.region) (h1 : u.region ≤ 7) (w : World) : Calls Try.prog 46 #[.agg #[.int .i64 g.item, .int .i64 g.acts, .int .i64 g.regions, .int .i64 g.plays, .int .i64 g.fr, .int .i64 g.tw], .agg #[.int .i64 u.item, .int .i64 u.acts, .int .i64 u.region, .int .i64 u.at_]] w fun e w' => e = .returned (.bool (perB g u)) ∧ Below w.heap.size w w' := by
  obtain ⟨item, acts, regions, plays, fr, tw⟩ := g
  obtain ⟨uitem, uacts, region, at_⟩ := u
  dsimp only at h0 h1 ⊢
  unfold perB
  dsimp only
  obtain ⟨b0, hb0⟩ : ∃ b, (item == uitem) = b := ⟨_, rfl⟩
  obtain ⟨b1, hb1⟩ : ∃ b, (bits BinOp.and IntKind.i64 acts uacts == uacts) = b := ⟨_, rfl⟩
  obtain ⟨b2, hb2⟩ : ∃ b, (bits BinOp.and IntKind.i64 (regions / 2 ^ region.toNat) 1 == 1) = b := ⟨_, rfl⟩
  obtain ⟨b3, hb3⟩ : ∃ b, decide (fr ≤ at_) = b := ⟨_, rfl⟩
  obtain ⟨b4, hb4⟩ : ∃ b, decide (at_ < tw) = b := ⟨_, rfl⟩
  rw [hb0, hb1, hb2, hb3, hb4]
  cases b0 with
  | false =>
    go_enter Try.func46, Try.ntmps46
    go_wp2
    go_ret
    exact ⟨rfl, ((Below.refl _ w).alloc (Nat.le_refl _) _).alloc (by simp) _⟩
  | true =>
    cases b1 with
    | false =>
      go_enter Try.func46, Try.ntmps46
      go_wp2
      go_ret
      exact ⟨rfl, ((Below.refl _ w).alloc (Nat.le_refl _) _).alloc (by simp) _⟩
    | true =>
      cases b2 with
      | false =>
        go_enter Try.func46, Try.ntmps46
        go_wp2
        go_ret
        exact ⟨rfl, ((Below.refl _ w).alloc (Nat.le_refl _) _).alloc (by simp) _⟩
      | true =>
        cases b3 with
        | false =>
          go_enter Try.func46, Try.ntmps46
          go_wp2
          go_ret
          exact ⟨rfl, ((Below.refl _ w).alloc (Nat.le_refl _) _).alloc (by simp) _⟩
        | true =>
          cases b4 with
          | false =>
            go_enter Try.func46, Try.ntmps46
            go_wp2
            go_ret
            exact ⟨rfl, ((Below.refl _ w).alloc (Nat.le_refl _) _).alloc (by simp) _⟩
          | true =>
            go_enter Try.func46, Try.ntmps46
            go_wp2
            go_ret
            exact ⟨rfl, ((Below.refl _ w).alloc (Nat.le_refl _) _).alloc (by simp) _⟩
theorem validG_take {l : List Gr} {k : Nat} {q : Gr} (hq : l[k]? = some q) : (l.take (k + 1)).all okG = ((l.take k).all okG && okG q) := by
  rw [List.take_add_one, hq, List.all_append]; simp
set_option maxRecDepth 100000 in
set_option maxHeartbeats 8000000 in
theorem Valid_any (l : List Gr) (A : Option Addr) (n c : Nat) (w : World) (hr : Recs encG 6 w w.heap.size (.slice A n c) l) : Calls Try.prog 13 #[.slice A n c] w fun e w' => e = .returned (.bool (validG l)) ∧ Below w.heap.size w w' := by
  obtain ⟨hn, hc1, hc2⟩ := recs_cap hr
  have HR := Lib.hid hr
  have HN := Lib.hid hn
  have hn9 : n ≤ 9223372036854775807 := by omega
  clear hr
  by_cases h12 : n ≤ 12
  · have i0 : ¬ (12 : Int) < (n : Int) := by omega
    have HV : Hid (validG l = l.all okG) := Lib.hid (by unfold validG; rw [decide_eq_true (by omega), Bool.true_and])
    rw [HV.out]
    clear HV h12 hn hc1 hc2
    go_enter Try.func13, Try.ntmps13
    go_wp2
    go_loopw [10] (fun j wr => ∃ k : Nat, j = .int .i64 (k : Int) ∧ k ≤ n ∧ Hid ((l.take k).all okG = true) ∧ Hid (Below w.heap.size w wr)) (fun j _ => n - (intOf j).toNat)
    case atStart => exact ⟨0, rfl, Nat.zero_le _, Lib.hid rfl, Lib.hid (Below.refl _ _)⟩
    case round =>
      obtain ⟨k, rfl, hk, HF, HB⟩ := hrel
      by_cases hlt : k < n
      · have hka : k < l.length := by have := HN.out; omega
        obtain ⟨g0, o, rfl, hg, hcell⟩ := recs_at (HR.out.below HB.out) k hka
        obtain ⟨q, hq⟩ : ∃ q, l[k]? = some q := ⟨_, List.getElem?_eq_getElem hka⟩
        have HQ := Lib.hid hq
        have a0 : wr.cell? ⟨g0, o + k * 6, none⟩ = some (.int .i64 q.item) := hcell k q hq 0 _ rfl
        have a1 : wr.cell? ⟨g0, o + k * 6 + 1, none⟩ = some (.int .i64 q.acts) := hcell k q hq 1 _ rfl
        have a2 : wr.cell? ⟨g0, o + k * 6 + 2, none⟩ = some (.int .i64 q.regions) := hcell k q hq 2 _ rfl
        have a3 : wr.cell? ⟨g0, o + k * 6 + 3, none⟩ = some (.int .i64 q.plays) := hcell k q hq 3 _ rfl
        have a4 : wr.cell? ⟨g0, o + k * 6 + 4, none⟩ = some (.int .i64 q.fr) := hcell k q hq 4 _ rfl
        have a5 : wr.cell? ⟨g0, o + k * 6 + 5, none⟩ = some (.int .i64 q.tw) := hcell k q hq 5 _ rfl
        have lw := HB.out.size
        have g1 : g0 < wr.heap.size := by omega
        have k0 : (0 : Int) ≤ (k : Int) := by omega
        have k1 : (k : Int) < (n : Int) := by omega
        obtain ⟨b0, hb0⟩ : ∃ b, okG q = b := ⟨_, rfl⟩
        have HI := Lib.hid (fun u => isGrant_any q u)
        rw [hb0] at HI
        have HB0 := Lib.hid hb0
        clear hb0 hcell hq
        cases b0 with
        | false =>
          have HE := Lib.hid (show l.all okG = false by
            rw [← List.take_append_drop (k + 1) l, List.all_append, validG_take HQ.out, HB0.out]; simp)
          go_wp2_with (go_at_call 32; (with_reducible refine Calls.mono (HI.out _) ?_); rintro r u1 ⟨rfl, hb⟩; have Bc := Lib.hid (below_to (HB.out.alloc HB.out.size (.cells #[.int .i64 q.item, .int .i64 q.acts, .int .i64 q.regions, .int .i64 q.plays, .int .i64 q.fr, .int .i64 q.tw] 52)) hb); clear hb)
          go_ret
          exact ⟨by rw [HE.out]; rfl, Bc.out⟩
        | true =>
          have HE := Lib.hid (show (l.take (k + 1)).all okG = true by rw [validG_take HQ.out, HB0.out, HF.out]; rfl)
          go_wp2_with (go_at_call 32; (with_reducible refine Calls.mono (HI.out _) ?_); rintro r u1 ⟨rfl, hb⟩; have Bc := Lib.hid (below_to (HB.out.alloc HB.out.size (.cells #[.int .i64 q.item, .int .i64 q.acts, .int .i64 q.regions, .int .i64 q.plays, .int .i64 q.fr, .int .i64 q.tw] 52)) hb); clear hb)
          go_roundw
          case rel => exact ⟨k + 1, by go_num, by omega, HE, Bc⟩
          case measure => simp [intOf]; omega
      · have k1 : ¬ (k : Int) < (n : Int) := by omega
        have HE := Lib.hid (show l.all okG = true by have := HF.out; rwa [List.take_of_length_le (by have := HN.out; omega)] at this)
        go_wp2
        go_ret
        exact ⟨by rw [HE.out]; rfl, HB.out⟩
  · have i0 : (12 : Int) < (n : Int) := by omega
    have HV : Hid (validG l = false) := Lib.hid (by unfold validG; rw [decide_eq_false (by omega), Bool.false_and])
    rw [HV.out]
    go_enter Try.func13, Try.ntmps13
    go_wp2
    go_ret
    exact ⟨rfl, Below.refl _ _⟩
theorem validU_take {l : List Us} {k : Nat} {q : Us} (hq : l[k]? = some q) : (l.take (k + 1)).all okU = ((l.take k).all okU && okU q) := by
  rw [List.take_add_one, hq, List.all_append]; simp
set_option maxRecDepth 100000 in
set_option maxHeartbeats 8000000 in
theorem ValidUses_any (l : List Us) (A : Option Addr) (n c : Nat) (w : World) (hr : Recs encU 4 w w.heap.size (.slice A n c) l) : Calls Try.prog 15 #[.slice A n c] w fun e w' => e = .returned (.bool (validU l)) ∧ Below w.heap.size w w' := by
  obtain ⟨hn, hc1, hc2⟩ := recs_cap hr
  have HR := Lib.hid hr
  have HN := Lib.hid hn
  have hn9 : n ≤ 9223372036854775807 := by omega
  clear hr
  by_cases h12 : n ≤ 10
  · have i0 : ¬ (10 : Int) < (n : Int) := by omega
    have HV : Hid (validU l = l.all okU) := Lib.hid (by unfold validU; rw [decide_eq_true (by omega), Bool.true_and])
    rw [HV.out]
    clear HV h12 hn hc1 hc2
    go_enter Try.func15, Try.ntmps15
    go_wp2
    go_loopw [10] (fun j wr => ∃ k : Nat, j = .int .i64 (k : Int) ∧ k ≤ n ∧ Hid ((l.take k).all okU = true) ∧ Hid (Below w.heap.size w wr)) (fun j _ => n - (intOf j).toNat)
    case atStart => exact ⟨0, rfl, Nat.zero_le _, Lib.hid rfl, Lib.hid (Below.refl _ _)⟩
    case round =>
      obtain ⟨k, rfl, hk, HF, HB⟩ := hrel
      by_cases hlt : k < n
      · have hka : k < l.length := by have := HN.out; omega
        obtain ⟨g0, o, rfl, hg, hcell⟩ := recs_at (HR.out.below HB.out) k hka
        obtain ⟨q, hq⟩ : ∃ q, l[k]? = some q := ⟨_, List.getElem?_eq_getElem hka⟩
        have HQ := Lib.hid hq
        have a0 : wr.cell? ⟨g0, o + k * 4, none⟩ = some (.int .i64 q.item) := hcell k q hq 0 _ rfl
        have a1 : wr.cell? ⟨g0, o + k * 4 + 1, none⟩ = some (.int .i64 q.acts) := hcell k q hq 1 _ rfl
        have a2 : wr.cell? ⟨g0, o + k * 4 + 2, none⟩ = some (.int .i64 q.region) := hcell k q hq 2 _ rfl
        have a3 : wr.cell? ⟨g0, o + k * 4 + 3, none⟩ = some (.int .i64 q.at_) := hcell k q hq 3 _ rfl
        have lw := HB.out.size
        have g1 : g0 < wr.heap.size := by omega
        have k0 : (0 : Int) ≤ (k : Int) := by omega
        have k1 : (k : Int) < (n : Int) := by omega
        obtain ⟨b0, hb0⟩ : ∃ b, okU q = b := ⟨_, rfl⟩
        have HI := Lib.hid (fun u => isUse_any q u)
        rw [hb0] at HI
        have HB0 := Lib.hid hb0
        clear hb0 hcell hq
        cases b0 with
        | false =>
          have HE := Lib.hid (show l.all okU = false by
            rw [← List.take_append_drop (k + 1) l, List.all_append, validU_take HQ.out, HB0.out]; simp)
          go_wp2_with (go_at_call 34; (with_reducible refine Calls.mono (HI.out _) ?_); rintro r u1 ⟨rfl, hb⟩; have Bc := Lib.hid (below_to (HB.out.alloc HB.out.size (.cells #[.int .i64 q.item, .int .i64 q.acts, .int .i64 q.region, .int .i64 q.at_] 46)) hb); clear hb)
          go_ret
          exact ⟨by rw [HE.out]; rfl, Bc.out⟩
        | true =>
          have HE := Lib.hid (show (l.take (k + 1)).all okU = true by rw [validU_take HQ.out, HB0.out, HF.out]; rfl)
          go_wp2_with (go_at_call 34; (with_reducible refine Calls.mono (HI.out _) ?_); rintro r u1 ⟨rfl, hb⟩; have Bc := Lib.hid (below_to (HB.out.alloc HB.out.size (.cells #[.int .i64 q.item, .int .i64 q.acts, .int .i64 q.region, .int .i64 q.at_] 46)) hb); clear hb)
          go_roundw
          case rel => exact ⟨k + 1, by go_num, by omega, HE, Bc⟩
          case measure => simp [intOf]; omega
      · have k1 : ¬ (k : Int) < (n : Int) := by omega
        have HE := Lib.hid (show l.all okU = true by have := HF.out; rwa [List.take_of_length_le (by have := HN.out; omega)] at this)
        go_wp2
        go_ret
        exact ⟨by rw [HE.out]; rfl, HB.out⟩
  · have i0 : (10 : Int) < (n : Int) := by omega
    have HV : Hid (validU l = false) := Lib.hid (by unfold validU; rw [decide_eq_false (by omega), Bool.false_and])
    rw [HV.out]
    go_enter Try.func15, Try.ntmps15
    go_wp2
    go_ret
    exact ⟨rfl, Below.refl _ _⟩
end Go.Proofs.Ytenojfniknjeiaa
