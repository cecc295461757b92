/- Contracts of At, Before and After. -/
import Derived.Test.YtfbgfcpehlimfaaCv
import Derived.Test.YtfbgfcpehlimfaaCe
namespace Go.Proofs.Ytfbgfcpehlimfaa
open Go.RowKit

/-- What At returns. -/
def atM (d : Int) (rs : List Ca.R3) (t : Int) : Int × Int × Int := if (Ca.valid d rs && Ca.isT t && decide (Ca.fst d t rs ≤ Ca.lst d t rs)) = true then (Ca.fst d t rs, Ca.lst d t rs, 0) else (0, 0, 50)
theorem valid_c {d : Int} {rs : List Ca.R3} {v : Value} {w : World} (hv : Clk w v d rs) (u : World) (hu : Below w.heap.size w u) : Calls Try.prog 16 #[v] u fun e w' => e = .returned (.bool (Ca.valid d rs)) ∧ Below u.heap.size u w' := by
  obtain ⟨A, c, rfl, hr⟩ := (hv.next hu).form
  exact valid_any d rs A c u hr
theorem showing_c {d t : Int} {rs : List Ca.R3} {v : Value} {w : World} (hv : Clk w v d rs) (hva : Ca.valid d rs = true) (ht : Ca.isT t = true) (u : World) (hu : Below w.heap.size w u) : Calls Try.prog 35 #[v, .int .i64 t] u fun e w' => e = .returned (.agg #[.int .i64 (Ca.fst d t rs), .int .i64 (Ca.lst d t rs)]) ∧ Below u.heap.size u w' :=
  showing_any d t rs v u (hv.next hu) hva ht
/-- A box of two cells, laid ahead of a call. -/
theorem kept2 {wr w2 : World} {t : TypeId} {p q : Value} (hb : Below (wr.alloc (.cells #[p, q] t)).heap.size (wr.alloc (.cells #[p, q] t)) w2) :
    w2.cell? ⟨wr.heap.size, 0, none⟩ = some p ∧ w2.cell? ⟨wr.heap.size, 1, none⟩ = some q ∧ Below wr.heap.size wr w2 ∧ wr.heap.size + 1 ≤ w2.heap.size ∧ Row w2 wr.heap.size t #[p, q] := by
  have h := (Row.new wr t #[p, q]).below hb (by simp)
  have hs := hb.size
  rw [World.size_alloc] at hs
  exact ⟨h.cell 0, h.cell 1, ((Below.refl _ wr).alloc (Nat.le_refl _) _).trans (hb.mono (by simp)), hs, h⟩

set_option maxRecDepth 100000 in
set_option maxHeartbeats 1000000 in
theorem at_any (d t : Int) (rs : List Ca.R3) (v : Value) (w : World) (hv : Clk w v d rs) :
    Calls Try.prog 19 #[v, .int .i64 t] w fun e w' => e = .returned (.tuple #[.int .i64 (atM d rs t).1, .int .i64 (atM d rs t).2.1, .int .i64 (atM d rs t).2.2]) ∧ Below w.heap.size w w' := by
  have hVA := fun u hu => valid_c hv u hu
  have hSH := fun h1 h2 u hu => showing_c (t := t) hv h1 h2 u hu
  have hT := fun u => isTime_any t u
  obtain ⟨A, c, rfl, -⟩ := hv.form
  obtain ⟨N, hN⟩ : ∃ N, rs.length = N := ⟨_, rfl⟩
  rw [hN] at hVA hSH ⊢
  unfold atM
  clear hN
  cases h1 : Ca.valid d rs with
  | false =>
    rw [h1] at hVA
    have HVA := Lib.hid hVA
    rw [Bool.false_and, Bool.false_and, if_neg (by decide)]
    clear hVA hSH h1 hT hv
    go_enter Try.func19, Try.ntmps19
    go_wp2_with (go_at_call 16; refine (HVA.out _ ((Below.refl _ _).alloc (Nat.le_refl _) _)).mono ?_; rintro e w1 ⟨rfl, hb1⟩; obtain ⟨b0, b1, hb2, hs2, hr2⟩ := kept2 hb1; have HB2 := Lib.hid hb2; clear hb1 hb2 hr2)
    go_ret3
    exact ⟨rfl, HB2.out⟩
  | true =>
    rw [h1] at hVA
    have HVA := Lib.hid hVA
    rw [Bool.true_and]
    cases h2 : Ca.isT t with
    | false =>
      rw [h2] at hT
      rw [Bool.false_and, if_neg (by decide)]
      clear hVA hSH h1 h2 hv
      go_enter Try.func19, Try.ntmps19
      go_wp2_with (first | (go_at_call 16; refine (HVA.out _ ((Below.refl _ _).alloc (Nat.le_refl _) _)).mono ?_; rintro e w1 ⟨rfl, hb1⟩; obtain ⟨b0, b1, hb2, hs2, hr2⟩ := kept2 hb1; have HB2 := Lib.hid hb2; clear hb1 hb2 hr2) | (go_at_call 30; refine (hT _).mono ?_; rintro e w' ⟨rfl, rfl⟩))
      go_ret3
      exact ⟨rfl, HB2.out⟩
    | true =>
      have hS := hSH h1 h2
      rw [h2] at hT
      rw [Bool.true_and]
      obtain ⟨f, hf⟩ : ∃ f, Ca.fst d t rs = f := ⟨_, rfl⟩
      obtain ⟨l, hl⟩ : ∃ l, Ca.lst d t rs = l := ⟨_, rfl⟩
      rw [hf, hl] at hS ⊢
      have HS := Lib.hid hS
      clear hVA hSH h1 h2 hf hl hS hv
      by_cases hfl : f ≤ l
      · have hlf : ¬ l < f := by omega
        rw [decide_eq_true hfl, if_pos rfl]
        go_enter Try.func19, Try.ntmps19
        go_wp2_with (first | (go_at_call 16; refine (HVA.out _ ((Below.refl _ _).alloc (Nat.le_refl _) _)).mono ?_; rintro e w1 ⟨rfl, hb1⟩; obtain ⟨b0, b1, hb2, hs2, hr2⟩ := kept2 hb1; have HB2 := Lib.hid hb2; clear hb1 hb2 hr2) | (go_at_call 30; refine (hT _).mono ?_; rintro e w' ⟨rfl, rfl⟩) | (go_at_call 35; refine (HS.out _ HB2.out).mono ?_; rintro e w3 ⟨rfl, hb3⟩; have HB3 := Lib.hid hb3; clear hb3))
        go_region
        all_goals go_wp2
        all_goals go_ret3
        all_goals exact ⟨rfl, belowN ((below_to HB2.out HB3.out).alloc (by have := HB2.out.size; have := HB3.out.size; omega) _) _⟩
      · have hlf : l < f := by omega
        rw [decide_eq_false hfl, if_neg (by decide)]
        go_enter Try.func19, Try.ntmps19
        go_wp2_with (first | (go_at_call 16; refine (HVA.out _ ((Below.refl _ _).alloc (Nat.le_refl _) _)).mono ?_; rintro e w1 ⟨rfl, hb1⟩; obtain ⟨b0, b1, hb2, hs2, hr2⟩ := kept2 hb1; have HB2 := Lib.hid hb2; clear hb1 hb2 hr2) | (go_at_call 30; refine (hT _).mono ?_; rintro e w' ⟨rfl, rfl⟩) | (go_at_call 35; refine (HS.out _ HB2.out).mono ?_; rintro e w3 ⟨rfl, hb3⟩; have HB3 := Lib.hid hb3; clear hb3))
        go_ret3
        exact ⟨rfl, (below_to HB2.out HB3.out).alloc (by have := HB2.out.size; have := HB3.out.size; omega) _⟩

theorem at_c {d : Int} {rs : List Ca.R3} {v : Value} {w : World} (hv : Clk w v d rs) (t : Int) (u : World) (hu : Below w.heap.size w u) :
    Calls Try.prog 19 #[v, .int .i64 t] u fun e w' => e = .returned (.tuple #[.int .i64 (atM d rs t).1, .int .i64 (atM d rs t).2.1, .int .i64 (atM d rs t).2.2]) ∧ Below u.heap.size u w' := at_any d t rs v u (hv.next hu)
def beforeM (d : Int) (rs : List Ca.R3) (l t : Int) : Bool := decide ((atM d rs l).2.2 = 0) && decide ((atM d rs l).2.1 < t)
def afterM (d : Int) (rs : List Ca.R3) (l t : Int) : Bool := decide ((atM d rs l).2.2 = 0) && decide ((atM d rs l).1 > t)
set_option maxRecDepth 100000 in
set_option maxHeartbeats 1000000 in
theorem before_any (d l t : Int) (rs : List Ca.R3) (v : Value) (w : World) (hv : Clk w v d rs) :
    Calls Try.prog 23 #[v, .int .i64 l, .int .i64 t] w fun e w' => e = .returned (.bool (beforeM d rs l t)) ∧ Below w.heap.size w w' := by
  have hAT := fun u hu => at_c hv l u hu
  obtain ⟨A, c, rfl, -⟩ := hv.form
  obtain ⟨N, hN⟩ : ∃ N, rs.length = N := ⟨_, rfl⟩
  unfold beforeM
  obtain ⟨x, hx⟩ : ∃ x, atM d rs l = x := ⟨_, rfl⟩
  rw [hx] at hAT ⊢
  obtain ⟨p, q, r⟩ := x
  dsimp only at hAT ⊢
  have HAT := Lib.hid hAT
  rw [hN] at HAT ⊢
  clear hAT hN hx hv
  by_cases h1 : r = 0
  · have e1 : (r == 0) = true := by simpa using h1
    rw [decide_eq_true h1, Bool.true_and]
    clear h1
    go_enter Try.func23, Try.ntmps23
    go_wp2_with (go_at_call 19; refine (HAT.out _ ((Below.refl _ _).alloc (Nat.le_refl _) _)).mono ?_; rintro e w1 ⟨rfl, hb1⟩; have HB1 := Lib.hid hb1; clear hb1)
    go_ret
    exact ⟨rfl, ((Below.refl _ w).alloc (Nat.le_refl _) _).trans (HB1.out.mono (by simp))⟩
  · have e1 : (r == 0) = false := by simpa using h1
    rw [decide_eq_false h1, Bool.false_and]
    clear h1
    go_enter Try.func23, Try.ntmps23
    go_wp2_with (go_at_call 19; refine (HAT.out _ ((Below.refl _ _).alloc (Nat.le_refl _) _)).mono ?_; rintro e w1 ⟨rfl, hb1⟩; have HB1 := Lib.hid hb1; clear hb1)
    go_ret
    exact ⟨rfl, ((Below.refl _ w).alloc (Nat.le_refl _) _).trans (HB1.out.mono (by simp))⟩
set_option maxRecDepth 100000 in
set_option maxHeartbeats 1000000 in
theorem after_any (d l t : Int) (rs : List Ca.R3) (v : Value) (w : World) (hv : Clk w v d rs) :
    Calls Try.prog 25 #[v, .int .i64 l, .int .i64 t] w fun e w' => e = .returned (.bool (afterM d rs l t)) ∧ Below w.heap.size w w' := by
  have hAT := fun u hu => at_c hv l u hu
  obtain ⟨A, c, rfl, -⟩ := hv.form
  obtain ⟨N, hN⟩ : ∃ N, rs.length = N := ⟨_, rfl⟩
  unfold afterM
  obtain ⟨x, hx⟩ : ∃ x, atM d rs l = x := ⟨_, rfl⟩
  rw [hx] at hAT ⊢
  obtain ⟨p, q, r⟩ := x
  dsimp only at hAT ⊢
  have HAT := Lib.hid hAT
  rw [hN] at HAT ⊢
  clear hAT hN hx hv
  by_cases h1 : r = 0
  · have e1 : (r == 0) = true := by simpa using h1
    rw [decide_eq_true h1, Bool.true_and]
    clear h1
    go_enter Try.func25, Try.ntmps25
    go_wp2_with (go_at_call 19; refine (HAT.out _ ((Below.refl _ _).alloc (Nat.le_refl _) _)).mono ?_; rintro e w1 ⟨rfl, hb1⟩; have HB1 := Lib.hid hb1; clear hb1)
    go_ret
    exact ⟨rfl, ((Below.refl _ w).alloc (Nat.le_refl _) _).trans (HB1.out.mono (by simp))⟩
  · have e1 : (r == 0) = false := by simpa using h1
    rw [decide_eq_false h1, Bool.false_and]
    clear h1
    go_enter Try.func25, Try.ntmps25
    go_wp2_with (go_at_call 19; refine (HAT.out _ ((Below.refl _ _).alloc (Nat.le_refl _) _)).mono ?_; rintro e w1 ⟨rfl, hb1⟩; have HB1 := Lib.hid hb1; clear hb1)
    go_ret
    exact ⟨rfl, ((Below.refl _ w).alloc (Nat.le_refl _) _).trans (HB1.out.mono (by simp))⟩
end Go.Proofs.Ytfbgfcpehlimfaa
