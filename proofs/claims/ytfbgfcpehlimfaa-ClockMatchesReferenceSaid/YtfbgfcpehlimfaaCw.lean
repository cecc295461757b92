/- Contracts of the reference's At, Before, After and Reads. -/
import Derived.Test.YtfbgfcpehlimfaaCu
import Derived.Test.YtfbgfcpehlimfaaCg
namespace Go.Proofs.Ytfbgfcpehlimfaa
open Go.RowKit

theorem box2' {W u : World} {g : Nat} {t : TypeId} {a b : Value} (h : Row W g t #[a, b]) (hb : Below W.heap.size W u) : u.cell? ⟨g, 0, none⟩ = some a ∧ u.cell? ⟨g, 1, none⟩ = some b := by
  have h2 := h.below hb h.lt
  exact ⟨h2.cell 0, h2.cell 1⟩
theorem rvalid_c {d : Int} {rs : List Ca.R3} {v : Value} {w : World} (hv : Clk w v d rs) (u : World) (hu : Below w.heap.size w u) : Calls Try.prog 17 #[v] u fun e w' => e = .returned (.bool (Ca.valid d rs)) ∧ Below u.heap.size u w' := rvalid_any d rs v u (hv.next hu)
theorem rbounds_c {d t : Int} {rs : List Ca.R3} {v : Value} {w : World} (hv : Clk w v d rs) (hva : Ca.valid d rs = true) (ht : Ca.isT t = true) (u : World) (hu : Below w.heap.size w u) : Calls Try.prog 36 #[v, .int .i64 t] u fun e w' => e = .returned (.tuple #[.int .i64 (Ca.fst d t rs), .int .i64 (Ca.lst d t rs)]) ∧ Below u.heap.size u w' :=
  rbounds_any d t rs v u (hv.next hu) hva ht
set_option maxRecDepth 100000 in
set_option maxHeartbeats 1000000 in
theorem rat_any (d t : Int) (rs : List Ca.R3) (v : Value) (w : World) (hv : Clk w v d rs) :
    Calls Try.prog 20 #[v, .int .i64 t] w fun e w' => e = .returned (.tuple #[.int .i64 (atM d rs t).1, .int .i64 (atM d rs t).2.1, .int .i64 (atM d rs t).2.2]) ∧ Below w.heap.size w w' := by
  have hVA := fun u hu => rvalid_c hv u hu
  have hSH := fun h1 h2 u hu => rbounds_c (t := t) hv h1 h2 u hu
  obtain ⟨A, c, rfl, -⟩ := hv.form
  obtain ⟨N, hN⟩ : ∃ N, rs.length = N := ⟨_, rfl⟩
  rw [hN] at hVA hSH ⊢
  unfold atM
  clear hN
  cases h1 : Ca.valid d rs with
  | false =>
    rw [h1] at hVA
    have HVA := Lib.hid hVA
    have HS := Lib.hid hSH
    rw [Bool.false_and, Bool.false_and, if_neg (by decide)]
    clear hVA hSH h1 hv
    go_enter Try.func20, Try.ntmps20
    go_wp2_with (first | (go_at_call 17; with_reducible refine Calls.mono (HVA.out _ ((Below.refl _ _).alloc (Nat.le_refl _) _)) ?_; rintro e w1 ⟨rfl, hb1⟩; obtain ⟨b0, b1, hb2, hs2, hr2⟩ := kept2 hb1; have HB2 := Lib.hid hb2; have HR2 := Lib.hid hr2; clear hb1 hb2 hr2) | (go_at_call 36; with_reducible refine Calls.mono (HS.out _ HB2.out) ?_; rintro e w3 ⟨rfl, hb3⟩; have HB3 := Lib.hid hb3; clear hb3))
    go_ret3
    exact ⟨rfl, HB2.out⟩
  | true =>
    rw [h1] at hVA
    have HVA := Lib.hid hVA
    rw [Bool.true_and]
    by_cases t1 : t < 0
    · have e1 : Ca.isT t = false := by cases e : Ca.isT t with
        | false => rfl
        | true => have := (Ca.isT_iff t).1 e; omega
      rw [e1, Bool.false_and, if_neg (by decide)]
      have HS := Lib.hid hSH
      clear hVA hSH h1 e1 hv
      go_enter Try.func20, Try.ntmps20
      go_wp2_with (first | (go_at_call 17; with_reducible refine Calls.mono (HVA.out _ ((Below.refl _ _).alloc (Nat.le_refl _) _)) ?_; rintro e w1 ⟨rfl, hb1⟩; obtain ⟨b0, b1, hb2, hs2, hr2⟩ := kept2 hb1; have HB2 := Lib.hid hb2; have HR2 := Lib.hid hr2; clear hb1 hb2 hr2) | (go_at_call 36; with_reducible refine Calls.mono (HS.out _ HB2.out) ?_; rintro e w3 ⟨rfl, hb3⟩; have HB3 := Lib.hid hb3; clear hb3))
      go_ret3
      exact ⟨rfl, HB2.out⟩
    by_cases t2 : 10000000 < t
    · have e1 : Ca.isT t = false := by cases e : Ca.isT t with
        | false => rfl
        | true => have := (Ca.isT_iff t).1 e; omega
      rw [e1, Bool.false_and, if_neg (by decide)]
      have HS := Lib.hid hSH
      clear hVA hSH h1 e1 hv
      go_enter Try.func20, Try.ntmps20
      go_wp2_with (first | (go_at_call 17; with_reducible refine Calls.mono (HVA.out _ ((Below.refl _ _).alloc (Nat.le_refl _) _)) ?_; rintro e w1 ⟨rfl, hb1⟩; obtain ⟨b0, b1, hb2, hs2, hr2⟩ := kept2 hb1; have HB2 := Lib.hid hb2; have HR2 := Lib.hid hr2; clear hb1 hb2 hr2) | (go_at_call 36; with_reducible refine Calls.mono (HS.out _ HB2.out) ?_; rintro e w3 ⟨rfl, hb3⟩; have HB3 := Lib.hid hb3; clear hb3))
      go_ret3
      exact ⟨rfl, HB2.out⟩
    have h2 : Ca.isT t = true := (Ca.isT_iff t).2 ⟨by omega, by omega⟩
    have hS := hSH h1 h2
    rw [h2, Bool.true_and]
    obtain ⟨f, hf⟩ : ∃ f, Ca.fst d t rs = f := ⟨_, rfl⟩
    obtain ⟨l, hl⟩ : ∃ l, Ca.lst d t rs = l := ⟨_, rfl⟩
    rw [hf, hl] at hS ⊢
    have HS := Lib.hid hS
    clear hVA hSH h1 h2 hf hl hS hv
    by_cases hfl : f ≤ l
    · have hlf : ¬ l < f := by omega
      rw [decide_eq_true hfl, if_pos rfl]
      go_enter Try.func20, Try.ntmps20
      go_wp2_with (first | (go_at_call 17; with_reducible refine Calls.mono (HVA.out _ ((Below.refl _ _).alloc (Nat.le_refl _) _)) ?_; rintro e w1 ⟨rfl, hb1⟩; obtain ⟨b0, b1, hb2, hs2, hr2⟩ := kept2 hb1; have HB2 := Lib.hid hb2; have HR2 := Lib.hid hr2; clear hb1 hb2 hr2) | (go_at_call 36; with_reducible refine Calls.mono (HS.out _ HB2.out) ?_; rintro e w3 ⟨rfl, hb3⟩; have HB3 := Lib.hid hb3; clear hb3))
      go_ret3
      exact ⟨rfl, below_to HB2.out HB3.out⟩
    · have hlf : l < f := by omega
      rw [decide_eq_false hfl, if_neg (by decide)]
      go_enter Try.func20, Try.ntmps20
      go_wp2_with (first | (go_at_call 17; with_reducible refine Calls.mono (HVA.out _ ((Below.refl _ _).alloc (Nat.le_refl _) _)) ?_; rintro e w1 ⟨rfl, hb1⟩; obtain ⟨b0, b1, hb2, hs2, hr2⟩ := kept2 hb1; have HB2 := Lib.hid hb2; have HR2 := Lib.hid hr2; clear hb1 hb2 hr2) | (go_at_call 36; with_reducible refine Calls.mono (HS.out _ HB2.out) ?_; rintro e w3 ⟨rfl, hb3⟩; have HB3 := Lib.hid hb3; clear hb3))
      go_ret3
      exact ⟨rfl, below_to HB2.out HB3.out⟩
theorem rat_c {d : Int} {rs : List Ca.R3} {v : Value} {w : World} (hv : Clk w v d rs) (t : Int) (u : World) (hu : Below w.heap.size w u) :
    Calls Try.prog 20 #[v, .int .i64 t] u fun e w' => e = .returned (.tuple #[.int .i64 (atM d rs t).1, .int .i64 (atM d rs t).2.1, .int .i64 (atM d rs t).2.2]) ∧ Below u.heap.size u w' := rat_any d t rs v u (hv.next hu)
set_option maxRecDepth 100000 in
set_option maxHeartbeats 1000000 in
theorem rbefore_any (d l t : Int) (rs : List Ca.R3) (v : Value) (w : World) (hv : Clk w v d rs) :
    Calls Try.prog 24 #[v, .int .i64 l, .int .i64 t] w fun e w' => e = .returned (.bool (beforeM d rs l t)) ∧ Below w.heap.size w w' := by
  have hAT := fun u hu => rat_c hv l u hu
  obtain ⟨A, c, rfl, -⟩ := hv.form
  obtain ⟨N, hN⟩ : ∃ N, rs.length = N := ⟨_, rfl⟩
  unfold beforeM
  obtain ⟨x, hx⟩ : ∃ x, atM d rs l = x := ⟨_, rfl⟩
  rw [hx] at hAT ⊢
  obtain ⟨p, q, r⟩ := x
  dsimp only at hAT ⊢
  have HAT := Lib.hid hAT
  rw [hN] at HAT ⊢
  clear hAT hN hx hv
  by_cases h1 : r = 0
  · have e1 : (r == 0) = true := by simpa using h1
    rw [decide_eq_true h1, Bool.true_and]
    clear h1
    go_enter Try.func24, Try.ntmps24
    go_wp2_with (go_at_call 20; refine (HAT.out _ ((Below.refl _ _).alloc (Nat.le_refl _) _)).mono ?_; rintro e w1 ⟨rfl, hb1⟩; have HB1 := Lib.hid hb1; clear hb1)
    go_ret
    exact ⟨rfl, ((Below.refl _ w).alloc (Nat.le_refl _) _).trans (HB1.out.mono (by simp))⟩
  · have e1 : (r == 0) = false := by simpa using h1
    rw [decide_eq_false h1, Bool.false_and]
    clear h1
    go_enter Try.func24, Try.ntmps24
    go_wp2_with (go_at_call 20; refine (HAT.out _ ((Below.refl _ _).alloc (Nat.le_refl _) _)).mono ?_; rintro e w1 ⟨rfl, hb1⟩; have HB1 := Lib.hid hb1; clear hb1)
    go_ret
    exact ⟨rfl, ((Below.refl _ w).alloc (Nat.le_refl _) _).trans (HB1.out.mono (by simp))⟩
set_option maxRecDepth 100000 in
set_option maxHeartbeats 1000000 in
theorem rafter_any (d l t : Int) (rs : List Ca.R3) (v : Value) (w : World) (hv : Clk w v d rs) :
    Calls Try.prog 26 #[v, .int .i64 l, .int .i64 t] w fun e w' => e = .returned (.bool (afterM d rs l t)) ∧ Below w.heap.size w w' := by
  have hAT := fun u hu => rat_c hv l u hu
  obtain ⟨A, c, rfl, -⟩ := hv.form
  obtain ⟨N, hN⟩ : ∃ N, rs.length = N := ⟨_, rfl⟩
  unfold afterM
  obtain ⟨x, hx⟩ : ∃ x, atM d rs l = x := ⟨_, rfl⟩
  rw [hx] at hAT ⊢
  obtain ⟨p, q, r⟩ := x
  dsimp only at hAT ⊢
  have HAT := Lib.hid hAT
  rw [hN] at HAT ⊢
  clear hAT hN hx hv
  by_cases h1 : r = 0
  · have e1 : (r == 0) = true := by simpa using h1
    rw [decide_eq_true h1, Bool.true_and]
    clear h1
    go_enter Try.func26, Try.ntmps26
    go_wp2_with (go_at_call 20; refine (HAT.out _ ((Below.refl _ _).alloc (Nat.le_refl _) _)).mono ?_; rintro e w1 ⟨rfl, hb1⟩; have HB1 := Lib.hid hb1; clear hb1)
    go_ret
    exact ⟨rfl, ((Below.refl _ w).alloc (Nat.le_refl _) _).trans (HB1.out.mono (by simp))⟩
  · have e1 : (r == 0) = false := by simpa using h1
    rw [decide_eq_false h1, Bool.false_and]
    clear h1
    go_enter Try.func26, Try.ntmps26
    go_wp2_with (go_at_call 20; refine (HAT.out _ ((Below.refl _ _).alloc (Nat.le_refl _) _)).mono ?_; rintro e w1 ⟨rfl, hb1⟩; have HB1 := Lib.hid hb1; clear hb1)
    go_ret
    exact ⟨rfl, ((Below.refl _ w).alloc (Nat.le_refl _) _).trans (HB1.out.mono (by simp))⟩

set_option maxRecDepth 100000 in
set_option maxHeartbeats 8000000 in
theorem rreads_any (d t : Int) (rs : List Ca.R3) (v : Value) (w : World) (hv : Clk w v d rs) :
    Calls Try.prog 22 #[v, .int .i64 t] w fun e w' => ∃ x y z : Int, e = .returned (.tuple #[.int .i64 x, .int .i64 y, .int .i64 z]) ∧ ReadsM d rs t x y z ∧ Below w.heap.size w w' := by
  have hVA := fun u hu => rvalid_c hv u hu
  have hSH := fun h1 (z : Int) (a : 0 ≤ z) (b : z ≤ 10000000) u hu => rbounds_c (t := z) hv h1 ((Ca.isT_iff z).2 ⟨a, b⟩) u hu
  obtain ⟨A, c, rfl, -⟩ := hv.form
  obtain ⟨N, hN⟩ : ∃ N, rs.length = N := ⟨_, rfl⟩
  rw [hN] at hVA hSH ⊢
  clear hN hv
  cases h1 : Ca.valid d rs with
  | false =>
    rw [h1] at hVA
    have HVA := Lib.hid hVA
    have HS := Lib.hid hSH
    have HR : Hid (ReadsM d rs t 0 0 50) := Lib.hid (.inl ⟨by rw [h1]; rfl, rfl, rfl, rfl⟩)
    clear hVA hSH h1
    go_enter Try.func22, Try.ntmps22
    go_wp2_with (go_at_call 17; with_reducible refine Calls.mono (HVA.out _ ((Below.refl _ _).alloc (Nat.le_refl _) _)) ?_; rintro e w1 ⟨rfl, hb1⟩; obtain ⟨b0, b1, hb2, hs2, hr2⟩ := kept2 hb1; have HB2 := Lib.hid hb2; have HR2 := Lib.hid hr2; clear hb1 hb2 hr2)
    go_ret3
    exact ⟨_, _, _, rfl, HR.out, HB2.out⟩
  | true =>
    rw [h1] at hVA
    have HVA := Lib.hid hVA
    by_cases t1 : t < 0
    · have HR : Hid (ReadsM d rs t 0 0 50) := Lib.hid (.inl ⟨by
        have e1 : Ca.isT t = false := by cases e : Ca.isT t with
          | false => rfl
          | true => have := (Ca.isT_iff t).1 e; omega
        rw [e1, Bool.and_false], rfl, rfl, rfl⟩)
      clear hVA hSH h1
      go_enter Try.func22, Try.ntmps22
      go_wp2_with (go_at_call 17; with_reducible refine Calls.mono (HVA.out _ ((Below.refl _ _).alloc (Nat.le_refl _) _)) ?_; rintro e w1 ⟨rfl, hb1⟩; obtain ⟨b0, b1, hb2, hs2, hr2⟩ := kept2 hb1; have HB2 := Lib.hid hb2; have HR2 := Lib.hid hr2; clear hb1 hb2 hr2)
      go_ret3
      exact ⟨_, _, _, rfl, HR.out, HB2.out⟩
    by_cases t2 : 10000000 < t
    · have HR : Hid (ReadsM d rs t 0 0 50) := Lib.hid (.inl ⟨by
        have e1 : Ca.isT t = false := by cases e : Ca.isT t with
          | false => rfl
          | true => have := (Ca.isT_iff t).1 e; omega
        rw [e1, Bool.and_false], rfl, rfl, rfl⟩)
      clear hVA hSH h1
      go_enter Try.func22, Try.ntmps22
      go_wp2_with (go_at_call 17; with_reducible refine Calls.mono (HVA.out _ ((Below.refl _ _).alloc (Nat.le_refl _) _)) ?_; rintro e w1 ⟨rfl, hb1⟩; obtain ⟨b0, b1, hb2, hs2, hr2⟩ := kept2 hb1; have HB2 := Lib.hid hb2; have HR2 := Lib.hid hr2; clear hb1 hb2 hr2)
      go_ret3
      exact ⟨_, _, _, rfl, HR.out, HB2.out⟩
    have HT := Lib.hid (show (Ca.valid d rs && Ca.isT t) = true by rw [h1, (Ca.isT_iff t).2 ⟨by omega, by omega⟩]; rfl)
    have HS := Lib.hid (hSH h1)
    obtain ⟨⟨d1, d2⟩, -, -⟩ := (Ca.valid_iff d rs).1 h1
    have HML := Lib.hid (fun a b h e => Ca.pL_mono d rs t d1 d2 a b h e)
    have HMF := Lib.hid (fun a b h e => Ca.pF_mono d rs t d1 d2 a b h e)
    clear hVA hSH h1
    go_enter Try.func22, Try.ntmps22
    go_wp2_with (go_at_call 17; with_reducible refine Calls.mono (HVA.out _ ((Below.refl _ _).alloc (Nat.le_refl _) _)) ?_; rintro e w1 ⟨rfl, hb1⟩; obtain ⟨b0, b1, hb2, hs2, hr2⟩ := kept2 hb1; have HB2 := Lib.hid hb2; have HR2 := Lib.hid hr2; clear hb1 hb2 hr2)
    go_loopw [7, 8, 9, 10, 11] (fun s7 s8 _ _ _ wr => ∃ lo hi : Nat, s7 = .int .i64 (lo : Int) ∧ s8 = .int .i64 (hi : Int) ∧ lo ≤ hi ∧ hi ≤ 10000001 ∧ Below w1.heap.size w1 wr ∧
      Hid ((∀ i, i < lo → Ca.pL d rs t i = false) ∧ (∀ i, hi ≤ i → i < 10000001 → Ca.pL d rs t i = true))) (fun a b _ _ _ _ => (intOf b - intOf a).toNat)
    case atStart => exact ⟨0, 10000001, rfl, rfl, by omega, by omega, Below.refl _ _, Lib.hid ⟨fun i h => absurd h (Nat.not_lt_zero _), fun i h1 h2 => by omega⟩⟩
    case round =>
      obtain ⟨lo, hi, rfl, rfl, hlh, hin, hbw, I⟩ := hrel
      have HBW := Lib.hid hbw
      obtain ⟨p0, p1⟩ := box2' HR2.out hbw
      clear hbw
      by_cases hlt : lo < hi
      · have hc := fun u hu => HS.out (((lo : Int) + (hi : Int)) / 2) (by omega) (by omega) u hu
        have hpd : Ca.pL d rs t ((lo + hi) / 2) = decide (Ca.lst d (((lo : Int) + (hi : Int)) / 2) rs ≥ t) := by unfold Ca.pL; rw [show (((lo + hi) / 2 : Nat) : Int) = ((lo : Int) + (hi : Int)) / 2 by omega]
        obtain ⟨f, hf⟩ : ∃ f, Ca.fst d (((lo : Int) + (hi : Int)) / 2) rs = f := ⟨_, rfl⟩
        obtain ⟨l, hl⟩ : ∃ l, Ca.lst d (((lo : Int) + (hi : Int)) / 2) rs = l := ⟨_, rfl⟩
        rw [hf, hl] at hc
        rw [hl] at hpd
        have HC := Lib.hid hc
        clear hc hf hl
        by_cases hp : t ≤ l
        · rw [decide_eq_true hp] at hpd
          have HP := Lib.hid hpd
          clear hpd
          go_wp2_with (go_at_call 36; with_reducible refine Calls.mono (HC.out _ (below_to HB2.out HBW.out)) ?_; rintro e w4 ⟨rfl, hb4⟩; have HB4 := Lib.hid hb4; clear hb4)
          go_roundw
          case rel => exact ⟨lo, (lo + hi) / 2, rfl, by rw [show ((lo : Int) + (hi : Int)) / 2 = (((lo + hi) / 2 : Nat) : Int) by omega], by omega, by omega, below_to HBW.out HB4.out, Lib.hid ⟨I.out.1, fun i h _ => HML.out ((lo + hi) / 2) i h HP.out⟩⟩
          case measure => simp [intOf]; omega
        · rw [decide_eq_false (show ¬ l ≥ t from hp)] at hpd
          have HP := Lib.hid hpd
          clear hpd
          go_wp2_with (go_at_call 36; with_reducible refine Calls.mono (HC.out _ (below_to HB2.out HBW.out)) ?_; rintro e w4 ⟨rfl, hb4⟩; have HB4 := Lib.hid hb4; clear hb4)
          go_roundw
          case rel => exact ⟨(lo + hi) / 2 + 1, hi, by rw [show ((lo : Int) + (hi : Int)) / 2 + 1 = (((lo + hi) / 2 + 1 : Nat) : Int) by omega], rfl, by omega, by omega, below_to HBW.out HB4.out, Lib.hid ⟨fun i h => (by
              cases e : Ca.pL d rs t i with
              | false => rfl
              | true => have := HML.out i ((lo + hi) / 2) (by omega) e; rw [HP.out] at this; cases this), I.out.2⟩⟩
          case measure => simp [intOf]; omega
      · obtain rfl : hi = lo := by omega
        have HEL := Lib.hid (show Ca.Edge (Ca.pL d rs t) 10000001 hi from ⟨hin, I.out⟩)
        clear I hlt hlh
        go_wp2
        go_loopw [8, 12, 13, 14, 15] (fun s8 s12 _ _ _ wr2 => ∃ j h : Nat, s12 = .int .i64 ((j : Int) - 1) ∧ s8 = .int .i64 (h : Int) ∧ j ≤ h ∧ h ≤ 10000001 ∧ Below w1.heap.size w1 wr2 ∧
          Hid ((∀ i, i < j → Ca.pF d rs t i = false) ∧ (∀ i, h ≤ i → i < 10000001 → Ca.pF d rs t i = true))) (fun b a _ _ _ _ => (intOf b - intOf a).toNat)
        case atStart => exact ⟨0, 10000001, rfl, rfl, by omega, by omega, HBW.out, Lib.hid ⟨fun i h => absurd h (Nat.not_lt_zero _), fun i h1 h2 => by omega⟩⟩
        case round =>
          obtain ⟨j, h, rfl, rfl, hjh, hhn, hbw, I⟩ := hrel
          have HBW2 := Lib.hid hbw
          obtain ⟨p2, p3⟩ := box2' HR2.out hbw
          clear hbw
          by_cases hlt : j < h
          · have hq0 : ((j : Int) - 1 + (h : Int)).tdiv 2 = ((j : Int) - 1 + (h : Int)) / 2 := Int.tdiv_eq_ediv_of_nonneg (by omega)
            obtain ⟨m, hm⟩ : ∃ m : Nat, ((j : Int) - 1 + (h : Int)) / 2 = (m : Int) := ⟨(((j : Int) - 1 + (h : Int)) / 2).toNat, by omega⟩
            rw [hm] at hq0
            have hm1 : j ≤ m := by omega
            have hm2 : m < h := by omega
            have hc := fun u hu => HS.out (m : Int) (by omega) (by omega) u hu
            have hpd : Ca.pF d rs t m = decide (Ca.fst d (m : Int) rs > t) := rfl
            obtain ⟨f, hf⟩ : ∃ f, Ca.fst d (m : Int) rs = f := ⟨_, rfl⟩
            obtain ⟨l, hl⟩ : ∃ l, Ca.lst d (m : Int) rs = l := ⟨_, rfl⟩
            rw [hf, hl] at hc
            rw [hf] at hpd
            have HC := Lib.hid hc
            have s0 : (j : Int) - 1 + 1 = (j : Int) := by omega
            clear hc hf hl hm
            by_cases hp : f ≤ t
            · rw [decide_eq_false (show ¬ f > t by omega)] at hpd
              have HP := Lib.hid hpd
              clear hpd
              go_wp2_with (go_at_call 36; with_reducible refine Calls.mono (HC.out _ (below_to HB2.out HBW2.out)) ?_; rintro e w4 ⟨rfl, hb4⟩; have HB4 := Lib.hid hb4; clear hb4)
              go_roundw
              case rel => exact ⟨m + 1, h, by rw [show (((m + 1 : Nat) : Int)) - 1 = (m : Int) by omega], rfl, by omega, by omega, below_to HBW2.out HB4.out, Lib.hid ⟨fun i h => (by
                  cases e : Ca.pF d rs t i with
                  | false => rfl
                  | true => have := HMF.out i m (by omega) e; rw [HP.out] at this; cases this), I.out.2⟩⟩
              case measure => simp [intOf]; omega
            · rw [decide_eq_true (show f > t by omega)] at hpd
              have HP := Lib.hid hpd
              clear hpd
              go_wp2_with (go_at_call 36; with_reducible refine Calls.mono (HC.out _ (below_to HB2.out HBW2.out)) ?_; rintro e w4 ⟨rfl, hb4⟩; have HB4 := Lib.hid hb4; clear hb4)
              go_roundw
              case rel => exact ⟨j, m, rfl, rfl, by omega, by omega, below_to HBW2.out HB4.out, Lib.hid ⟨I.out.1, fun i h _ => HMF.out m i h HP.out⟩⟩
              case measure => simp [intOf]; omega
          · obtain rfl : h = j := by omega
            have HEF := Lib.hid (show Ca.Edge (Ca.pF d rs t) 10000001 h from ⟨hhn, I.out⟩)
            have s0 : (h : Int) - 1 + 1 = (h : Int) := by omega
            clear I hlt hjh
            by_cases hfin : hi < h
            · have g1 : ¬ (h : Int) - 1 < (hi : Int) := by omega
              go_wp2
              go_ret3
              exact ⟨_, _, _, rfl, .inr ⟨HT.out, hi, h, HEL.out, HEF.out, .inl ⟨hfin, rfl, rfl, rfl⟩⟩, below_to HB2.out HBW2.out⟩
            · have g1 : (h : Int) - 1 < (hi : Int) := by omega
              go_wp2
              go_ret3
              exact ⟨_, _, _, rfl, .inr ⟨HT.out, hi, h, HEL.out, HEF.out, .inr ⟨by omega, rfl, rfl, rfl⟩⟩, below_to HB2.out HBW2.out⟩
end Go.Proofs.Ytfbgfcpehlimfaa
