/- The reference's Valid, has, In, ValidSpell. The reference's In and Next. Texts in plain words: the pieces of a text and their joining; sets as their runs. The reference's Spells. The reference's Spells. The reference's Spells, whatever it is given; and its Seconds. -/
import Derived.Test.YtmfpaankkoaoaaaDoorWb
import Derived.Test.YtmfpaankkoaoaaaDoorVo
import Derived.Lib.IndexMore
import Derived.Test.YtmfpaankkoaoaaaDoorVp
/- The reference's Valid, has, In, ValidSpell. -/
namespace Go.Proofs.YtmfpaankkoaoaaaDoor
open Go.RowKit Go.Shelf

set_option maxRecDepth 100000 in
set_option maxHeartbeats 4000000 in
theorem rvalid_any (l : List Int) (h7 : l.length = 7) (w : World) : Calls Tryd.prog 7 #[wv l] w fun e w' => e = .returned (.bool (validW l)) ∧ Below w.heap.size w w' := by
  have HG := Lib.hid (fun k (hk : k < 7) => (⟨_, List.getElem?_eq_getElem (l := l) (i := k) (by omega)⟩ : ∃ x, l[k]? = some x))
  have HT := Lib.hid (show l.take 7 = l from List.take_of_length_le (by omega))
  have HC := Lib.hid (fun k => ints_get l k)
  obtain ⟨L, hL⟩ : ∃ L, l = L := ⟨_, rfl⟩
  obtain ⟨a, b, c, d, e, f, g, rfl⟩ := seven h7
  have hwv : wv L = .agg #[.int .i64 a, .int .i64 b, .int .i64 c, .int .i64 d, .int .i64 e, .int .i64 f, .int .i64 g] := by rw [← hL]; rfl
  have hin : ints L = #[.int .i64 a, .int .i64 b, .int .i64 c, .int .i64 d, .int .i64 e, .int .i64 f, .int .i64 g] := by rw [← hL]; rfl
  rw [hL] at HG HT HC ⊢
  rw [hin] at HC
  rw [hwv]
  clear hwv h7 hL
  obtain ⟨W0, hW0⟩ : ∃ W0, w.alloc (.cells #[.int .i64 a, .int .i64 b, .int .i64 c, .int .i64 d, .int .i64 e, .int .i64 f, .int .i64 g] 23) = W0 := ⟨_, rfl⟩
  have RW := Lib.hid (show Row W0 w.heap.size 23 #[.int .i64 a, .int .i64 b, .int .i64 c, .int .i64 d, .int .i64 e, .int .i64 f, .int .i64 g] by rw [← hW0]; exact Row.new _ _ _)
  have BW := Lib.hid (show Below w.heap.size w W0 by rw [← hW0]; exact (Below.refl _ w).alloc (Nat.le_refl _) _)
  have HW0 := Lib.hid hW0
  clear hin hW0
  go_enter Tryd.func7, Tryd.ntmps7
  go_wp2
  rw [HW0.out]
  have lW := RW.out.lt
  go_loop [3] (fun i => ∃ k : Nat, k ≤ 7 ∧ i = .int .i64 (k : Int) ∧ Hid (validW (L.take k) = true)) (fun i => 7 - (intOf i).toNat)
  case atStart => exact ⟨0, by omega, rfl, Lib.hid rfl⟩
  case round =>
    obtain ⟨k, hk, rfl, HV⟩ := hrel
    have i1 : (0 : Int) ≤ (k : Int) := by omega
    by_cases hlt : k < 7
    · obtain ⟨x, hx⟩ := HG.out k hlt
      have hc := HC.out k
      rw [hx] at hc
      have cx : W0.cell? ⟨w.heap.size, k, none⟩ = some (.int .i64 x) := (RW.out.cell k).trans hc
      have i2 : (k : Int) < 7 := by omega
      clear hc
      by_cases x1 : x < 0
      · have HB := Lib.hid (valid_bad hx (show okH x = false by simp [okH]; omega))
        clear hx
        go_wp2
        go_ret
        exact ⟨by rw [HB.out]; rfl, BW.out⟩
      by_cases x2 : 16777215 < x
      · have HB := Lib.hid (valid_bad hx (show okH x = false by simp [okH]; omega))
        clear hx
        go_wp2
        go_ret
        exact ⟨by rw [HB.out]; rfl, BW.out⟩
      have HS := Lib.hid (valid_step hx HV.out ((okH_iff x).2 ⟨by omega, by omega⟩))
      clear hx
      go_wp2
      go_round
      case rel => exact ⟨k + 1, by omega, by go_num, HS⟩
      case measure => simp [intOf]; omega
    · have hk7 : k = 7 := by omega
      subst hk7
      have hv := HV.out
      rw [HT.out] at hv
      have HVV := Lib.hid hv
      clear hv
      go_wp2
      go_ret
      exact ⟨by rw [HVV.out]; rfl, BW.out⟩
theorem has_bit2 (s k : Nat) : (((s : Int) / 2 ^ k).tmod 2 == 1) = s.testBit k := by
  rw [hour_bit]
  cases h : s.testBit k <;> rfl
set_option maxRecDepth 100000 in
set_option maxHeartbeats 4000000 in
theorem rhas_any (l : List Int) (h7 : l.length = 7) (hv : validW l = true) (n : Nat) (hn : n < 20000000) (w : World) : Calls Tryd.prog 32 #[wv l, .int .i64 (n : Int)] w fun e w' => e = .returned (.bool (hasS l n)) ∧ Below w.heap.size w w' := by
  obtain ⟨D, hD⟩ : ∃ D, n / 86400 % 7 = D := ⟨_, rfl⟩
  obtain ⟨K, hK⟩ : ∃ K, n / 3600 % 24 = K := ⟨_, rfl⟩
  have hD7 : D < 7 := by omega
  have hK24 : K < 24 := by omega
  obtain ⟨dd, hdd⟩ : ∃ dd, n / 86400 = dd := ⟨_, rfl⟩
  obtain ⟨kk, hkk⟩ : ∃ kk, n / 3600 = kk := ⟨_, rfl⟩
  have q1 : ((n : Int)).tdiv 86400 = (dd : Int) := by rw [Int.tdiv_eq_ediv_of_nonneg (by omega)]; omega
  have q2 : (dd : Int).tmod 7 = (D : Int) := by rw [Int.tmod_eq_emod_of_nonneg (by omega)]; omega
  have q3 : ((n : Int)).tdiv 3600 = (kk : Int) := by rw [Int.tdiv_eq_ediv_of_nonneg (by omega)]; omega
  have q4 : (kk : Int).tmod 24 = (K : Int) := by rw [Int.tmod_eq_emod_of_nonneg (by omega)]; omega
  have q5 : (dd : Int) < 300 := by omega
  have q6 : (kk : Int) < 6000 := by omega
  have q7 : (0 : Int) ≤ (dd : Int) := by omega
  have q8 : (0 : Int) ≤ (kk : Int) := by omega
  obtain ⟨hx, hx2⟩ := hrs_at hv (k := D) (by omega)
  have hcell := ints_get l D
  rw [hx] at hcell
  have hres : hasS l n = (hrs l D).testBit K := by unfold hasS; rw [hD, hK]
  rw [hres]
  obtain ⟨x, hxx⟩ : ∃ x, hrs l D = x := ⟨_, rfl⟩
  rw [hxx] at hx2 hcell ⊢
  have hb2 := has_bit2 x K
  obtain ⟨bb, hbb⟩ : ∃ bb, x.testBit K = bb := ⟨_, rfl⟩
  rw [hbb] at hb2 ⊢
  have i1 : (0 : Int) ≤ (D : Int) := by omega
  have i2 : (D : Int) < 7 := by omega
  have i3 : (0 : Int) ≤ (K : Int) := by omega
  have i4 : (K : Int) < 24 := by omega
  simp only [Option.map_some] at hcell
  obtain ⟨L, hL⟩ : ∃ L, l = L := ⟨_, rfl⟩
  obtain ⟨a, b, c, d, e, f, g, rfl⟩ := seven h7
  have hwv : wv L = .agg #[.int .i64 a, .int .i64 b, .int .i64 c, .int .i64 d, .int .i64 e, .int .i64 f, .int .i64 g] := by rw [← hL]; rfl
  have hin : ints L = #[.int .i64 a, .int .i64 b, .int .i64 c, .int .i64 d, .int .i64 e, .int .i64 f, .int .i64 g] := by rw [← hL]; rfl
  rw [hL] at hcell ⊢
  rw [hin] at hcell
  rw [hwv]
  have cx : (w.alloc (.cells #[.int .i64 a, .int .i64 b, .int .i64 c, .int .i64 d, .int .i64 e, .int .i64 f, .int .i64 g] 23)).cell? ⟨w.heap.size, D, none⟩ = some (.int .i64 (x : Int)) := ((Row.new w _ _).cell D).trans hcell
  have HN := Lib.hid hn
  clear hwv hin hL h7 hv hcell hx hxx hbb hD hK hn hres hdd hkk HN
  go_enter Tryd.func32, Tryd.ntmps32
  go_wp2
  go_ret
  exact ⟨rfl, (Below.refl _ w).alloc (Nat.le_refl _) _⟩
set_option maxRecDepth 100000 in
theorem rvspell_any (a b : Int) (w : World) : Calls Tryd.prog 35 #[.agg #[.int .i64 a, .int .i64 b]] w fun e w' => e = .returned (.bool (isSpl a b)) ∧ Below w.heap.size w w' := by
  unfold isSpl
  by_cases h1 : 0 ≤ a
  · by_cases h2 : a < b
    · by_cases h3 : b ≤ 10000000
      · rw [decide_eq_true h1, decide_eq_true h2, decide_eq_true h3]
        go_enter Tryd.func35, Tryd.ntmps35
        go_wp2
        go_ret
        exact ⟨rfl, (Below.refl _ _).alloc (Nat.le_refl _) _⟩
      · rw [decide_eq_true h1, decide_eq_true h2, decide_eq_false h3]
        go_enter Tryd.func35, Tryd.ntmps35
        go_wp2
        go_ret
        exact ⟨rfl, (Below.refl _ _).alloc (Nat.le_refl _) _⟩
    · rw [decide_eq_true h1, decide_eq_false h2]
      have d2 : decide (a < b) = false := decide_eq_false h2
      go_enter Tryd.func35, Tryd.ntmps35
      go_wp2
      go_ret
      exact ⟨rfl, (Below.refl _ _).alloc (Nat.le_refl _) _⟩
  · rw [decide_eq_false h1]
    have d1 : decide (0 ≤ a) = false := decide_eq_false h1
    go_enter Tryd.func35, Tryd.ntmps35
    go_wp2
    go_ret
    exact ⟨rfl, (Below.refl _ _).alloc (Nat.le_refl _) _⟩
end Go.Proofs.YtmfpaankkoaoaaaDoor

/- The reference's In and Next. -/
namespace Go.Proofs.YtmfpaankkoaoaaaDoor
open Go.RowKit Go.Shelf

theorem rhas_i {l : List Int} {a b c d e f g : Int} (h : Wk l a b c d e f g) (t : Int) (h0 : 0 ≤ t) (h1 : t < 20000000) (w : World) : Calls Tryd.prog 32 #[.agg #[.int .i64 a, .int .i64 b, .int .i64 c, .int .i64 d, .int .i64 e, .int .i64 f, .int .i64 g], .int .i64 t] w fun r w' => r = .returned (.bool (hasS l t.toNat)) ∧ Below w.heap.size w w' := by
  obtain ⟨n, rfl⟩ := Int.eq_ofNat_of_zero_le h0
  have := rhas_any l h.len h.v n (by omega) w
  rwa [h.wv] at this
theorem two_ways (l : List Int) (h7 : l.length = 7) : ∃ a b c d e f g, l = [a, b, c, d, e, f, g] ∧ wv l = .agg #[.int .i64 a, .int .i64 b, .int .i64 c, .int .i64 d, .int .i64 e, .int .i64 f, .int .i64 g] := by
  obtain ⟨a, b, c, d, e, f, g, h⟩ := seven h7
  exact ⟨a, b, c, d, e, f, g, h, by rw [h]; rfl⟩
set_option maxRecDepth 100000 in
set_option maxHeartbeats 4000000 in
theorem rin_any (l : List Int) (h7 : l.length = 7) (t : Int) (w : World) : Calls Tryd.prog 12 #[wv l, .int .i64 t] w fun e w' => e = .returned (.bool (inW l t)) ∧ Below w.heap.size w w' := by
  have VA := Lib.hid (fun u => rvalid_any l h7 u)
  obtain ⟨a, b, c, d, e, f, g, hl, hwv⟩ := two_ways l h7
  rw [hwv] at VA ⊢
  unfold inW isSec
  cases hv : validW l with
  | false =>
    rw [hv] at VA
    clear hv hwv hl h7
    go_enter Tryd.func12, Tryd.ntmps12
    go_wp2_with (go_at_call 7; with_reducible refine Calls.mono (VA.out _) ?_; rintro e' w1 ⟨rfl, hb1⟩; obtain ⟨hk1, hs1, hr1⟩ := kept_row hb1; have HB1 := Lib.hid hk1; clear hb1 hk1 hr1)
    go_ret
    exact ⟨rfl, HB1.out⟩
  | true =>
    have K : Wk l a b c d e f g := ⟨hl, hv⟩
    have HA := Lib.hid (fun h0 h1 u => rhas_i K t h0 h1 u)
    rw [hv] at VA
    clear hv hwv hl h7
    by_cases h0 : 0 ≤ t
    · by_cases h1 : t < 10000000
      · have HS := Lib.hid (fun u => HA.out h0 (by omega) u)
        rw [decide_eq_true h0, decide_eq_true h1]
        simp only [Bool.true_and]
        obtain ⟨bb, hbb⟩ : ∃ bb, hasS l t.toNat = bb := ⟨_, rfl⟩
        rw [hbb] at HS ⊢
        clear hbb
        go_enter Tryd.func12, Tryd.ntmps12
        go_wp2_with (first | (go_at_call 7; with_reducible refine Calls.mono (VA.out _) ?_; rintro e' w1 ⟨rfl, hb1⟩; obtain ⟨hk1, hs1, hr1⟩ := kept_row hb1; have HB1 := Lib.hid hk1; have x0 := hr1.cell 0; have x1 := hr1.cell 1; have x2 := hr1.cell 2; have x3 := hr1.cell 3; have x4 := hr1.cell 4; have x5 := hr1.cell 5; have x6 := hr1.cell 6; clear hb1 hk1 hr1) | (go_at_call 32; with_reducible refine Calls.mono (HS.out _) ?_; rintro e' w2 ⟨rfl, hb2⟩; have HB2 := Lib.hid (below_to HB1.out hb2); clear hb2))
        go_ret
        exact ⟨rfl, HB2.out⟩
      · rw [decide_eq_true h0, decide_eq_false h1]
        go_enter Tryd.func12, Tryd.ntmps12
        go_wp2_with (go_at_call 7; with_reducible refine Calls.mono (VA.out _) ?_; rintro e' w1 ⟨rfl, hb1⟩; obtain ⟨hk1, hs1, hr1⟩ := kept_row hb1; have HB1 := Lib.hid hk1; clear hb1 hk1 hr1)
        go_ret
        exact ⟨rfl, HB1.out⟩
    · have d0 : decide (0 ≤ t) = false := decide_eq_false h0
      rw [d0]
      go_enter Tryd.func12, Tryd.ntmps12
      go_wp2_with (go_at_call 7; with_reducible refine Calls.mono (VA.out _) ?_; rintro e' w1 ⟨rfl, hb1⟩; obtain ⟨hk1, hs1, hr1⟩ := kept_row hb1; have HB1 := Lib.hid hk1; clear hb1 hk1 hr1)
      go_ret
      exact ⟨rfl, HB1.out⟩

theorem hasS_block (l : List Int) {a b : Nat} (h : a / 3600 = b / 3600) : hasS l a = hasS l b := by
  unfold hasS
  rw [show a / 86400 = b / 86400 by omega, h]
theorem next_is {l : List Int} (h7 : l.length = 7) (hv : validW l = true) {t n : Nat} (h1 : t ≤ n) (h2 : n < 10000000) (h3 : hasS l n = true) (h4 : ∀ u, t ≤ u → u < n → hasS l u = false) : nextV l (t : Int) = ((n : Int), true) := by
  cases hb : (nextV l (t : Int)).2 with
  | false =>
    obtain ⟨-, hc⟩ := next_none h7 hv (by omega) hb
    have := cnt_zero hc n h1 (by omega)
    rw [h3] at this; cases this
  | true =>
    obtain ⟨m, e1, e2, e3, e4, e5⟩ := next_some h7 hv (by omega) hb
    have e : m = n := by
      rcases Nat.lt_trichotomy m n with h | h | h
      · rw [h4 m e2 h] at e4; cases e4
      · exact h
      · have := cnt_zero e5 n h1 (by omega)
        rw [h3] at this; cases this
    rw [← e, ← e1, ← hb]
theorem next_not {l : List Int} (h7 : l.length = 7) (hv : validW l = true) {t : Nat} (ht : t < 10000000) (h4 : ∀ u, t ≤ u → u < 10000000 → hasS l u = false) : nextV l (t : Int) = (0, false) := by
  cases hb : (nextV l (t : Int)).2 with
  | false => rw [← (next_none h7 hv ht hb).1, ← hb]
  | true =>
    obtain ⟨m, e1, e2, e3, e4, e5⟩ := next_some h7 hv ht hb
    rw [h4 m e2 e3] at e4; cases e4
theorem next_out {l : List Int} {t : Int} (h : (validW l && isSec t) = false) : nextV l t = (0, false) := next_bad h
set_option maxRecDepth 100000 in
set_option maxHeartbeats 8000000 in
theorem rnext_any (l : List Int) (h7 : l.length = 7) (t : Int) (w : World) : Calls Tryd.prog 10 #[wv l, .int .i64 t] w fun e w' => e = .returned (.tuple #[.int .i64 (nextV l t).1, .bool (nextV l t).2]) ∧ Below w.heap.size w w' := by
  have VA := Lib.hid (fun u => rvalid_any l h7 u)
  obtain ⟨a, b, c, d, e, f, g, hl, hwv⟩ := two_ways l h7
  rw [hwv] at VA ⊢
  cases hv : validW l with
  | false =>
    rw [next_out (by rw [hv]; rfl)]
    rw [hv] at VA
    clear hv hwv hl h7
    go_enter Tryd.func10, Tryd.ntmps10
    go_wp2_with (go_at_call 7; with_reducible refine Calls.mono (VA.out _) ?_; rintro e' w1 ⟨rfl, hb1⟩; obtain ⟨hk1, hs1, hr1⟩ := kept_row hb1; have HB1 := Lib.hid hk1; clear hb1 hk1 hr1)
    refine bodyPost_ret (results_tmp2 rfl _ _ _) rfl ⟨rfl, HB1.out⟩
  | true =>
    have K : Wk l a b c d e f g := ⟨hl, hv⟩
    have HA := Lib.hid (fun t h0 h1 u => rhas_i K t h0 h1 u)
    have HB := Lib.hid (fun (h : isSec t = false) => next_out (l := l) (t := t) (by rw [hv, h]; rfl))
    have HIS := Lib.hid (fun (t n : Nat) (h1 : t ≤ n) h2 h3 h4 => next_is (l := l) h7 hv h1 h2 h3 h4)
    have HNO := Lib.hid (fun (t : Nat) (ht : t < 10000000) h4 => next_not (l := l) h7 hv ht h4)
    rw [hv] at VA
    clear hv hwv hl h7 K
    by_cases h0 : 0 ≤ t
    · by_cases h1 : t < 10000000
      · obtain ⟨n, hn⟩ := Int.eq_ofNat_of_zero_le h0
        have HN := Lib.hid (show n < 10000000 by omega)
        have S0 := Lib.hid (fun u => HA.out t (by omega) (by omega) u)
        rw [show t.toNat = n by omega] at S0
        rw [show nextV l t = nextV l (n : Int) by rw [hn]]
        cases hb0 : hasS l n with
        | true =>
          rw [HIS.out n n (Nat.le_refl _) HN.out hb0 (fun u h1 h2 => by omega)]
          rw [hb0] at S0
          rw [← hn]
          clear hb0 hn
          go_enter Tryd.func10, Tryd.ntmps10
          go_wp2_with (first | (go_at_call 7; with_reducible refine Calls.mono (VA.out _) ?_; rintro e' w1 ⟨rfl, hb1⟩; obtain ⟨hk1, hs1, hr1⟩ := kept_row hb1; have HB1 := Lib.hid hk1; have HR1 := Lib.hid hr1; have x0 := hr1.cell 0; have x1 := hr1.cell 1; have x2 := hr1.cell 2; have x3 := hr1.cell 3; have x4 := hr1.cell 4; have x5 := hr1.cell 5; have x6 := hr1.cell 6; clear hb1 hk1 hr1) | (go_at_call 32; with_reducible refine Calls.mono (S0.out _) ?_; rintro e' w2 ⟨rfl, hb2⟩; have HB2 := Lib.hid (below_to HB1.out hb2); have HR2 := Lib.hid (HR1.out.below hb2 HR1.out.lt); clear hb2))
          refine bodyPost_ret (results_tmp2 rfl _ _ _) rfl ⟨rfl, HB2.out⟩
        | false =>
          rw [hb0] at S0
          obtain ⟨m, hm⟩ : ∃ m, n / 3600 = m := ⟨_, rfl⟩
          have q1 : t.tdiv 3600 = (m : Int) := by rw [Int.tdiv_eq_ediv_of_nonneg (by omega)]; omega
          have q2 : (m : Int) < 3000 := by omega
          have q3 : (0 : Int) ≤ (m : Int) := by omega
          have HST := Lib.hid (show n < (m + 1) * 3600 ∧ m + 1 ≤ 2778 ∧ ∀ u, n ≤ u → u < (m + 1) * 3600 → hasS l u = false from ⟨by omega, by omega, fun u g1 g2 => by rw [hasS_block l (show u / 3600 = n / 3600 by omega)]; exact hb0⟩)
          clear hb0 hm hn
          go_enter Tryd.func10, Tryd.ntmps10
          go_wp2_with (first | (go_at_call 7; with_reducible refine Calls.mono (VA.out _) ?_; rintro e' w1 ⟨rfl, hb1⟩; obtain ⟨hk1, hs1, hr1⟩ := kept_row hb1; have HB1 := Lib.hid hk1; have HR1 := Lib.hid hr1; have x0 := hr1.cell 0; have x1 := hr1.cell 1; have x2 := hr1.cell 2; have x3 := hr1.cell 3; have x4 := hr1.cell 4; have x5 := hr1.cell 5; have x6 := hr1.cell 6; clear hb1 hk1 hr1) | (go_at_call 32; with_reducible refine Calls.mono (S0.out _) ?_; rintro e' w2 ⟨rfl, hb2⟩; have HB2 := Lib.hid (below_to HB1.out hb2); have HR2 := Lib.hid (HR1.out.below hb2 HR1.out.lt); clear hb2))
          clear x0 x1 x2 x3 x4 x5 x6 h1 h0 q1 q2 q3
          go_loopw [6] (fun i wr => ∃ k : Nat, i = .int .i64 (k : Int) ∧ Hid (n < k * 3600 ∧ k ≤ 2778 ∧ ∀ u, n ≤ u → u < k * 3600 → hasS l u = false) ∧ Hid (Row wr w.heap.size 23 #[.int .i64 a, .int .i64 b, .int .i64 c, .int .i64 d, .int .i64 e, .int .i64 f, .int .i64 g]) ∧ Hid (Below w.heap.size w wr)) (fun i _ => 2800 - (intOf i).toNat)
          case atStart => exact ⟨m + 1, by go_num, HST, HR2, HB2⟩
          case round =>
            clear HR2 HB2
            obtain ⟨k, rfl, HK, HR, HB3⟩ := hrel
            obtain ⟨g1, g2, -⟩ := HK.out
            have k1 : (0 : Int) ≤ (k : Int) := by omega
            have k2 : (k : Int) < 3000 := by omega
            obtain ⟨z, hz⟩ : ∃ z, (k : Int) * 3600 = z := ⟨_, rfl⟩
            have hz0 : 0 ≤ z := by omega
            have hzn : z.toNat = k * 3600 := by omega
            have hw : IntKind.i64.wrap ((k : Int) * 3600) = z := by rw [IntWalk.i64_in _ (by omega)]; exact hz
            by_cases hlt : z < 10000000
            · have S1 := Lib.hid (fun u => HA.out z hz0 (by omega) u)
              rw [hzn] at S1
              have x0 := HR.out.cell 0; have x1 := HR.out.cell 1; have x2 := HR.out.cell 2; have x3 := HR.out.cell 3; have x4 := HR.out.cell 4; have x5 := HR.out.cell 5; have x6 := HR.out.cell 6
              have lW := HR.out.lt
              cases hb : hasS l (k * 3600) with
              | true =>
                have HE := Lib.hid (HIS.out n (k * 3600) (by omega) (by omega) hb HK.out.2.2)
                rw [hb] at S1
                rw [show ((k * 3600 : Nat) : Int) = z by omega] at HE
                clear g1 g2 hzn hb hw
                go_wp2_with (first | (go_at_call 32; with_reducible refine Calls.mono (S1.out _) ?_; rintro e' w2 ⟨rfl, hb2⟩; have HB2 := Lib.hid (below_to HB3.out hb2); have HR2 := Lib.hid (HR.out.below hb2 HR.out.lt); clear hb2))
                refine bodyPost_ret (results_tmp2 rfl _ _ _) rfl ⟨by rw [HE.out]; rfl, HB2.out⟩
              | false =>
                rw [hb] at S1
                have HK2 := Lib.hid (show n < (k + 1) * 3600 ∧ k + 1 ≤ 2778 ∧ ∀ u, n ≤ u → u < (k + 1) * 3600 → hasS l u = false from ⟨by omega, by omega, fun u h1 h2 => by
                  by_cases hu : u < k * 3600
                  · exact HK.out.2.2 u h1 hu
                  · rw [hasS_block l (show u / 3600 = (k * 3600) / 3600 by omega)]; exact hb⟩)
                clear g1 g2 hzn hb hw
                go_wp2_with (first | (go_at_call 32; with_reducible refine Calls.mono (S1.out _) ?_; rintro e' w2 ⟨rfl, hb2⟩; have HB2 := Lib.hid (below_to HB3.out hb2); have HR2 := Lib.hid (HR.out.below hb2 HR.out.lt); clear hb2))
                go_roundw
                case rel => exact ⟨k + 1, by go_num, HK2, HR2, HB2⟩
                case measure => simp [intOf]; omega
            · have HE := Lib.hid (HNO.out n HN.out (fun u h1 h2 => HK.out.2.2 u h1 (by omega)))
              clear g1 g2 hzn hw
              go_wp2
              refine bodyPost_ret (results_tmp2 rfl _ _ _) rfl ⟨by rw [HE.out]; rfl, HB3.out⟩
      · rw [HB.out (by unfold isSec; rw [decide_eq_false h1]; simp)]
        go_enter Tryd.func10, Tryd.ntmps10
        go_wp2_with (go_at_call 7; with_reducible refine Calls.mono (VA.out _) ?_; rintro e' w1 ⟨rfl, hb1⟩; obtain ⟨hk1, hs1, hr1⟩ := kept_row hb1; have HB1 := Lib.hid hk1; clear hb1 hk1 hr1)
        refine bodyPost_ret (results_tmp2 rfl _ _ _) rfl ⟨rfl, HB1.out⟩
    · rw [HB.out (by unfold isSec; rw [decide_eq_false h0]; rfl)]
      go_enter Tryd.func10, Tryd.ntmps10
      go_wp2_with (go_at_call 7; with_reducible refine Calls.mono (VA.out _) ?_; rintro e' w1 ⟨rfl, hb1⟩; obtain ⟨hk1, hs1, hr1⟩ := kept_row hb1; have HB1 := Lib.hid hk1; clear hb1 hk1 hr1)
      refine bodyPost_ret (results_tmp2 rfl _ _ _) rfl ⟨rfl, HB1.out⟩
end Go.Proofs.YtmfpaankkoaoaaaDoor

/- Texts in plain words: the pieces of a text and their joining; sets as their runs. -/
namespace Go.Proofs.YtmfpaankkoaoaaaDoor
open Go.RowKit Go.Shelf

theorem ba_ext {a b : ByteArray} (h : a.data.toList = b.data.toList) : a = b := by
  cases a; cases b
  congr
  exact Array.toList_inj.1 h
theorem occ_pre {c : UInt8} {tl p : List UInt8} (hp : c ∉ p) (r : List UInt8) (j : Nat) (hj : j < p.length) : Lib.occAt (p ++ r) (c :: tl) j = false := by
  unfold Lib.occAt
  rw [List.drop_append_of_le_length (by omega)]
  cases hd : p.drop j with
  | nil => have := congrArg List.length hd; rw [List.length_drop] at this; simp at this; omega
  | cons b q =>
    have hb : b ∈ p := List.mem_of_mem_drop (i := j) (by rw [hd]; simp)
    have hne : c ≠ b := fun e => hp (e ▸ hb)
    show (c == b && tl.isPrefixOf (q ++ r)) = false
    rw [beq_false_of_ne hne]; rfl
theorem occ_none {c : UInt8} {tl p : List UInt8} (hp : c ∉ p) (j : Nat) : Lib.occAt p (c :: tl) j = false := by
  by_cases hj : j < p.length
  · have := occ_pre (tl := tl) hp [] j hj
    rwa [List.append_nil] at this
  · unfold Lib.occAt
    rw [List.drop_eq_nil_of_le (by omega)]
    rfl
theorem cut_miss {c : UInt8} {tl p : List UInt8} (hp : c ∉ p) : Lib.cut p (c :: tl) = (p, [], false) := by
  unfold Lib.cut
  rw [Lib.index_none (fun j _ => occ_none hp j)]
  rfl
theorem cut_hit {c : UInt8} {tl p : List UInt8} (hp : c ∉ p) (r : List UInt8) : Lib.cut (p ++ ((c :: tl) ++ r)) (c :: tl) = (p, r, true) := by
  have hi : Lib.index (p ++ ((c :: tl) ++ r)) (c :: tl) = (p.length : Int) :=
    Lib.index_first (by simp) (by
      unfold Lib.occAt
      rw [List.drop_left]
      exact List.isPrefixOf_iff_prefix.2 (List.prefix_append _ _)) (fun j hj => occ_pre hp _ j hj)
  unfold Lib.cut
  rw [hi, if_pos (by omega)]
  have e : ((p.length : Int)).toNat = p.length := by omega
  rw [e, List.take_left, ← List.drop_drop, List.drop_left, List.drop_left]
theorem cut_whole (s sep : List UInt8) : ((Lib.cut s sep).2.2 = true ∧ s = (Lib.cut s sep).1 ++ (sep ++ (Lib.cut s sep).2.1)) ∨ ((Lib.cut s sep).2.2 = false ∧ s = (Lib.cut s sep).1) := by
  rcases Lib.index_spec s sep with ⟨h, -⟩ | ⟨i, h, hi, ho, -⟩
  · right
    unfold Lib.cut
    rw [h]
    exact ⟨rfl, rfl⟩
  · left
    unfold Lib.cut
    rw [h, if_pos (by omega)]
    refine ⟨rfl, ?_⟩
    unfold Lib.occAt at ho
    obtain ⟨r, hr⟩ := List.isPrefixOf_iff_prefix.1 ho
    have e : ((i : Int)).toNat = i := by omega
    show s = s.take (i : Int).toNat ++ (sep ++ s.drop ((i : Int).toNat + sep.length))
    rw [e, ← List.drop_drop, ← hr, List.drop_left, hr, List.take_append_drop]
theorem cut_of {s sep : ByteArray} {a b : List UInt8} {t : Bool} (h : Lib.cut s.data.toList sep.data.toList = (a, b, t)) : cut1 s sep = ⟨a.toArray⟩ ∧ cut2 s sep = ⟨b.toArray⟩ ∧ cut3 s sep = t := by
  unfold cut1 cut2 cut3; rw [h]; exact ⟨rfl, rfl, rfl⟩
theorem cutB_true {s sep : ByteArray} (h : cut3 s sep = true) : s.data.toList = (cut1 s sep).data.toList ++ (sep.data.toList ++ (cut2 s sep).data.toList) := by
  rcases cut_whole s.data.toList sep.data.toList with ⟨_, h2⟩ | ⟨h1, _⟩
  · exact h2
  · unfold cut3 at h; rw [h1] at h; cases h
theorem cutB_false {s sep : ByteArray} (h : cut3 s sep = false) : cut1 s sep = s := by
  rcases cut_whole s.data.toList sep.data.toList with ⟨h1, _⟩ | ⟨_, h2⟩
  · unfold cut3 at h; rw [h1] at h; cases h
  · exact ba_ext h2.symm
theorem join_two (x y : List UInt8) (l : List (List UInt8)) (sep : List UInt8) : Lib.join (x :: y :: l) sep = x ++ (sep ++ Lib.join (y :: l) sep) := by simp [Lib.join, List.intercalate]
theorem ptl_join {sep : ByteArray} {c : UInt8} {tl : List UInt8} (hs : sep.data.toList = c :: tl) : ∀ (L : List ByteArray) (f : Nat), L ≠ [] → (∀ x ∈ L, c ∉ x.data.toList) → L.length ≤ f → ptl sep f ⟨(Lib.join (L.map (·.data.toList)) (c :: tl)).toArray⟩ = L
  | [], _, h, _, _ => absurd rfl h
  | [x], f, _, hx, hf => by
    have hc : Lib.cut (⟨(Lib.join ([x].map (·.data.toList)) (c :: tl)).toArray⟩ : ByteArray).data.toList sep.data.toList = (x.data.toList, [], false) := by
      rw [hs]
      simp only [List.map_cons, List.map_nil, Lib.join_one]
      exact cut_miss (hx x (by simp))
    obtain ⟨h1, -, h3⟩ := cut_of hc
    rw [ptl_cons _ _ _ (by simp at hf; omega), h1, h3]
    rfl
  | x :: y :: l, f, _, hx, hf => by
    have hc : Lib.cut (⟨(Lib.join ((x :: y :: l).map (·.data.toList)) (c :: tl)).toArray⟩ : ByteArray).data.toList sep.data.toList = (x.data.toList, Lib.join ((y :: l).map (·.data.toList)) (c :: tl), true) := by
      rw [hs]
      simp only [List.map_cons, join_two]
      exact cut_hit (hx x (by simp)) _
    obtain ⟨h1, h2, h3⟩ := cut_of hc
    rw [ptl_cons _ _ _ (by simp at hf; omega), h1, h2, h3, if_pos rfl]
    rw [ptl_join hs (y :: l) (f - 1) (by simp) (fun z hz => hx z (by simp [hz])) (by simp at hf ⊢; omega)]
theorem ptl_ne (sep : ByteArray) (f : Nat) (s : ByteArray) (hf : 0 < f) : ∃ x L, ptl sep f s = x :: L := by
  rw [ptl_cons _ _ _ hf]
  exact ⟨_, _, rfl⟩
theorem join_ptl {sep : ByteArray} (h0 : sep.data.toList ≠ []) : ∀ (f : Nat) (s : ByteArray), s.size < f → Lib.join ((ptl sep f s).map (·.data.toList)) sep.data.toList = s.data.toList
  | 0, _, h => by omega
  | f + 1, s, h => by
    rw [ptl_cons _ _ _ (by omega)]
    cases h3 : cut3 s sep with
    | false =>
      rw [if_neg (by simp), cutB_false h3]
      exact Lib.join_one _ _
    | true =>
      have hlt := cut2_lt s sep h0 h3
      obtain ⟨x, L, hx⟩ := ptl_ne sep f (cut2 s sep) (by omega)
      have ih := join_ptl h0 f (cut2 s sep) (by omega)
      rw [if_pos rfl, show f + 1 - 1 = f from rfl, hx]
      rw [hx] at ih
      simp only [List.map_cons] at ih ⊢
      rw [join_two, ih, ← cutB_true h3]
theorem join_many : ∀ (L : List (List UInt8)) (c : UInt8) (tl : List UInt8), L.length ≤ (Lib.join L (c :: tl)).length + 1
  | [], _, _ => by simp
  | [x], _, _ => by simp
  | x :: y :: l, c, tl => by
    have := join_many (y :: l) c tl
    rw [join_two]
    simp only [List.length_append, List.length_cons] at this ⊢
    omega
theorem join_mem {c : UInt8} : ∀ (L : List (List UInt8)) (sep : List UInt8), c ∉ sep → (∀ x ∈ L, c ∉ x) → c ∉ Lib.join L sep
  | [], _, _, _ => by simp [Lib.join]
  | [x], sep, _, h => by rw [Lib.join_one]; exact h x (by simp)
  | x :: y :: l, sep, hs, h => by
    have ih := join_mem (y :: l) sep hs (fun z hz => h z (by simp [hz]))
    rw [join_two, List.mem_append, List.mem_append]
    rintro (h1 | h1 | h1)
    · exact h x (by simp) h1
    · exact hs h1
    · exact ih h1

/-! Sets as runs. -/
theorem bit_run (a b i : Nat) (h : a ≤ b) : (2 ^ b - 2 ^ a).testBit i = (decide (a ≤ i) && decide (i < b)) := by
  have e : 2 ^ b - 2 ^ a = 2 ^ a * (2 ^ (b - a) - 1) := by
    rw [Nat.mul_sub, ← Nat.pow_add, show a + (b - a) = b by omega, Nat.mul_one]
  rw [e, Nat.testBit_two_pow_mul, Nat.testBit_two_pow_sub_one]
  by_cases h1 : a ≤ i
  · rw [decide_eq_true (show i ≥ a from h1), Bool.true_and, Bool.true_and]
    congr 1
    exact propext ⟨fun _ => by omega, fun _ => by omega⟩
  · rw [decide_eq_false (show ¬ i ≥ a from h1)]; rfl
def unR : List (Nat × Nat) → Nat
  | [] => 0
  | r :: R => (2 ^ r.2 - 2 ^ r.1) ||| unR R
def inR (R : List (Nat × Nat)) (i : Nat) : Bool := R.any fun r => decide (r.1 ≤ i) && decide (i < r.2)
/-- Runs in order, with gaps, from behind e on, up to N. -/
def Chn (N : Nat) : Int → List (Nat × Nat) → Prop
  | _, [] => True
  | e, r :: R => e < (r.1 : Int) ∧ r.1 < r.2 ∧ r.2 ≤ N ∧ Chn N (r.2 : Int) R
theorem unR_bit {N : Nat} : ∀ {R : List (Nat × Nat)} {e : Int}, Chn N e R → ∀ i, (unR R).testBit i = inR R i
  | [], _, _, i => by simp [unR, inR]
  | r :: R, e, ⟨h1, h2, h3, h4⟩, i => by
    show ((2 ^ r.2 - 2 ^ r.1) ||| unR R).testBit i = ((decide (r.1 ≤ i) && decide (i < r.2)) || inR R i)
    rw [Nat.testBit_or, bit_run _ _ _ (by omega), unR_bit h4]
theorem chn_low {N : Nat} : ∀ {R : List (Nat × Nat)} {e : Int}, Chn N e R → ∀ i : Nat, (i : Int) ≤ e → inR R i = false
  | [], _, _, _, _ => rfl
  | r :: R, e, ⟨h1, h2, h3, h4⟩, i, hi => by
    show ((decide (r.1 ≤ i) && decide (i < r.2)) || inR R i) = false
    rw [decide_eq_false (by omega), chn_low h4 i (by omega)]; rfl
theorem chn_high {N : Nat} : ∀ {R : List (Nat × Nat)} {e : Int}, Chn N e R → ∀ i : Nat, N ≤ i → inR R i = false
  | [], _, _, _, _ => rfl
  | r :: R, e, ⟨h1, h2, h3, h4⟩, i, hi => by
    show ((decide (r.1 ≤ i) && decide (i < r.2)) || inR R i) = false
    rw [decide_eq_false (show ¬ i < r.2 by omega), chn_high h4 i hi, Bool.and_false]; rfl
theorem tiles_ext {p q : Nat → Bool} : ∀ {L : List (Nat × Nat)} {a b : Nat}, (∀ t, a ≤ t → t < b → p t = q t) → Tiles p L a b → Tiles q L a b
  | [], _, _, h, ht => fun t h1 h2 => (h t h1 h2).symm.trans (ht t h1 h2)
  | (x, y) :: L, a, b, h, ⟨h1, h2, h3, h4, h5, h6⟩ => ⟨h1, h2, h3, fun t g1 g2 => (h t g1 (by omega)).symm.trans (h4 t g1 g2), fun t g1 g2 => (h t (by omega) (by omega)).symm.trans (h5 t g1 g2), tiles_ext (fun t g1 g2 => h t (by omega) g2) h6⟩
theorem chn_tiles {N : Nat} : ∀ {R : List (Nat × Nat)} {e : Int} {a : Nat}, Chn N e R → (a : Int) ≤ e + 1 → a ≤ N → Tiles (inR R) R a N
  | [], _, _, _, _, _ => fun t _ _ => rfl
  | (x, y) :: R, e, a, h, ha, haN => by
    obtain ⟨h1, h2, h3, h4⟩ := id h
    dsimp only at h1 h2 h3 h4
    refine ⟨by omega, h2, h3, fun t g1 g2 => ?_, fun t g1 g2 => ?_, ?_⟩
    · show ((decide (x ≤ t) && decide (t < y)) || inR R t) = false
      rw [decide_eq_false (by omega), chn_low h4 t (by omega)]; rfl
    · show ((decide (x ≤ t) && decide (t < y)) || inR R t) = true
      rw [decide_eq_true g1, decide_eq_true g2]; rfl
    · refine tiles_ext (fun t g1 g2 => ?_) (chn_tiles (a := y) h4 (by omega) h3)
      show inR R t = ((decide (x ≤ t) && decide (t < y)) || inR R t)
      rw [decide_eq_false (show ¬ t < y by omega), Bool.and_false]; rfl
theorem chn_gaps {N : Nat} : ∀ {R : List (Nat × Nat)} {e : Int}, Chn N e R → Gaps R
  | [], _, _ => trivial
  | (x, y) :: R, e, ⟨h1, h2, h3, h4⟩ => by
    refine ⟨fun q hq => ?_, chn_gaps h4⟩
    cases R with
    | nil => cases hq
    | cons r R => cases hq; have := h4.1; dsimp only at this; omega
theorem chn_of {p : Nat → Bool} {N : Nat} : ∀ {R : List (Nat × Nat)} {e : Int} {a b : Nat}, Tiles p R a b → Gaps R → (∀ q ∈ R, q.2 ≤ N) → (∀ q, R.head? = some q → e < (q.1 : Int)) → Chn N e R
  | [], _, _, _, _, _, _, _ => trivial
  | (x, y) :: R, e, a, b, ⟨h1, h2, h3, h4, h5, h6⟩, ⟨g1, g2⟩, hN, he =>
    ⟨he (x, y) rfl, h2, hN (x, y) (by simp), chn_of h6 g2 (fun q hq => hN q (by simp [hq])) (fun q hq => by have := g1 q hq; show ((y : Nat) : Int) < _; omega)⟩
theorem tiles_uniq {p : Nat → Bool} : ∀ {L M : List (Nat × Nat)} {a b : Nat}, Tiles p L a b → Gaps L → Tiles p M a b → Gaps M → L = M
  | [], [], _, _, _, _, _, _ => rfl
  | [], (x, y) :: M, a, b, h, _, ⟨h1, h2, h3, h4, h5, h6⟩, _ => by
    have e1 := h x h1 (by omega)
    rw [h5 x (Nat.le_refl _) h2] at e1; cases e1
  | (x, y) :: L, [], a, b, ⟨h1, h2, h3, h4, h5, h6⟩, _, h, _ => by
    have e1 := h x h1 (by omega)
    rw [h5 x (Nat.le_refl _) h2] at e1; cases e1
  | (x, y) :: L, (u, v) :: M, a, b, ⟨h1, h2, h3, h4, h5, h6⟩, ⟨g1, g2⟩, ⟨k1, k2, k3, k4, k5, k6⟩, ⟨j1, j2⟩ => by
    have ends : ∀ {y v b : Nat} {L : List (Nat × Nat)}, Tiles p L y b → (∀ q, L.head? = some q → y < q.1) → y < v → v ≤ b → p y = true → False := by
      intro y v b L h6 g1 hlt hv hp
      cases L with
      | nil => rw [h6 y (Nat.le_refl _) (by omega)] at hp; cases hp
      | cons q L =>
        obtain ⟨m, n⟩ := q
        have := g1 (m, n) rfl
        rw [h6.2.2.2.1 y (Nat.le_refl _) this] at hp; cases hp
    have e1 : x = u := by
      rcases Nat.lt_trichotomy x u with h | h | h
      · have e := k4 x h1 h; rw [h5 x (Nat.le_refl _) h2] at e; cases e
      · exact h
      · have e := h4 u k1 h; rw [k5 u (Nat.le_refl _) k2] at e; cases e
    subst e1
    have e2 : y = v := by
      rcases Nat.lt_trichotomy y v with h | h | h
      · exact (ends h6 g1 h k3 (k5 y (by omega) h)).elim
      · exact h
      · exact (ends k6 j1 h h3 (h5 v (by omega) h)).elim
    subst e2
    rw [tiles_uniq h6 g2 k6 j2]
theorem rto_zero (s a : Nat) (hs : s ≤ 16777215) (_ : a < 24) (ho : (s / 2 ^ a) % 2 = 1) : s.testBit (rto s a) = false := by
  have h0 : 18446744073709551615 - s / 2 ^ a ≠ 0 := by
    have : s / 2 ^ a ≤ s := Nat.div_le_self _ _
    omega
  obtain ⟨m, hm⟩ := ctz_spec (18446744073709551615 - s / 2 ^ a) h0 (Nat.lt_of_le_of_lt (Nat.sub_le _ _) (by decide))
  unfold rto
  generalize Lib.ctz 64 (18446744073709551615 - s / 2 ^ a) = k at *
  have hq : s / 2 ^ a < 2 ^ 64 := Nat.lt_of_le_of_lt (Nat.div_le_self _ _) (by omega)
  have h1 := Nat.testBit_two_pow_sub_succ hq k
  rw [show 2 ^ 64 - (s / 2 ^ a + 1) = 18446744073709551615 - s / 2 ^ a by omega, hm] at h1
  rw [Nat.testBit_two_pow_mul, decide_eq_true (Nat.le_refl k), Nat.sub_self, Nat.testBit_zero] at h1
  have h2 : (2 * m + 1) % 2 = 1 := by omega
  rw [h2] at h1
  simp at h1
  rw [Nat.add_comm, ← Nat.testBit_div_two_pow]
  exact h1.2
theorem gaps_rl (s : Nat) (hs : s ≤ 16777215) : ∀ (f e : Nat), e ≤ 24 → Gaps (rl f s e)
  | 0, _, _ => trivial
  | f + 1, e, he => by
    by_cases h0 : s / 2 ^ e = 0
    · rw [rl_nil _ _ _ h0]; trivial
    · rw [rl_cons _ _ _ h0 (by omega)]
      obtain ⟨f1, f2, f3⟩ := rfrom_facts s e hs he h0
      obtain ⟨t1, t2⟩ := rto_facts s (rfrom s e) hs f2 f3
      refine ⟨fun q hq => ?_, gaps_rl s hs f _ t2⟩
      have hz := rto_zero s (rfrom s e) hs f2 f3
      show rto s (rfrom s e) < q.1
      generalize rto s (rfrom s e) = y at *
      rw [show f + 1 - 1 = f from rfl] at hq
      cases f with
      | zero => cases hq
      | succ f =>
        by_cases hy : s / 2 ^ y = 0
        · rw [rl_nil _ _ _ hy] at hq; cases hq
        · rw [rl_cons _ _ _ hy (by omega)] at hq
          cases hq
          obtain ⟨g1, g2, g3⟩ := rfrom_facts s y hs t2 hy
          show y < rfrom s y
          rcases Nat.lt_or_eq_of_le g1 with h | h
          · exact h
          · rw [← h] at g3
            rw [Nat.testBit_eq_decide_div_mod_eq, g3] at hz
            cases hz
theorem rl_chn (s N : Nat) (hs : s ≤ 16777215) (hN : ∀ q ∈ rl 25 s 0, q.2 ≤ N) : Chn N (-1) (rl 25 s 0) :=
  chn_of (tiles_rl s hs 25 0 (by omega) (by omega)) (gaps_rl s hs 25 0 (by omega)) hN (fun q _ => by omega)
theorem unR_rl (s : Nat) (hs : s ≤ 16777215) : unR (rl 25 s 0) = s := by
  have hc := rl_chn s 24 hs (fun q hq => (rl_mem s hs 25 0 (by omega) q hq).2.2)
  have ht := chn_tiles (a := 0) hc (by omega) (by omega)
  have hr := tiles_rl s hs 25 0 (by omega) (by omega)
  apply Nat.eq_of_testBit_eq
  intro i
  rw [unR_bit hc]
  by_cases hi : i < 24
  · have two : ∀ {p q : Nat → Bool} {L : List (Nat × Nat)} {a b : Nat}, Tiles p L a b → Tiles q L a b → ∀ t, a ≤ t → t < b → p t = q t := by
      intro p q L
      induction L with
      | nil => intro a b h h' t g1 g2; rw [h t g1 g2, h' t g1 g2]
      | cons r L ih =>
        obtain ⟨x, y⟩ := r
        rintro a b ⟨h1, h2, h3, h4, h5, h6⟩ ⟨k1, k2, k3, k4, k5, k6⟩ t g1 g2
        by_cases c1 : t < x
        · rw [h4 t g1 c1, k4 t g1 c1]
        · by_cases c2 : t < y
          · rw [h5 t (by omega) c2, k5 t (by omega) c2]
          · exact ih h6 k6 t (by omega) g2
    exact two ht hr i (by omega) hi
  · rw [chn_high hc i (by omega), Nat.testBit_lt_two_pow (Nat.lt_of_lt_of_le (show s < 2 ^ 24 by omega) (Nat.pow_le_pow_right (by decide) (by omega)))]
theorem unR_lt {N : Nat} {R : List (Nat × Nat)} {e : Int} (h : Chn N e R) : unR R < 2 ^ N := by
  apply Nat.lt_pow_two_of_testBit
  intro i hi
  rw [unR_bit h, chn_high h i hi]
theorem rl_unR {N : Nat} (hN : N ≤ 24) {R : List (Nat × Nat)} (h : Chn N (-1) R) : rl 25 (unR R) 0 = R := by
  have hlt := unR_lt h
  have h24 : (2 : Nat) ^ N ≤ 2 ^ 24 := Nat.pow_le_pow_right (by decide) hN
  have h' : Chn 24 (-1) R := by
    have : ∀ {R : List (Nat × Nat)} {e : Int}, Chn N e R → Chn 24 e R := by
      intro R
      induction R with
      | nil => intro e _; trivial
      | cons r R ih => rintro e ⟨h1, h2, h3, h4⟩; exact ⟨h1, h2, by omega, ih h4⟩
    exact this h
  have ht := tiles_ext (q := fun i => (unR R).testBit i) (fun t _ _ => (unR_bit h t).symm) (chn_tiles (a := 0) h' (by omega) (by omega))
  exact tiles_uniq (tiles_rl _ (by omega) 25 0 (by omega) (by omega)) (gaps_rl _ (by omega) 25 0 (by omega)) ht (chn_gaps h)
/-- Reading what was written. -/
theorem read_write {N : Nat} {rd : ByteArray → Int × Int} {wr : Nat → Nat → ByteArray} (hrw : ∀ a b, a < b → b ≤ N → rd (wr a b) = ((a : Int), (b : Int))) : ∀ (R : List (Nat × Nat)) (s : Nat) (e : Int), Chn N e R → rdStep rd (R.map fun r => wr r.1 r.2) s e = s ||| unR R
  | [], s, _, _ => by simp [rdStep, unR]
  | r :: R, s, e, ⟨h1, h2, h3, h4⟩ => by
    have hr := hrw r.1 r.2 h2 h3
    rw [List.map_cons, rdStep_ok (by rw [hr]; dsimp only; omega), hr]
    dsimp only
    rw [read_write hrw R _ _ h4, Int.toNat_natCast, Int.toNat_natCast, unR, Nat.or_assoc]
/-- What was read had been written so. -/
theorem write_read {N : Nat} {rd : ByteArray → Int × Int} {wr : Nat → Nat → ByteArray} (hi : ∀ x, ¬ (rd x).2 ≤ (rd x).1 → ∃ a b : Nat, a < b ∧ b ≤ N ∧ rd x = ((a : Int), (b : Int)) ∧ x = wr a b) : ∀ (L : List ByteArray) (s : Nat) (e : Int), rdStep rd L s e ≠ 0 → ∃ R, Chn N e R ∧ L = (R.map fun r => wr r.1 r.2) ∧ rdStep rd L s e = s ||| unR R
  | [], s, e, _ => ⟨[], trivial, rfl, by simp [rdStep, unR]⟩
  | x :: L, s, e, h => by
    by_cases hb : (rd x).2 ≤ (rd x).1 ∨ (rd x).1 ≤ e
    · exact absurd (rdStep_bad hb) h
    · obtain ⟨a, b, h1, h2, h3, h4⟩ := hi x (fun hh => hb (.inl hh))
      rw [rdStep_ok hb] at h ⊢
      rw [h3] at h hb ⊢
      dsimp only at h hb ⊢
      obtain ⟨R, r1, r2, r3⟩ := write_read hi L _ _ h
      refine ⟨(a, b) :: R, ⟨by dsimp only; omega, h1, h2, r1⟩, by rw [r2, h4]; rfl, ?_⟩
      rw [r3, Int.toNat_natCast, Int.toNat_natCast, unR, Nat.or_assoc]
theorem runs_read {N : Nat} {rd : ByteArray → Int × Int} {wr : Nat → Nat → ByteArray} (hrw : ∀ a b, a < b → b ≤ N → rd (wr a b) = ((a : Int), (b : Int))) (s : Nat) (hs : s ≤ 16777215) (hN : ∀ q ∈ rl 25 s 0, q.2 ≤ N) : rdStep rd ((rl 25 s 0).map fun r => wr r.1 r.2) 0 (-1) = s := by
  rw [read_write hrw _ _ _ (rl_chn s N hs hN), unR_rl s hs, Nat.zero_or]
theorem runs_write {N : Nat} (hN : N ≤ 24) {rd : ByteArray → Int × Int} {wr : Nat → Nat → ByteArray} (hi : ∀ x, ¬ (rd x).2 ≤ (rd x).1 → ∃ a b : Nat, a < b ∧ b ≤ N ∧ rd x = ((a : Int), (b : Int)) ∧ x = wr a b) (L : List ByteArray) (h : rdStep rd L 0 (-1) ≠ 0) : L = ((rl 25 (rdStep rd L 0 (-1)) 0).map fun r => wr r.1 r.2) ∧ rdStep rd L 0 (-1) < 2 ^ N := by
  obtain ⟨R, h1, h2, h3⟩ := write_read hi L 0 (-1) h
  rw [h3, Nat.zero_or]
  exact ⟨by rw [rl_unR hN h1]; exact h2, unR_lt h1⟩
end Go.Proofs.YtmfpaankkoaoaaaDoor

/- The reference's Spells. -/
namespace Go.Proofs.YtmfpaankkoaoaaaDoor
open Go.RowKit Go.Shelf
attribute [local go_sem ↓] append_appN

theorem tiles_more {p : Nat → Bool} {L : List (Nat × Nat)} {a b c : Nat} (h : Tiles p L a b) (hab : a ≤ b) (hbc : b ≤ c) (hn : ∀ t, b ≤ t → t < c → p t = false) : Tiles p L a c := by
  have := tiles_append (M := []) h (fun t h1 h2 => hn t h1 h2) hab hbc
  rwa [List.append_nil] at this
/-- Where the reference stands in a spell: what is found so far. -/
structure RSt (p : Nat → Bool) (x y : Nat) (out : List (Nat × Nat)) (c : Nat) : Prop where
  t : Tiles p out x c
  g : Gaps out
  xc : x ≤ c
  cy : c ≤ y
theorem RSt.skip {p : Nat → Bool} {x y c d : Nat} {out : List (Nat × Nat)} (h : RSt p x y out c) (hcd : c ≤ d) (hd : d ≤ y) (hn : ∀ t, c ≤ t → t < d → p t = false) : RSt p x y out d :=
  ⟨tiles_more h.t h.xc hcd hn, h.g, Nat.le_trans h.xc hcd, hd⟩
theorem RSt.push {p : Nat → Bool} {x y c d : Nat} {out : List (Nat × Nat)} (h : RSt p x y out c) (hcd : c < d) (hd : d ≤ y) (ha : ∀ t, c ≤ t → t < d → p t = true) (hl : ∀ q, out.getLast? = some q → q.2 ≠ c) : RSt p x y (out ++ [(c, d)]) d := by
  refine ⟨tiles_append h.t (tiles_cons (Nat.le_refl c) hcd (Nat.le_refl d) (fun t h1 h2 => by omega) ha (fun t h1 h2 => by omega)) h.xc (by omega), gaps_snoc h.g (fun q hq => ?_), by have := h.xc; omega, hd⟩
  have h1 := (tiles_mem h.t q (List.mem_of_getLast? hq)).2.2
  have h2 := hl q hq
  show q.2 < c
  omega
theorem RSt.join {p : Nat → Bool} {x y u c d : Nat} {o : List (Nat × Nat)} (h : RSt p x y (o ++ [(u, c)]) c) (hcd : c < d) (hd : d ≤ y) (ha : ∀ t, c ≤ t → t < d → p t = true) : RSt p x y (o ++ [(u, d)]) d := by
  have hxc := h.xc
  obtain ⟨e, e1, e2, e3, e4, -, -⟩ := tiles_split h.t h.xc
  obtain ⟨f1, f2, f3, f4, f5, f6⟩ := e4
  refine ⟨tiles_append e3 (tiles_cons f1 (by omega) (Nat.le_refl d) f4 (fun t h1 h2 => ?_) (fun t h1 h2 => by omega)) e1 (by omega), gaps_turn h.g, by omega, hd⟩
  by_cases ht : t < c
  · exact f5 t h1 ht
  · exact ha t (by omega) h2
theorem RSt.done {l : List Int} (h7 : l.length = 7) (hv : validW l = true) {x y c : Nat} {out : List (Nat × Nat)} (h : RSt (hasS l) x y out c) (hc : ¬ c < y) (hxy : x < y) (hy : y ≤ 10000000) : out = (spsV l (x : Int) (y : Int)).1 := by
  have hcy := h.cy
  have e : c = y := by omega
  subst e
  rw [sps_ok hv ((isSpl_iff _ _).2 ⟨by omega, by omega, by omega⟩)]
  obtain ⟨s1, s2⟩ := spells_fold (Nat.le_of_lt hxy) (pcs l x c) [] (tiles_pcs l h7 hv x c hy hxy) trivial
  exact tiles_uniq h.t h.g s1 s2
theorem RSt.len {p : Nat → Bool} {x y c : Nat} {out : List (Nat × Nat)} (h : RSt p x y out c) : out.length ≤ c - x := by
  have hs := tiles_sum h.t h.xc
  have hc := cnt_le p x (c - x)
  have : ∀ {L : List (Nat × Nat)} {a b : Nat}, Tiles p L a b → L.length ≤ sumL L := by
    intro L
    induction L with
    | nil => intro a b _; exact Nat.le_refl _
    | cons q L ih =>
      obtain ⟨u, v⟩ := q
      rintro a b ⟨h1, h2, h3, h4, h5, h6⟩
      have := ih h6
      show L.length + 1 ≤ (v - u) + sumL L
      omega
  have := this h.t
  omega
/-- The end of the hour in which c lies, within the spell. -/
theorem hour_end {l : List Int} {c d y : Nat} (hd : d = min ((c / 3600 + 1) * 3600) y) (hcy : c < y) : c < d ∧ d ≤ y ∧ ∀ t, c ≤ t → t < d → hasS l t = hasS l c :=
  ⟨by omega, by omega, fun t h1 h2 => hasS_block l (by omega)⟩
theorem own_base {w : World} {b base : Nat} {e : TypeId} {size n : Nat} {v : Value} {xs : List Value} (h : w.ownsRow base e size v n xs) (hb : b ≤ base) : w.ownsRow b e size v n xs :=
  ⟨h.1, h.2.imp id fun ⟨g, cap, cur, h1, h2, h3⟩ => ⟨g, cap, cur, h1, Nat.le_trans hb h2, h3⟩⟩
/-- What the loop knows of its world. -/
structure RIn (w : World) (l : List Int) (x y : Nat) (W : Array Value) (out : List (Nat × Nat)) (c : Nat) (v : Value) (wr : World) : Prop where
  own : wr.ownsRow (w.heap.size + 1 + 1) 25 2 v out.length (flat2 (out.map ip))
  st : RSt (hasS l) x y out c
  n : out.length ≤ c / 3600 + 1 ∧ (c < y → out.length ≤ c / 3600)
  rw : Row wr w.heap.size 23 W
  rs : Row wr (w.heap.size + 1) 25 #[.int .i64 (x : Int), .int .i64 (y : Int)]
  b : Below w.heap.size w wr
  s : w.heap.size + 1 + 1 ≤ wr.heap.size
theorem RIn.below {w : World} {l : List Int} {x y : Nat} {W : Array Value} {out : List (Nat × Nat)} {c : Nat} {v : Value} {wr u : World} (h : RIn w l x y W out c v wr) (hb : Below wr.heap.size wr u) : RIn w l x y W out c v u :=
  ⟨own_below h.own hb, h.st, h.n, h.rw.below hb h.rw.lt, h.rs.below hb h.rs.lt, below_to h.b hb, Nat.le_trans h.s hb.size⟩
theorem RIn.skip {w : World} {l : List Int} {x y : Nat} {W : Array Value} {out : List (Nat × Nat)} {c d : Nat} {v : Value} {wr : World} (h : RIn w l x y W out c v wr) (hd : d = min ((c / 3600 + 1) * 3600) y) (hcy : c < y) (hn : hasS l c = false) : RIn w l x y W out d v wr := by
  obtain ⟨h1, h2, h3⟩ := hour_end (l := l) hd hcy
  have hc := h.n.2 hcy
  exact ⟨h.own, h.st.skip (Nat.le_of_lt h1) h2 (fun t g1 g2 => (h3 t g1 g2).trans hn), ⟨by omega, fun _ => by omega⟩, h.rw, h.rs, h.b, h.s⟩
theorem RIn.push {w : World} {l : List Int} {x y : Nat} {W : Array Value} {out : List (Nat × Nat)} {c d : Nat} {v v' : Value} {wr w' : World} (h : RIn w l x y W out c v wr) (hd : d = min ((c / 3600 + 1) * 3600) y) (hcy : c < y) (ha : hasS l c = true) (hl : ∀ q, out.getLast? = some q → q.2 ≠ c)
    (ho : w'.ownsRow (w.heap.size + 1 + 1) 25 2 v' (out.length + 1) (flat2 (out.map ip ++ [((c : Int), (d : Int))]))) (hg : (wr.alloc (.cells #[.int .i64 (c : Int), .int .i64 (d : Int)] 25)).grownBy w' v.ownBlock) : RIn w l x y W (out ++ [(c, d)]) d v' w' := by
  obtain ⟨h1, h2, h3⟩ := hour_end (l := l) hd hcy
  have hc := h.n.2 hcy
  have hlow : ∀ r, v.ownBlock = some r → w.heap.size + 1 + 1 ≤ r := fun r e => own_ge h.own r e
  have hs := hg.size
  simp only [World.size_alloc] at hs
  refine ⟨?_, h.st.push h1 h2 (fun t g1 g2 => (h3 t g1 g2).trans ha) hl, ⟨by simp; omega, fun _ => by simp; omega⟩, ?_, ?_, ?_, by have := h.s; omega⟩
  · rw [List.length_append, List.map_append]; exact ho
  · exact (h.rw.alloc _).grown hg (fun r e => by have := hlow r e; omega)
  · exact (h.rs.alloc _).grown hg (fun r e => by have := hlow r e; omega)
  · exact (h.b.alloc h.b.size _).grown hg (by have := h.b.size; simp; omega) (fun r e => by have := hlow r e; omega)
theorem RIn.join {w : World} {l : List Int} {x y : Nat} {W : Array Value} {o : List (Nat × Nat)} {u c d : Nat} {v : Value} {wr w' : World} {g : Nat} (h : RIn w l x y W (o ++ [(u, c)]) c v wr) (hd : d = min ((c / 3600 + 1) * 3600) y) (hcy : c < y) (ha : hasS l c = true) (hg : w.heap.size + 1 + 1 ≤ g)
    (ho : (wr.setCell ⟨g, o.length * 2 + 1, none⟩ (.int .i64 (d : Int))).ownsRow (w.heap.size + 1 + 1) 25 2 v (o.length + 1) (flat2 (o.map ip ++ [((u : Int), (d : Int))]))) (hw : wr.setCell ⟨g, o.length * 2 + 1, none⟩ (.int .i64 (d : Int)) = w') : RIn w l x y W (o ++ [(u, d)]) d v w' := by
  obtain ⟨h1, h2, h3⟩ := hour_end (l := l) hd hcy
  have hc := h.n.2 hcy
  simp only [List.length_append, List.length_cons, List.length_nil] at hc
  subst hw
  refine ⟨?_, h.st.join h1 h2 (fun t g1 g2 => (h3 t g1 g2).trans ha), ⟨by simp; omega, fun _ => by simp; omega⟩, ?_, ?_, ?_, by simp [World.setCell]; exact h.s⟩
  · rw [List.length_append, List.map_append]; exact ho
  · exact h.rw.far (p := ⟨g, o.length * 2 + 1, none⟩) (by dsimp only; omega) _
  · exact h.rs.far (p := ⟨g, o.length * 2 + 1, none⟩) (by dsimp only; omega) _
  · exact h.b.setCell (p := ⟨g, o.length * 2 + 1, none⟩) (by dsimp only; omega) _
end Go.Proofs.YtmfpaankkoaoaaaDoor

/- The reference's Spells. -/
namespace Go.Proofs.YtmfpaankkoaoaaaDoor
open Go.RowKit Go.Shelf
attribute [local go_sem ↓] append_appN

theorem rvspell_nat (x y : Nat) (u : World) : Calls Tryd.prog 35 #[.agg #[.int .i64 (x : Int), .int .i64 (y : Int)]] u fun e w' => e = .returned (.bool (isSpl (x : Int) (y : Int))) ∧ Below u.heap.size u w' := rvspell_any _ _ u
set_option maxRecDepth 100000 in
set_option maxHeartbeats 16000000 in
theorem rspells_ok {l : List Int} {n0 n1 n2 n3 n4 n5 n6 : Int} (K : Wk l n0 n1 n2 n3 n4 n5 n6) (x y : Nat) (hxy : x < y) (hy : y ≤ 10000000) (w : World) : Calls Tryd.prog 15 #[.agg #[.int .i64 n0, .int .i64 n1, .int .i64 n2, .int .i64 n3, .int .i64 n4, .int .i64 n5, .int .i64 n6], .agg #[.int .i64 (x : Int), .int .i64 (y : Int)]] w fun r w' =>
    ∃ v, r = .returned (.tuple #[v, .int .i64 0]) ∧ w'.ownsRow w.heap.size 25 2 v (spsV l (x : Int) (y : Int)).1.length (flat2 ((spsV l (x : Int) (y : Int)).1.map ip)) ∧ Below w.heap.size w w' := by
  have VA := Lib.hid (fun u => rvalid_any l K.len u)
  have VS := Lib.hid (fun u => rvspell_nat x y u)
  have HA := Lib.hid (fun t h0 h1 u => rhas_i K t h0 h1 u)
  have HDN := Lib.hid (fun (c : Nat) (out : List (Nat × Nat)) (h : RSt (hasS l) x y out c) hc => h.done K.len K.v hc hxy hy)
  rw [K.v, K.wv] at VA
  rw [(isSpl_iff (x : Int) (y : Int)).2 ⟨by omega, by omega, by omega⟩] at VS
  have HXY := Lib.hid (And.intro hxy hy)
  obtain ⟨W0, hW0⟩ : ∃ W0, (w.alloc (.cells #[.int .i64 n0, .int .i64 n1, .int .i64 n2, .int .i64 n3, .int .i64 n4, .int .i64 n5, .int .i64 n6] 23)).alloc (.cells #[.int .i64 (x : Int), .int .i64 (y : Int)] 25) = W0 := ⟨_, rfl⟩
  have RA := Lib.hid (show Row W0 w.heap.size 23 #[.int .i64 n0, .int .i64 n1, .int .i64 n2, .int .i64 n3, .int .i64 n4, .int .i64 n5, .int .i64 n6] by rw [← hW0]; exact (Row.new w _ _).alloc _)
  have RS := Lib.hid (show Row W0 (w.heap.size + 1) 25 #[.int .i64 (x : Int), .int .i64 (y : Int)] by
    rw [← hW0]
    have := Row.new (w.alloc (.cells #[.int .i64 n0, .int .i64 n1, .int .i64 n2, .int .i64 n3, .int .i64 n4, .int .i64 n5, .int .i64 n6] 23)) 25 #[.int .i64 (x : Int), .int .i64 (y : Int)]
    rw [World.size_alloc] at this
    exact this)
  have HB := Lib.hid (show Below w.heap.size w W0 by rw [← hW0]; exact ((Below.refl _ w).alloc (Nat.le_refl _) _).alloc (by simp) _)
  have HS0 := Lib.hid (show w.heap.size + 1 + 1 ≤ W0.heap.size by rw [← hW0]; simp)
  have HW0 := Lib.hid hW0
  clear hW0 K hxy hy
  have x0 := RA.out.cell 0; have x1 := RA.out.cell 1; have x2 := RA.out.cell 2; have x3 := RA.out.cell 3; have x4 := RA.out.cell 4; have x5 := RA.out.cell 5; have x6 := RA.out.cell 6; have s0 := RS.out.cell 0; have s1 := RS.out.cell 1; have la_ := RA.out.lt; have ls_ := RS.out.lt
  go_enter Tryd.func15, Tryd.ntmps15
  go_upto_region 1 with (fail)
  rw [HW0.out]
  go_wp2_with (first | (go_at_call 7; (with_reducible refine Calls.mono (VA.out _) ?_); rintro r u1 ⟨rfl, hb⟩; have HB := Lib.hid (below_to HB.out hb); have RA := Lib.hid (RA.out.below hb RA.out.lt); have RS := Lib.hid (RS.out.below hb RS.out.lt); have HS0 := Lib.hid (Nat.le_trans HS0.out hb.size); clear x0 x1 x2 x3 x4 x5 x6 s0 s1 la_ ls_; have x0 := RA.out.cell 0; have x1 := RA.out.cell 1; have x2 := RA.out.cell 2; have x3 := RA.out.cell 3; have x4 := RA.out.cell 4; have x5 := RA.out.cell 5; have x6 := RA.out.cell 6; have s0 := RS.out.cell 0; have s1 := RS.out.cell 1; have la_ := RA.out.lt; have ls_ := RS.out.lt; clear hb) | (go_at_call 35; (with_reducible refine Calls.mono (VS.out _) ?_); rintro r u2 ⟨rfl, hb⟩; have HB := Lib.hid (below_to HB.out hb); have RA := Lib.hid (RA.out.below hb RA.out.lt); have RS := Lib.hid (RS.out.below hb RS.out.lt); have HS0 := Lib.hid (Nat.le_trans HS0.out hb.size); clear x0 x1 x2 x3 x4 x5 x6 s0 s1 la_ ls_; have x0 := RA.out.cell 0; have x1 := RA.out.cell 1; have x2 := RA.out.cell 2; have x3 := RA.out.cell 3; have x4 := RA.out.cell 4; have x5 := RA.out.cell 5; have x6 := RA.out.cell 6; have s0 := RS.out.cell 0; have s1 := RS.out.cell 1; have la_ := RA.out.lt; have ls_ := RS.out.lt; clear hb))
  clear x0 x1 x2 x3 x4 x5 x6 s0 s1 la_ ls_
  have HI : Hid (RIn w l x y #[.int .i64 n0, .int .i64 n1, .int .i64 n2, .int .i64 n3, .int .i64 n4, .int .i64 n5, .int .i64 n6] [] x (.slice none 0 0) u2) := Lib.hid ⟨⟨rfl, .inl ⟨rfl, rfl⟩⟩, ⟨fun t h1 h2 => by omega, trivial, Nat.le_refl _, Nat.le_of_lt HXY.out.1⟩, ⟨Nat.zero_le _, fun _ => Nat.zero_le _⟩, RA.out, RS.out, HB.out, HS0.out⟩
  clear RA RS HB HS0
  go_loopw [6, 7] (fun o at_ wr => ∃ (out : List (Nat × Nat)) (c : Nat), at_ = .int .i64 (c : Int) ∧ Hid (RIn w l x y #[.int .i64 n0, .int .i64 n1, .int .i64 n2, .int .i64 n3, .int .i64 n4, .int .i64 n5, .int .i64 n6] out c o wr)) (fun _ at_ _ => y - (intOf at_).toNat)
  case atStart => exact ⟨[], x, rfl, HI⟩
  case round =>
    clear HI
    obtain ⟨out, c0, rfl, HI⟩ := hrel
    have RA := Lib.hid HI.out.rw; have RS := Lib.hid HI.out.rs
    have x0 := RA.out.cell 0; have x1 := RA.out.cell 1; have x2 := RA.out.cell 2; have x3 := RA.out.cell 3; have x4 := RA.out.cell 4; have x5 := RA.out.cell 5; have x6 := RA.out.cell 6; have s0 := RS.out.cell 0; have s1 := RS.out.cell 1; have la_ := RA.out.lt; have ls_ := RS.out.lt
    by_cases hlt : c0 < y
    · obtain ⟨dd, hdd⟩ : ∃ dd, dd = min ((c0 / 3600 + 1) * 3600) y := ⟨_, rfl⟩
      obtain ⟨hc1, hc2, -⟩ := hour_end (l := l) hdd hlt
      have hyb := HXY.out.2
      obtain ⟨m, hm⟩ : ∃ m, c0 / 3600 = m := ⟨_, rfl⟩
      have q1 : ((c0 : Int)).tdiv 3600 = (m : Int) := by rw [Int.tdiv_eq_ediv_of_nonneg (by omega)]; omega
      have q2 : (m : Int) < 3000 := by omega
      have q3 : (0 : Int) ≤ (m : Int) := by omega
      obtain ⟨z, hz⟩ : ∃ z, ((m : Int) + 1) * 3600 = z := ⟨_, rfl⟩
      have HMN := Lib.hid (fun (u : World) => run_min2 (P := Tryd.prog) (w := u) #[3, 3] 3 .i64 .i64 z (y : Int) (dd : Int) (by omega))
      have hmn := HMN.out
      have S1 := Lib.hid (fun u => HA.out (c0 : Int) (by omega) (by omega) u)
      rw [Int.toNat_natCast] at S1
      have HLT := Lib.hid (And.intro hlt (And.intro hdd (And.intro hc1 hc2)))
      have HLE := Lib.hid (HI.out.n)
      have hlt' : (c0 : Int) < (y : Int) := by omega
      clear hyb hm hdd hc1 hc2
      cases hb : hasS l c0 with
      | false =>
        rw [hb] at S1
        have HI2 := Lib.hid (HI.out.skip HLT.out.2.1 hlt hb)
        clear hb hlt
        go_wp2_with (go_at_call 32; (with_reducible refine Calls.mono (S1.out _) ?_); rintro r u3 ⟨rfl, hb⟩; have HI2 := Lib.hid (HI2.out.below hb); clear hb)
        go_roundw
        case rel => exact ⟨out, dd, rfl, HI2⟩
        case measure => have h := HLT.out; simp [intOf]; omega
      | true =>
        rw [hb] at S1
        have HBB := Lib.hid hb
        clear hb hlt
        rcases List.eq_nil_or_concat out with rfl | ⟨o, ⟨u0, e0⟩, rfl⟩
        · obtain ⟨A, cp, rfl, -⟩ := own_slice HI.out.own
          have hst := HI.out.s
          go_wp2_with (go_at_call 32; (with_reducible refine Calls.mono (S1.out _) ?_); rintro r u3 ⟨rfl, hb⟩; have HI2 := Lib.hid (HI.out.below hb); have ho0 : u3.ownsRow (w.heap.size + 1 + 1) 25 2 (.slice A 0 cp) 0 (flat2 []) := HI2.out.own; obtain ⟨A6, c6, w6, hrun, hown6, hgr6, -⟩ := push_pair (c0 : Int) (dd : Int) ho0 (by omega) HI2.out.s; clear hb)
          go_roundw
          case rel => exact ⟨[] ++ [(c0, dd)], dd, rfl, Lib.hid (HI2.out.push HLT.out.2.1 HLT.out.1 HBB.out (fun q hq => by cases hq) hown6 hgr6)⟩
          case measure => have h := HLT.out; simp [intOf]; omega
        · rw [List.concat_eq_append] at HI HLE
          have hmp : (o ++ [(u0, e0)]).map ip = o.map ip ++ [((u0 : Int), (e0 : Int))] := by simp [ip]
          have hol : (o.map ip).length = o.length := List.length_map _
          have hown := HI.out.own
          rw [hmp, List.length_append] at hown
          have hlo : ∀ y' : Int, ∃ g cp, u6 = .slice (some ⟨g, 0, none⟩) ((o.map ip).length + 1) cp ∧ w.heap.size + 1 + 1 ≤ g ∧ g < wr.heap.size ∧ wr.cell? ⟨g, (o.map ip).length * 2 + 1, none⟩ = some (.int .i64 (e0 : Int)) ∧ wr.frozen? ⟨g, (o.map ip).length * 2 + 1, none⟩ = false ∧
              ∀ u : World, u.heap[g]? = wr.heap[g]? → (u.setCell ⟨g, (o.map ip).length * 2 + 1, none⟩ (.int .i64 y')).ownsRow (w.heap.size + 1 + 1) 25 2 u6 ((o.map ip).length + 1) (flat2 (o.map ip ++ [((u0 : Int), y')])) := fun y' => own_last (q := ((u0 : Int), (e0 : Int))) (by rw [hol]; exact hown) y'
          obtain ⟨g, cp, rfl, g1, g2, g3, g4, g5⟩ := hlo (dd : Int)
          have hbk : o.length ≤ 3000 := by have h := HLE.out.1; have hyb := HXY.out.2; simp at h; omega
          obtain ⟨k, hk⟩ : ∃ k, o.length = k := ⟨_, rfl⟩
          rw [hol, hk] at g3 g4 g5
          have HK := Lib.hid hk; have HG5 := Lib.hid g5; have HMP := Lib.hid hmp; have HOL := Lib.hid hol; have HG1 := Lib.hid g1; have HG2 := Lib.hid g2; have HG3 := Lib.hid g3; have HG4 := Lib.hid g4
          have HFZ : Hid (∀ u : World, Below wr.heap.size wr u → u.frozen? ⟨g, k * 2 + 1, none⟩ = false) := Lib.hid (fun u hu => by rw [← g4]; exact hu.frozen g2)
          rw [hol, hk] at HI
          first | rw [hol, hk] | skip
          have k1 : (0 : Int) ≤ (k : Int) := by omega
          have k2 : (k : Int) < 4000 := by omega
          have hmx := fun (u : World) => run_max2 (P := Tryd.prog) (w := u) #[3, 3] 3 .i64 .i64 (k : Int) 0 (k : Int) (by omega)
          clear hmp hol hown hlo hk g1 g3 g4 g5 hbk
          by_cases he : e0 = c0
          · have he2 : c0 = e0 := he.symm
            subst he2
            go_wp2_with (go_at_call 32; (with_reducible refine Calls.mono (S1.out _) ?_); rintro r u3 ⟨rfl, hb⟩; have HI2 := Lib.hid (HI.out.below hb); have cl := (hb.cell (p := ⟨g, k * 2 + 1, none⟩) HG2.out).trans HG3.out; have lg := Nat.lt_of_lt_of_le HG2.out hb.size; have fz := HFZ.out u3 hb; have HO5 := Lib.hid (HG5.out u3 (hb.block g HG2.out)); clear hb)
            go_roundw
            case rel => exact ⟨o ++ [(u0, dd)], dd, rfl, Lib.hid (HI2.out.join (g := g) HLT.out.2.1 HLT.out.1 HBB.out HG1.out (by rw [HK.out]; exact HO5.out) (by rw [HK.out]))⟩
            case measure => have h := HLT.out; simp [intOf]; omega
          · have e1 : ((e0 : Int) == (c0 : Int)) = false := by rw [beq_eq_false_iff_ne]; omega
            have e2 : ¬ (e0 : Int) = (c0 : Int) := by omega
            have HNE := Lib.hid he
            clear he
            go_wp2_with (go_at_call 32; (with_reducible refine Calls.mono (S1.out _) ?_); rintro r u3 ⟨rfl, hb⟩; have HI2 := Lib.hid (HI.out.below hb); have cl := (hb.cell (p := ⟨g, k * 2 + 1, none⟩) HG2.out).trans HG3.out; have lg := Nat.lt_of_lt_of_le HG2.out hb.size; have fz := HFZ.out u3 hb; have ho0 : u3.ownsRow (w.heap.size + 1 + 1) 25 2 (.slice (some ⟨g, 0, none⟩) (k + 1) cp) (k + 1) (flat2 ((o ++ [(u0, e0)]).map ip)) := (by have h := HI2.out.own; rw [List.length_append, HK.out] at h; exact h); obtain ⟨A6, c6, w6, hrun, hown6, hgr6, -⟩ := push_pair (c0 : Int) (dd : Int) ho0 (by omega) HI2.out.s; clear ho0; clear hb)
            go_roundw
            case rel => exact ⟨(o ++ [(u0, e0)]) ++ [(c0, dd)], dd, rfl, Lib.hid (HI2.out.push HLT.out.2.1 HLT.out.1 HBB.out (fun q hq => by rw [List.getLast?_concat] at hq; cases hq; exact HNE.out) (by rw [List.length_append, HK.out]; exact hown6) hgr6)⟩
            case measure => have h := HLT.out; simp [intOf]; omega
    · have hge : ¬ (c0 : Int) < (y : Int) := by omega
      have HE := Lib.hid (HDN.out _ _ HI.out.st hlt)
      clear hlt
      go_wp2
      refine bodyPost_ret (results_tmp2 rfl _ _ _) rfl ⟨_, rfl, ?_, HI.out.b⟩
      rw [← HE.out]
      exact own_base HI.out.own (by omega)
end Go.Proofs.YtmfpaankkoaoaaaDoor

/- The reference's Spells, whatever it is given; and its Seconds. -/
namespace Go.Proofs.YtmfpaankkoaoaaaDoor
open Go.RowKit Go.Shelf

set_option maxRecDepth 100000 in
set_option maxHeartbeats 8000000 in
theorem rspells_bad (l : List Int) (h7 : l.length = 7) (p q : Int) (hbad : (validW l && isSpl p q) = false) (w : World) : Calls Tryd.prog 15 #[wv l, .agg #[.int .i64 p, .int .i64 q]] w fun r w' => r = .returned (.tuple #[.slice none 0 0, .int .i64 60]) ∧ Below w.heap.size w w' := by
  have VA := Lib.hid (fun u => rvalid_any l h7 u)
  have VS := Lib.hid (fun u => rvspell_any p q u)
  obtain ⟨n0, n1, n2, n3, n4, n5, n6, hl, hwv⟩ := two_ways l h7
  rw [hwv] at VA ⊢
  clear hl hwv
  obtain ⟨W0, hW0⟩ : ∃ W0, (w.alloc (.cells #[.int .i64 n0, .int .i64 n1, .int .i64 n2, .int .i64 n3, .int .i64 n4, .int .i64 n5, .int .i64 n6] 23)).alloc (.cells #[.int .i64 p, .int .i64 q] 25) = W0 := ⟨_, rfl⟩
  have RA := Lib.hid (show Row W0 w.heap.size 23 #[.int .i64 n0, .int .i64 n1, .int .i64 n2, .int .i64 n3, .int .i64 n4, .int .i64 n5, .int .i64 n6] by rw [← hW0]; exact (Row.new w _ _).alloc _)
  have RS := Lib.hid (show Row W0 (w.heap.size + 1) 25 #[.int .i64 p, .int .i64 q] by
    rw [← hW0]
    have := Row.new (w.alloc (.cells #[.int .i64 n0, .int .i64 n1, .int .i64 n2, .int .i64 n3, .int .i64 n4, .int .i64 n5, .int .i64 n6] 23)) 25 #[.int .i64 p, .int .i64 q]
    rw [World.size_alloc] at this
    exact this)
  have HB := Lib.hid (show Below w.heap.size w W0 by rw [← hW0]; exact ((Below.refl _ w).alloc (Nat.le_refl _) _).alloc (by simp) _)
  have HW0 := Lib.hid hW0
  clear hW0
  have x0 := RA.out.cell 0; have x1 := RA.out.cell 1; have x2 := RA.out.cell 2; have x3 := RA.out.cell 3; have x4 := RA.out.cell 4; have x5 := RA.out.cell 5; have x6 := RA.out.cell 6; have s0 := RS.out.cell 0; have s1 := RS.out.cell 1; have la_ := RA.out.lt; have ls_ := RS.out.lt
  cases hv : validW l with
  | false =>
    rw [hv] at VA
    clear hv hbad
    go_enter Tryd.func15, Tryd.ntmps15
    go_upto_region 1 with (fail)
    rw [HW0.out]
    go_wp2_with (first | (go_at_call 7; (with_reducible refine Calls.mono (VA.out _) ?_); rintro r u1 ⟨rfl, hb⟩; have HB := Lib.hid (below_to HB.out hb); have RA := Lib.hid (RA.out.below hb RA.out.lt); have RS := Lib.hid (RS.out.below hb RS.out.lt); clear x0 x1 x2 x3 x4 x5 x6 s0 s1 la_ ls_; have x0 := RA.out.cell 0; have x1 := RA.out.cell 1; have x2 := RA.out.cell 2; have x3 := RA.out.cell 3; have x4 := RA.out.cell 4; have x5 := RA.out.cell 5; have x6 := RA.out.cell 6; have s0 := RS.out.cell 0; have s1 := RS.out.cell 1; have la_ := RA.out.lt; have ls_ := RS.out.lt; clear hb) | (go_at_call 35; (with_reducible refine Calls.mono (VS.out _) ?_); rintro r u2 ⟨rfl, hb⟩; have HB := Lib.hid (below_to HB.out hb); have RA := Lib.hid (RA.out.below hb RA.out.lt); have RS := Lib.hid (RS.out.below hb RS.out.lt); clear x0 x1 x2 x3 x4 x5 x6 s0 s1 la_ ls_; have x0 := RA.out.cell 0; have x1 := RA.out.cell 1; have x2 := RA.out.cell 2; have x3 := RA.out.cell 3; have x4 := RA.out.cell 4; have x5 := RA.out.cell 5; have x6 := RA.out.cell 6; have s0 := RS.out.cell 0; have s1 := RS.out.cell 1; have la_ := RA.out.lt; have ls_ := RS.out.lt; clear hb))
    refine bodyPost_ret (results_tmp2 rfl _ _ _) rfl ⟨rfl, HB.out⟩
  | true =>
    have hs : isSpl p q = false := by rw [hv] at hbad; simpa using hbad
    rw [hv] at VA
    rw [hs] at VS
    clear hv hbad hs
    go_enter Tryd.func15, Tryd.ntmps15
    go_upto_region 1 with (fail)
    rw [HW0.out]
    go_wp2_with (first | (go_at_call 7; (with_reducible refine Calls.mono (VA.out _) ?_); rintro r u1 ⟨rfl, hb⟩; have HB := Lib.hid (below_to HB.out hb); have RA := Lib.hid (RA.out.below hb RA.out.lt); have RS := Lib.hid (RS.out.below hb RS.out.lt); clear x0 x1 x2 x3 x4 x5 x6 s0 s1 la_ ls_; have x0 := RA.out.cell 0; have x1 := RA.out.cell 1; have x2 := RA.out.cell 2; have x3 := RA.out.cell 3; have x4 := RA.out.cell 4; have x5 := RA.out.cell 5; have x6 := RA.out.cell 6; have s0 := RS.out.cell 0; have s1 := RS.out.cell 1; have la_ := RA.out.lt; have ls_ := RS.out.lt; clear hb) | (go_at_call 35; (with_reducible refine Calls.mono (VS.out _) ?_); rintro r u2 ⟨rfl, hb⟩; have HB := Lib.hid (below_to HB.out hb); have RA := Lib.hid (RA.out.below hb RA.out.lt); have RS := Lib.hid (RS.out.below hb RS.out.lt); clear x0 x1 x2 x3 x4 x5 x6 s0 s1 la_ ls_; have x0 := RA.out.cell 0; have x1 := RA.out.cell 1; have x2 := RA.out.cell 2; have x3 := RA.out.cell 3; have x4 := RA.out.cell 4; have x5 := RA.out.cell 5; have x6 := RA.out.cell 6; have s0 := RS.out.cell 0; have s1 := RS.out.cell 1; have la_ := RA.out.lt; have ls_ := RS.out.lt; clear hb))
    refine bodyPost_ret (results_tmp2 rfl _ _ _) rfl ⟨rfl, HB.out⟩
theorem rspells_any (l : List Int) (h7 : l.length = 7) (p q : Int) (w : World) : Calls Tryd.prog 15 #[wv l, .agg #[.int .i64 p, .int .i64 q]] w fun r w' =>
    ∃ v, r = .returned (.tuple #[v, .int .i64 (spsV l p q).2]) ∧ Recs enc2 2 w' w'.heap.size v ((spsV l p q).1.map ip) ∧ Below w.heap.size w w' := by
  cases hb : validW l && isSpl p q with
  | false =>
    refine (rspells_bad l h7 p q hb w).mono ?_
    rintro r w' ⟨rfl, hb'⟩
    rw [sps_bad hb]
    exact ⟨_, rfl, recs_nil _ _ _ _, hb'⟩
  | true =>
    rw [Bool.and_eq_true] at hb
    obtain ⟨h1, h2, h3⟩ := (isSpl_iff p q).1 hb.2
    obtain ⟨x, rfl⟩ := Int.eq_ofNat_of_zero_le h1
    obtain ⟨y, rfl⟩ := Int.eq_ofNat_of_zero_le (show 0 ≤ q by omega)
    obtain ⟨n0, n1, n2, n3, n4, n5, n6, K⟩ := wk_of h7 hb.1
    have := rspells_ok K x y (by omega) (by omega) w
    rw [← K.wv] at this
    refine this.mono ?_
    rintro r w' ⟨v, rfl, h4, h5⟩
    exact ⟨v, by rw [sps_ok hb.1 hb.2], recs_of_own h4 (by simp), h5⟩
/-- What Seconds adds up. -/
theorem sps_sum (l : List Int) (h7 : l.length = 7) (p q : Int) : ((sumL (spsV l p q).1 : Nat) : Int) = (secsV l p q).1 ∧ (spsV l p q).2 = (secsV l p q).2 ∧ (∀ r ∈ (spsV l p q).1, r.1 < r.2 ∧ r.2 ≤ 10000000) ∧ sumL (spsV l p q).1 ≤ 10000000 := by
  cases hb : validW l && isSpl p q with
  | false =>
    rw [sps_bad hb, secs_bad hb]
    refine ⟨rfl, rfl, fun r hr => ?_, Nat.zero_le _⟩
    cases hr
  | true =>
    rw [Bool.and_eq_true] at hb
    obtain ⟨h1, h2, h3⟩ := (isSpl_iff p q).1 hb.2
    obtain ⟨x, rfl⟩ := Int.eq_ofNat_of_zero_le h1
    obtain ⟨y, rfl⟩ := Int.eq_ofNat_of_zero_le (show 0 ≤ q by omega)
    rw [sps_ok hb.1 hb.2, secs_ok hb.1 hb.2]
    dsimp only
    obtain ⟨s1, s2⟩ := spells_fold (show x ≤ y by omega) (pcs l x y) [] (tiles_pcs l h7 hb.1 x y (by omega) (by omega)) trivial
    have hs := tiles_sum s1 (by omega)
    have hc := cnt_le (hasS l) x (y - x)
    exact ⟨by rw [hs], rfl, fun r hr => by have := tiles_mem s1 r hr; omega, by omega⟩
set_option maxRecDepth 100000 in
set_option maxHeartbeats 8000000 in
theorem rseconds_any (l : List Int) (h7 : l.length = 7) (p q : Int) (w : World) : Calls Tryd.prog 17 #[wv l, .agg #[.int .i64 p, .int .i64 q]] w fun r w' => r = .returned (.tuple #[.int .i64 (secsV l p q).1, .int .i64 (secsV l p q).2]) ∧ Below w.heap.size w w' := by
  have SS := Lib.hid (fun u => rspells_any l h7 p q u)
  obtain ⟨e1, e2, e3, e4⟩ := sps_sum l h7 p q
  rw [← e1, ← e2]
  obtain ⟨n0, n1, n2, n3, n4, n5, n6, hl, hwv⟩ := two_ways l h7
  rw [hwv] at SS ⊢
  obtain ⟨L, hL⟩ : ∃ L, (spsV l p q).1 = L := ⟨_, rfl⟩
  obtain ⟨er, her⟩ : ∃ er, (spsV l p q).2 = er := ⟨_, rfl⟩
  rw [hL] at SS e3 e4 ⊢
  rw [her] at SS ⊢
  have HM := Lib.hid e3; have H4 := Lib.hid e4
  clear hl hwv e1 e2 e3 e4 hL her
  obtain ⟨W0, hW0⟩ : ∃ W0, (w.alloc (.cells #[.int .i64 n0, .int .i64 n1, .int .i64 n2, .int .i64 n3, .int .i64 n4, .int .i64 n5, .int .i64 n6] 23)).alloc (.cells #[.int .i64 p, .int .i64 q] 25) = W0 := ⟨_, rfl⟩
  have RA := Lib.hid (show Row W0 w.heap.size 23 #[.int .i64 n0, .int .i64 n1, .int .i64 n2, .int .i64 n3, .int .i64 n4, .int .i64 n5, .int .i64 n6] by rw [← hW0]; exact (Row.new w _ _).alloc _)
  have RS := Lib.hid (show Row W0 (w.heap.size + 1) 25 #[.int .i64 p, .int .i64 q] by
    rw [← hW0]
    have := Row.new (w.alloc (.cells #[.int .i64 n0, .int .i64 n1, .int .i64 n2, .int .i64 n3, .int .i64 n4, .int .i64 n5, .int .i64 n6] 23)) 25 #[.int .i64 p, .int .i64 q]
    rw [World.size_alloc] at this
    exact this)
  have HB := Lib.hid (show Below w.heap.size w W0 by rw [← hW0]; exact ((Below.refl _ w).alloc (Nat.le_refl _) _).alloc (by simp) _)
  have HW0 := Lib.hid hW0
  clear hW0
  have x0 := RA.out.cell 0; have x1 := RA.out.cell 1; have x2 := RA.out.cell 2; have x3 := RA.out.cell 3; have x4 := RA.out.cell 4; have x5 := RA.out.cell 5; have x6 := RA.out.cell 6; have s0 := RS.out.cell 0; have s1 := RS.out.cell 1; have la_ := RA.out.lt; have ls_ := RS.out.lt
  go_enter Tryd.func17, Tryd.ntmps17
  go_upto_region 1 with (fail)
  rw [HW0.out]
  go_wp2_with (go_at_call 15; (with_reducible refine Calls.mono (SS.out _) ?_); rintro r u1 ⟨v, rfl, hrec, hb⟩; have HB := Lib.hid (below_to HB.out hb); have HREC := Lib.hid hrec; obtain ⟨A, cp, rfl, hcp1, hcp2⟩ := recs_form hrec; simp only [List.length_map] at hcp1; clear hb hrec)
  have HV := Lib.hid (fun k hk => recs_at HREC.out k hk)
  have HLM := Lib.hid (show (L.map ip).length = L.length from List.length_map _)
  first | rw [HLM.out] | skip
  obtain ⟨N, hN⟩ : ∃ N, L.length = N := ⟨_, rfl⟩
  have HN := Lib.hid hN
  rw [hN] at hcp1
  first | rw [hN] | skip
  clear hN x0 x1 x2 x3 x4 x5 x6 s0 s1 la_ ls_
  go_loopw [8, 9] (fun sm i wr => ∃ k : Nat, k ≤ N ∧ i = .int .i64 (k : Int) ∧ sm = .int .i64 ((sumL (L.take k) : Nat) : Int) ∧ Hid (Below u1.heap.size u1 wr)) (fun _ i _ => N - (intOf i).toNat)
  case atStart => exact ⟨0, by omega, rfl, rfl, Lib.hid (Below.refl _ _)⟩
  case round =>
    obtain ⟨k, hk, rfl, rfl, HD⟩ := hrel
    by_cases hlt : k < N
    · have hkl : k < L.length := by have := HN.out; omega
      obtain ⟨g, off, rfl, hg, hcell⟩ := HV.out k (by rw [HLM.out]; exact hkl)
      obtain ⟨a0, a1⟩ := cells2 hcell k (by rw [HLM.out]; exact hkl)
      rw [List.getElem_map] at a0 a1
      have hm := HM.out L[k] (List.getElem_mem hkl)
      have hst : sumL (L.take (k + 1)) = sumL (L.take k) + (L[k].2 - L[k].1) := by rw [List.take_succ_eq_append_getElem hkl, sumL_append]; rfl
      have hle : sumL (L.take (k + 1)) ≤ sumL L := sumL_prefix (List.take_prefix _ _)
      have hle2 := H4.out
      obtain ⟨r, hr⟩ : ∃ r, L[k] = r := ⟨_, rfl⟩
      rw [hr] at a0 a1 hm hst
      obtain ⟨px, py⟩ := r
      simp only [ip] at a0 a1
      dsimp only at hm hst
      obtain ⟨sm, hsm⟩ : ∃ sm, sumL (L.take k) = sm := ⟨_, rfl⟩
      rw [hsm] at hst ⊢
      have HST := Lib.hid (show ((sumL (L.take (k + 1)) : Nat) : Int) = (sm : Int) + (py : Int) - (px : Int) by omega)
      have HW5 := Lib.hid (show IntKind.i64.wrap ((sm : Int) + (py : Int)) = (sm : Int) + (py : Int) from IntWalk.i64_in _ (by omega))
      have HW6 := Lib.hid (show IntKind.i64.wrap ((sm : Int) + (py : Int) - (px : Int)) = (sm : Int) + (py : Int) - (px : Int) from IntWalk.i64_in _ (by omega))
      have c0 : wr.cell? ⟨g, off + k * 2, none⟩ = some (.int .i64 (px : Int)) := (HD.out.cell (p := ⟨g, off + k * 2, none⟩) hg).trans a0
      have c1 : wr.cell? ⟨g, off + k * 2 + 1, none⟩ = some (.int .i64 (py : Int)) := (HD.out.cell (p := ⟨g, off + k * 2 + 1, none⟩) hg).trans a1
      have lg : g < wr.heap.size := Nat.lt_of_lt_of_le hg HD.out.size
      have i1 : (0 : Int) ≤ (k : Int) := by omega
      have i2 : (k : Int) < (N : Int) := by omega
      clear a0 a1 hm hst hle hle2 hr hsm hcell hkl
      go_wp2
      have hw5 := HW5.out; have hw6 := HW6.out
      go_quiet (fail)
      clear hw5 hw6
      go_wp2
      go_roundw
      case rel => exact ⟨k + 1, by omega, by go_num, by rw [HST.out], Lib.hid (belowN HD.out _)⟩
      case measure => simp [intOf]; omega
    · have hkN : k = N := by omega
      subst hkN
      have HE := Lib.hid (show L.take k = L from List.take_of_length_le (by have := HN.out; omega))
      rw [HE.out]
      go_wp2
      refine bodyPost_ret (results_tmp2 rfl _ _ _) rfl ⟨rfl, below_to HB.out HD.out⟩
end Go.Proofs.YtmfpaankkoaoaaaDoor
