/- Before, the example, the law's cutOf. -/
import Derived.Test.YtnmhigjannihgaaKi
import Derived.Test.YtnmhigjannihgaaJp
namespace Go.Proofs.Ytnmhigjannihgaa
open Go.RowKit Go.Shelf

theorem lexB_at : ∀ {k : Nat} {a b : List Nat} {x y : Nat}, a.take k = b.take k → a[k]? = some x → b[k]? = some y → x ≠ y → befB.lexB a b = decide (x < y)
  | 0, p :: a, q :: b, x, y, _, hx, hy, hxy => by
    cases hx; cases hy
    show (if p = q then befB.lexB a b else decide (p < q)) = _
    rw [if_neg hxy]
  | k + 1, p :: a, q :: b, x, y, h, hx, hy, hxy => by
    rw [List.take_succ_cons, List.take_succ_cons] at h
    injection h with h1 h2
    subst h1
    show (if p = p then befB.lexB a b else decide (p < p)) = _
    rw [if_pos rfl]
    exact lexB_at h2 (by simpa using hx) (by simpa using hy) hxy
  | 0, [], _, _, _, _, hx, _, _ => by simp at hx
  | 0, _ :: _, [], _, _, _, _, hy, _ => by simp at hy
  | _ + 1, [], _, _, _, _, hx, _, _ => by simp at hx
  | _ + 1, _ :: _, [], _, _, _, _, hy, _ => by simp at hy
theorem lexB_same : ∀ (a : List Nat), befB.lexB a a = false
  | [] => rfl
  | x :: a => by
    show (if x = x then befB.lexB a a else decide (x < x)) = false
    rw [if_pos rfl, lexB_same a]
theorem befB_len {a b : List Nat} (h : a.length ≠ b.length) : befB a b = decide (a.length < b.length) := if_neg h
theorem befB_lex {a b : List Nat} (h : a.length = b.length) : befB a b = befB.lexB a b := if_pos h
theorem zi_at {a : List Nat} {k : Nat} (h : k < a.length) : (zi a)[k]'(by simpa [zi] using h) = ((a[k] : Nat) : Int) := by simp [zi]
set_option maxRecDepth 100000 in
set_option maxHeartbeats 4000000 in
theorem rbefore_any (a b : List Nat) (A A2 : Option Addr) (n c n2 c2 : Nat) (w : World) (hr : Recs enc1 1 w w.heap.size (.slice A n c) (zi a)) (hr2 : Recs enc1 1 w w.heap.size (.slice A2 n2 c2) (zi b)) :
    Calls Try.prog 33 #[.slice A n c, .slice A2 n2 c2] w fun e w' => e = .returned (.bool (befB a b)) ∧ Below w.heap.size w w' := by
  obtain ⟨hn, hc1, hc2⟩ := recs_cap hr
  obtain ⟨hm, hc3, hc4⟩ := recs_cap hr2
  have hn' : n = a.length := by rw [hn]; simp [zi]
  have hm' : n2 = b.length := by rw [hm]; simp [zi]
  have HR := Lib.hid hr; have HR2 := Lib.hid hr2
  have HN := Lib.hid hn'; have HM := Lib.hid hm'
  have hn9 : n ≤ 9223372036854775807 := by omega
  have hm9 : n2 ≤ 9223372036854775807 := by omega
  clear hr hr2 hn hm hn' hm'
  by_cases hl : n = n2
  · subst hl
    have i0 : (n == n) = true := by simp
    have HL := Lib.hid (befB_lex (show a.length = b.length by rw [← HN.out, ← HM.out]))
    obtain ⟨B, hB⟩ : ∃ B, befB a b = B := ⟨_, rfl⟩
    rw [hB] at HL ⊢
    clear hB
    go_enter Try.func33, Try.ntmps33
    go_wp2
    go_loopw [5] (fun j wr => ∃ k : Nat, j = .int .i64 (k : Int) ∧ k ≤ n ∧ Hid (a.take k = b.take k) ∧ Hid (Below w.heap.size w wr)) (fun j _ => n - (intOf j).toNat)
    case atStart => exact ⟨0, rfl, Nat.zero_le _, Lib.hid rfl, Lib.hid (Below.refl _ _)⟩
    case round =>
      obtain ⟨k, rfl, hk, HF, HB⟩ := hrel
      have k0 : (0 : Int) ≤ (k : Int) := by omega
      by_cases hlt : k < n
      · have k1 : (k : Int) < (n : Int) := by omega
        have hka : k < a.length := by have := HN.out; omega
        have hkb : k < b.length := by have := HM.out; omega
        obtain ⟨g, o, rfl, hg, hcell⟩ := recs_at (HR.out.below HB.out) k (by simpa [zi] using hka)
        obtain ⟨g2, o2, rfl, hg2, hcell2⟩ := recs_at (HR2.out.below HB.out) k (by simpa [zi] using hkb)
        have a0 := cells1 hcell k (by simpa [zi] using hka)
        have a1 := cells1 hcell2 k (by simpa [zi] using hkb)
        rw [zi_at hka] at a0
        rw [zi_at hkb] at a1
        have HTE := Lib.hid (take_eq_snoc (List.getElem?_eq_getElem hka) (List.getElem?_eq_getElem hkb) HF.out)
        have HLX := Lib.hid (lexB_at HF.out (List.getElem?_eq_getElem hka) (List.getElem?_eq_getElem hkb))
        obtain ⟨x, hx⟩ : ∃ x, a[k] = x := ⟨_, rfl⟩
        obtain ⟨y, hy⟩ : ∃ y, b[k] = y := ⟨_, rfl⟩
        rw [hx] at a0 HTE HLX
        rw [hy] at a1 HTE HLX
        have lw := HB.out.size
        have g1 : g < wr.heap.size := by omega
        have g3 : g2 < wr.heap.size := by omega
        clear hcell hcell2 hx hy hka hkb
        by_cases hxy : x = y
        · have e1 : ((x : Int) == (y : Int)) = true := by simp [hxy]
          have e2 : ((x : Int) != (y : Int)) = false := by simp [hxy]
          have HE := Lib.hid (HTE.out.2 hxy)
          clear hxy
          go_wp2
          go_region
          all_goals (
            go_wp2
            go_roundw
            case rel => exact ⟨k + 1, by go_num, by omega, HE, Lib.hid (belowN HB.out _)⟩
            case measure => simp [intOf]; omega)
        · have e0 : (x : Int) ≠ (y : Int) := by omega
          have e1 : ((x : Int) == (y : Int)) = false := beq_eq_false_iff_ne.2 e0
          have e2 : ((x : Int) != (y : Int)) = true := bne_iff_ne.2 e0
          clear e0
          have HE := Lib.hid (HL.out.trans (HLX.out hxy))
          clear hxy
          go_wp2
          go_region
          all_goals (
            go_wp2
            go_region
            all_goals (
              go_wp2
              go_ret
              exact ⟨by rw [HE.out]; rfl, belowN (belowN HB.out _) _⟩))
      · have k1 : ¬ (k : Int) < (n : Int) := by omega
        have HE := Lib.hid (show a = b by
          have := HF.out
          rwa [List.take_of_length_le (by have := HN.out; omega), List.take_of_length_le (by have := HM.out; omega)] at this)
        have HE2 := Lib.hid (show B = false by rw [HL.out, HE.out]; exact lexB_same b)
        go_wp2
        go_ret
        exact ⟨by rw [HE2.out]; rfl, HB.out⟩
  · have i0 : ((n : Int) == (n2 : Int)) = false := by simp; omega
    have HE := Lib.hid (befB_len (show a.length ≠ b.length by rw [← HN.out, ← HM.out]; exact hl))
    rw [← HN.out, ← HM.out] at HE
    have i1 : ¬ (n : Int) = (n2 : Int) := by omega
    go_enter Try.func33, Try.ntmps33
    go_wp2
    go_ret
    exact ⟨by rw [HE.out]; rfl, Below.refl _ _⟩
theorem recs_two {w : World} {g : Nat} {a b c d : Int} (h : Row w g 53 #[.int .i64 a, .int .i64 b, .int .i64 c, .int .i64 d]) : Recs enc2 2 w w.heap.size (.slice (some ⟨g, 0, none⟩) 2 2) [(a, b), (c, d)] := by
  refine recs_row h [(a, b), (c, d)] (by simp) (fun j x hj i u hu => ?_)
  match j, hj with
  | 0, hj =>
    cases hj
    match i, hu with
    | 0, hu => cases hu; rfl
    | 1, hu => cases hu; rfl
  | 1, hj =>
    cases hj
    match i, hu with
    | 0, hu => cases hu; rfl
    | 1, hu => cases hu; rfl
/-- The song of the chapter's examples. -/
def exI : ItemP := ⟨3, 1, 200, [(10, 30), (150, 180)], [(0, 15), (170, 200)], 7, 3, 2⟩
set_option maxRecDepth 100000 in
set_option maxHeartbeats 4000000 in
theorem example_any (w : World) : Calls Try.prog 38 #[] w fun e w' => ∃ A1 A2, e = .returned (.agg #[.int .i64 3, .int .i64 1, .int .i64 200, .slice A1 2 2, .slice A2 2 2, .int .i64 7, .int .i64 3, .int .i64 2]) ∧ ItAt exI A1 2 2 A2 2 2 w'.heap.size w' ∧ Below w.heap.size w w' := by
  go_enter Try.func38, Try.ntmps38
  go_wp2
  have h1 : Row (((w.alloc (.cells #[.int .i64 3, .int .i64 1, .int .i64 200, .slice (some ⟨w.heap.size + 1, 0, none⟩) 2 2, .slice (some ⟨w.heap.size + 1 + 1, 0, none⟩) 2 2, .int .i64 7, .int .i64 3, .int .i64 2] 24)).alloc (.cells #[.int .i64 10, .int .i64 30, .int .i64 150, .int .i64 180] 53)).alloc (.cells #[.int .i64 0, .int .i64 15, .int .i64 170, .int .i64 200] 53)) w.heap.size 24 #[.int .i64 3, .int .i64 1, .int .i64 200, .slice (some ⟨w.heap.size + 1, 0, none⟩) 2 2, .slice (some ⟨w.heap.size + 1 + 1, 0, none⟩) 2 2, .int .i64 7, .int .i64 3, .int .i64 2] := ((Row.new w _ _).alloc _).alloc _
  have h2 : Row (((w.alloc (.cells #[.int .i64 3, .int .i64 1, .int .i64 200, .slice (some ⟨w.heap.size + 1, 0, none⟩) 2 2, .slice (some ⟨w.heap.size + 1 + 1, 0, none⟩) 2 2, .int .i64 7, .int .i64 3, .int .i64 2] 24)).alloc (.cells #[.int .i64 10, .int .i64 30, .int .i64 150, .int .i64 180] 53)).alloc (.cells #[.int .i64 0, .int .i64 15, .int .i64 170, .int .i64 200] 53)) (w.heap.size + 1) 53 #[.int .i64 10, .int .i64 30, .int .i64 150, .int .i64 180] := by
    have h := Row.new (w.alloc (.cells #[.int .i64 3, .int .i64 1, .int .i64 200, .slice (some ⟨w.heap.size + 1, 0, none⟩) 2 2, .slice (some ⟨w.heap.size + 1 + 1, 0, none⟩) 2 2, .int .i64 7, .int .i64 3, .int .i64 2] 24)) 53 #[.int .i64 10, .int .i64 30, .int .i64 150, .int .i64 180]
    rw [World.size_alloc] at h
    exact h.alloc _
  have h3 : Row (((w.alloc (.cells #[.int .i64 3, .int .i64 1, .int .i64 200, .slice (some ⟨w.heap.size + 1, 0, none⟩) 2 2, .slice (some ⟨w.heap.size + 1 + 1, 0, none⟩) 2 2, .int .i64 7, .int .i64 3, .int .i64 2] 24)).alloc (.cells #[.int .i64 10, .int .i64 30, .int .i64 150, .int .i64 180] 53)).alloc (.cells #[.int .i64 0, .int .i64 15, .int .i64 170, .int .i64 200] 53)) (w.heap.size + 1 + 1) 53 #[.int .i64 0, .int .i64 15, .int .i64 170, .int .i64 200] := by
    have h := Row.new ((w.alloc (.cells #[.int .i64 3, .int .i64 1, .int .i64 200, .slice (some ⟨w.heap.size + 1, 0, none⟩) 2 2, .slice (some ⟨w.heap.size + 1 + 1, 0, none⟩) 2 2, .int .i64 7, .int .i64 3, .int .i64 2] 24)).alloc (.cells #[.int .i64 10, .int .i64 30, .int .i64 150, .int .i64 180] 53)) 53 #[.int .i64 0, .int .i64 15, .int .i64 170, .int .i64 200]
    simp only [World.size_alloc] at h
    exact h
  refine bodyPost_ret (results_i rfl _ _ w.heap.size _ _ _ _ _ _ _ _ rfl h1) rfl ⟨_, _, rfl, ⟨recs_two h2, recs_two h3⟩, (((Below.refl _ w).alloc (Nat.le_refl _) _).alloc (by simp) _).alloc (by simp <;> omega) _⟩
set_option maxRecDepth 100000 in
set_option maxHeartbeats 4000000 in
theorem cutOf_any (set : Int) (hs : I64 set) (id kind len artist tempo lang : Int) (A1 A2 : Option Addr) (n1 c1 n2 c2 : Nat) (hn : n1 ≤ 60) (w : World) :
    Calls Try.prog 22 #[.agg #[.int .i64 id, .int .i64 kind, .int .i64 len, .slice A1 n1 c1, .slice A2 n2 c2, .int .i64 artist, .int .i64 tempo, .int .i64 lang], .int .i64 set] w fun e w' => ∃ A n c, e = .returned (.slice A n c) ∧ Recs enc1 1 w' w'.heap.size (.slice A n c) (zi (bitsL n1 (pickI set 16).toNat)) ∧ Below w.heap.size w w' := by
  have HP := Lib.hid (fun u => pick_any set 16 (by decide) (by decide) hs.1 hs.2 u)
  have hb := pickI_lt set 16 (by decide)
  obtain ⟨z, hz⟩ : ∃ z, (pickI set 16).toNat = z := ⟨_, rfl⟩
  have hz2 : pickI set 16 = (z : Int) := by omega
  rw [hz2] at HP hb
  rw [hz]
  have HB := Lib.hid (fun u => rbits_any z (by omega) id kind len artist tempo lang A1 A2 n1 c1 n2 c2 hn u)
  clear hz hz2 hb
  have R0 := Lib.hid (Row.new w 24 #[.int .i64 id, .int .i64 kind, .int .i64 len, .slice A1 n1 c1, .slice A2 n2 c2, .int .i64 artist, .int .i64 tempo, .int .i64 lang])
  have HB0 := Lib.hid ((Below.refl _ w).alloc (Nat.le_refl _) (.cells #[.int .i64 id, .int .i64 kind, .int .i64 len, .slice A1 n1 c1, .slice A2 n2 c2, .int .i64 artist, .int .i64 tempo, .int .i64 lang] 24))
  go_enter Try.func22, Try.ntmps22
  go_wp2
  go_region_with (first | (go_at_call 19; (with_reducible refine Calls.mono (HP.out _) ?_); rintro e w1 ⟨rfl, rfl⟩) | (go_at_call 48; (with_reducible refine Calls.mono (HB.out _) ?_); rintro e w2 ⟨A, n, c, rfl, hrec, hb2⟩; have HRE := Lib.hid hrec; have HB2 := Lib.hid hb2; clear hrec hb2))
  all_goals (
    go_wp2
    go_ret
    exact ⟨A, n, c, rfl, HRE.out, below_to (HB0.out.drew) HB2.out⟩)
end Go.Proofs.Ytnmhigjannihgaa
