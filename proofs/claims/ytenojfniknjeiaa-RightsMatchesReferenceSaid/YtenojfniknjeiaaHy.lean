/- Same, has. -/
import Derived.Test.YtenojfniknjeiaaHx
namespace Go.Proofs.Ytenojfniknjeiaa
open Go.RowKit Go.Shelf

set_option maxRecDepth 100000 in
set_option maxHeartbeats 4000000 in
theorem rsame_any (a b : List Gr) (A A2 : Option Addr) (n c n2 c2 : Nat) (w : World) (hr : Recs encG 6 w w.heap.size (.slice A n c) a) (hr2 : Recs encG 6 w w.heap.size (.slice A2 n2 c2) b) :
    Calls Try.prog 17 #[.slice A n c, .slice A2 n2 c2] w fun e w' => e = .returned (.bool (decide (a = b))) ∧ Below w.heap.size w w' := by
  obtain ⟨hn, hc1, hc2⟩ := recs_cap hr
  obtain ⟨hm, hc3, hc4⟩ := recs_cap hr2
  have HR := Lib.hid hr; have HR2 := Lib.hid hr2
  have HN := Lib.hid hn; have HM := Lib.hid hm
  have hn9 : n ≤ 9223372036854775807 := by omega
  have hm9 : n2 ≤ 9223372036854775807 := by omega
  clear hr hr2 hn hm
  by_cases hl : n = n2
  · subst hl
    have i0 : (n == n) = true := by simp
    go_enter Try.func17, Try.ntmps17
    go_wp2
    go_loopw [5] (fun j wr => ∃ k : Nat, j = .int .i64 (k : Int) ∧ k ≤ n ∧ Hid (a.take k = b.take k) ∧ Hid (Below w.heap.size w wr)) (fun j _ => n - (intOf j).toNat)
    case atStart => exact ⟨0, rfl, Nat.zero_le _, Lib.hid rfl, Lib.hid (Below.refl _ _)⟩
    case round =>
      obtain ⟨k, rfl, hk, HF, HB⟩ := hrel
      have k0 : (0 : Int) ≤ (k : Int) := by omega
      by_cases hlt : k < n
      · have k1 : (k : Int) < (n : Int) := by omega
        have hka : k < a.length := by have := HN.out; omega
        have hkb : k < b.length := by have := HM.out; omega
        obtain ⟨g, o, rfl, hg, hcell⟩ := recs_at (HR.out.below HB.out) k hka
        obtain ⟨g2, o2, rfl, hg2, hcell2⟩ := recs_at (HR2.out.below HB.out) k hkb
        have a0 : wr.cell? ⟨g, o + k * 6, none⟩ = some (.int .i64 a[k].item) := hcell k _ (List.getElem?_eq_getElem hka) 0 _ rfl
        have a1 : wr.cell? ⟨g, o + k * 6 + 1, none⟩ = some (.int .i64 a[k].acts) := hcell k _ (List.getElem?_eq_getElem hka) 1 _ rfl
        have a2 : wr.cell? ⟨g, o + k * 6 + 2, none⟩ = some (.int .i64 a[k].regions) := hcell k _ (List.getElem?_eq_getElem hka) 2 _ rfl
        have a3 : wr.cell? ⟨g, o + k * 6 + 3, none⟩ = some (.int .i64 a[k].plays) := hcell k _ (List.getElem?_eq_getElem hka) 3 _ rfl
        have a4 : wr.cell? ⟨g, o + k * 6 + 4, none⟩ = some (.int .i64 a[k].fr) := hcell k _ (List.getElem?_eq_getElem hka) 4 _ rfl
        have a5 : wr.cell? ⟨g, o + k * 6 + 5, none⟩ = some (.int .i64 a[k].tw) := hcell k _ (List.getElem?_eq_getElem hka) 5 _ rfl
        have b0 : wr.cell? ⟨g2, o2 + k * 6, none⟩ = some (.int .i64 b[k].item) := hcell2 k _ (List.getElem?_eq_getElem hkb) 0 _ rfl
        have b1 : wr.cell? ⟨g2, o2 + k * 6 + 1, none⟩ = some (.int .i64 b[k].acts) := hcell2 k _ (List.getElem?_eq_getElem hkb) 1 _ rfl
        have b2 : wr.cell? ⟨g2, o2 + k * 6 + 2, none⟩ = some (.int .i64 b[k].regions) := hcell2 k _ (List.getElem?_eq_getElem hkb) 2 _ rfl
        have b3 : wr.cell? ⟨g2, o2 + k * 6 + 3, none⟩ = some (.int .i64 b[k].plays) := hcell2 k _ (List.getElem?_eq_getElem hkb) 3 _ rfl
        have b4 : wr.cell? ⟨g2, o2 + k * 6 + 4, none⟩ = some (.int .i64 b[k].fr) := hcell2 k _ (List.getElem?_eq_getElem hkb) 4 _ rfl
        have b5 : wr.cell? ⟨g2, o2 + k * 6 + 5, none⟩ = some (.int .i64 b[k].tw) := hcell2 k _ (List.getElem?_eq_getElem hkb) 5 _ rfl
        have HTE := Lib.hid (take_eq_snoc (List.getElem?_eq_getElem hka) (List.getElem?_eq_getElem hkb) HF.out)
        obtain ⟨x, hx⟩ : ∃ x, a[k] = x := ⟨_, rfl⟩
        obtain ⟨y, hy⟩ : ∃ y, b[k] = y := ⟨_, rfl⟩
        rw [hx] at a0 a1 a2 a3 a4 a5 HTE
        rw [hy] at b0 b1 b2 b3 b4 b5 HTE
        obtain ⟨x1, x2, x3, x4, x5, x6⟩ := x
        obtain ⟨y1, y2, y3, y4, y5, y6⟩ := y
        dsimp only at a0 a1 a2 a3 a4 a5 b0 b1 b2 b3 b4 b5
        have lw := HB.out.size
        have g1 : g < wr.heap.size := by omega
        have g3 : g2 < wr.heap.size := by omega
        clear hcell hcell2 hx hy hka hkb
        have HNE := neq_grant x1 x2 x3 x4 x5 x6 y1 y2 y3 y4 y5 y6
        by_cases hxy : (⟨x1, x2, x3, x4, x5, x6⟩ : Gr) = ⟨y1, y2, y3, y4, y5, y6⟩
        · rw [decide_eq_true hxy] at HNE
          have HE := Lib.hid (HTE.out.2 hxy)
          clear hxy
          go_wp2
          go_region
          all_goals (
            go_wp2
            go_roundw
            case rel => exact ⟨k + 1, by go_num, by omega, HE, Lib.hid (belowN HB.out _)⟩
            case measure => simp [intOf]; omega)
        · rw [decide_eq_false hxy] at HNE
          have HE := Lib.hid (fun e : a = b => hxy (HTE.out.1 (by rw [e])))
          clear hxy
          go_wp2
          go_region
          all_goals (
            go_wp2
            go_ret
            exact ⟨by rw [decide_eq_false HE.out]; rfl, belowN HB.out _⟩)
      · have k1 : ¬ (k : Int) < (n : Int) := by omega
        have HE := Lib.hid (show a = b by
          have := HF.out
          rwa [List.take_of_length_le (by have := HN.out; omega), List.take_of_length_le (by have := HM.out; omega)] at this)
        go_wp2
        go_ret
        exact ⟨by rw [decide_eq_true HE.out]; rfl, HB.out⟩
  · have i0 : ((n : Int) == (n2 : Int)) = false := by simp; omega
    have HE := Lib.hid (fun e : a = b => hl (by rw [HN.out, HM.out, e]))
    have i1 : ¬ (n : Int) = (n2 : Int) := by omega
    go_enter Try.func17, Try.ntmps17
    go_wp2
    go_ret
    exact ⟨by rw [decide_eq_false HE.out]; rfl, Below.refl _ _⟩
set_option maxRecDepth 100000 in
set_option maxHeartbeats 4000000 in
theorem has_any (l : List Int) (x : Int) (A : Option Addr) (n c : Nat) (w : World) (hr : Recs enc1 1 w w.heap.size (.slice A n c) l) :
    Calls Try.prog 30 #[.slice A n c, .int .i64 x] w fun e w' => e = .returned (.bool (l.contains x)) ∧ Below w.heap.size w w' := by
  obtain ⟨hn, hc1, hc2⟩ := recs_cap hr
  have HR := Lib.hid hr
  have HN := Lib.hid hn
  have hn9 : n ≤ 9223372036854775807 := by omega
  obtain ⟨r, hr9⟩ : ∃ r, l.contains x = r := ⟨_, rfl⟩
  have HH := Lib.hid hr9
  rw [hr9]
  clear hr hn hr9
  go_enter Try.func30, Try.ntmps30
  go_wp2
  go_loopw [5] (fun j wr => ∃ k : Nat, j = .int .i64 (k : Int) ∧ k ≤ n ∧ Hid ((l.take k).contains x = false) ∧ Hid (Below w.heap.size w wr)) (fun j _ => n - (intOf j).toNat)
  case atStart => exact ⟨0, rfl, Nat.zero_le _, Lib.hid rfl, Lib.hid (Below.refl _ _)⟩
  case round =>
    obtain ⟨k, rfl, hk, HF, HB⟩ := hrel
    have k0 : (0 : Int) ≤ (k : Int) := by omega
    by_cases hlt : k < n
    · have k1 : (k : Int) < (n : Int) := by omega
      have hka : k < l.length := by have := HN.out; omega
      obtain ⟨g, o, rfl, hg, hcell⟩ := recs_at (HR.out.below HB.out) k hka
      have a0 := cells1 hcell k hka
      have HTK := Lib.hid (show l.take (k + 1) = l.take k ++ [l[k]] by rw [List.take_add_one, List.getElem?_eq_getElem hka]; rfl)
      have HDR := Lib.hid (show l = l.take k ++ l[k] :: l.drop (k + 1) by rw [List.getElem_cons_drop, List.take_append_drop])
      obtain ⟨y, hy⟩ : ∃ y, l[k] = y := ⟨_, rfl⟩
      rw [hy] at a0 HTK HDR
      have lw := HB.out.size
      have g1 : g < wr.heap.size := by omega
      clear hcell hy hka
      by_cases hxy : y = x
      · have e1 : (y == x) = true := by simp [hxy]
        have HE := Lib.hid (show r = true by rw [← HH.out, HDR.out]; simp [hxy])
        clear hxy
        go_wp2
        go_ret
        exact ⟨by rw [HE.out]; rfl, HB.out⟩
      · have e1 : (y == x) = false := by simp [hxy]
        have HE := Lib.hid (show (l.take (k + 1)).contains x = false by
          rw [HTK.out]
          have h := HF.out
          simp only [List.contains_eq_mem, decide_eq_false_iff_not, List.mem_append, List.mem_singleton] at h ⊢
          exact fun e => e.elim h fun e => hxy e.symm)
        clear hxy
        go_wp2
        go_roundw
        case rel => exact ⟨k + 1, by go_num, by omega, HE, HB⟩
        case measure => simp [intOf]; omega
    · have k1 : ¬ (k : Int) < (n : Int) := by omega
      have HE := Lib.hid (show r = false by
        rw [← HH.out]
        have := HF.out
        rwa [List.take_of_length_le (by have := HN.out; omega)] at this)
      go_wp2
      go_ret
      exact ⟨by rw [HE.out]; rfl, HB.out⟩
end Go.Proofs.Ytenojfniknjeiaa
