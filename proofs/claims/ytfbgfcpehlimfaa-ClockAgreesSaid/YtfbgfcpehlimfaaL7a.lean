/- Contracts of in and agrees. -/
import Derived.Test.YtfbgfcpehlimfaaCl
import Derived.Test.YtfbgfcpehlimfaaCx
namespace Go.Proofs.Ytfbgfcpehlimfaa
open Go.RowKit
attribute [local go_sem ↓] append_appN

set_option maxRecDepth 100000 in
set_option maxHeartbeats 2000000 in
theorem in_any (l : List (Int × Int)) (s : Int) (v : Value) (w : World) (hv : Recs enc2 2 w w.heap.size v l) (hl : l.length ≤ 1000) :
    Calls Try.prog 40 #[v, .int .i64 s] w fun e w' => e = .returned (.int .i64 (Cb.cnt l s)) ∧ w = w' := by
  obtain ⟨A, c, rfl, hc1, hc2⟩ := recs_form hv
  have HV := Lib.hid (fun k hk => recs_at hv k hk)
  obtain ⟨N, hN⟩ : ∃ N, l.length = N := ⟨_, rfl⟩
  have HN := Lib.hid hN
  rw [hN] at hc1 hl ⊢
  clear hv hN
  go_enter Try.func40, Try.ntmps40
  go_wp2
  go_loop [5, 6] (fun n i => ∃ k : Nat, k ≤ N ∧ i = .int .i64 (k : Int) ∧ n = .int .i64 (Cb.cnt (l.take k) s)) (fun _ i => N - (intOf i).toNat)
  case atStart => exact ⟨0, by omega, rfl, rfl⟩
  case round =>
    obtain ⟨k, hk, rfl, rfl⟩ := hrel
    have hb1 := Cb.cnt_len (l.take k) s
    have hb2 := Cb.cnt_nonneg (l.take k) s
    rw [List.length_take] at hb1
    by_cases hlt : k < N
    · have hkl : k < l.length := by have := HN.out; omega
      obtain ⟨g, off, rfl, hg, hcell⟩ := HV.out k hkl
      obtain ⟨c0, c1⟩ := cells2 hcell k hkl
      have htk : l.take (k + 1) = l.take k ++ [l[k]] := List.take_succ_eq_append_getElem hkl
      have hsn := Cb.cnt_snoc (l.take k) l[k] s
      rw [← htk] at hsn
      obtain ⟨x, hx⟩ : ∃ x, l[k] = x := ⟨_, rfl⟩
      rw [hx] at c0 c1 hsn
      obtain ⟨p, q⟩ := x
      dsimp only at c0 c1 hsn
      obtain ⟨m, hm⟩ : ∃ m, Cb.cnt (l.take k) s = m := ⟨_, rfl⟩
      rw [hm] at hsn hb1 hb2 ⊢
      have i1 : (0 : Int) ≤ (k : Int) := by omega
      have i2 : (k : Int) < (N : Int) := by omega
      have hm2 : m ≤ 1000 := by omega
      have HSN := Lib.hid hsn
      clear hcell htk hsn hx hm hb1
      by_cases h1 : p ≤ s
      · by_cases h2 : s < q
        · have HX := Lib.hid (show Cb.cnt (l.take (k + 1)) s = m + 1 by rw [HSN.out, if_pos ⟨h1, h2⟩])
          go_wp2
          go_round
          case rel => exact ⟨k + 1, by omega, by go_num, by rw [HX.out]⟩
          case measure => simp [intOf]; omega
        · have HX := Lib.hid (show Cb.cnt (l.take (k + 1)) s = m by rw [HSN.out, if_neg (fun h => h2 h.2)]; omega)
          go_wp2
          go_round
          case rel => exact ⟨k + 1, by omega, by go_num, by rw [HX.out]⟩
          case measure => simp [intOf]; omega
      · have HX := Lib.hid (show Cb.cnt (l.take (k + 1)) s = m by rw [HSN.out, if_neg (fun h => h1 h.1)]; omega)
        go_wp2
        go_round
        case rel => exact ⟨k + 1, by omega, by go_num, by rw [HX.out]⟩
        case measure => simp [intOf]; omega
    · have hta : l.take k = l := List.take_of_length_le (by have := HN.out; omega)
      rw [hta] at hb1 hb2 ⊢
      obtain ⟨m, hm⟩ : ∃ m, Cb.cnt l s = m := ⟨_, rfl⟩
      rw [hm] at hb1 hb2 ⊢
      have HM := Lib.hid hm
      clear hm hta
      go_wp2
      go_ret
      exact ⟨by rw [HM.out]; rfl, rfl⟩

/-- The seconds at which agrees looks. -/
def allOf (s : Int) (l : List (Int × Int)) : List Int := s :: l.flatMap fun x => [x.1, x.2]
theorem allOf_snoc (s : Int) (l : List (Int × Int)) (x : Int × Int) : allOf s (l ++ [x]) = allOf s l ++ [x.1, x.2] := by simp [allOf]
theorem allOf_len (s : Int) (l : List (Int × Int)) : (allOf s l).length = 1 + 2 * l.length := by
  simp only [allOf, List.length_cons]
  induction l with
  | nil => rfl
  | cons x l ih => simp only [List.flatMap_cons, List.length_append, List.length_cons, List.length_nil] at ih ⊢; omega
def intCells (l : List Int) : List Value := l.map fun x => Value.int .i64 x
theorem infoInt : (Try.prog.info? 3).map (fun i => (i.zero, i.size, i.bytes)) = some (some (.int .i64 0), 1, 8) := by kernel_rfl
/-- Two integers more behind a row of the call's own. -/
theorem snoc_ints {w : World} {B n : Nat} {v : Value} {l : List Int} {x y : Int} (hrow : w.ownsRow B 3 1 v n (intCells l)) (hn : n ≤ 100000) (hB : B ≤ w.heap.size) :
    ∃ v' w', Sem.run Try.prog (appN #[25, 25] 25 #[v, .slice (some ⟨w.heap.size, 0, none⟩) 2 2]) (w.alloc (.cells #[.int .i64 x, .int .i64 y] 3)) = .ok v' w' ∧
      w'.ownsRow B 3 1 v' (n + 2) (intCells (l ++ [x, y])) ∧ (w.alloc (.cells #[.int .i64 x, .int .i64 y] 3)).grownBy w' v.ownBlock := by
  obtain ⟨i0, hi0, hz0, hz1, hz2⟩ := info_parts infoInt
  have hnews : ∀ j u, ([.int .i64 x, .int .i64 y] : List Value)[j]? = some u → (w.alloc (.cells #[.int .i64 x, .int .i64 y] 3)).cell? (Addr.add ⟨w.heap.size, 0, none⟩ j) = some u := fun j u hj => by
    have hc := (Row.new w 3 #[.int .i64 x, .int .i64 y]).cell j
    have ha : Addr.add ⟨w.heap.size, 0, none⟩ j = ⟨w.heap.size, j, none⟩ := by rw [Addr.add_lit, Nat.zero_add]
    rw [ha, hc]; simpa using hj
  obtain ⟨v', w', hrun, hown, hgr, _⟩ := run_append_own (P := Try.prog) (w.alloc (.cells #[.int .i64 x, .int .i64 y] 3)) B 25 25 3 i0 (.int .i64 0) 1 8 Try.underlying25 hi0 hz0 hz1 hz2 rfl (by decide)
    v n _ (hrow.alloc _) ⟨w.heap.size, 0, none⟩ 2 2 [.int .i64 x, .int .i64 y] rfl hnews (by simp [Value.oneCell']) (by unfold maxLen; omega) (by omega) (by simp; omega)
  exact ⟨v', w', hrun, by simpa [intCells] using hown, hgr⟩
theorem cell_ints {w : World} {B n : Nat} {e : TypeId} {g cap : Nat} {l : List Int} (h : w.ownsRow B e 1 (.slice (some ⟨g, 0, none⟩) n cap) n (intCells l)) (k : Nat) (hk : k < n) : ∃ a, l[k]? = some a ∧ w.cell? ⟨g, k, none⟩ = some (.int .i64 a) := by
  have hl : l.length = n := by have := h.1; simpa [intCells] using this
  have := h.cellAt k (by omega)
  have hkl : k < l.length := by omega
  exact ⟨l[k], List.getElem?_eq_getElem hkl, by rw [this]; simp [intCells, List.getElem?_map, List.getElem?_eq_getElem hkl]⟩

theorem cnt_pos {l : List (Int × Int)} {p q : Int} (h : (p, q) ∈ l) (hpq : p < q) : 0 < Cb.cnt l p := by
  induction l with
  | nil => cases h
  | cons x l ih =>
    simp only [Cb.cnt]
    rcases List.mem_cons.1 h with rfl | h
    · have := Cb.cnt_nonneg l p
      rw [if_pos ⟨Int.le_refl _, hpq⟩]; omega
    · have := ih h
      split <;> omega
set_option maxRecDepth 100000 in
set_option maxHeartbeats 8000000 in
theorem agrees_any (l : List (Int × Int)) (s : Int) (v : Value) (w : World) (hv : Recs enc2 2 w w.heap.size v l) (hl : l.length ≤ 1000) :
    Calls Try.prog 28 #[v, .int .i64 s] w fun e w' => e = .returned (.bool true) ∧ Below w.heap.size w w' := by
  have hag := agree_any l v w hv hl
  have hin := fun (s : Int) (u : World) (hu : Below w.heap.size w u) => in_any l s v u (hv.next hu) hl
  obtain ⟨A, c, rfl, hc1, hc2⟩ := recs_form hv
  have HV := Lib.hid (fun k hk => recs_at hv k hk)
  obtain ⟨N, hN⟩ : ∃ N, l.length = N := ⟨_, rfl⟩
  have HN := Lib.hid hN
  have HAG := Lib.hid hag
  have HIN := Lib.hid hin
  rw [hN] at hc1 hl HAG HIN ⊢
  clear hv hN hag hin
  go_enter Try.func28, Try.ntmps28
  go_wp2_with (go_at_call 12; refine HAG.out.mono ?_; unfold AgrPost; rintro e w2 ⟨f, t, m, rfl, hagr, hm0, hml, hb2⟩; have HA := Lib.hid hagr; have HB2 := Lib.hid hb2; have hsz := hb2.size; rw [HN.out] at hml; clear hagr hb2)
  have hown0 := World.ownsRow_lit (base := w2.heap.size + 1) (e := 3) (size := 1) (w2.alloc (.cells #[.int .i64 f, .int .i64 t] 32)) #[.int .i64 s] 1 (by simp) (by unfold maxLen; omega) rfl
  rw [World.size_alloc] at hown0
  have HO0 := Lib.hid hown0
  clear hown0
  go_loopw [7, 8] (fun u i wr => ∃ k : Nat, k ≤ N ∧ i = .int .i64 (k : Int) ∧ wr.ownsRow (w2.heap.size + 1) 3 1 u (1 + 2 * k) (intCells (allOf s (l.take k))) ∧ Below (w2.heap.size + 1) (w2.alloc (.cells #[.int .i64 f, .int .i64 t] 32)) wr) (fun _ i _ => N - (intOf i).toNat)
  case atStart => exact ⟨0, by omega, rfl, HO0.out, (Below.refl _ _).alloc (by simp) _⟩
  case round =>
    obtain ⟨k, hk, rfl, hrow, hbw⟩ := hrel
    have hs3 := hbw.size
    rw [World.size_alloc] at hs3
    have hbb : Below w.heap.size w wr := below_to HB2.out (((Below.refl _ w2).alloc (Nat.le_refl _) _).trans (hbw.mono (by omega)))
    have HBB := Lib.hid hbb
    by_cases hlt : k < N
    · have hkl : k < l.length := by have := HN.out; omega
      obtain ⟨g, off, rfl, hg, hcell⟩ := HV.out k hkl
      obtain ⟨c0, c1⟩ := cells2 hcell k hkl
      rw [← hbb.cell (p := ⟨g, off + k * 2, none⟩) hg] at c0
      rw [← hbb.cell (p := ⟨g, off + k * 2 + 1, none⟩) hg] at c1
      have htk : l.take (k + 1) = l.take k ++ [l[k]] := List.take_succ_eq_append_getElem hkl
      have hal := allOf_snoc s (l.take k) l[k]
      rw [← htk] at hal
      obtain ⟨x, hx⟩ : ∃ x, l[k] = x := ⟨_, rfl⟩
      rw [hx] at c0 c1 hal
      obtain ⟨p, q⟩ := x
      dsimp only at c0 c1 hal
      obtain ⟨v', w', hrun, hown, hgr⟩ := snoc_ints (w := wr.drew) (x := p) (y := q) hrow.drew (by omega) (by show _ ≤ wr.heap.size; omega)
      have hrun2 : Sem.run Try.prog (appN #[25, 25] 25 #[_, .slice (some ⟨wr.heap.size, 0, none⟩) 2 2]) (wr.alloc (.cells #[.int .i64 p, .int .i64 q] 3)).drew = .ok v' w' := hrun
      have hbl := own_below_grown hrow.drew (by show _ ≤ wr.heap.size; omega) hgr
      have HX : Hid (w'.ownsRow (w2.heap.size + 1) 3 1 v' (1 + 2 * (k + 1)) (intCells (allOf s (l.take (k + 1)))) ∧ Below (w2.heap.size + 1) (w2.alloc (.cells #[.int .i64 f, .int .i64 t] 32)) w') := Lib.hid ⟨by rw [hal]; exact hown, hbw.trans (Below.trans (Below.refl _ _).drew hbl)⟩
      obtain ⟨A', c', hv', -, -, -⟩ := own_slice hrow
      subst hv'
      have i1 : (0 : Int) ≤ (k : Int) := by omega
      have i2 : (k : Int) < (N : Int) := by omega
      clear hcell htk hal hx hrun hown hgr hbl hbw hbb hrow
      go_wp2
      go_region
      all_goals go_wp2
      all_goals go_roundw
      case rel => exact ⟨k + 1, by omega, by go_num, HX.out.1, HX.out.2⟩
      case measure => simp [intOf]; omega
    · have hkN : k = N := by omega
      have hta : l.take k = l := List.take_of_length_le (by have := HN.out; omega)
      have hlen := allOf_len s l
      rw [hta, hkN] at hrow
      rw [hkN]
      have hbx := (Row.new w2 32 #[.int .i64 f, .int .i64 t]).below hbw (by omega)
      have b0 := hbx.cell 0
      have b1 := hbx.cell 1
      simp only [List.getElem?_toArray, List.getElem?_cons_zero, List.getElem?_cons_succ] at b0 b1
      have hN0 := HN.out
      obtain ⟨A', c', rfl, hc3, hc4, hA'⟩ := own_slice hrow
      obtain ⟨g', rfl, hg1, hg2⟩ : ∃ g', A' = some ⟨g', 0, none⟩ ∧ w2.heap.size + 1 ≤ g' ∧ g' < wr.heap.size := by
        rcases hA' with ⟨_, h⟩ | h
        · omega
        · exact h
      have HE := Lib.hid (fun k hk => cell_ints hrow k hk)
      have HBX := Lib.hid hbx
      have hc5 : c' ≤ 9223372036854775807 := by unfold maxLen at hc4; omega
      clear hrow hbw hbx hta hlen hc4 hA' hkN hlt hk
      rcases HA.out with ⟨h1, h2, h3, h4⟩ | ⟨h1, h2, h3, h4, h5, h6⟩
      · subst h1; subst h2; subst h3
        have H4 := Lib.hid h4
        clear h4
        go_wp2
        go_loopw [9] (fun i wq => ∃ j : Nat, j ≤ N ∧ i = .int .i64 (j : Int) ∧ Below wr.heap.size wr wq) (fun i _ => N - (intOf i).toNat)
        case atStart => exact ⟨0, by omega, rfl, Below.refl _ _⟩
        case round =>
          obtain ⟨j, hj, rfl, hbq⟩ := hrel
          by_cases hlt : j < N
          · have hkl : j < l.length := by have := HN.out; omega
            obtain ⟨g, off, rfl, hg, hcell⟩ := HV.out j hkl
            obtain ⟨c0, c1⟩ := cells2 hcell j hkl
            have hbq2 := below_to HBB.out hbq
            rw [← hbq2.cell (p := ⟨g, off + j * 2, none⟩) hg] at c0
            rw [← hbq2.cell (p := ⟨g, off + j * 2 + 1, none⟩) hg] at c1
            have hmem : l[j] ∈ l := List.getElem_mem hkl
            obtain ⟨x, hx⟩ : ∃ x, l[j] = x := ⟨_, rfl⟩
            rw [hx] at c0 c1 hmem
            obtain ⟨p, q⟩ := x
            dsimp only at c0 c1
            have hpq : ¬ p < q := fun h => by have := cnt_pos hmem h; have := H4.out p; omega
            have HBQ := Lib.hid hbq
            have i1 : (0 : Int) ≤ (j : Int) := by omega
            have i2 : (j : Int) < (N : Int) := by omega
            clear hcell hx hmem hbq hbq2
            go_wp2
            go_quiet (fail)
            go_wp2
            go_roundw
            case rel => exact ⟨j + 1, by omega, by go_num, belowN HBQ.out _⟩
            case measure => simp [intOf]; omega
          · have hq := HBX.out.below hbq (by omega)
            have q0 := hq.cell 0
            have q1 := hq.cell 1
            simp only [List.getElem?_toArray, List.getElem?_cons_zero, List.getElem?_cons_succ] at q0 q1
            have HBQ := Lib.hid hbq
            clear hq hbq
            go_wp2
            go_ret
            exact ⟨rfl, below_to HBB.out HBQ.out⟩
      · have hin1 := fun u hu => HIN.out f u hu
        have hin2 := fun u hu => HIN.out t u hu
        rw [h4 f (Int.le_refl _) h2] at hin1
        obtain ⟨ct, hct⟩ : ∃ ct, Cb.cnt l t = ct := ⟨_, rfl⟩
        rw [hct] at hin2 h6
        have HI1 := Lib.hid hin1; have HI2 := Lib.hid hin2
        have H3 := Lib.hid h3; have H4 := Lib.hid h4; have H5 := Lib.hid h5
        have k1 : (m == 0) = false := by rw [beq_eq_false_iff_ne]; omega
        have k2 : ¬ m < 0 := by omega
        have k3 : ¬ t ≤ f := by omega
        have k4 : (m == m) = true := by simp
        have k5 : ¬ m ≤ ct := by omega
        clear hin1 hin2 h3 h4 h5 hct
        go_wp2_with (go_at_call 40; first | (with_reducible refine Calls.mono (HI1.out _ HBB.out) ?_; rintro e w' ⟨rfl, rfl⟩) | (with_reducible refine Calls.mono (HI2.out _ HBB.out) ?_; rintro e w' ⟨rfl, rfl⟩))
        go_loopw [10, 11, 12] (fun i _ _ wq => ∃ j : Nat, j ≤ 1 + 2 * N ∧ i = .int .i64 (j : Int) ∧ Below wr.heap.size wr wq) (fun i _ _ _ => (1 + 2 * N) - (intOf i).toNat)
        case atStart => exact ⟨0, by omega, rfl, Below.refl _ _⟩
        case round =>
          obtain ⟨j, hj, rfl, hbq⟩ := hrel
          have HBQ := Lib.hid hbq
          have hq := HBX.out.below hbq (by omega)
          have q0 := hq.cell 0
          have q1 := hq.cell 1
          simp only [List.getElem?_toArray, List.getElem?_cons_zero, List.getElem?_cons_succ] at q0 q1
          by_cases hlt : j < 1 + 2 * N
          · obtain ⟨a, -, ha⟩ := HE.out j hlt
            rw [← hbq.cell (p := ⟨g', j, none⟩) hg2] at ha
            have hia := fun u hu => HIN.out a u hu
            have y1 := H3.out a
            have y2 := H4.out a
            have y3 := H5.out a
            obtain ⟨y, hy⟩ : ∃ y, Cb.cnt l a = y := ⟨_, rfl⟩
            rw [hy] at hia y1 y2 y3
            have HIA := Lib.hid hia
            have i1 : (0 : Int) ≤ (j : Int) := by omega
            have i2 : (j : Int) < ((1 + 2 * N : Nat) : Int) := by omega
            have n1 : ¬ m < y := by omega
            clear hq hbq hia hy b0 b1
            by_cases c1 : f ≤ a
            · have c3 : ¬ a < f := by omega
              have d3 : decide (a < f) = false := decide_eq_false c3
              by_cases c2 : a < t
              · have e1 : y = m := y2 c1 c2
                subst e1
                clear y1 y2 y3
                go_wp2_with (go_at_call 40; with_reducible refine Calls.mono (HIA.out _ (below_to HBB.out HBQ.out)) ?_; rintro e w' ⟨rfl, rfl⟩)
                go_quiet (fail)
                go_wp2
                go_quiet (fail)
                go_wp2
                go_roundw
                case rel => exact ⟨j + 1, by omega, by go_num, belowN HBQ.out _⟩
                case measure => simp [intOf]; omega
              · have d2 : decide (a < t) = false := decide_eq_false c2
                clear y1 y2 y3
                go_wp2_with (go_at_call 40; with_reducible refine Calls.mono (HIA.out _ (below_to HBB.out HBQ.out)) ?_; rintro e w' ⟨rfl, rfl⟩)
                go_quiet (fail)
                go_wp2
                go_quiet (fail)
                go_wp2
                go_roundw
                case rel => exact ⟨j + 1, by omega, by go_num, belowN HBQ.out _⟩
                case measure => simp [intOf]; omega
            · have c3 : a < f := by omega
              have d3 : decide (a < f) = true := decide_eq_true c3
              have d1 : decide (f ≤ a) = false := decide_eq_false c1
              have e2 : (y == m) = false := by rw [beq_eq_false_iff_ne]; have := y3 c3; omega
              clear y1 y2 y3
              go_wp2_with (go_at_call 40; with_reducible refine Calls.mono (HIA.out _ (below_to HBB.out HBQ.out)) ?_; rintro e w' ⟨rfl, rfl⟩)
              go_quiet (fail)
              go_wp2
              go_quiet (fail)
              go_wp2
              go_roundw
              case rel => exact ⟨j + 1, by omega, by go_num, belowN HBQ.out _⟩
              case measure => simp [intOf]; omega
          · clear hq hbq
            have i2 : ¬ (j : Int) < ((1 + 2 * N : Nat) : Int) := by omega
            go_wp2
            go_ret
            exact ⟨rfl, below_to HBB.out HBQ.out⟩
end Go.Proofs.Ytfbgfcpehlimfaa
