/- The law ClockInverse answers true. -/
import Derived.Test.YtfbgfcpehlimfaaL8
import Derived.Deep.RegionHeld3
namespace Go.Proofs.Ytfbgfcpehlimfaa
open Go.RowKit

theorem reads_bnd {d : Int} {rs : List Ca.R3} {t a b e : Int} (h : ReadsM d rs t a b e) : 0 ≤ a ∧ a ≤ 10000000 ∧ 0 ≤ b ∧ b ≤ 10000000 := by
  rcases h with ⟨h0, h1, h2, h3⟩ | ⟨h0, i, j, hi, hj, h⟩
  · omega
  · have := edge_le hi; have := edge_le hj; omega
theorem hold3 {u u2 : World} {a b c : Addr} {x y z : Value} (h : u.cell? a = some x ∧ u.cell? b = some y ∧ u.cell? c = some z) (hb : Below u.heap.size u u2) : u2.cell? a = some x ∧ u2.cell? b = some y ∧ u2.cell? c = some z :=
  ⟨(hb.cell (World.block_lt_of_cell? u a h.1)).trans h.1, (hb.cell (World.block_lt_of_cell? u b h.2.1)).trans h.2.1, (hb.cell (World.block_lt_of_cell? u c h.2.2)).trans h.2.2⟩
set_option maxRecDepth 100000 in
set_option maxHeartbeats 8000000 in
theorem clockInverse_any (drift start : Int) (vr : Value) (lr : List Int) (va : Value) (la : List Ca.R3) (locl t0 : Int) (w : World) (h1 : I64 drift) (h2 : I64 start) (hr : Recs enc1 1 w w.heap.size vr lr) (hqr : ∀ x ∈ lr, I64 x) (ha : Recs enc3 3 w w.heap.size va la) (hqa : ∀ x ∈ la, I64 x.1 ∧ I64 x.2.1 ∧ I64 x.2.2) (h3 : I64 locl) (h4 : I64 t0) :
    Calls Try.prog 6 #[.int .i64 drift, .int .i64 start, vr, va, .int .i64 locl, .int .i64 t0] w fun e w' => e = .returned (.bool true) ∧ Below w.heap.size w w' := by
  have HMD := Lib.hid (fun u hu => made_c hr hqr ha hqa h1 h2 u hu)
  have HL := Lib.hid (fun u => pick_any locl 5000 (by omega) (by omega) h3.1 h3.2 u)
  have HT := Lib.hid (fun u => pick_any t0 5000 (by omega) (by omega) h4.1 h4.2 u)
  have HQ := Lib.hid (fun u => pick_any locl 21 (by omega) (by omega) h3.1 h3.2 u)
  obtain ⟨l1, l2⟩ := pickI_lt locl 5000 (by omega)
  obtain ⟨t1, t2⟩ := pickI_lt t0 5000 (by omega)
  obtain ⟨q1, q2⟩ := pickI_lt locl 21 (by omega)
  obtain ⟨l, hl⟩ : ∃ l, pickI locl 5000 = l := ⟨_, rfl⟩
  obtain ⟨t, ht⟩ : ∃ t, pickI t0 5000 = t := ⟨_, rfl⟩
  obtain ⟨q, hq⟩ : ∃ q, pickI locl 21 = q := ⟨_, rfl⟩
  rw [hl] at HL l1 l2
  rw [ht] at HT t1 t2
  rw [hq] at HQ q1 q2
  have HSH := Lib.hid (fun (u : World) (hu : Below w.heap.size w u) => shown_any drift start t lr vr u (hr.next hu) hqr h1 h2 t1 (by omega))
  clear hr hqr ha hqa h1 h2 h3 h4 hl ht hq
  go_enter Try.func6, Try.ntmps6
  go_wp2_with (first | (go_at_call 9; with_reducible refine Calls.mono (sane_any _) ?_; rintro e w1 ⟨rfl, hb1⟩; have HB1 := Lib.hid hb1; clear hb1) | (go_at_call 15; with_reducible refine Calls.mono (HMD.out _ HB1.out) ?_; unfold MadePost; rintro e w2 ⟨d, rs, v, rfl, hclk, d1, d2, hg, hlen, hb2⟩; have HB2 := Lib.hid (below_to HB1.out hb2); have HCK := Lib.hid hclk; have hrd := (fun u (hu : Below w2.heap.size w2 u) => reads_any d t rs _ u (hclk.next hu)); have hat := (fun z u (hu : Below w2.heap.size w2 u) => at_c hclk z u hu); obtain ⟨A, c, rfl, -⟩ := hclk.form; obtain ⟨N, hN⟩ : ∃ N, rs.length = N := ⟨_, rfl⟩; rw [hN] at hrd hat ⊢; have HRD := Lib.hid hrd; have HAT := Lib.hid hat; clear hb2 hg hclk hrd hat hN) | (go_at_call 18; (first | (with_reducible refine Calls.mono (HL.out _) ?_) | (with_reducible refine Calls.mono (HT.out _) ?_) | (with_reducible refine Calls.mono (HQ.out _) ?_)); rintro e w' ⟨rfl, rfl⟩) | (go_at_call 21; with_reducible refine Calls.mono (HRD.out _ ((Below.refl _ _).alloc (Nat.le_refl _) _)) ?_; rintro e w3 ⟨x, y, z, rfl, hm, hb3⟩; obtain ⟨x1, x2, y1, y2⟩ := reads_bnd hm; have HRM := Lib.hid hm; obtain ⟨-, -, hk3, hs3, hr3⟩ := kept2 hb3; have HB3 := Lib.hid hk3; have HR3 := Lib.hid hr3; clear hm hb3 hk3 hr3) | (go_at_call 27; with_reducible refine Calls.mono (HSH.out _ (below_to HB2.out HB3.out)) ?_; rintro e w' ⟨s, rfl, s1, s2, rfl⟩))
  have hbb : Below w.heap.size w w3 := below_to HB2.out HB3.out
  have HBB := Lib.hid hbb
  clear hbb HSH HMD HL HT HQ HRD
  go_loopw [20, 21, 22, 23, 24] (fun i _ _ _ _ wr => ∃ k : Nat, k ≤ 6 ∧ i = .int .i64 (k : Int) ∧ Below w3.heap.size w3 wr ∧ Row wr w3.heap.size 3 #[.int .i64 l, .int .i64 (x - 1), .int .i64 x, .int .i64 y, .int .i64 (y + 1), .int .i64 (s + q - 10)]) (fun i _ _ _ _ _ => 6 - (intOf i).toNat)
  case atStart => exact ⟨0, by omega, rfl, (Below.refl _ _).alloc (Nat.le_refl _) _, Row.new _ _ _⟩
  case round =>
    obtain ⟨k, hk, rfl, hbw, hrow⟩ := hrel
    have HBW := Lib.hid hbw
    by_cases hlt : k < 6
    · have hel : ∃ v, (#[.int .i64 l, .int .i64 (x - 1), .int .i64 x, .int .i64 y, .int .i64 (y + 1), .int .i64 (s + q - 10)] : Array Value)[k]? = some (.int .i64 v) ∧ -100 ≤ v ∧ v ≤ 20000001 := by
        have : k = 0 ∨ k = 1 ∨ k = 2 ∨ k = 3 ∨ k = 4 ∨ k = 5 := by omega
        rcases this with rfl | rfl | rfl | rfl | rfl | rfl <;> exact ⟨_, rfl, by omega, by omega⟩
      obtain ⟨v, hv, v1, v2⟩ := hel
      have c0 := hrow.cell k
      rw [hv] at c0
      have hbx := HR3.out.below hbw (by omega)
      have b0 := hbx.cell 0
      have b1 := hbx.cell 1
      simp only [List.getElem?_toArray, List.getElem?_cons_zero, List.getElem?_cons_succ] at b0 b1
      have i1 : (0 : Int) ≤ (k : Int) := by omega
      have i2 : (k : Int) < 6 := by omega
      have HROW := Lib.hid hrow
      clear hrow hv hbx hbw
      by_cases v3 : v < 0
      · go_wp2
        go_roundw
        case rel => exact ⟨k + 1, by omega, by go_num, HBW.out, HROW.out⟩
        case measure => simp [intOf]; omega
      by_cases v4 : 10000000 < v
      · go_wp2
        go_roundw
        case rel => exact ⟨k + 1, by omega, by go_num, HBW.out, HROW.out⟩
        case measure => simp [intOf]; omega
      have hinv := inverse_m d rs t x y z v HRM.out ((Ca.isT_iff t).2 ⟨t1, by omega⟩) (by omega) (by omega)
      have hA := fun u (hu : Below w2.heap.size w2 u) => HAT.out v u hu
      obtain ⟨r, hr⟩ : ∃ r, atM d rs v = r := ⟨_, rfl⟩
      rw [hr] at hinv hA
      obtain ⟨r1, r2, r3⟩ := r
      dsimp only at hinv hA
      have HA := Lib.hid hA
      have HW := Lib.hid (below_to HB3.out HBW.out)
      clear hA hr
      by_cases hP : r3 = 0 ∧ r1 ≤ t ∧ t ≤ r2
      · obtain ⟨g1, g2, g3⟩ := hinv.1 hP
        obtain ⟨f1, f2, f3⟩ := hP
        clear hinv
        subst f1; subst g1
        go_wp2
        go_region_held3 (fun u => u.cell? ⟨w2.heap.size, 0, none⟩ = some (.int .i64 d) ∧ u.cell? ⟨w2.heap.size, 1, none⟩ = some (.slice A N c) ∧ u.cell? ⟨w3.heap.size, k, none⟩ = some (.int .i64 v)) (first | assumption | (exact ⟨by assumption, by assumption, by assumption⟩) | (exact hold3 (by assumption) (by assumption))) (first | (go_at_call 19; ((with_reducible refine Calls.mono (HA.out _ (Below.drew HW.out)) ?_); rintro e w5 ⟨rfl, hb5⟩)))
        obtain ⟨p0, p1, p2⟩ := ‹_ ∧ _ ∧ _›
        have hb6 : Below wr.heap.size wr w5 := Below.trans (Below.refl _ _).drew hb5
        have HB6 := Lib.hid hb6
        clear hb5 hb6
        go_wp2
        go_roundw
        case rel => exact ⟨k + 1, by omega, by go_num, below_to HBW.out HB6.out, HROW.out.below HB6.out HROW.out.lt⟩
        case measure => simp [intOf]; omega
      · have hQ : ¬ (z = 0 ∧ x ≤ v ∧ v ≤ y) := fun h => hP (hinv.2 h)
        clear hinv
        by_cases f1 : r3 = 0
        · by_cases f2 : r1 ≤ t
          · have f3 : ¬ t ≤ r2 := fun h => hP ⟨f1, f2, h⟩
            have f5 : decide (t ≤ r2) = false := decide_eq_false f3
            clear hP
            subst f1
            by_cases g1 : z = 0
            · by_cases g2 : x ≤ v
              · have g3 : ¬ v ≤ y := fun h => hQ ⟨g1, g2, h⟩
                have g5 : decide (v ≤ y) = false := decide_eq_false g3
                clear hQ
                subst g1
                go_wp2
                go_region_held3 (fun u => u.cell? ⟨w2.heap.size, 0, none⟩ = some (.int .i64 d) ∧ u.cell? ⟨w2.heap.size, 1, none⟩ = some (.slice A N c) ∧ u.cell? ⟨w3.heap.size, k, none⟩ = some (.int .i64 v)) (first | assumption | (exact ⟨by assumption, by assumption, by assumption⟩) | (exact hold3 (by assumption) (by assumption))) (first | (go_at_call 19; ((with_reducible refine Calls.mono (HA.out _ (Below.drew HW.out)) ?_); rintro e w5 ⟨rfl, hb5⟩)))
                obtain ⟨p0, p1, p2⟩ := ‹_ ∧ _ ∧ _›
                have hb6 : Below wr.heap.size wr w5 := Below.trans (Below.refl _ _).drew hb5
                have HB6 := Lib.hid hb6
                clear hb5 hb6
                go_wp2
                go_roundw
                case rel => exact ⟨k + 1, by omega, by go_num, below_to HBW.out HB6.out, HROW.out.below HB6.out HROW.out.lt⟩
                case measure => simp [intOf]; omega
              · clear hQ
                subst g1
                go_wp2
                go_region_held3 (fun u => u.cell? ⟨w2.heap.size, 0, none⟩ = some (.int .i64 d) ∧ u.cell? ⟨w2.heap.size, 1, none⟩ = some (.slice A N c) ∧ u.cell? ⟨w3.heap.size, k, none⟩ = some (.int .i64 v)) (first | assumption | (exact ⟨by assumption, by assumption, by assumption⟩) | (exact hold3 (by assumption) (by assumption))) (first | (go_at_call 19; ((with_reducible refine Calls.mono (HA.out _ (Below.drew HW.out)) ?_); rintro e w5 ⟨rfl, hb5⟩)))
                obtain ⟨p0, p1, p2⟩ := ‹_ ∧ _ ∧ _›
                have hb6 : Below wr.heap.size wr w5 := Below.trans (Below.refl _ _).drew hb5
                have HB6 := Lib.hid hb6
                clear hb5 hb6
                go_wp2
                go_roundw
                case rel => exact ⟨k + 1, by omega, by go_num, below_to HBW.out HB6.out, HROW.out.below HB6.out HROW.out.lt⟩
                case measure => simp [intOf]; omega
            · have g4 : (z == 0) = false := by rw [beq_eq_false_iff_ne]; exact g1
              clear hQ g1
              go_wp2
              go_region_held3 (fun u => u.cell? ⟨w2.heap.size, 0, none⟩ = some (.int .i64 d) ∧ u.cell? ⟨w2.heap.size, 1, none⟩ = some (.slice A N c) ∧ u.cell? ⟨w3.heap.size, k, none⟩ = some (.int .i64 v)) (first | assumption | (exact ⟨by assumption, by assumption, by assumption⟩) | (exact hold3 (by assumption) (by assumption))) (first | (go_at_call 19; ((with_reducible refine Calls.mono (HA.out _ (Below.drew HW.out)) ?_); rintro e w5 ⟨rfl, hb5⟩)))
              obtain ⟨p0, p1, p2⟩ := ‹_ ∧ _ ∧ _›
              have hb6 : Below wr.heap.size wr w5 := Below.trans (Below.refl _ _).drew hb5
              have HB6 := Lib.hid hb6
              clear hb5 hb6
              go_wp2
              go_roundw
              case rel => exact ⟨k + 1, by omega, by go_num, below_to HBW.out HB6.out, HROW.out.below HB6.out HROW.out.lt⟩
              case measure => simp [intOf]; omega
          · clear hP
            subst f1
            by_cases g1 : z = 0
            · by_cases g2 : x ≤ v
              · have g3 : ¬ v ≤ y := fun h => hQ ⟨g1, g2, h⟩
                have g5 : decide (v ≤ y) = false := decide_eq_false g3
                clear hQ
                subst g1
                go_wp2
                go_region_held3 (fun u => u.cell? ⟨w2.heap.size, 0, none⟩ = some (.int .i64 d) ∧ u.cell? ⟨w2.heap.size, 1, none⟩ = some (.slice A N c) ∧ u.cell? ⟨w3.heap.size, k, none⟩ = some (.int .i64 v)) (first | assumption | (exact ⟨by assumption, by assumption, by assumption⟩) | (exact hold3 (by assumption) (by assumption))) (first | (go_at_call 19; ((with_reducible refine Calls.mono (HA.out _ (Below.drew HW.out)) ?_); rintro e w5 ⟨rfl, hb5⟩)))
                obtain ⟨p0, p1, p2⟩ := ‹_ ∧ _ ∧ _›
                have hb6 : Below wr.heap.size wr w5 := Below.trans (Below.refl _ _).drew hb5
                have HB6 := Lib.hid hb6
                clear hb5 hb6
                go_wp2
                go_roundw
                case rel => exact ⟨k + 1, by omega, by go_num, below_to HBW.out HB6.out, HROW.out.below HB6.out HROW.out.lt⟩
                case measure => simp [intOf]; omega
              · clear hQ
                subst g1
                go_wp2
                go_region_held3 (fun u => u.cell? ⟨w2.heap.size, 0, none⟩ = some (.int .i64 d) ∧ u.cell? ⟨w2.heap.size, 1, none⟩ = some (.slice A N c) ∧ u.cell? ⟨w3.heap.size, k, none⟩ = some (.int .i64 v)) (first | assumption | (exact ⟨by assumption, by assumption, by assumption⟩) | (exact hold3 (by assumption) (by assumption))) (first | (go_at_call 19; ((with_reducible refine Calls.mono (HA.out _ (Below.drew HW.out)) ?_); rintro e w5 ⟨rfl, hb5⟩)))
                obtain ⟨p0, p1, p2⟩ := ‹_ ∧ _ ∧ _›
                have hb6 : Below wr.heap.size wr w5 := Below.trans (Below.refl _ _).drew hb5
                have HB6 := Lib.hid hb6
                clear hb5 hb6
                go_wp2
                go_roundw
                case rel => exact ⟨k + 1, by omega, by go_num, below_to HBW.out HB6.out, HROW.out.below HB6.out HROW.out.lt⟩
                case measure => simp [intOf]; omega
            · have g4 : (z == 0) = false := by rw [beq_eq_false_iff_ne]; exact g1
              clear hQ g1
              go_wp2
              go_region_held3 (fun u => u.cell? ⟨w2.heap.size, 0, none⟩ = some (.int .i64 d) ∧ u.cell? ⟨w2.heap.size, 1, none⟩ = some (.slice A N c) ∧ u.cell? ⟨w3.heap.size, k, none⟩ = some (.int .i64 v)) (first | assumption | (exact ⟨by assumption, by assumption, by assumption⟩) | (exact hold3 (by assumption) (by assumption))) (first | (go_at_call 19; ((with_reducible refine Calls.mono (HA.out _ (Below.drew HW.out)) ?_); rintro e w5 ⟨rfl, hb5⟩)))
              obtain ⟨p0, p1, p2⟩ := ‹_ ∧ _ ∧ _›
              have hb6 : Below wr.heap.size wr w5 := Below.trans (Below.refl _ _).drew hb5
              have HB6 := Lib.hid hb6
              clear hb5 hb6
              go_wp2
              go_roundw
              case rel => exact ⟨k + 1, by omega, by go_num, below_to HBW.out HB6.out, HROW.out.below HB6.out HROW.out.lt⟩
              case measure => simp [intOf]; omega
        · have f4 : (r3 == 0) = false := by rw [beq_eq_false_iff_ne]; exact f1
          clear hP f1
          by_cases g1 : z = 0
          · by_cases g2 : x ≤ v
            · have g3 : ¬ v ≤ y := fun h => hQ ⟨g1, g2, h⟩
              have g5 : decide (v ≤ y) = false := decide_eq_false g3
              clear hQ
              subst g1
              go_wp2
              go_region_held3 (fun u => u.cell? ⟨w2.heap.size, 0, none⟩ = some (.int .i64 d) ∧ u.cell? ⟨w2.heap.size, 1, none⟩ = some (.slice A N c) ∧ u.cell? ⟨w3.heap.size, k, none⟩ = some (.int .i64 v)) (first | assumption | (exact ⟨by assumption, by assumption, by assumption⟩) | (exact hold3 (by assumption) (by assumption))) (first | (go_at_call 19; ((with_reducible refine Calls.mono (HA.out _ (Below.drew HW.out)) ?_); rintro e w5 ⟨rfl, hb5⟩)))
              obtain ⟨p0, p1, p2⟩ := ‹_ ∧ _ ∧ _›
              have hb6 : Below wr.heap.size wr w5 := Below.trans (Below.refl _ _).drew hb5
              have HB6 := Lib.hid hb6
              clear hb5 hb6
              go_wp2
              go_roundw
              case rel => exact ⟨k + 1, by omega, by go_num, below_to HBW.out HB6.out, HROW.out.below HB6.out HROW.out.lt⟩
              case measure => simp [intOf]; omega
            · clear hQ
              subst g1
              go_wp2
              go_region_held3 (fun u => u.cell? ⟨w2.heap.size, 0, none⟩ = some (.int .i64 d) ∧ u.cell? ⟨w2.heap.size, 1, none⟩ = some (.slice A N c) ∧ u.cell? ⟨w3.heap.size, k, none⟩ = some (.int .i64 v)) (first | assumption | (exact ⟨by assumption, by assumption, by assumption⟩) | (exact hold3 (by assumption) (by assumption))) (first | (go_at_call 19; ((with_reducible refine Calls.mono (HA.out _ (Below.drew HW.out)) ?_); rintro e w5 ⟨rfl, hb5⟩)))
              obtain ⟨p0, p1, p2⟩ := ‹_ ∧ _ ∧ _›
              have hb6 : Below wr.heap.size wr w5 := Below.trans (Below.refl _ _).drew hb5
              have HB6 := Lib.hid hb6
              clear hb5 hb6
              go_wp2
              go_roundw
              case rel => exact ⟨k + 1, by omega, by go_num, below_to HBW.out HB6.out, HROW.out.below HB6.out HROW.out.lt⟩
              case measure => simp [intOf]; omega
          · have g4 : (z == 0) = false := by rw [beq_eq_false_iff_ne]; exact g1
            clear hQ g1
            go_wp2
            go_region_held3 (fun u => u.cell? ⟨w2.heap.size, 0, none⟩ = some (.int .i64 d) ∧ u.cell? ⟨w2.heap.size, 1, none⟩ = some (.slice A N c) ∧ u.cell? ⟨w3.heap.size, k, none⟩ = some (.int .i64 v)) (first | assumption | (exact ⟨by assumption, by assumption, by assumption⟩) | (exact hold3 (by assumption) (by assumption))) (first | (go_at_call 19; ((with_reducible refine Calls.mono (HA.out _ (Below.drew HW.out)) ?_); rintro e w5 ⟨rfl, hb5⟩)))
            obtain ⟨p0, p1, p2⟩ := ‹_ ∧ _ ∧ _›
            have hb6 : Below wr.heap.size wr w5 := Below.trans (Below.refl _ _).drew hb5
            have HB6 := Lib.hid hb6
            clear hb5 hb6
            go_wp2
            go_roundw
            case rel => exact ⟨k + 1, by omega, by go_num, below_to HBW.out HB6.out, HROW.out.below HB6.out HROW.out.lt⟩
            case measure => simp [intOf]; omega
    · have hk6 : k = 6 := by omega
      subst hk6
      clear hrow hbw
      go_wp2
      go_ret
      exact ⟨rfl, below_to HBB.out HBW.out⟩
end Go.Proofs.Ytfbgfcpehlimfaa
