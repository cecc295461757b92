/- Contracts of the reference's Inside and Agree. -/
import Derived.Test.YtfbgfcpehlimfaaCk
import Derived.Test.YtfbgfcpehlimfaaCs
import Derived.Test.YtfbgfcpehlimfaaCx
namespace Go.Proofs.Ytfbgfcpehlimfaa
open Go.RowKit

set_option maxRecDepth 100000 in
set_option maxHeartbeats 2000000 in
theorem rinside_any (l : List (Int × Int)) (s : Int) (v : Value) (w : World) (hv : Recs enc2 2 w w.heap.size v l) (hl : l.length ≤ 1000) :
    Calls Try.prog 33 #[v, .int .i64 s] w fun e w' => e = .returned (.int .i64 (Cb.cnt l s)) ∧ w = w' := by
  obtain ⟨A, c, rfl, hc1, hc2⟩ := recs_form hv
  have HV := Lib.hid (fun k hk => recs_at hv k hk)
  obtain ⟨N, hN⟩ : ∃ N, l.length = N := ⟨_, rfl⟩
  have HN := Lib.hid hN
  rw [hN] at hc1 hl ⊢
  clear hv hN
  go_enter Try.func33, Try.ntmps33
  go_wp2
  go_loop [5, 6] (fun n i => ∃ k : Nat, k ≤ N ∧ i = .int .i64 (k : Int) ∧ n = .int .i64 (Cb.cnt (l.take k) s)) (fun _ i => N - (intOf i).toNat)
  case atStart => exact ⟨0, by omega, rfl, rfl⟩
  case round =>
    obtain ⟨k, hk, rfl, rfl⟩ := hrel
    have hb1 := Cb.cnt_len (l.take k) s
    have hb2 := Cb.cnt_nonneg (l.take k) s
    rw [List.length_take] at hb1
    by_cases hlt : k < N
    · have hkl : k < l.length := by have := HN.out; omega
      obtain ⟨g, off, rfl, hg, hcell⟩ := HV.out k hkl
      obtain ⟨c0, c1⟩ := cells2 hcell k hkl
      have htk : l.take (k + 1) = l.take k ++ [l[k]] := List.take_succ_eq_append_getElem hkl
      have hsn := Cb.cnt_snoc (l.take k) l[k] s
      rw [← htk] at hsn
      obtain ⟨x, hx⟩ : ∃ x, l[k] = x := ⟨_, rfl⟩
      rw [hx] at c0 c1 hsn
      obtain ⟨p, q⟩ := x
      dsimp only at c0 c1 hsn
      obtain ⟨m, hm⟩ : ∃ m, Cb.cnt (l.take k) s = m := ⟨_, rfl⟩
      rw [hm] at hsn hb1 hb2 ⊢
      have i1 : (0 : Int) ≤ (k : Int) := by omega
      have i2 : (k : Int) < (N : Int) := by omega
      have hm2 : m ≤ 1000 := by omega
      have HSN := Lib.hid hsn
      clear hcell htk hsn hx hm hb1
      by_cases h1 : p ≤ s
      · by_cases h2 : s < q
        · have HX := Lib.hid (show Cb.cnt (l.take (k + 1)) s = m + 1 by rw [HSN.out, if_pos ⟨h1, h2⟩])
          go_wp2
          go_round
          case rel => exact ⟨k + 1, by omega, by go_num, by rw [HX.out]⟩
          case measure => simp [intOf]; omega
        · have HX := Lib.hid (show Cb.cnt (l.take (k + 1)) s = m by rw [HSN.out, if_neg (fun h => h2 h.2)]; omega)
          go_wp2
          go_round
          case rel => exact ⟨k + 1, by omega, by go_num, by rw [HX.out]⟩
          case measure => simp [intOf]; omega
      · have HX := Lib.hid (show Cb.cnt (l.take (k + 1)) s = m by rw [HSN.out, if_neg (fun h => h1 h.1)]; omega)
        go_wp2
        go_round
        case rel => exact ⟨k + 1, by omega, by go_num, by rw [HX.out]⟩
        case measure => simp [intOf]; omega
    · have hta : l.take k = l := List.take_of_length_le (by have := HN.out; omega)
      rw [hta] at hb1 hb2 ⊢
      obtain ⟨m, hm⟩ : ∃ m, Cb.cnt l s = m := ⟨_, rfl⟩
      rw [hm] at hb1 hb2 ⊢
      have HM := Lib.hid hm
      clear hm hta
      go_wp2
      go_ret
      exact ⟨by rw [HM.out]; rfl, rfl⟩

set_option maxRecDepth 100000 in
set_option maxHeartbeats 8000000 in
theorem ragree_any (l : List (Int × Int)) (v : Value) (w : World) (hv : Recs enc2 2 w w.heap.size v l) (hl : l.length ≤ 1000) :
    Calls Try.prog 13 #[v] w fun e w' => ∃ f t k : Int, e = .returned (.tuple #[.agg #[.int .i64 f, .int .i64 t], .int .i64 k]) ∧ Cb.Agr l f t k ∧ Below w.heap.size w w' := by
  have hw1 : Below w.heap.size w (w.alloc (.cells #[.int .i64 0, .int .i64 0] 32)) := (Below.refl _ w).alloc (Nat.le_refl _) _
  have hin := fun (s : Int) => rinside_any l s v (w.alloc (.cells #[.int .i64 0, .int .i64 0] 32)) (hv.next hw1) hl
  obtain ⟨A, c, rfl, hc1, hc2⟩ := recs_form hv
  have HV := Lib.hid (fun k hk => recs_at (hv.next hw1) k hk)
  obtain ⟨N, hN⟩ : ∃ N, l.length = N := ⟨_, rfl⟩
  have HN := Lib.hid hN
  have HIN := Lib.hid hin
  rw [hN] at hc1 hl HIN ⊢
  clear hv hN hin hw1
  go_enter Try.func13, Try.ntmps13
  go_wp2
  go_loop [4, 5, 6, 7] (fun m f i _ => ∃ (k : Nat) (M F : Int), k ≤ N ∧ i = .int .i64 (k : Int) ∧ m = .int .i64 M ∧ f = .int .i64 F ∧ Hid (Cb.Top l k M F)) (fun _ _ i _ => N - (intOf i).toNat)
  case atStart => exact ⟨0, 0, 0, by omega, rfl, rfl, rfl, Lib.hid (Cb.Top.start l)⟩
  case round =>
    obtain ⟨k, M, F, hk, rfl, rfl, rfl, HT⟩ := hrel
    by_cases hlt : k < N
    · have hkl : k < l.length := by have := HN.out; omega
      obtain ⟨g, off, rfl, hg, hcell⟩ := HV.out k hkl
      obtain ⟨c0, c1⟩ := cells2 hcell k hkl
      have hx0 : l[k]? = some l[k] := List.getElem?_eq_getElem hkl
      obtain ⟨x, hx⟩ : ∃ x, l[k] = x := ⟨_, rfl⟩
      rw [hx] at c0 c1 hx0
      obtain ⟨p, q⟩ := x
      dsimp only at c0 c1
      have hnew := fun h => HT.out.new hx0 h
      have hkeep := fun h => HT.out.keep hx0 h
      have hi := HIN.out p
      dsimp only at hnew hkeep
      obtain ⟨y, hy⟩ : ∃ y, Cb.cnt l p = y := ⟨_, rfl⟩
      rw [hy] at hi hnew hkeep
      have HI := Lib.hid hi
      have i1 : (0 : Int) ≤ (k : Int) := by omega
      have i2 : (k : Int) < (N : Int) := by omega
      clear hcell hx hx0 hi hy
      by_cases g1 : M < y
      · have HX := Lib.hid (hnew (.inl g1))
        clear hnew hkeep
        go_wp2_with (go_at_call 33; with_reducible refine Calls.mono HI.out ?_; rintro e w' ⟨rfl, rfl⟩)
        go_round
        case rel => exact ⟨k + 1, y, p, by omega, by go_num, rfl, rfl, HX⟩
        case measure => simp [intOf]; omega
      by_cases g2 : y = M
      · by_cases g3 : p < F
        · have HX := Lib.hid (hnew (.inr ⟨g2, g3⟩))
          clear hnew hkeep
          subst g2
          go_wp2_with (go_at_call 33; with_reducible refine Calls.mono HI.out ?_; rintro e w' ⟨rfl, rfl⟩)
          go_round
          case rel => exact ⟨k + 1, y, p, by omega, by go_num, rfl, rfl, HX⟩
          case measure => simp [intOf]; omega
        · have HX := Lib.hid (hkeep (by rintro (h | h); exact g1 h; exact g3 h.2))
          clear hnew hkeep
          subst g2
          go_wp2_with (go_at_call 33; with_reducible refine Calls.mono HI.out ?_; rintro e w' ⟨rfl, rfl⟩)
          go_round
          case rel => exact ⟨k + 1, y, F, by omega, by go_num, rfl, rfl, HX⟩
          case measure => simp [intOf]; omega
      · have g4 : (y == M) = false := by rw [beq_eq_false_iff_ne]; exact g2
        have HX := Lib.hid (hkeep (by rintro (h | h); exact g1 h; exact g2 h.1))
        clear hnew hkeep
        go_wp2_with (go_at_call 33; with_reducible refine Calls.mono HI.out ?_; rintro e w' ⟨rfl, rfl⟩)
        go_round
        case rel => exact ⟨k + 1, M, F, by omega, by go_num, rfl, rfl, HX⟩
        case measure => simp [intOf]; omega
    · have hkN : k = l.length := by have := HN.out; omega
      have hT := HT.out
      rw [hkN] at hT
      have HTT := Lib.hid hT
      have h0 := hT.pos
      clear hT hkN
      by_cases hM : M = 0
      · have HZ := Lib.hid (Cb.agr_zero HTT.out hM)
        subst hM
        go_wp2
        refine bodyPost_ret (results_ct rfl _ _ w.heap.size 0 0 rfl (Row.new w _ _)) rfl ⟨0, 0, 0, rfl, HZ.out, (Below.refl _ w).alloc (Nat.le_refl _) _⟩
      · have hm0 : 0 < M := by omega
        have e0 : (M == 0) = false := by rw [beq_eq_false_iff_ne]; exact hM
        have HR0 := Lib.hid (Cb.run_start HTT.out hm0)
        clear hM
        go_wp2
        go_loop [8, 9, 10] (fun t _ _ => ∃ T : Int, t = .int .i64 T ∧ Hid (Cb.Run l F M T)) (fun t _ _ => (Cb.ceil l - intOf t).toNat)
        case atStart => exact ⟨F, rfl, HR0⟩
        case round =>
          obtain ⟨T, rfl, HR⟩ := hrel
          have hi := HIN.out T
          by_cases hc : Cb.cnt l T = M
          · rw [hc] at hi
            have HI := Lib.hid hi
            have HC := Lib.hid hc
            clear hi hc
            go_wp2_with (go_at_call 33; with_reducible refine Calls.mono HI.out ?_; rintro e w' ⟨rfl, rfl⟩)
            go_loop [9, 10] (fun n i => ∃ (j : Nat) (n' : Int), j ≤ N ∧ i = .int .i64 (j : Int) ∧ n = .int .i64 n' ∧ Hid (Cb.Nxt l T j n')) (fun _ i => N - (intOf i).toNat)
            case atStart => exact ⟨0, T, by omega, rfl, rfl, Lib.hid (Cb.Nxt.start l T)⟩
            case round =>
              obtain ⟨j, n, hj, rfl, rfl, HX⟩ := hrel
              by_cases hlt2 : j < N
              · have hjl : j < l.length := by have := HN.out; omega
                obtain ⟨g, off, rfl, hg, hcell⟩ := HV.out j hjl
                obtain ⟨c0, c1⟩ := cells2 hcell j hjl
                have hx0 : l[j]? = some l[j] := List.getElem?_eq_getElem hjl
                obtain ⟨x, hx⟩ : ∃ x, l[j] = x := ⟨_, rfl⟩
                rw [hx] at c0 c1 hx0
                obtain ⟨p, q⟩ := x
                dsimp only at c0 c1
                have hst := HX.out.step hx0
                dsimp only at hst
                have i1 : (0 : Int) ≤ (j : Int) := by omega
                have i2 : (j : Int) < (N : Int) := by omega
                clear hcell hx hx0
                by_cases ra : T < p
                · by_cases rb : n = T
                  · have rq : (n == T) = true := by rw [beq_iff_eq]; exact rb
                    have re : Cb.nx T n p = p := by unfold Cb.nx; rw [if_pos ⟨ra, .inl rb⟩]
                    rw [re] at hst
                    by_cases sa : T < q
                    · by_cases sb : p = T
                      · have sq : (p == T) = true := by rw [beq_iff_eq]; exact sb
                        have se : Cb.nx T p q = q := by unfold Cb.nx; rw [if_pos ⟨sa, .inl sb⟩]
                        rw [se] at hst
                        have HS := Lib.hid hst
                        clear hst re se rb sb
                        go_wp2
                        go_round
                        case rel => exact ⟨j + 1, q, by omega, by go_num, rfl, HS⟩
                        case measure => simp [intOf]; omega
                      · have sq : (p == T) = false := by rw [beq_eq_false_iff_ne]; exact sb
                        by_cases sc : q < p
                        · have se : Cb.nx T p q = q := by unfold Cb.nx; rw [if_pos ⟨sa, .inr sc⟩]
                          rw [se] at hst
                          have HS := Lib.hid hst
                          clear hst re se rb sb
                          go_wp2
                          go_round
                          case rel => exact ⟨j + 1, q, by omega, by go_num, rfl, HS⟩
                          case measure => simp [intOf]; omega
                        · have se : Cb.nx T p q = p := by unfold Cb.nx; rw [if_neg (fun h => h.2.elim sb sc)]
                          rw [se] at hst
                          have HS := Lib.hid hst
                          clear hst re se rb sb
                          go_wp2
                          go_round
                          case rel => exact ⟨j + 1, p, by omega, by go_num, rfl, HS⟩
                          case measure => simp [intOf]; omega
                    · have se : Cb.nx T p q = p := by unfold Cb.nx; rw [if_neg (fun h => sa h.1)]
                      rw [se] at hst
                      have HS := Lib.hid hst
                      clear hst re se rb
                      go_wp2
                      go_round
                      case rel => exact ⟨j + 1, p, by omega, by go_num, rfl, HS⟩
                      case measure => simp [intOf]; omega
                  · have rq : (n == T) = false := by rw [beq_eq_false_iff_ne]; exact rb
                    by_cases rc : p < n
                    · have re : Cb.nx T n p = p := by unfold Cb.nx; rw [if_pos ⟨ra, .inr rc⟩]
                      rw [re] at hst
                      by_cases sa : T < q
                      · by_cases sb : p = T
                        · have sq : (p == T) = true := by rw [beq_iff_eq]; exact sb
                          have se : Cb.nx T p q = q := by unfold Cb.nx; rw [if_pos ⟨sa, .inl sb⟩]
                          rw [se] at hst
                          have HS := Lib.hid hst
                          clear hst re se rb sb
                          go_wp2
                          go_round
                          case rel => exact ⟨j + 1, q, by omega, by go_num, rfl, HS⟩
                          case measure => simp [intOf]; omega
                        · have sq : (p == T) = false := by rw [beq_eq_false_iff_ne]; exact sb
                          by_cases sc : q < p
                          · have se : Cb.nx T p q = q := by unfold Cb.nx; rw [if_pos ⟨sa, .inr sc⟩]
                            rw [se] at hst
                            have HS := Lib.hid hst
                            clear hst re se rb sb
                            go_wp2
                            go_round
                            case rel => exact ⟨j + 1, q, by omega, by go_num, rfl, HS⟩
                            case measure => simp [intOf]; omega
                          · have se : Cb.nx T p q = p := by unfold Cb.nx; rw [if_neg (fun h => h.2.elim sb sc)]
                            rw [se] at hst
                            have HS := Lib.hid hst
                            clear hst re se rb sb
                            go_wp2
                            go_round
                            case rel => exact ⟨j + 1, p, by omega, by go_num, rfl, HS⟩
                            case measure => simp [intOf]; omega
                      · have se : Cb.nx T p q = p := by unfold Cb.nx; rw [if_neg (fun h => sa h.1)]
                        rw [se] at hst
                        have HS := Lib.hid hst
                        clear hst re se rb
                        go_wp2
                        go_round
                        case rel => exact ⟨j + 1, p, by omega, by go_num, rfl, HS⟩
                        case measure => simp [intOf]; omega
                    · have re : Cb.nx T n p = n := by unfold Cb.nx; rw [if_neg (fun h => h.2.elim rb rc)]
                      rw [re] at hst
                      by_cases sa : T < q
                      · by_cases sb : n = T
                        · exact absurd sb rb
                        · have sq : (n == T) = false := by rw [beq_eq_false_iff_ne]; exact sb
                          by_cases sc : q < n
                          · have se : Cb.nx T n q = q := by unfold Cb.nx; rw [if_pos ⟨sa, .inr sc⟩]
                            rw [se] at hst
                            have HS := Lib.hid hst
                            clear hst re se rb sb
                            go_wp2
                            go_round
                            case rel => exact ⟨j + 1, q, by omega, by go_num, rfl, HS⟩
                            case measure => simp [intOf]; omega
                          · have se : Cb.nx T n q = n := by unfold Cb.nx; rw [if_neg (fun h => h.2.elim sb sc)]
                            rw [se] at hst
                            have HS := Lib.hid hst
                            clear hst re se rb sb
                            go_wp2
                            go_round
                            case rel => exact ⟨j + 1, n, by omega, by go_num, rfl, HS⟩
                            case measure => simp [intOf]; omega
                      · have se : Cb.nx T n q = n := by unfold Cb.nx; rw [if_neg (fun h => sa h.1)]
                        rw [se] at hst
                        have HS := Lib.hid hst
                        clear hst re se rb
                        go_wp2
                        go_round
                        case rel => exact ⟨j + 1, n, by omega, by go_num, rfl, HS⟩
                        case measure => simp [intOf]; omega
                · have re : Cb.nx T n p = n := by unfold Cb.nx; rw [if_neg (fun h => ra h.1)]
                  rw [re] at hst
                  by_cases sa : T < q
                  · by_cases sb : n = T
                    · have sq : (n == T) = true := by rw [beq_iff_eq]; exact sb
                      have se : Cb.nx T n q = q := by unfold Cb.nx; rw [if_pos ⟨sa, .inl sb⟩]
                      rw [se] at hst
                      have HS := Lib.hid hst
                      clear hst re se sb
                      go_wp2
                      go_round
                      case rel => exact ⟨j + 1, q, by omega, by go_num, rfl, HS⟩
                      case measure => simp [intOf]; omega
                    · have sq : (n == T) = false := by rw [beq_eq_false_iff_ne]; exact sb
                      by_cases sc : q < n
                      · have se : Cb.nx T n q = q := by unfold Cb.nx; rw [if_pos ⟨sa, .inr sc⟩]
                        rw [se] at hst
                        have HS := Lib.hid hst
                        clear hst re se sb
                        go_wp2
                        go_round
                        case rel => exact ⟨j + 1, q, by omega, by go_num, rfl, HS⟩
                        case measure => simp [intOf]; omega
                      · have se : Cb.nx T n q = n := by unfold Cb.nx; rw [if_neg (fun h => h.2.elim sb sc)]
                        rw [se] at hst
                        have HS := Lib.hid hst
                        clear hst re se sb
                        go_wp2
                        go_round
                        case rel => exact ⟨j + 1, n, by omega, by go_num, rfl, HS⟩
                        case measure => simp [intOf]; omega
                  · have se : Cb.nx T n q = n := by unfold Cb.nx; rw [if_neg (fun h => sa h.1)]
                    rw [se] at hst
                    have HS := Lib.hid hst
                    clear hst re se 
                    go_wp2
                    go_round
                    case rel => exact ⟨j + 1, n, by omega, by go_num, rfl, HS⟩
                    case measure => simp [intOf]; omega
              · have hjN : j = l.length := by have := HN.out; omega
                have hn := HX.out
                rw [hjN] at hn
                obtain ⟨hrun, hTn⟩ := HR.out.step hm0 HC.out hn
                have htop := hrun.top
                have HRN := Lib.hid hrun
                clear hrun hn hjN
                go_wp2
                go_round
                case rel => exact ⟨n, rfl, HRN⟩
                case measure => simp only [intOf]; omega
          · have HA := Lib.hid (Cb.agr_run HTT.out hm0 HR.out hc)
            obtain ⟨ct, hct⟩ : ∃ ct, Cb.cnt l T = ct := ⟨_, rfl⟩
            rw [hct] at hi hc
            have HI := Lib.hid hi
            have e1 : (ct == M) = false := by rw [beq_eq_false_iff_ne]; exact hc
            clear hi hc hct
            go_wp2_with (go_at_call 33; with_reducible refine Calls.mono HI.out ?_; rintro e w' ⟨rfl, rfl⟩)
            refine bodyPost_ret (results_ct rfl _ _ w.heap.size F T rfl (Row.new w _ _)) rfl ⟨F, T, M, rfl, HA.out, (Below.refl _ w).alloc (Nat.le_refl _) _⟩
end Go.Proofs.Ytfbgfcpehlimfaa
