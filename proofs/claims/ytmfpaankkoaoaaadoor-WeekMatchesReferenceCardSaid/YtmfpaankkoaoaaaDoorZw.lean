/- The reference's Parse, its walk. The reference's Not. The pairs of calls of WeekMatchesReference: both sides answer alike. -/
import Derived.Test.YtmfpaankkoaoaaaDoorZc
import Derived.Test.YtmfpaankkoaoaaaDoorZg
import Derived.Test.YtmfpaankkoaoaaaDoorXd
import Derived.Test.YtmfpaankkoaoaaaDoorVs
/- The reference's Parse, its walk. -/
namespace Go.Proofs.YtmfpaankkoaoaaaDoor
open Go.RowKit Go.Shelf
attribute [local irreducible] psStep parseV ptl okB grpR addL newG wrRuns

set_option maxRecDepth 100000 in
set_option maxHeartbeats 16000000 in
theorem rparse_any (s : ByteArray) (hs : s.size ≤ 200000) (w : World) : Calls Tryd.prog 28 #[.string s] w fun e w' =>
    e = .returned (.tuple #[wv (parseV s).1, .int .i64 ((parseV s).2.1 : Int), .int .i64 (parseV s).2.2]) ∧ Below w.heap.size w w' := by
  have HCUT := Lib.hid (fun u => rcut_any s hs u)
  have HNE : Hid (ptl semi (s.size + 1) s ≠ []) := Lib.hid (by rw [ptl_cons _ _ _ (by omega)]; simp)
  have HSZ : Hid (∀ x ∈ ptl semi (s.size + 1) s, x.size ≤ 200000) := Lib.hid (fun x hx => Nat.le_trans (ptl_size _ _ _ _ hx) hs)
  obtain ⟨W, hW⟩ : ∃ W, (w.alloc (.cells #[.int .i64 0, .int .i64 0, .int .i64 0, .int .i64 0, .int .i64 0, .int .i64 0, .int .i64 0] 23)).alloc (.cells #[.int .i64 0, .int .i64 0, .int .i64 0, .int .i64 0, .int .i64 0, .int .i64 0, .int .i64 0] 23) = W := ⟨_, rfl⟩
  have HA : Hid (Row W w.heap.size 23 (ints zeroW)) := Lib.hid (by rw [← hW]; exact (Row.new w _ _).alloc _)
  have HR : Hid (Row W (w.heap.size + 1) 23 (ints zeroW)) := Lib.hid (by
    rw [← hW]
    have := Row.new (w.alloc (.cells #[.int .i64 0, .int .i64 0, .int .i64 0, .int .i64 0, .int .i64 0, .int .i64 0, .int .i64 0] 23)) 23 (ints zeroW)
    rw [World.size_alloc] at this
    exact this)
  have HB : Hid (Below w.heap.size w W) := Lib.hid (by rw [← hW]; exact ((Below.refl _ w).alloc (Nat.le_refl _) _).alloc (by simp) _)
  have HZ : Hid (W.heap.size = w.heap.size + 2) := Lib.hid (by rw [← hW]; simp)
  have HW := Lib.hid hW
  clear hW
  go_enter Tryd.func28, Tryd.ntmps28
  go_upto_region 2 with (fail)
  rw [HW.out]
  clear HW
  have la := HA.out.lt
  have lb := HR.out.lt
  by_cases hnv : s = never
  · have t1 : (s.toList == [110, 101, 118, 101, 114]) = true := by rw [← never_list, str_eqb]; exact decide_eq_true hnv
    have HP := Lib.hid (show parseV s = (zeroW, 0, 0) by unfold parseV; rw [if_pos hnv])
    clear hnv
    obtain ⟨c0, c1, c2, c3, c4, c5, c6, -⟩ := seven_cells (show Row W (w.heap.size + 1) 23 (ints [0, 0, 0, 0, 0, 0, 0]) from HR.out)
    obtain ⟨d0, d1, d2, d3, d4, d5, d6, f0, f1, f2, f3, f4, f5, f6⟩ := seven_cells (show Row W w.heap.size 23 (ints [0, 0, 0, 0, 0, 0, 0]) from HA.out)
    go_wp2
    refine bodyPost_ret (results_wtt rfl _ _ w.heap.size [0, 0, 0, 0, 0, 0, 0] rfl (put7 rfl HA.out 0 0 0 0 0 0 0) rfl) rfl ⟨by rw [HP.out]; rfl, below7 HB.out (Nat.le_refl _) 0 0 0 0 0 0 0⟩
  · have t1 : (s.toList == [110, 101, 118, 101, 114]) = false := by rw [← never_list, str_eqb]; exact decide_eq_false hnv
    have HPV := Lib.hid (show parseV s = psStep (ptl semi (s.size + 1) s) zeroW 0 0 by unfold parseV; rw [if_neg hnv])
    clear hnv
    obtain ⟨L, hL⟩ : ∃ L, ptl semi (s.size + 1) s = L := ⟨_, rfl⟩
    rw [hL] at HPV HSZ HNE
    have HCT : Hid (∀ u, Calls Tryd.prog 52 #[.string s] u fun e w' => ∃ v, e = .returned v ∧ w'.ownsRow u.heap.size 9 1 v L.length (L.map Value.string) ∧ Below u.heap.size u w') := Lib.hid (fun u => by have := HCUT.out u; rwa [hL] at this)
    clear hL HCUT
    obtain ⟨D0, hD0⟩ : ∃ D0, L[0]? = some D0 := ⟨_, List.getElem?_eq_getElem (List.length_pos_iff.2 HNE.out)⟩
    go_upto_region 5 with (go_at_call 52; (with_reducible refine Calls.mono (HCT.out _) ?_); rintro e' w1 ⟨v, rfl, ho, hb⟩; rw [HZ.out] at ho; obtain ⟨g, c, rfl, -, -⟩ := own_str ho rfl hD0; obtain ⟨A2, c2, e2, hc1, hc2, -⟩ := own_slice ho; cases e2; have HP0 := Lib.hid (show RpIn w L g c zeroW 0 0 (-1) w1 from ⟨ho, HA.out.below hb la, HR.out.below hb lb, rfl, rfl, .inl ⟨rfl, rfl⟩, by rw [List.drop_zero], below_to HB.out hb⟩); clear hb ho)
    obtain ⟨N, hN⟩ : ∃ N, L.length = N := ⟨_, rfl⟩
    have HN := Lib.hid hN
    have hN9 : N ≤ 9223372036854775807 := by rw [← hN]; exact Nat.le_trans hc1 (by simpa [maxLen] using hc2)
    rw [hN]
    clear hN hD0 la lb t1 HA HR HB HZ HNE HCT hc1 hc2
    go_wp2
    go_loopw [7, 8] (fun la i wr => ∃ (l : List Int) (k f : Nat) (fi : Int), la = .int .i64 fi ∧ i = .int .i64 (k : Int) ∧ k ≤ N ∧ Hid (RpIn w L g c l k f fi wr)) (fun _ i _ => N - (intOf i).toNat)
    case atStart => exact ⟨zeroW, 0, 0, -1, rfl, rfl, by omega, HP0⟩
    case round =>
      clear HP0
      obtain ⟨l, k, f, fi, rfl, rfl, hk, HP⟩ := hrel
      have k0 : (0 : Int) ≤ (k : Int) := by omega
      by_cases hlt : k < N
      · have k1 : (k : Int) < (N : Int) := by omega
        obtain ⟨x, hx⟩ : ∃ x, L[k]? = some x := ⟨_, List.getElem?_eq_getElem (by rw [HN.out]; exact hlt)⟩
        have HX := Lib.hid hx
        obtain ⟨-, hgl, hgc⟩ := HP.out.cell hx
        have GR := Lib.hid (fun u => rgroup_any x (HSZ.out x (List.mem_of_getElem? hx)) u)
        have hle := grpR_le x
        obtain ⟨G, hG⟩ : ∃ G, grpR x = G := ⟨_, rfl⟩
        obtain ⟨S, H⟩ := G
        rw [hG] at hle GR
        dsimp only at hle GR
        have HGG := Lib.hid hG
        have HLE := Lib.hid hle
        have HOK := Lib.hid (okB_iff (l := l) (fi := fi) hG)
        have FI : Hid (∀ (_ : S ≠ 0) u, Calls Tryd.prog 46 #[.int .i64 (S : Int)] u fun e w' => e = .returned (.int .i64 ((Lib.ctz 64 S : Nat) : Int)) ∧ u = w') := Lib.hid (fun h u => rfirst_any S HLE.out.1 h u)
        have DY := Lib.hid (fun u => rdays_any S HLE.out.1 u)
        have HO : Hid (∀ u, Calls Tryd.prog 45 #[.int .i64 (H : Int)] u fun e w' => e = .returned (.string (wrRuns [32] wrH H)) ∧ Below u.heap.size u w') := Lib.hid (fun u => rhours_any H HLE.out.2 u)
        have HBD : Hid (okB S H (Lib.ctz 64 S) fi x = (decide (0 < S) && decide (0 < H) && decide (fi < ((Lib.ctz 64 S : Nat) : Int)) && decide (wrRuns [44] wrD S ++ ⟨#[32]⟩ ++ wrRuns [32] wrH H = x))) := Lib.hid (by unfold okB; rfl)
        have za : (wrRuns [44] wrD S).size ≤ 100000000 := Nat.le_trans (wrD_le S) (by omega)
        have zb : (wrRuns [32] wrH H).size ≤ 100000000 := Nat.le_trans (wrH_le HLE.out.2) (by omega)
        obtain ⟨T, hT⟩ : ∃ T, (Lib.ctz 64 S) = T := ⟨_, rfl⟩
        obtain ⟨hh, hhh⟩ : ∃ hh : Int, (H : Int) = hh := ⟨_, rfl⟩
        have HH := Lib.hid hhh
        have HTT := Lib.hid hT
        obtain ⟨b, hb⟩ : ∃ b, okB S H (Lib.ctz 64 S) fi x = b := ⟨_, rfl⟩
        rw [hb] at HOK
        rw [hT] at hb HBD FI
        rw [hb] at HBD
        rw [hhh] at HO GR
        clear hT hb hx hG hle
        go_upto_region 10 with (go_at_call 53; (with_reducible refine Calls.mono (GR.out _) ?_); rintro e' v1 ⟨rfl, hb⟩; have HP := Lib.hid (HP.out.below hb); clear hb hgl hgc)
        go_cut [11] from 33 to 61 (fun q wx => q = .bool b ∧ Hid (Below v1.heap.size v1 wx))
        case first =>
          have hb0 : Below v1.heap.size v1 v1 := Below.refl _ _
          by_cases hS : S = 0
          · have hb : b = false := by rw [HBD.out, hS]; rfl
            subst hS
            subst hb
            clear hhh
            go_quiet (fail)
            go_wp2_with fail
            go_meet
            exact ⟨rfl, Lib.hid (belowN (Below.refl _ _) _)⟩
          · have HSN := Lib.hid hS
            have FI := Lib.hid (FI.out hS)
            have s1 : decide (0 < S) = true := decide_eq_true (by omega)
            by_cases hH : hh = 0
            · have hb : b = false := by rw [HBD.out, decide_eq_false (show ¬ 0 < H by omega)]; simp
              subst hH
              subst hb
              clear hhh hS
              go_quiet (fail)
              go_wp2_with fail
              go_meet
              exact ⟨rfl, Lib.hid (belowN (Below.refl _ _) _)⟩
            · have h1 : decide (0 < hh) = true := decide_eq_true (by omega)
              have h2 : decide (hh ≤ 16777215) = true := decide_eq_true (by have := HLE.out; omega)
              by_cases hF : fi < (T : Int)
              · have f1 : decide (fi < (T : Int)) = true := decide_eq_true hF
                have hb : b = decide (wrRuns [44] wrD S ++ ⟨#[32]⟩ ++ wrRuns [32] wrH H = x) := by rw [HBD.out, s1, f1, decide_eq_true (show 0 < H by omega)]; simp
                obtain ⟨A, hA⟩ : ∃ A, wrRuns [44] wrD S = A := ⟨_, rfl⟩
                obtain ⟨B, hB⟩ : ∃ B, wrRuns [32] wrH H = B := ⟨_, rfl⟩
                rw [hA] at DY za
                rw [hB] at HO zb
                rw [hA, hB, ← str_eqb] at hb
                obtain ⟨q0, q1, q2⟩ := HP.out.cell HX.out
                have mk : ∀ u, Below v1.heap.size v1 u → Below v1.heap.size v1 u ∧ g < u.heap.size ∧ u.cell? ⟨g, k, none⟩ = some (.string x) := fun u hu => ⟨hu, by have := hu.size; omega, (hu.cell (p := ⟨g, k, none⟩) q1).trans q2⟩
                have MK := Lib.hid mk
                have y1 : ¬ 9223372036854775807 < A.size + 1 := by omega
                have y2 : ¬ 9223372036854775807 < A.size + 1 + B.size := by omega
                clear hhh hS hH hF hA hB mk hb0 za zb
                go_region_held3 (fun u => Below v1.heap.size v1 u ∧ g < u.heap.size ∧ u.cell? ⟨g, k, none⟩ = some (.string x)) (first | assumption | (exact MK.out _ (Below.refl _ _).drew) | (exact MK.out _ (below_to (‹Below v1.heap.size v1 _ ∧ _ ∧ _›).1 b5)) | (exact MK.out _ (below_to (Below.refl _ _).drew b5))) (first | (go_at_call 46; ((with_reducible refine Calls.mono (FI.out _) ?_)); rintro e v2 ⟨rfl, rfl⟩) | (go_at_call 44; ((with_reducible refine Calls.mono (DY.out _) ?_)); rintro e v2 ⟨rfl, rfl⟩) | (go_at_call 45; ((with_reducible refine Calls.mono (HO.out _) ?_)); rintro e v2 ⟨rfl, b5⟩))
                all_goals
                  have HX2 := Lib.hid ((‹Below v1.heap.size v1 _ ∧ _ ∧ _›).1)
                  go_wp2_with fail
                  go_meet
                  exact ⟨by rw [hb], HX2⟩
              · have f1 : decide (fi < (T : Int)) = false := decide_eq_false hF
                have hb : b = false := by rw [HBD.out, f1]; simp
                subst hb
                clear hhh hS hH hF
                refine wp_region_noPanic ?_
                refine wp_region_held_drew (S := fun u => Below v1.heap.size v1 u) (by kernel_rfl) ?_ (fun hHeld => ?_)
                · exact Below.drew hb0
                refine wpAnyH_take (i := 0) (oi := _) (v := ?_) rfl (by kernel_rfl) (by kernel_rfl) (by kernel_rfl) (fun _ _ _ h => h) (Or.inl ⟨by rfl, ?_⟩) (by assumption) ?_
                rotate_left
                · (intro w hSw; (try dsimp only at hSw); go_simp; all_goals (with_reducible rfl))
                simp only [Act.put, List.getElem_toArray, List.getElem_cons_zero, List.setIfInBounds_toArray, List.set_cons_zero, List.set_cons_succ]
                refine wpAnyH_take (i := 1) (oi := _) (v := ?_) rfl (by kernel_rfl) (by kernel_rfl) (by kernel_rfl) (fun _ _ _ h => h) (Or.inl ⟨by rfl, ?_⟩) (by assumption) ?_
                rotate_left
                · (intro w hSw; (try dsimp only at hSw); go_simp; all_goals (with_reducible rfl))
                simp only [Act.put, List.getElem_toArray, List.getElem_cons_succ, List.getElem_cons_zero, List.setIfInBounds_toArray, List.set_cons_zero, List.set_cons_succ]
                refine wpAnyH_take (i := 2) (oi := _) (v := ?_) rfl (by kernel_rfl) (by kernel_rfl) (by kernel_rfl) (fun _ _ _ h => h) (Or.inl ⟨by rfl, ?_⟩) (by assumption) ?_
                rotate_left
                · (intro w hSw; (try dsimp only at hSw); go_simp; all_goals (with_reducible rfl))
                simp only [Act.put, List.getElem_toArray, List.getElem_cons_succ, List.getElem_cons_zero, List.setIfInBounds_toArray, List.set_cons_zero, List.set_cons_succ]
                refine wpAnyH_take (i := 3) (oi := _) (v := ?_) rfl (by kernel_rfl) (by kernel_rfl) (by kernel_rfl) (fun _ _ _ h => h) (Or.inl ⟨by rfl, ?_⟩) (by assumption) ?_
                rotate_left
                · (intro w hSw; (try dsimp only at hSw); go_simp; all_goals (with_reducible rfl))
                simp only [Act.put, List.getElem_toArray, List.getElem_cons_succ, List.getElem_cons_zero, List.setIfInBounds_toArray, List.set_cons_zero, List.set_cons_succ]
                refine wpAnyH_take (i := 4) (oi := _) (v := ?_) rfl (by kernel_rfl) (by kernel_rfl) (by kernel_rfl) (fun _ _ _ h => h) (Or.inl ⟨by rfl, ?_⟩) (by assumption) ?_
                rotate_left
                · (intro w hSw; (try dsimp only at hSw); go_simp; all_goals (with_reducible rfl))
                simp only [Act.put, List.getElem_toArray, List.getElem_cons_succ, List.getElem_cons_zero, List.setIfInBounds_toArray, List.set_cons_zero, List.set_cons_succ]
                refine wpAnyH_take (i := 5) (oi := _) (v := ?_) rfl (by kernel_rfl) (by kernel_rfl) (by kernel_rfl) (fun _ _ _ h => h) (Or.inl ⟨by rfl, ?_⟩) (by assumption) ?_
                rotate_left
                · (intro w hSw; (try dsimp only at hSw); go_simp; all_goals (with_reducible rfl))
                simp only [Act.put, List.getElem_toArray, List.getElem_cons_succ, List.getElem_cons_zero, List.setIfInBounds_toArray, List.set_cons_zero, List.set_cons_succ]
                refine wpAnyH_take (i := 6) (oi := _) (v := ?_) rfl (by kernel_rfl) (by kernel_rfl) (by kernel_rfl) (fun _ _ _ h => h) (Or.inl ⟨by rfl, ?_⟩) (by assumption) ?_
                rotate_left
                · (intro w hSw; (try dsimp only at hSw); go_simp; all_goals (with_reducible rfl))
                simp only [Act.put, List.getElem_toArray, List.getElem_cons_succ, List.getElem_cons_zero, List.setIfInBounds_toArray, List.set_cons_zero, List.set_cons_succ]
                refine wpAnyH_take (i := 7) (oi := _) (v := ?_) rfl (by kernel_rfl) (by kernel_rfl) (by kernel_rfl) (fun _ _ _ h => h) (Or.inl ⟨by rfl, ?_⟩) (by assumption) ?_
                rotate_left
                · (intro w hSw; (try dsimp only at hSw); go_simp; all_goals (with_reducible rfl))
                simp only [Act.put, List.getElem_toArray, List.getElem_cons_succ, List.getElem_cons_zero, List.setIfInBounds_toArray, List.set_cons_zero, List.set_cons_succ]
                refine wpAnyH_take (i := 8) (oi := _) (v := ?_) rfl (by kernel_rfl) (by kernel_rfl) (by kernel_rfl) (fun _ _ _ h => h) (Or.inl ⟨by rfl, ?_⟩) (by assumption) ?_
                rotate_left
                · (intro w hSw; (try dsimp only at hSw); go_simp; all_goals (with_reducible rfl))
                simp only [Act.put, List.getElem_toArray, List.getElem_cons_succ, List.getElem_cons_zero, List.setIfInBounds_toArray, List.set_cons_zero, List.set_cons_succ]
                refine wpAnyH_take (i := 9) (oi := _) (v := ?_) rfl (by kernel_rfl) (by kernel_rfl) (by kernel_rfl) (fun _ _ _ h => h) (Or.inl ⟨by rfl, ?_⟩) (by assumption) ?_
                rotate_left
                · (intro w hSw; (try dsimp only at hSw); go_simp; all_goals (with_reducible rfl))
                simp only [Act.put, List.getElem_toArray, List.getElem_cons_succ, List.getElem_cons_zero, List.setIfInBounds_toArray, List.set_cons_zero, List.set_cons_succ]
                refine wpAnyH_take (i := 10) (oi := _) (v := ?_) rfl (by kernel_rfl) (by kernel_rfl) (by kernel_rfl) (fun _ _ _ h => h) (Or.inl ⟨by rfl, ?_⟩) (by assumption) ?_
                rotate_left
                · (intro w hSw; (try dsimp only at hSw); go_simp; all_goals (with_reducible rfl))
                simp only [Act.put, List.getElem_toArray, List.getElem_cons_succ, List.getElem_cons_zero, List.setIfInBounds_toArray, List.set_cons_zero, List.set_cons_succ]
                refine wpAnyH_take (i := 11) (oi := _) (v := ?_) rfl (by kernel_rfl) (by kernel_rfl) (by kernel_rfl) (fun _ _ _ h => h) (Or.inl ⟨by rfl, ?_⟩) (by assumption) ?_
                rotate_left
                · (intro w hSw; (try dsimp only at hSw); go_simp; all_goals (with_reducible rfl))
                simp only [Act.put, List.getElem_toArray, List.getElem_cons_succ, List.getElem_cons_zero, List.setIfInBounds_toArray, List.set_cons_zero, List.set_cons_succ]
                refine wpAnyH_take (i := 13) (oi := _) (v := ?_) rfl (by kernel_rfl) (by kernel_rfl) (by kernel_rfl) (fun _ _ _ h => h) (Or.inl ⟨by rfl, ?_⟩) (by assumption) ?_
                rotate_left
                · (intro w hSw; (try dsimp only at hSw); go_simp; all_goals (with_reducible rfl))
                simp only [Act.put, List.getElem_toArray, List.getElem_cons_succ, List.getElem_cons_zero, List.setIfInBounds_toArray, List.set_cons_zero, List.set_cons_succ]
                refine wpAnyH_ready (rs := [12]) (by kernel_rfl) (by simp) ?_
                refine AllReadyH.cons (o := _) rfl (fun K hK => ?_) ?_
                · go_simp
                  (go_at_call 46; ((with_reducible refine Calls.mono (FI.out _) ?_)); rintro e v2 ⟨rfl, rfl⟩)
                  refine hK.out _ _ ?_ (fun hHeld => ?_)
                  · (try dsimp only)
                    exact hHeld
                  clear hK K
                  (try simp only [Act.put, List.setIfInBounds_toArray, List.set_cons_zero, List.set_cons_succ])
                  refine wpAnyH_take (i := 14) (oi := _) (v := ?_) rfl (by kernel_rfl) (by kernel_rfl) (by kernel_rfl) (fun _ _ _ h => h) (Or.inl ⟨by rfl, ?_⟩) (by assumption) ?_
                  rotate_left
                  · (intro w hSw; (try dsimp only at hSw); go_simp; all_goals (with_reducible rfl))
                  simp only [Act.put, List.getElem_toArray, List.getElem_cons_succ, List.getElem_cons_zero, List.setIfInBounds_toArray, List.set_cons_zero, List.set_cons_succ]
                  refine wpAnyH_take (i := 15) (oi := _) (v := ?_) rfl (by kernel_rfl) (by kernel_rfl) (by kernel_rfl) (fun _ _ _ h => h) (Or.inl ⟨by rfl, ?_⟩) (by assumption) ?_
                  rotate_left
                  · (intro w hSw; (try dsimp only at hSw); go_simp; all_goals (with_reducible rfl))
                  simp only [Act.put, List.getElem_toArray, List.getElem_cons_succ, List.getElem_cons_zero, List.setIfInBounds_toArray, List.set_cons_zero, List.set_cons_succ]
                  refine wpAnyH_take (i := 16) (oi := _) (v := ?_) rfl (by kernel_rfl) (by kernel_rfl) (by kernel_rfl) (fun _ _ _ h => h) (Or.inl ⟨by rfl, ?_⟩) (by assumption) ?_
                  rotate_left
                  · (intro w hSw; (try dsimp only at hSw); go_simp; all_goals (with_reducible rfl))
                  simp only [Act.put, List.getElem_toArray, List.getElem_cons_succ, List.getElem_cons_zero, List.setIfInBounds_toArray, List.set_cons_zero, List.set_cons_succ]
                  refine wpAnyH_take (i := 17) (oi := _) (v := undef) rfl (by kernel_rfl) (by kernel_rfl) (by kernel_rfl) (fun _ _ _ h => h) (Or.inr ⟨by rfl, rfl⟩) (by assumption) ?_
                  simp only [Act.put, List.getElem_toArray, List.getElem_cons_succ, List.getElem_cons_zero, List.setIfInBounds_toArray, List.set_cons_zero, List.set_cons_succ]
                  refine wpAnyH_take (i := 18) (oi := _) (v := undef) rfl (by kernel_rfl) (by kernel_rfl) (by kernel_rfl) (fun _ _ _ h => h) (Or.inr ⟨by rfl, rfl⟩) (by assumption) ?_
                  simp only [Act.put, List.getElem_toArray, List.getElem_cons_succ, List.getElem_cons_zero, List.setIfInBounds_toArray, List.set_cons_zero, List.set_cons_succ]
                  refine wpAnyH_take (i := 19) (oi := _) (v := undef) rfl (by kernel_rfl) (by kernel_rfl) (by kernel_rfl) (fun _ _ _ h => h) (Or.inr ⟨by rfl, rfl⟩) (by assumption) ?_
                  simp only [Act.put, List.getElem_toArray, List.getElem_cons_succ, List.getElem_cons_zero, List.setIfInBounds_toArray, List.set_cons_zero, List.set_cons_succ]
                  refine wpAnyH_take (i := 20) (oi := _) (v := undef) rfl (by kernel_rfl) (by kernel_rfl) (by kernel_rfl) (fun _ _ _ h => h) (Or.inr ⟨by rfl, rfl⟩) (by assumption) ?_
                  simp only [Act.put, List.getElem_toArray, List.getElem_cons_succ, List.getElem_cons_zero, List.setIfInBounds_toArray, List.set_cons_zero, List.set_cons_succ]
                  refine wpAnyH_take (i := 21) (oi := _) (v := undef) rfl (by kernel_rfl) (by kernel_rfl) (by kernel_rfl) (fun _ _ _ h => h) (Or.inr ⟨by rfl, rfl⟩) (by assumption) ?_
                  simp only [Act.put, List.getElem_toArray, List.getElem_cons_succ, List.getElem_cons_zero, List.setIfInBounds_toArray, List.set_cons_zero, List.set_cons_succ]
                  refine wpAnyH_take (i := 22) (oi := _) (v := undef) rfl (by kernel_rfl) (by kernel_rfl) (by kernel_rfl) (fun _ _ _ h => h) (Or.inr ⟨by rfl, rfl⟩) (by assumption) ?_
                  simp only [Act.put, List.getElem_toArray, List.getElem_cons_succ, List.getElem_cons_zero, List.setIfInBounds_toArray, List.set_cons_zero, List.set_cons_succ]
                  refine wpAnyH_take (i := 23) (oi := _) (v := undef) rfl (by kernel_rfl) (by kernel_rfl) (by kernel_rfl) (fun _ _ _ h => h) (Or.inr ⟨by rfl, rfl⟩) (by assumption) ?_
                  simp only [Act.put, List.getElem_toArray, List.getElem_cons_succ, List.getElem_cons_zero, List.setIfInBounds_toArray, List.set_cons_zero, List.set_cons_succ]
                  refine wpAnyH_take (i := 24) (oi := _) (v := undef) rfl (by kernel_rfl) (by kernel_rfl) (by kernel_rfl) (fun _ _ _ h => h) (Or.inr ⟨by rfl, rfl⟩) (by assumption) ?_
                  simp only [Act.put, List.getElem_toArray, List.getElem_cons_succ, List.getElem_cons_zero, List.setIfInBounds_toArray, List.set_cons_zero, List.set_cons_succ]
                  refine wpAnyH_take (i := 25) (oi := _) (v := undef) rfl (by kernel_rfl) (by kernel_rfl) (by kernel_rfl) (fun _ _ _ h => h) (Or.inr ⟨by rfl, rfl⟩) (by assumption) ?_
                  simp only [Act.put, List.getElem_toArray, List.getElem_cons_succ, List.getElem_cons_zero, List.setIfInBounds_toArray, List.set_cons_zero, List.set_cons_succ]
                  refine wpAnyH_take (i := 26) (oi := _) (v := undef) rfl (by kernel_rfl) (by kernel_rfl) (by kernel_rfl) (fun _ _ _ h => h) (Or.inr ⟨by rfl, rfl⟩) (by assumption) ?_
                  simp only [Act.put, List.getElem_toArray, List.getElem_cons_succ, List.getElem_cons_zero, List.setIfInBounds_toArray, List.set_cons_zero, List.set_cons_succ]
                  refine wpAnyH_take (i := 27) (oi := _) (v := undef) rfl (by kernel_rfl) (by kernel_rfl) (by kernel_rfl) (fun _ _ _ h => h) (Or.inr ⟨by rfl, rfl⟩) (by assumption) ?_
                  simp only [Act.put, List.getElem_toArray, List.getElem_cons_succ, List.getElem_cons_zero, List.setIfInBounds_toArray, List.set_cons_zero, List.set_cons_succ]
                  refine wpAnyH_take (i := 28) (oi := _) (v := ?_) rfl (by kernel_rfl) (by kernel_rfl) (by kernel_rfl) (fun _ _ _ h => h) (Or.inl ⟨by rfl, ?_⟩) (by assumption) ?_
                  rotate_left
                  · (intro w hSw; (try dsimp only at hSw); go_simp; all_goals (with_reducible rfl))
                  simp only [Act.put, List.getElem_toArray, List.getElem_cons_succ, List.getElem_cons_zero, List.setIfInBounds_toArray, List.set_cons_zero, List.set_cons_succ]
                  refine wpAnyH_take (i := 29) (oi := _) (v := ?_) rfl (by kernel_rfl) (by kernel_rfl) (by kernel_rfl) (fun _ _ _ h => h) (Or.inl ⟨by rfl, ?_⟩) (by assumption) ?_
                  rotate_left
                  · (intro w hSw; (try dsimp only at hSw); go_simp; all_goals (with_reducible rfl))
                  simp only [Act.put, List.getElem_toArray, List.getElem_cons_succ, List.getElem_cons_zero, List.setIfInBounds_toArray, List.set_cons_zero, List.set_cons_succ]
                  refine wpAnyH_done (by kernel_rfl) ?_ _
                  refine NoPanic.normal ?_
                  go_wp2_with fail
                  go_meet
                  exact ⟨rfl, Lib.hid hHeld⟩
                exact AllReadyH.nil
        case rest =>
          obtain ⟨rfl, HBX⟩ := hcut
          have HP := Lib.hid (HP.out.below HBX.out)
          clear HBX FI DY HO HBD GR za zb
          have HCELL : Hid (∀ j, j < 7 → wc.cell? ⟨w.heap.size + 1, j, none⟩ = some (.int .i64 ((hrs l j : Nat) : Int))) := Lib.hid (fun j hj => by rw [HP.out.rw.cell j, ints_get, (hrs_at HP.out.hv (show j < l.length by rw [HP.out.h7]; exact hj)).1]; rfl)
          have lr := HP.out.rw.lt
          go_wp2
          go_loop [11, 12] (fun q a => ∃ (j : Nat) (r : Bool), q = .bool r ∧ a = .int .i64 (j : Int) ∧ j ≤ 7 ∧ Hid ((r = true → b = true ∧ ∀ i, i < j → clash S H i (hrs l i) = false) ∧ (r = false → ¬ OkR x l fi))) (fun _ a => 7 - (intOf a).toNat)
          case atStart => exact ⟨0, b, rfl, rfl, by omega, Lib.hid ⟨fun h => ⟨h, fun i hi => absurd hi (Nat.not_lt_zero _)⟩, fun h h2 => by have := (HOK.out.1 h2).1; rw [h] at this; cases this⟩⟩
          case round =>
            obtain ⟨j, r, rfl, rfl, hj, HV⟩ := hrel
            have j0 : (0 : Int) ≤ (j : Int) := by omega
            cases r with
            | false =>
              have HE := Lib.hid (HP.out.bad HX.out (HV.out.2 rfl))
              obtain ⟨d0, d1, d2, d3, d4, d5, d6, f0, f1, f2, f3, f4, f5, f6⟩ := seven_cells (show Row wc w.heap.size 23 (ints [0, 0, 0, 0, 0, 0, 0]) from HP.out.r0)
              have lz := HP.out.r0.lt
              by_cases hj7 : j < 7
              · have j1 : (j : Int) < 7 := by omega
                clear hj7 hj
                go_wp2
                refine bodyPost_ret (results_wtt rfl _ _ w.heap.size [0, 0, 0, 0, 0, 0, 0] rfl (put7 rfl HP.out.r0 0 0 0 0 0 0 0) rfl) rfl ⟨by rw [HPV.out, HE.out]; rfl, below7 HP.out.b (Nat.le_refl _) 0 0 0 0 0 0 0⟩
              · have j1 : ¬ (j : Int) < 7 := by omega
                clear hj7 hj
                go_wp2
                refine bodyPost_ret (results_wtt rfl _ _ w.heap.size [0, 0, 0, 0, 0, 0, 0] rfl (put7 rfl HP.out.r0 0 0 0 0 0 0 0) rfl) rfl ⟨by rw [HPV.out, HE.out]; rfl, below7 HP.out.b (Nat.le_refl _) 0 0 0 0 0 0 0⟩
            | true =>
              by_cases hj7 : j < 7
              · have j1 : (j : Int) < 7 := by omega
                have hcj := HCELL.out j hj7
                have hbit := even_bit S j
                have HC := Lib.hid (clash_def S H j (hrs l j))
                have HNO : Hid (clash S H j (hrs l j) = true → ¬ OkR x l fi) := Lib.hid (fun h h2 => by have := (HOK.out.1 h2).2; rw [newG_bad hj7 h] at this; cases this)
                have HYES : Hid (clash S H j (hrs l j) = false → b = true ∧ ∀ i, i < j + 1 → clash S H i (hrs l i) = false) := Lib.hid (fun h => ⟨(HV.out.1 rfl).1, fun i hi => if e : i = j then by rw [e]; exact h else (HV.out.1 rfl).2 i (by omega)⟩)
                obtain ⟨yn, hyn⟩ : ∃ yn, hrs l j = yn := ⟨_, rfl⟩
                obtain ⟨q, hq⟩ : ∃ q, S.testBit j = q := ⟨_, rfl⟩
                obtain ⟨K, hK⟩ : ∃ K, clash S H j (hrs l j) = K := ⟨_, rfl⟩
                rw [hK] at HNO HYES HC
                rw [hyn, hq] at HC
                rw [hyn] at hcj
                rw [hq] at hbit
                obtain ⟨y, hy⟩ : ∃ y : Int, (yn : Int) = y := ⟨_, rfl⟩
                rw [hy] at hcj
                have s0 : (0 : Int) ≤ (S : Int) := by omega
                by_cases c1 : y = hh
                · have e1 : (y == hh) = true := by simp [c1]
                  have e2 : (y != hh) = false := by simp [c1]
                  have HE := Lib.hid (HNO.out (by rw [HC.out, decide_eq_true (by omega)]; rfl))
                  clear c1 hy hhh hyn hq hK
                  go_wp2
                  go_round
                  case rel => exact ⟨j + 1, false, rfl, by go_num, by omega, Lib.hid ⟨fun h => (by cases h), fun _ => HE.out⟩⟩
                  case measure => simp [intOf]; omega
                · have e1 : (y == hh) = false := by simp [c1]
                  have e2 : (y != hh) = true := by simp [c1]
                  cases q with
                  | false =>
                    have HE := Lib.hid (HYES.out (by rw [HC.out, decide_eq_false (by omega)]; simp))
                    clear c1 hy hhh hyn hq hK
                    go_wp2
                    go_round
                    case rel => exact ⟨j + 1, true, rfl, by go_num, by omega, Lib.hid ⟨fun _ => HE.out, fun h => (by cases h)⟩⟩
                    case measure => simp [intOf]; omega
                  | true =>
                    by_cases c2 : y = 0
                    · have e3 : (y == 0) = true := by simp [c2]
                      have HE := Lib.hid (HYES.out (by rw [HC.out, decide_eq_false (by omega), decide_eq_false (show ¬ yn ≠ 0 by omega)]; rfl))
                      clear c1 c2 hy hhh hyn hq hK
                      go_wp2
                      go_round
                      case rel => exact ⟨j + 1, true, rfl, by go_num, by omega, Lib.hid ⟨fun _ => HE.out, fun h => (by cases h)⟩⟩
                      case measure => simp [intOf]; omega
                    · have e3 : (y == 0) = false := by simp [c2]
                      have HE := Lib.hid (HNO.out (by rw [HC.out, decide_eq_true (show yn ≠ 0 by omega)]; simp))
                      clear c1 c2 hy hhh hyn hq hK
                      go_wp2
                      go_round
                      case rel => exact ⟨j + 1, false, rfl, by go_num, by omega, Lib.hid ⟨fun h => (by cases h), fun _ => HE.out⟩⟩
                      case measure => simp [intOf]; omega
              · have j1 : ¬ (j : Int) < 7 := by omega
                have HOKR : Hid (OkR x l fi) := Lib.hid (HOK.out.2 ⟨(HV.out.1 rfl).1, newG_ok (fun i hi => (HV.out.1 rfl).2 i (by omega))⟩)
                have HS0 : Hid (S ≠ 0) := Lib.hid (fun h => by have := HOKR.out.1; rw [HGG.out] at this; dsimp only at this; omega)
                have FI : Hid (∀ u, Calls Tryd.prog 46 #[.int .i64 (S : Int)] u fun e w' => e = .returned (.int .i64 (T : Int)) ∧ u = w') := Lib.hid (fun u => by rw [← HTT.out]; exact rfirst_any S HLE.out.1 HS0.out u)
                have HST : Hid (RpIn w L g c l k f fi wc) := HP
                have BIT := Lib.hid (fun i => has_bit2 S i)
                have s0 : (0 : Int) ≤ (S : Int) := by omega
                clear hj j0 HV hj7 HOK HCELL hhh
                go_wp2
                go_loopw [13] (fun a wr => ∃ i : Nat, a = .int .i64 (i : Int) ∧ i ≤ 7 ∧ Hid (wr.ownsRow (w.heap.size + 2) 9 1 (.slice (some ⟨g, 0, none⟩) L.length c) L.length (L.map Value.string)) ∧ Hid (Row wr w.heap.size 23 (ints zeroW)) ∧ Hid (Row wr (w.heap.size + 1) 23 (ints (addL S H l i))) ∧ Hid (Below w.heap.size w wr)) (fun a _ => 7 - (intOf a).toNat)
                case atStart => exact ⟨0, rfl, by omega, Lib.hid HP.out.own, Lib.hid HP.out.r0, Lib.hid (by rw [addL_zero _ _ _ HP.out.h7]; exact HP.out.rw), Lib.hid HP.out.b⟩
                case round =>
                  clear j1 lr
                  obtain ⟨i, rfl, hi, HOW, HR0, HRW, HBB⟩ := hrel
                  have i0 : (0 : Int) ≤ (i : Int) := by omega
                  have lr := HRW.out.lt
                  by_cases hi7 : i < 7
                  · have i1 : (i : Int) < 7 := by omega
                    have hbit := BIT.out i
                    have fr := HRW.out.free i
                    obtain ⟨o1, hs3⟩ : ∃ o, wr.cell? ⟨w.heap.size + 1, i, none⟩ = some (.int .i64 o) := by
                      have hc := HRW.out.cell i
                      rw [ints_get, List.getElem?_eq_getElem (show i < (addL S H l i).length by rw [addL_len]; exact hi7)] at hc
                      exact ⟨_, hc⟩
                    cases hq : S.testBit i with
                    | true =>
                      rw [hq] at hbit
                      have HX1 := Lib.hid (show Row (wr.setCell ⟨w.heap.size + 1, i, none⟩ (.int .i64 hh)) (w.heap.size + 1) 23 (ints (addL S H l (i + 1))) by
                        have := HRW.out.put i (.int .i64 hh)
                        rw [← HH.out, addL_put S H l i hi7 hq] at this
                        rw [← HH.out]
                        exact this)
                      have HX2 := Lib.hid (show Row (wr.setCell ⟨w.heap.size + 1, i, none⟩ (.int .i64 hh)) w.heap.size 23 (ints zeroW) from HR0.out.far (by dsimp only; omega) _)
                      have HX3 := Lib.hid (show Below w.heap.size w (wr.setCell ⟨w.heap.size + 1, i, none⟩ (.int .i64 hh)) from HBB.out.setCell (by dsimp only; omega) _)
                      have HX4 := Lib.hid (show (wr.setCell ⟨w.heap.size + 1, i, none⟩ (.int .i64 hh)).ownsRow (w.heap.size + 2) 9 1 (.slice (some ⟨g, 0, none⟩) L.length c) L.length (L.map Value.string) from own_keep HOW.out (fun r hr => by have := own_ge HOW.out r hr; exact Below.heap_setCell wr ⟨w.heap.size + 1, i, none⟩ _ r (by dsimp only; omega)))
                      clear hq
                      go_wp2
                      go_roundw
                      case rel => exact ⟨i + 1, by go_num, by omega, HX4, HX2, HX1, HX3⟩
                      case measure => simp [intOf]; omega
                    | false =>
                      rw [hq] at hbit
                      have HSK := Lib.hid (addL_skip S H l i hq)
                      clear hq
                      go_wp2
                      go_roundw
                      case rel => exact ⟨i + 1, by go_num, by omega, HOW, HR0, Lib.hid (by rw [HSK.out]; exact HRW.out), HBB⟩
                      case measure => simp [intOf]; omega
                  · obtain rfl : i = 7 := by omega
                    have HNEW := Lib.hid (HST.out.good HX.out HOKR.out HGG.out HOW.out HR0.out HRW.out HBB.out)
                    rw [HTT.out] at HNEW
                    go_wp2_with (go_at_call 46; (with_reducible refine Calls.mono (FI.out _) ?_); rintro e' v3 ⟨rfl, rfl⟩)
                    go_roundw
                    case rel => exact ⟨_, k + 1, T, _, rfl, by go_num, by omega, HNEW⟩
                    case measure => simp [intOf]; omega
      · have k1 : ¬ (k : Int) < (N : Int) := by omega
        have hkN : k = N := by omega
        have HE : Hid (parseV s = (l, N, 0)) := Lib.hid (by rw [HPV.out, HP.out.ps, hkN, ← HN.out, List.drop_length]; exact ps_nil _ _ _)
        obtain ⟨y0, y1, y2, y3, y4, y5, y6, rfl⟩ := seven HP.out.h7
        obtain ⟨c0, c1, c2, c3, c4, c5, c6, -⟩ := seven_cells (show Row wr (w.heap.size + 1) 23 (ints [y0, y1, y2, y3, y4, y5, y6]) from HP.out.rw)
        obtain ⟨d0, d1, d2, d3, d4, d5, d6, f0, f1, f2, f3, f4, f5, f6⟩ := seven_cells (show Row wr w.heap.size 23 (ints [0, 0, 0, 0, 0, 0, 0]) from HP.out.r0)
        have la := HP.out.r0.lt
        have lb := HP.out.rw.lt
        clear hkN hlt
        go_wp2
        refine bodyPost_ret (results_wtt rfl _ _ w.heap.size [y0, y1, y2, y3, y4, y5, y6] rfl (put7 rfl HP.out.r0 y0 y1 y2 y3 y4 y5 y6) rfl) rfl ⟨by rw [HE.out]; rfl, below7 HP.out.b (Nat.le_refl _) y0 y1 y2 y3 y4 y5 y6⟩
end Go.Proofs.YtmfpaankkoaoaaaDoor

/- The reference's Not. -/
namespace Go.Proofs.YtmfpaankkoaoaaaDoor
open Go.RowKit Go.Shelf

set_option maxRecDepth 100000 in
set_option maxHeartbeats 8000000 in
theorem rnot_any (la : List Int) (ha : la.length = 7) (w : World) : Calls Tryd.prog 24 #[wv la] w fun e w' => e = .returned (.tuple #[wv (combM fN la la).1, .int .i64 (combM fN la la).2]) ∧ Below w.heap.size w w' := by
  have VA := Lib.hid (fun u => rvalid_any la ha u)
  have HMZ := Lib.hid (fun hv => mixL_zero fN la ha hv)
  have HAA := Lib.hid (fun (hv : validW la = true) k => hrs_le hv k)
  unfold combM
  obtain ⟨LA, hLA⟩ : ∃ L, la = L := ⟨_, rfl⟩
  obtain ⟨a0, a1, a2, a3, a4, a5, a6, rfl⟩ := seven ha
  have hwa : wv LA = .agg #[.int .i64 a0, .int .i64 a1, .int .i64 a2, .int .i64 a3, .int .i64 a4, .int .i64 a5, .int .i64 a6] := by rw [← hLA]; rfl
  have hia : ints LA = #[.int .i64 a0, .int .i64 a1, .int .i64 a2, .int .i64 a3, .int .i64 a4, .int .i64 a5, .int .i64 a6] := by rw [← hLA]; rfl
  simp only [hLA] at VA HMZ HAA ⊢
  rw [hwa] at VA ⊢
  have HIA := Lib.hid hia
  clear hwa ha hLA hia
  obtain ⟨W0, hW0⟩ : ∃ W0, (w.alloc (.cells #[.int .i64 a0, .int .i64 a1, .int .i64 a2, .int .i64 a3, .int .i64 a4, .int .i64 a5, .int .i64 a6] 23)).alloc (.cells #[.int .i64 0, .int .i64 0, .int .i64 0, .int .i64 0, .int .i64 0, .int .i64 0, .int .i64 0] 23) = W0 := ⟨_, rfl⟩
  have RA := Lib.hid (show Row W0 w.heap.size 23 #[.int .i64 a0, .int .i64 a1, .int .i64 a2, .int .i64 a3, .int .i64 a4, .int .i64 a5, .int .i64 a6] by rw [← hW0]; exact (Row.new w _ _).alloc _)
  have RR := Lib.hid (show Row W0 (w.heap.size + 1) 23 #[.int .i64 0, .int .i64 0, .int .i64 0, .int .i64 0, .int .i64 0, .int .i64 0, .int .i64 0] by
    rw [← hW0]
    have := Row.new (w.alloc (.cells #[.int .i64 a0, .int .i64 a1, .int .i64 a2, .int .i64 a3, .int .i64 a4, .int .i64 a5, .int .i64 a6] 23)) 23 #[.int .i64 0, .int .i64 0, .int .i64 0, .int .i64 0, .int .i64 0, .int .i64 0, .int .i64 0]
    rw [World.size_alloc] at this
    exact this)
  have HB := Lib.hid (show Below w.heap.size w W0 by rw [← hW0]; exact ((Below.refl _ w).alloc (Nat.le_refl _) _).alloc (by simp) _)
  have HW0 := Lib.hid hW0
  clear hW0
  have x0 := RA.out.cell 0; have x1 := RA.out.cell 1; have x2 := RA.out.cell 2; have x3 := RA.out.cell 3; have x4 := RA.out.cell 4; have x5 := RA.out.cell 5; have x6 := RA.out.cell 6; have la_ := RA.out.lt
  cases hva : validW LA with
  | false =>
    rw [hva] at VA
    clear hva HMZ HAA HIA
    go_enter Tryd.func24, Tryd.ntmps24
    go_upto_region 1 with (fail)
    rw [HW0.out]
    go_upto_region 2 with (go_at_call 7; (with_reducible refine Calls.mono (VA.out _) ?_); rintro r u1 ⟨rfl, hb⟩; have HB := Lib.hid (below_to HB.out hb); have RA := Lib.hid (RA.out.below hb RA.out.lt); have RR := Lib.hid (RR.out.below hb RR.out.lt); clear hb)
    obtain ⟨d0, d1, d2, d3, d4, d5, d6, f0, f1, f2, f3, f4, f5, f6⟩ := seven_cells (rowW RR.out)
    have lr := RR.out.lt
    clear VA
    go_wp2
    refine bodyPost_ret (results_wt rfl _ _ (w.heap.size + 1) [0, 0, 0, 0, 0, 0, 0] rfl (put7 (l := [0, 0, 0, 0, 0, 0, 0]) rfl (rowW RR.out) 0 0 0 0 0 0 0) rfl) rfl ⟨rfl, below7 HB.out (by omega) 0 0 0 0 0 0 0⟩
  | true =>
    rw [hva] at VA
    have HMZ2 := Lib.hid (HMZ.out hva)
    have HL := Lib.hid (HAA.out hva)
    have HC := Lib.hid (combL_len fN LA LA)
    clear hva HMZ HAA
    go_enter Tryd.func24, Tryd.ntmps24
    go_upto_region 1 with (fail)
    rw [HW0.out]
    go_upto_region 3 with (go_at_call 7; (with_reducible refine Calls.mono (VA.out _) ?_); rintro r u1 ⟨rfl, hb⟩; have HB := Lib.hid (below_to HB.out hb); have RA := Lib.hid (RA.out.below hb RA.out.lt); have RR := Lib.hid (RR.out.below hb RR.out.lt); clear hb)
    clear x0 x1 x2 x3 x4 x5 x6 la_
    have RA2 := Lib.hid (show Row u1 w.heap.size 23 (ints (mixL fN LA LA 0)) by rw [HMZ2.out, HIA.out]; exact RA.out)
    go_wp2
    go_loopw [4] (fun i wr => ∃ k : Nat, k ≤ 7 ∧ i = .int .i64 (k : Int) ∧ Hid (Row wr w.heap.size 23 (ints (mixL fN LA LA k))) ∧ Hid (Row wr (w.heap.size + 1) 23 #[.int .i64 0, .int .i64 0, .int .i64 0, .int .i64 0, .int .i64 0, .int .i64 0, .int .i64 0]) ∧ Hid (Below w.heap.size w wr)) (fun i _ => 7 - (intOf i).toNat)
    case atStart => exact ⟨0, by omega, rfl, RA2, RR, HB⟩
    case round =>
      clear RA2 RA RR HB
      obtain ⟨k, hk, rfl, RA, RR, HB⟩ := hrel
      have i1 : (0 : Int) ≤ (k : Int) := by omega
      by_cases hlt : k < 7
      · have i2 : (k : Int) < 7 := by omega
        have hl := HL.out k
        have ca := (RA.out.cell k).trans (mixL_at fN LA LA k hlt)
        have fa := RA.out.free k
        have lA := RA.out.lt
        have HP := Lib.hid (show (ints (mixL fN LA LA k)).setIfInBounds k (.int .i64 ((16777215 - hrs LA k : Nat) : Int)) = ints (mixL fN LA LA (k + 1)) from mixL_put fN LA LA k hlt)
        obtain ⟨p, hp⟩ : ∃ p, hrs LA k = p := ⟨_, rfl⟩
        rw [hp] at HP ca hl
        rw [show ((16777215 - p : Nat) : Int) = 16777215 - (p : Int) by omega] at HP
        obtain ⟨P, hP⟩ : ∃ P : Int, (p : Int) = P := ⟨_, rfl⟩
        have hP0 : 0 ≤ P := by omega
        have hP1 : P ≤ 16777215 := by omega
        rw [hP] at HP ca
        clear hp hl hP
        go_wp2
        go_roundw
        case rel => exact ⟨k + 1, by omega, by go_num, Lib.hid (by rw [← HP.out]; exact (Row.put RA.out k _)), Lib.hid ((Row.far RR.out (p := ⟨w.heap.size, k, none⟩) (by dsimp only; omega) _)), Lib.hid ((Below.setCell HB.out (p := ⟨w.heap.size, k, none⟩) (by dsimp only; omega) _))⟩
        case measure => simp [intOf]; omega
      · have hk7 : k = 7 := by omega
        subst hk7
        have ra := RA.out
        rw [mixL_all] at ra
        obtain ⟨p0, p1, p2, p3, p4, p5, p6, hp⟩ := seven HC.out
        rw [hp] at ra
        obtain ⟨c0, c1, c2, c3, c4, c5, c6, -⟩ := seven_cells ra
        obtain ⟨d0, d1, d2, d3, d4, d5, d6, f0, f1, f2, f3, f4, f5, f6⟩ := seven_cells (rowW RR.out)
        have lA := RA.out.lt; have lR := RR.out.lt
        have HP := Lib.hid hp
        clear ra hp
        go_wp2
        refine bodyPost_ret (results_wt rfl _ _ (w.heap.size + 1) [p0, p1, p2, p3, p4, p5, p6] rfl (put7 (l := [0, 0, 0, 0, 0, 0, 0]) rfl (rowW RR.out) p0 p1 p2 p3 p4 p5 p6) rfl) rfl ⟨by rw [← HP.out]; rfl, below7 HB.out (by omega) p0 p1 p2 p3 p4 p5 p6⟩
end Go.Proofs.YtmfpaankkoaoaaaDoor

/- The pairs of calls of WeekMatchesReference: both sides answer alike. -/
namespace Go.Proofs.YtmfpaankkoaoaaaDoor
open Go.RowKit Go.Shelf

/-- A call that answers r and writes only memory of its own, in worlds with the tables. -/
abbrev AnsT (f : FuncId) (args : Array Value) (r : Value) : Prop := ∀ u, Tabs u → Calls Tryd.prog f args u fun e w' => e = .returned r ∧ Below u.heap.size u w'
abbrev Ans (f : FuncId) (args : Array Value) (r : Value) : Prop := ∀ u, Calls Tryd.prog f args u fun e w' => e = .returned r ∧ Below u.heap.size u w'
theorem b_valid (y0 y1 y2 y3 y4 y5 y6 : Int) : ∃ v : Bool, Ans 6 #[.agg #[.int .i64 y0, .int .i64 y1, .int .i64 y2, .int .i64 y3, .int .i64 y4, .int .i64 y5, .int .i64 y6]] (.bool v) ∧ Ans 7 #[.agg #[.int .i64 y0, .int .i64 y1, .int .i64 y2, .int .i64 y3, .int .i64 y4, .int .i64 y5, .int .i64 y6]] (.bool v) :=
  ⟨validW [y0, y1, y2, y3, y4, y5, y6], fun u => valid_any [y0, y1, y2, y3, y4, y5, y6] rfl u, fun u => rvalid_any [y0, y1, y2, y3, y4, y5, y6] rfl u⟩
theorem b_next (y0 y1 y2 y3 y4 y5 y6 t : Int) : ∃ (n : Int) (v : Bool), AnsT 9 #[.agg #[.int .i64 y0, .int .i64 y1, .int .i64 y2, .int .i64 y3, .int .i64 y4, .int .i64 y5, .int .i64 y6], .int .i64 t] (.tuple #[.int .i64 n, .bool v]) ∧ Ans 10 #[.agg #[.int .i64 y0, .int .i64 y1, .int .i64 y2, .int .i64 y3, .int .i64 y4, .int .i64 y5, .int .i64 y6], .int .i64 t] (.tuple #[.int .i64 n, .bool v]) :=
  ⟨(nextV [y0, y1, y2, y3, y4, y5, y6] t).1, (nextV [y0, y1, y2, y3, y4, y5, y6] t).2, fun u hu => next_any [y0, y1, y2, y3, y4, y5, y6] rfl t u hu.t (tz4 hu), fun u => rnext_any [y0, y1, y2, y3, y4, y5, y6] rfl t u⟩
theorem b_in (y0 y1 y2 y3 y4 y5 y6 t : Int) : ∃ (v : Bool), Ans 11 #[.agg #[.int .i64 y0, .int .i64 y1, .int .i64 y2, .int .i64 y3, .int .i64 y4, .int .i64 y5, .int .i64 y6], .int .i64 t] (.bool v) ∧ Ans 12 #[.agg #[.int .i64 y0, .int .i64 y1, .int .i64 y2, .int .i64 y3, .int .i64 y4, .int .i64 y5, .int .i64 y6], .int .i64 t] (.bool v) :=
  ⟨inW [y0, y1, y2, y3, y4, y5, y6] t, fun u => in_any [y0, y1, y2, y3, y4, y5, y6] rfl t u, fun u => rin_any [y0, y1, y2, y3, y4, y5, y6] rfl t u⟩
theorem b_secs (y0 y1 y2 y3 y4 y5 y6 p q : Int) : ∃ (n e : Int), AnsT 16 #[.agg #[.int .i64 y0, .int .i64 y1, .int .i64 y2, .int .i64 y3, .int .i64 y4, .int .i64 y5, .int .i64 y6], .agg #[.int .i64 p, .int .i64 q]] (.tuple #[.int .i64 n, .int .i64 e]) ∧ Ans 17 #[.agg #[.int .i64 y0, .int .i64 y1, .int .i64 y2, .int .i64 y3, .int .i64 y4, .int .i64 y5, .int .i64 y6], .agg #[.int .i64 p, .int .i64 q]] (.tuple #[.int .i64 n, .int .i64 e]) :=
  ⟨(secsV [y0, y1, y2, y3, y4, y5, y6] p q).1, (secsV [y0, y1, y2, y3, y4, y5, y6] p q).2, fun u hu => seconds_any [y0, y1, y2, y3, y4, y5, y6] rfl p q u hu.t (tz4 hu), fun u => rseconds_any [y0, y1, y2, y3, y4, y5, y6] rfl p q u⟩
theorem b_spells (y0 y1 y2 y3 y4 y5 y6 p q : Int) : ∃ (L : List (Int × Int)) (e : Int), (∀ u, Tabs u → Calls Tryd.prog 14 #[.agg #[.int .i64 y0, .int .i64 y1, .int .i64 y2, .int .i64 y3, .int .i64 y4, .int .i64 y5, .int .i64 y6], .agg #[.int .i64 p, .int .i64 q]] u fun r w' => ∃ (A : Option Addr) (cp : Nat), r = .returned (.tuple #[.slice A L.length cp, .int .i64 e]) ∧ Recs enc2 2 w' w'.heap.size (.slice A L.length cp) L ∧ L.length ≤ cp ∧ cp ≤ 9223372036854775807 ∧ Below u.heap.size u w') ∧ (∀ u, Calls Tryd.prog 15 #[.agg #[.int .i64 y0, .int .i64 y1, .int .i64 y2, .int .i64 y3, .int .i64 y4, .int .i64 y5, .int .i64 y6], .agg #[.int .i64 p, .int .i64 q]] u fun r w' => ∃ (A : Option Addr) (cp : Nat), r = .returned (.tuple #[.slice A L.length cp, .int .i64 e]) ∧ Recs enc2 2 w' w'.heap.size (.slice A L.length cp) L ∧ L.length ≤ cp ∧ cp ≤ 9223372036854775807 ∧ Below u.heap.size u w') := by
  refine ⟨(spsV [y0, y1, y2, y3, y4, y5, y6] p q).1.map ip, (spsV [y0, y1, y2, y3, y4, y5, y6] p q).2, fun u hu => (spells_any [y0, y1, y2, y3, y4, y5, y6] rfl p q u hu.t (tz4 hu)).mono ?_, fun u => (rspells_any [y0, y1, y2, y3, y4, y5, y6] rfl p q u).mono ?_⟩
  · rintro r w' ⟨v, rfl, ho, hb⟩
    have hr := recs_of_own ho (by simp)
    obtain ⟨A, cp, rfl, h1, h2⟩ := recs_form hr
    exact ⟨A, cp, rfl, hr, h1, h2, hb⟩
  · rintro r w' ⟨v, rfl, hr, hb⟩
    obtain ⟨A, cp, rfl, h1, h2⟩ := recs_form hr
    exact ⟨A, cp, rfl, hr, h1, h2, hb⟩
theorem b_and (y0 y1 y2 y3 y4 y5 y6 z0 z1 z2 z3 z4 z5 z6 : Int) : ∃ (r0 r1 r2 r3 r4 r5 r6 e : Int), Ans 19 #[.agg #[.int .i64 y0, .int .i64 y1, .int .i64 y2, .int .i64 y3, .int .i64 y4, .int .i64 y5, .int .i64 y6], .agg #[.int .i64 z0, .int .i64 z1, .int .i64 z2, .int .i64 z3, .int .i64 z4, .int .i64 z5, .int .i64 z6]] (.tuple #[.agg #[.int .i64 r0, .int .i64 r1, .int .i64 r2, .int .i64 r3, .int .i64 r4, .int .i64 r5, .int .i64 r6], .int .i64 e]) ∧ Ans 20 #[.agg #[.int .i64 y0, .int .i64 y1, .int .i64 y2, .int .i64 y3, .int .i64 y4, .int .i64 y5, .int .i64 y6], .agg #[.int .i64 z0, .int .i64 z1, .int .i64 z2, .int .i64 z3, .int .i64 z4, .int .i64 z5, .int .i64 z6]] (.tuple #[.agg #[.int .i64 r0, .int .i64 r1, .int .i64 r2, .int .i64 r3, .int .i64 r4, .int .i64 r5, .int .i64 r6], .int .i64 e]) := by
  obtain ⟨r0, r1, r2, r3, r4, r5, r6, -, hw⟩ := two_ways _ (combM_len fA [y0, y1, y2, y3, y4, y5, y6] [z0, z1, z2, z3, z4, z5, z6])
  have h1 := fun u => And_any [y0, y1, y2, y3, y4, y5, y6] [z0, z1, z2, z3, z4, z5, z6] rfl rfl u
  have h2 := fun u => rand_any [y0, y1, y2, y3, y4, y5, y6] [z0, z1, z2, z3, z4, z5, z6] rfl rfl u
  rw [show wv (combM fA [y0, y1, y2, y3, y4, y5, y6] [z0, z1, z2, z3, z4, z5, z6]).1 = _ from hw] at h2
  refine ⟨r0, r1, r2, r3, r4, r5, r6, (combM fA [y0, y1, y2, y3, y4, y5, y6] [z0, z1, z2, z3, z4, z5, z6]).2, fun u => ?_, fun u => h2 u⟩
  have h := h1 u
  rw [show wv (combM fA [y0, y1, y2, y3, y4, y5, y6] [z0, z1, z2, z3, z4, z5, z6]).1 = _ from hw] at h
  exact h
theorem b_or (y0 y1 y2 y3 y4 y5 y6 z0 z1 z2 z3 z4 z5 z6 : Int) : ∃ (r0 r1 r2 r3 r4 r5 r6 e : Int), Ans 21 #[.agg #[.int .i64 y0, .int .i64 y1, .int .i64 y2, .int .i64 y3, .int .i64 y4, .int .i64 y5, .int .i64 y6], .agg #[.int .i64 z0, .int .i64 z1, .int .i64 z2, .int .i64 z3, .int .i64 z4, .int .i64 z5, .int .i64 z6]] (.tuple #[.agg #[.int .i64 r0, .int .i64 r1, .int .i64 r2, .int .i64 r3, .int .i64 r4, .int .i64 r5, .int .i64 r6], .int .i64 e]) ∧ Ans 22 #[.agg #[.int .i64 y0, .int .i64 y1, .int .i64 y2, .int .i64 y3, .int .i64 y4, .int .i64 y5, .int .i64 y6], .agg #[.int .i64 z0, .int .i64 z1, .int .i64 z2, .int .i64 z3, .int .i64 z4, .int .i64 z5, .int .i64 z6]] (.tuple #[.agg #[.int .i64 r0, .int .i64 r1, .int .i64 r2, .int .i64 r3, .int .i64 r4, .int .i64 r5, .int .i64 r6], .int .i64 e]) := by
  obtain ⟨r0, r1, r2, r3, r4, r5, r6, -, hw⟩ := two_ways _ (combM_len fO [y0, y1, y2, y3, y4, y5, y6] [z0, z1, z2, z3, z4, z5, z6])
  have h1 := fun u => Or_any [y0, y1, y2, y3, y4, y5, y6] [z0, z1, z2, z3, z4, z5, z6] rfl rfl u
  have h2 := fun u => ror_any [y0, y1, y2, y3, y4, y5, y6] [z0, z1, z2, z3, z4, z5, z6] rfl rfl u
  rw [show wv (combM fO [y0, y1, y2, y3, y4, y5, y6] [z0, z1, z2, z3, z4, z5, z6]).1 = _ from hw] at h2
  refine ⟨r0, r1, r2, r3, r4, r5, r6, (combM fO [y0, y1, y2, y3, y4, y5, y6] [z0, z1, z2, z3, z4, z5, z6]).2, fun u => ?_, fun u => h2 u⟩
  have h := h1 u
  rw [show wv (combM fO [y0, y1, y2, y3, y4, y5, y6] [z0, z1, z2, z3, z4, z5, z6]).1 = _ from hw] at h
  exact h
theorem b_not (y0 y1 y2 y3 y4 y5 y6 : Int) : ∃ (r0 r1 r2 r3 r4 r5 r6 e : Int), Ans 23 #[.agg #[.int .i64 y0, .int .i64 y1, .int .i64 y2, .int .i64 y3, .int .i64 y4, .int .i64 y5, .int .i64 y6]] (.tuple #[.agg #[.int .i64 r0, .int .i64 r1, .int .i64 r2, .int .i64 r3, .int .i64 r4, .int .i64 r5, .int .i64 r6], .int .i64 e]) ∧ Ans 24 #[.agg #[.int .i64 y0, .int .i64 y1, .int .i64 y2, .int .i64 y3, .int .i64 y4, .int .i64 y5, .int .i64 y6]] (.tuple #[.agg #[.int .i64 r0, .int .i64 r1, .int .i64 r2, .int .i64 r3, .int .i64 r4, .int .i64 r5, .int .i64 r6], .int .i64 e]) := by
  obtain ⟨r0, r1, r2, r3, r4, r5, r6, -, hw⟩ := two_ways _ (combM_len fN [y0, y1, y2, y3, y4, y5, y6] [y0, y1, y2, y3, y4, y5, y6])
  have h1 := fun u => Not_any [y0, y1, y2, y3, y4, y5, y6] rfl u
  have h2 := fun u => rnot_any [y0, y1, y2, y3, y4, y5, y6] rfl u
  rw [show wv (combM fN [y0, y1, y2, y3, y4, y5, y6] [y0, y1, y2, y3, y4, y5, y6]).1 = _ from hw] at h2
  refine ⟨r0, r1, r2, r3, r4, r5, r6, (combM fN [y0, y1, y2, y3, y4, y5, y6] [y0, y1, y2, y3, y4, y5, y6]).2, fun u => ?_, fun u => h2 u⟩
  have h := h1 u
  rw [show wv (combM fN [y0, y1, y2, y3, y4, y5, y6] [y0, y1, y2, y3, y4, y5, y6]).1 = _ from hw] at h
  exact h
/-- The reference's Print of what is no week. -/
theorem rprint_bad (y0 y1 y2 y3 y4 y5 y6 : Int) (hv : validW [y0, y1, y2, y3, y4, y5, y6] = false) (w : World) : Calls Tryd.prog 26 #[.agg #[.int .i64 y0, .int .i64 y1, .int .i64 y2, .int .i64 y3, .int .i64 y4, .int .i64 y5, .int .i64 y6]] w fun r w' => r = .returned (.tuple #[.string ⟨#[]⟩, .int .i64 60]) ∧ Below w.heap.size w w' := by
  have VA : Hid (Ans 7 #[.agg #[.int .i64 y0, .int .i64 y1, .int .i64 y2, .int .i64 y3, .int .i64 y4, .int .i64 y5, .int .i64 y6]] (.bool false)) := Lib.hid (fun u => by have := rvalid_any [y0, y1, y2, y3, y4, y5, y6] rfl u; rw [hv] at this; exact this)
  clear hv
  go_enter Tryd.func26, Tryd.ntmps26
  go_wp2_with (go_at_call 7; ((with_reducible refine Calls.mono (VA.out _) ?_)); rintro e' w1 ⟨rfl, hb1⟩; have HB := Lib.hid (below_to ((Below.refl _ w).alloc (Nat.le_refl _) _) hb1); clear hb1)
  refine bodyPost_ret (results_tmp2 rfl _ _ _) rfl ⟨rfl, HB.out⟩
theorem b_print (y0 y1 y2 y3 y4 y5 y6 : Int) : ∃ (T : ByteArray) (e : Int), T.size ≤ 100000 ∧ AnsT 25 #[.agg #[.int .i64 y0, .int .i64 y1, .int .i64 y2, .int .i64 y3, .int .i64 y4, .int .i64 y5, .int .i64 y6]] (.tuple #[.string T, .int .i64 e]) ∧ Ans 26 #[.agg #[.int .i64 y0, .int .i64 y1, .int .i64 y2, .int .i64 y3, .int .i64 y4, .int .i64 y5, .int .i64 y6]] (.tuple #[.string T, .int .i64 e]) := by
  refine ⟨(printV [y0, y1, y2, y3, y4, y5, y6]).1, (printV [y0, y1, y2, y3, y4, y5, y6]).2, ?_, fun u hu => print_any [y0, y1, y2, y3, y4, y5, y6] rfl u hu, fun u => ?_⟩
  · cases hv : validW [y0, y1, y2, y3, y4, y5, y6] with
    | true => exact (print_size rfl hv).2
    | false => rw [print_bad hv]; decide
  · cases hv : validW [y0, y1, y2, y3, y4, y5, y6] with
    | true => exact rprint_any ⟨rfl, hv⟩ u
    | false =>
      rw [print_bad hv]
      exact rprint_bad y0 y1 y2 y3 y4 y5 y6 hv u
theorem parse_seven (s : ByteArray) : (parseV s).1.length = 7 := by
  rcases parse_err s with h | ⟨-, h⟩
  · exact (print_parse (u := s) (l := (parseV s).1) (n := (parseV s).2.1) (Prod.ext rfl (Prod.ext rfl h))).1
  · rw [h]; rfl
theorem b_parse (s : ByteArray) (hs : s.size ≤ 200000) : ∃ (r0 r1 r2 r3 r4 r5 r6 n e : Int), AnsT 27 #[.string s] (.tuple #[.agg #[.int .i64 r0, .int .i64 r1, .int .i64 r2, .int .i64 r3, .int .i64 r4, .int .i64 r5, .int .i64 r6], .int .i64 n, .int .i64 e]) ∧ Ans 28 #[.string s] (.tuple #[.agg #[.int .i64 r0, .int .i64 r1, .int .i64 r2, .int .i64 r3, .int .i64 r4, .int .i64 r5, .int .i64 r6], .int .i64 n, .int .i64 e]) := by
  obtain ⟨r0, r1, r2, r3, r4, r5, r6, -, hw⟩ := two_ways _ (parse_seven s)
  have h1 := fun u hu => parse_any s (by omega) u hu
  have h2 := fun u => rparse_any s hs u
  rw [show wv (parseV s).1 = _ from hw] at h2
  refine ⟨r0, r1, r2, r3, r4, r5, r6, ((parseV s).2.1 : Int), (parseV s).2.2, fun u hu => ?_, fun u => h2 u⟩
  have h := h1 u hu
  rw [show wv (parseV s).1 = _ from hw] at h
  exact h
theorem hold2 {W u u' : World} {g : Nat} {c0 c1 : Value} (h : Below W.heap.size W u ∧ u.cell? ⟨g, 0, none⟩ = some c0 ∧ u.cell? ⟨g, 1, none⟩ = some c1) (hb : Below u.heap.size u u') (hg : g < W.heap.size) : Below W.heap.size W u' ∧ u'.cell? ⟨g, 0, none⟩ = some c0 ∧ u'.cell? ⟨g, 1, none⟩ = some c1 := by
  obtain ⟨a, h0, h1⟩ := h
  have hz := a.size
  have hk : ∀ i, u'.cell? ⟨g, i, none⟩ = u.cell? ⟨g, i, none⟩ := fun i => hb.cell (by show g < _; omega)
  exact ⟨below_to a hb, (hk 0).trans h0, (hk 1).trans h1⟩
theorem hold2a {W u : World} {g : Nat} {c0 c1 : Value} (h : Below W.heap.size W u ∧ u.cell? ⟨g, 0, none⟩ = some c0 ∧ u.cell? ⟨g, 1, none⟩ = some c1) (o : Obj) (hg : g < W.heap.size) : Below W.heap.size W (u.alloc o) ∧ (u.alloc o).cell? ⟨g, 0, none⟩ = some c0 ∧ (u.alloc o).cell? ⟨g, 1, none⟩ = some c1 :=
  hold2 h ((Below.refl _ u).alloc (Nat.le_refl _) o) hg
end Go.Proofs.YtmfpaankkoaoaaaDoor
