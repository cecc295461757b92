/- The reference's Made. -/
import Derived.Test.YtnmhigjannihgaaJo
import Derived.IntWalk
namespace Go.Proofs.Ytnmhigjannihgaa
open Go.RowKit Go.Shelf

theorem own_stay {w w' : World} {base : Nat} {e : TypeId} {size n : Nat} {v : Value} {xs : List Value} (h : w.ownsRow base e size v n xs) (hk : ∀ j, base ≤ j → j < w.heap.size → w'.heap[j]? = w.heap[j]?) : w'.ownsRow base e size v n xs := by
  refine ⟨h.1, ?_⟩
  rcases h.2 with h0 | ⟨g, cap, cur, rfl, hb, hg, r⟩
  · exact .inl h0
  · exact .inr ⟨g, cap, cur, rfl, hb, (hk g hb (Array.getElem?_eq_some_iff.1 hg).1).trans hg, r⟩

theorem inP_top {m : Int} : ∀ {l : List (Int × Int)} {e : Int}, partsF m e l → inP l m = false
  | [], _, _ => rfl
  | q :: l, e, h => by
    have h1 := inP_top h.2.2.2
    have h2 := h.2.2.1
    unfold inP at h1 ⊢
    simp only [List.any_cons, h1, Bool.or_false, Bool.and_eq_false_iff, decide_eq_false_iff_not]
    omega
theorem partsF_up {m n : Int} (hmn : m ≤ n) : ∀ {l : List (Int × Int)} {e : Int}, partsF m e l → partsF n e l
  | [], _, _ => trivial
  | q :: l, e, h => ⟨h.1, h.2.1, by have := h.2.2.1; omega, partsF_up hmn h.2.2.2⟩
theorem bef_pos {m : Int} (hm : 0 ≤ m) {l : List (Int × Int)} (h : partsF m 0 l) : 0 < bef (m + 1) l := by
  have h1 := bef_step h m
  rw [inP_top h] at h1
  have h2 := bef_le h hm
  rw [bef_zero h (Int.le_refl _)] at h2
  simp at h1
  omega
theorem i64_div6 {x : Int} (h : I64 x) : I64 (x.tdiv 6) := by
  unfold I64 at h ⊢
  rcases Int.le_total 0 x with k | k
  · rw [Int.tdiv_eq_ediv_of_nonneg k]; omega
  · rw [show x = -(-x) by omega, Int.neg_tdiv, Int.tdiv_eq_ediv_of_nonneg (by omega)]; omega
theorem results_i {fn : Func} {p : Tmp} (h : fn.results = #[.cell p 24]) (tmps : Array Value) (w : World) (g : Nat) (v0 v1 v2 v3 v4 v5 v6 v7 : Value) (hp : tmps.getD p undef = .pointer (some ⟨g, 0, none⟩)) (hg : Row w g 24 #[v0, v1, v2, v3, v4, v5, v6, v7]) :
    (results fn tmps).run Try.prog w = .ok (.agg #[v0, v1, v2, v3, v4, v5, v6, v7]) w := by
  have hp' : tmps[p]?.getD undef = .pointer (some ⟨g, 0, none⟩) := by simpa using hp
  have y0 : w.cell? ⟨g, 0, none⟩ = some v0 := hg.cell 0
  have y1 : w.cell? ⟨g, 1, none⟩ = some v1 := hg.cell 1
  have y2 : w.cell? ⟨g, 2, none⟩ = some v2 := hg.cell 2
  have y3 : w.cell? ⟨g, 3, none⟩ = some v3 := hg.cell 3
  have y4 : w.cell? ⟨g, 4, none⟩ = some v4 := hg.cell 4
  have y5 : w.cell? ⟨g, 5, none⟩ = some v5 := hg.cell 5
  have y6 : w.cell? ⟨g, 6, none⟩ = some v6 := hg.cell 6
  have y7 : w.cell? ⟨g, 7, none⟩ = some v7 := hg.cell 7
  simp [results, h, hp', asAddr, go_sem, y0, y1, y2, y3, y4, y5, y6, y7]
abbrev put8 (w : World) (g : Nat) (v0 v1 v2 v3 v4 v5 v6 v7 : Value) : World := ((((((((w.setCell ⟨g, 0, none⟩ v0).setCell ⟨g, 1, none⟩ v1).setCell ⟨g, 2, none⟩ v2).setCell ⟨g, 3, none⟩ v3).setCell ⟨g, 4, none⟩ v4).setCell ⟨g, 5, none⟩ v5).setCell ⟨g, 6, none⟩ v6).setCell ⟨g, 7, none⟩ v7)
theorem put8_stay (w : World) (g : Nat) (v0 v1 v2 v3 v4 v5 v6 v7 : Value) (j : Nat) (hj : g ≠ j) : (put8 w g v0 v1 v2 v3 v4 v5 v6 v7).heap[j]? = w.heap[j]? := by
  simp [World.setCell, Array.getElem?_modify, hj]
theorem put8_row {w : World} {g : Nat} {x0 x1 x2 x3 x4 x5 x6 x7 : Value} (h : Row w g 24 #[x0, x1, x2, x3, x4, x5, x6, x7]) (v0 v1 v2 v3 v4 v5 v6 v7 : Value) : Row (put8 w g v0 v1 v2 v3 v4 v5 v6 v7) g 24 #[v0, v1, v2, v3, v4, v5, v6, v7] := by
  have e := ((((((((h.put 0 v0).put 1 v1).put 2 v2).put 3 v3).put 4 v4).put 5 v5).put 6 v6).put 7 v7)
  simp only [List.setIfInBounds_toArray, List.set] at e
  exact e
theorem put8_below {w u : World} {B g : Nat} (h : Below B u w) (hg : B ≤ g) (v0 v1 v2 v3 v4 v5 v6 v7 : Value) : Below B u (put8 w g v0 v1 v2 v3 v4 v5 v6 v7) := ((((((((h.setCell (p := ⟨g, 0, none⟩) hg _).setCell (p := ⟨g, 1, none⟩) hg _).setCell (p := ⟨g, 2, none⟩) hg _).setCell (p := ⟨g, 3, none⟩) hg _).setCell (p := ⟨g, 4, none⟩) hg _).setCell (p := ⟨g, 5, none⟩) hg _).setCell (p := ⟨g, 6, none⟩) hg _).setCell (p := ⟨g, 7, none⟩) hg _)
set_option maxRecDepth 100000 in
set_option maxHeartbeats 4000000 in
theorem rmade_any (id x0 x1 x2 x3 x4 x5 : Int) (hi : I64 id) (hx : ∀ x ∈ [x0, x1, x2, x3, x4, x5], I64 x) (w : World) :
    Calls Try.prog 10 #[.int .i64 id, .agg #[.int .i64 x0, .int .i64 x1, .int .i64 x2, .int .i64 x3, .int .i64 x4, .int .i64 x5]] w fun e w' => ∃ (i : ItemP) (A1 A2 : Option Addr) (n1 c1 n2 c2 : Nat), e = .returned (.agg #[.int .i64 i.id, .int .i64 i.kind, .int .i64 i.len, .slice A1 n1 c1, .slice A2 n2 c2, .int .i64 i.artist, .int .i64 i.tempo, .int .i64 i.lang]) ∧ OkItem i ∧ ItAt i A1 n1 c1 A2 n2 c2 w'.heap.size w' ∧ Below w.heap.size w w' := by
  obtain ⟨W, hW⟩ : ∃ W, (w.alloc (.cells #[.int .i64 x0, .int .i64 x1, .int .i64 x2, .int .i64 x3, .int .i64 x4, .int .i64 x5] 25)).alloc (.cells #[.int .i64 0, .int .i64 0, .int .i64 0, .slice none 0 0, .slice none 0 0, .int .i64 0, .int .i64 0, .int .i64 0] 24) = W := ⟨_, rfl⟩
  have RX := Lib.hid (show Row W w.heap.size 25 #[.int .i64 x0, .int .i64 x1, .int .i64 x2, .int .i64 x3, .int .i64 x4, .int .i64 x5] by rw [← hW]; exact (Row.new _ _ _).alloc _)
  have RI := Lib.hid (show Row W (w.heap.size + 1) 24 #[.int .i64 0, .int .i64 0, .int .i64 0, .slice none 0 0, .slice none 0 0, .int .i64 0, .int .i64 0, .int .i64 0] by rw [← hW]; have h := Row.new (w.alloc (.cells #[.int .i64 x0, .int .i64 x1, .int .i64 x2, .int .i64 x3, .int .i64 x4, .int .i64 x5] 25)) 24 #[.int .i64 0, .int .i64 0, .int .i64 0, .slice none 0 0, .slice none 0 0, .int .i64 0, .int .i64 0, .int .i64 0]; rw [World.size_alloc] at h; exact h)
  have HB := Lib.hid (show Below w.heap.size w W by rw [← hW]; exact ((Below.refl _ w).alloc (Nat.le_refl _) _).alloc (by simp) _)
  have P1 := Lib.hid (fun u => rpick_any id 200 (by decide) (by decide) hi.1 hi.2 u)
  have P2 := Lib.hid (fun u => rpick_any x0 7 (by decide) (by decide) (hx x0 (by simp)).1 (hx x0 (by simp)).2 u)
  have P3 := Lib.hid (fun u => rpick_any x1 400 (by decide) (by decide) (hx x1 (by simp)).1 (hx x1 (by simp)).2 u)
  have ha := pickI_lt id 200 (by decide)
  have hb := pickI_lt x0 7 (by decide)
  have hc := pickI_lt x1 400 (by decide)
  generalize pickI id 200 = a at *
  generalize pickI x0 7 = b at *
  generalize pickI x1 400 = c at *
  have HX := Lib.hid hx
  have sB : w.heap.size + 2 = W.heap.size := by rw [← hW]; simp
  have HW := Lib.hid hW
  have a0 := ha.1; have a1 := ha.2; have b0 := hb.1; have b1 := hb.2; have d0 := hc.1; have d1 := hc.2
  clear hW hx hi ha hb hc
  go_enter Try.func10, Try.ntmps10
  go_upto_region 1 with (fail)
  rw [HW.out]
  clear HW
  go_cut [5] from 6 to 16 (fun p wx => ∃ g, p = .pointer (some ⟨g, 0, none⟩) ∧ W.heap.size ≤ g ∧ Hid (Row wx g 24 #[.int .i64 a, .int .i64 (1 + b), .int .i64 (1 + c), .slice none 0 0, .slice none 0 0, .int .i64 0, .int .i64 0, .int .i64 0]) ∧ Hid (Below W.heap.size W wx))
  case first =>
    have c0 : W.cell? ⟨w.heap.size, 0, none⟩ = some (.int .i64 x0) := RX.out.cell 0
    have c1 : W.cell? ⟨w.heap.size, 1, none⟩ = some (.int .i64 x1) := RX.out.cell 1
    have lx := RX.out.lt
    have hw1 : IntKind.i64.wrap (1 + b) = 1 + b := IntWalk.i64_in _ (by omega)
    have hw2 : IntKind.i64.wrap (1 + c) = 1 + c := IntWalk.i64_in _ (by omega)
    have HSK := Lib.hid (fun y (h : Below W.heap.size W y) => (⟨h, (RX.out.below h RX.out.lt).cell 0, (RX.out.below h RX.out.lt).cell 1⟩ : Below W.heap.size W y ∧ y.cell? ⟨w.heap.size, 0, none⟩ = some (.int .i64 x0) ∧ y.cell? ⟨w.heap.size, 1, none⟩ = some (.int .i64 x1)))
    refine wp_region_noPanic ?_
    refine wp_region_held_drew (S := fun y => Below W.heap.size W y ∧ y.cell? ⟨w.heap.size, 0, none⟩ = some (.int .i64 x0) ∧ y.cell? ⟨w.heap.size, 1, none⟩ = some (.int .i64 x1)) (by kernel_rfl) ?_ (fun hHeld => ?_)
    · exact HSK.out _ (Below.refl _ _).drew
    refine wpAnyH_take (i := 0) (oi := _) (v := ?_) rfl (by kernel_rfl) (by kernel_rfl) (by kernel_rfl) (fun _ _ _ h => h) (Or.inl ⟨by rfl, ?_⟩) (by assumption) ?_
    rotate_left
    · (intro w hSw; (try dsimp only at hSw); go_simp; all_goals (with_reducible rfl))
    simp only [Act.put, List.getElem_toArray, List.getElem_cons_zero, List.setIfInBounds_toArray, List.set_cons_zero, List.set_cons_succ]
    refine wpAnyH_take (i := 2) (oi := _) (v := ?_) rfl (by kernel_rfl) (by kernel_rfl) (by kernel_rfl) (fun _ _ _ h => h) (Or.inl ⟨by rfl, ?_⟩) (by assumption) ?_
    rotate_left
    · (intro w hSw; (try dsimp only at hSw); go_simp; all_goals (with_reducible rfl))
    simp only [Act.put, List.getElem_toArray, List.getElem_cons_succ, List.getElem_cons_zero, List.setIfInBounds_toArray, List.set_cons_zero, List.set_cons_succ]
    refine wpAnyH_take (i := 3) (oi := _) (v := ?_) rfl (by kernel_rfl) (by kernel_rfl) (by kernel_rfl) (fun _ _ _ h => h) (Or.inl ⟨by rfl, ?_⟩) (by assumption) ?_
    rotate_left
    · (intro w hSw; (try dsimp only at hSw); go_simp; all_goals (with_reducible rfl))
    simp only [Act.put, List.getElem_toArray, List.getElem_cons_succ, List.getElem_cons_zero, List.setIfInBounds_toArray, List.set_cons_zero, List.set_cons_succ]
    refine wpAnyH_take (i := 6) (oi := _) (v := ?_) rfl (by kernel_rfl) (by kernel_rfl) (by kernel_rfl) (fun _ _ _ h => h) (Or.inl ⟨by rfl, ?_⟩) (by assumption) ?_
    rotate_left
    · (intro w hSw; (try dsimp only at hSw); go_simp; all_goals (with_reducible rfl))
    simp only [Act.put, List.getElem_toArray, List.getElem_cons_succ, List.getElem_cons_zero, List.setIfInBounds_toArray, List.set_cons_zero, List.set_cons_succ]
    refine wpAnyH_take (i := 7) (oi := _) (v := ?_) rfl (by kernel_rfl) (by kernel_rfl) (by kernel_rfl) (fun _ _ _ h => h) (Or.inl ⟨by rfl, ?_⟩) (by assumption) ?_
    rotate_left
    · (intro w hSw; (try dsimp only at hSw); go_simp; all_goals (with_reducible rfl))
    simp only [Act.put, List.getElem_toArray, List.getElem_cons_succ, List.getElem_cons_zero, List.setIfInBounds_toArray, List.set_cons_zero, List.set_cons_succ]
    refine wpAnyH_ready (rs := [1, 11]) (by kernel_rfl) (by simp) ?_
    refine AllReadyH.cons (o := _) rfl (fun K hK => ?_) ?_
    · go_simp
      (go_at_call 39; ((with_reducible refine Calls.mono (P1.out _) ?_); rintro r y1 ⟨rfl, rfl⟩))
      refine hK.out _ _ ?_ (fun hHeld => ?_)
      · (try dsimp only)
        exact hHeld
      clear hK K
      (try simp only [Act.put, List.setIfInBounds_toArray, List.set_cons_zero, List.set_cons_succ])
      refine wpAnyH_ready (rs := [4, 11]) (by kernel_rfl) (by simp) ?_
      refine AllReadyH.cons (o := _) rfl (fun K hK => ?_) ?_
      · go_simp
        (go_at_call 39; ((with_reducible refine Calls.mono (P2.out _) ?_); rintro r y1 ⟨rfl, rfl⟩))
        refine hK.out _ _ ?_ (fun hHeld => ?_)
        · (try dsimp only)
          exact hHeld
        clear hK K
        (try simp only [Act.put, List.setIfInBounds_toArray, List.set_cons_zero, List.set_cons_succ])
        refine wpAnyH_take (i := 5) (oi := _) (v := ?_) rfl (by kernel_rfl) (by kernel_rfl) (by kernel_rfl) (fun _ _ _ h => h) (Or.inl ⟨by rfl, ?_⟩) (by assumption) ?_
        rotate_left
        · (intro w hSw; (try dsimp only at hSw); go_simp; all_goals (with_reducible rfl))
        simp only [Act.put, List.getElem_toArray, List.getElem_cons_succ, List.getElem_cons_zero, List.setIfInBounds_toArray, List.set_cons_zero, List.set_cons_succ]
        refine wpAnyH_ready (rs := [8, 11]) (by kernel_rfl) (by simp) ?_
        refine AllReadyH.cons (o := _) rfl (fun K hK => ?_) ?_
        · go_simp
          (go_at_call 39; ((with_reducible refine Calls.mono (P3.out _) ?_); rintro r y1 ⟨rfl, rfl⟩))
          refine hK.out _ _ ?_ (fun hHeld => ?_)
          · (try dsimp only)
            exact hHeld
          clear hK K
          (try simp only [Act.put, List.setIfInBounds_toArray, List.set_cons_zero, List.set_cons_succ])
          refine wpAnyH_take (i := 9) (oi := _) (v := ?_) rfl (by kernel_rfl) (by kernel_rfl) (by kernel_rfl) (fun _ _ _ h => h) (Or.inl ⟨by rfl, ?_⟩) (by assumption) ?_
          rotate_left
          · (intro w hSw; (try dsimp only at hSw); go_simp; all_goals (with_reducible rfl))
          simp only [Act.put, List.getElem_toArray, List.getElem_cons_succ, List.getElem_cons_zero, List.setIfInBounds_toArray, List.set_cons_zero, List.set_cons_succ]
          refine wpAnyH_take (i := 10) (oi := _) (v := ?_) rfl (by kernel_rfl) (by kernel_rfl) (by kernel_rfl) (fun _ _ _ h => h) (Or.inl ⟨by rfl, ?_⟩) (by assumption) ?_
          rotate_left
          · (intro w hSw; (try dsimp only at hSw); go_simp; all_goals (with_reducible rfl))
          simp only [Act.put, List.getElem_toArray, List.getElem_cons_succ, List.getElem_cons_zero, List.setIfInBounds_toArray, List.set_cons_zero, List.set_cons_succ]
          refine wpAnyH_ready (rs := [11]) (by kernel_rfl) (by simp) ?_
          refine AllReadyH.cons (o := _) rfl (fun K hK => ?_) ?_
          · go_simp
            refine hK.out _ _ ?_ (fun hHeld => ?_)
            · (try dsimp only)
              exact HSK.out _ (hHeld.1.alloc hHeld.1.size _)
            clear hK K
            (try simp only [Act.put, List.setIfInBounds_toArray, List.set_cons_zero, List.set_cons_succ])
            refine wpAnyH_ready (rs := [12]) (by kernel_rfl) (by simp) ?_
            refine AllReadyH.cons (o := _) rfl (fun K hK => ?_) ?_
            · go_simp
              refine hK.out _ _ ?_ (fun hHeld => ?_)
              · (try dsimp only)
                exact HSK.out _ ((Below.refl _ W).alloc (Nat.le_refl _) _).drew
              clear hK K
              (try simp only [Act.put, List.setIfInBounds_toArray, List.set_cons_zero, List.set_cons_succ])
              refine wpAnyH_done (by kernel_rfl) ?_ _
              refine NoPanic.normal ?_
              go_wp2_with fail
              go_meet
              exact ⟨_, rfl, Nat.le_refl _, Lib.hid (Row.new W _ _), Lib.hid ((Below.refl _ W).alloc (Nat.le_refl _) _).drew⟩
            exact AllReadyH.nil
          exact AllReadyH.nil
        refine AllReadyH.cons (o := _) rfl (fun K hK => ?_) ?_
        · go_simp
          refine hK.out _ _ ?_ (fun hHeld => ?_)
          · (try dsimp only)
            exact HSK.out _ (hHeld.1.alloc hHeld.1.size _)
          clear hK K
          (try simp only [Act.put, List.setIfInBounds_toArray, List.set_cons_zero, List.set_cons_succ])
          refine wpAnyH_ready (rs := [8]) (by kernel_rfl) (by simp) ?_
          refine AllReadyH.cons (o := _) rfl (fun K hK => ?_) ?_
          · go_simp
            (go_at_call 39; ((with_reducible refine Calls.mono (P3.out _) ?_); rintro r y1 ⟨rfl, rfl⟩))
            refine hK.out _ _ ?_ (fun hHeld => ?_)
            · (try dsimp only)
              exact hHeld
            clear hK K
            (try simp only [Act.put, List.setIfInBounds_toArray, List.set_cons_zero, List.set_cons_succ])
            refine wpAnyH_take (i := 9) (oi := _) (v := ?_) rfl (by kernel_rfl) (by kernel_rfl) (by kernel_rfl) (fun _ _ _ h => h) (Or.inl ⟨by rfl, ?_⟩) (by assumption) ?_
            rotate_left
            · (intro w hSw; (try dsimp only at hSw); go_simp; all_goals (with_reducible rfl))
            simp only [Act.put, List.getElem_toArray, List.getElem_cons_succ, List.getElem_cons_zero, List.setIfInBounds_toArray, List.set_cons_zero, List.set_cons_succ]
            refine wpAnyH_take (i := 10) (oi := _) (v := ?_) rfl (by kernel_rfl) (by kernel_rfl) (by kernel_rfl) (fun _ _ _ h => h) (Or.inl ⟨by rfl, ?_⟩) (by assumption) ?_
            rotate_left
            · (intro w hSw; (try dsimp only at hSw); go_simp; all_goals (with_reducible rfl))
            simp only [Act.put, List.getElem_toArray, List.getElem_cons_succ, List.getElem_cons_zero, List.setIfInBounds_toArray, List.set_cons_zero, List.set_cons_succ]
            refine wpAnyH_ready (rs := [12]) (by kernel_rfl) (by simp) ?_
            refine AllReadyH.cons (o := _) rfl (fun K hK => ?_) ?_
            · go_simp
              refine hK.out _ _ ?_ (fun hHeld => ?_)
              · (try dsimp only)
                exact HSK.out _ ((Below.refl _ W).alloc (Nat.le_refl _) _).drew
              clear hK K
              (try simp only [Act.put, List.setIfInBounds_toArray, List.set_cons_zero, List.set_cons_succ])
              refine wpAnyH_done (by kernel_rfl) ?_ _
              refine NoPanic.normal ?_
              go_wp2_with fail
              go_meet
              exact ⟨_, rfl, Nat.le_refl _, Lib.hid (Row.new W _ _), Lib.hid ((Below.refl _ W).alloc (Nat.le_refl _) _).drew⟩
            exact AllReadyH.nil
          exact AllReadyH.nil
        exact AllReadyH.nil
      refine AllReadyH.cons (o := _) rfl (fun K hK => ?_) ?_
      · go_simp
        refine hK.out _ _ ?_ (fun hHeld => ?_)
        · (try dsimp only)
          exact HSK.out _ (hHeld.1.alloc hHeld.1.size _)
        clear hK K
        (try simp only [Act.put, List.setIfInBounds_toArray, List.set_cons_zero, List.set_cons_succ])
        refine wpAnyH_ready (rs := [4]) (by kernel_rfl) (by simp) ?_
        refine AllReadyH.cons (o := _) rfl (fun K hK => ?_) ?_
        · go_simp
          (go_at_call 39; ((with_reducible refine Calls.mono (P2.out _) ?_); rintro r y1 ⟨rfl, rfl⟩))
          refine hK.out _ _ ?_ (fun hHeld => ?_)
          · (try dsimp only)
            exact hHeld
          clear hK K
          (try simp only [Act.put, List.setIfInBounds_toArray, List.set_cons_zero, List.set_cons_succ])
          refine wpAnyH_take (i := 5) (oi := _) (v := ?_) rfl (by kernel_rfl) (by kernel_rfl) (by kernel_rfl) (fun _ _ _ h => h) (Or.inl ⟨by rfl, ?_⟩) (by assumption) ?_
          rotate_left
          · (intro w hSw; (try dsimp only at hSw); go_simp; all_goals (with_reducible rfl))
          simp only [Act.put, List.getElem_toArray, List.getElem_cons_succ, List.getElem_cons_zero, List.setIfInBounds_toArray, List.set_cons_zero, List.set_cons_succ]
          refine wpAnyH_ready (rs := [8]) (by kernel_rfl) (by simp) ?_
          refine AllReadyH.cons (o := _) rfl (fun K hK => ?_) ?_
          · go_simp
            (go_at_call 39; ((with_reducible refine Calls.mono (P3.out _) ?_); rintro r y1 ⟨rfl, rfl⟩))
            refine hK.out _ _ ?_ (fun hHeld => ?_)
            · (try dsimp only)
              exact hHeld
            clear hK K
            (try simp only [Act.put, List.setIfInBounds_toArray, List.set_cons_zero, List.set_cons_succ])
            refine wpAnyH_take (i := 9) (oi := _) (v := ?_) rfl (by kernel_rfl) (by kernel_rfl) (by kernel_rfl) (fun _ _ _ h => h) (Or.inl ⟨by rfl, ?_⟩) (by assumption) ?_
            rotate_left
            · (intro w hSw; (try dsimp only at hSw); go_simp; all_goals (with_reducible rfl))
            simp only [Act.put, List.getElem_toArray, List.getElem_cons_succ, List.getElem_cons_zero, List.setIfInBounds_toArray, List.set_cons_zero, List.set_cons_succ]
            refine wpAnyH_take (i := 10) (oi := _) (v := ?_) rfl (by kernel_rfl) (by kernel_rfl) (by kernel_rfl) (fun _ _ _ h => h) (Or.inl ⟨by rfl, ?_⟩) (by assumption) ?_
            rotate_left
            · (intro w hSw; (try dsimp only at hSw); go_simp; all_goals (with_reducible rfl))
            simp only [Act.put, List.getElem_toArray, List.getElem_cons_succ, List.getElem_cons_zero, List.setIfInBounds_toArray, List.set_cons_zero, List.set_cons_succ]
            refine wpAnyH_ready (rs := [12]) (by kernel_rfl) (by simp) ?_
            refine AllReadyH.cons (o := _) rfl (fun K hK => ?_) ?_
            · go_simp
              refine hK.out _ _ ?_ (fun hHeld => ?_)
              · (try dsimp only)
                exact HSK.out _ ((Below.refl _ W).alloc (Nat.le_refl _) _).drew
              clear hK K
              (try simp only [Act.put, List.setIfInBounds_toArray, List.set_cons_zero, List.set_cons_succ])
              refine wpAnyH_done (by kernel_rfl) ?_ _
              refine NoPanic.normal ?_
              go_wp2_with fail
              go_meet
              exact ⟨_, rfl, Nat.le_refl _, Lib.hid (Row.new W _ _), Lib.hid ((Below.refl _ W).alloc (Nat.le_refl _) _).drew⟩
            exact AllReadyH.nil
          exact AllReadyH.nil
        exact AllReadyH.nil
      exact AllReadyH.nil
    refine AllReadyH.cons (o := _) rfl (fun K hK => ?_) ?_
    · go_simp
      refine hK.out _ _ ?_ (fun hHeld => ?_)
      · (try dsimp only)
        exact HSK.out _ (hHeld.1.alloc hHeld.1.size _)
      clear hK K
      (try simp only [Act.put, List.setIfInBounds_toArray, List.set_cons_zero, List.set_cons_succ])
      refine wpAnyH_ready (rs := [1]) (by kernel_rfl) (by simp) ?_
      refine AllReadyH.cons (o := _) rfl (fun K hK => ?_) ?_
      · go_simp
        (go_at_call 39; ((with_reducible refine Calls.mono (P1.out _) ?_); rintro r y1 ⟨rfl, rfl⟩))
        refine hK.out _ _ ?_ (fun hHeld => ?_)
        · (try dsimp only)
          exact hHeld
        clear hK K
        (try simp only [Act.put, List.setIfInBounds_toArray, List.set_cons_zero, List.set_cons_succ])
        refine wpAnyH_ready (rs := [4]) (by kernel_rfl) (by simp) ?_
        refine AllReadyH.cons (o := _) rfl (fun K hK => ?_) ?_
        · go_simp
          (go_at_call 39; ((with_reducible refine Calls.mono (P2.out _) ?_); rintro r y1 ⟨rfl, rfl⟩))
          refine hK.out _ _ ?_ (fun hHeld => ?_)
          · (try dsimp only)
            exact hHeld
          clear hK K
          (try simp only [Act.put, List.setIfInBounds_toArray, List.set_cons_zero, List.set_cons_succ])
          refine wpAnyH_take (i := 5) (oi := _) (v := ?_) rfl (by kernel_rfl) (by kernel_rfl) (by kernel_rfl) (fun _ _ _ h => h) (Or.inl ⟨by rfl, ?_⟩) (by assumption) ?_
          rotate_left
          · (intro w hSw; (try dsimp only at hSw); go_simp; all_goals (with_reducible rfl))
          simp only [Act.put, List.getElem_toArray, List.getElem_cons_succ, List.getElem_cons_zero, List.setIfInBounds_toArray, List.set_cons_zero, List.set_cons_succ]
          refine wpAnyH_ready (rs := [8]) (by kernel_rfl) (by simp) ?_
          refine AllReadyH.cons (o := _) rfl (fun K hK => ?_) ?_
          · go_simp
            (go_at_call 39; ((with_reducible refine Calls.mono (P3.out _) ?_); rintro r y1 ⟨rfl, rfl⟩))
            refine hK.out _ _ ?_ (fun hHeld => ?_)
            · (try dsimp only)
              exact hHeld
            clear hK K
            (try simp only [Act.put, List.setIfInBounds_toArray, List.set_cons_zero, List.set_cons_succ])
            refine wpAnyH_take (i := 9) (oi := _) (v := ?_) rfl (by kernel_rfl) (by kernel_rfl) (by kernel_rfl) (fun _ _ _ h => h) (Or.inl ⟨by rfl, ?_⟩) (by assumption) ?_
            rotate_left
            · (intro w hSw; (try dsimp only at hSw); go_simp; all_goals (with_reducible rfl))
            simp only [Act.put, List.getElem_toArray, List.getElem_cons_succ, List.getElem_cons_zero, List.setIfInBounds_toArray, List.set_cons_zero, List.set_cons_succ]
            refine wpAnyH_take (i := 10) (oi := _) (v := ?_) rfl (by kernel_rfl) (by kernel_rfl) (by kernel_rfl) (fun _ _ _ h => h) (Or.inl ⟨by rfl, ?_⟩) (by assumption) ?_
            rotate_left
            · (intro w hSw; (try dsimp only at hSw); go_simp; all_goals (with_reducible rfl))
            simp only [Act.put, List.getElem_toArray, List.getElem_cons_succ, List.getElem_cons_zero, List.setIfInBounds_toArray, List.set_cons_zero, List.set_cons_succ]
            refine wpAnyH_ready (rs := [12]) (by kernel_rfl) (by simp) ?_
            refine AllReadyH.cons (o := _) rfl (fun K hK => ?_) ?_
            · go_simp
              refine hK.out _ _ ?_ (fun hHeld => ?_)
              · (try dsimp only)
                exact HSK.out _ ((Below.refl _ W).alloc (Nat.le_refl _) _).drew
              clear hK K
              (try simp only [Act.put, List.setIfInBounds_toArray, List.set_cons_zero, List.set_cons_succ])
              refine wpAnyH_done (by kernel_rfl) ?_ _
              refine NoPanic.normal ?_
              go_wp2_with fail
              go_meet
              exact ⟨_, rfl, Nat.le_refl _, Lib.hid (Row.new W _ _), Lib.hid ((Below.refl _ W).alloc (Nat.le_refl _) _).drew⟩
            exact AllReadyH.nil
          exact AllReadyH.nil
        exact AllReadyH.nil
      exact AllReadyH.nil
    exact AllReadyH.nil
  case rest =>
    obtain ⟨g, rfl, hg, HR, HBx⟩ := hcut
    have lg := HR.out.lt
    have c1 : wc.cell? ⟨g, 1, none⟩ = some (.int .i64 (1 + b)) := HR.out.cell 1
    go_upto_if 19 with (fail)
    go_cut [5] from 17 to 20 (fun p wy => p = .pointer (some ⟨g, 0, none⟩) ∧ ∃ kd : Int, 1 ≤ kd ∧ kd ≤ 5 ∧ Hid (Row wy g 24 #[.int .i64 a, .int .i64 kd, .int .i64 (1 + c), .slice none 0 0, .slice none 0 0, .int .i64 0, .int .i64 0, .int .i64 0]) ∧ Hid (Below W.heap.size W wy))
    case first =>
      have f1 := HR.out.free 1
      go_wp2_with fail
      · go_meet
        exact ⟨rfl, 1, by omega, by omega, Lib.hid (HR.out.put 1 _), Lib.hid (HBx.out.setCell (p := ⟨g, 1, none⟩) hg _)⟩
      · go_meet
        exact ⟨rfl, 1 + b, by omega, by omega, HR, HBx⟩
    case rest =>
      clear HR HBx c1 lg
      obtain ⟨rfl, kd, k0, k1, HR, HBx⟩ := hcut
      have lg := HR.out.lt
      have RX := Lib.hid (RX.out.below HBx.out RX.out.lt)
      have x2c : wc.cell? ⟨w.heap.size, 2, none⟩ = some (.int .i64 x2) := RX.out.cell 2
      have c2 : wc.cell? ⟨g, 2, none⟩ = some (.int .i64 (1 + c)) := HR.out.cell 2
      have f3 := HR.out.free 3
      have lx := RX.out.lt
      have HT := Lib.hid (fun u => rparts_any x2 (1 + c) (HX.out x2 (by simp)) (by omega) u)
      go_upto_region 5 with (go_at_call 40; (with_reducible refine Calls.mono (HT.out _) ?_); rintro e w1 ⟨A1, p1, l1, rfl, o1, q1, n1, b1⟩; have g3 := (HR.out.below b1 lg).free 3; have h3 : w1.cell? ⟨g, 3, none⟩ = some (.slice none 0 0) := (HR.out.below b1 lg).cell 3)
      have R1 := Lib.hid ((HR.out.below b1 lg).put 3 (.slice A1 l1.length p1))
      have B1 := Lib.hid ((HBx.out.trans (b1.mono HBx.out.size)).setCell (p := ⟨g, 3, none⟩) hg (.slice A1 l1.length p1))
      have O1 := Lib.hid o1
      have X1 := Lib.hid ((RX.out.below b1 lx).far (p := ⟨g, 3, none⟩) (by dsimp only; omega) (.slice A1 l1.length p1))
      have O1 := Lib.hid (own_stay o1 (w' := w1.setCell ⟨g, 3, none⟩ (.slice A1 l1.length p1)) fun j h1 h2 => Below.heap_setCell w1 ⟨g, 3, none⟩ _ j (by dsimp only; omega))
      have lz := b1.size
      have sz : (w1.setCell ⟨g, 3, none⟩ (.slice A1 l1.length p1)).heap.size = w1.heap.size := by simp [World.setCell]
      obtain ⟨w2, hw2⟩ : ∃ w2, w1.setCell ⟨g, 3, none⟩ (.slice A1 l1.length p1) = w2 := ⟨_, rfl⟩
      rw [hw2] at R1 B1 X1 O1 sz ⊢
      have lg2 := R1.out.lt
      have lx2 := X1.out.lt
      have x3c : w2.cell? ⟨w.heap.size, 3, none⟩ = some (.int .i64 x3) := X1.out.cell 3
      have c22 : w2.cell? ⟨g, 2, none⟩ = some (.int .i64 (1 + c)) := R1.out.cell 2
      have HT2 := Lib.hid (fun u => rparts_any x3 (1 + c) (HX.out x3 (by simp)) (by omega) u)
      clear hw2 HT x2c c2 f3 lx HR o1 b1
      go_upto_region 6 with (go_at_call 40; (with_reducible refine Calls.mono (HT2.out _) ?_); rintro e w3 ⟨A2, p2, l2, rfl, o2, q2, n2, b2⟩; have g4 := (R1.out.below b2 lg2).free 4; have h4 : w3.cell? ⟨g, 4, none⟩ = some (.slice none 0 0) := (R1.out.below b2 lg2).cell 4)
      have R2 := Lib.hid ((R1.out.below b2 lg2).put 4 (.slice A2 l2.length p2))
      have B2 := Lib.hid ((B1.out.trans (b2.mono B1.out.size)).setCell (p := ⟨g, 4, none⟩) hg (.slice A2 l2.length p2))
      have X2 := Lib.hid ((X1.out.below b2 lx2).far (p := ⟨g, 4, none⟩) (by dsimp only; omega) (.slice A2 l2.length p2))
      have O2 := Lib.hid (own_stay o2 (w' := w3.setCell ⟨g, 4, none⟩ (.slice A2 l2.length p2)) fun j h1 h2 => Below.heap_setCell w3 ⟨g, 4, none⟩ _ j (by dsimp only; omega))
      have O3 := Lib.hid (own_stay O1.out (w' := w3.setCell ⟨g, 4, none⟩ (.slice A2 l2.length p2)) fun j h1 h2 => (Below.heap_setCell w3 ⟨g, 4, none⟩ _ j (by dsimp only; omega)).trans (b2.block j h2))
      have sz4 : (w3.setCell ⟨g, 4, none⟩ (.slice A2 l2.length p2)).heap.size = w3.heap.size := by simp [World.setCell]
      have lz2 := b2.size
      obtain ⟨w4, hw4⟩ : ∃ w4, w3.setCell ⟨g, 4, none⟩ (.slice A2 l2.length p2) = w4 := ⟨_, rfl⟩
      rw [hw4] at R2 B2 X2 O2 O3 sz4 ⊢
      clear hw4 o2 b2 R1 B1 X1 O1 HT2 x3c c22
      have lg4 := R2.out.lt
      have lx4 := X2.out.lt
      have k1c : w4.cell? ⟨g, 1, none⟩ = some (.int .i64 kd) := R2.out.cell 1
      have OK : ∀ x y z : Int, (kd = 1 → 0 ≤ x ∧ x ≤ 99 ∧ 1 ≤ y ∧ y ≤ 5 ∧ 1 ≤ z ∧ z ≤ 4) → (kd ≠ 1 → x = 0 ∧ y = 0 ∧ z = 0) → OkItem ⟨a, kd, 1 + c, l1, l2, x, y, z⟩ := by
        intro x y z h1 h2
        have e1 : (1 : Int) + c - 1 = c := by omega
        rw [e1] at q1 q2
        refine ⟨⟨a0, a1⟩, ⟨k0, k1⟩, ⟨by dsimp only; omega, by dsimp only; omega⟩, n1, partsF_up (show c ≤ 1 + c by omega) q1, n2, partsF_up (show c ≤ 1 + c by omega) q2, ?_, h1, h2⟩
        have := bef_pos d0 q1
        rw [Int.add_comm] at this
        exact this
      have HOK := Lib.hid OK
      clear OK
      by_cases hkd : kd = 1
      · have P4 := Lib.hid (fun u => rpick_any x4 6 (by decide) (by decide) (HX.out x4 (by simp)).1 (HX.out x4 (by simp)).2 u)
        have P5 := Lib.hid (fun u => rpick_any (x4.tdiv 6) 5 (by decide) (by decide) (i64_div6 (HX.out x4 (by simp))).1 (i64_div6 (HX.out x4 (by simp))).2 u)
        have P6 := Lib.hid (fun u => rpick_any x5 4 (by decide) (by decide) (HX.out x5 (by simp)).1 (HX.out x5 (by simp)).2 u)
        have e4 := pickI_lt x4 6 (by decide)
        have e5 := pickI_lt (x4.tdiv 6) 5 (by decide)
        have e6 := pickI_lt x5 4 (by decide)
        have hwq : IntKind.i64.wrap (x4.tdiv 6) = x4.tdiv 6 := IntWalk.i64_in _ (by have := i64_div6 (HX.out x4 (by simp)); unfold I64 at this; omega)
        obtain ⟨s4, hs4⟩ : ∃ s, pickI x4 6 = s := ⟨_, rfl⟩
        obtain ⟨s5, hs5⟩ : ∃ s, pickI (x4.tdiv 6) 5 = s := ⟨_, rfl⟩
        obtain ⟨s6, hs6⟩ : ∃ s, pickI x5 4 = s := ⟨_, rfl⟩
        rw [hs4] at P4 e4
        rw [hs5] at P5 e5
        rw [hs6] at P6 e6
        have hw5 : IntKind.i64.wrap (1 + s5) = 1 + s5 := IntWalk.i64_in _ (by omega)
        have hw6 : IntKind.i64.wrap (1 + s6) = 1 + s6 := IntWalk.i64_in _ (by omega)
        clear hs4 hs5 hs6
        have ga := R2.out.free 5
        have gA : w4.cell? ⟨g, 5, none⟩ = some (.int .i64 0) := R2.out.cell 5
        have y1 : w4.cell? ⟨w.heap.size, 4, none⟩ = some (.int .i64 x4) := X2.out.cell 4
        have RA := Lib.hid (R2.out.put 5 (.int .i64 s4))
        have XA := Lib.hid (X2.out.far (p := ⟨g, 5, none⟩) (by dsimp only; omega) (.int .i64 s4))
        have gb := RA.out.free 6
        have gB : (w4.setCell ⟨g, 5, none⟩ (.int .i64 s4)).cell? ⟨g, 6, none⟩ = some (.int .i64 0) := RA.out.cell 6
        have y2 : (w4.setCell ⟨g, 5, none⟩ (.int .i64 s4)).cell? ⟨w.heap.size, 4, none⟩ = some (.int .i64 x4) := XA.out.cell 4
        have RB := Lib.hid (RA.out.put 6 (.int .i64 (1 + s5)))
        have XB := Lib.hid (XA.out.far (p := ⟨g, 6, none⟩) (by dsimp only; omega) (.int .i64 (1 + s5)))
        have gc := RB.out.free 7
        have gC : ((w4.setCell ⟨g, 5, none⟩ (.int .i64 s4)).setCell ⟨g, 6, none⟩ (.int .i64 (1 + s5))).cell? ⟨g, 7, none⟩ = some (.int .i64 0) := RB.out.cell 7
        have y3 : ((w4.setCell ⟨g, 5, none⟩ (.int .i64 s4)).setCell ⟨g, 6, none⟩ (.int .i64 (1 + s5))).cell? ⟨w.heap.size, 5, none⟩ = some (.int .i64 x5) := XB.out.cell 5
        have RC := Lib.hid (RB.out.put 7 (.int .i64 (1 + s6)))
        go_upto_region 10 with (go_at_call 39; (first | (with_reducible refine Calls.mono (P4.out _) ?_) | (with_reducible refine Calls.mono (P5.out _) ?_) | (with_reducible refine Calls.mono (P6.out _) ?_)); rintro e w' ⟨rfl, rfl⟩)
        have B5 := Lib.hid (((B2.out.setCell (p := ⟨g, 5, none⟩) hg (.int .i64 s4)).setCell (p := ⟨g, 6, none⟩) hg (.int .i64 (1 + s5))).setCell (p := ⟨g, 7, none⟩) hg (.int .i64 (1 + s6)))
        have O5 := Lib.hid (own_stay O2.out (w' := (((w4.setCell ⟨g, 5, none⟩ (.int .i64 s4)).setCell ⟨g, 6, none⟩ (.int .i64 (1 + s5))).setCell ⟨g, 7, none⟩ (.int .i64 (1 + s6)))) fun j h1 h2 => (Below.heap_setCell _ ⟨g, 7, none⟩ _ j (by dsimp only; omega)).trans ((Below.heap_setCell _ ⟨g, 6, none⟩ _ j (by dsimp only; omega)).trans (Below.heap_setCell w4 ⟨g, 5, none⟩ _ j (by dsimp only; omega))))
        have O6 := Lib.hid (own_stay O3.out (w' := (((w4.setCell ⟨g, 5, none⟩ (.int .i64 s4)).setCell ⟨g, 6, none⟩ (.int .i64 (1 + s5))).setCell ⟨g, 7, none⟩ (.int .i64 (1 + s6)))) fun j h1 h2 => (Below.heap_setCell _ ⟨g, 7, none⟩ _ j (by dsimp only; omega)).trans ((Below.heap_setCell _ ⟨g, 6, none⟩ _ j (by dsimp only; omega)).trans (Below.heap_setCell w4 ⟨g, 5, none⟩ _ j (by dsimp only; omega))))
        obtain ⟨w5, hw5⟩ : ∃ w5, (((w4.setCell ⟨g, 5, none⟩ (.int .i64 s4)).setCell ⟨g, 6, none⟩ (.int .i64 (1 + s5))).setCell ⟨g, 7, none⟩ (.int .i64 (1 + s6))) = w5 := ⟨_, rfl⟩
        rw [hw5] at B5 O5 O6 RC ⊢
        have RI5 := Lib.hid (RI.out.below B5.out RI.out.lt)
        have r0 : w5.cell? ⟨g, 0, none⟩ = some (.int .i64 a) := RC.out.cell 0
        have r1 : w5.cell? ⟨g, 1, none⟩ = some (.int .i64 kd) := RC.out.cell 1
        have r2 : w5.cell? ⟨g, 2, none⟩ = some (.int .i64 (1 + c)) := RC.out.cell 2
        have r3 : w5.cell? ⟨g, 3, none⟩ = some (.slice A1 l1.length p1) := RC.out.cell 3
        have r4 : w5.cell? ⟨g, 4, none⟩ = some (.slice A2 l2.length p2) := RC.out.cell 4
        have r5 : w5.cell? ⟨g, 5, none⟩ = some (.int .i64 s4) := RC.out.cell 5
        have r6 : w5.cell? ⟨g, 6, none⟩ = some (.int .i64 (1 + s5)) := RC.out.cell 6
        have r7 : w5.cell? ⟨g, 7, none⟩ = some (.int .i64 (1 + s6)) := RC.out.cell 7
        have v0 : w5.cell? ⟨w.heap.size + 1, 0, none⟩ = some (.int .i64 0) := RI5.out.cell 0
        have z0 := RI5.out.free 0
        have v1 : w5.cell? ⟨w.heap.size + 1, 1, none⟩ = some (.int .i64 0) := RI5.out.cell 1
        have z1 := RI5.out.free 1
        have v2 : w5.cell? ⟨w.heap.size + 1, 2, none⟩ = some (.int .i64 0) := RI5.out.cell 2
        have z2 := RI5.out.free 2
        have v3 : w5.cell? ⟨w.heap.size + 1, 3, none⟩ = some (.slice none 0 0) := RI5.out.cell 3
        have z3 := RI5.out.free 3
        have v4 : w5.cell? ⟨w.heap.size + 1, 4, none⟩ = some (.slice none 0 0) := RI5.out.cell 4
        have z4 := RI5.out.free 4
        have v5 : w5.cell? ⟨w.heap.size + 1, 5, none⟩ = some (.int .i64 0) := RI5.out.cell 5
        have z5 := RI5.out.free 5
        have v6 : w5.cell? ⟨w.heap.size + 1, 6, none⟩ = some (.int .i64 0) := RI5.out.cell 6
        have z6 := RI5.out.free 6
        have v7 : w5.cell? ⟨w.heap.size + 1, 7, none⟩ = some (.int .i64 0) := RI5.out.cell 7
        have z7 := RI5.out.free 7
        have lg5 := RC.out.lt
        have lr5 := RI5.out.lt
        clear gA gB gC ga gb gc y1 y2 y3 hwq hw6
        go_wp2_with fail
        have sW := HBx.out.size
        have hb5 : Below w.heap.size w w5 := HB.out.trans (B5.out.mono (by omega))
        refine bodyPost_ret (results_i rfl _ _ (w.heap.size + 1) _ _ _ _ _ _ _ _ rfl (put8_row RI5.out _ _ _ _ _ _ _ _)) rfl ⟨⟨a, kd, 1 + c, l1, l2, s4, 1 + s5, 1 + s6⟩, A1, A2, l1.length, p1, l2.length, p2, by rw [hkd], HOK.out _ _ _ (fun _ => ⟨e4.1, by omega, by omega, by omega, by omega, by omega⟩) (fun h => absurd hkd h), ⟨?_, ?_⟩, put8_below hb5 (by omega) _ _ _ _ _ _ _ _⟩
        · exact recs_of_own (own_stay O6.out fun j h1 h2 => put8_stay w5 (w.heap.size + 1) _ _ _ _ _ _ _ _ j (by omega)) rfl
        · exact recs_of_own (own_stay O5.out fun j h1 h2 => put8_stay w5 (w.heap.size + 1) _ _ _ _ _ _ _ _ j (by omega)) rfl
      · have RI4 := Lib.hid (RI.out.below B2.out RI.out.lt)
        have v0 : w4.cell? ⟨w.heap.size + 1, 0, none⟩ = some (.int .i64 0) := RI4.out.cell 0
        have z0 := RI4.out.free 0
        have v1 : w4.cell? ⟨w.heap.size + 1, 1, none⟩ = some (.int .i64 0) := RI4.out.cell 1
        have z1 := RI4.out.free 1
        have v2 : w4.cell? ⟨w.heap.size + 1, 2, none⟩ = some (.int .i64 0) := RI4.out.cell 2
        have z2 := RI4.out.free 2
        have v3 : w4.cell? ⟨w.heap.size + 1, 3, none⟩ = some (.slice none 0 0) := RI4.out.cell 3
        have z3 := RI4.out.free 3
        have v4 : w4.cell? ⟨w.heap.size + 1, 4, none⟩ = some (.slice none 0 0) := RI4.out.cell 4
        have z4 := RI4.out.free 4
        have v5 : w4.cell? ⟨w.heap.size + 1, 5, none⟩ = some (.int .i64 0) := RI4.out.cell 5
        have z5 := RI4.out.free 5
        have v6 : w4.cell? ⟨w.heap.size + 1, 6, none⟩ = some (.int .i64 0) := RI4.out.cell 6
        have z6 := RI4.out.free 6
        have v7 : w4.cell? ⟨w.heap.size + 1, 7, none⟩ = some (.int .i64 0) := RI4.out.cell 7
        have z7 := RI4.out.free 7
        have r0 : w4.cell? ⟨g, 0, none⟩ = some (.int .i64 a) := R2.out.cell 0
        have r1 : w4.cell? ⟨g, 1, none⟩ = some (.int .i64 kd) := R2.out.cell 1
        have r2 : w4.cell? ⟨g, 2, none⟩ = some (.int .i64 (1 + c)) := R2.out.cell 2
        have r3 : w4.cell? ⟨g, 3, none⟩ = some (.slice A1 l1.length p1) := R2.out.cell 3
        have r4 : w4.cell? ⟨g, 4, none⟩ = some (.slice A2 l2.length p2) := R2.out.cell 4
        have r5 : w4.cell? ⟨g, 5, none⟩ = some (.int .i64 0) := R2.out.cell 5
        have r6 : w4.cell? ⟨g, 6, none⟩ = some (.int .i64 0) := R2.out.cell 6
        have r7 : w4.cell? ⟨g, 7, none⟩ = some (.int .i64 0) := R2.out.cell 7
        go_wp2_with fail
        have sW := HBx.out.size
        have hb4 : Below w.heap.size w w4 := HB.out.trans (B2.out.mono (by omega))
        refine bodyPost_ret (results_i rfl _ _ (w.heap.size + 1) _ _ _ _ _ _ _ _ rfl (put8_row RI4.out _ _ _ _ _ _ _ _)) rfl ⟨⟨a, kd, 1 + c, l1, l2, 0, 0, 0⟩, A1, A2, _, _, _, _, rfl, HOK.out _ _ _ (fun h => absurd h hkd) (fun _ => ⟨rfl, rfl, rfl⟩), ⟨?_, ?_⟩, put8_below hb4 (by omega) _ _ _ _ _ _ _ _⟩
        · exact recs_of_own (own_stay O3.out fun j h1 h2 => put8_stay w4 (w.heap.size + 1) _ _ _ _ _ _ _ _ j (by omega)) rfl
        · exact recs_of_own (own_stay O2.out fun j h1 h2 => put8_stay w4 (w.heap.size + 1) _ _ _ _ _ _ _ _ j (by omega)) rfl
end Go.Proofs.Ytnmhigjannihgaa
