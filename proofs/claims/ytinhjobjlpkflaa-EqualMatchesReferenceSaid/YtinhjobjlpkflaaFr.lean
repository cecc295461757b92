/- The reference's Overdue, Totals, Owed, Next. -/
import Derived.Test.YtinhjobjlpkflaaFq
import Derived.Test.YtinhjobjlpkflaaEq
import Derived.StillTailTactics
namespace Go.Proofs.Ytinhjobjlpkflaa
open Go.RowKit Go.Shelf
attribute [local go_sem ↓] append_appN

theorem sums_bd' {n : Nat} {l : List Ap} {now : Int} (hn : 2 ≤ n) (hn8 : n ≤ 8) (h : apsK (n : Int) l l.length = true) (hl : l.length ≤ 60) (j k : Nat) (hj : j < n) : 0 ≤ owedL (((clV n l now).take k).filter (ofC j)) ∧ owedL (((clV n l now).take k).filter (ofC j)) ≤ 100000000 := by
  have hc := cl_ok (now := now) hn hn8 h
  obtain ⟨M, hM, hb⟩ := (acc_ok (now := now) hn hn8 h l.length (Nat.le_refl _)).lev
  have h1 : owedL ((clV n l now).filter (ofC j)) = owedL (((clV n l now).take k).filter (ofC j)) + owedL (((clV n l now).drop k).filter (ofC j)) := by
    rw [← owedL_append, ← List.filter_append, List.take_append_drop]
  have h2 := owedL_nonneg (l := ((clV n l now).take k).filter (ofC j)) fun c hc' => (hc.mem c (List.mem_of_mem_take (List.mem_filter.1 hc').1)).1
  have h3 := owedL_nonneg (l := ((clV n l now).drop k).filter (ofC j)) fun c hc' => (hc.mem c (List.mem_of_mem_drop (List.mem_filter.1 hc').1)).1
  rw [hc.per] at h1
  have h4 := hM.sum j hj
  have h5 := hM.nn j
  have h6 : owedL ((accV n l now).op.getD j []) = owedL ((accK n l now l.length).op.getD j []) := rfl
  omega
theorem rest_bd {n : Nat} {l : List Ap} {now : Int} (hn : 2 ≤ n) (hn8 : n ≤ 8) (h : apsK (n : Int) l l.length = true) : ∀ x ∈ clV n l now, x.rest ≤ 36000 := by
  have h1 := (r_ok (now := now) hn hn8 h l.length (Nat.le_refl _)).le (acc_ok (now := now) hn hn8 h l.length (Nat.le_refl _))
  rwa [r_same (now := now) hn hn8 h] at h1
set_option maxRecDepth 100000 in
set_option maxHeartbeats 8000000 in
theorem rNext_bad (m now : Int) (l : List Ap) (A : Option Addr) (n c : Nat) (w : World) (hr : Recs encP 4 w w.heap.size (.slice A n c) l) (hbad : (validA m l && nowB now) = false) : Calls Try.prog 26 #[.int .i64 m, .slice A n c, .int .i64 now] w fun e w' => e = .returned (.tuple #[.agg (encCV (nxV []).1), .bool (nxV []).2]) ∧ Below w.heap.size w w' := by
  have HV := Lib.hid (fun u (hb : Below w.heap.size w u) => rClaims_bad m now l A n c u (hr.next hb) hbad)
  obtain ⟨W, hW⟩ : ∃ W, w.alloc (.cells #[.int .i64 0, .int .i64 0, .int .i64 0, .int .i64 0] 39) = W := ⟨_, rfl⟩
  have hbW : Below w.heap.size w W := by rw [← hW]; exact (Below.refl _ w).alloc (Nat.le_refl _) _
  have hrow := Row.new w 39 #[.int .i64 0, .int .i64 0, .int .i64 0, .int .i64 0]
  rw [hW] at hrow
  obtain ⟨g, hg⟩ : ∃ g, w.heap.size = g := ⟨_, rfl⟩
  rw [hg] at hrow
  have HR := Lib.hid hrow
  have HB := Lib.hid hbW
  have HG := Lib.hid (show w.heap.size ≤ g by omega)
  have lg := hrow.lt
  clear hr hrow hbW hbad
  go_enter Try.func26, Try.ntmps26
  go_wp2_with (go_at_call 17; (with_reducible refine Calls.mono (HV.out _ HB.out) ?_); rintro r u1 ⟨rfl, hb⟩; have HB1 := Lib.hid hb; have RX := HR.out.below hb HR.out.lt; have HRX := Lib.hid RX; have l1 := RX.lt; have y0 := RX.cell 0; have y1 := RX.cell 1; have y2 := RX.cell 2; have y3 := RX.cell 3; have f0 := RX.free 0; have f1 := RX.free 1; have f2 := RX.free 2; have f3 := RX.free 3; simp only [List.getElem?_toArray, List.getElem?_cons_zero, List.getElem?_cons_succ] at y0 y1 y2 y3; clear hb RX)
  refine bodyPost_ret (results_ct rfl _ _ g 0 0 0 0 rfl (four_put HRX.out _ _ _ _)) rfl ?_
  exact ⟨rfl, (HB.out.trans (HB1.out.mono HB.out.size) |>.setCell (p := ⟨g, 0, none⟩) HG.out _ |>.setCell (p := ⟨g, 1, none⟩) HG.out _ |>.setCell (p := ⟨g, 2, none⟩) HG.out _ |>.setCell (p := ⟨g, 3, none⟩) HG.out _)⟩
set_option maxRecDepth 100000 in
set_option maxHeartbeats 8000000 in
theorem rNext_ok (m : Nat) (now : Int) (l : List Ap) (A : Option Addr) (n c : Nat) (w : World) (hr : Recs encP 4 w w.heap.size (.slice A n c) l) (hv : validA (m : Int) l = true) (hnow : nowB now = true) : Calls Try.prog 26 #[.int .i64 (m : Int), .slice A n c, .int .i64 now] w fun e w' => e = .returned (.tuple #[.agg (encCV (nxV (clV m l now)).1), .bool (nxV (clV m l now)).2]) ∧ Below w.heap.size w w' := by
  have HV := Lib.hid (fun u (hb : Below w.heap.size w u) => rClaims_ok m now l A n c u (hr.next hb) hv hnow)
  obtain ⟨W, hW⟩ : ∃ W, w.alloc (.cells #[.int .i64 0, .int .i64 0, .int .i64 0, .int .i64 0] 39) = W := ⟨_, rfl⟩
  have hbW : Below w.heap.size w W := by rw [← hW]; exact (Below.refl _ w).alloc (Nat.le_refl _) _
  have hrow := Row.new w 39 #[.int .i64 0, .int .i64 0, .int .i64 0, .int .i64 0]
  rw [hW] at hrow
  obtain ⟨g, hg⟩ : ∃ g, w.heap.size = g := ⟨_, rfl⟩
  rw [hg] at hrow
  have HR := Lib.hid hrow
  have HB := Lib.hid hbW
  have HG := Lib.hid (show w.heap.size ≤ g by omega)
  have lg := hrow.lt
  clear hr hrow hbW hv hnow
  obtain ⟨C, hC⟩ : ∃ C, clV m l now = C := ⟨_, rfl⟩
  rw [hC] at HV ⊢
  clear hC
  cases C with
  | nil =>
    go_enter Try.func26, Try.ntmps26
    go_wp2_with (go_at_call 17; (with_reducible refine Calls.mono (HV.out _ HB.out) ?_); rintro r u1 ⟨v, rfl, hg⟩; have hb := hg.b; have HB1 := Lib.hid hb; obtain ⟨A2, c2, hv2, -⟩ := own_slice hg.own; subst hv2; have RX := HR.out.below hb HR.out.lt; have HRX := Lib.hid RX; have l1 := RX.lt; have y0 := RX.cell 0; have y1 := RX.cell 1; have y2 := RX.cell 2; have y3 := RX.cell 3; have f0 := RX.free 0; have f1 := RX.free 1; have f2 := RX.free 2; have f3 := RX.free 3; simp only [List.getElem?_toArray, List.getElem?_cons_zero, List.getElem?_cons_succ] at y0 y1 y2 y3; clear hb RX hg)
    refine bodyPost_ret (results_ct rfl _ _ g 0 0 0 0 rfl (four_put HRX.out _ _ _ _)) rfl ?_
    exact ⟨rfl, (HB.out.trans (HB1.out.mono HB.out.size) |>.setCell (p := ⟨g, 0, none⟩) HG.out _ |>.setCell (p := ⟨g, 1, none⟩) HG.out _ |>.setCell (p := ⟨g, 2, none⟩) HG.out _ |>.setCell (p := ⟨g, 3, none⟩) HG.out _)⟩
  | cons x C =>
    have i0 : ((C.length + 1 : Nat) == 0) = false := rfl
    go_enter Try.func26, Try.ntmps26
    go_wp2_with (go_at_call 17; (with_reducible refine Calls.mono (HV.out _ HB.out) ?_); rintro r u1 ⟨v, rfl, hg⟩; have hb := hg.b; have HB1 := Lib.hid hb; obtain ⟨gb, cb, hv2, hgb, hlb, hcell⟩ := claim_first hg.own; subst hv2; have q0 := hcell 0 (by decide); have q1 := hcell 1 (by decide); have q2 := hcell 2 (by decide); have q3 := hcell 3 (by decide); simp only [encC, List.getElem?_cons_zero, List.getElem?_cons_succ] at q0 q1 q2 q3; have RX := HR.out.below hb HR.out.lt; have HRX := Lib.hid RX; have l1 := RX.lt; have y0 := RX.cell 0; have y1 := RX.cell 1; have y2 := RX.cell 2; have y3 := RX.cell 3; have f0 := RX.free 0; have f1 := RX.free 1; have f2 := RX.free 2; have f3 := RX.free 3; simp only [List.getElem?_toArray, List.getElem?_cons_zero, List.getElem?_cons_succ] at y0 y1 y2 y3; clear hb RX hg hcell)
    refine bodyPost_ret (results_ct rfl _ _ g x.cand x.of_ x.rest x.until_ rfl (four_put HRX.out _ _ _ _)) rfl ?_
    exact ⟨rfl, (HB.out.trans (HB1.out.mono HB.out.size) |>.setCell (p := ⟨g, 0, none⟩) HG.out _ |>.setCell (p := ⟨g, 1, none⟩) HG.out _ |>.setCell (p := ⟨g, 2, none⟩) HG.out _ |>.setCell (p := ⟨g, 3, none⟩) HG.out _)⟩
set_option maxRecDepth 100000 in
set_option maxHeartbeats 16000000 in
theorem rOverdue_bad (m now : Int) (l : List Ap) (A : Option Addr) (n c : Nat) (w : World) (hr : Recs encP 4 w w.heap.size (.slice A n c) l) (hbad : (validA m l && nowB now) = false) :
    Calls Try.prog 19 #[.int .i64 m, .slice A n c, .int .i64 now] w fun e w' => e = .returned (.tuple #[.slice none 0 0, .int .i64 130]) ∧ Below w.heap.size w w' := by
  have HC := Lib.hid (rClaims_bad m now l A n c w hr hbad)
  clear hr hbad
  go_enter Try.func19, Try.ntmps19
  go_wp2_with (go_at_call 17; (with_reducible refine Calls.mono HC.out ?_); rintro r u1 ⟨rfl, hb⟩; have HB1 := Lib.hid hb; clear hb)
  go_loopw [10, 11] (fun o z wr => o = .slice none 0 0 ∧ z = .int .i64 0 ∧ Hid (Below u1.heap.size u1 wr)) (fun _ _ _ => 0)
  case atStart => exact ⟨rfl, rfl, Lib.hid (Below.refl _ _)⟩
  case round =>
    obtain ⟨rfl, rfl, HB⟩ := hrel
    go_wp2
    refine bodyPost_ret (results_tmp2 rfl _ _ _) rfl ?_
    exact ⟨rfl, below_to HB1.out HB.out⟩
set_option maxRecDepth 100000 in
set_option maxHeartbeats 16000000 in
theorem rOverdue_ok (m : Nat) (now : Int) (l : List Ap) (A : Option Addr) (n c : Nat) (w : World) (hr : Recs encP 4 w w.heap.size (.slice A n c) l) (hv : validA (m : Int) l = true) (hnow : nowB now = true) :
    Calls Try.prog 19 #[.int .i64 (m : Int), .slice A n c, .int .i64 now] w fun e w' => ∃ v, e = .returned (.tuple #[v, .int .i64 0]) ∧ GatC w ((clV m l now).filter (late now)) v w' := by
  obtain ⟨v0, v1, v2, v3⟩ := validA_parts hv
  have HC := Lib.hid (rClaims_ok m now l A n c w hr hv hnow)
  have hcl := rK_len (n := m) (now := now) (by omega) (by omega) v3 v2 l.length (Nat.le_refl _)
  rw [r_same (n := m) (now := now) (by omega) (by omega) v3] at hcl
  obtain ⟨C, hC⟩ : ∃ C, clV m l now = C := ⟨_, rfl⟩
  rw [hC] at HC hcl ⊢
  have hC9 : C.length ≤ 480 := by omega
  clear hr hv hnow hC hcl v0 v1 v2 v3
  go_enter Try.func19, Try.ntmps19
  go_wp2_with (go_at_call 17; (with_reducible refine Calls.mono HC.out ?_); rintro r u1 ⟨v, rfl, hg⟩; have HG1 := Lib.hid hg; obtain ⟨A1, c1, hv1, -⟩ := own_slice hg.own; subst hv1; clear hg)
  have HCR := Lib.hid HG1.out.recs
  go_loopw [10, 11] (fun o z wr => ∃ k : Nat, z = .int .i64 (k : Int) ∧ k ≤ C.length ∧ Hid (GatC u1 ((C.take k).filter (late now)) o wr)) (fun _ z _ => C.length - (intOf z).toNat)
  case atStart => exact ⟨0, rfl, Nat.zero_le _, Lib.hid ⟨World.ownsRow_nil _ _ _ _, Below.refl _ _⟩⟩
  case round =>
    obtain ⟨k, rfl, hk, HG⟩ := hrel
    have k0 : (0 : Int) ≤ (k : Int) := by omega
    have e7 : IntKind.i64.wrap ((k : Int) + 1) = (k : Int) + 1 := IntWalk.i64_in _ (by omega)
    by_cases hlt : k < C.length
    · have k1 : (k : Int) < (C.length : Int) := by omega
      obtain ⟨y, hy⟩ : ∃ y, C[k]? = some y := ⟨_, List.getElem?_eq_getElem hlt⟩
      obtain ⟨b, o, rfl, hgb, hcell⟩ := recs_at HCR.out k hlt
      have a0 : wr.cell? ⟨b, o + k * 4, none⟩ = some (.int .i64 y.cand) := (HG.out.b.cell hgb).trans (hcell k y hy 0 _ rfl)
      have a1 : wr.cell? ⟨b, o + k * 4 + 1, none⟩ = some (.int .i64 y.of_) := (HG.out.b.cell hgb).trans (hcell k y hy 1 _ rfl)
      have a2 : wr.cell? ⟨b, o + k * 4 + 2, none⟩ = some (.int .i64 y.rest) := (HG.out.b.cell hgb).trans (hcell k y hy 2 _ rfl)
      have a3 : wr.cell? ⟨b, o + k * 4 + 3, none⟩ = some (.int .i64 y.until_) := (HG.out.b.cell hgb).trans (hcell k y hy 3 _ rfl)
      have HSN0 := Lib.hid (filter_take (f := late now) hy)
      have HLN := Lib.hid (show ((C.take k).filter (late now)).length ≤ 480 by have := List.length_filter_le (late now) (C.take k); rw [List.length_take] at this; omega)
      obtain ⟨L, hL⟩ : ∃ L, (C.take k).filter (late now) = L := ⟨_, rfl⟩
      rw [hL] at HG HSN0 HLN
      obtain ⟨Ao, co, rfl, -⟩ := own_slice HG.out.own
      obtain ⟨y0, y1, y2, y3⟩ := y
      dsimp only at a0 a1 a2 a3
      clear hcell hy hL
      by_cases hl : y3 < now
      · have HSN := Lib.hid (show (C.take (k + 1)).filter (late now) = L ++ [⟨y0, y1, y2, y3⟩] by rw [HSN0.out, if_pos (by unfold late; rw [decide_eq_true_eq]; exact hl)])
        obtain ⟨A6, c6, w6, hrun, hG6⟩ := HG.out.push (by have := HLN.out; omega) ⟨y0, y1, y2, y3⟩ (cs := #[.int .i64 y0, .int .i64 y1, .int .i64 y2, .int .i64 y3]) rfl
        have HG6 := Lib.hid hG6
        clear hG6
        go_wp2
        go_roundw
        case rel => exact ⟨k + 1, by go_num, by omega, by rw [HSN.out]; exact HG6⟩
        case measure => simp [intOf]; omega
      · have HSN := Lib.hid (show (C.take (k + 1)).filter (late now) = L by rw [HSN0.out, if_neg (by unfold late; rw [decide_eq_true_eq]; exact hl)])
        go_wp2
        go_roundw
        case rel => exact ⟨k + 1, by go_num, by omega, by rw [HSN.out]; exact HG⟩
        case measure => simp [intOf]; omega
    · have k1 : ¬ (k : Int) < (C.length : Int) := by omega
      have HE := Lib.hid (show (C.take k).filter (late now) = C.filter (late now) by rw [List.take_of_length_le (by omega)])
      go_wp2
      refine bodyPost_ret (results_tmp2 rfl _ _ _) rfl ?_
      have h := HG.out
      rw [HE.out] at h
      exact ⟨_, rfl, h.low HG1.out.b⟩
set_option maxRecDepth 100000 in
set_option maxHeartbeats 16000000 in
theorem rTotals_bad (m now : Int) (l : List Ap) (A : Option Addr) (n c : Nat) (w : World) (hr : Recs encP 4 w w.heap.size (.slice A n c) l) (hbad : (validA m l && nowB now) = false) :
    Calls Try.prog 24 #[.int .i64 m, .slice A n c, .int .i64 now] w fun e w' => e = .returned (.tuple #[.slice none 0 0, .int .i64 130]) ∧ Below w.heap.size w w' := by
  have HV := Lib.hid (rvalid_any m l A n c w hr)
  have HNW := Lib.hid (fun u => rin_any now 0 20000000 u)
  clear hr
  unfold nowB at hbad
  obtain ⟨b0, h0⟩ : ∃ b, validA m l = b := ⟨_, rfl⟩
  obtain ⟨b1, h1⟩ : ∃ b, (decide (0 ≤ now) && decide (now ≤ 20000000)) = b := ⟨_, rfl⟩
  rw [h0] at HV hbad
  rw [h1] at HNW hbad
  clear h0 h1
  cases b0 with
  | false =>
    go_enter Try.func24, Try.ntmps24
    go_wp2_with (first | (go_at_call 15; (with_reducible refine Calls.mono HV.out ?_); rintro r u1 ⟨rfl, hb⟩; have HB1 := Lib.hid hb; clear hb) | (go_at_call 31; (with_reducible refine Calls.mono (HNW.out _) ?_); rintro r u2 ⟨rfl, rfl⟩))
    refine bodyPost_ret (results_tmp2 rfl _ _ _) rfl ?_
    exact ⟨rfl, HB1.out⟩
  | true =>
    obtain rfl : b1 = false := by simpa using hbad
    clear hbad
    go_enter Try.func24, Try.ntmps24
    go_wp2_with (first | (go_at_call 15; (with_reducible refine Calls.mono HV.out ?_); rintro r u1 ⟨rfl, hb⟩; have HB1 := Lib.hid hb; clear hb) | (go_at_call 31; (with_reducible refine Calls.mono (HNW.out _) ?_); rintro r u2 ⟨rfl, rfl⟩))
    refine bodyPost_ret (results_tmp2 rfl _ _ _) rfl ?_
    exact ⟨rfl, HB1.out⟩
theorem tk_step {m k : Nat} {s : Ac} {x : Ap} : (apStep m k x s).had.take m = (s.had.take m).set x.cand.toNat (s.had.getD x.cand.toNat 0 + worth x) := by
  unfold apStep
  dsimp only
  rw [List.take_set]
theorem row_ints {u : World} {g m : Nat} {T : List Int} (h : Row u g 3 (iv1 T).toArray) (hT : T.length = m) (hm : m ≤ 1000) : Recs enc1 1 u u.heap.size (.slice (some ⟨g, 0, none⟩) m m) T := by
  have h2 := recs_row (enc := enc1) (k := 1) h T (by omega) (fun j x hj i u hu => by
    have hi : i = 0 := by have := (List.getElem?_eq_some_iff.1 hu).1; simp [enc1] at this; exact this
    subst hi
    have hx : u = .int .i64 x := by simpa [enc1] using hu.symm
    rw [hx, show j * 1 + 0 = j by omega]
    simp [iv1, hj])
  rwa [hT] at h2
theorem row_own {u w : World} {g m : Nat} {T : List Int} (h : Row u g 3 (iv1 T).toArray) (hT : T.length = m) (hm : m ≤ 1000) (hg : w.heap.size ≤ g) : u.ownsRow w.heap.size 3 1 (.slice (some ⟨g, 0, none⟩) m m) T.length (iv1 T) := by
  subst hT
  refine ⟨by simp [iv1], .inr ⟨g, T.length, (iv1 T).toArray, rfl, hg, h, Nat.le_refl _, by unfold maxLen; omega, by simp [iv1], by simp only [Nat.mul_one]; exact List.take_of_length_le (by simp [iv1])⟩⟩
theorem row_zero (w : World) (m : Nat) : Row (w.alloc (.cells (Array.replicate m (.int .i64 0)) 3)) w.heap.size 3 (iv1 (List.replicate m 0)).toArray := by
  have h := Row.new w 3 (Array.replicate m (Value.int .i64 0))
  simpa [iv1] using h
set_option maxRecDepth 100000 in
set_option maxHeartbeats 16000000 in
theorem rTotals_ok (m : Nat) (now : Int) (l : List Ap) (A : Option Addr) (n c : Nat) (w : World) (hr : Recs encP 4 w w.heap.size (.slice A n c) l) (hv : validA (m : Int) l = true) (hnow : nowB now = true) :
    Calls Try.prog 24 #[.int .i64 (m : Int), .slice A n c, .int .i64 now] w fun e w' => ∃ v, e = .returned (.tuple #[v, .int .i64 0]) ∧ GatI w (totV m l now) v w' := by
  have HV := Lib.hid (rvalid_any m l A n c w hr)
  have HNW := Lib.hid (fun u => rin_any now 0 20000000 u)
  rw [hv] at HV
  unfold nowB at hnow
  rw [hnow] at HNW
  obtain ⟨v0, v1, v2, v3⟩ := validA_parts hv
  obtain ⟨hn, _, _⟩ := recs_cap hr
  have HN := Lib.hid hn
  have HR := Lib.hid hr
  have hn9 : n ≤ 60 := by omega
  have HAP := Lib.hid (fun k x (h : l[k]? = some x) => okAp_parts (aps_at v3 h))
  have HAW := Lib.hid (fun k x (h : l[k]? = some x) => worth_bound (aps_at v3 h))
  have HOK := Lib.hid (fun k hk => acc_ok (n := m) (now := now) (by omega) (by omega) v3 k hk)
  have m8 : m ≤ 8 := by omega
  have mk1 := fun w : World => make_rep (t := 28) Try.underlying28 infoInt rfl (by decide) m (by omega) w
  clear hr hv hnow hn v0 v1 v2 v3
  go_enter Try.func24, Try.ntmps24
  go_wp2_with (first | (go_at_call 15; (with_reducible refine Calls.mono HV.out ?_); rintro r u1 ⟨rfl, hb⟩; have HB1 := Lib.hid hb; clear hb) | (go_at_call 31; (with_reducible refine Calls.mono (HNW.out _) ?_); rintro r u2 ⟨rfl, rfl⟩))
  have HRS := Lib.hid (row_zero u1 m)
  have HB5 := Lib.hid ((Below.refl u1.heap.size u1).alloc (Nat.le_refl _) (.cells (Array.replicate m (.int .i64 0)) 3))
  obtain ⟨gS, hgS⟩ : ∃ gS, u1.heap.size = gS := ⟨_, rfl⟩
  have HGG := Lib.hid hgS
  rw [hgS] at HRS ⊢
  clear mk1 hgS
  go_loopw [9] (fun z wr => ∃ k : Nat, z = .int .i64 (k : Int) ∧ k ≤ n ∧ Hid (Row wr gS 3 (iv1 ((accK m l now k).had.take m)).toArray) ∧ Hid (Below u1.heap.size u1 wr)) (fun z _ => n - (intOf z).toNat)
  case atStart => exact ⟨0, rfl, Nat.zero_le _, Lib.hid (by rw [show (accK m l now 0).had.take m = List.replicate m 0 by show (List.replicate 8 (0 : Int)).take m = _; rw [List.take_replicate, Nat.min_eq_left m8]]; exact HRS.out), HB5⟩
  case round =>
    obtain ⟨k, rfl, hk, RS, HB⟩ := hrel
    have k0 : (0 : Int) ≤ (k : Int) := by omega
    have e7 : IntKind.i64.wrap ((k : Int) + 1) = (k : Int) + 1 := IntWalk.i64_in _ (by omega)
    by_cases hlt : k < n
    · have hka : k < l.length := by have := HN.out; omega
      have k1 : (k : Int) < (n : Int) := by omega
      obtain ⟨b, o, rfl, hgb, hcell⟩ := recs_at (HR.out.next HB1.out) k hka
      obtain ⟨q, hq⟩ : ∃ q, l[k]? = some q := ⟨_, List.getElem?_eq_getElem hka⟩
      have a0 : wr.cell? ⟨b, o + k * 4, none⟩ = some (.int .i64 q.cand) := (HB.out.cell hgb).trans (hcell k q hq 0 _ rfl)
      have a1 : wr.cell? ⟨b, o + k * 4 + 1, none⟩ = some (.int .i64 q.at_) := (HB.out.cell hgb).trans (hcell k q hq 1 _ rfl)
      have a2 : wr.cell? ⟨b, o + k * 4 + 2, none⟩ = some (.int .i64 q.secs) := (HB.out.cell hgb).trans (hcell k q hq 2 _ rfl)
      have a3 : wr.cell? ⟨b, o + k * 4 + 3, none⟩ = some (.int .i64 q.weight) := (HB.out.cell hgb).trans (hcell k q hq 3 _ rfl)
      have lw := HB.out.size
      have g1 : b < wr.heap.size := by omega
      have hqo := HAP.out k q hq
      have hqw := HAW.out k q hq
      have HN0 := Lib.hid (accK_succ (n := m) (now := now) hq)
      have hac := acc_step (HOK.out k (by omega)) (by omega)
      obtain ⟨M, hM, _⟩ := (HOK.out k (by omega)).lev
      have hlh := hM.lh
      obtain ⟨j, hj⟩ : ∃ j, q.cand.toNat = j := ⟨_, rfl⟩
      have hjm : j < m := by omega
      have hx := hac.1 j hjm
      have htk := tk_step (m := m) (k := k) (s := accK m l now k) (x := q)
      rw [hj] at htk
      obtain ⟨x, hxe⟩ : ∃ x, (accK m l now k).had.getD j 0 = x := ⟨_, rfl⟩
      have hget : ((accK m l now k).had.take m)[j]? = some x := by
        rw [List.getElem?_take_of_lt hjm, ← hxe, List.getD_eq_getElem?_getD, List.getElem?_eq_getElem (by omega)]
        rfl
      rw [hxe] at hx htk
      obtain ⟨H, hH⟩ : ∃ H, (accK m l now k).had.take m = H := ⟨_, rfl⟩
      rw [hH] at hget htk RS
      have HHE := Lib.hid hH
      have v5 := RS.out.cell j
      rw [List.getElem?_toArray, show (iv1 H)[j]? = some (.int .i64 x) by simp [iv1, hget]] at v5
      have w5 := RS.out.free j
      have l5 := RS.out.lt
      have hwq : worth q = q.secs * q.weight := rfl
      obtain ⟨z0, z1, z2, z3⟩ := q
      dsimp only at a0 a1 a2 a3 hqo hj hwq
      obtain ⟨wq, hwe⟩ : ∃ wq, z2 * z3 = wq := ⟨_, rfl⟩
      rw [hwe] at hwq
      rw [hwq] at hqw htk
      have HTK := Lib.hid htk
      have ew : IntKind.i64.wrap (z2 * z3) = wq := by rw [hwe]; exact IntWalk.i64_in _ (by omega)
      have ex : IntKind.i64.wrap (x + wq) = x + wq := IntWalk.i64_in _ (by omega)
      obtain rfl : z0 = (j : Int) := by omega
      have j0 : (0 : Int) ≤ (j : Int) := by omega
      have j1 : (j : Int) < (m : Int) := by omega
      have HBS := Lib.hid (show u1.heap.size ≤ gS by have := HGG.out; omega)
      clear hcell hq lw hqo hqw hac hM hlh hj hjm hx htk hxe hget hH hwe hwq
      by_cases hd : z1 ≤ now
      · have HNX := Lib.hid (show (accK m l now (k + 1)).had.take m = H.set j (x + wq) by rw [HN0.out, if_pos hd]; exact HTK.out)
        have d1 : decide (z1 ≤ now) = true := by rw [decide_eq_true_eq]; exact hd
        go_upto_region 8 with fail
        go_still_tail 27, (by kernel_rfl)
        change wpList _ _ _ _ _ wr.drew
        go_wp2
        go_roundw
        case rel => exact ⟨k + 1, by go_num, by omega, Lib.hid (by rw [HNX.out]; have h := RS.out.put j (.int .i64 (x + wq)); rw [List.setIfInBounds_toArray, ← List.map_set] at h; exact h), Lib.hid (HB.out.setCell (p := ⟨gS, j, none⟩) HBS.out _).drew⟩
        case measure => simp [intOf]; omega
      · have HNX := Lib.hid (show (accK m l now (k + 1)).had.take m = H by rw [HN0.out, if_neg hd]; exact HHE.out)
        go_wp2
        go_roundw
        case rel => exact ⟨k + 1, by go_num, by omega, by rw [HNX.out]; exact RS, HB⟩
        case measure => simp [intOf]; omega
    · have k1 : ¬ (k : Int) < (n : Int) := by omega
      have HE := Lib.hid (show (accK m l now k).had.take m = totV m l now by unfold totV accV; rw [show k = l.length by have := HN.out; omega])
      have HLT := Lib.hid (show (totV m l now).length = m by
        obtain ⟨M, hM, _⟩ := (HOK.out l.length (Nat.le_refl _)).lev
        unfold totV accV
        rw [List.length_take, hM.lh]
        omega)
      go_wp2
      refine bodyPost_ret (results_tmp2 rfl _ _ _) rfl ?_
      have h := RS.out
      rw [HE.out] at h
      have hs := HB1.out.size
      exact ⟨_, rfl, row_own h HLT.out (by omega) (by have := HGG.out; omega), below_to HB1.out HB.out⟩
set_option maxRecDepth 100000 in
set_option maxHeartbeats 16000000 in
theorem rOwed_bad (m now : Int) (l : List Ap) (A : Option Addr) (n c : Nat) (w : World) (hr : Recs encP 4 w w.heap.size (.slice A n c) l) (hbad : (validA m l && nowB now) = false) :
    Calls Try.prog 22 #[.int .i64 m, .slice A n c, .int .i64 now] w fun e w' => e = .returned (.tuple #[.slice none 0 0, .int .i64 130]) ∧ Below w.heap.size w w' := by
  have HC := Lib.hid (rClaims_bad m now l A n c w hr hbad)
  clear hr hbad
  go_enter Try.func22, Try.ntmps22
  go_wp2_with (go_at_call 17; (with_reducible refine Calls.mono HC.out ?_); rintro r u1 ⟨rfl, hb⟩; have HB1 := Lib.hid hb; clear hb)
  refine bodyPost_ret (results_tmp2 rfl _ _ _) rfl ?_
  exact ⟨rfl, HB1.out⟩
set_option maxRecDepth 100000 in
set_option maxHeartbeats 16000000 in
theorem rOwed_ok (m : Nat) (now : Int) (l : List Ap) (A : Option Addr) (n c : Nat) (w : World) (hr : Recs encP 4 w w.heap.size (.slice A n c) l) (hv : validA (m : Int) l = true) (hnow : nowB now = true) :
    Calls Try.prog 22 #[.int .i64 (m : Int), .slice A n c, .int .i64 now] w fun e w' => ∃ v, e = .returned (.tuple #[v, .int .i64 0]) ∧ GatI w (owV m l now) v w' := by
  obtain ⟨v0, v1, v2, v3⟩ := validA_parts hv
  have HC := Lib.hid (rClaims_ok m now l A n c w hr hv hnow)
  have hcl := rK_len (n := m) (now := now) (by omega) (by omega) v3 v2 l.length (Nat.le_refl _)
  rw [r_same (n := m) (now := now) (by omega) (by omega) v3] at hcl
  have HCO := Lib.hid (cl_ok (n := m) (now := now) (by omega) (by omega) v3)
  have HBD := Lib.hid (fun j k hj => sums_bd' (n := m) (now := now) (by omega) (by omega) v3 v2 j k hj)
  have HRE := Lib.hid (rest_bd (n := m) (now := now) (by omega) (by omega) v3)
  have HSA := Lib.hid (sumsK_all HCO.out)
  obtain ⟨C, hC⟩ : ∃ C, clV m l now = C := ⟨_, rfl⟩
  rw [hC] at HC hcl HCO HBD HSA HRE
  have hC9 : C.length ≤ 480 := by omega
  have m8 : m ≤ 8 := by omega
  have mk1 := fun w : World => make_rep (t := 28) Try.underlying28 infoInt rfl (by decide) m (by omega) w
  clear hr hv hnow hC hcl v0 v1 v2 v3
  go_enter Try.func22, Try.ntmps22
  go_wp2_with (go_at_call 17; (with_reducible refine Calls.mono HC.out ?_); rintro r u1 ⟨v, rfl, hg⟩; have HG1 := Lib.hid hg; obtain ⟨A1, c1, hv1, -⟩ := own_slice hg.own; subst hv1; clear hg)
  have HCR := Lib.hid HG1.out.recs
  have HRS := Lib.hid (row_zero u1 m)
  have HB5 := Lib.hid ((Below.refl u1.heap.size u1).alloc (Nat.le_refl _) (.cells (Array.replicate m (.int .i64 0)) 3))
  obtain ⟨gS, hgS⟩ : ∃ gS, u1.heap.size = gS := ⟨_, rfl⟩
  have HGG := Lib.hid hgS
  rw [hgS] at HRS ⊢
  clear mk1 hgS
  go_loopw [11] (fun z wr => ∃ k : Nat, z = .int .i64 (k : Int) ∧ k ≤ C.length ∧ Hid (Row wr gS 3 (iv1 (sumsK m C k)).toArray) ∧ Hid (Below u1.heap.size u1 wr)) (fun z _ => C.length - (intOf z).toNat)
  case atStart => exact ⟨0, rfl, Nat.zero_le _, Lib.hid (by rw [sumsK_zero]; exact HRS.out), HB5⟩
  case round =>
    obtain ⟨k, rfl, hk, RS, HB⟩ := hrel
    have k0 : (0 : Int) ≤ (k : Int) := by omega
    have e7 : IntKind.i64.wrap ((k : Int) + 1) = (k : Int) + 1 := IntWalk.i64_in _ (by omega)
    by_cases hlt : k < C.length
    · have k1 : (k : Int) < (C.length : Int) := by omega
      obtain ⟨y, hy⟩ : ∃ y, C[k]? = some y := ⟨_, List.getElem?_eq_getElem hlt⟩
      obtain ⟨b, o, rfl, hgb, hcell⟩ := recs_at HCR.out k hlt
      have a0 : wr.cell? ⟨b, o + k * 4, none⟩ = some (.int .i64 y.cand) := (HB.out.cell hgb).trans (hcell k y hy 0 _ rfl)
      have a2 : wr.cell? ⟨b, o + k * 4 + 2, none⟩ = some (.int .i64 y.rest) := (HB.out.cell hgb).trans (hcell k y hy 2 _ rfl)
      have lw := HB.out.size
      have g1 : b < wr.heap.size := by omega
      have hym := HCO.out.mem y (List.mem_of_getElem? hy)
      have hyr := HRE.out y (List.mem_of_getElem? hy)
      obtain ⟨j, hj⟩ : ∃ j : Nat, y.cand = (j : Int) := ⟨y.cand.toNat, by omega⟩
      have hjm : j < m := by omega
      have hbd := HBD.out j k hjm
      have HSS := Lib.hid (sumsK_step (n := m) hy hj)
      have hsg := sumsK_get (c := C) (i := k) hjm
      obtain ⟨S, hS⟩ : ∃ S, owedL ((C.take k).filter (ofC j)) = S := ⟨_, rfl⟩
      rw [hS] at hbd HSS hsg
      have v5 := RS.out.cell j
      rw [List.getElem?_toArray, show (iv1 (sumsK m C k))[j]? = some (.int .i64 S) by simp [iv1, hsg]] at v5
      have w5 := RS.out.free j
      have l5 := RS.out.lt
      obtain ⟨y0, y1, y2, y3⟩ := y
      dsimp only at a0 a2 hym hj HSS hyr
      subst hj
      have ex : IntKind.i64.wrap (S + y2) = S + y2 := IntWalk.i64_in _ (by omega)
      have j0 : (0 : Int) ≤ (j : Int) := by omega
      have j1 : (j : Int) < (m : Int) := by omega
      have HBS := Lib.hid (show u1.heap.size ≤ gS by have := HGG.out; omega)
      clear hcell hy lw hym hyr hjm hbd hsg hS
      go_upto_region 8 with fail
      go_still_tail 21, (by kernel_rfl)
      change wpList _ _ _ _ _ wr.drew
      go_wp2
      go_roundw
      case rel => exact ⟨k + 1, by go_num, by omega, Lib.hid (by rw [HSS.out]; have h := RS.out.put j (.int .i64 (S + y2)); rw [List.setIfInBounds_toArray, ← List.map_set] at h; exact h), Lib.hid (HB.out.setCell (p := ⟨gS, j, none⟩) HBS.out _).drew⟩
      case measure => simp [intOf]; omega
    · have k1 : ¬ (k : Int) < (C.length : Int) := by omega
      have HE := Lib.hid (show sumsK m C k = owV m l now by rw [show k = C.length by omega]; exact HSA.out)
      go_wp2
      refine bodyPost_ret (results_tmp2 rfl _ _ _) rfl ?_
      have h := RS.out
      rw [HE.out] at h
      have hs := HG1.out.b.size
      exact ⟨_, rfl, row_own h (owV_len _ _ _) (by omega) (by have := HGG.out; omega), below_to HG1.out.b HB.out⟩
