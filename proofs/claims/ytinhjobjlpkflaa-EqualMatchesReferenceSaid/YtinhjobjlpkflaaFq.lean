/- The reference's Claims. -/
import Derived.Test.YtinhjobjlpkflaaFo
import Derived.Test.YtinhjobjlpkflaaFp
import Derived.Deep.CutBlock
namespace Go.Proofs.Ytinhjobjlpkflaa
open Go.RowKit Go.Shelf
attribute [local go_sem ↓] append_appN

theorem sr_fbd (cand : Int) : ∀ (l : List Cl) (st : List Cl × Int), (∀ c ∈ l, 0 < c.rest) → 0 ≤ st.2 → 0 ≤ (l.foldl (srF cand) st).2 ∧ (l.foldl (srF cand) st).2 ≤ st.2
  | [], st, _, h => ⟨h, Int.le_refl _⟩
  | c :: l, st, hp, h => by
    have h0 := hp c (by simp)
    have hs : 0 ≤ (srF cand st c).2 ∧ (srF cand st c).2 ≤ st.2 := by
      unfold srF
      split
      · dsimp only; omega
      · exact ⟨h, Int.le_refl _⟩
    have ih := sr_fbd cand l (srF cand st c) (fun x hx => hp x (by simp [hx])) hs.1
    rw [List.foldl_cons]
    omega
theorem sr_bd {cand : Int} {l : List Cl} {w : Int} (hp : ∀ c ∈ l, 0 < c.rest) (h : 0 ≤ w) : 0 ≤ (srL cand l w).2 ∧ (srL cand l w).2 ≤ w := sr_fbd cand l ([], w) hp h
theorem sr_len (cand : Int) (l : List Cl) (w : Int) : (srL cand l w).1.length ≤ l.length := by
  have h1 := (sr_sub cand l ([], w)).length_le
  simp only [List.length_map, List.map_nil, List.nil_append] at h1
  exact h1
theorem ROk.le {n k : Nat} {s : Ac} {o : List Cl} (h : ROk n k s o) (ha : AcOk n k s) : ∀ x ∈ o, x.rest ≤ 36000 := fun x hx => by
  have hm := h.mem x hx
  have hf : x ∈ o.filter (ofC x.cand.toNat) := List.mem_filter.2 ⟨hx, by unfold ofC; rw [decide_eq_true_eq]; omega⟩
  rw [h.per] at hf
  exact (ha.cand _ x hf).2.2.2.1
theorem GatC.setB {w : World} {L : List Cl} {o : Value} {wr : World} (h : GatC w L o wr) {gB : Nat} (hn : o.ownBlock ≠ some gB) (hg : w.heap.size ≤ gB) (i : Nat) (y : Value) : GatC w L o (wr.setCell ⟨gB, i, none⟩ y) :=
  ⟨own_keep h.own fun q e => Below.heap_setCell wr ⟨gB, i, none⟩ _ q (fun e2 => hn (by rw [e, e2])), h.b.setCell (p := ⟨gB, i, none⟩) hg _⟩
theorem GatC.low {w w1 : World} {L : List Cl} {o : Value} {wr : World} (h : GatC w1 L o wr) (hb : Below w.heap.size w w1) : GatC w L o wr := ⟨own_lower h.own hb.size, below_to hb h.b⟩
set_option maxRecDepth 100000 in
set_option maxHeartbeats 16000000 in
theorem rClaims_bad (n now : Int) (l : List Ap) (A : Option Addr) (len c : Nat) (w : World) (hr : Recs encP 4 w w.heap.size (.slice A len c) l) (hbad : (validA n l && nowB now) = false) :
    Calls Try.prog 17 #[.int .i64 n, .slice A len c, .int .i64 now] w fun e w' => e = .returned (.tuple #[.slice none 0 0, .int .i64 130]) ∧ Below w.heap.size w w' := by
  have HV := Lib.hid (rvalid_any n l A len c w hr)
  have HNW := Lib.hid (fun u => rin_any now 0 20000000 u)
  clear hr
  unfold nowB at hbad
  obtain ⟨b0, h0⟩ : ∃ b, validA n l = b := ⟨_, rfl⟩
  obtain ⟨b1, h1⟩ : ∃ b, (decide (0 ≤ now) && decide (now ≤ 20000000)) = b := ⟨_, rfl⟩
  rw [h0] at HV hbad
  rw [h1] at HNW hbad
  clear h0 h1
  cases b0 with
  | false =>
    go_enter Try.func17, Try.ntmps17
    go_wp2_with (first | (go_at_call 15; (with_reducible refine Calls.mono HV.out ?_); rintro r u1 ⟨rfl, hb⟩; have HB1 := Lib.hid hb; clear hb) | (go_at_call 31; (with_reducible refine Calls.mono (HNW.out _) ?_); rintro r u2 ⟨rfl, rfl⟩))
    refine bodyPost_ret (results_tmp2 rfl _ _ _) rfl ?_
    exact ⟨rfl, HB1.out⟩
  | true =>
    obtain rfl : b1 = false := by simpa using hbad
    clear hbad
    go_enter Try.func17, Try.ntmps17
    go_wp2_with (first | (go_at_call 15; (with_reducible refine Calls.mono HV.out ?_); rintro r u1 ⟨rfl, hb⟩; have HB1 := Lib.hid hb; clear hb) | (go_at_call 31; (with_reducible refine Calls.mono (HNW.out _) ?_); rintro r u2 ⟨rfl, rfl⟩))
    refine bodyPost_ret (results_tmp2 rfl _ _ _) rfl ?_
    exact ⟨rfl, HB1.out⟩
set_option maxRecDepth 100000 in
set_option maxHeartbeats 16000000 in
theorem rClaims_ok (m : Nat) (now : Int) (l : List Ap) (A : Option Addr) (len c : Nat) (w : World) (hr : Recs encP 4 w w.heap.size (.slice A len c) l) (hv : validA (m : Int) l = true) (hnow : nowB now = true) :
    Calls Try.prog 17 #[.int .i64 (m : Int), .slice A len c, .int .i64 now] w fun e w' => ∃ v, e = .returned (.tuple #[v, .int .i64 0]) ∧ GatC w (clV m l now) v w' := by
  have HV := Lib.hid (rvalid_any m l A len c w hr)
  have HNW := Lib.hid (fun u => rin_any now 0 20000000 u)
  rw [hv] at HV
  have hnow2 := hnow
  unfold nowB at hnow2
  rw [hnow2] at HNW
  obtain ⟨v0, v1, v2, v3⟩ := validA_parts hv
  obtain ⟨hn, _, _⟩ := recs_cap hr
  have HN := Lib.hid hn
  have HR := Lib.hid hr
  have hn9 : len ≤ 60 := by omega
  have HAP := Lib.hid (fun k x (h : l[k]? = some x) => okAp_parts (aps_at v3 h))
  have HAW := Lib.hid (fun k x (h : l[k]? = some x) => worth_bound (aps_at v3 h))
  have HRO := Lib.hid (fun k hk => r_ok (n := m) (now := now) (by omega) (by omega) v3 k hk)
  have HRX := Lib.hid (fun k hk => (r_ok (n := m) (now := now) (by omega) (by omega) v3 k hk).le (acc_ok (now := now) (by omega) (by omega) v3 k hk))
  have HRL := Lib.hid (fun k hk => rK_len (n := m) (now := now) (by omega) (by omega) v3 v2 k hk)
  have HFIN := Lib.hid (r_same (n := m) (now := now) (by omega) (by omega) v3)
  have m8 : m ≤ 8 := by omega
  clear hr hv hnow hnow2 hn v0 v1 v2 v3
  go_enter Try.func17, Try.ntmps17
  go_wp2_with (first | (go_at_call 15; (with_reducible refine Calls.mono HV.out ?_); rintro r u1 ⟨rfl, hb⟩; have HB1 := Lib.hid hb; clear hb) | (go_at_call 31; (with_reducible refine Calls.mono (HNW.out _) ?_); rintro r u2 ⟨rfl, rfl⟩))
  go_loopw [8, 9] (fun v z wr => ∃ k : Nat, z = .int .i64 (k : Int) ∧ k ≤ len ∧ Hid (GatC w (rK m l now k) v wr)) (fun _ z _ => len - (intOf z).toNat)
  case atStart => exact ⟨0, rfl, Nat.zero_le _, Lib.hid ⟨World.ownsRow_nil _ _ _ _, HB1.out⟩⟩
  case round =>
    obtain ⟨k, rfl, hk, HG⟩ := hrel
    have k0 : (0 : Int) ≤ (k : Int) := by omega
    have e7 : IntKind.i64.wrap ((k : Int) + 1) = (k : Int) + 1 := IntWalk.i64_in _ (by omega)
    have HOM := Lib.hid (HRO.out k (by have := HN.out; omega)).mem
    have HOX := Lib.hid (HRX.out k (by have := HN.out; omega))
    have HOL0 := Lib.hid (HRL.out k (by have := HN.out; omega))
    obtain ⟨O, hO⟩ : ∃ O, rK m l now k = O := ⟨_, rfl⟩
    have HOE := Lib.hid hO
    rw [hO] at HG HOM HOL0 HOX
    have HOL := Lib.hid (show O.length ≤ 480 by have := HOL0.out; omega)
    clear hO
    obtain ⟨Ao, co, rfl, hco, hco9, -⟩ := own_slice HG.out.own
    have ol9 : O.length ≤ 9223372036854775807 := by have := HOL.out; omega
    by_cases hlt : k < len
    · have hka : k < l.length := by have := HN.out; omega
      have k1 : (k : Int) < (len : Int) := by omega
      obtain ⟨b, o, rfl, hgb, hcell⟩ := recs_at HR.out k hka
      obtain ⟨q, hq⟩ : ∃ q, l[k]? = some q := ⟨_, List.getElem?_eq_getElem hka⟩
      have hbw := HG.out.b
      have a0 : wr.cell? ⟨b, o + k * 4, none⟩ = some (.int .i64 q.cand) := (hbw.cell hgb).trans (hcell k q hq 0 _ rfl)
      have a1 : wr.cell? ⟨b, o + k * 4 + 1, none⟩ = some (.int .i64 q.at_) := (hbw.cell hgb).trans (hcell k q hq 1 _ rfl)
      have a2 : wr.cell? ⟨b, o + k * 4 + 2, none⟩ = some (.int .i64 q.secs) := (hbw.cell hgb).trans (hcell k q hq 2 _ rfl)
      have a3 : wr.cell? ⟨b, o + k * 4 + 3, none⟩ = some (.int .i64 q.weight) := (hbw.cell hgb).trans (hcell k q hq 3 _ rfl)
      have lw := hbw.size
      have g1 : b < wr.heap.size := by omega
      have HQO := Lib.hid (HAP.out k q hq)
      have HQW := Lib.hid (HAW.out k q hq)
      have HN0 := Lib.hid (rK_succ (n := m) (now := now) hq)
      rw [HOE.out] at HN0
      obtain ⟨z0, z1, z2, z3⟩ := q
      dsimp only at a0 a1 a2 a3 HN0 HQO
      obtain ⟨W1, hW1⟩ : ∃ W1, wr.alloc (.cells #[.int .i64 z0, .int .i64 z1, .int .i64 z2, .int .i64 z3] 49) = W1 := ⟨_, rfl⟩
      obtain ⟨gA, hgA⟩ : ∃ gA, wr.heap.size = gA := ⟨_, rfl⟩
      have hb1 : Below wr.heap.size wr W1 := by rw [← hW1]; exact (Below.refl _ wr).alloc (Nat.le_refl _) _
      have RA := Lib.hid (show Row W1 gA 49 #[.int .i64 z0, .int .i64 z1, .int .i64 z2, .int .i64 z3] by rw [← hW1, ← hgA]; exact Row.new _ _ _)
      have RA0 := RA
      have HG1 := Lib.hid (HG.out.next hb1)
      have HOR := Lib.hid HG1.out.recs
      have HB01 := Lib.hid (show Below w.heap.size w W1 from HG1.out.b)
      have HW1 := Lib.hid hW1
      clear hcell hq hbw hgb lw hW1 hb1
      go_upto_region 8 with fail
      rw [HW1.out]
      clear a0 a1 a2 a3 g1
      have rz0 := RA.out.cell 0
      have rz1 := RA.out.cell 1
      have rz2 := RA.out.cell 2
      have rz3 := RA.out.cell 3
      simp only [List.getElem?_toArray, List.getElem?_cons_zero, List.getElem?_cons_succ] at rz0 rz1 rz2 rz3
      have frz0 := RA.out.free 0
      have frz1 := RA.out.free 1
      have frz2 := RA.out.free 2
      have frz3 := RA.out.free 3
      have lrz := RA.out.lt
      by_cases hd : z1 ≤ now
      · have d0 : ¬ now < z1 := by omega
        have HN1 := Lib.hid (show rK m l now (k + 1) = rStep m k ⟨z0, z1, z2, z3⟩ O by rw [HN0.out, if_pos hd])
        have hqw := HQW.out
        have hwq : worth ⟨z0, z1, z2, z3⟩ = z2 * z3 := rfl
        rw [hwq] at hqw
        obtain ⟨wq, hwe⟩ : ∃ wq, z2 * z3 = wq := ⟨_, rfl⟩
        rw [hwe] at hqw hwq
        have HWE := Lib.hid hwq
        have ew : IntKind.i64.wrap (z2 * z3) = wq := by rw [hwe]; exact IntWalk.i64_in _ (by omega)
        have HSW := Lib.hid (show 1 ≤ wq ∧ wq ≤ 36000 from hqw)
        have HZ1 := Lib.hid (show 0 ≤ z1 ∧ z1 ≤ 10000000 from ⟨HQO.out.2.2.1, HQO.out.2.2.2.1⟩)
        clear hwe hwq HN0 hd
        go_upto_region 10 with fail
        clear rz0 frz0 rz1 frz1 rz2 frz2 rz3 frz3 lrz
        go_wp2
        go_loopw [11, 12, 13] (fun wt rest z wi => ∃ j : Nat, z = .int .i64 (j : Int) ∧ j ≤ O.length ∧ wt = .int .i64 (srL z0 (O.take j) wq).2 ∧ Hid (GatC W1 (srL z0 (O.take j) wq).1 rest wi)) (fun _ _ z _ => O.length - (intOf z).toNat)
        case atStart => exact ⟨0, rfl, Nat.zero_le _, rfl, Lib.hid ⟨World.ownsRow_nil _ _ _ _, Below.refl _ _⟩⟩
        case round =>
          obtain ⟨j, rfl, hj, rfl, HGR⟩ := hrel
          have j0 : (0 : Int) ≤ (j : Int) := by omega
          have e8 : IntKind.i64.wrap ((j : Int) + 1) = (j : Int) + 1 := IntWalk.i64_in _ (by have := HOL.out; omega)
          have HSB := Lib.hid (sr_bd (cand := z0) (l := O.take j) (w := wq) (fun c hc => (HOM.out c (List.mem_of_mem_take hc)).1) (by omega))
          have HSL := Lib.hid (show (srL z0 (O.take j) wq).1.length ≤ 1000 by have := sr_len z0 (O.take j) wq; rw [List.length_take] at this; have := HOL.out; omega)
          obtain ⟨S, hS⟩ : ∃ S, srL z0 (O.take j) wq = S := ⟨_, rfl⟩
          rw [hS] at HSB HSL HGR ⊢
          have HSE := Lib.hid hS
          clear hS
          obtain ⟨SL, sw⟩ := S
          dsimp only at HSB HSL HGR ⊢
          obtain ⟨Ar, cr, rfl, -⟩ := own_slice HGR.out.own
          by_cases hjl : j < O.length
          · have j1 : (j : Int) < (O.length : Int) := by omega
            obtain ⟨y, hy⟩ : ∃ y, O[j]? = some y := ⟨_, List.getElem?_eq_getElem hjl⟩
            have hym := HOM.out y (List.mem_of_getElem? hy)
            have hyx := HOX.out y (List.mem_of_getElem? hy)
            obtain ⟨bo, oo, rfl, hgo, hocell⟩ := recs_at HOR.out j hjl
            have b0 : wr.cell? ⟨bo, oo + j * 4, none⟩ = some (.int .i64 y.cand) := (HGR.out.b.cell hgo).trans (hocell j y hy 0 _ rfl)
            have b1 : wr.cell? ⟨bo, oo + j * 4 + 1, none⟩ = some (.int .i64 y.of_) := (HGR.out.b.cell hgo).trans (hocell j y hy 1 _ rfl)
            have b2 : wr.cell? ⟨bo, oo + j * 4 + 2, none⟩ = some (.int .i64 y.rest) := (HGR.out.b.cell hgo).trans (hocell j y hy 2 _ rfl)
            have b3 : wr.cell? ⟨bo, oo + j * 4 + 3, none⟩ = some (.int .i64 y.until_) := (HGR.out.b.cell hgo).trans (hocell j y hy 3 _ rfl)
            have lwi := HGR.out.b.size
            have gbo : bo < wr.heap.size := by omega
            have HSN0 := Lib.hid (show srL z0 (O.take (j + 1)) wq = srF z0 (SL, sw) y by rw [srL_step hy, HSE.out])
            have hsb := HSB.out
            obtain ⟨y0, y1, y2, y3⟩ := y
            dsimp only at b0 b1 b2 b3 hym hyx
            have HYX := Lib.hid hyx
            clear hyx
            obtain ⟨W2, hW2⟩ : ∃ W2, wr.alloc (.cells #[.int .i64 y0, .int .i64 y1, .int .i64 y2, .int .i64 y3] 39) = W2 := ⟨_, rfl⟩
            obtain ⟨gC, hgC⟩ : ∃ gC, wr.heap.size = gC := ⟨_, rfl⟩
            have hb2 : Below wr.heap.size wr W2 := by rw [← hW2]; exact (Below.refl _ wr).alloc (Nat.le_refl _) _
            have RC2 := Lib.hid (show Row W2 gC 39 #[.int .i64 y0, .int .i64 y1, .int .i64 y2, .int .i64 y3] by rw [← hW2, ← hgC]; exact Row.new _ _ _)
            have HG2 := Lib.hid (HGR.out.next hb2)
            have RA2 := Lib.hid ((RA.out.below HGR.out.b RA.out.lt).below hb2 (by have := RA.out.lt; omega))
            have HGC := Lib.hid (show W1.heap.size ≤ gC by omega)
            have HNO := Lib.hid (show (Value.slice Ar SL.length cr).ownBlock ≠ some gC from fun e => by have := own_lt HGR.out.own gC e; omega)
            have HNA := Lib.hid (show gA ≠ gC by have := RA.out.lt; omega)
            have HW2 := Lib.hid hW2
            have HYM := Lib.hid hym
            clear hy hocell hgo lwi hW2 hb2
            go_upto_region 15 with fail
            rw [HW2.out]
            clear b0 b1 b2 b3 gbo
            have ra0 := RA2.out.cell 0
            have ra1 := RA2.out.cell 1
            have ra2 := RA2.out.cell 2
            have ra3 := RA2.out.cell 3
            simp only [List.getElem?_toArray, List.getElem?_cons_zero, List.getElem?_cons_succ] at ra0 ra1 ra2 ra3
            have fra0 := RA2.out.free 0
            have fra1 := RA2.out.free 1
            have fra2 := RA2.out.free 2
            have fra3 := RA2.out.free 3
            have lra := RA2.out.lt
            have rc0 := RC2.out.cell 0
            have rc1 := RC2.out.cell 1
            have rc2 := RC2.out.cell 2
            have rc3 := RC2.out.cell 3
            simp only [List.getElem?_toArray, List.getElem?_cons_zero, List.getElem?_cons_succ] at rc0 rc1 rc2 rc3
            have frc0 := RC2.out.free 0
            have frc1 := RC2.out.free 1
            have frc2 := RC2.out.free 2
            have frc3 := RC2.out.free 3
            have lrc := RC2.out.lt
            by_cases hc : y0 = z0
            · have x0 : (y0 == z0) = true := by simp [hc]
              obtain ⟨mn, hmn⟩ : ∃ mn, min sw y2 = mn := ⟨_, rfl⟩
              have MN := fun w : World => run_min2 (P := Try.prog) (w := w) #[3, 3] 3 .i64 .i64 sw y2 mn hmn
              have hmb : 0 ≤ mn ∧ mn ≤ sw ∧ mn ≤ y2 := by have := HYM.out; omega
              have HSN := Lib.hid (show srL z0 (O.take (j + 1)) wq = (if 0 < y2 - mn then SL ++ [⟨y0, y1, y2 - mn, y3⟩] else SL, sw - mn) by rw [HSN0.out]; unfold srF; dsimp only; rw [if_pos hc, hmn])
              have e1 : IntKind.i64.wrap (sw - mn) = sw - mn := IntWalk.i64_in _ (by have := HSW.out; omega)
              have e2 : IntKind.i64.wrap (y2 - mn) = y2 - mn := IntWalk.i64_in _ (by have := HYM.out; have := HYX.out; omega)
              obtain ⟨W3, hW3⟩ : ∃ W3, W2.setCell ⟨gC, 2, none⟩ (.int .i64 (y2 - mn)) = W3 := ⟨_, rfl⟩
              have RC3 := Lib.hid (show Row W3 gC 39 #[.int .i64 y0, .int .i64 y1, .int .i64 (y2 - mn), .int .i64 y3] by rw [← hW3]; simpa using RC2.out.put 2 (.int .i64 (y2 - mn)))
              have HG3 := Lib.hid (show GatC W1 SL (.slice Ar SL.length cr) W3 by rw [← hW3]; exact HG2.out.setB HNO.out HGC.out _ _)
              have HW3 := Lib.hid hW3
              clear hc hmn hW3 HSN0 hmb
              go_upto_region 19 with fail
              rw [HW3.out]
              clear ra0 fra0 ra1 fra1 ra2 fra2 ra3 fra3 lra rc0 frc0 rc1 frc1 rc2 frc2 rc3 frc3 lrc
              have HGW := HG3
              by_cases hp : 0 < y2 - mn
              · rw [if_pos hp] at HSN
                obtain ⟨A6, c6, w6, hrun, hG6⟩ := HGW.out.push (by have := HSL.out; omega) ⟨y0, y1, (y2 - mn), y3⟩ (cs := #[.int .i64 y0, .int .i64 y1, .int .i64 (y2 - mn), .int .i64 y3]) rfl
                have HG6 := Lib.hid hG6
                clear hG6
                have rd0 := RC3.out.cell 0
                have rd1 := RC3.out.cell 1
                have rd2 := RC3.out.cell 2
                have rd3 := RC3.out.cell 3
                simp only [List.getElem?_toArray, List.getElem?_cons_zero, List.getElem?_cons_succ] at rd0 rd1 rd2 rd3
                have frd0 := RC3.out.free 0
                have frd1 := RC3.out.free 1
                have frd2 := RC3.out.free 2
                have frd3 := RC3.out.free 3
                have lrd := RC3.out.lt
                go_wp2
                go_roundw
                case rel => exact ⟨j + 1, by go_num, by omega, by rw [HSN.out], by rw [HSN.out]; exact HG6⟩
                case measure => simp [intOf]; omega
              · rw [if_neg hp] at HSN
                have rd0 := RC3.out.cell 0
                have rd1 := RC3.out.cell 1
                have rd2 := RC3.out.cell 2
                have rd3 := RC3.out.cell 3
                simp only [List.getElem?_toArray, List.getElem?_cons_zero, List.getElem?_cons_succ] at rd0 rd1 rd2 rd3
                have frd0 := RC3.out.free 0
                have frd1 := RC3.out.free 1
                have frd2 := RC3.out.free 2
                have frd3 := RC3.out.free 3
                have lrd := RC3.out.lt
                go_wp2
                go_roundw
                case rel => exact ⟨j + 1, by go_num, by omega, by rw [HSN.out], by rw [HSN.out]; exact HGW⟩
                case measure => simp [intOf]; omega
            · have x0 : (y0 == z0) = false := by rw [beq_eq_false_iff_ne]; exact hc
              have hp : 0 < y2 := hym.1
              have HSN := Lib.hid (show srL z0 (O.take (j + 1)) wq = (SL ++ [⟨y0, y1, y2, y3⟩], sw) by rw [HSN0.out]; unfold srF; dsimp only; rw [if_neg hc, if_pos hp])
              have HGW := HG2
              clear HSN0 
              go_upto_region 19 with fail
              clear rc0 frc0 rc1 frc1 rc2 frc2 rc3 frc3 lrc
              obtain ⟨A6, c6, w6, hrun, hG6⟩ := HGW.out.push (by have := HSL.out; omega) ⟨y0, y1, y2, y3⟩ (cs := #[.int .i64 y0, .int .i64 y1, .int .i64 y2, .int .i64 y3]) rfl
              have HG6 := Lib.hid hG6
              clear hG6
              have rd0 := RC2.out.cell 0
              have rd1 := RC2.out.cell 1
              have rd2 := RC2.out.cell 2
              have rd3 := RC2.out.cell 3
              simp only [List.getElem?_toArray, List.getElem?_cons_zero, List.getElem?_cons_succ] at rd0 rd1 rd2 rd3
              have frd0 := RC2.out.free 0
              have frd1 := RC2.out.free 1
              have frd2 := RC2.out.free 2
              have frd3 := RC2.out.free 3
              have lrd := RC2.out.lt
              go_wp2
              go_roundw
              case rel => exact ⟨j + 1, by go_num, by omega, by rw [HSN.out], by rw [HSN.out]; exact HG6⟩
              case measure => simp [intOf]; omega
          · have j1 : ¬ (j : Int) < (O.length : Int) := by omega
            have HE := Lib.hid (show srL z0 O wq = (SL, sw) by rw [← HSE.out, List.take_of_length_le (by omega)])
            have HRS := Lib.hid (show rStep m k ⟨z0, z1, z2, z3⟩ O = SL ++ if 0 < sw then adK k ⟨z0, z1, z2, z3⟩ sw m else [] by unfold rStep; rw [show worth ⟨z0, z1, z2, z3⟩ = wq from HWE.out]; rw [HE.out])
            have RA5 := Lib.hid (RA.out.below HGR.out.b RA.out.lt)
            have HGR5 := HGR
            clear RA HSB
            go_wp2
            go_loopw [12, 16] (fun rest z wk => ∃ i : Nat, z = .int .i64 (i : Int) ∧ i ≤ m ∧ Hid (GatC W1 (SL ++ if 0 < sw then adK k ⟨z0, z1, z2, z3⟩ sw i else []) rest wk) ∧ Hid (Row wk gA 49 #[.int .i64 z0, .int .i64 z1, .int .i64 z2, .int .i64 z3])) (fun _ z _ => m - (intOf z).toNat)
            case atStart => exact ⟨0, rfl, Nat.zero_le _, Lib.hid (by have h := HGR5.out; rw [show (SL ++ if 0 < sw then adK k ⟨z0, z1, z2, z3⟩ sw 0 else []) = SL by simp [adK]]; exact h), RA5⟩
            case round =>
              obtain ⟨i, rfl, hi, HGK, RAK⟩ := hrel
              have i0 : (0 : Int) ≤ (i : Int) := by omega
              have e9 : IntKind.i64.wrap ((i : Int) + 1) = (i : Int) + 1 := IntWalk.i64_in _ (by omega)
              have rk0 := RAK.out.cell 0
              have rk1 := RAK.out.cell 1
              have rk2 := RAK.out.cell 2
              have rk3 := RAK.out.cell 3
              simp only [List.getElem?_toArray, List.getElem?_cons_zero, List.getElem?_cons_succ] at rk0 rk1 rk2 rk3
              have frk0 := RAK.out.free 0
              have frk1 := RAK.out.free 1
              have frk2 := RAK.out.free 2
              have frk3 := RAK.out.free 3
              have lrk := RAK.out.lt
              by_cases hsw : 0 < sw
              · simp only [if_pos hsw] at HGK HRS ⊢
                by_cases him : i < m
                · have i1 : (i : Int) < (m : Int) := by omega
                  have HAD := Lib.hid (adK_succ k ⟨z0, z1, z2, z3⟩ sw i)
                  have HADL := Lib.hid (show (SL ++ adK k ⟨z0, z1, z2, z3⟩ sw i).length ≤ 2000 by
                    rw [List.length_append]
                    have h1 : (adK k ⟨z0, z1, z2, z3⟩ sw i).length ≤ i := by unfold adK; rw [List.length_map]; exact Nat.le_trans (List.length_filter_le _ _) (by simp)
                    have := HSL.out
                    omega)
                  obtain ⟨AD, hAD⟩ : ∃ AD, SL ++ adK k ⟨z0, z1, z2, z3⟩ sw i = AD := ⟨_, rfl⟩
                  have HADE := Lib.hid hAD
                  rw [hAD] at HGK HADL
                  clear hAD
                  obtain ⟨Ak, ck, rfl, -⟩ := own_slice HGK.out.own
                  by_cases hic : (i : Int) = z0
                  · have x1 : ((i : Int) != z0) = false := by rw [bne_eq_false_iff_eq]; exact hic
                    have HN2 := Lib.hid (show SL ++ adK k ⟨z0, z1, z2, z3⟩ sw (i + 1) = AD by rw [HAD.out, if_pos hic]; exact HADE.out)
                    clear hic
                    go_wp2
                    go_roundw
                    case rel => exact ⟨i + 1, by go_num, by omega, by rw [HN2.out]; exact HGK, RAK⟩
                    case measure => simp [intOf]; omega
                  · have x1 : ((i : Int) != z0) = true := by rw [bne_iff_ne]; exact hic
                    have HN2 := Lib.hid (show SL ++ adK k ⟨z0, z1, z2, z3⟩ sw (i + 1) = AD ++ [⟨(i : Int), (k : Int), sw, z1 + 604800⟩] by rw [HAD.out, if_neg hic, ← List.append_assoc, HADE.out])
                    have ez : IntKind.i64.wrap (z1 + 604800) = z1 + 604800 := IntWalk.i64_in _ (by have := HZ1.out; omega)
                    obtain ⟨A6, c6, w6, hrun, hG6⟩ := HGK.out.push (by have := HADL.out; omega) ⟨(i : Int), (k : Int), sw, z1 + 604800⟩ (cs := #[.int .i64 (i : Int), .int .i64 (k : Int), .int .i64 sw, .int .i64 (z1 + 604800)]) rfl
                    have HG6 := Lib.hid hG6
                    have RA6 := Lib.hid (show Row w6 gA 49 #[.int .i64 z0, .int .i64 z1, .int .i64 z2, .int .i64 z3] from RA0.out.below hG6.b RA0.out.lt)
                    clear hic hG6
                    go_wp2
                    go_roundw
                    case rel => exact ⟨i + 1, by go_num, by omega, by rw [HN2.out]; exact HG6, RA6⟩
                    case measure => simp [intOf]; omega
                · have i1 : ¬ (i : Int) < (m : Int) := by omega
                  have HFN := Lib.hid (show SL ++ adK k ⟨z0, z1, z2, z3⟩ sw i = rK m l now (k + 1) by rw [HN1.out, HRS.out, show i = m by omega])
                  have HGF := Lib.hid (show GatC w (rK m l now (k + 1)) _ wr by rw [← HFN.out]; exact HGK.out.low HB01.out)
                  go_wp2
                  go_roundw
                  case rel => exact ⟨k + 1, by go_num, by omega, HGF⟩
                  case measure => simp [intOf]; omega
              · simp only [if_neg hsw, List.append_nil] at HGK HRS ⊢
                have HFN := Lib.hid (show SL = rK m l now (k + 1) by rw [HN1.out, HRS.out])
                have HGF := Lib.hid (show GatC w (rK m l now (k + 1)) _ wr by rw [← HFN.out]; exact HGK.out.low HB01.out)
                by_cases him : i < m
                · have i1 : (i : Int) < (m : Int) := by omega
                  go_wp2
                  go_roundw
                  case rel => exact ⟨k + 1, by go_num, by omega, HGF⟩
                  case measure => simp [intOf]; omega
                · have i1 : ¬ (i : Int) < (m : Int) := by omega
                  go_wp2
                  go_roundw
                  case rel => exact ⟨k + 1, by go_num, by omega, HGF⟩
                  case measure => simp [intOf]; omega
      · have d0 : now < z1 := by omega
        have HN1 := Lib.hid (show rK m l now (k + 1) = O by rw [HN0.out, if_neg hd])
        go_wp2
        go_roundw
        case rel => exact ⟨k + 1, by go_num, by omega, by rw [HN1.out]; exact HG1⟩
        case measure => simp [intOf]; omega
    · have k1 : ¬ (k : Int) < (len : Int) := by omega
      have HE := Lib.hid (show O = clV m l now by rw [← HOE.out, show k = l.length by have := HN.out; omega]; exact HFIN.out)
      go_wp2
      refine bodyPost_ret (results_tmp2 rfl _ _ _) rfl ?_
      exact ⟨_, rfl, by rw [← HE.out]; exact HG.out⟩
end Go.Proofs.Ytinhjobjlpkflaa
