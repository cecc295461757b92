/- The law ClockNarrows answers true. -/
import Derived.Test.YtfbgfcpehlimfaaL5a
namespace Go.Proofs.Ytfbgfcpehlimfaa
open Go.RowKit
attribute [local go_sem ↓] append_appN

/-- Between two rounds: the rows of both clocks, the boxes. -/
def NrI (w w2 : World) (d : Int) (p0 p1 : Int) (A : Option Addr) (N c : Nat) (l m : List Ca.R3) (wr : World) : Prop :=
  ∃ v1 v2, wr.ownsRow (w2.heap.size + 1 + 1 + 1) 48 3 v1 l.length (flat3 l) ∧ wr.ownsRow (w2.heap.size + 1 + 1 + 1) 48 3 v2 m.length (flat3 m) ∧ (∀ g, v1.ownBlock = some g → v2.ownBlock = some g → False) ∧
    Row wr (w2.heap.size + 1) 24 #[.int .i64 d, v1] ∧ Row wr (w2.heap.size + 1 + 1) 24 #[.int .i64 d, v2] ∧ Row wr w2.heap.size 24 #[.int .i64 d, .slice A N c] ∧ Row wr w.heap.size 46 #[.int .i64 p0, .int .i64 p1] ∧ Below w2.heap.size w2 wr
set_option maxRecDepth 100000 in
set_option maxHeartbeats 8000000 in
theorem clockNarrows_any (drift start : Int) (vr : Value) (lr : List Int) (va : Value) (la : List Ca.R3) (which p0 p1 locl : Int) (w : World) (h1 : I64 drift) (h2 : I64 start) (hr : Recs enc1 1 w w.heap.size vr lr) (hqr : ∀ x ∈ lr, I64 x) (ha : Recs enc3 3 w w.heap.size va la) (hqa : ∀ x ∈ la, I64 x.1 ∧ I64 x.2.1 ∧ I64 x.2.2) (h3 : I64 which) (hp0 : I64 p0) (hp1 : I64 p1) (h4 : I64 locl) :
    Calls Try.prog 5 #[.int .i64 drift, .int .i64 start, vr, va, .int .i64 which, .agg #[.int .i64 p0, .int .i64 p1], .int .i64 locl] w fun e w' => e = .returned (.bool true) ∧ Below w.heap.size w w' := by
  have HMD := Lib.hid (fun u hu => made_c hr hqr ha hqa h1 h2 u hu)
  have HL := Lib.hid (fun u => pick_any locl 5000 (by omega) (by omega) h4.1 h4.2 u)
  have HK := Lib.hid (fun n (a : 0 < n) (b : n ≤ 100000) u => pick_any which n a (by omega) h3.1 h3.2 u)
  have HP0 := Lib.hid (fun u => pick_any p0 100 (by omega) (by omega) hp0.1 hp0.2 u)
  have HP1 := Lib.hid (fun u => pick_any p1 100 (by omega) (by omega) hp1.1 hp1.2 u)
  obtain ⟨l1, l2⟩ := pickI_lt locl 5000 (by omega)
  obtain ⟨y1, y2⟩ := pickI_lt p0 100 (by omega)
  obtain ⟨y3, y4⟩ := pickI_lt p1 100 (by omega)
  obtain ⟨t, ht⟩ : ∃ t, pickI locl 5000 = t := ⟨_, rfl⟩
  obtain ⟨z0, hz0⟩ : ∃ z, pickI p0 100 = z := ⟨_, rfl⟩
  obtain ⟨z1, hz1⟩ : ∃ z, pickI p1 100 = z := ⟨_, rfl⟩
  rw [ht] at HL l1 l2
  rw [hz0] at HP0 y1 y2
  rw [hz1] at HP1 y3 y4
  clear hr hqr ha hqa h1 h2 h3 h4 hp0 hp1 ht hz0 hz1
  go_enter Try.func5, Try.ntmps5
  go_upto_if 43 with (first | (go_at_call 9; with_reducible refine Calls.mono (sane_any _) ?_; rintro e w1 ⟨rfl, hb1⟩; obtain ⟨-, -, hk1, hs1, hr1⟩ := kept2 hb1; have HB1 := Lib.hid hk1; have HBY := Lib.hid hr1; clear hb1 hk1 hr1) | (go_at_call 15; with_reducible refine Calls.mono (HMD.out _ HB1.out) ?_; unfold MadePost; rintro e w2 ⟨d, rs, v, rfl, hclk, d1, d2, hg, hlen, hb2⟩; have HB2 := Lib.hid (below_to HB1.out hb2); have HG := Lib.hid hg; have HBY2 := Lib.hid (HBY.out.below hb2 HBY.out.lt); have hsw := hb2.size; have HCK := Lib.hid hclk; obtain ⟨A, c, rfl, hrec⟩ := hclk.form; have HREC := Lib.hid hrec; clear hb2 hg hclk hrec))
  have HV := Lib.hid (fun k hk => recs_at HREC.out k hk)
  obtain ⟨-, hc1, hc2⟩ := recs_cap HREC.out
  obtain ⟨N, hN⟩ : ∃ N, rs.length = N := ⟨_, rfl⟩
  have HN := Lib.hid hN
  rw [hN] at hc1 hlen HCK ⊢
  clear hN
  by_cases k0 : N = 0
  · subst k0
    go_wp2
    go_ret
    exact ⟨rfl, HB2.out.alloc (by have := HB2.out.size; omega) _⟩
  have e0 : ((N : Int) == 0) = false := by rw [beq_eq_false_iff_ne]; omega
  have hk := HK.out (N : Int) (by omega) (by omega)
  obtain ⟨kk1, kk2⟩ := pickI_lt which (N : Int) (by omega)
  obtain ⟨kz, hkz⟩ : ∃ kz, pickI which (N : Int) = kz := ⟨_, rfl⟩
  rw [hkz] at hk kk1 kk2
  obtain ⟨K, rfl⟩ := Int.eq_ofNat_of_zero_le kk1
  have hKN : K < N := by omega
  have HK2 := Lib.hid hk
  clear hk hkz HK
  have hKl : K < rs.length := by have := HN.out; omega
  obtain ⟨x0, hx0⟩ : ∃ x, rs[K] = x := ⟨_, rfl⟩
  obtain ⟨ga, gb, gc, gd, ge⟩ := HG.out rs[K] (List.getElem_mem hKl)
  rw [hx0] at ga gb gc gd ge
  obtain ⟨X0, X1, X2⟩ := x0
  dsimp only at ga gb gc gd ge
  obtain ⟨lo, hlo⟩ : ∃ lo, max (X1 - z0) 0 = lo := ⟨_, rfl⟩
  have HX0 := Lib.hid hx0
  clear hx0
  go_wp2_with (first | (go_at_call 18; (first | (with_reducible refine Calls.mono (HL.out _) ?_) | (with_reducible refine Calls.mono (HK2.out _) ?_)); rintro e w' ⟨rfl, rfl⟩))
  obtain ⟨Y, hY⟩ : ∃ Y : Ca.R3, Y = (X0, lo, X2 + z1) := ⟨_, rfl⟩
  have HI0 : Hid (NrI w w2 d p0 p1 A N c (fewL rs K 0) (vagL rs Y K 0) (((w2.alloc (.cells #[.int .i64 d, .slice A N c] 24)).alloc (.cells #[.int .i64 d, .slice none 0 0] 24)).alloc (.cells #[.int .i64 d, .slice none 0 0] 24))) := Lib.hid (by
    have hB := Row.new (w2.alloc (.cells #[.int .i64 d, .slice A N c] 24)) 24 #[.int .i64 d, .slice none 0 0]
    have hC := Row.new ((w2.alloc (.cells #[.int .i64 d, .slice A N c] 24)).alloc (.cells #[.int .i64 d, .slice none 0 0] 24)) 24 #[.int .i64 d, .slice none 0 0]
    simp only [World.size_alloc] at hB hC
    have hb3 : Below w2.heap.size w2 (((w2.alloc (.cells #[.int .i64 d, .slice A N c] 24)).alloc (.cells #[.int .i64 d, .slice none 0 0] 24)).alloc (.cells #[.int .i64 d, .slice none 0 0] 24)) := (((Below.refl _ w2).alloc (Nat.le_refl _) _).alloc (by simp) _).alloc (by simp; omega) _
    have e1 : fewL rs K 0 = [] := by simp [fewL]
    have e2 : vagL rs Y K 0 = [] := by simp [vagL]
    rw [e1, e2]
    exact ⟨.slice none 0 0, .slice none 0 0, ⟨rfl, .inl ⟨rfl, rfl⟩⟩, ⟨rfl, .inl ⟨rfl, rfl⟩⟩, fun g h => by simp [Value.ownBlock] at h, hB.alloc _, hC, ((Row.new w2 _ _).alloc _).alloc _, HBY2.out.below hb3 HBY2.out.lt, hb3⟩)
  go_loopw [21, 22] (fun i _ wr => ∃ k : Nat, k ≤ N ∧ i = .int .i64 (k : Int) ∧ Hid (NrI w w2 d p0 p1 A N c (fewL rs K k) (vagL rs Y K k) wr)) (fun i _ _ => N - (intOf i).toNat)
  case atStart => exact ⟨0, by omega, rfl, HI0⟩
  case round =>
    obtain ⟨i, hi, rfl, HI⟩ := hrel
    obtain ⟨v1, v2, ho1, ho2, hd, hf, hv, hcb, hby, hbw⟩ := HI.out
    obtain ⟨M1, hM1⟩ : ∃ M, (fewL rs K i).length = M := ⟨_, rfl⟩
    have hM2 : (vagL rs Y K i).length = i := vag_len rs Y K i (by have := HN.out; omega)
    rw [hM1] at ho1
    rw [hM2] at ho2
    have hM3 : M1 ≤ i := by rw [← hM1]; exact few_len rs K i
    obtain ⟨A1, a1, rfl, -, -, -⟩ := own_slice ho1
    obtain ⟨A2, a2, rfl, -, -, -⟩ := own_slice ho2
    have HM1 := Lib.hid hM1; have HM2 := Lib.hid hM2
    clear hM1 hM2 HI
    have b0 := hcb.cell 0
    have b1 := hcb.cell 1
    have f0 := hf.cell 0
    have f1 := hf.cell 1
    have g0 := hv.cell 0
    have g1 := hv.cell 1
    have q0 := hby.cell 0
    have q1 := hby.cell 1
    simp only [List.getElem?_toArray, List.getElem?_cons_zero, List.getElem?_cons_succ] at b0 b1 f0 f1 g0 g1 q0 q1
    have hsz := hv.lt
    have hszf := hf.lt
    have hszc := hcb.lt
    have hszb := hby.lt
    have HBW := Lib.hid hbw
    by_cases hlt : i < N
    · have hkl : i < rs.length := by have := HN.out; omega
      obtain ⟨g, off, rfl, hg, hcell⟩ := HV.out i hkl
      obtain ⟨c0, c1, c2⟩ := cells3 hcell i hkl
      rw [← hbw.cell (p := ⟨g, off + i * 3, none⟩) hg] at c0
      rw [← hbw.cell (p := ⟨g, off + i * 3 + 1, none⟩) hg] at c1
      rw [← hbw.cell (p := ⟨g, off + i * 3 + 2, none⟩) hg] at c2
      have hfs := few_step rs K i hkl
      have hvs := vag_step rs Y K i hkl
      have hxK : i = K → rs[i] = (X0, X1, X2) := fun h => by subst h; exact HX0.out
      obtain ⟨x, hx⟩ : ∃ x, rs[i] = x := ⟨_, rfl⟩
      rw [hx] at c0 c1 c2 hfs hvs hxK
      obtain ⟨p, q, r⟩ := x
      dsimp only at c0 c1 c2
      obtain ⟨Z, hZ⟩ : ∃ Z, (if i = K then Y else (p, q, r)) = Z := ⟨_, rfl⟩
      rw [hZ] at hvs
      have i1 : (0 : Int) ≤ (i : Int) := by omega
      have i2 : (i : Int) < (N : Int) := by omega
      have HO1 := Lib.hid ho1; have HO2 := Lib.hid ho2; have HD := Lib.hid hd; have HF := Lib.hid hf; have HVV := Lib.hid hv; have HCB := Lib.hid hcb; have HBB := Lib.hid hby; have HFS := Lib.hid hfs; have HVS := Lib.hid hvs; have HZ := Lib.hid hZ; have HXK := Lib.hid hxK
      clear ho1 ho2 hd hf hv hcb hby hfs hvs hZ hxK hcell hx hbw
      go_upto_if 72 with fail
      go_cut [] (fun wx => Hid (NrI w w2 d p0 p1 (some ⟨g, off, none⟩) N c (fewL rs K (i + 1)) (vagL rs Y K i) wx ∧ Row wx wr.heap.size 48 #[.int .i64 Z.1, .int .i64 Z.2.1, .int .i64 Z.2.2]))
      case first =>
        by_cases hiK : i = K
        · have hpq : p = X0 ∧ q = X1 ∧ r = X2 := by simpa using HXK.out hiK
          obtain ⟨rfl, rfl, rfl⟩ := hpq
          have e3 : ((i : Int) == (K : Int)) = true := by rw [beq_iff_eq]; omega
          have hfs := HFS.out
          rw [if_pos hiK] at hfs
          have hZ := HZ.out
          rw [if_pos hiK, hY] at hZ
          have hmx := fun (w : World) => run_max2 (P := Try.prog) (w := w) #[3, 3] 3 .i64 .i64 (q - z0) 0 lo hlo
          have e4 : IntKind.i64.wrap (q - z0) = q - z0 := IntWalk.i64_in _ (by omega)
          have e5 : IntKind.i64.wrap (r + z1) = r + z1 := IntWalk.i64_in _ (by omega)
          have hnew : ∀ n, NrI w w2 d p0 p1 (some ⟨g, off, none⟩) N c (fewL rs K (i + 1)) (vagL rs Y K i) ((wr.alloc (.cells #[.int .i64 p, .int .i64 lo, .int .i64 (r + z1)] 48)).drewN n) ∧ Row ((wr.alloc (.cells #[.int .i64 p, .int .i64 lo, .int .i64 (r + z1)] 48)).drewN n) wr.heap.size 48 #[.int .i64 Z.1, .int .i64 Z.2.1, .int .i64 Z.2.2] := fun n => by
            rw [hfs, ← hZ]
            refine ⟨⟨.slice A1 M1 a1, .slice A2 i a2, by rw [HM1.out]; exact HO1.out.alloc _, by rw [HM2.out]; exact HO2.out.alloc _, HD.out, HF.out.alloc _, HVV.out.alloc _, HCB.out.alloc _, HBB.out.alloc _, belowN (HBW.out.alloc (by omega) _) n⟩, Row.new wr _ _⟩
          have HNEW := Lib.hid hnew
          clear hfs hZ hnew
          subst hiK
          go_upto_region 17 with fail
          go_region_with (go_at_call 18; with_reducible refine Calls.mono (HP0.out _) ?_; rintro e w' ⟨rfl, rfl⟩)
          all_goals go_wp2
          all_goals go_region_with (go_at_call 18; with_reducible refine Calls.mono (HP1.out _) ?_; rintro e w' ⟨rfl, rfl⟩)
          all_goals go_wp2_with fail
          all_goals go_meet
          all_goals exact Lib.hid (HNEW.out 2)
        · have e3 : ((i : Int) == (K : Int)) = false := by rw [beq_eq_false_iff_ne]; omega
          have hfs := HFS.out
          rw [if_neg hiK] at hfs
          have hZ := HZ.out
          rw [if_neg hiK] at hZ
          obtain ⟨A3, a3, w3, hrun, hn1, hn2, hnd, hbl, hkp⟩ := push_two (w := wr.alloc (.cells #[.int .i64 p, .int .i64 q, .int .i64 r] 48)) (p, q, r) (HO1.out.alloc _) (HO2.out.alloc _) HD.out (by omega) (by simp; omega)
          rw [World.size_alloc] at hrun
          have hbl2 : Below (w2.heap.size + 1 + 1 + 1) wr w3 := ((Below.refl _ wr).alloc (by omega) _).trans hbl
          have hf3 := HF.out.below hbl2 (by omega)
          have fz := hf3.free 1
          have cz := hf3.cell 1
          simp only [List.getElem?_toArray, List.getElem?_cons_zero, List.getElem?_cons_succ] at cz
          have hr3 : Row w3 wr.heap.size 48 #[.int .i64 Z.1, .int .i64 Z.2.1, .int .i64 Z.2.2] := by
            rw [← hZ]
            exact (hkp wr.heap.size (by simp) fun h => by have := own_lt HO1.out _ h; omega).trans (Row.new wr _ _)
          have hl := congrArg List.length hfs
          rw [List.length_append, HM1.out] at hl
          simp only [List.length_cons, List.length_nil, Nat.zero_add] at hl
          have HX : Hid (NrI w w2 d p0 p1 (some ⟨g, off, none⟩) N c (fewL rs K (i + 1)) (vagL rs Y K i) (w3.setCell ⟨w2.heap.size + 1, 1, none⟩ (.slice A3 (M1 + 1) a3)) ∧ Row (w3.setCell ⟨w2.heap.size + 1, 1, none⟩ (.slice A3 (M1 + 1) a3)) wr.heap.size 48 #[.int .i64 Z.1, .int .i64 Z.2.1, .int .i64 Z.2.2]) := Lib.hid (by
            refine ⟨⟨.slice A3 (M1 + 1) a3, .slice A2 i a2, ?_, by rw [HM2.out]; exact ownsRow_setCell_below hn2 (by show w2.heap.size + 1 < _; omega) _, hnd, ?_, (HVV.out.below hbl2 (by omega)).far (by show w2.heap.size + 1 + 1 ≠ w2.heap.size + 1; omega) _, (HCB.out.below hbl2 (by omega)).far (by show w2.heap.size ≠ w2.heap.size + 1; omega) _, (HBB.out.below hbl2 (by omega)).far (by show w.heap.size ≠ w2.heap.size + 1; omega) _, (HBW.out.trans (hbl2.mono (by omega))).setCell (by show w2.heap.size ≤ w2.heap.size + 1; omega) _⟩, hr3.far (by show wr.heap.size ≠ w2.heap.size + 1; omega) _⟩
            · rw [hl, hfs]; exact ownsRow_setCell_below hn1 (by show w2.heap.size + 1 < _; omega) _
            · have := hf3.put 1 (.slice A3 (M1 + 1) a3)
              simpa using this)
          clear hfs hZ hn1 hn2 hnd hbl hkp hbl2 hf3 hr3 hl
          go_wp2
          go_meet
          exact HX
      case rest =>
        obtain ⟨⟨v1, v2, ho1, ho2, hd, hf, hv, hcb, hby, hbw⟩, hrr⟩ := hcut.out
        rw [HM2.out] at ho2
        obtain ⟨A4, a4, rfl, -, -, -⟩ := own_slice ho2
        have r0 := hrr.cell 0
        have r1 := hrr.cell 1
        have r2 := hrr.cell 2
        have s0 := hv.cell 0
        have s1 := hv.cell 1
        simp only [List.getElem?_toArray, List.getElem?_cons_zero, List.getElem?_cons_succ] at r0 r1 r2 s0 s1
        have hlr := hrr.lt
        have hlv := hv.lt
        obtain ⟨A5, a5, w5, hrun, hn1, hn2, hnd, hbl, -⟩ := push_two (w := wc) Z ho2 ho1 (fun g a b => hd g b a) (by omega) (by omega)
        have hv5 := hv.below hbl (by omega)
        have fz := hv5.free 1
        have cz := hv5.cell 1
        simp only [List.getElem?_toArray, List.getElem?_cons_zero, List.getElem?_cons_succ] at cz
        have HX : Hid (NrI w w2 d p0 p1 (some ⟨g, off, none⟩) N c (fewL rs K (i + 1)) (vagL rs Y K (i + 1)) (w5.setCell ⟨w2.heap.size + 1 + 1, 1, none⟩ (.slice A5 (i + 1) a5))) := Lib.hid (by
          rw [HVS.out]
          refine ⟨v1, .slice A5 (i + 1) a5, ownsRow_setCell_below hn2 (by show w2.heap.size + 1 + 1 < _; omega) _, ?_, fun g a b => hnd g b a, (hf.below hbl (by omega)).far (by show w2.heap.size + 1 ≠ w2.heap.size + 1 + 1; omega) _, ?_, (hcb.below hbl (by omega)).far (by show w2.heap.size ≠ w2.heap.size + 1 + 1; omega) _, (hby.below hbl (by omega)).far (by show w.heap.size ≠ w2.heap.size + 1 + 1; omega) _, (hbw.trans (hbl.mono (by omega))).setCell (by show w2.heap.size ≤ w2.heap.size + 1 + 1; omega) _⟩
          · rw [List.length_append, HM2.out]
            exact ownsRow_setCell_below hn1 (by show w2.heap.size + 1 + 1 < _; omega) _
          · have := hv5.put 1 (.slice A5 (i + 1) a5)
            simpa using this)
        obtain ⟨Z1, Z2, Z3⟩ := Z
        dsimp only at r0 r1 r2 hrun
        clear b0 b1 f0 f1 g0 g1 q0 q1 c0 c1 c2 hcut ho1 ho2 hd hf hv hcb hby hbw hrr hn1 hn2 hnd hbl hv5
        go_wp2
        go_roundw
        case rel => exact ⟨i + 1, by omega, by go_num, HX⟩
        case measure => simp [intOf]; omega
    · have hiN : i = N := by omega
      have hil : i = rs.length := by have := HN.out; omega
      have hck1 := HCK.out.next HBW.out
      have hck2 : Clk wr (.agg #[.int .i64 d, .slice A1 M1 a1]) d (fewL rs K i) := ⟨A1, a1, by rw [HM1.out], by rw [HM1.out]; exact recs3_of_own ho1 HM1.out⟩
      have hck3 : Clk wr (.agg #[.int .i64 d, .slice A2 i a2]) d (vagL rs Y K i) := ⟨A2, a2, by rw [HM2.out], by rw [HM2.out]; exact recs3_of_own ho2 HM2.out⟩
      have hA1 := fun u hu => at_c hck1 t u hu
      have hA2 := fun u hu => at_c hck2 t u hu
      have hA3 := fun u hu => at_c hck3 t u hu
      have hm1 := few_m d t rs K hKl
      have hx0 := HX0.out
      have hm2 := vag_m d t rs K hKl Y (by rw [hY, hx0]) (by rw [hY]; show 0 ≤ lo; omega) (by rw [hY, hx0]; show lo ≤ X1; omega) (by rw [hY, hx0]; show X2 ≤ X2 + z1; omega) (by rw [hY]; show X2 + z1 ≤ 10000000; omega)
      have hbad := atM_bad d rs t
      rw [← hil] at hm1 hm2
      obtain ⟨x, hx⟩ : ∃ x, atM d rs t = x := ⟨_, rfl⟩
      obtain ⟨y, hy⟩ : ∃ y, atM d (fewL rs K i) t = y := ⟨_, rfl⟩
      obtain ⟨z, hz⟩ : ∃ z, atM d (vagL rs Y K i) t = z := ⟨_, rfl⟩
      rw [hx] at hA1 hm1 hm2 hbad
      rw [hy] at hA2 hm1
      rw [hz] at hA3 hm2
      obtain ⟨x1, x2, x3⟩ := x
      obtain ⟨y1, y2, y3⟩ := y
      obtain ⟨z1, z2, z3⟩ := z
      dsimp only at hA1 hA2 hA3 hm1 hm2 hbad
      have HA1 := Lib.hid hA1; have HA2 := Lib.hid hA2; have HA3 := Lib.hid hA3; have HF := Lib.hid hf; have HVV := Lib.hid hv
      clear hck1 hck2 hck3 hA1 hA2 hA3 hx hy hz hx0 ho1 ho2 hd hf hv hcb hby hbw
      clear hlt hil
      subst hiN
      by_cases k2 : x3 = 0
      · obtain ⟨m1, m2, m3⟩ := hm1 k2
        obtain ⟨n1, n2, n3⟩ := hm2 k2
        clear hm1 hm2 hbad
        subst k2; subst m1; subst n1
        go_wp2_with (go_at_call 19; (first | (with_reducible refine Calls.mono (HA1.out _ (Below.refl _ _)) ?_; rintro e w4 ⟨rfl, hb4⟩; have HB4 := Lib.hid hb4; obtain ⟨m0, m1⟩ := box2 HF.out hb4; clear hb4) | (with_reducible refine Calls.mono (HA2.out _ HB4.out) ?_; rintro e w5 ⟨rfl, hb5⟩; have HB5 := Lib.hid (below_to HB4.out hb5); obtain ⟨m2, m3⟩ := box2 HVV.out HB5.out; clear hb5) | (with_reducible refine Calls.mono (HA3.out _ HB5.out) ?_; rintro e w6 ⟨rfl, hb6⟩; have HB6 := Lib.hid (below_to HB5.out hb6); clear hb6)))
        go_ret
        exact ⟨rfl, below_to HB2.out (below_to HBW.out HB6.out)⟩
      · have e2 : (x3 == 0) = false := by rw [beq_eq_false_iff_ne]; exact k2
        obtain ⟨rfl, rfl⟩ := hbad k2
        clear hm1 hm2 k2
        go_wp2_with (go_at_call 19; (first | (with_reducible refine Calls.mono (HA1.out _ (Below.refl _ _)) ?_; rintro e w4 ⟨rfl, hb4⟩; have HB4 := Lib.hid hb4; obtain ⟨m0, m1⟩ := box2 HF.out hb4; clear hb4) | (with_reducible refine Calls.mono (HA2.out _ HB4.out) ?_; rintro e w5 ⟨rfl, hb5⟩; have HB5 := Lib.hid (below_to HB4.out hb5); obtain ⟨m2, m3⟩ := box2 HVV.out HB5.out; clear hb5) | (with_reducible refine Calls.mono (HA3.out _ HB5.out) ?_; rintro e w6 ⟨rfl, hb6⟩; have HB6 := Lib.hid (below_to HB5.out hb6); clear hb6)))
        go_ret
        exact ⟨rfl, below_to HB2.out (below_to HBW.out HB6.out)⟩
end Go.Proofs.Ytfbgfcpehlimfaa
