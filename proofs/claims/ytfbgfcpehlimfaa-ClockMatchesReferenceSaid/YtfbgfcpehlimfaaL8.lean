/- The law ClockMoves answers true. -/
import Derived.Test.YtfbgfcpehlimfaaCr
import Derived.Test.YtfbgfcpehlimfaaL2
namespace Go.Proofs.Ytfbgfcpehlimfaa
open Go.RowKit
attribute [local go_sem ↓] append_appN

theorem made_c {w : World} {drift start : Int} {lr : List Int} {la : List Ca.R3} {vr va : Value} (hr : Recs enc1 1 w w.heap.size vr lr) (hqr : ∀ x ∈ lr, I64 x) (ha : Recs enc3 3 w w.heap.size va la) (hqa : ∀ x ∈ la, I64 x.1 ∧ I64 x.2.1 ∧ I64 x.2.2) (h1 : I64 drift) (h2 : I64 start) (u : World) (hu : Below w.heap.size w u) :
    Calls Try.prog 15 #[.int .i64 drift, .int .i64 start, vr, va] u (MadePost u) := made_any drift start lr la vr va u (hr.next hu) hqr (ha.next hu) hqa h1 h2
/-- A box that a clock lies in. -/
def ClkRow (w : World) (g : Nat) (d : Int) (rs : List Ca.R3) : Prop := ∃ A c, Row w g 24 #[.int .i64 d, .slice A rs.length c] ∧ Recs enc3 3 w w.heap.size (.slice A rs.length c) rs
theorem Good.made {x : Ca.R3} (h : Good x) : Ca.Made x := ⟨h.2.2.1, h.2.2.2.1, by have := h.2.2.2.2; omega⟩
def MvI (w2 : World) (d n : Int) (A : Option Addr) (N c : Nat) (rs : List Ca.R3) (k : Nat) (wr : World) : Prop :=
  ∃ v', wr.ownsRow (w2.heap.size + 1 + 1) 48 3 v' k (flat3 ((rs.take k).map (Ca.mv n))) ∧ Row wr (w2.heap.size + 1) 24 #[.int .i64 d, v'] ∧ Row wr w2.heap.size 24 #[.int .i64 d, .slice A N c] ∧ Below w2.heap.size w2 wr
theorem mv_take (n : Int) (l : List Ca.R3) (k : Nat) (hk : k < l.length) : (l.take (k + 1)).map (Ca.mv n) = (l.take k).map (Ca.mv n) ++ [Ca.mv n l[k]] := by
  rw [List.take_succ_eq_append_getElem hk, List.map_append]; rfl
set_option maxRecDepth 100000 in
set_option maxHeartbeats 8000000 in
theorem clockMoves_any (drift start : Int) (vr : Value) (lr : List Int) (va : Value) (la : List Ca.R3) (byy locl : Int) (w : World) (h1 : I64 drift) (h2 : I64 start) (hr : Recs enc1 1 w w.heap.size vr lr) (hqr : ∀ x ∈ lr, I64 x) (ha : Recs enc3 3 w w.heap.size va la) (hqa : ∀ x ∈ la, I64 x.1 ∧ I64 x.2.1 ∧ I64 x.2.2) (h3 : I64 byy) (h4 : I64 locl) :
    Calls Try.prog 8 #[.int .i64 drift, .int .i64 start, vr, va, .int .i64 byy, .int .i64 locl] w fun e w' => e = .returned (.bool true) ∧ Below w.heap.size w w' := by
  have HMD := Lib.hid (fun u hu => made_c hr hqr ha hqa h1 h2 u hu)
  have HB := Lib.hid (fun u => pick_any byy 100000 (by omega) (by omega) h3.1 h3.2 u)
  have HL := Lib.hid (fun u => pick_any locl 5000 (by omega) (by omega) h4.1 h4.2 u)
  obtain ⟨n1, n2⟩ := pickI_lt byy 100000 (by omega)
  obtain ⟨t1, t2⟩ := pickI_lt locl 5000 (by omega)
  obtain ⟨n, hn⟩ : ∃ n, pickI byy 100000 = n := ⟨_, rfl⟩
  obtain ⟨t, ht⟩ : ∃ t, pickI locl 5000 = t := ⟨_, rfl⟩
  rw [hn] at HB n1 n2
  rw [ht] at HL t1 t2
  clear hr hqr ha hqa h1 h2 h3 h4 hn ht
  go_enter Try.func8, Try.ntmps8
  go_wp2_with (first | (go_at_call 9; with_reducible refine Calls.mono (sane_any _) ?_; rintro e w1 ⟨rfl, hb1⟩; have HB1 := Lib.hid hb1; clear hb1) | (go_at_call 15; with_reducible refine Calls.mono (HMD.out _ HB1.out) ?_; unfold MadePost; rintro e w2 ⟨d, rs, v, rfl, hclk, d1, d2, hg, hlen, hb2⟩; have HB2 := Lib.hid (below_to HB1.out hb2); have HG := Lib.hid hg; obtain ⟨A, c, rfl, hrec⟩ := hclk.form; have HREC := Lib.hid hrec; clear hb2 hg hclk hrec) | (go_at_call 18; (first | (with_reducible refine Calls.mono (HB.out _) ?_) | (with_reducible refine Calls.mono (HL.out _) ?_)); rintro e w' ⟨rfl, rfl⟩))
  obtain ⟨N, hN⟩ : ∃ N, rs.length = N := ⟨_, rfl⟩
  have HN := Lib.hid hN
  have HV := Lib.hid (fun k hk => recs_at HREC.out k hk)
  obtain ⟨-, hc1, hc2⟩ := recs_cap HREC.out
  have hck : Clk w2 (.agg #[.int .i64 d, .slice A rs.length c]) d rs := ⟨A, c, rfl, HREC.out⟩
  rw [hN] at hc1 hlen hck ⊢
  have HCK := Lib.hid hck
  have HI0 : Hid (MvI w2 d n A N c rs 0 ((w2.alloc (.cells #[.int .i64 d, .slice A N c] 24)).alloc (.cells #[.int .i64 d, .slice none 0 0] 24))) := Lib.hid (by
    have hB := Row.new (w2.alloc (.cells #[.int .i64 d, .slice A N c] 24)) 24 #[.int .i64 d, .slice none 0 0]
    rw [World.size_alloc] at hB
    exact ⟨.slice none 0 0, ⟨rfl, .inl ⟨rfl, rfl⟩⟩, hB, (Row.new w2 _ _).alloc _, ((Below.refl _ w2).alloc (Nat.le_refl _) _).alloc (by simp) _⟩)
  clear hN hck
  go_loopw [18, 19] (fun i _ wr => ∃ k : Nat, k ≤ N ∧ i = .int .i64 (k : Int) ∧ Hid (MvI w2 d n A N c rs k wr)) (fun i _ _ => N - (intOf i).toNat)
  case atStart => exact ⟨0, by omega, rfl, HI0⟩
  case round =>
    obtain ⟨k, hk, rfl, HI⟩ := hrel
    obtain ⟨v', hrow, hmv, hcb, hbw⟩ := HI.out
    have b0 := hcb.cell 0
    have b1 := hcb.cell 1
    have m0 := hmv.cell 0
    have m1 := hmv.cell 1
    simp only [List.getElem?_toArray, List.getElem?_cons_zero, List.getElem?_cons_succ] at b0 b1 m0 m1
    have hsz := hmv.lt
    have HBW := Lib.hid hbw
    by_cases hlt : k < N
    · have hkl : k < rs.length := by have := HN.out; omega
      obtain ⟨g, off, rfl, hg, hcell⟩ := HV.out k hkl
      obtain ⟨c0, c1, c2⟩ := cells3 hcell k hkl
      rw [← hbw.cell (p := ⟨g, off + k * 3, none⟩) hg] at c0
      rw [← hbw.cell (p := ⟨g, off + k * 3 + 1, none⟩) hg] at c1
      rw [← hbw.cell (p := ⟨g, off + k * 3 + 2, none⟩) hg] at c2
      have htk := mv_take n rs k hkl
      obtain ⟨g1, g2, g3, g4, g5⟩ := HG.out rs[k] (List.getElem_mem hkl)
      obtain ⟨x, hx⟩ : ∃ x, rs[k] = x := ⟨_, rfl⟩
      rw [hx] at c0 c1 c2 htk g1 g2 g3 g4 g5
      obtain ⟨p, q, r⟩ := x
      dsimp only at c0 c1 c2 g1 g2 g3 g4 g5
      have hmvx : Ca.mv n (p, q, r) = (p, q + n, r + n) := rfl
      rw [hmvx] at htk
      have hrow2 := hrow.alloc (.cells #[.int .i64 p, .int .i64 q, .int .i64 r] 48)
      obtain ⟨v2, w3, hrun, hown, hgr⟩ := snoc_reading (w := wr.alloc (.cells #[.int .i64 p, .int .i64 q, .int .i64 r] 48)) (p, q + n, r + n) hrow2 (by omega) (by simp; omega)
      have hbl := own_below_grown hrow2 (by simp; omega) hgr
      have hbl2 : Below (w2.heap.size + 1 + 1) wr w3 := ((Below.refl _ wr).alloc (by omega) _).trans hbl
      have hmv3 := hmv.below hbl2 (by omega)
      have hcb3 := hcb.below hbl2 (by omega)
      have fz := hmv3.free 1
      have cz := hmv3.cell 1
      simp only [List.getElem?_toArray, List.getElem?_cons_zero, List.getElem?_cons_succ] at cz
      rw [World.size_alloc] at hrun
      obtain ⟨A2, c2', rfl, -, -, -⟩ := own_slice hown
      obtain ⟨A1, c1', rfl, -, -, -⟩ := own_slice hrow
      have HX : Hid (MvI w2 d n (some ⟨g, off, none⟩) N c rs (k + 1) (w3.setCell ⟨w2.heap.size + 1, 1, none⟩ (.slice A2 (k + 1) c2'))) := Lib.hid (by
        refine ⟨.slice A2 (k + 1) c2', ?_, ?_, hcb3.far (by show w2.heap.size ≠ w2.heap.size + 1; omega) _, (hbw.trans (hbl2.mono (by omega))).setCell (by show w2.heap.size ≤ w2.heap.size + 1; omega) _⟩
        · rw [htk]; exact ownsRow_setCell_below hown (by show w2.heap.size + 1 < _; omega) _
        · have := hmv3.put 1 (.slice A2 (k + 1) c2')
          simpa using this)
      have i1 : (0 : Int) ≤ (k : Int) := by omega
      have i2 : (k : Int) < (N : Int) := by omega
      clear hcell htk hx hmvx hrow2 hown hgr hbl hbl2 hmv3 hcb3 hrow hmv hcb hbw HI
      go_wp2
      go_roundw
      case rel => exact ⟨k + 1, by omega, by go_num, HX⟩
      case measure => simp [intOf]; omega
    · have hkN : k = N := by omega
      have hta : rs.take k = rs := List.take_of_length_le (by have := HN.out; omega)
      rw [hta, hkN] at hrow
      rw [hkN]
      obtain ⟨A1, c1', hv1, -, -, -⟩ := own_slice hrow
      subst hv1
      have hl2 : (rs.map (Ca.mv n)).length = N := by rw [List.length_map]; have := HN.out; omega
      have hck2 : Clk wr (.agg #[.int .i64 d, .slice A1 N c1']) d (rs.map (Ca.mv n)) := ⟨A1, c1', by rw [hl2], by rw [hl2]; exact recs3_of_own hrow hl2⟩
      have hck1 := HCK.out.next HBW.out
      have hA1 := fun u hu => at_c hck1 t u hu
      have hA2 := fun u hu => at_c hck2 t u hu
      have hbn := atM_bnd d rs t
      have hmm := fun h0 h1 h2 h3 => moves_m d t n rs n1 (by omega) t1 t2 (fun x hx => (HG.out x hx).made) h0 h1 h2 h3
      have hne : ¬ N = 0 → rs ≠ [] := fun h0 h => by have := HN.out; rw [h] at this; exact h0 this.symm
      have HNE := Lib.hid hne
      obtain ⟨x, hx⟩ : ∃ x, atM d rs t = x := ⟨_, rfl⟩
      obtain ⟨y, hy⟩ : ∃ y, atM d (rs.map (Ca.mv n)) t = y := ⟨_, rfl⟩
      rw [hx] at hA1 hbn hmm
      rw [hy] at hA2 hmm
      obtain ⟨x1, x2, x3⟩ := x
      obtain ⟨y1, y2, y3⟩ := y
      dsimp only at hA1 hA2 hbn hmm
      obtain ⟨z1, z2, z3, z4, z5⟩ := hbn
      have HA1 := Lib.hid hA1; have HA2 := Lib.hid hA2; have HMM := Lib.hid hmm
      have hsz0 := hbw.size
      have HCR := Lib.hid hcb; have HMR := Lib.hid hmv
      clear hk hlt hkN
      clear hrow hta hl2 hck1 hck2 hA1 hA2 hmm hx hy hmv hcb hbw hne
      by_cases k1 : N = 0
      · subst k1
        go_wp2_with (go_at_call 19; (first | (with_reducible refine Calls.mono (HA1.out _ (Below.refl _ _)) ?_; rintro e w4 ⟨rfl, hb4⟩; have HB4 := Lib.hid hb4; obtain ⟨p0, p1⟩ := box2 HMR.out hb4; clear hb4) | (with_reducible refine Calls.mono (HA2.out _ HB4.out) ?_; rintro e w5 ⟨rfl, hb5⟩; have HB5 := Lib.hid hb5; obtain ⟨p2, p3⟩ := box2 HCR.out (below_to HB4.out hb5); clear hb5)))
        go_ret
        exact ⟨rfl, below_to HB2.out (below_to HBW.out (below_to HB4.out HB5.out))⟩
      · have e1 : ((N : Int) == 0) = false := by rw [beq_eq_false_iff_ne]; omega
        by_cases k2 : x3 = 0
        · by_cases k3 : y3 = 0
          · by_cases k4 : x1 = 0
            · subst k2; subst k3; subst k4
              go_wp2_with (go_at_call 19; (first | (with_reducible refine Calls.mono (HA1.out _ (Below.refl _ _)) ?_; rintro e w4 ⟨rfl, hb4⟩; have HB4 := Lib.hid hb4; obtain ⟨p0, p1⟩ := box2 HMR.out hb4; clear hb4) | (with_reducible refine Calls.mono (HA2.out _ HB4.out) ?_; rintro e w5 ⟨rfl, hb5⟩; have HB5 := Lib.hid hb5; obtain ⟨p2, p3⟩ := box2 HCR.out (below_to HB4.out hb5); clear hb5)))
              go_ret
              exact ⟨rfl, below_to HB2.out (below_to HBW.out (below_to HB4.out HB5.out))⟩
            · have e4 : (x1 == 0) = false := by rw [beq_eq_false_iff_ne]; exact k4
              obtain ⟨hm1, hm2⟩ := HMM.out (HNE.out k1) k2 k3 k4
              have e5 : (x1 + n == 0) = false := by rw [beq_eq_false_iff_ne]; omega
              have r1 : IntKind.i64.wrap (x1 + n) = x1 + n := IntWalk.i64_in _ (by omega)
              have r2 : IntKind.i64.wrap (x2 + n) = x2 + n := IntWalk.i64_in _ (by omega)
              subst k2; subst k3; subst hm1; subst hm2
              go_wp2_with (go_at_call 19; (first | (with_reducible refine Calls.mono (HA1.out _ (Below.refl _ _)) ?_; rintro e w4 ⟨rfl, hb4⟩; have HB4 := Lib.hid hb4; obtain ⟨p0, p1⟩ := box2 HMR.out hb4; clear hb4) | (with_reducible refine Calls.mono (HA2.out _ HB4.out) ?_; rintro e w5 ⟨rfl, hb5⟩; have HB5 := Lib.hid hb5; obtain ⟨p2, p3⟩ := box2 HCR.out (below_to HB4.out hb5); clear hb5)))
              go_ret
              exact ⟨rfl, below_to HB2.out (below_to HBW.out (below_to HB4.out HB5.out))⟩
          · have e3 : (y3 == 0) = false := by rw [beq_eq_false_iff_ne]; exact k3
            subst k2
            go_wp2_with (go_at_call 19; (first | (with_reducible refine Calls.mono (HA1.out _ (Below.refl _ _)) ?_; rintro e w4 ⟨rfl, hb4⟩; have HB4 := Lib.hid hb4; obtain ⟨p0, p1⟩ := box2 HMR.out hb4; clear hb4) | (with_reducible refine Calls.mono (HA2.out _ HB4.out) ?_; rintro e w5 ⟨rfl, hb5⟩; have HB5 := Lib.hid hb5; obtain ⟨p2, p3⟩ := box2 HCR.out (below_to HB4.out hb5); clear hb5)))
            go_ret
            exact ⟨rfl, below_to HB2.out (below_to HBW.out (below_to HB4.out HB5.out))⟩
        · have e2 : (x3 == 0) = false := by rw [beq_eq_false_iff_ne]; exact k2
          go_wp2_with (go_at_call 19; (first | (with_reducible refine Calls.mono (HA1.out _ (Below.refl _ _)) ?_; rintro e w4 ⟨rfl, hb4⟩; have HB4 := Lib.hid hb4; obtain ⟨p0, p1⟩ := box2 HMR.out hb4; clear hb4) | (with_reducible refine Calls.mono (HA2.out _ HB4.out) ?_; rintro e w5 ⟨rfl, hb5⟩; have HB5 := Lib.hid hb5; obtain ⟨p2, p3⟩ := box2 HCR.out (below_to HB4.out hb5); clear hb5)))
          go_ret
          exact ⟨rfl, below_to HB2.out (below_to HBW.out (below_to HB4.out HB5.out))⟩
end Go.Proofs.Ytfbgfcpehlimfaa
