/- The reference's Groups. The reference's Print. The reference's value, day and part. The reference's Cut. What the reference's group makes of a text, in plain words. The reference's group reads back what was written. The reference's group. -/
import Derived.Test.YtmfpaankkoaoaaaDoorZk
/- The reference's Groups. -/
namespace Go.Proofs.YtmfpaankkoaoaaaDoor
open Go.RowKit Go.Shelf
attribute [local go_sem ↓] append_appN

theorem infoInt : (Tryd.prog.info? 3).map (fun i => (i.zero, i.size, i.bytes)) = some (some (.int .i64 0), 1, 8) := by kernel_rfl
def iv (D : Nat) : Value := .int .i64 (D : Int)
/-- One set of days more behind a row of the call's own. -/
theorem snoc_iv {w : World} {B n : Nat} {v : Value} {L : List Nat} (x : Nat) (hrow : w.ownsRow B 3 1 v n (L.map iv)) (hn : n ≤ 100000) (hB : B ≤ w.heap.size) :
    ∃ v' w', Sem.run Tryd.prog (appN #[31, 31] 31 #[v, .slice (some ⟨w.heap.size, 0, none⟩) 1 1]) (w.alloc (.cells #[.int .i64 (x : Int)] 3)) = .ok v' w' ∧
      w'.ownsRow B 3 1 v' (n + 1) ((L ++ [x]).map iv) ∧ (w.alloc (.cells #[.int .i64 (x : Int)] 3)).grownBy w' v.ownBlock := by
  obtain ⟨i0, hi0, hz0, hz1, hz2⟩ := info_parts infoInt
  have hnews : ∀ j u, ([iv x])[j]? = some u → (w.alloc (.cells #[.int .i64 (x : Int)] 3)).cell? (Addr.add ⟨w.heap.size, 0, none⟩ j) = some u := fun j u hj => by
    have hc := (Row.new w 3 #[.int .i64 (x : Int)]).cell j
    have ha : Addr.add ⟨w.heap.size, 0, none⟩ j = ⟨w.heap.size, j, none⟩ := by rw [Addr.add_lit, Nat.zero_add]
    rw [ha, hc]; simpa [iv] using hj
  obtain ⟨v', w', hrun, hown, hgr, _⟩ := run_append_own (P := Tryd.prog) (w.alloc (.cells #[.int .i64 (x : Int)] 3)) B 31 31 3 i0 (.int .i64 0) 1 8 Tryd.underlying31 hi0 hz0 hz1 hz2 rfl (by decide)
    v n _ (hrow.alloc _) ⟨w.heap.size, 0, none⟩ 1 1 [iv x] rfl hnews (by simp [iv, Value.oneCell']) (by unfold maxLen; omega) (by omega) (by simp; omega)
  exact ⟨v', w', hrun, by rw [List.map_append]; exact hown, hgr⟩
/-- What the loop knows of its world. -/
structure GIn (w : World) (l : List Int) (k : Nat) (v : Value) (wr : World) : Prop where
  own : wr.ownsRow (w.heap.size + 1) 3 1 v (grpsN l k).length ((grpsN l k).map iv)
  rw : Row wr w.heap.size 23 (ints l)
  b : Below w.heap.size w wr
  s : w.heap.size + 1 ≤ wr.heap.size
theorem GIn.drew {w : World} {l : List Int} {k : Nat} {v : Value} {wr : World} (h : GIn w l k v wr) : GIn w l k v wr.drew := ⟨h.own.drew, h.rw, h.b.drew, h.s⟩
theorem GIn.old {w : World} {l : List Int} {k : Nat} {v : Value} {wr : World} (h : GIn w l k v wr) (hn : ¬ (hrs l k ≠ 0 ∧ anyB l k k = false)) : GIn w l (k + 1) v wr := by
  have e : grpsN l (k + 1) = grpsN l k := by rw [grpsN, if_neg hn]
  exact ⟨by rw [e]; exact h.own, h.rw, h.b, h.s⟩
theorem GIn.push {w : World} {l : List Int} {k : Nat} {v v' : Value} {wr w' : World} (h : GIn w l k v wr) (hn : hrs l k ≠ 0 ∧ anyB l k k = false)
    (ho : w'.ownsRow (w.heap.size + 1) 3 1 v' ((grpsN l k).length + 1) ((grpsN l k ++ [daysOf l (hrs l k) 7]).map iv)) {x : Int} (hg : (wr.alloc (.cells #[.int .i64 x] 3)).grownBy w' v.ownBlock) : GIn w l (k + 1) v' w' := by
  have e : grpsN l (k + 1) = grpsN l k ++ [daysOf l (hrs l k) 7] := by rw [grpsN, if_pos hn]
  have hlow : ∀ r, v.ownBlock = some r → w.heap.size + 1 ≤ r := fun r e => own_ge h.own r e
  have hs := hg.size
  simp only [World.size_alloc] at hs
  refine ⟨by rw [e, List.length_append]; exact ho, ?_, ?_, by have := h.s; omega⟩
  · exact (h.rw.alloc _).grown hg (fun r e => by have := hlow r e; omega)
  · exact (h.b.alloc h.b.size _).grown hg (by have := h.b.size; simp; omega) (fun r e => by have := hlow r e; omega)
/-- One day more in the set of a group. -/
theorem days_more {l : List Int} {h b : Nat} (hb : b < 7) (h0 : h ≠ 0) (he : hrs l b = h) : ((daysOf l h b : Nat) : Int) + ((2 ^ b : Nat) : Int) = ((daysOf l h (b + 1) : Nat) : Int) := by
  have h1 := daysOf_lt l h b
  have h2 : (2 : Nat) ^ b ≤ 2 ^ 6 := Nat.pow_le_pow_right (by decide) (by omega)
  have h3 : daysOf l h (b + 1) = daysOf l h b ||| 2 ^ b := by rw [daysOf, if_pos ⟨h0, he⟩]
  have h4 := add_or_nat (a := daysOf l h b) (b := 2 ^ b) (by omega) (by omega) (fun i hi => by
    rw [days_bit] at hi
    have := (of_decide_eq_true hi).1
    exact Nat.testBit_two_pow_of_ne (by omega))
  rw [h3, ← h4]; omega
theorem days_same {l : List Int} {h b : Nat} (he : hrs l b ≠ h) : daysOf l h (b + 1) = daysOf l h b := by rw [daysOf, if_neg (fun c => he c.2)]
theorem used_more {l : List Int} {k : Nat} (hn : hrs l k ≠ 0 ∧ anyB l k k = false) : ((usedN l k : Nat) : Int) + ((daysOf l (hrs l k) 7 : Nat) : Int) = ((usedN l (k + 1) : Nat) : Int) := by
  have hF := first_of.1 hn
  have h1 := daysOf_lt l (hrs l k) 7
  have h3 : usedN l (k + 1) = usedN l k ||| daysOf l (hrs l k) 7 := by rw [usedN, if_pos hn]
  have h4 := add_or_nat (a := usedN l k) (b := daysOf l (hrs l k) 7) (usedN_le l k) (by omega) (fun i hi => by
    rw [usedN_bit] at hi
    obtain ⟨-, -, e, he, hh⟩ := of_decide_eq_true hi
    rw [days_bit]
    refine decide_eq_false ?_
    rintro ⟨-, -, h⟩
    exact hF.2 e he (hh.trans h))
  rw [h3, ← h4]; omega
set_option maxRecDepth 100000 in
set_option maxHeartbeats 8000000 in
theorem rgroups_any {l : List Int} {n0 n1 n2 n3 n4 n5 n6 : Int} (K : Wk l n0 n1 n2 n3 n4 n5 n6) (w : World) : Calls Tryd.prog 43 #[.agg #[.int .i64 n0, .int .i64 n1, .int .i64 n2, .int .i64 n3, .int .i64 n4, .int .i64 n5, .int .i64 n6]] w fun r w' =>
    ∃ v, r = .returned v ∧ w'.ownsRow w.heap.size 3 1 v (grpsN l 7).length ((grpsN l 7).map iv) ∧ Below w.heap.size w w' := by
  have HAT := Lib.hid (fun k (hk : k < 7) => hrs_at K.v (show k < l.length by rw [K.len]; exact hk))
  have HLN := Lib.hid (fun k => grps_len l k)
  have HUL := Lib.hid (fun k => usedN_le l k)
  have HUD := Lib.hid (fun k hk => used_day l k hk)
  have HBT := Lib.hid (fun s k => has_bit2 s k)
  have HG0 : Hid (GIn w l 0 (.slice none 0 0) (w.alloc (.cells #[.int .i64 n0, .int .i64 n1, .int .i64 n2, .int .i64 n3, .int .i64 n4, .int .i64 n5, .int .i64 n6] 23))) := Lib.hid
    ⟨World.ownsRow_nil _ _ _ _, (by rw [show ints l = #[.int .i64 n0, .int .i64 n1, .int .i64 n2, .int .i64 n3, .int .i64 n4, .int .i64 n5, .int .i64 n6] from K.ints]; exact Row.new w _ _), (Below.refl _ w).alloc (Nat.le_refl _) _, by simp⟩
  clear K
  go_enter Tryd.func43, Tryd.ntmps43
  go_wp2
  go_loopw [3, 4, 5] (fun o us i wr => ∃ k : Nat, k ≤ 7 ∧ i = .int .i64 (k : Int) ∧ us = .int .i64 ((usedN l k : Nat) : Int) ∧ Hid (GIn w l k o wr)) (fun _ _ i _ => 7 - (intOf i).toNat)
  case atStart => exact ⟨0, by omega, rfl, rfl, HG0⟩
  case round =>
    clear HG0
    obtain ⟨k, hk, rfl, rfl, HG⟩ := hrel
    have k0 : (0 : Int) ≤ (k : Int) := by omega
    by_cases hlt : k < 7
    · have k1 : (k : Int) < 7 := by omega
      have hat := HAT.out k hlt
      have ca : wr.cell? ⟨w.heap.size, k, none⟩ = some (.int .i64 ((hrs l k : Nat) : Int)) := (HG.out.rw.cell k).trans ((ints_get l k).trans (by rw [hat.1]; first | done | rfl))
      have lW := HG.out.rw.lt
      have hul := HUL.out k
      have hbt := HBT.out (usedN l k) k
      by_cases hn : hrs l k ≠ 0 ∧ anyB l k k = false
      · have HN := Lib.hid hn
        have HUM := Lib.hid (used_more hn)
        have HZ := Lib.hid (days_from l (hrs l k) k (first_of.1 hn).2)
        have hb := ((HUD.out k hlt).2 hn).2
        have h0 := hn.1
        have HDM := Lib.hid (fun b (hb : b < 7) (he : hrs l b = hrs l k) => days_more hb hn.1 he)
        have HDS := Lib.hid (fun b (he : hrs l b ≠ hrs l k) => days_same he)
        have HDL := Lib.hid (fun b => daysOf_lt l (hrs l k) b)
        have HRW := Lib.hid (fun v' w' x ho hg => HG.out.push (v' := v') (w' := w') (x := x) hn ho hg)
        rw [hb] at hbt
        obtain ⟨p, hp⟩ : ∃ p, hrs l k = p := ⟨_, rfl⟩
        obtain ⟨q, hq⟩ : ∃ q, usedN l k = q := ⟨_, rfl⟩
        obtain ⟨q2, hq2⟩ : ∃ q2, usedN l (k + 1) = q2 := ⟨_, rfl⟩
        have hul2 := HUL.out (k + 1)
        have HP := Lib.hid hp
        have HAT2 := Lib.hid (show l[k]? = some (p : Int) by rw [hat.1, hp])
        rw [hq2] at hul2
        rw [hp] at ca h0 HZ HDM HDS HDL
        rw [hp, hq, hq2] at HUM
        rw [hq] at hbt hul ⊢
        have HQ2 := Lib.hid hq2
        have HUU := Lib.hid (And.intro hul hul2)
        have HGL := Lib.hid (show (grpsN l k).length ≤ 100000 by have := HLN.out k; omega)
        have t1 : ((p : Int) == 0) = false := by simp; omega
        clear hn hat hp hq hb hq2 hul hul2 h0 HUD HRW
        go_wp2
        go_loopw [6, 7] (fun s j wr2 => ∃ b : Nat, k ≤ b ∧ b ≤ 7 ∧ j = .int .i64 (b : Int) ∧ s = .int .i64 ((daysOf l p b : Nat) : Int) ∧ Hid (GIn w l k u3 wr2)) (fun _ j _ => 7 - (intOf j).toNat)
        case atStart => exact ⟨k, Nat.le_refl _, by omega, by first | rfl | go_num, by rw [HZ.out]; rfl, HG⟩
        case round =>
          clear HG ca lW hbt t1
          obtain ⟨b, hkb, hb7, rfl, rfl, HG⟩ := hrel
          have b0 : (0 : Int) ≤ (b : Int) := by omega
          have ca : wr.cell? ⟨w.heap.size, k, none⟩ = some (.int .i64 (p : Int)) := (HG.out.rw.cell k).trans ((ints_get l k).trans (by rw [HAT2.out]; first | done | rfl))
          have lW := HG.out.rw.lt
          by_cases hbl : b < 7
          · have b1 : (b : Int) < 7 := by omega
            have cb : wr.cell? ⟨w.heap.size, b, none⟩ = some (.int .i64 ((hrs l b : Nat) : Int)) := (HG.out.rw.cell b).trans ((ints_get l b).trans (by rw [(HAT.out b hbl).1]; first | done | rfl))
            have HGD := Lib.hid HG.out.drew
            have hdl := HDL.out b
            have h2b : (2 : Nat) ^ b ≤ 2 ^ 6 := Nat.pow_le_pow_right (by decide) (by omega)
            by_cases he : hrs l b = p
            · have HM := Lib.hid (HDM.out b hbl he)
              have hdl2 := HDL.out (b + 1)
              rw [he] at cb
              have h2c : (2 : Nat) ^ (b + 1) ≤ 2 ^ 7 := Nat.pow_le_pow_right (by decide) (by omega)
              obtain ⟨D, hD⟩ : ∃ D, daysOf l p b = D := ⟨_, rfl⟩
              obtain ⟨D2, hD2⟩ : ∃ D, daysOf l p (b + 1) = D := ⟨_, rfl⟩
              rw [hD] at HM hdl ⊢
              rw [hD2] at HM hdl2
              have HD2 := Lib.hid hD2
              have hm := HM.out
              have sm : wrap64 ((D : Int) + wrap64 ((2 : Int) ^ b)) = (D2 : Int) := by rw [show ((2 : Int) ^ b) = ((2 ^ b : Nat) : Int) by simp, wrap64_nat _ (Nat.lt_of_le_of_lt h2b (by decide)), hm]; exact wrap64_nat _ (Nat.lt_of_lt_of_le hdl2 (Nat.le_trans h2c (by decide)))
              clear he hdl hdl2 h2b h2c hD hD2 hm
              go_wp2
              go_region
              go_wp2
              go_roundw
              case rel => exact ⟨b + 1, by omega, by omega, by go_num, by rw [HD2.out, sm], HGD⟩
              case measure => simp [intOf]; omega
            · have HM := Lib.hid (HDS.out b he)
              obtain ⟨q, hq⟩ : ∃ q, hrs l b = q := ⟨_, rfl⟩
              rw [hq] at cb he
              have t2 : ((q : Int) == (p : Int)) = false := by rw [beq_eq_false_iff_ne]; omega
              clear hq he hdl h2b
              go_wp2
              go_region
              go_wp2
              go_roundw
              case rel => exact ⟨b + 1, by omega, by omega, by go_num, by rw [HM.out], HGD⟩
              case measure => simp [intOf]; omega
          · have hb : b = 7 := by omega
            subst hb
            have hum := HUM.out
            have hdl := HDL.out 7
            have hu := HUU.out
            have HNP := Lib.hid (show (daysOf l (hrs l k) 7 : Nat) = daysOf l p 7 by rw [HP.out])
            obtain ⟨D, hD⟩ : ∃ D, daysOf l p 7 = D := ⟨_, rfl⟩
            rw [hD] at hum hdl HNP ⊢
            have sm : wrap64 ((q : Int) + (D : Int)) = (q2 : Int) := by rw [hum]; exact wrap64_nat _ (Nat.lt_of_le_of_lt hu.2 (by decide))
            obtain ⟨v2, w2, hrun, hown2, hgr⟩ := snoc_iv D HG.out.own HGL.out HG.out.s
            have HG2 := Lib.hid (HG.out.push HN.out (x := (D : Int)) (by rw [HNP.out]; exact hown2) hgr)
            clear hum hdl hu hD hown2 hgr ca
            go_wp2
            go_roundw
            case rel => exact ⟨k + 1, by omega, by go_num, by rw [HQ2.out, sm], HG2⟩
            case measure => simp [intOf]; omega
      · have HO := Lib.hid (HG.out.old hn)
        have hue : usedN l (k + 1) = usedN l k := by rw [usedN, if_neg hn]
        have HUE := Lib.hid hue
        have hcs : hrs l k = 0 ∨ hrs l k ≠ 0 ∧ (usedN l k).testBit k = true := by
          by_cases h0 : hrs l k = 0
          · exact .inl h0
          · refine .inr ⟨h0, ?_⟩
            cases hb : (usedN l k).testBit k with
            | true => rfl
            | false => exact absurd ((HUD.out k hlt).1 ⟨h0, hb⟩) hn
        rcases hcs with h0 | ⟨h0, hb⟩
        · rw [h0] at ca
          clear hn hue hbt hat
          go_wp2
          go_roundw
          case rel => exact ⟨k + 1, by omega, by go_num, by rw [HUE.out], HO⟩
          case measure => simp [intOf]; omega
        · rw [hb] at hbt
          obtain ⟨p, hp⟩ : ∃ p, hrs l k = p := ⟨_, rfl⟩
          obtain ⟨q, hq⟩ : ∃ q, usedN l k = q := ⟨_, rfl⟩
          rw [hp] at ca h0
          rw [hq] at hbt hul HUE ⊢
          have t1 : ((p : Int) == 0) = false := by simp; omega
          clear hn hue hat hp hq hb
          go_wp2
          go_roundw
          case rel => exact ⟨k + 1, by omega, by go_num, by rw [HUE.out], HO⟩
          case measure => simp [intOf]; omega
    · have hk7 : k = 7 := by omega
      subst hk7
      go_wp2
      go_ret
      exact ⟨_, rfl, own_base HG.out.own (by omega), HG.out.b⟩
end Go.Proofs.YtmfpaankkoaoaaaDoor

/- The reference's Print. -/
namespace Go.Proofs.YtmfpaankkoaoaaaDoor
open Go.RowKit Go.Shelf

def prG (l : List Int) (D : Nat) : Nat × Nat := (D, hrs l (Lib.ctz 64 D))
/-- The text of the first i groups. -/
def tx (l : List Int) (i : Nat) : ByteArray := outT [59, 32] grpT (((grpsN l 7).take i).map (prG l))
theorem tx_zero (l : List Int) : tx l 0 = ⟨#[]⟩ := rfl
theorem tx_snoc {l : List Int} {i D : Nat} (hD : (grpsN l 7)[i]? = some D) (h0 : i ≠ 0) : tx l (i + 1) = tx l i ++ ⟨#[59, 32]⟩ ++ grpT D (hrs l (Lib.ctz 64 D)) := by
  obtain ⟨hi, he⟩ := List.getElem?_eq_some_iff.1 hD
  unfold tx
  rw [List.take_succ_eq_append_getElem hi, List.map_append, List.map_singleton, he]
  refine outT_snoc _ _ _ _ (fun h => ?_)
  rcases List.take_eq_nil_iff.1 (List.map_eq_nil_iff.1 h) with h2 | h2
  · exact h0 h2
  · rw [h2] at hi; simp at hi
theorem tx_first {l : List Int} {D : Nat} (hD : (grpsN l 7)[0]? = some D) : tx l 1 = grpT D (hrs l (Lib.ctz 64 D)) := by
  obtain ⟨hi, he⟩ := List.getElem?_eq_some_iff.1 hD
  unfold tx
  rw [List.take_succ_eq_append_getElem hi, List.map_append, List.map_singleton, he]
  exact outT_one _ _ _
theorem tx_step0 {l : List Int} {D : Nat} (hD : (grpsN l 7)[0]? = some D) : tx l 0 ++ wrRuns [44] wrD D ++ ⟨#[32]⟩ ++ wrRuns [32] wrH (hrs l (Lib.ctz 64 D)) = tx l 1 := by
  rw [tx_first hD, tx_zero]
  apply ba_ext
  simp [grpT]
theorem tx_step {l : List Int} {i D : Nat} (hD : (grpsN l 7)[i]? = some D) (h0 : i ≠ 0) : tx l i ++ ⟨#[59, 32]⟩ ++ wrRuns [44] wrD D ++ ⟨#[32]⟩ ++ wrRuns [32] wrH (hrs l (Lib.ctz 64 D)) = tx l (i + 1) := by
  rw [tx_snoc hD h0]
  apply ba_ext
  simp [grpT]
theorem tx_size {l : List Int} (hv : validW l = true) : ∀ i, i ≤ (grpsN l 7).length → (tx l i).size ≤ 5600 * i
  | 0, _ => Nat.le_refl _
  | i + 1, hi => by
    have ih := tx_size hv i (by omega)
    have hD := List.getElem?_eq_getElem (l := grpsN l 7) (i := i) (by omega)
    have hs := grpT_size ((grpsN l 7)[i]'(by omega)) (hrs l (Lib.ctz 64 ((grpsN l 7)[i]'(by omega)))) (hrs_le hv _)
    by_cases h0 : i = 0
    · subst h0; rw [tx_first hD]; omega
    · rw [tx_snoc hD h0]
      simp only [ByteArray.size_append]
      have : (⟨#[59, 32]⟩ : ByteArray).size = 2 := rfl
      omega
theorem grps_zero {l : List Int} (h : ∀ d, d < 7 → hrs l d = 0) : grpsN l 7 = [] := by
  have := grps_texts l 7 (by omega)
  rw [prL_none h 7 (by omega)] at this
  exact List.map_eq_nil_iff.1 this.symm
theorem grps_some {l : List Int} (h : ¬ ∀ d, d < 7 → hrs l d = 0) : grpsN l 7 ≠ [] := fun e => h fun d hd => by
  by_cases h0 : hrs l d = 0
  · exact h0
  · have h1 := prL_ne h0 7 hd
    rw [grps_texts l 7 (by omega), e] at h1
    exact absurd rfl h1
theorem tx_all (l : List Int) : tx l (grpsN l 7).length = ⟨(Lib.join ((prL l 7).map (·.data.toList)) semi.data.toList).toArray⟩ := by
  unfold tx outT
  have e : ((grpsN l 7).map (prG l)).map (fun r => grpT r.1 r.2) = prL l 7 := by rw [grps_texts l 7 (by omega), List.map_map]; rfl
  rw [List.take_length, e]
  rfl
theorem print_groups {l : List Int} (hv : validW l = true) (h : grpsN l 7 ≠ []) : (printV l).1 = tx l (grpsN l 7).length ∧ (printV l).2 = 0 := by
  rw [print_some hv (fun h0 => h (grps_zero h0)), tx_all]; exact ⟨rfl, rfl⟩
theorem print_empty {l : List Int} (hv : validW l = true) (h : grpsN l 7 = []) : printV l = (never, 0) := by
  refine print_never hv ?_
  by_cases h0 : ∀ d, d < 7 → hrs l d = 0
  · exact h0
  · exact absurd h (grps_some h0)
/-- A set out of the row of groups. -/
theorem own_int {w : World} {base n : Nat} {v : Value} {L : List Nat} (h : w.ownsRow base 3 1 v n (L.map iv)) (hn : L.length = n) {i D : Nat} (hD : L[i]? = some D) :
    ∃ g c, v = .slice (some ⟨g, 0, none⟩) n c ∧ g < w.heap.size ∧ w.cell? ⟨g, i, none⟩ = some (.int .i64 (D : Int)) := by
  have hi := (List.getElem?_eq_some_iff.1 hD).1
  rcases h.2 with ⟨rfl, h0⟩ | ⟨g, cap, cur, rfl, hb, hg, h1, h2, h3, h4⟩
  · omega
  · refine ⟨g, cap, rfl, (Array.getElem?_eq_some_iff.1 hg).1, ?_⟩
    have := h.cellAt i (by simp; omega)
    rw [this, List.getElem?_map, hD]; rfl
/-- What the loop knows of its world. -/
structure PIn (w : World) (l : List Int) (B m g c : Nat) (wr : World) : Prop where
  own : wr.ownsRow B 3 1 (.slice (some ⟨g, 0, none⟩) m c) m ((grpsN l 7).map iv)
  rw : Row wr w.heap.size 23 (ints l)
  b : Below w.heap.size w wr
theorem PIn.below {w : World} {l : List Int} {B m g c : Nat} {wr u : World} (h : PIn w l B m g c wr) (hb : Below wr.heap.size wr u) : PIn w l B m g c u :=
  ⟨own_below h.own hb, h.rw.below hb h.rw.lt, below_to h.b hb⟩
theorem PIn.cell {w : World} {l : List Int} {B m g c : Nat} {wr : World} (h : PIn w l B m g c wr) (hm : (grpsN l 7).length = m) {k D : Nat} (hD : (grpsN l 7)[k]? = some D) : g < wr.heap.size ∧ wr.cell? ⟨g, k, none⟩ = some (.int .i64 (D : Int)) := by
  obtain ⟨g2, c2, he, h1, h2⟩ := own_int h.own hm hD
  cases he
  exact ⟨h1, h2⟩
theorem PIn.held {w : World} {l : List Int} {B m g c : Nat} {wr : World} (h : PIn w l B m g c wr) (hm : (grpsN l 7).length = m) {k D f H : Nat} (hD : (grpsN l 7)[k]? = some D) (hf : l[f]? = some (H : Int)) (u : World) (hb : Below wr.heap.size wr u) :
    Below wr.heap.size wr u ∧ g < u.heap.size ∧ u.cell? ⟨g, k, none⟩ = some (.int .i64 (D : Int)) ∧ w.heap.size < u.heap.size ∧ u.cell? ⟨w.heap.size, f, none⟩ = some (.int .i64 (H : Int)) := by
  have h2 := h.below hb
  obtain ⟨c1, c2⟩ := h2.cell hm hD
  exact ⟨hb, c1, c2, h2.rw.lt, (h2.rw.cell f).trans ((ints_get l f).trans (by rw [hf]; rfl))⟩
attribute [local irreducible] printV tx
set_option maxRecDepth 100000 in
set_option maxHeartbeats 8000000 in
theorem rprint_any {l : List Int} {n0 n1 n2 n3 n4 n5 n6 : Int} (K : Wk l n0 n1 n2 n3 n4 n5 n6) (w : World) : Calls Tryd.prog 26 #[.agg #[.int .i64 n0, .int .i64 n1, .int .i64 n2, .int .i64 n3, .int .i64 n4, .int .i64 n5, .int .i64 n6]] w fun r w' =>
    r = .returned (.tuple #[.string (printV l).1, .int .i64 (printV l).2]) ∧ Below w.heap.size w w' := by
  have VA := Lib.hid (fun u => rvalid_any l K.len u)
  have HGR := Lib.hid (fun u => rgroups_any K u)
  have HDY := Lib.hid (fun s hs u => rdays_any s hs u)
  have HFI := Lib.hid (fun s hs h0 u => rfirst_any s hs h0 u)
  have HHO := Lib.hid (fun s hs u => rhours_any s hs u)
  have HAT := Lib.hid (fun k (hk : k < 7) => hrs_at K.v (show k < l.length by rw [K.len]; exact hk))
  have HIN := Lib.hid K.ints
  have HPE := Lib.hid (fun h => print_empty K.v h)
  have HPG := Lib.hid (fun h => print_groups K.v h)
  have HTZ := Lib.hid (fun i hi => tx_size K.v i hi)
  have HLN := Lib.hid (grps_len l 7)
  rw [K.v, K.wv] at VA
  clear K
  go_enter Tryd.func26, Tryd.ntmps26
  go_upto_region 4 with (first | (go_at_call 7; ((with_reducible refine Calls.mono (VA.out _) ?_)); rintro e' w1 ⟨rfl, hb1⟩; obtain ⟨hk1, hs1, hr1⟩ := kept_row hb1; have HB1 := Lib.hid hk1; have HW1 := Lib.hid hr1; obtain ⟨y0, y1, y2, y3, y4, y5, y6, -⟩ := seven_cells (show Row w1 w.heap.size 23 (ints [n0, n1, n2, n3, n4, n5, n6]) from hr1); clear hb1 hk1 hr1) | (go_at_call 43; ((with_reducible refine Calls.mono (HGR.out _) ?_)); rintro e' w2 ⟨v, rfl, ho2, hb2⟩; have HB2 := Lib.hid (below_to HB1.out hb2); have HW2 := Lib.hid (HW1.out.below hb2 HW1.out.lt); have HO2 := Lib.hid ho2; clear hb2 ho2))
  by_cases hn : grpsN l 7 = []
  · have HE := Lib.hid (HPE.out hn)
    obtain ⟨A, c, rfl, -⟩ := own_slice HO2.out
    rw [hn]
    clear hn
    go_wp2
    refine bodyPost_ret (results_tmp2 rfl _ _ _) rfl ⟨by rw [HE.out]; rfl, HB2.out⟩
  · have HE := Lib.hid (HPG.out hn)
    obtain ⟨m, hm⟩ : ∃ m, (grpsN l 7).length = m := ⟨_, rfl⟩
    have HM := Lib.hid hm
    have hm0 : m ≠ 0 := fun h => hn (List.eq_nil_of_length_eq_zero (hm.trans h))
    have hm7 : m ≤ 7 := by have := HLN.out; omega
    rw [hm] at HO2 HE
    obtain ⟨D0, hD0⟩ : ∃ D0, (grpsN l 7)[0]? = some D0 := ⟨_, List.getElem?_eq_getElem (l := grpsN l 7) (i := 0) (by omega)⟩
    obtain ⟨g, c, rfl, -, -⟩ := own_int HO2.out hm hD0
    have HP := Lib.hid (show PIn w l w1.heap.size m g c w2 from ⟨HO2.out, by rw [HIN.out]; exact HW2.out, HB2.out⟩)
    have t0 : ((m : Int) == 0) = false := by simp; omega
    clear hn hm hD0 HPE HPG HIN HB1 HW1 HB2 HW2 HO2 y0 y1 y2 y3 y4 y5 y6 hs1
    go_wp2
    go_loopw [5, 6] (fun t i wr => ∃ k : Nat, k ≤ m ∧ i = .int .i64 (k : Int) ∧ t = .string (tx l k) ∧ Hid (PIn w l w1.heap.size m g c wr)) (fun _ i _ => m - (intOf i).toNat)
    case atStart => exact ⟨0, by omega, rfl, by rw [tx_zero], HP⟩
    case round =>
      clear HP
      obtain ⟨k, hk, rfl, rfl, HP⟩ := hrel
      have k0 : (0 : Int) ≤ (k : Int) := by omega
      by_cases hlt : k < m
      · have k1 : (k : Int) < (m : Int) := by omega
        obtain ⟨D, hD⟩ : ∃ D, (grpsN l 7)[k]? = some D := ⟨_, List.getElem?_eq_getElem (l := grpsN l 7) (i := k) (by rw [HM.out]; exact hlt)⟩
        have HD4 := Lib.hid (grps_mem l 7 (by omega) D (List.mem_of_getElem? hD))
        have hf7 := HD4.out.2.2.1
        have HH := Lib.hid (HAT.out (Lib.ctz 64 D) hf7)
        have hz := HTZ.out k (by rw [HM.out]; omega)
        have za := wrRuns_size [44] (by decide) wrD D (fun p _ => wrD_size _ _)
        have zb := wrRuns_size [32] (by decide) wrH (hrs l (Lib.ctz 64 D)) (fun p hp => by obtain ⟨-, a1, a2⟩ := rl_mem (hrs l (Lib.ctz 64 D)) HH.out.2 25 0 (by omega) p hp; exact wrH_size _ _ (by omega) (by omega))
        have N1 := Lib.hid (fun u => HDY.out D HD4.out.1 u)
        have N2 := Lib.hid (fun u => HFI.out D HD4.out.1 HD4.out.2.1 u)
        have N3 := Lib.hid (fun u => HHO.out (hrs l (Lib.ctz 64 D)) HH.out.2 u)
        have HS0 := Lib.hid (fun h : k = 0 => by subst h; exact tx_step0 hD)
        have HS1 := Lib.hid (fun h : k ≠ 0 => tx_step hD h)
        have mk := Lib.hid (HP.out.held HM.out hD HH.out.1)
        obtain ⟨f, hf⟩ : ∃ f, Lib.ctz 64 D = f := ⟨_, rfl⟩
        obtain ⟨H, hH⟩ : ∃ H, hrs l f = H := ⟨_, rfl⟩
        obtain ⟨A, hA⟩ : ∃ A, wrRuns [44] wrD D = A := ⟨_, rfl⟩
        obtain ⟨B, hB⟩ : ∃ B, wrRuns [32] wrH H = B := ⟨_, rfl⟩
        obtain ⟨T, hT⟩ : ∃ T, tx l k = T := ⟨_, rfl⟩
        rw [hf] at N2 hf7
        simp only [hf, hH, hA, hB] at N1 N3 HS0 HS1 mk za zb
        rw [hT] at hz HS1 ⊢
        have HS0' := Lib.hid (fun h : k = 0 => (by have := HS0.out h; rw [show tx l 0 = T by rw [← hT, h]] at this; rw [show k + 1 = 1 by omega]; exact this : T ++ A ++ ⟨#[32]⟩ ++ B = tx l (k + 1)))
        have mkC : Hid (∀ u v, (Below wr.heap.size wr u ∧ g < u.heap.size ∧ u.cell? ⟨g, k, none⟩ = some (.int .i64 (D : Int)) ∧ w.heap.size < u.heap.size ∧ u.cell? ⟨w.heap.size, f, none⟩ = some (.int .i64 (H : Int))) → Below u.heap.size u v → Below wr.heap.size wr v ∧ g < v.heap.size ∧ v.cell? ⟨g, k, none⟩ = some (.int .i64 (D : Int)) ∧ w.heap.size < v.heap.size ∧ v.cell? ⟨w.heap.size, f, none⟩ = some (.int .i64 (H : Int))) := Lib.hid (fun u v h hb => mk.out v (below_to h.1 hb))
        have f0 : (0 : Int) ≤ (f : Int) := by omega
        have f7 : (f : Int) < 7 := by omega
        have hz2 : T.size ≤ 39200 := by omega
        clear hD hf hH hA hB hT HS0 hf7 hz HD4 HH
        by_cases hk0 : k = 0
        · have SS := Lib.hid (HS0'.out hk0)
          have kn : ¬ (0 : Int) < (k : Int) := by omega
          have y1 : ¬ 9223372036854775807 < T.size + A.size := by omega
          have y2 : ¬ 9223372036854775807 < T.size + A.size + 1 := by omega
          have y3 : ¬ 9223372036854775807 < T.size + A.size + 1 + B.size := by omega
          clear hk0 hz2 za zb
          go_wp2
          all_goals go_region_held3 (fun u => Below wr.heap.size wr u ∧ g < u.heap.size ∧ u.cell? ⟨g, k, none⟩ = some (.int .i64 (D : Int)) ∧ w.heap.size < u.heap.size ∧ u.cell? ⟨w.heap.size, f, none⟩ = some (.int .i64 (H : Int))) (first | assumption | (exact mk.out _ (Below.refl _ _).drew) | (exact mkC.out _ _ (by assumption) b5) | (exact mkC.out _ _ (mk.out _ (Below.refl _ _).drew) b5)) (first | (go_at_call 44; ((with_reducible refine Calls.mono (N1.out _) ?_)); rintro e v1 ⟨rfl, rfl⟩) | (go_at_call 46; ((with_reducible refine Calls.mono (N2.out _) ?_)); rintro e v1 ⟨rfl, rfl⟩) | (go_at_call 45; ((with_reducible refine Calls.mono (N3.out _) ?_)); rintro e v1 ⟨rfl, b5⟩))
          all_goals
            have HX := Lib.hid (HP.out.below (‹Below wr.heap.size wr _ ∧ _ ∧ _ ∧ _›).1)
            go_wp2_with fail
          all_goals go_roundw
          all_goals first | (case rel => exact ⟨k + 1, by omega, by go_num, by rw [SS.out], HX⟩) | skip
          all_goals first | (case measure => simp [intOf]; omega) | skip
        · have SS := Lib.hid (HS1.out hk0)
          have kp : (0 : Int) < (k : Int) := by omega
          have y0 : ¬ 9223372036854775807 < T.size + 2 := by omega
          have y1 : ¬ 9223372036854775807 < T.size + 2 + A.size := by omega
          have y2 : ¬ 9223372036854775807 < T.size + 2 + A.size + 1 := by omega
          have y3 : ¬ 9223372036854775807 < T.size + 2 + A.size + 1 + B.size := by omega
          clear hk0 hz2 za zb
          go_wp2
          all_goals go_region_held3 (fun u => Below wr.heap.size wr u ∧ g < u.heap.size ∧ u.cell? ⟨g, k, none⟩ = some (.int .i64 (D : Int)) ∧ w.heap.size < u.heap.size ∧ u.cell? ⟨w.heap.size, f, none⟩ = some (.int .i64 (H : Int))) (first | assumption | (exact mk.out _ (Below.refl _ _).drew) | (exact mkC.out _ _ (by assumption) b5) | (exact mkC.out _ _ (mk.out _ (Below.refl _ _).drew) b5)) (first | (go_at_call 44; ((with_reducible refine Calls.mono (N1.out _) ?_)); rintro e v1 ⟨rfl, rfl⟩) | (go_at_call 46; ((with_reducible refine Calls.mono (N2.out _) ?_)); rintro e v1 ⟨rfl, rfl⟩) | (go_at_call 45; ((with_reducible refine Calls.mono (N3.out _) ?_)); rintro e v1 ⟨rfl, b5⟩))
          all_goals
            have HX := Lib.hid (HP.out.below (‹Below wr.heap.size wr _ ∧ _ ∧ _ ∧ _›).1)
            go_wp2_with fail
          all_goals go_roundw
          all_goals first | (case rel => exact ⟨k + 1, by omega, by go_num, by rw [SS.out], HX⟩) | skip
          all_goals first | (case measure => simp [intOf]; omega) | skip
      · have hk7 : k = m := by omega
        have hge : ¬ (k : Int) < (m : Int) := by omega
        have HT : Hid (tx l k = (printV l).1 ∧ (printV l).2 = 0) := Lib.hid (by rw [hk7]; exact ⟨HE.out.1.symm, HE.out.2⟩)
        clear hk7 hlt
        rw [HT.out.1]
        go_wp2
        refine bodyPost_ret (results_tmp2 rfl _ _ _) rfl ⟨by rw [HT.out.2]; rfl, HP.out.b⟩
end Go.Proofs.YtmfpaankkoaoaaaDoor

/- The reference's value, day and part. -/
namespace Go.Proofs.YtmfpaankkoaoaaaDoor
open Go.RowKit Go.Shelf

def valN (s : ByteArray) : Int := if hourN s < 0 then 99 else hourN s
def dayM (s : ByteArray) : Int := if dayN s < 0 then 7 else dayN s
theorem valN_some {s : ByteArray} {k : Nat} (hk : k < 25) (h : itoaB k = s) (hb : ∀ j, j < k → itoaB j ≠ s) : valN s = (k : Int) := by
  unfold valN; rw [hourN_some hk h hb, if_neg (by omega)]
theorem valN_none {s : ByteArray} (hb : ∀ j, j < 25 → itoaB j ≠ s) : valN s = 99 := by
  unfold valN; rw [hourN_none hb, if_pos (by omega)]
theorem dayM_some {s : ByteArray} {k : Nat} (hk : k < 7) (h : dayS k = s) (hb : ∀ j, j < k → dayS j ≠ s) : dayM s = (k : Int) := by
  unfold dayM; rw [dayN_some hk h hb, if_neg (by omega)]
theorem dayM_none {s : ByteArray} (hb : ∀ j, j < 7 → dayS j ≠ s) : dayM s = 7 := by
  unfold dayM; rw [dayN_none hb, if_pos (by omega)]
set_option maxRecDepth 100000 in
set_option maxHeartbeats 4000000 in
theorem rvalue_any (s : ByteArray) (w : World) : Calls Tryd.prog 73 #[.string s] w fun e w' => e = .returned (.int .i64 (valN s)) ∧ Below w.heap.size w w' := by
  have HB := Lib.hid (Below.refl w.heap.size w)
  go_enter Tryd.func73, Tryd.ntmps73
  go_wp2
  go_loopw [3] (fun i wr => ∃ k : Nat, k ≤ 25 ∧ i = .int .i64 (k : Int) ∧ Hid (∀ j, j < k → itoaB j ≠ s) ∧ Hid (Below w.heap.size w wr)) (fun i _ => 25 - (intOf i).toNat)
  case atStart => exact ⟨0, by omega, rfl, Lib.hid (fun j hj => absurd hj (Nat.not_lt_zero _)), HB⟩
  case round =>
    obtain ⟨k, hk, rfl, HN, HBW⟩ := hrel
    have i1 : (0 : Int) ≤ (k : Int) := by omega
    by_cases hlt : k < 25
    · have i2 : (k : Int) ≤ 24 := by omega
      have T1 := Lib.hid (fun u => rnumber_any k hlt u)
      by_cases he : itoaB k = s
      · have HE := Lib.hid (valN_some hlt he HN.out)
        have t1 : ((itoaB k).toList == s.toList) = true := by rw [str_eqb]; exact decide_eq_true he
        clear he
        obtain ⟨b, hb⟩ : ∃ b, itoaB k = b := ⟨_, rfl⟩
        rw [hb] at T1 t1
        clear hb
        go_wp2_with (go_at_call 64; (with_reducible refine Calls.mono (T1.out _) ?_); rintro r u1 ⟨rfl, hb⟩; have HB2 := Lib.hid (below_to HBW.out hb); clear hb)
        go_ret
        exact ⟨by rw [HE.out]; rfl, HB2.out⟩
      · have HE := Lib.hid he
        have t1 : ((itoaB k).toList == s.toList) = false := by rw [str_eqb]; exact decide_eq_false he
        clear he
        obtain ⟨b, hb⟩ : ∃ b, itoaB k = b := ⟨_, rfl⟩
        rw [hb] at T1 t1
        clear hb
        go_wp2_with (go_at_call 64; (with_reducible refine Calls.mono (T1.out _) ?_); rintro r u1 ⟨rfl, hb⟩; have HB2 := Lib.hid (below_to HBW.out hb); clear hb)
        go_roundw
        case rel => exact ⟨k + 1, by omega, by go_num, Lib.hid (fun j hj => if h : j = k then by rw [h]; exact HE.out else HN.out j (by omega)), HB2⟩
        case measure => simp [intOf]; omega
    · have i2 : ¬ (k : Int) ≤ 24 := by omega
      have HE := Lib.hid (valN_none (fun j hj => HN.out j (by omega)))
      go_wp2
      go_ret
      exact ⟨by rw [HE.out]; rfl, HBW.out⟩
set_option maxRecDepth 100000 in
set_option maxHeartbeats 4000000 in
theorem rday_any (s : ByteArray) (w : World) : Calls Tryd.prog 72 #[.string s] w fun e w' => e = .returned (.int .i64 (dayM s)) ∧ w = w' := by
  go_enter Tryd.func72, Tryd.ntmps72
  go_wp2
  go_loop [3] (fun i => ∃ k : Nat, k ≤ 7 ∧ i = .int .i64 (k : Int) ∧ Hid (∀ j, j < k → dayS j ≠ s)) (fun i => 7 - (intOf i).toNat)
  case atStart => exact ⟨0, by omega, rfl, Lib.hid (fun j hj => absurd hj (Nat.not_lt_zero _))⟩
  case round =>
    obtain ⟨k, hk, rfl, HN⟩ := hrel
    have i1 : (0 : Int) ≤ (k : Int) := by omega
    by_cases hlt : k < 7
    · have i2 : (k : Int) < 7 := by omega
      have T1 := Lib.hid (fun u => rname_any k hlt u)
      by_cases he : dayS k = s
      · have HE := Lib.hid (dayM_some hlt he HN.out)
        have t1 : ((dayS k).toList == s.toList) = true := by rw [str_eqb]; exact decide_eq_true he
        clear he
        obtain ⟨b, hb⟩ : ∃ b, dayS k = b := ⟨_, rfl⟩
        rw [hb] at T1 t1
        clear hb
        go_wp2_with (go_at_call 63; (with_reducible refine Calls.mono (T1.out _) ?_); rintro r u1 ⟨rfl, rfl⟩)
        go_ret
        exact ⟨by rw [HE.out]; rfl, rfl⟩
      · have HE := Lib.hid he
        have t1 : ((dayS k).toList == s.toList) = false := by rw [str_eqb]; exact decide_eq_false he
        clear he
        obtain ⟨b, hb⟩ : ∃ b, dayS k = b := ⟨_, rfl⟩
        rw [hb] at T1 t1
        clear hb
        go_wp2_with (go_at_call 63; (with_reducible refine Calls.mono (T1.out _) ?_); rintro r u1 ⟨rfl, rfl⟩)
        go_round
        case rel => exact ⟨k + 1, by omega, by go_num, Lib.hid (fun j hj => if h : j = k then by rw [h]; exact HE.out else HN.out j (by omega))⟩
        case measure => simp [intOf]; omega
    · have i2 : ¬ (k : Int) < 7 := by omega
      have HE := Lib.hid (dayM_none (fun j hj => HN.out j (by omega)))
      go_wp2
      go_ret
      exact ⟨by rw [HE.out]; rfl, rfl⟩
/-- The first place from i on that holds the byte c; the size where there is none. -/
def pos (s : ByteArray) (c : UInt8) : Nat → Nat → Nat
  | 0, i => i
  | n + 1, i => if s.data[i]? = some c then i else pos s c n (i + 1)
theorem pos_le (s : ByteArray) (c : UInt8) : ∀ n i, i ≤ pos s c n i ∧ pos s c n i ≤ i + n
  | 0, i => ⟨Nat.le_refl _, Nat.le_refl _⟩
  | n + 1, i => by
    unfold pos
    have := pos_le s c n (i + 1)
    split <;> omega
/-- The piece of a text from place i on up to the byte c, and the place behind it. -/
def prt (s : ByteArray) (i : Nat) (c : UInt8) : ByteArray × Nat := (s.extract i (pos s c (s.size - i) i), pos s c (s.size - i) i + 1)
set_option maxRecDepth 100000 in
set_option maxHeartbeats 4000000 in
theorem rpart_any (s : ByteArray) (hs : s.size < 4294967281) (i : Nat) (hi : i ≤ s.size) (c : UInt8) (w : World) : Calls Tryd.prog 71 #[.string s, .int .i64 (i : Int), .int .u8 (c.toNat : Int)] w fun e w' => e = .returned (.tuple #[.string (prt s i c).1, .int .i64 ((prt s i c).2 : Int)]) ∧ w = w' := by
  unfold prt
  dsimp only
  have j0 : (0 : Int) ≤ (i : Int) := by omega
  obtain ⟨C, hC⟩ : ∃ C, (c.toNat : Int) = C := ⟨_, rfl⟩
  rw [hC]
  have HC := Lib.hid hC
  clear hC
  go_enter Tryd.func71, Tryd.ntmps71
  go_wp2
  go_loop [8] (fun j => ∃ k : Nat, i ≤ k ∧ k ≤ s.size ∧ j = .int .i64 (k : Int) ∧ Hid (pos s c (s.size - i) i = pos s c (s.size - k) k)) (fun j => s.size - (intOf j).toNat)
  case atStart => exact ⟨i, Nat.le_refl _, hi, rfl, Lib.hid rfl⟩
  case round =>
    obtain ⟨k, hik, hk, rfl, HP⟩ := hrel
    have k0 : (0 : Int) ≤ (k : Int) := by omega
    by_cases hlt : k < s.size
    · have k1 : (k : Int) < (s.size : Int) := by omega
      obtain ⟨x, hx⟩ : ∃ x, s.data[k]? = some x := ⟨s[k]'hlt, by rw [Array.getElem?_eq_getElem (show k < s.data.size from hlt)]; rfl⟩
      obtain ⟨X, hX⟩ : ∃ X, (x.toNat : Int) = X := ⟨_, rfl⟩
      have hix : ∀ w, (Instr.index 9 (.string s) (.int .i64 (k : Int))).run Tryd.prog w = .ok (.int .u8 X) w := fun w => by
        rw [run_index_string w 9 s .i64 (k : Int) Tryd.underlying9, dif_pos ⟨by omega, by omega⟩, ← hX]
        have : s.data[k]'hlt = x := by
          have h := hx
          rw [Array.getElem?_eq_getElem (show k < s.data.size from hlt)] at h
          exact Option.some.inj h
        rw [← this]; rfl
      by_cases he : x = c
      · have HE : Hid (pos s c (s.size - i) i = k) := Lib.hid (by
          rw [HP.out, show s.size - k = (s.size - k - 1) + 1 by omega, pos, if_pos (by rw [hx, he])])
        have hXC : X = C := by rw [← hX, ← HC.out, he]
        subst hXC
        clear he hx hX HP
        have hsl : ∀ w : World, (Instr.slice 9 (.string s) (some (.int .i64 (i : Int))) (some (.int .i64 (k : Int))) none).run Tryd.prog w = .ok (.string (s.extract i k)) w := fun w => by
          rw [run_slice_string w 9 s .i64 .i64 (i : Int) (k : Int) Tryd.underlying9 (by omega) (by omega) (by omega), Int.toNat_natCast, Int.toNat_natCast]
        go_wp2
        refine bodyPost_ret (results_tmp2 rfl _ _ _) rfl ⟨by rw [HE.out]; rfl, rfl⟩
      · have HE : Hid (pos s c (s.size - i) i = pos s c (s.size - (k + 1)) (k + 1)) := Lib.hid (by
          rw [HP.out, show s.size - k = (s.size - (k + 1)) + 1 by omega, pos, if_neg (by rw [hx]; intro h; exact he (Option.some.inj h))])
        have t1 : (X == C) = false := by
          rw [beq_eq_false_iff_ne]
          intro h
          exact he (UInt8.toNat_inj.1 (by have := HC.out; omega))
        clear he hx hX
        go_wp2
        go_round
        case rel => exact ⟨k + 1, by omega, by omega, by go_num, HE⟩
        case measure => simp [intOf]; omega
    · have hks : k = s.size := by omega
      have HE : Hid (pos s c (s.size - i) i = s.size) := Lib.hid (by rw [HP.out, hks, Nat.sub_self]; rfl)
      have k1 : ¬ (k : Int) < (s.size : Int) := by omega
      have hsl : ∀ w : World, (Instr.slice 9 (.string s) (some (.int .i64 (i : Int))) none none).run Tryd.prog w = .ok (.string (s.extract i s.size)) w := fun w => by
        rw [run_slice_string_l (P := Tryd.prog) w 9 s Tryd.underlying9 .i64 (i : Int) (by omega) (by omega), Int.toNat_natCast]
      clear hks HP
      go_wp2
      refine bodyPost_ret (results_tmp2 rfl _ _ _) rfl ⟨by rw [HE.out]; rfl, rfl⟩
end Go.Proofs.YtmfpaankkoaoaaaDoor

/- The reference's Cut. -/
namespace Go.Proofs.YtmfpaankkoaoaaaDoor
open Go.RowKit Go.Shelf
attribute [local go_sem ↓] append_appN

/-- Does "; " stand at place k? -/
def Sep (s : ByteArray) (k : Nat) : Prop := s.data[k]? = some 59 ∧ s.data[k + 1]? = some 32
theorem tail_list (s : ByteArray) (a : Nat) : (s.extract a s.size).data.toList = s.data.toList.drop a := by
  simp [ByteArray.data_extract, List.take_of_length_le]
theorem occ_sep (s : ByteArray) (a j : Nat) : Lib.occAt (s.extract a s.size).data.toList [59, 32] j = true ↔ Sep s (a + j) := by
  unfold Lib.occAt Sep
  rw [tail_list, List.drop_drop, ← Array.getElem?_toList, ← Array.getElem?_toList]
  generalize s.data.toList = L
  rw [show L[a + j]? = (L.drop (a + j))[0]? by rw [List.getElem?_drop]; rfl, show L[a + j + 1]? = (L.drop (a + j))[1]? by rw [List.getElem?_drop]]
  generalize L.drop (a + j) = M
  match M with
  | [] => simp
  | [x] => simp [List.isPrefixOf]
  | x :: y :: M => constructor <;> (intro h; simp [List.isPrefixOf] at h ⊢; exact ⟨h.1.symm, h.2.symm⟩)
theorem sep_lt {s : ByteArray} {i : Nat} (h : Sep s i) : i + 1 < s.size := (Array.getElem?_eq_some_iff.1 h.2).1
theorem tail_hit {s : ByteArray} {a i : Nat} (hai : a ≤ i) (hi : Sep s i) (hn : ∀ j, a ≤ j → j < i → ¬ Sep s j) :
    cut1 (s.extract a s.size) semi = s.extract a i ∧ cut2 (s.extract a s.size) semi = s.extract (i + 2) s.size ∧ cut3 (s.extract a s.size) semi = true := by
  have hx : Lib.index (s.extract a s.size).data.toList [59, 32] = ((i - a : Nat) : Int) :=
    Lib.index_first (by have hl := sep_lt hi; simp; omega) ((occ_sep s a (i - a)).2 (by rw [show a + (i - a) = i by omega]; exact hi)) (fun j hj => by
      cases h : Lib.occAt (s.extract a s.size).data.toList [59, 32] j with
      | false => rfl
      | true => exact absurd ((occ_sep s a j).1 h) (hn _ (by omega) (by omega)))
  have hc : Lib.cut (s.extract a s.size).data.toList semi.data.toList = ((s.extract a i).data.toList, (s.extract (i + 2) s.size).data.toList, true) := by
    show Lib.cut _ [59, 32] = _
    unfold Lib.cut
    rw [hx, if_pos (by omega)]
    have e : (((i - a : Nat) : Int)).toNat = i - a := by omega
    rw [e, tail_list, tail_list, List.drop_drop]
    refine Prod.ext ?_ (Prod.ext ?_ rfl)
    · show (s.data.toList.drop a).take (i - a) = _
      simp [ByteArray.data_extract]
    · show s.data.toList.drop _ = _
      congr 1
      show a + (i - a + 2) = i + 2
      omega
  exact cut_of hc
theorem tail_miss {s : ByteArray} {a : Nat} (hn : ∀ j, a ≤ j → ¬ Sep s j) : cut1 (s.extract a s.size) semi = s.extract a s.size ∧ cut3 (s.extract a s.size) semi = false := by
  have hc : Lib.cut (s.extract a s.size).data.toList semi.data.toList = ((s.extract a s.size).data.toList, [], false) := by
    show Lib.cut _ [59, 32] = _
    unfold Lib.cut
    rw [Lib.index_none (fun j _ => by
      cases h : Lib.occAt (s.extract a s.size).data.toList [59, 32] j with
      | false => rfl
      | true => exact absurd ((occ_sep s a j).1 h) (hn _ (by omega)))]
    rfl
  obtain ⟨h1, -, h3⟩ := cut_of hc
  exact ⟨h1, h3⟩
/-- What is cut off so far. -/
structure CutSt (s : ByteArray) (G : List ByteArray) (a i : Nat) : Prop where
  ai : a ≤ i + 1
  az : a ≤ s.size
  n : 2 * G.length ≤ a
  no : ∀ j, a ≤ j → j < i → ¬ Sep s j
  p : ∃ F, s.size - a < F ∧ ptl semi (s.size + 1) s = G ++ ptl semi F (s.extract a s.size)
theorem CutSt.start (s : ByteArray) : CutSt s [] 0 0 :=
  ⟨by omega, Nat.zero_le _, Nat.le_refl _, fun j _ h => by omega, s.size + 1, by omega, by rw [List.nil_append, show s.extract 0 s.size = s from ba_ext (by rw [tail_list]; rfl)]⟩
theorem CutSt.skip {s : ByteArray} {G : List ByteArray} {a i : Nat} (h : CutSt s G a i) (hn : i < a ∨ ¬ Sep s i) : CutSt s G a (i + 1) :=
  ⟨by have := h.ai; omega, h.az, h.n, fun j h1 h2 => by
    by_cases hj : j = i
    · subst hj
      rcases hn with hn | hn
      · omega
      · exact hn
    · exact h.no j h1 (by omega), h.p⟩
theorem CutSt.hit {s : ByteArray} {G : List ByteArray} {a i : Nat} (h : CutSt s G a i) (hai : a ≤ i) (hs : Sep s i) : CutSt s (G ++ [s.extract a i]) (i + 2) (i + 1) := by
  have hl := sep_lt hs
  obtain ⟨F, hF, hp⟩ := h.p
  obtain ⟨c1, c2, c3⟩ := tail_hit hai hs h.no
  refine ⟨by omega, by omega, by have := h.n; simp; omega, fun j h1 h2 => by omega, F - 1, by omega, ?_⟩
  rw [hp, ptl_cons _ _ _ (by omega), c1, c2, c3, if_pos rfl, List.append_assoc]
  rfl
theorem CutSt.done {s : ByteArray} {G : List ByteArray} {a i : Nat} (h : CutSt s G a i) (hi : s.size ≤ i + 1) : ptl semi (s.size + 1) s = G ++ [s.extract a s.size] := by
  obtain ⟨F, hF, hp⟩ := h.p
  obtain ⟨c1, c3⟩ := tail_miss (s := s) (a := a) (fun j hj hs => by
    have := sep_lt hs
    exact h.no j hj (by omega) hs)
  rw [hp, ptl_cons _ _ _ (by omega), c1, c3, if_neg (by simp)]
/-- What the loop knows of its world. -/
structure KIn (w : World) (s : ByteArray) (G : List ByteArray) (a i : Nat) (v : Value) (wr : World) : Prop where
  own : wr.ownsRow w.heap.size 9 1 v G.length (G.map Value.string)
  st : CutSt s G a i
  b : Below w.heap.size w wr
theorem KIn.hit {w : World} {s : ByteArray} {G : List ByteArray} {a i : Nat} {v v' : Value} {wr w' : World} (h : KIn w s G a i v wr) (hai : a ≤ i) (hs : Sep s i)
    (ho : w'.ownsRow w.heap.size 9 1 v' (G.length + 1) (G.map Value.string ++ [.string (s.extract a i)])) (hg : (wr.alloc (.cells #[.string (s.extract a i)] 9)).grownBy w' v.ownBlock) : KIn w s (G ++ [s.extract a i]) (i + 2) (i + 1) v' w' := by
  have hlow : ∀ r, v.ownBlock = some r → w.heap.size ≤ r := fun r e => own_ge h.own r e
  refine ⟨by rw [List.length_append, List.map_append]; exact ho, h.st.hit hai hs, ?_⟩
  exact (h.b.alloc h.b.size _).grown hg (by have := h.b.size; simp; omega) (fun r e => by have := hlow r e; omega)
theorem byte_at {s : ByteArray} {k : Nat} (hk : k < s.size) : ∃ x : UInt8, s.data[k]? = some x ∧ ∀ w, (Instr.index 9 (.string s) (.int .i64 (k : Int))).run Tryd.prog w = .ok (.int .u8 (x.toNat : Int)) w :=
  ⟨s[k]'hk, by rw [Array.getElem?_eq_getElem (show k < s.data.size from hk)]; rfl, fun w => by
    rw [run_index_string w 9 s .i64 (k : Int) Tryd.underlying9, dif_pos ⟨by omega, by omega⟩]
    rfl⟩
set_option maxRecDepth 100000 in
set_option maxHeartbeats 8000000 in
theorem rcut_any (s : ByteArray) (hs : s.size ≤ 200000) (w : World) : Calls Tryd.prog 52 #[.string s] w fun e w' =>
    ∃ v, e = .returned v ∧ w'.ownsRow w.heap.size 9 1 v (ptl semi (s.size + 1) s).length ((ptl semi (s.size + 1) s).map Value.string) ∧ Below w.heap.size w w' := by
  have H0 := Lib.hid (show KIn w s [] 0 0 (.slice none 0 0) w from ⟨World.ownsRow_nil _ _ _ _, CutSt.start s, Below.refl _ _⟩)
  go_enter Tryd.func52, Tryd.ntmps52
  go_wp2
  go_loopw [3, 4, 5] (fun o st i wr => ∃ (G : List ByteArray) (a k : Nat), st = .int .i64 (a : Int) ∧ i = .int .i64 (k : Int) ∧ k ≤ s.size ∧ Hid (KIn w s G a k o wr)) (fun _ _ i _ => s.size - (intOf i).toNat)
  case atStart => exact ⟨[], 0, 0, rfl, rfl, Nat.zero_le _, H0⟩
  case round =>
    clear H0
    obtain ⟨G, a, k, rfl, rfl, hks, HK⟩ := hrel
    have k0 : (0 : Int) ≤ (k : Int) := by omega
    have a0 : (0 : Int) ≤ (a : Int) := by omega
    have haz := HK.out.st.az
    have hn := HK.out.st.n
    have hGn : G.length ≤ 100000 := by omega
    by_cases hlt : k + 1 < s.size
    · have k1 : (k : Int) + 1 < (s.size : Int) := by omega
      by_cases hak : a ≤ k
      · have k2 : (a : Int) ≤ (k : Int) := by omega
        obtain ⟨x, hx, hix⟩ := byte_at (s := s) (k := k) (by omega)
        obtain ⟨y, hy, hiy⟩ := byte_at (s := s) (k := k + 1) (by omega)
        rw [show ((k + 1 : Nat) : Int) = (k : Int) + 1 by omega] at hiy
        obtain ⟨X, hX⟩ : ∃ X, (x.toNat : Int) = X := ⟨_, rfl⟩
        obtain ⟨Y, hY⟩ : ∃ Y, (y.toNat : Int) = Y := ⟨_, rfl⟩
        rw [hX] at hix
        rw [hY] at hiy
        by_cases h1 : x = 59
        · by_cases h2 : y = 32
          · have hsep : Sep s k := ⟨by rw [hx, h1], by rw [hy, h2]⟩
            obtain ⟨A, c, w2, hrun, hown, hgr, -⟩ := push_str (s.extract a k) HK.out.own hGn HK.out.b.size
            have HK2 := Lib.hid (HK.out.hit hak hsep hown hgr)
            have hsl : ∀ w : World, (Instr.slice 9 (.string s) (some (.int .i64 (a : Int))) (some (.int .i64 (k : Int))) none).run Tryd.prog w = .ok (.string (s.extract a k)) w := fun w => by
              rw [run_slice_string w 9 s .i64 .i64 (a : Int) (k : Int) Tryd.underlying9 (by omega) (by omega) (by omega), Int.toNat_natCast, Int.toNat_natCast]
            have e1 : X = 59 := by rw [← hX, h1]; rfl
            have e2 : Y = 32 := by rw [← hY, h2]; rfl
            subst e1
            subst e2
            clear h1 h2 hx hy hX hY hsep hown hgr
            go_wp2
            go_roundw
            case rel => exact ⟨G ++ [s.extract a k], k + 2, k + 1, by go_num, by go_num, by omega, HK2⟩
            case measure => simp [intOf]; omega
          · have HK2 := Lib.hid (show KIn w s G a (k + 1) _ _ from ⟨HK.out.own, HK.out.st.skip (.inr (fun hs => h2 (by have := hs.2; rw [hy] at this; exact Option.some.inj this))), HK.out.b⟩)
            have e1 : X = 59 := by rw [← hX, h1]; rfl
            have t2 : (Y == 32) = false := by
              rw [beq_eq_false_iff_ne]
              intro h
              exact h2 (UInt8.toNat_inj.1 (by have : (32 : UInt8).toNat = 32 := rfl; omega))
            subst e1
            clear h1 h2 hx hy hX hY
            go_wp2
            go_roundw
            case rel => exact ⟨G, a, k + 1, rfl, by go_num, by omega, HK2⟩
            case measure => simp [intOf]; omega
        · have HK2 := Lib.hid (show KIn w s G a (k + 1) _ _ from ⟨HK.out.own, HK.out.st.skip (.inr (fun hs => h1 (by have := hs.1; rw [hx] at this; exact Option.some.inj this))), HK.out.b⟩)
          have t1 : (X == 59) = false := by
            rw [beq_eq_false_iff_ne]
            intro h
            exact h1 (UInt8.toNat_inj.1 (by have : (59 : UInt8).toNat = 59 := rfl; omega))
          clear h1 hx hy hX hY
          go_wp2
          go_roundw
          case rel => exact ⟨G, a, k + 1, rfl, by go_num, by omega, HK2⟩
          case measure => simp [intOf]; omega
      · have HK2 := Lib.hid (show KIn w s G a (k + 1) _ _ from ⟨HK.out.own, HK.out.st.skip (.inl (by omega)), HK.out.b⟩)
        have k2 : ¬ (a : Int) ≤ (k : Int) := by omega
        go_wp2
        go_roundw
        case rel => exact ⟨G, a, k + 1, rfl, by go_num, by omega, HK2⟩
        case measure => simp [intOf]; omega
    · have k1 : ¬ (k : Int) + 1 < (s.size : Int) := by omega
      have HE := Lib.hid (HK.out.st.done (by omega))
      obtain ⟨A, c, w2, hrun, hown, hgr, -⟩ := push_str (s.extract a s.size) HK.out.own hGn HK.out.b.size
      have HO := Lib.hid hown
      have HB := Lib.hid ((HK.out.b.alloc HK.out.b.size (.cells #[.string (s.extract a s.size)] 9)).grown hgr (by have := HK.out.b.size; simp; omega) (fun r e => own_ge HK.out.own r e))
      have hsl : ∀ w : World, (Instr.slice 9 (.string s) (some (.int .i64 (a : Int))) none none).run Tryd.prog w = .ok (.string (s.extract a s.size)) w := fun w => by
        rw [run_slice_string_l (P := Tryd.prog) w 9 s Tryd.underlying9 .i64 (a : Int) (by omega) (by omega), Int.toNat_natCast]
      clear hown hgr
      go_wp2
      go_ret
      exact ⟨_, rfl, by rw [HE.out, List.length_append, List.map_append]; exact HO.out, HB.out⟩
end Go.Proofs.YtmfpaankkoaoaaaDoor

/- What the reference's group makes of a text, in plain words. -/
namespace Go.Proofs.YtmfpaankkoaoaaaDoor
open Go.RowKit Go.Shelf

/-- The days of one run of days. -/
def drR (q : ByteArray) : Nat :=
  2 ^ (max (dayM (prt q 0 45).1).toNat (min 7 ((if (prt q 0 45).2 ≤ q.size then dayM (q.extract (prt q 0 45).2 q.size) else dayM (prt q 0 45).1).toNat + 1))) - 2 ^ (dayM (prt q 0 45).1).toNat
/-- The hours of one run of hours. -/
def hrR (q : ByteArray) : Nat :=
  if (prt q 0 45).2 ≤ q.size then 2 ^ (max (valN (prt q 0 45).1).toNat (min 24 (valN (q.extract (prt q 0 45).2 q.size)).toNat)) - 2 ^ (valN (prt q 0 45).1).toNat else 0
/-- The sets of the pieces of p from place i on, put to S. -/
def setR (F : ByteArray → Nat) (c : UInt8) (p : ByteArray) : Nat → Nat → Nat → Nat
  | 0, _, S => S
  | f + 1, i, S => if i ≤ p.size then setR F c p f (prt p i c).2 (S ||| F (prt p i c).1) else S
theorem dr_wrD : ∀ a b : Fin 8, a.val < b.val → drR (wrD a.val b.val) = 2 ^ b.val - 2 ^ a.val := by decide +kernel
theorem hr_wrH : ∀ a b : Fin 25, a.val < b.val → hrR (wrH a.val b.val) = 2 ^ b.val - 2 ^ a.val := by decide +kernel
/-- One more bit on a run. -/
theorem run_more (S a d : Nat) (h : a ≤ d) : (S ||| (2 ^ d - 2 ^ a)) ||| 2 ^ d = S ||| (2 ^ (d + 1) - 2 ^ a) := by
  apply Nat.eq_of_testBit_eq
  intro i
  rw [Nat.testBit_or, Nat.testBit_or, Nat.testBit_or, bit_run _ _ _ h, bit_run _ _ _ (by omega), Bool.or_assoc]
  congr 1
  by_cases hi : i = d
  · subst hi
    rw [Nat.testBit_two_pow_self, decide_eq_true h, decide_eq_true (show i < i + 1 by omega), Bool.or_true]; rfl
  · rw [Nat.testBit_two_pow_of_ne (by omega), Bool.or_false]
    congr 1
    exact decide_eq_decide.2 ⟨fun _ => by omega, fun _ => by omega⟩
/-- The place of the byte c behind a piece that has none. -/
theorem pos_at {s : ByteArray} {c : UInt8} : ∀ (x : List UInt8) (i n : Nat) (r : List UInt8), c ∉ x → s.data.toList.drop i = x ++ r → x.length ≤ n → (r = [] → n = x.length) → (∀ b t, r = b :: t → b = c ∧ x.length < n) → pos s c n i = i + x.length
  | [], i, 0, _, _, _, _, _, _ => rfl
  | [], i, n + 1, r, _, hd, _, h0, h1 => by
    cases r with
    | nil => have := h0 rfl; simp at this
    | cons b t =>
      obtain ⟨rfl, -⟩ := h1 b t rfl
      have : s.data[i]? = some b := by
        rw [← Array.getElem?_toList, show s.data.toList[i]? = (s.data.toList.drop i)[0]? by rw [List.getElem?_drop]; rfl, hd]; rfl
      rw [pos, if_pos this]; rfl
  | y :: x, i, 0, _, _, _, hn, _, _ => by simp at hn
  | y :: x, i, n + 1, r, hc, hd, hn, h0, h1 => by
    have hy : s.data[i]? = some y := by
      rw [← Array.getElem?_toList, show s.data.toList[i]? = (s.data.toList.drop i)[0]? by rw [List.getElem?_drop]; rfl, hd]; rfl
    have hne : ¬ s.data[i]? = some c := by
      rw [hy]; intro e
      exact hc (by rw [← Option.some.inj e]; exact List.mem_cons_self ..)
    rw [pos, if_neg hne, pos_at x (i + 1) n r (fun h => hc (List.mem_cons_of_mem _ h)) (by rw [← List.drop_drop, hd]; rfl) (by simp at hn; omega) (fun h => by have := h0 h; simp at this; omega) (fun b t h => by have := h1 b t h; simp at this; exact ⟨this.1, by omega⟩)]
    simp; omega
end Go.Proofs.YtmfpaankkoaoaaaDoor

/- The reference's group reads back what was written. -/
namespace Go.Proofs.YtmfpaankkoaoaaaDoor
open Go.RowKit Go.Shelf

theorem ex_list (s : ByteArray) (i j : Nat) : (s.extract i j).data.toList = (s.data.toList.drop i).take (j - i) := by
  simp [ByteArray.data_extract]
theorem prt_last {s : ByteArray} {c : UInt8} {i : Nat} {x : List UInt8} (hc : c ∉ x) (hi : i ≤ s.size) (h : s.data.toList.drop i = x) : prt s i c = (⟨x.toArray⟩, s.size + 1) := by
  have hl := congrArg List.length h
  rw [List.length_drop, Array.length_toList] at hl
  have hl2 : s.size - i = x.length := hl
  have hp : pos s c (s.size - i) i = i + x.length := pos_at x i (s.size - i) [] hc (by rw [h, List.append_nil]) (by omega) (fun _ => by omega) (fun b t h => by cases h)
  unfold prt
  rw [hp]
  refine Prod.ext (ba_ext ?_) ?_
  · rw [ex_list, h, Nat.add_sub_cancel_left, List.take_length]
  · show i + x.length + 1 = s.size + 1; omega
theorem prt_more {s : ByteArray} {c : UInt8} {i : Nat} {x r : List UInt8} (hc : c ∉ x) (h : s.data.toList.drop i = x ++ (c :: r)) : prt s i c = (⟨x.toArray⟩, i + x.length + 1) ∧ s.data.toList.drop (i + x.length + 1) = r ∧ i + x.length + 1 ≤ s.size := by
  have hl := congrArg List.length h
  rw [List.length_drop, Array.length_toList, List.length_append, List.length_cons] at hl
  have hl2 : s.size - i = x.length + (r.length + 1) := hl
  have hp : pos s c (s.size - i) i = i + x.length := pos_at x i (s.size - i) (c :: r) hc h (by omega) (fun e => by cases e) (fun b t h => by cases h; exact ⟨rfl, by omega⟩)
  refine ⟨?_, ?_, by omega⟩
  · unfold prt
    rw [hp]
    refine Prod.ext (ba_ext ?_) rfl
    rw [ex_list, h, Nat.add_sub_cancel_left, List.take_left]
  · rw [Nat.add_assoc, ← List.drop_drop, h, ← List.drop_drop, List.drop_left]; rfl
theorem setR_end (F : ByteArray → Nat) (c : UInt8) (p : ByteArray) (f i S : Nat) (h : p.size < i) : setR F c p f i S = S := by
  cases f with
  | zero => rfl
  | succ f => rw [setR, if_neg (by omega)]
theorem setR_join (F : ByteArray → Nat) (c : UInt8) (p : ByteArray) : ∀ (L : List ByteArray) (i f S : Nat), L ≠ [] → (∀ x ∈ L, c ∉ x.data.toList) → i ≤ p.size → p.data.toList.drop i = Lib.join (L.map (·.data.toList)) [c] → L.length ≤ f →
    setR F c p f i S = L.foldl (fun S x => S ||| F x) S
  | [], _, _, _, h, _, _, _, _ => absurd rfl h
  | _ :: _, _, 0, _, _, _, _, _, h => by simp at h
  | [x], i, f + 1, S, _, hx, hi, hd, _ => by
    rw [setR, if_pos hi, prt_last (hx x (by simp)) hi (by rw [hd]; exact Lib.join_one _ _), setR_end _ _ _ _ _ _ (by show p.size < p.size + 1; omega)]
    rfl
  | x :: y :: l, i, f + 1, S, _, hx, hi, hd, hf => by
    obtain ⟨h1, h2, h3⟩ := prt_more (s := p) (i := i) (x := x.data.toList) (r := Lib.join ((y :: l).map (·.data.toList)) [c]) (hx x (by simp)) (by rw [hd]; exact join_two _ _ _ _)
    rw [setR, if_pos hi, h1]
    exact setR_join F c p (y :: l) _ f _ (by simp) (fun z hz => hx z (by simp [hz])) h3 h2 (by simp at hf ⊢; omega)
theorem fold_unR {F : ByteArray → Nat} {wr : Nat → Nat → ByteArray} : ∀ (R : List (Nat × Nat)) (S : Nat), (∀ q ∈ R, F (wr q.1 q.2) = 2 ^ q.2 - 2 ^ q.1) → (R.map fun r => wr r.1 r.2).foldl (fun S x => S ||| F x) S = S ||| unR R
  | [], S, _ => by simp [unR]
  | q :: R, S, h => by
    rw [List.map_cons, List.foldl_cons, fold_unR R _ (fun z hz => h z (by simp [hz])), h q (by simp), unR, Nat.or_assoc]
/-- What the reference's group makes of a text. -/
def grpR (x : ByteArray) : Nat × Nat := (setR drR 44 (prt x 0 32).1 ((prt x 0 32).1.size + 2) 0 0, setR hrR 32 x (x.size + 2) (prt x 0 32).2 0)
theorem grpR_read {d h : Nat} (hd : d ≤ 127) (hd0 : d ≠ 0) (hh : h ≤ 16777215) (hh0 : h ≠ 0) : grpR (grpT d h) = (d, h) := by
  have hc : (32 : UInt8) ∉ (wrRuns [44] wrD d).data.toList := wrRuns_free (by decide) fun q hq => (wrD_free q.1 q.2 (days_mem hd q hq).1 (days_mem hd q hq).2).2.1
  obtain ⟨h1, h2, h3⟩ := prt_more (s := grpT d h) (i := 0) (x := (wrRuns [44] wrD d).data.toList) (r := (wrRuns [32] wrH h).data.toList) hc (by simp [grpT])
  rw [Nat.zero_add] at h1 h2 h3
  unfold grpR
  rw [h1]
  dsimp only
  have e1 : setR drR 44 (wrRuns [44] wrD d) ((wrRuns [44] wrD d).size + 2) 0 0 = d := by
    rw [setR_join drR 44 (wrRuns [44] wrD d) (runT wrD d) 0 _ 0 (runT_ne hd0) (fun x hx => by
      obtain ⟨q, hq, rfl⟩ := List.mem_map.1 hx
      exact (wrD_free q.1 q.2 (days_mem hd q hq).1 (days_mem hd q hq).2).1) (Nat.zero_le _) rfl (by
      have := join_many ((runT wrD d).map (·.data.toList)) 44 []
      rw [List.length_map] at this
      exact Nat.le_trans this (by show _ ≤ (wrRuns [44] wrD d).size + 2; exact Nat.le_succ _))]
    show ((rl 25 d 0).map fun r => wrD r.1 r.2).foldl _ 0 = d
    rw [fold_unR _ _ (fun q hq => dr_wrD ⟨q.1, by have := days_mem hd q hq; omega⟩ ⟨q.2, by have := days_mem hd q hq; omega⟩ (days_mem hd q hq).1), unR_rl d (by omega), Nat.zero_or]
  have e2 : setR hrR 32 (grpT d h) ((grpT d h).size + 2) ((wrRuns [44] wrD d).data.toList.length + 1) 0 = h := by
    rw [setR_join hrR 32 (grpT d h) (runT wrH h) _ _ 0 (runT_ne hh0) (fun x hx => by
      obtain ⟨q, hq, rfl⟩ := List.mem_map.1 hx
      exact (wrH_free q.1 q.2 (hours_mem hh q hq).1 (hours_mem hh q hq).2).2.1) h3 h2 (by
      have := join_many ((runT wrH h).map (·.data.toList)) 32 []
      rw [List.length_map] at this
      have h5 : (Lib.join ((runT wrH h).map (·.data.toList)) [32]).length = (wrRuns [32] wrH h).size := rfl
      have h6 : (grpT d h).size = (wrRuns [44] wrD d).size + 1 + (wrRuns [32] wrH h).size := by simp [grpT]; rfl
      omega)]
    show ((rl 25 h 0).map fun r => wrH r.1 r.2).foldl _ 0 = h
    rw [fold_unR _ _ (fun q hq => hr_wrH ⟨q.1, by have := hours_mem hh q hq; omega⟩ ⟨q.2, by have := hours_mem hh q hq; omega⟩ (hours_mem hh q hq).1), unR_rl h hh, Nat.zero_or]
  exact Prod.ext e1 e2
end Go.Proofs.YtmfpaankkoaoaaaDoor

/- The reference's group. -/
namespace Go.Proofs.YtmfpaankkoaoaaaDoor
open Go.RowKit Go.Shelf

theorem dayM_nat (s : ByteArray) : ∃ k : Nat, k ≤ 7 ∧ dayM s = (k : Int) := by
  unfold dayM
  by_cases h : dayN s < 0
  · rw [if_pos h]; exact ⟨7, by omega, rfl⟩
  · rw [if_neg h]
    obtain ⟨k, hk, e, -⟩ := dayN_inv (s := s) (by omega)
    exact ⟨k, by omega, e⟩
theorem valN_nat (s : ByteArray) : ∃ k : Nat, k ≤ 99 ∧ valN s = (k : Int) := by
  unfold valN
  by_cases h : hourN s < 0
  · rw [if_pos h]; exact ⟨99, by omega, rfl⟩
  · rw [if_neg h]
    obtain ⟨k, hk, e, -⟩ := hourN_inv (s := s) (by omega)
    exact ⟨k, by omega, e⟩
theorem two_sub {a e N : Nat} (h : e ≤ N ∨ e = a) : 2 ^ e - 2 ^ a ≤ 2 ^ N - 1 := by
  rcases h with h | h
  · have h1 : (2 : Nat) ^ e ≤ 2 ^ N := Nat.pow_le_pow_right (by decide) h
    have h2 : 0 < (2 : Nat) ^ a := Nat.two_pow_pos a
    omega
  · subst h; rw [Nat.sub_self]; exact Nat.zero_le _
theorem drR_le (q : ByteArray) : drR q ≤ 127 := by
  unfold drR
  obtain ⟨a, ha, e⟩ := dayM_nat (prt q 0 45).1
  rw [e]
  exact two_sub (N := 7) (.inl (by simp only [Int.toNat_natCast]; omega))
theorem hrR_le (q : ByteArray) : hrR q ≤ 16777215 := by
  unfold hrR
  split
  · refine two_sub (N := 24) ?_
    by_cases h : (valN (prt q 0 45).1).toNat ≤ 24
    · exact .inl (by omega)
    · exact .inr (by omega)
  · exact Nat.zero_le _
theorem or_24 {a b : Nat} (ha : a ≤ 16777215) (hb : b ≤ 16777215) : a ||| b ≤ 16777215 := by
  have := Nat.or_lt_two_pow (x := a) (y := b) (n := 24) (by omega) (by omega)
  omega
theorem setR_le {F : ByteArray → Nat} {N : Nat} (hF : ∀ q S, S ≤ N → S ||| F q ≤ N) (c : UInt8) (p : ByteArray) : ∀ f i S, S ≤ N → setR F c p f i S ≤ N
  | 0, _, _, h => h
  | f + 1, i, S, h => by
    unfold setR
    split
    · exact setR_le hF c p f _ _ (hF _ _ h)
    · exact h
theorem grpR_le (x : ByteArray) : (grpR x).1 ≤ 127 ∧ (grpR x).2 ≤ 16777215 :=
  ⟨setR_le (fun q _ h => or_127 h (drR_le q)) _ _ _ _ _ (by omega), setR_le (fun q _ h => or_24 h (hrR_le q)) _ _ _ _ _ (by omega)⟩
theorem prt_size (s : ByteArray) (i : Nat) (c : UInt8) : (prt s i c).1.size ≤ s.size := by
  unfold prt; rw [ByteArray.size_extract]; omega
theorem prt_next (s : ByteArray) (i : Nat) (c : UInt8) (hi : i ≤ s.size) : i < (prt s i c).2 ∧ (prt s i c).2 ≤ s.size + 1 := by
  unfold prt
  have := pos_le s c (s.size - i) i
  dsimp only; omega
end Go.Proofs.YtmfpaankkoaoaaaDoor
