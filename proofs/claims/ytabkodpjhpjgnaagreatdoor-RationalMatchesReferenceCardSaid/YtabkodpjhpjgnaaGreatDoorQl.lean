/- Down and Up; Cut at one byte; Print and Parse. -/
import Derived.Test.YtabkodpjhpjgnaaGreatDoorQk
namespace Go.Proofs.YtabkodpjhpjgnaaGreatDoor
open Go.RowKit Go.Shelf

set_option maxRecDepth 100000 in
set_option maxHeartbeats 1000000 in
theorem down_of (a1 a2 : List UInt8) (p : Int) (F : Bool) (Y : Value) (w : World) (ht : TabP w)
    (h : ∀ u, TabP u → Calls Tryz.prog 54 #[rv a1 a2, .int .i64 p, .func (.func 55) #[] #[]] u (BuildP F Y u)) :
    Calls Tryz.prog 23 #[rv a1 a2, .int .i64 p] w (BuildP F Y w) := by
  have H := Lib.hid h; have HT := Lib.hid ht
  clear h ht
  unfold rv strOf at *
  generalize bs a1 = A1 at *
  generalize bs a2 = A2 at *
  obtain ⟨W, hW, hbw, -, ho⟩ := boxes2 w A1 A2
  have HW := Lib.hid hW; have HB := Lib.hid hbw; have HO := Lib.hid ho
  clear hW hbw ho
  go_enter Tryz.func23, Tryz.ntmps23
  go_wp2_with (go_at_call 54; rw [HW.out]; (with_reducible refine Calls.mono (H.out _ (HT.out.next HB.out)) ?_); unfold BuildP; rintro e w1 ⟨S, T, er, rfl, hq, hb1⟩; have HO1 := Lib.hid (HO.out.below hb1 HO.out.lt); have HB1 := Lib.hid (below_to HB.out hb1); have HQ := Lib.hid hq; obtain ⟨o0, o1, f0, f1⟩ := rat_facts HO1.out; clear hb1 hq)
  refine bodyPost_ret (results_rat_tmp rfl _ _ (w.heap.size + 1) _ _ rfl (rat_row HO1.out)) rfl ?_
  exact ⟨S, T, er, rfl, HQ.out, (HB1.out.setCell (by dsimp only; omega) _).setCell (by dsimp only; omega) _⟩
theorem eg_floor : ∀ args w, (callFunc 55 args).run Tryz.prog w = .ok (.enter 55 args) w := enters_of Tryz.func55 (by kernel_rfl) rfl
theorem down_q (q : Rat) (p : Nat) (hq : okq q = true) (hp : p ≤ 30) (w : World) (ht : TabP w) :
    Calls Tryz.prog 23 #[qv q, .int .i64 (p : Int)] w (BuildP (okz (q.num * ((10 ^ p : Nat) : Int))) (qv (Rat.divInt (q.num * ((10 ^ p : Nat) : Int) / ((q.den : Nat) : Int)) ((10 ^ p : Nat) : Int))) w) := by
  obtain ⟨q1, q2⟩ := okq_iff.1 hq
  have hten : ((10 ^ p : Nat) : Int) ≠ 0 := by have : 0 < 10 ^ p := Nat.pow_pos (by decide); omega
  have ht1 := ok_ten (p := p) (by omega)
  refine down_of _ _ _ _ _ w ht (fun u hu => ?_)
  have hz : okz (q.num * ((10 ^ p : Nat) : Int)) = true → okz (q.num * ((10 ^ p : Nat) : Int) / ((q.den : Nat) : Int)) = true := fun h => ok_le h (ediv_abs (Qm.den_pos q))
  have := round_any (Lib.itoa q.num) (Lib.itoa ((q.den : Nat) : Int)) p hp 55 eg_floor (decide (errT (q.num * ((10 ^ p : Nat) : Int)) = 0) && decide (errT (((q.den : Nat) : Int) * 1) = 0)) true (decide (errT ((q.num * ((10 ^ p : Nat) : Int) / ((q.den : Nat) : Int)) * 1) = 0) && decide (errT (1 * ((10 ^ p : Nat) : Int)) = 0)) true
    (bs (outT (q.num * ((10 ^ p : Nat) : Int)))) (bs (outT (((q.den : Nat) : Int) * 1))) (bs (Lib.itoa (q.num * ((10 ^ p : Nat) : Int) / ((q.den : Nat) : Int)))) (bs (Lib.itoa 1)) (bs (outT ((q.num * ((10 ^ p : Nat) : Int) / ((q.den : Nat) : Int)) * 1))) (bs (outT (1 * ((10 ^ p : Nat) : Int))))
    (bs (Lib.itoa (Rat.divInt (q.num * ((10 ^ p : Nat) : Int) / ((q.den : Nat) : Int)) ((10 ^ p : Nat) : Int)).num)) (bs (Lib.itoa (((Rat.divInt (q.num * ((10 ^ p : Nat) : Int) / ((q.den : Nat) : Int)) ((10 ^ p : Nat) : Int)).den : Nat) : Int))) u hu
    (fun _ u g1 g2 k1 k2 => mul1_step _ _ (Lib.itoa ((10 ^ p : Nat) : Int)) [49] _ _ _ _ u g1 g2 k1 k2 (mulT_c _ _ q1 ht1) (by rw [show ([49] : List UInt8) = Lib.itoa 1 from by decide +kernel]; exact mulT_c _ _ q2 ok1))
    (fun _ h u => by
      rw [errT_dec, errT_dec, Bool.and_eq_true] at h
      rw [outT_ok h.1, outT_ok h.2, Int.mul_one]
      exact floor_step _ _ u h.1 q2 (Qm.den_pos q))
    (fun _ h _ u g1 g2 k1 k2 => by
      rw [errT_dec, errT_dec, Bool.and_eq_true] at h
      exact mul1_step _ _ [49] (Lib.itoa ((10 ^ p : Nat) : Int)) _ _ _ _ u g1 g2 k1 k2 (by rw [show ([49] : List UInt8) = Lib.itoa 1 from by decide +kernel]; exact mulT_c _ _ (hz h.1) ok1) (mulT_c _ _ ok1 ht1))
    (fun _ h _ h' u => by
      rw [errT_dec, errT_dec, Bool.and_eq_true] at h
      rw [Int.mul_one, Int.one_mul, outT_ok (hz h.1), outT_ok ht1]
      exact red_step _ _ u (hz h.1) ht1 hten)
  have e : (vldR (Lib.itoa q.num) (Lib.itoa ((q.den : Nat) : Int)) && (decide (errT (q.num * ((10 ^ p : Nat) : Int)) = 0) && decide (errT (((q.den : Nat) : Int) * 1) = 0)) && true && (decide (errT ((q.num * ((10 ^ p : Nat) : Int) / ((q.den : Nat) : Int)) * 1) = 0) && decide (errT (1 * ((10 ^ p : Nat) : Int)) = 0)) && true) = okz (q.num * ((10 ^ p : Nat) : Int)) := by
    rw [errT_dec, errT_dec, errT_dec, errT_dec, vldR_q hq, Int.mul_one, Int.mul_one, Int.one_mul, q2, ht1]
    cases h : okz (q.num * ((10 ^ p : Nat) : Int)) with
    | true => rw [hz h]; rfl
    | false => rfl
  rw [e] at this
  exact this
theorem down_no (a1 a2 : List UInt8) (p : Int) (h : vldR a1 a2 = false ∨ p < 0 ∨ 30 < p) (y : Rat) (w : World) (ht : TabP w) : Calls Tryz.prog 23 #[rv a1 a2, .int .i64 p] w (BuildP false (qv y) w) := by
  refine down_of _ _ _ _ _ w ht (fun u hu => ?_)
  by_cases hp : p < 0 ∨ 30 < p
  · exact round_far _ _ _ _ _ u hp
  · have hv : vldR a1 a2 = false := h.resolve_right hp
    obtain ⟨k, rfl⟩ : ∃ k : Nat, p = (k : Int) := ⟨p.toNat, by omega⟩
    have := round_any a1 a2 k (by omega) 55 eg_floor false false false false ⟨#[]⟩ ⟨#[]⟩ ⟨#[]⟩ ⟨#[]⟩ ⟨#[]⟩ ⟨#[]⟩ (bs (Lib.itoa y.num)) (bs (Lib.itoa ((y.den : Nat) : Int))) u hu (fun h => by rw [hv] at h; cases h) (fun h => by rw [hv] at h; cases h) (fun h => by rw [hv] at h; cases h) (fun h => by rw [hv] at h; cases h)
    rw [hv] at this
    exact this
set_option maxRecDepth 100000 in
set_option maxHeartbeats 1000000 in
theorem up_of (a1 a2 : List UInt8) (p : Int) (F : Bool) (Y : Value) (w : World) (ht : TabP w)
    (h : ∀ u, TabP u → Calls Tryz.prog 54 #[rv a1 a2, .int .i64 p, .func (.func 57) #[] #[]] u (BuildP F Y u)) :
    Calls Tryz.prog 25 #[rv a1 a2, .int .i64 p] w (BuildP F Y w) := by
  have H := Lib.hid h; have HT := Lib.hid ht
  clear h ht
  unfold rv strOf at *
  generalize bs a1 = A1 at *
  generalize bs a2 = A2 at *
  obtain ⟨W, hW, hbw, -, ho⟩ := boxes2 w A1 A2
  have HW := Lib.hid hW; have HB := Lib.hid hbw; have HO := Lib.hid ho
  clear hW hbw ho
  go_enter Tryz.func25, Tryz.ntmps25
  go_wp2_with (go_at_call 54; rw [HW.out]; (with_reducible refine Calls.mono (H.out _ (HT.out.next HB.out)) ?_); unfold BuildP; rintro e w1 ⟨S, T, er, rfl, hq, hb1⟩; have HO1 := Lib.hid (HO.out.below hb1 HO.out.lt); have HB1 := Lib.hid (below_to HB.out hb1); have HQ := Lib.hid hq; obtain ⟨o0, o1, f0, f1⟩ := rat_facts HO1.out; clear hb1 hq)
  refine bodyPost_ret (results_rat_tmp rfl _ _ (w.heap.size + 1) _ _ rfl (rat_row HO1.out)) rfl ?_
  exact ⟨S, T, er, rfl, HQ.out, (HB1.out.setCell (by dsimp only; omega) _).setCell (by dsimp only; omega) _⟩
theorem eg_ceiling : ∀ args w, (callFunc 57 args).run Tryz.prog w = .ok (.enter 57 args) w := enters_of Tryz.func57 (by kernel_rfl) rfl
theorem up_q (q : Rat) (p : Nat) (hq : okq q = true) (hp : p ≤ 30) (w : World) (ht : TabP w) :
    Calls Tryz.prog 25 #[qv q, .int .i64 (p : Int)] w (BuildP (okz (q.num * ((10 ^ p : Nat) : Int))) (qv (Rat.divInt (cl (q.num * ((10 ^ p : Nat) : Int)) ((q.den : Nat) : Int)) ((10 ^ p : Nat) : Int))) w) := by
  obtain ⟨q1, q2⟩ := okq_iff.1 hq
  have hten : ((10 ^ p : Nat) : Int) ≠ 0 := by have : 0 < 10 ^ p := Nat.pow_pos (by decide); omega
  have ht1 := ok_ten (p := p) (by omega)
  refine up_of _ _ _ _ _ w ht (fun u hu => ?_)
  have hz : okz (q.num * ((10 ^ p : Nat) : Int)) = true → okz (cl (q.num * ((10 ^ p : Nat) : Int)) ((q.den : Nat) : Int)) = true := fun h => cl_ok (Qm.den_pos q) h
  have := round_any (Lib.itoa q.num) (Lib.itoa ((q.den : Nat) : Int)) p hp 57 eg_ceiling (decide (errT (q.num * ((10 ^ p : Nat) : Int)) = 0) && decide (errT (((q.den : Nat) : Int) * 1) = 0)) true (decide (errT ((cl (q.num * ((10 ^ p : Nat) : Int)) ((q.den : Nat) : Int)) * 1) = 0) && decide (errT (1 * ((10 ^ p : Nat) : Int)) = 0)) true
    (bs (outT (q.num * ((10 ^ p : Nat) : Int)))) (bs (outT (((q.den : Nat) : Int) * 1))) (bs (Lib.itoa (cl (q.num * ((10 ^ p : Nat) : Int)) ((q.den : Nat) : Int)))) (bs (Lib.itoa 1)) (bs (outT ((cl (q.num * ((10 ^ p : Nat) : Int)) ((q.den : Nat) : Int)) * 1))) (bs (outT (1 * ((10 ^ p : Nat) : Int))))
    (bs (Lib.itoa (Rat.divInt (cl (q.num * ((10 ^ p : Nat) : Int)) ((q.den : Nat) : Int)) ((10 ^ p : Nat) : Int)).num)) (bs (Lib.itoa (((Rat.divInt (cl (q.num * ((10 ^ p : Nat) : Int)) ((q.den : Nat) : Int)) ((10 ^ p : Nat) : Int)).den : Nat) : Int))) u hu
    (fun _ u g1 g2 k1 k2 => mul1_step _ _ (Lib.itoa ((10 ^ p : Nat) : Int)) [49] _ _ _ _ u g1 g2 k1 k2 (mulT_c _ _ q1 ht1) (by rw [show ([49] : List UInt8) = Lib.itoa 1 from by decide +kernel]; exact mulT_c _ _ q2 ok1))
    (fun _ h u => by
      rw [errT_dec, errT_dec, Bool.and_eq_true] at h
      rw [outT_ok h.1, outT_ok h.2, Int.mul_one]
      exact ceil_step _ _ u h.1 q2 (Qm.den_pos q))
    (fun _ h _ u g1 g2 k1 k2 => by
      rw [errT_dec, errT_dec, Bool.and_eq_true] at h
      exact mul1_step _ _ [49] (Lib.itoa ((10 ^ p : Nat) : Int)) _ _ _ _ u g1 g2 k1 k2 (by rw [show ([49] : List UInt8) = Lib.itoa 1 from by decide +kernel]; exact mulT_c _ _ (hz h.1) ok1) (mulT_c _ _ ok1 ht1))
    (fun _ h _ h' u => by
      rw [errT_dec, errT_dec, Bool.and_eq_true] at h
      rw [Int.mul_one, Int.one_mul, outT_ok (hz h.1), outT_ok ht1]
      exact red_step _ _ u (hz h.1) ht1 hten)
  have e : (vldR (Lib.itoa q.num) (Lib.itoa ((q.den : Nat) : Int)) && (decide (errT (q.num * ((10 ^ p : Nat) : Int)) = 0) && decide (errT (((q.den : Nat) : Int) * 1) = 0)) && true && (decide (errT ((cl (q.num * ((10 ^ p : Nat) : Int)) ((q.den : Nat) : Int)) * 1) = 0) && decide (errT (1 * ((10 ^ p : Nat) : Int)) = 0)) && true) = okz (q.num * ((10 ^ p : Nat) : Int)) := by
    rw [errT_dec, errT_dec, errT_dec, errT_dec, vldR_q hq, Int.mul_one, Int.mul_one, Int.one_mul, q2, ht1]
    cases h : okz (q.num * ((10 ^ p : Nat) : Int)) with
    | true => rw [hz h]; rfl
    | false => rfl
  rw [e] at this
  exact this
theorem up_no (a1 a2 : List UInt8) (p : Int) (h : vldR a1 a2 = false ∨ p < 0 ∨ 30 < p) (y : Rat) (w : World) (ht : TabP w) : Calls Tryz.prog 25 #[rv a1 a2, .int .i64 p] w (BuildP false (qv y) w) := by
  refine up_of _ _ _ _ _ w ht (fun u hu => ?_)
  by_cases hp : p < 0 ∨ 30 < p
  · exact round_far _ _ _ _ _ u hp
  · have hv : vldR a1 a2 = false := h.resolve_right hp
    obtain ⟨k, rfl⟩ : ∃ k : Nat, p = (k : Int) := ⟨p.toNat, by omega⟩
    have := round_any a1 a2 k (by omega) 57 eg_ceiling false false false false ⟨#[]⟩ ⟨#[]⟩ ⟨#[]⟩ ⟨#[]⟩ ⟨#[]⟩ ⟨#[]⟩ (bs (Lib.itoa y.num)) (bs (Lib.itoa ((y.den : Nat) : Int))) u hu (fun h => by rw [hv] at h; cases h) (fun h => by rw [hv] at h; cases h) (fun h => by rw [hv] at h; cases h) (fun h => by rw [hv] at h; cases h)
    rw [hv] at this
    exact this
end Go.Proofs.YtabkodpjhpjgnaaGreatDoor
