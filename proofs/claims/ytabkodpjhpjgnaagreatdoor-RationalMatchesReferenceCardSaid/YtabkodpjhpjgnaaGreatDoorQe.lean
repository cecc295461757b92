/- The steps floor, ceiling and areValid, what makes the steps, and build, which takes them one after the other. -/
import Derived.Test.YtabkodpjhpjgnaaGreatDoorQd
namespace Go.Proofs.YtabkodpjhpjgnaaGreatDoor
open Go.RowKit Go.Shelf

theorem ediv_abs {a d : Int} (h : 0 < d) : (a / d).natAbs ≤ a.natAbs := by
  by_cases ha : 0 ≤ a
  · have h1 := Int.ediv_nonneg ha (by omega : 0 ≤ d)
    have h2 := Int.ediv_le_self d ha
    omega
  · have h1 : a ≤ a / d := by
      rw [Int.le_ediv_iff_mul_le h]
      have : a * d ≤ a * 1 := Int.mul_le_mul_of_nonpos_left (by omega) (by omega)
      omega
    have h2 : a / d ≤ 0 := by
      have := Int.ediv_neg_of_neg_of_pos (by omega : a < 0) h
      omega
    omega
/-- The least integer that is at least a divided by d. -/
def cl (a d : Int) : Int := if a % d = 0 then a / d else a / d + 1
theorem cl_ok {a d : Int} (h : 0 < d) (ha : okz a = true) : okz (cl a d) = true := by
  unfold cl
  split
  · exact ok_le ha (ediv_abs h)
  · rename_i hr
    have h0 := Int.emod_nonneg a (show d ≠ 0 by omega)
    have h1 := Int.emod_lt_of_pos a h
    have h2 := Int.emod_add_mul_ediv a d
    have h3 := of_decide_eq_true ha
    have h5 := @ediv_abs a d h
    refine decide_eq_true ?_
    by_cases hp : 0 ≤ a / d
    · have h4 : 2 * (a / d) ≤ d * (a / d) := Int.mul_le_mul_of_nonneg_right (by omega) hp
      omega
    · omega

set_option maxRecDepth 100000 in
set_option maxHeartbeats 1000000 in
theorem floor_step (a d : Int) (w : World) (ha : okz a = true) (hd : okz d = true) (h0 : 0 < d) : StepQ w 55 #[] (rv (Lib.itoa a) (Lib.itoa d)) (rv (Lib.itoa (a / d)) (Lib.itoa 1)) true := by
  intro u hu _
  have D1 : Hid (CallT 76 #[strOf (Lib.itoa a), strOf (Lib.itoa d)] (.tuple #[strOf (Lib.itoa (a / d)), strOf (Lib.itoa (a % d)), .int .i64 0])) :=
    Lib.hid (div_c a d _ _ rfl rfl ha hd (by omega) (ok_le ha (ediv_abs h0)) (ok_le hd (by have := Int.emod_nonneg a (show d ≠ 0 by omega); have := Int.emod_lt_of_pos a h0; omega)))
  have HT := Lib.hid hu
  have h1 : bs (Lib.itoa 1) = ⟨#[49]⟩ := by rw [show Lib.itoa 1 = [49] from by decide +kernel]; rfl
  unfold StepP
  unfold rv strOf at *
  rw [h1]
  clear ha hd h0 hu h1
  obtain ⟨W, hW, hbw, hx, ho⟩ := boxes2 u (bs (Lib.itoa a)) (bs (Lib.itoa d))
  have HW := Lib.hid hW; have HB := Lib.hid hbw; have HO := Lib.hid ho
  generalize bs (Lib.itoa a) = L at *
  generalize bs (Lib.itoa d) = R at *
  generalize bs (Lib.itoa (a / d)) = S at *
  generalize bs (Lib.itoa (a % d)) = T at *
  clear hW hbw ho hx
  go_enter Tryz.func55, Tryz.ntmps55
  go_wp2_with (go_at_call 76; rw [HW.out]; (with_reducible refine Calls.mono (D1.out _ (HT.out.next HB.out)) ?_); rintro e w1 ⟨rfl, hb1⟩; replace HO := Lib.hid (HO.out.below hb1 HO.out.lt); obtain ⟨o0, o1, f0, f1⟩ := rat_facts HO.out; replace HB := Lib.hid (below_to HB.out hb1); clear hb1)
  refine bodyPost_ret (results_rat_tmp rfl _ _ (u.heap.size + 1) _ _ rfl (rat_row HO.out)) rfl ?_
  exact ⟨S, ⟨#[49]⟩, 0, rfl, rfl, fun _ => rfl, (HB.out.setCell (by dsimp only; omega) _).setCell (by dsimp only; omega) _⟩

set_option maxRecDepth 100000 in
set_option maxHeartbeats 1000000 in
theorem ceil_step (a d : Int) (w : World) (ha : okz a = true) (hd : okz d = true) (h0 : 0 < d) : StepQ w 57 #[] (rv (Lib.itoa a) (Lib.itoa d)) (rv (Lib.itoa (cl a d)) (Lib.itoa 1)) true := by
  intro u hu _
  have D1 : Hid (CallT 76 #[strOf (Lib.itoa a), strOf (Lib.itoa d)] (.tuple #[strOf (Lib.itoa (a / d)), strOf (Lib.itoa (a % d)), .int .i64 0])) :=
    Lib.hid (div_c a d _ _ rfl rfl ha hd (by omega) (ok_le ha (ediv_abs h0)) (ok_le hd (by have := Int.emod_nonneg a (show d ≠ 0 by omega); have := Int.emod_lt_of_pos a h0; omega)))
  have HT := Lib.hid hu
  have h1 : bs (Lib.itoa 1) = ⟨#[49]⟩ := by rw [show Lib.itoa 1 = [49] from by decide +kernel]; rfl
  have hco := cl_ok h0 ha
  have hqo : okz (a / d) = true := ok_le ha (ediv_abs h0)
  have tz : ((bs (Lib.itoa (a % d))).toList == [48]) = decide (a % d = 0) := txt_zero _
  obtain ⟨W, hW, hbw, hx, ho⟩ := boxes2 u (bs (Lib.itoa a)) (bs (Lib.itoa d))
  have HW := Lib.hid hW; have HB := Lib.hid hbw; have HO := Lib.hid ho
  by_cases hr : a % d = 0
  · have hcl : cl a d = a / d := if_pos hr
    rw [hcl]
    rw [decide_eq_true hr] at tz
    unfold StepP
    unfold rv strOf at *
    rw [h1]
    clear ha hd h0 hu h1 hco hqo hr hcl hW hbw ho hx
    generalize bs (Lib.itoa a) = L at *
    generalize bs (Lib.itoa d) = R at *
    generalize bs (Lib.itoa (a / d)) = S at *
    generalize bs (Lib.itoa (a % d)) = T at *
    go_enter Tryz.func57, Tryz.ntmps57
    go_wp2_with (go_at_call 76; rw [HW.out]; (with_reducible refine Calls.mono (D1.out _ (HT.out.next HB.out)) ?_); rintro e w1 ⟨rfl, hb1⟩; replace HO := Lib.hid (HO.out.below hb1 HO.out.lt); obtain ⟨o0, o1, f0, f1⟩ := rat_facts HO.out; replace HB := Lib.hid (below_to HB.out hb1); clear hb1)
    refine bodyPost_ret (results_rat_tmp rfl _ _ (u.heap.size + 1) _ _ rfl (rat_row HO.out)) rfl ?_
    exact ⟨S, ⟨#[49]⟩, 0, rfl, rfl, fun _ => rfl, (HB.out.setCell (by dsimp only; omega) _).setCell (by dsimp only; omega) _⟩
  · have hcl : cl a d = a / d + 1 := if_neg hr
    rw [hcl] at hco ⊢
    rw [decide_eq_false hr] at tz
    have A1 : Hid (CallT 67 #[strOf (Lib.itoa (a / d)), .string ⟨#[49]⟩] (.tuple #[strOf (Lib.itoa (a / d + 1)), .int .i64 0])) := Lib.hid (by rw [← lit1]; exact add_c _ _ _ rfl hqo ok1 hco)
    unfold StepP
    unfold rv strOf at *
    rw [h1]
    clear ha hd h0 hu h1 hco hqo hr hcl hW hbw ho hx
    generalize bs (Lib.itoa a) = L at *
    generalize bs (Lib.itoa d) = R at *
    generalize bs (Lib.itoa (a / d)) = S at *
    generalize bs (Lib.itoa (a / d + 1)) = S2 at *
    generalize bs (Lib.itoa (a % d)) = T at *
    go_enter Tryz.func57, Tryz.ntmps57
    go_wp2_with (first | (go_at_call 76; rw [HW.out]; (with_reducible refine Calls.mono (D1.out _ (HT.out.next HB.out)) ?_); rintro e w1 ⟨rfl, hb1⟩; replace HO := Lib.hid (HO.out.below hb1 HO.out.lt); replace HB := Lib.hid (below_to HB.out hb1); clear hb1) | (go_at_call 67; (with_reducible refine Calls.mono (A1.out _ (HT.out.next HB.out)) ?_); rintro e w2 ⟨rfl, hb1⟩; replace HO := Lib.hid (HO.out.below hb1 HO.out.lt); obtain ⟨o0, o1, f0, f1⟩ := rat_facts HO.out; replace HB := Lib.hid (below_to HB.out hb1); clear hb1))
    refine bodyPost_ret (results_rat_tmp rfl _ _ (u.heap.size + 1) _ _ rfl (rat_row HO.out)) rfl ?_
    exact ⟨S2, ⟨#[49]⟩, 0, rfl, rfl, fun _ => rfl, (HB.out.setCell (by dsimp only; omega) _).setCell (by dsimp only; omega) _⟩

/-- The makers of steps. -/
theorem multiply_any (p q : List UInt8) (w : World) : Calls Tryz.prog 69 #[strOf p, strOf q] w fun e w' =>
    ∃ g1 g2, e = .returned (.func (.func 92) #[] #[.pointer (some ⟨g1, 0, none⟩), .pointer (some ⟨g2, 0, none⟩)]) ∧ Row w' g1 9 #[strOf p] ∧ Row w' g2 9 #[strOf q] ∧ Below w.heap.size w w' := by
  unfold strOf
  generalize bs p = P
  generalize bs q = Q
  go_enter Tryz.func69, Tryz.ntmps69
  go_wp2
  go_ret
  refine ⟨_, _, rfl, (Row.new w _ _).alloc _, ?_, ((Below.refl _ _).alloc (Nat.le_refl _) _).alloc (by simp) _⟩
  have := Row.new (w.alloc (.cells #[.string P] 9)) 9 #[.string Q]
  rw [World.size_alloc] at this; exact this
theorem combine_any (op : Nat) (x y : List UInt8) (w : World) : Calls Tryz.prog 89 #[.func (.func op) #[] #[], strOf x, strOf y] w fun e w' =>
    ∃ g1 g2 g3, e = .returned (.func (.func 110) #[] #[.pointer (some ⟨g1, 0, none⟩), .pointer (some ⟨g2, 0, none⟩), .pointer (some ⟨g3, 0, none⟩)]) ∧ Row w' g1 9 #[strOf x] ∧ Row w' g2 9 #[strOf y] ∧ Row w' g3 103 #[.func (.func op) #[] #[]] ∧ Below w.heap.size w w' := by
  unfold strOf
  generalize bs x = P
  generalize bs y = Q
  go_enter Tryz.func89, Tryz.ntmps89
  go_wp2
  go_ret
  refine ⟨_, _, _, rfl, ?_, ?_, ((Row.new w _ _).alloc _).alloc _, (((Below.refl _ _).alloc (Nat.le_refl _) _).alloc (by simp) _).alloc (by simp; omega) _⟩
  · have := (Row.new (w.alloc (.cells #[.func (.func op) #[] #[]] 103)) 9 #[.string P]).alloc (.cells #[.string Q] 9)
    rw [World.size_alloc] at this; exact this
  · have := Row.new ((w.alloc (.cells #[.func (.func op) #[] #[]] 103)).alloc (.cells #[.string P] 9)) 9 #[.string Q]
    rw [World.size_alloc, World.size_alloc] at this; exact this
theorem areValid_any (v : Value) (hv : ∃ A n c, v = .slice A n c) (w : World) : Calls Tryz.prog 68 #[v] w fun e w' =>
    ∃ gb, e = .returned (.func (.func 91) #[] #[.pointer (some ⟨gb, 0, none⟩)]) ∧ Row w' gb 30 #[v] ∧ Below w.heap.size w w' := by
  obtain ⟨A, n, c, rfl⟩ := hv
  go_enter Tryz.func68, Tryz.ntmps68
  go_wp2
  go_ret
  exact ⟨_, rfl, Row.new w _ _, (Below.refl _ _).alloc (Nat.le_refl _) _⟩
end Go.Proofs.YtabkodpjhpjgnaaGreatDoor
