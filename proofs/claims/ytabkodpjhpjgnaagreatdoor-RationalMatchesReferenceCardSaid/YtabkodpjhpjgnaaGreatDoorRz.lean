/- The reference's Parse: it accepts just the texts of fractions. -/
import Derived.Test.YtabkodpjhpjgnaaGreatDoorRy
import Derived.Deep.RegionHeld3
namespace Go.Proofs.YtabkodpjhpjgnaaGreatDoor
open Go.RowKit Go.Shelf

/-- Parse's two boxes: the result, and the fraction that is tried. -/
def ParM (w u : World) (L R : ByteArray) : Prop := Below w.heap.size w u ∧ Row u w.heap.size 23 #[.string ⟨#[]⟩, .string ⟨#[]⟩] ∧ Row u (w.heap.size + 1) 23 #[.string L, .string R]
theorem ParM.below {w u u' : World} {L R : ByteArray} (h : ParM w u L R) (hb : Below u.heap.size u u') : ParM w u' L R := ⟨below_to h.1 hb, h.2.1.below hb h.2.1.lt, h.2.2.below hb h.2.2.lt⟩
theorem ParM.drew {w u : World} {L R : ByteArray} (h : ParM w u L R) : ParM w u.drew L R := ⟨h.1.drew, h.2.1.drew, h.2.2.drew⟩
theorem ParM.base {w u : World} {L R : ByteArray} (h : ParM w u L R) : Below w.heap.size w u := h.1
theorem ParM.start (w : World) (L : ByteArray) : ParM w ((w.alloc (.cells #[.string ⟨#[]⟩, .string ⟨#[]⟩] 23)).alloc (.cells #[.string L, .string ⟨#[49]⟩] 23)) L ⟨#[49]⟩ := by
  refine ⟨((Below.refl _ _).alloc (Nat.le_refl _) _).alloc (by simp) _, (Row.new w _ _).alloc _, ?_⟩
  have h := Row.new (w.alloc (.cells #[.string ⟨#[]⟩, .string ⟨#[]⟩] 23)) 23 #[.string L, .string ⟨#[49]⟩]
  simp only [World.size_alloc] at h
  exact h
theorem ParM.put {w u : World} {L R P Q : ByteArray} (h : ParM w u L R) : ParM w ((u.setCell ⟨w.heap.size + 1, 0, none⟩ (.string P)).setCell ⟨w.heap.size + 1, 1, none⟩ (.string Q)) P Q :=
  ⟨(h.1.setCell (by dsimp only; omega) _).setCell (by dsimp only; omega) _, (h.2.1.far (by dsimp only; omega) _).far (by dsimp only; omega) _, rat_row h.2.2⟩

theorem ParM.drewN {w u : World} {L R : ByteArray} (h : ParM w u L R) (n : Nat) : ParM w (u.drewN n) L R := ⟨belowN h.1 n, h.2.1.drewN n, h.2.2.drewN n⟩
set_option maxRecDepth 100000 in
set_option maxHeartbeats 4000000 in
theorem rparse_plain (l : List UInt8) (hl : l.length ≤ 1000000) (h : (47 : UInt8) ∉ l) (v f : Bool) (X : ByteArray) (C1 : CallT 30 #[rvB (bs l) ⟨#[49]⟩] (.bool v)) (C2 : v = true → CallT 35 #[rvB (bs l) ⟨#[49]⟩] (.string X)) (hf : (X.toList == (bs l).toList) = f) :
    CallT 36 #[strOf l] (.tuple #[if v && f then rvB (bs l) ⟨#[49]⟩ else rvB ⟨#[]⟩ ⟨#[]⟩, .int .i64 (if v && f then 0 else 40)]) := fun w ht => by
  have VA := Lib.hid C1; have PR := Lib.hid C2; have HF := Lib.hid hf; have HT := Lib.hid ht
  have hsz : (bs l).size = l.length := bs_size l
  have HN : Hid (∀ k, k < l.length → ∃ c : UInt8, (c.toNat : Int) ≠ 47 ∧ ∀ w, (Instr.index 9 (.string (bs l)) (.int .i64 (k : Int))).run Tryz.prog w = .ok (.int .u8 (c.toNat : Int)) w) := Lib.hid (fun k hk => ⟨l[k], fun e => h (by
    have e2 : l[k] = 47 := UInt8.toNat_inj.1 (by show _ = 47; omega)
    rw [← e2]; exact List.getElem_mem _), bs_at l k l[k] (List.getElem?_eq_getElem hk)⟩)
  obtain ⟨RS, hRS⟩ : ∃ R, (if v && f then rvB (bs l) ⟨#[49]⟩ else rvB ⟨#[]⟩ ⟨#[]⟩) = R := ⟨_, rfl⟩
  obtain ⟨ER, hER⟩ : ∃ R : Int, (if v && f then 0 else 40) = R := ⟨_, rfl⟩
  rw [hRS, hER]
  have HRS := Lib.hid hRS; have HER := Lib.hid hER
  clear hRS hER
  have HM := Lib.hid (ParM.start w (bs l))
  clear C1 C2 hf ht h
  unfold strOf rvB at *
  generalize bs l = L at *
  obtain ⟨n, hn⟩ : ∃ n, l.length = n := ⟨_, rfl⟩
  rw [hn] at hsz hl HN
  clear hn l
  obtain ⟨W0, hW0⟩ : ∃ W0, (w.alloc (.cells #[.string ⟨#[]⟩, .string ⟨#[]⟩] 23)).alloc (.cells #[.string L, .string ⟨#[49]⟩] 23) = W0 := ⟨_, rfl⟩
  rw [hW0] at HM
  have HW0 := Lib.hid hW0
  clear hW0
  go_enter Tryz.func36, Tryz.ntmps36
  go_upto_region 3 with (fail)
  rw [HW0.out]
  clear HW0
  go_loop [5] (fun i => ∃ k : Nat, k ≤ n ∧ i = .int .i64 (k : Int)) (fun i => n - (intOf i).toNat)
  case atStart => exact ⟨0, Nat.zero_le _, by go_num⟩
  case round =>
    obtain ⟨k, hk, rfl⟩ := hrel
    by_cases hlt : k < n
    · obtain ⟨c, hc, hix⟩ := HN.out k hlt
      have hcb : ((c.toNat : Int) == 47) = false := beq_eq_false_iff_ne.2 hc
      have hks : k < L.size := by omega
      go_wp2_with fail
      go_round
      case rel => exact ⟨k + 1, by omega, by go_num⟩
      case measure => simp [intOf]; omega
    · have hks : ¬ k < L.size := by omega
      obtain ⟨o0, o1, -, -⟩ := rat_facts HM.out.2.2
      cases v with
      | false =>
        go_wp2_with (first | (go_at_call 30; go_loud ((with_reducible refine Calls.mono (VA.out _ (HT.out.next HM.out.base)) ?_); rintro e w2 ⟨rfl, hb⟩; replace HM := Lib.hid (HM.out.below hb); clear hb; clear o0 o1; obtain ⟨o0, o1, -, -⟩ := rat_facts HM.out.2.2; obtain ⟨z0, z1, z2, z3⟩ := rat_facts HM.out.2.1)))
        refine bodyPost_ret (results_rat_tmp rfl _ _ w.heap.size _ _ rfl (rat_row HM.out.2.1)) rfl ?_
        exact ⟨by rw [← HRS.out, ← HER.out]; rfl, (HM.out.base.setCell (by dsimp only; omega) _).setCell (by dsimp only; omega) _⟩
      | true =>
        have PT := Lib.hid (PR.out rfl)
        clear PR
        cases f with
        | false =>
          have hf := HF.out
          go_wp2_with (first | (go_at_call 30; go_loud ((with_reducible refine Calls.mono (VA.out _ (HT.out.next HM.out.base)) ?_); rintro e w2 ⟨rfl, hb⟩; replace HM := Lib.hid (HM.out.below hb); clear hb; clear o0 o1; obtain ⟨o0, o1, -, -⟩ := rat_facts HM.out.2.2; obtain ⟨z0, z1, z2, z3⟩ := rat_facts HM.out.2.1)) | (go_at_call 35; go_loud ((with_reducible refine Calls.mono (PT.out _ (HT.out.next HM.out.base)) ?_); rintro e w3 ⟨rfl, hb⟩; replace HM := Lib.hid (HM.out.below hb); clear hb; clear o0 o1 z0 z1 z2 z3; obtain ⟨o0, o1, -, -⟩ := rat_facts HM.out.2.2; obtain ⟨z0, z1, z2, z3⟩ := rat_facts HM.out.2.1)))
          refine bodyPost_ret (results_rat_tmp rfl _ _ w.heap.size _ _ rfl (rat_row HM.out.2.1)) rfl ?_
          exact ⟨by rw [← HRS.out, ← HER.out]; rfl, (HM.out.base.setCell (by dsimp only; omega) _).setCell (by dsimp only; omega) _⟩
        | true =>
          have hf := HF.out
          go_wp2_with (first | (go_at_call 30; go_loud ((with_reducible refine Calls.mono (VA.out _ (HT.out.next HM.out.base)) ?_); rintro e w2 ⟨rfl, hb⟩; replace HM := Lib.hid (HM.out.below hb); clear hb; clear o0 o1; obtain ⟨o0, o1, -, -⟩ := rat_facts HM.out.2.2; obtain ⟨z0, z1, z2, z3⟩ := rat_facts HM.out.2.1)) | (go_at_call 35; go_loud ((with_reducible refine Calls.mono (PT.out _ (HT.out.next HM.out.base)) ?_); rintro e w3 ⟨rfl, hb⟩; replace HM := Lib.hid (HM.out.below hb); clear hb; clear o0 o1 z0 z1 z2 z3; obtain ⟨o0, o1, -, -⟩ := rat_facts HM.out.2.2; obtain ⟨z0, z1, z2, z3⟩ := rat_facts HM.out.2.1)))
          refine bodyPost_ret (results_rat_tmp rfl _ _ w.heap.size _ _ rfl (rat_row HM.out.2.1)) rfl ?_
          exact ⟨by rw [← HRS.out, ← HER.out]; rfl, (HM.out.base.setCell (by dsimp only; omega) _).setCell (by dsimp only; omega) _⟩
set_option maxRecDepth 100000 in
set_option maxHeartbeats 4000000 in
theorem rparse_slash (A B : List UInt8) (hl : A.length + B.length ≤ 1000000) (h : (47 : UInt8) ∉ A) (v f : Bool) (X : ByteArray) (C1 : CallT 30 #[rvB (bs A) (bs B)] (.bool v)) (C2 : v = true → CallT 35 #[rvB (bs A) (bs B)] (.string X)) (hf : (X.toList == (bs (A ++ 47 :: B)).toList) = f) :
    CallT 36 #[strOf (A ++ 47 :: B)] (.tuple #[if v && f then rvB (bs A) (bs B) else rvB ⟨#[]⟩ ⟨#[]⟩, .int .i64 (if v && f then 0 else 40)]) := fun w ht => by
  have VA := Lib.hid C1; have PR := Lib.hid C2; have HF := Lib.hid hf; have HT := Lib.hid ht
  have hsz : (bs (A ++ 47 :: B)).size = A.length + 1 + B.length := by rw [bs_size, List.length_append, List.length_cons]; omega
  have HN : Hid (∀ k, k < A.length → ∃ c : UInt8, (c.toNat : Int) ≠ 47 ∧ ∀ w, (Instr.index 9 (.string (bs (A ++ 47 :: B))) (.int .i64 (k : Int))).run Tryz.prog w = .ok (.int .u8 (c.toNat : Int)) w) := Lib.hid (fun k hk => ⟨A[k], fun e => h (by
    have e2 : A[k] = 47 := UInt8.toNat_inj.1 (by show _ = 47; omega)
    rw [← e2]; exact List.getElem_mem _), bs_at (A ++ 47 :: B) k A[k] (by rw [List.getElem?_append_left hk]; exact List.getElem?_eq_getElem hk)⟩)
  have HE : Hid (∀ w, (Instr.index 9 (.string (bs (A ++ 47 :: B))) (.int .i64 ((A.length : Nat) : Int))).run Tryz.prog w = .ok (.int .u8 47) w) := Lib.hid (bs_at (A ++ 47 :: B) A.length 47 (by rw [List.getElem?_append_right (Nat.le_refl _), Nat.sub_self]; rfl))
  obtain ⟨n, hn⟩ : ∃ n, A.length = n := ⟨_, rfl⟩
  have hp : (bs (A ++ 47 :: B)).extract 0 n = bs A := by
    rw [ByteArray.ext_iff, ByteArray.data_extract]
    unfold bs
    rw [List.extract_toArray, ← hn]; simp
  have hq : (bs (A ++ 47 :: B)).extract (n + 1) (n + 1 + B.length) = bs B := by
    rw [ByteArray.ext_iff, ByteArray.data_extract]
    unfold bs
    rw [List.extract_toArray, ← hn]
    have e : A ++ 47 :: B = (A ++ [47]) ++ B := by simp
    rw [e]
    simp [List.drop_append, List.drop_eq_nil_of_le]
  rw [hn] at hsz hl HN HE
  obtain ⟨RS, hRS⟩ : ∃ R, (if v && f then rvB (bs A) (bs B) else rvB ⟨#[]⟩ ⟨#[]⟩) = R := ⟨_, rfl⟩
  obtain ⟨ER, hER⟩ : ∃ R : Int, (if v && f then 0 else 40) = R := ⟨_, rfl⟩
  rw [hRS, hER]
  have HRS := Lib.hid hRS; have HER := Lib.hid hER
  have HM := Lib.hid (ParM.start w (bs (A ++ 47 :: B)))
  clear C1 C2 hf ht h hn hRS hER
  unfold strOf rvB at *
  generalize bs (A ++ 47 :: B) = L at *
  have HSL : Hid (∀ w, (Instr.slice 9 (.string L) none (some (.int .i64 (n : Int))) none).run Tryz.prog w = .ok (.string (bs A)) w) := Lib.hid (fun w => by
    rw [run_slice_string_h (P := Tryz.prog) w 9 L Tryz.underlying9 .i64 (n : Int) (by omega) (by omega), Int.toNat_natCast, hp])
  have HSR : Hid (∀ w, (Instr.slice 9 (.string L) (some (.int .i64 ((n : Int) + 1))) none none).run Tryz.prog w = .ok (.string (bs B)) w) := Lib.hid (fun w => by
    rw [run_slice_string_l (P := Tryz.prog) w 9 L Tryz.underlying9 .i64 ((n : Int) + 1) (by omega) (by omega), hsz, show ((n : Int) + 1).toNat = n + 1 from by omega, hq])
  obtain ⟨m, hm⟩ : ∃ m, B.length = m := ⟨_, rfl⟩
  rw [hm] at hsz hl
  clear hp hq hm
  generalize bs A = P at *
  generalize bs B = Q at *
  obtain ⟨W0, hW0⟩ : ∃ W0, (w.alloc (.cells #[.string ⟨#[]⟩, .string ⟨#[]⟩] 23)).alloc (.cells #[.string L, .string ⟨#[49]⟩] 23) = W0 := ⟨_, rfl⟩
  rw [hW0] at HM
  have HW0 := Lib.hid hW0
  clear hW0
  go_enter Tryz.func36, Tryz.ntmps36
  go_upto_region 3 with (fail)
  rw [HW0.out]
  clear HW0
  go_loop [5] (fun i => ∃ k : Nat, k ≤ n ∧ i = .int .i64 (k : Int)) (fun i => n - (intOf i).toNat)
  case atStart => exact ⟨0, Nat.zero_le _, by go_num⟩
  case round =>
    obtain ⟨k, hk, rfl⟩ := hrel
    by_cases hlt : k < n
    · obtain ⟨c, hc, hix⟩ := HN.out k hlt
      have hcb : ((c.toNat : Int) == 47) = false := beq_eq_false_iff_ne.2 hc
      have hks : k < L.size := by omega
      go_wp2_with fail
      go_round
      case rel => exact ⟨k + 1, by omega, by go_num⟩
      case measure => simp [intOf]; omega
    · obtain rfl : n = k := by omega
      have hks : n < L.size := by omega
      have hix := HE.out
      have hsl := HSL.out
      have hsr := HSR.out
      have i0 : (0 : Int) ≤ (n : Int) := by omega
      have s1 : IntKind.i64.wrap ((n : Int) + 1) = (n : Int) + 1 := IntWalk.i64_in _ (by omega)
      go_upto_region 6 with (fail)
      clear hix hks hlt
      obtain ⟨o0, o1, f0, f1⟩ := rat_facts HM.out.2.2
      have HMX : Hid (ParM w ((W0.setCell ⟨w.heap.size + 1, 0, none⟩ (.string P)).setCell ⟨w.heap.size + 1, 1, none⟩ (.string Q)).drew P Q) := Lib.hid HM.out.put.drew
      clear HM HE HN HSL HSR
      go_still_tail 8, (by kernel_rfl)
      clear hsl hsr i0 s1
      cases v with
      | false =>
        go_wp2_with (first | (go_at_call 30; go_loud ((with_reducible refine Calls.mono (VA.out _ (HT.out.next HMX.out.base)) ?_); rintro e w2 ⟨rfl, hb⟩; have HM := Lib.hid (HMX.out.below hb); clear hb; clear o0 o1 f0 f1; obtain ⟨o0, o1, -, -⟩ := rat_facts HM.out.2.2; obtain ⟨z0, z1, z2, z3⟩ := rat_facts HM.out.2.1)))
        refine bodyPost_ret (results_rat_tmp rfl _ _ w.heap.size _ _ rfl (rat_row HM.out.2.1)) rfl ?_
        exact ⟨by rw [← HRS.out, ← HER.out]; rfl, (HM.out.base.setCell (by dsimp only; omega) _).setCell (by dsimp only; omega) _⟩
      | true =>
        have PT := Lib.hid (PR.out rfl)
        clear PR
        cases f with
        | false =>
          have hf := HF.out
          go_wp2_with (first | (go_at_call 30; go_loud ((with_reducible refine Calls.mono (VA.out _ (HT.out.next HMX.out.base)) ?_); rintro e w2 ⟨rfl, hb⟩; have HM := Lib.hid (HMX.out.below hb); clear hb; clear o0 o1 f0 f1; obtain ⟨o0, o1, -, -⟩ := rat_facts HM.out.2.2; obtain ⟨z0, z1, z2, z3⟩ := rat_facts HM.out.2.1)) | (go_at_call 35; go_loud ((with_reducible refine Calls.mono (PT.out _ (HT.out.next HM.out.base)) ?_); rintro e w3 ⟨rfl, hb⟩; replace HM := Lib.hid (HM.out.below hb); clear hb; clear o0 o1 z0 z1 z2 z3; obtain ⟨o0, o1, -, -⟩ := rat_facts HM.out.2.2; obtain ⟨z0, z1, z2, z3⟩ := rat_facts HM.out.2.1)))
          refine bodyPost_ret (results_rat_tmp rfl _ _ w.heap.size _ _ rfl (rat_row HM.out.2.1)) rfl ?_
          exact ⟨by rw [← HRS.out, ← HER.out]; rfl, (HM.out.base.setCell (by dsimp only; omega) _).setCell (by dsimp only; omega) _⟩
        | true =>
          have hf := HF.out
          go_wp2_with (first | (go_at_call 30; go_loud ((with_reducible refine Calls.mono (VA.out _ (HT.out.next HMX.out.base)) ?_); rintro e w2 ⟨rfl, hb⟩; have HM := Lib.hid (HMX.out.below hb); clear hb; clear o0 o1 f0 f1; obtain ⟨o0, o1, -, -⟩ := rat_facts HM.out.2.2; obtain ⟨z0, z1, z2, z3⟩ := rat_facts HM.out.2.1)) | (go_at_call 35; go_loud ((with_reducible refine Calls.mono (PT.out _ (HT.out.next HM.out.base)) ?_); rintro e w3 ⟨rfl, hb⟩; replace HM := Lib.hid (HM.out.below hb); clear hb; clear o0 o1 z0 z1 z2 z3; obtain ⟨o0, o1, -, -⟩ := rat_facts HM.out.2.2; obtain ⟨z0, z1, z2, z3⟩ := rat_facts HM.out.2.1)))
          refine bodyPost_ret (results_rat_tmp rfl _ _ w.heap.size _ _ rfl (rat_row HM.out.2.1)) rfl ?_
          exact ⟨by rw [← HRS.out, ← HER.out]; rfl, (HM.out.base.setCell (by dsimp only; omega) _).setCell (by dsimp only; omega) _⟩
/-- Parse's two ways, as the reference goes them. -/
theorem rparse_q (q : Rat) (h : okq q = true) : CallT 36 #[strOf (qtxt q)] (.tuple #[qv q, .int .i64 0]) := by
  obtain ⟨q1, q2⟩ := okq_iff.1 h
  have n1 := itoa_len q1
  have n2 := itoa_len q2
  have V := rvalid4_c (Lib.itoa q.num) (Lib.itoa ((q.den : Nat) : Int)) (by omega) (by omega)
  rw [vldR_q h] at V
  have P := rprint_q q h
  by_cases hd : q.den = 1
  · have e1 : qtxt q = Lib.itoa q.num := if_pos hd
    have e2 : bs (Lib.itoa ((q.den : Nat) : Int)) = ⟨#[49]⟩ := by rw [hd, show Lib.itoa ((1 : Nat) : Int) = [49] from by decide +kernel]; rfl
    rw [e1] at P ⊢
    have hv : qv q = rvB (bs (Lib.itoa q.num)) ⟨#[49]⟩ := by unfold qv rv strOf rvB; rw [e2]
    have V' : CallT 30 #[rvB (bs (Lib.itoa q.num)) ⟨#[49]⟩] (.bool true) := by rw [← hv]; exact V
    rw [hv] at P ⊢
    exact rparse_plain (Lib.itoa q.num) (by omega) (no47 _) true true _ V' (fun _ => P) (by exact beq_self_eq_true _)
  · have e1 : qtxt q = Lib.itoa q.num ++ 47 :: Lib.itoa ((q.den : Nat) : Int) := if_neg hd
    rw [e1] at P ⊢
    exact rparse_slash _ _ (by omega) (no47 _) true true _ V (fun _ => P) (by exact beq_self_eq_true _)
theorem rparse_no (l : List UInt8) (hl : l.length ≤ 1000000) (h : ∀ q : Rat, okq q = true → l ≠ qtxt q) : CallT 36 #[strOf l] (.tuple #[rvB ⟨#[]⟩ ⟨#[]⟩, .int .i64 40]) := by
  have hne : ∀ q : Rat, okq q = true → ((bs (qtxt q)).toList == (bs l).toList) = false := fun q hq => by
    rw [bs_eqb]
    exact beq_eq_false_iff_ne.2 (fun e => h q hq e.symm)
  rcases cut_ways 47 l with hc | ⟨A, B, hc, rfl⟩
  · have V := rvalid4_c l [49] hl (by decide)
    cases hv : vldR l [49] with
    | false =>
      rw [hv] at V
      exact rparse_plain l hl hc false _ ⟨#[0]⟩ V (fun e => by cases e) rfl
    | true =>
      rw [hv] at V
      obtain ⟨q, hq, e1, e2⟩ := vldR_of hv
      have P := rprint_q q hq
      unfold qv at P
      rw [← e1, ← e2] at P
      exact rparse_plain l hl hc true false _ V (fun _ => P) (hne q hq)
  · have hl2 : A.length + B.length ≤ 1000000 := by rw [List.length_append, List.length_cons] at hl; omega
    have V := rvalid4_c A B (by omega) (by omega)
    cases hv : vldR A B with
    | false =>
      rw [hv] at V
      exact rparse_slash A B hl2 hc false _ ⟨#[0]⟩ V (fun e => by cases e) rfl
    | true =>
      rw [hv] at V
      obtain ⟨q, hq, e1, e2⟩ := vldR_of hv
      have P := rprint_q q hq
      unfold qv at P
      rw [← e1, ← e2] at P
      exact rparse_slash A B hl2 hc true false _ V (fun _ => P) (hne q hq)
end Go.Proofs.YtabkodpjhpjgnaaGreatDoor
