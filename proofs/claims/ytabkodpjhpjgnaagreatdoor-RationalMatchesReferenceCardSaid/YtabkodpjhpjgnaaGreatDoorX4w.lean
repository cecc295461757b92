/- The walk of RationalField: what its results are. -/
import Derived.Test.YtabkodpjhpjgnaaGreatDoorX4
import Derived.Test.YtabkodpjhpjgnaaGreatDoorX1
namespace Go.Proofs.YtabkodpjhpjgnaaGreatDoor
open Go.RowKit Go.Shelf

theorem OutQ.ok {f : Bool} {y : Value} {s t : ByteArray} {er : Int} (h : OutQ f y s t er) (he : er = 0) : f = true ∧ rvB s t = y := by
  rcases h with ⟨h1, h2, -⟩ | ⟨-, -, -, h4⟩
  · exact ⟨h1, h2⟩
  · rw [h4] at he; exact absurd he (by decide)
theorem OutQ.same {f : Bool} {y : Value} {s t s' t' : ByteArray} {er er' : Int} (h : OutQ f y s t er) (h' : OutQ f y s' t' er') : s' = s ∧ t' = t ∧ er' = er := by
  rcases h with ⟨h1, h2, h3⟩ | ⟨h1, h2, h3, h4⟩ <;> rcases h' with ⟨k1, k2, k3⟩ | ⟨k1, k2, k3, k4⟩
  · obtain ⟨a, b⟩ := rvB_inj (k2.trans h2.symm); exact ⟨a, b, k3.trans h3.symm⟩
  · rw [h1] at k1; cases k1
  · rw [h1] at k1; cases k1
  · exact ⟨k2.trans h2.symm, k3.trans h3.symm, k4.trans h4.symm⟩
/-- An operation at what came out of others. -/
theorem op_flagged (F : Nat) (opF : Rat → Rat → Bool) (op : Rat → Rat → Rat)
    (hq : ∀ p q : Rat, okq p = true → okq q = true → ∃ (s t : ByteArray) (er : Int), OutQ (opF p q) (qv (op p q)) s t er ∧ CallT F #[qv p, qv q] (.tuple #[rvB s t, .int .i64 er]))
    (hno : ∀ (a1 a2 b1 b2 : List UInt8), (vldR a1 a2 && vldR b1 b2) = false → ∀ u, TabP u → Calls Tryz.prog F #[rv a1 a2, rv b1 b2] u (BuildP false (qv 0) u))
    (f g : Bool) (x y : Rat) (s t s' t' : ByteArray) (e e' : Int) (h : OutQ f (qv x) s t e) (h' : OutQ g (qv y) s' t' e') (hx : f = true → okq x = true) (hy : g = true → okq y = true) :
    ∃ (S T : ByteArray) (er : Int), CallT F #[rvB s t, rvB s' t'] (.tuple #[rvB S T, .int .i64 er]) ∧ (f = true → g = true → OutQ (opF x y) (qv (op x y)) S T er) := by
  have hE : rvB ⟨#[]⟩ ⟨#[]⟩ = rv [] [] := rfl
  rcases h with ⟨h1, h2, -⟩ | ⟨h1, rfl, rfl, -⟩
  · rcases h' with ⟨k1, k2, -⟩ | ⟨k1, rfl, rfl, -⟩
    · obtain ⟨S, T, er, ho, hc⟩ := hq x y (hx h1) (hy k1)
      exact ⟨S, T, er, by rw [h2, k2]; exact hc, fun _ _ => ho⟩
    · refine ⟨_, _, _, failed F _ (qv 0) ?_, fun _ h => by rw [k1] at h; cases h⟩
      rw [h2, hE]
      exact hno _ _ _ _ (by rw [vldR_nil, Bool.and_false])
  · refine ⟨_, _, _, failed F _ (qv 0) ?_, fun h _ => by rw [h1] at h; cases h⟩
    rw [hE, show rvB s' t' = rv s'.data.toList t'.data.toList from rfl]
    exact hno _ _ _ _ (by rw [vldR_nil, Bool.false_and])
theorem addF_comm (p q : Rat) : addF p q = addF q p := by
  unfold addF
  rw [Int.mul_comm ((q.den : Nat) : Int) ((p.den : Nat) : Int), Int.add_comm (q.num * p.den) (p.num * q.den)]
  generalize okz (p.num * q.den) = b1
  generalize okz (q.num * p.den) = b2
  generalize okz ((p.den : Int) * q.den) = b3
  generalize okz (p.num * q.den + q.num * p.den) = b4
  cases b1 <;> cases b2 <;> cases b3 <;> cases b4 <;> rfl
theorem mulF_comm (p q : Rat) : mulF p q = mulF q p := by
  unfold mulF
  rw [Int.mul_comm q.num p.num, Int.mul_comm ((q.den : Nat) : Int) ((p.den : Nat) : Int)]
theorem BQ.mono {j k : Nat} {q : Rat} (h : BQ j q) (hk : j ≤ k) : BQ k q := ⟨Nat.lt_of_lt_of_le h.1 (Nat.pow_le_pow_right (by decide) hk), Nat.lt_of_lt_of_le h.2 (Nat.pow_le_pow_right (by decide) hk)⟩
theorem BQ.den {k : Nat} {q : Rat} (h : BQ k q) : ((q.den : Nat) : Int).natAbs < 10 ^ k := by rw [Int.natAbs_natCast]; exact h.2
theorem small_fits {p q : Rat} (hp : BQ 3 p) (hq : BQ 3 q) : addF p q = true ∧ mulF p q = true := by
  have k1 := mulB hp.1 hq.den
  have k2 := mulB hq.1 hp.den
  have k3 := mulB hp.den hq.den
  have k4 := mulB hp.1 hq.1
  have k5 : (p.num * ((q.den : Nat) : Int) + q.num * ((p.den : Nat) : Int)).natAbs < 10 ^ 7 := by
    have h10 : (10 : Nat) ^ (3 + 3) + 10 ^ (3 + 3) < 10 ^ 7 := by decide +kernel
    omega
  unfold addF mulF
  rw [okB k1 (by decide), okB k2 (by decide), okB k3 (by decide), okB k4 (by decide), okB k5 (by decide)]
  exact ⟨rfl, rfl⟩
set_option maxRecDepth 100000 in
theorem field_of (a0 a1 a2 a3 b0 b1 b2 b3 c0 c1 : Int) (long : Bool) (A0 A1 B0 B1 U0 U1 V0 V1 : ByteArray) (a b c : Rat) (ha : okq a = true) (hb : okq b = true) (hc : okq c = true)
    (KA : CallT 14 #[.agg #[.int .i64 a0, .int .i64 a1]] (rvB A0 A1)) (KB : CallT 14 #[.agg #[.int .i64 b0, .int .i64 b1]] (rvB B0 B1)) (KC : CallT 14 #[.agg #[.int .i64 c0, .int .i64 c1]] (qv c))
    (LA : CallT 13 #[.agg #[.int .i64 a0, .int .i64 a1, .int .i64 a2, .int .i64 a3]] (rvB U0 U1)) (LB : CallT 13 #[.agg #[.int .i64 b0, .int .i64 b1, .int .i64 b2, .int .i64 b3]] (rvB V0 V1))
    (hl : long = true → qv a = rvB U0 U1 ∧ qv b = rvB V0 V1) (hs : long = false → qv a = rvB A0 A1 ∧ qv b = rvB B0 B1 ∧ addF a b = true ∧ mulF a b = true) (w : World) (ht : TabP w) :
    Calls Tryz.prog 6 #[.agg #[.int .i64 a0, .int .i64 a1, .int .i64 a2, .int .i64 a3], .agg #[.int .i64 b0, .int .i64 b1, .int .i64 b2, .int .i64 b3], .agg #[.int .i64 c0, .int .i64 c1], .bool long] w fun e w' => e = .returned (.bool true) ∧ Below w.heap.size w w' := by
  have oa : OutQ true (qv a) (bs (Lib.itoa a.num)) (bs (Lib.itoa ((a.den : Nat) : Int))) 0 := .inl ⟨rfl, rfl, rfl⟩
  have ob : OutQ true (qv b) (bs (Lib.itoa b.num)) (bs (Lib.itoa ((b.den : Nat) : Int))) 0 := .inl ⟨rfl, rfl, rfl⟩
  have oc : OutQ true (qv c) (bs (Lib.itoa c.num)) (bs (Lib.itoa ((c.den : Nat) : Int))) 0 := .inl ⟨rfl, rfl, rfl⟩
  have adf := op_flagged 38 addF (· + ·) add_out (fun a1 a2 b1 b2 h u hu => add_no a1 a2 b1 b2 h 0 u hu)
  have suf := op_flagged 40 subF (· - ·) sub_out (fun a1 a2 b1 b2 h u hu => sub_no a1 a2 b1 b2 h 0 u hu)
  have muf := op_flagged 39 mulF (· * ·) mul_out (fun a1 a2 b1 b2 h u hu => mul_no a1 a2 b1 b2 h 0 u hu)
  have dif := op_flagged 45 divF (· / ·) div_out (fun a1 a2 b1 b2 h u hu => div_no a1 a2 b1 b2 h 0 u hu)
  obtain ⟨S0, T0, e0, o0, C0⟩ := add_out a b ha hb
  obtain ⟨S1, T1, e1, o1, C1⟩ := sub_out a b ha hb
  obtain ⟨S2, T2, e2, o2, C2⟩ := mul_out a b ha hb
  obtain ⟨S3, T3, e3, o3, C3⟩ := div_out a b ha hb
  obtain ⟨S0', T0', e0', p0, D0⟩ := add_out b a hb ha
  obtain ⟨S9, T9, e9, p1, D1⟩ := sub_out b a hb ha
  obtain ⟨S2', T2', e2', p2, D2⟩ := mul_out b a hb ha
  obtain ⟨S8, T8, e8, p3, D3⟩ := div_out b a hb ha
  rw [addF_comm b a, Rat.add_comm b a] at p0
  rw [mulF_comm b a, Rat.mul_comm b a] at p2
  obtain ⟨rfl, rfl, rfl⟩ := o0.same p0
  obtain ⟨rfl, rfl, rfl⟩ := o2.same p2
  obtain ⟨P0, PD0, g0, q0, G0⟩ := add_out b c hb hc
  obtain ⟨P1, PD1, g1, q1, G1⟩ := sub_out b c hb hc
  obtain ⟨P2, PD2, g2, q2, G2⟩ := mul_out b c hb hc
  obtain ⟨P3, PD3, g3, q3, G3⟩ := div_out b c hb hc
  obtain ⟨H0, J0, h0, X0, r0⟩ := adf _ _ _ _ _ _ _ _ _ _ o0 oc okq_add (fun _ => hc)
  obtain ⟨H1, J1, h1, X1, -⟩ := suf _ _ _ _ _ _ _ _ _ _ o0 oc okq_add (fun _ => hc)
  obtain ⟨H2, J2, h2, X2, r2⟩ := muf _ _ _ _ _ _ _ _ _ _ o0 oc okq_add (fun _ => hc)
  obtain ⟨H3, J3, h3, X3, -⟩ := dif _ _ _ _ _ _ _ _ _ _ o0 oc okq_add (fun _ => hc)
  obtain ⟨O1s, O2s, i1, Y0, s0⟩ := adf _ _ _ _ _ _ _ _ _ _ oa q0 (fun _ => ha) okq_add
  obtain ⟨W1s, W2s, j1, Y1, s1⟩ := muf _ _ _ _ _ _ _ _ _ _ oa q2 (fun _ => ha) okq_mul
  obtain ⟨L1s, L2s, k1, Y2, s2⟩ := muf _ _ _ _ _ _ _ _ _ _ o2 oc okq_mul (fun _ => hc)
  obtain ⟨A1s, A2s, l1, s3, Y3⟩ := mul_out a c ha hc
  obtain ⟨M1s, M2s, m1, Y4, s4⟩ := adf _ _ _ _ _ _ _ _ _ _ s3 q2 okq_mul okq_mul
  obtain ⟨K1s, K2s, ob1, Y5, s5⟩ := suf _ _ _ _ _ _ _ _ _ _ o0 ob okq_add (fun _ => hb)
  obtain ⟨N1s, N2s, pa1, Y6, s6⟩ := muf _ _ _ _ _ _ _ _ _ _ o3 ob okq_div (fun _ => hb)
  have hinj : ∀ {u v u' v' : ByteArray} {y : Value}, rvB u v = y → rvB u' v' = y → u = u' ∧ v = v' := fun h h' => rvB_inj (h.trans h'.symm)
  have F1 := four_c _ _ _ _ _ _ _ _ _ _ _ _ _ _ _ _ C0 C1 C2 C3
  have F2 := four_c _ _ _ _ _ _ _ _ _ _ _ _ _ _ _ _ D0 D1 D2 D3
  have F3 := four_c _ _ _ _ _ _ _ _ _ _ _ _ _ _ _ _ G0 G1 G2 G3
  have F4 := four_c _ _ _ _ _ _ _ _ _ _ _ _ _ _ _ _ X0 X1 X2 X3
  exact field_core a0 a1 a2 a3 b0 b1 b2 b3 c0 c1 long A0 A1 B0 B1 _ _ _ _ _ _ U0 U1 V0 V1 _ _ _ _ _ _ _ _ _ _ _ _ _ _ _ _ _ _ _ _ _ _ _ _ _ _ _ _ _ _ _ _ _ _ _ _ _ _ _ _ _ _ _ _ _ _ _ _ _ _ _ _ _ _ _ _ _ _ _ _ _ _ _ KA KB KC LA LB F1 F2 F3 F4 Y0 Y1 Y2 Y3 Y4 X2 Y5 Y6
    (fun h => by
      obtain ⟨-, -, f1, f2⟩ := hs h
      exact ⟨(o0.yes f1).2, (o2.yes f2).2⟩)
    (fun h1 h2 h3 h4 => by
      have z1 := (o0.ok h1).1
      have z2 := (q0.ok h2).1
      have z3 := ((r0 z1 rfl).ok h3).2
      have z4 := ((s0 rfl z2).ok h4).2
      rw [← Rat.add_assoc] at z4
      exact hinj z4 z3)
    (fun h1 h2 h3 h4 => by
      have z1 := (o2.ok h1).1
      have z2 := (q2.ok h2).1
      have z3 := ((s1 rfl z2).ok h3).2
      have z4 := ((s2 z1 rfl).ok h4).2
      rw [← Rat.mul_assoc] at z3
      exact hinj z3 z4)
    (fun h1 h2 h3 h4 h5 => by
      have z1 := (o0.ok h1).1
      have z2 := (s3.ok h2).1
      have z3 := (q2.ok h3).1
      have z4 := ((s4 z2 z3).ok h4).2
      have z5 := ((r2 z1 rfl).ok h5).2
      rw [Rat.add_mul] at z5
      exact hinj z4 z5)
    (fun h1 h2 => by
      have z1 := (o0.ok h1).1
      have z2 := ((s5 z1 rfl).ok h2).2
      rw [Rat.add_sub_cancel] at z2
      exact hinj z2 rfl)
    (fun h1 h2 => by
      have z1 := (o3.ok h1).1
      have z2 := ((s6 z1 rfl).ok h2).2
      have hb0 : b ≠ 0 := fun e => by
        unfold divF at z1
        rw [decide_eq_true e, Bool.not_true, Bool.and_false] at z1; cases z1
      rw [Rat.div_mul_cancel hb0] at z2
      exact hinj z2 rfl)
    (fun h => by
      obtain ⟨f1, f2⟩ := hl h
      exact ⟨(rvB_inj f1).1, (rvB_inj f1).2, (rvB_inj f2).1, (rvB_inj f2).2⟩)
    (fun h => by
      obtain ⟨f1, f2, -, -⟩ := hs h
      exact ⟨(rvB_inj f1).1, (rvB_inj f1).2, (rvB_inj f2).1, (rvB_inj f2).2⟩) w ht
theorem field_walk (a0 a1 a2 a3 b0 b1 b2 b3 c0 c1 : Int) (long : Bool) (ba0 : -9223372036854775808 ≤ a0 ∧ a0 ≤ 9223372036854775807) (ba1 : -9223372036854775808 ≤ a1 ∧ a1 ≤ 9223372036854775807) (ba2 : -9223372036854775808 ≤ a2 ∧ a2 ≤ 9223372036854775807) (ba3 : -9223372036854775808 ≤ a3 ∧ a3 ≤ 9223372036854775807)
    (bb0 : -9223372036854775808 ≤ b0 ∧ b0 ≤ 9223372036854775807) (bb1 : -9223372036854775808 ≤ b1 ∧ b1 ≤ 9223372036854775807) (bb2 : -9223372036854775808 ≤ b2 ∧ b2 ≤ 9223372036854775807) (bb3 : -9223372036854775808 ≤ b3 ∧ b3 ≤ 9223372036854775807)
    (bc0 : -9223372036854775808 ≤ c0 ∧ c0 ≤ 9223372036854775807) (bc1 : -9223372036854775808 ≤ c1 ∧ c1 ≤ 9223372036854775807) (w : World) (ht : TabP w) :
    Calls Tryz.prog 6 #[.agg #[.int .i64 a0, .int .i64 a1, .int .i64 a2, .int .i64 a3], .agg #[.int .i64 b0, .int .i64 b1, .int .i64 b2, .int .i64 b3], .agg #[.int .i64 c0, .int .i64 c1], .bool long] w fun e w' => e = .returned (.bool true) ∧ Below w.heap.size w w' := by
  have KA := small_any a0 a1 ba0.1 ba0.2 ba1.1 ba1.2
  have KB := small_any b0 b1 bb0.1 bb0.2 bb1.1 bb1.2
  have KC := small_any c0 c1 bc0.1 bc0.2 bc1.1 bc1.2
  have LA := long_c a0 a1 a2 a3 ba0 ba1 ba2 ba3
  have LB := long_c b0 b1 b2 b3 bb0 bb1 bb2 bb3
  have sa := smallQ_B a0 a1
  have sb := smallQ_B b0 b1
  have sc := smallQ_B c0 c1
  have la := longQ_B a0 a1 a2 a3
  have lb := longQ_B b0 b1 b2 b3
  cases long with
  | false => exact field_of a0 a1 a2 a3 b0 b1 b2 b3 c0 c1 false _ _ _ _ _ _ _ _ _ _ _ (sa.ok (by decide)) (sb.ok (by decide)) (sc.ok (by decide)) KA KB KC LA LB (fun h => by cases h) (fun _ => ⟨rfl, rfl, small_fits sa sb⟩) w ht
  | true => exact field_of a0 a1 a2 a3 b0 b1 b2 b3 c0 c1 true _ _ _ _ _ _ _ _ _ _ _ (la.ok (by decide)) (lb.ok (by decide)) (sc.ok (by decide)) KA KB KC LA LB (fun _ => ⟨rfl, rfl⟩) (fun h => by cases h) w ht
end Go.Proofs.YtabkodpjhpjgnaaGreatDoor
