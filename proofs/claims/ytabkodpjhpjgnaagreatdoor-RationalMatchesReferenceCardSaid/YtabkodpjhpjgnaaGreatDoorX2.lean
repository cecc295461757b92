/- The walk of RationalOrder. -/
import Derived.Test.YtabkodpjhpjgnaaGreatDoorX1
import Derived.Deep.DeepCutAuto
namespace Go.Proofs.YtabkodpjhpjgnaaGreatDoor
open Go.RowKit Go.Shelf

theorem okq_add {p q : Rat} (h : addF p q = true) : okq (p + q) = true := by
  unfold addF at h
  simp only [Bool.and_eq_true] at h
  rw [← Qm.add_eq]
  exact red_ok h.2.2 h.1.2 (nz_mul p q)
theorem okq_sub {p q : Rat} (h : subF p q = true) : okq (p - q) = true := by
  unfold subF at h
  simp only [Bool.and_eq_true] at h
  rw [← Qm.sub_eq]
  exact red_ok h.2.2 h.1.2 (nz_mul p q)
theorem okq_mul {p q : Rat} (h : mulF p q = true) : okq (p * q) = true := by
  unfold mulF at h
  simp only [Bool.and_eq_true] at h
  rw [← Qm.mul_eq]
  exact red_ok h.1 h.2 (nz_mul p q)
theorem okq_div {p q : Rat} (h : divF p q = true) : okq (p / q) = true := by
  unfold divF at h
  simp only [Bool.and_eq_true, Bool.not_eq_true', decide_eq_false_iff_not] at h
  rw [← Qm.div_eq]
  exact red_ok h.1.1 h.1.2 (Int.mul_ne_zero (Qm.den_ne p) (fun e => h.2 (Qm.num_zero.1 e)))
theorem ok_zero : okq (0 : Rat) = true := by decide +kernel
theorem ok_one : okq (1 : Rat) = true := by decide +kernel
/-- An operation at fractions: what it returns, and the facts of it. -/
theorem add_out (p q : Rat) (hp : okq p = true) (hq : okq q = true) : ∃ (s t : ByteArray) (er : Int), OutQ (addF p q) (qv (p + q)) s t er ∧ CallT 38 #[qv p, qv q] (.tuple #[rvB s t, .int .i64 er]) := out_fix 38 #[qv p, qv q] (addF p q) (p + q) (fun u hu => add_q p q hp hq u hu)
theorem sub_out (p q : Rat) (hp : okq p = true) (hq : okq q = true) : ∃ (s t : ByteArray) (er : Int), OutQ (subF p q) (qv (p - q)) s t er ∧ CallT 40 #[qv p, qv q] (.tuple #[rvB s t, .int .i64 er]) := out_fix 40 #[qv p, qv q] (subF p q) (p - q) (fun u hu => sub_q p q hp hq u hu)
theorem mul_out (p q : Rat) (hp : okq p = true) (hq : okq q = true) : ∃ (s t : ByteArray) (er : Int), OutQ (mulF p q) (qv (p * q)) s t er ∧ CallT 39 #[qv p, qv q] (.tuple #[rvB s t, .int .i64 er]) := out_fix 39 #[qv p, qv q] (mulF p q) (p * q) (fun u hu => mul_q p q hp hq u hu)
theorem div_out (p q : Rat) (hp : okq p = true) (hq : okq q = true) : ∃ (s t : ByteArray) (er : Int), OutQ (divF p q) (qv (p / q)) s t er ∧ CallT 45 #[qv p, qv q] (.tuple #[rvB s t, .int .i64 er]) := out_fix 45 #[qv p, qv q] (divF p q) (p / q) (fun u hu => div_q p q hp hq u hu)
theorem OutQ.yes {f : Bool} {q : Rat} {s t : ByteArray} {er : Int} (h : OutQ f (qv q) s t er) (hf : f = true) : rvB s t = qv q ∧ er = 0 := by
  rcases h with ⟨-, h1, h2⟩ | ⟨h1, -⟩
  · exact ⟨h1, h2⟩
  · rw [hf] at h1; cases h1
theorem OutQ.no {f : Bool} {q : Rat} {s t : ByteArray} {er : Int} (h : OutQ f (qv q) s t er) (hf : f = false) : s = ⟨#[]⟩ ∧ t = ⟨#[]⟩ ∧ er = 40 := by
  rcases h with ⟨h1, -⟩ | ⟨-, h2⟩
  · rw [hf] at h1; cases h1
  · exact h2
theorem OutQ.err {f : Bool} {q : Rat} {s t : ByteArray} {er : Int} (h : OutQ f (qv q) s t er) : (er == 0) = f ∧ (er != 0) = !f := by
  cases f with
  | true => rw [(h.yes rfl).2]; exact ⟨rfl, rfl⟩
  | false => rw [(h.no rfl).2.2]; exact ⟨rfl, rfl⟩
/-- The strings of two fractions are equal just if the fractions are. -/
theorem rvB_inj {a b c d : ByteArray} (h : rvB a b = rvB c d) : a = c ∧ b = d := by
  unfold rvB at h
  injection h with h
  simpa using h
theorem qv_inj {p q : Rat} (h : qv p = qv q) : p = q := by
  obtain ⟨h1, h2⟩ := rvB_inj h
  exact Qm.qext (Im.itoa_inj ((bs_inj _ _).1 h1)) (Im.itoa_inj ((bs_inj _ _).1 h2))
theorem rat_sub_cmp (a b : Rat) : Qm.qcmp (a - b) 0 = Qm.qcmp a b := by
  rcases Qm.qcmp_cases a b with ⟨h, e⟩ | ⟨h, e⟩ | ⟨h, e⟩
  · rw [e]; refine Qm.qcmp_lt _ _ ?_
    have := (Rat.lt_iff_sub_pos a b).1 h
    have h2 := Rat.neg_lt_neg this
    rw [Rat.neg_sub] at h2
    simpa using h2
  · rw [e]; subst h; rw [Rat.sub_self]; exact Qm.qcmp_self 0
  · rw [e]; exact Qm.qcmp_gt _ _ ((Rat.lt_iff_sub_pos b a).1 h)
theorem rat_add_cmp (a b t : Rat) : Qm.qcmp (a + t) (b + t) = Qm.qcmp a b := by
  rcases Qm.qcmp_cases a b with ⟨h, e⟩ | ⟨h, e⟩ | ⟨h, e⟩
  · rw [e]; exact Qm.qcmp_lt _ _ (Rat.add_lt_add_right.2 h)
  · rw [e]; subst h; exact Qm.qcmp_self _
  · rw [e]; exact Qm.qcmp_gt _ _ (Rat.add_lt_add_right.2 h)
theorem rat_mul_cmp (a b t : Rat) : Qm.qcmp (a * t) (b * t) = Qm.qcmp a b * Qm.qcmp t 0 := by
  rcases Qm.qcmp_cases t 0 with ⟨ht, et⟩ | ⟨ht, et⟩ | ⟨ht, et⟩
  · rw [et]
    obtain ⟨n, rfl⟩ : ∃ n, t = -n := ⟨-t, (Rat.neg_neg t).symm⟩
    have hn : 0 < n := by have := Rat.neg_lt_neg ht; rw [Rat.neg_neg] at this; simpa using this
    rw [Rat.mul_neg, Rat.mul_neg]
    rcases Qm.qcmp_cases a b with ⟨h, e⟩ | ⟨h, e⟩ | ⟨h, e⟩
    · rw [e]; exact Qm.qcmp_gt _ _ (Rat.neg_lt_neg (Rat.mul_lt_mul_of_pos_right h hn))
    · rw [e]; subst h; rw [Int.zero_mul]; exact Qm.qcmp_self _
    · rw [e]; exact Qm.qcmp_lt _ _ (Rat.neg_lt_neg (Rat.mul_lt_mul_of_pos_right h hn))
  · rw [et]; subst ht; rw [Rat.mul_zero, Rat.mul_zero, Int.mul_zero]; exact Qm.qcmp_self 0
  · rw [et, Int.mul_one]
    rcases Qm.qcmp_cases a b with ⟨h, e⟩ | ⟨h, e⟩ | ⟨h, e⟩
    · rw [e]; exact Qm.qcmp_lt _ _ (Rat.mul_lt_mul_of_pos_right h ht)
    · rw [e]; subst h; exact Qm.qcmp_self _
    · rw [e]; exact Qm.qcmp_gt _ _ (Rat.mul_lt_mul_of_pos_right h ht)
theorem Bxs.over {u : World} {l l' : List (Nat × ByteArray × ByteArray)} {g : Nat} {x y : Value} {S T : ByteArray} (h : Bxs u l) (hr : Row u g 23 #[x, y]) (hs : ∀ x, x ∈ l' → x ∈ l ∧ x.1 ≠ g) : Bxs ((u.setCell ⟨g, 0, none⟩ (.string S)).setCell ⟨g, 1, none⟩ (.string T)) ((g, S, T) :: l') := fun z hz => by
  rcases List.mem_cons.1 hz with rfl | hz
  · exact rat_row hr
  · exact ((h z (hs z hz).1).far (by dsimp only; exact (hs z hz).2) _).far (by dsimp only; exact (hs z hz).2) _

set_option maxRecDepth 100000 in
set_option maxHeartbeats 8000000 in
theorem order_walk (x0 x1 x2 x3 y0 y1 y2 y3 z0 z1 z2 z3 s0 s1 : Int) (bx0 : -9223372036854775808 ≤ x0 ∧ x0 ≤ 9223372036854775807) (bx1 : -9223372036854775808 ≤ x1 ∧ x1 ≤ 9223372036854775807) (bx2 : -9223372036854775808 ≤ x2 ∧ x2 ≤ 9223372036854775807) (bx3 : -9223372036854775808 ≤ x3 ∧ x3 ≤ 9223372036854775807) (by0 : -9223372036854775808 ≤ y0 ∧ y0 ≤ 9223372036854775807) (by1 : -9223372036854775808 ≤ y1 ∧ y1 ≤ 9223372036854775807) (by2 : -9223372036854775808 ≤ y2 ∧ y2 ≤ 9223372036854775807) (by3 : -9223372036854775808 ≤ y3 ∧ y3 ≤ 9223372036854775807) (bz0 : -9223372036854775808 ≤ z0 ∧ z0 ≤ 9223372036854775807) (bz1 : -9223372036854775808 ≤ z1 ∧ z1 ≤ 9223372036854775807) (bz2 : -9223372036854775808 ≤ z2 ∧ z2 ≤ 9223372036854775807) (bz3 : -9223372036854775808 ≤ z3 ∧ z3 ≤ 9223372036854775807) (bs0 : -9223372036854775808 ≤ s0 ∧ s0 ≤ 9223372036854775807) (bs1 : -9223372036854775808 ≤ s1 ∧ s1 ≤ 9223372036854775807) (w : World) (ht : TabP w) :
    Calls Tryz.prog 7 #[.agg #[.int .i64 x0, .int .i64 x1, .int .i64 x2, .int .i64 x3], .agg #[.int .i64 y0, .int .i64 y1, .int .i64 y2, .int .i64 y3], .agg #[.int .i64 z0, .int .i64 z1, .int .i64 z2, .int .i64 z3], .agg #[.int .i64 s0, .int .i64 s1]] w fun e w' => e = .returned (.bool true) ∧ Below w.heap.size w w' := by
  have L1 := Lib.hid (long_c x0 x1 x2 x3 bx0 bx1 bx2 bx3)
  have L2 := Lib.hid (long_c y0 y1 y2 y3 by0 by1 by2 by3)
  have L3 := Lib.hid (long_c z0 z1 z2 z3 bz0 bz1 bz2 bz3)
  have L4 := Lib.hid (small_any s0 s1 bs0.1 bs0.2 bs1.1 bs1.2)
  have ha := (longQ_B x0 x1 x2 x3).ok (by decide)
  have hb := (longQ_B y0 y1 y2 y3).ok (by decide)
  have hc := (longQ_B z0 z1 z2 z3).ok (by decide)
  have hT := (smallQ_B s0 s1).ok (by decide)
  generalize longQ x0 x1 x2 x3 = a at *
  generalize longQ y0 y1 y2 y3 = b at *
  generalize longQ z0 z1 z2 z3 = c at *
  generalize smallQ s0 s1 = t at *
  have KAB := Lib.hid (cmp_q a b ha hb)
  have KBC := Lib.hid (cmp_q b c hb hc)
  have KAC := Lib.hid (cmp_q a c ha hc)
  have KBA := Lib.hid (cmp_q b a hb ha)
  rw [Qm.qcmp_symm a b] at KBA
  have KAA := Lib.hid (cmp_q a a ha ha)
  rw [Qm.qcmp_self] at KAA
  have KT : Hid (CallT 20 #[qv t, rvB ⟨#[48]⟩ ⟨#[49]⟩] (.int .i64 (Qm.qcmp t 0))) := Lib.hid (by rw [← zero_lit]; exact cmp_q t 0 hT ok_zero)
  obtain ⟨S1, T1, e1, q1, c1⟩ := sub_out a b ha hb
  obtain ⟨S2, T2, e2, q2, c2⟩ := add_out a t ha hT
  obtain ⟨S3, T3, e3, q3, c3⟩ := add_out b t hb hT
  obtain ⟨S4, T4, e4, q4, c4⟩ := mul_out a t ha hT
  obtain ⟨S5, T5, e5, q5, c5⟩ := mul_out b t hb hT
  have CD : Hid (subF a b = true → CallT 20 #[rvB S1 T1, rvB ⟨#[48]⟩ ⟨#[49]⟩] (.int .i64 (Qm.qcmp a b))) := Lib.hid (fun h => by rw [(q1.yes h).1, ← zero_lit, ← rat_sub_cmp]; exact cmp_q _ _ (okq_sub h) ok_zero)
  have CP : Hid (addF a t = true → addF b t = true → CallT 20 #[rvB S2 T2, rvB S3 T3] (.int .i64 (Qm.qcmp a b))) := Lib.hid (fun h h' => by rw [(q2.yes h).1, (q3.yes h').1, ← rat_add_cmp a b t]; exact cmp_q _ _ (okq_add h) (okq_add h'))
  have CM : Hid (mulF a t = true → mulF b t = true → CallT 20 #[rvB S4 T4, rvB S5 T5] (.int .i64 (Qm.qcmp a b * Qm.qcmp t 0))) := Lib.hid (fun h h' => by rw [(q4.yes h).1, (q5.yes h').1, ← rat_mul_cmp a b t]; exact cmp_q _ _ (okq_mul h) (okq_mul h'))
  have E1 := Lib.hid q1.err; have E2 := Lib.hid q2.err; have E3 := Lib.hid q3.err; have E4 := Lib.hid q4.err; have E5 := Lib.hid q5.err
  have O1 := Lib.hid c1; have O2 := Lib.hid c2; have O3 := Lib.hid c3; have O4 := Lib.hid c4; have O5 := Lib.hid c5
  have zn : ((bs (Lib.itoa a.num)).toList == (bs (Lib.itoa b.num)).toList) = decide (a.num = b.num) := txt_eqb _ _
  have zd : ((bs (Lib.itoa ((a.den : Nat) : Int))).toList == (bs (Lib.itoa ((b.den : Nat) : Int))).toList) = decide (((a.den : Nat) : Int) = ((b.den : Nat) : Int)) := txt_eqb _ _
  have zk : (Qm.qcmp a b == 0) = (decide (a.num = b.num) && decide (((a.den : Nat) : Int) = ((b.den : Nat) : Int))) := by
    by_cases h : a = b
    · subst h; rw [Qm.qcmp_self]; simp
    · have h0 : (Qm.qcmp a b == 0) = false := beq_eq_false_iff_ne.2 (fun e => h ((Qm.qcmp_zero a b).1 e))
      rw [h0]
      by_cases hn : a.num = b.num
      · rw [decide_eq_false (fun hd => h (Qm.qext hn hd)), Bool.and_false]
      · rw [decide_eq_false hn, Bool.false_and]
  have m1 := Qm.qcmp_01 a b
  have m2 := Qm.qcmp_01 b c
  have m3 := Qm.qcmp_01 a c
  have mt := Qm.qcmp_01 t 0
  have H1 : Qm.qcmp a b ≤ 0 → Qm.qcmp b c ≤ 0 → Qm.qcmp a c ≤ 0 := fun h h' => (Qm.qcmp_le a c).2 (Rat.le_trans ((Qm.qcmp_le a b).1 h) ((Qm.qcmp_le b c).1 h'))
  have H2 : Qm.qcmp a b ≤ 0 → Qm.qcmp b c < 0 → Qm.qcmp a c < 0 := fun h h' => (Qm.qcmp_neg a c).2 (by
    have h1 := (Qm.qcmp_le a b).1 h
    have h2 := (Qm.qcmp_neg b c).1 h'
    refine Rat.lt_of_le_of_ne (Rat.le_trans h1 (Rat.le_of_lt h2)) (fun e => ?_)
    subst e
    exact absurd h1 (Rat.not_le.2 h2))
  have hz : (0 < Qm.qcmp a b) ∨ (Qm.qcmp a b ≤ 0 ∧ 0 < Qm.qcmp b c) ∨ (Qm.qcmp a b ≤ 0 ∧ (0 ≤ Qm.qcmp b c ∧ Qm.qcmp b c ≤ 0) ∧ Qm.qcmp a c ≤ 0) ∨ (Qm.qcmp a b ≤ 0 ∧ Qm.qcmp b c < 0 ∧ Qm.qcmp a c < 0) := by omega
  have sm : IntKind.i64.wrap (Qm.qcmp a b * Qm.qcmp t 0) = Qm.qcmp a b * Qm.qcmp t 0 := by
    rcases Qm.qcmp_cases a b with ⟨-, e⟩ | ⟨-, e⟩ | ⟨-, e⟩ <;> rcases Qm.qcmp_cases t 0 with ⟨-, f⟩ | ⟨-, f⟩ | ⟨-, f⟩ <;> rw [e, f] <;> decide
  have ZN := Lib.hid zn; have ZD := Lib.hid zd; have ZK := Lib.hid zk
  generalize decide (a.num = b.num) = bn at *
  generalize decide (((a.den : Nat) : Int) = ((b.den : Nat) : Int)) = bd at *
  have SA := Lib.hid sane_c
  have IS := Lib.hid is_any
  have HT := Lib.hid ht
  generalize subF a b = f1 at *
  generalize addF a t = f2 at *
  generalize addF b t = f3 at *
  generalize mulF a t = f4 at *
  generalize mulF b t = f5 at *
  generalize Qm.qcmp a b = k1 at *
  generalize Qm.qcmp b c = k2 at *
  generalize Qm.qcmp a c = k3 at *
  generalize Qm.qcmp t 0 = kt at *
  obtain ⟨kk, hkk⟩ : ∃ kk, k1 * kt = kk := ⟨_, rfl⟩
  rw [hkk] at sm CM
  have SM : Hid (IntKind.i64.wrap (k1 * kt) = kk) := Lib.hid (by rw [hkk]; exact sm)
  clear ha hb hc hT c1 c2 c3 c4 c5 q1 q2 q3 q4 q5 zn zd zk H1 H2 hkk sm mt ht bx0 bx1 bx2 bx3 by0 by1 by2 by3 bz0 bz1 bz2 bz3 bs0 bs1
  unfold qv rv strOf rvB at *
  generalize bs (Lib.itoa a.num) = NA at *
  generalize bs (Lib.itoa ((a.den : Nat) : Int)) = DA at *
  generalize bs (Lib.itoa b.num) = NB at *
  generalize bs (Lib.itoa ((b.den : Nat) : Int)) = DB at *
  generalize bs (Lib.itoa c.num) = NC at *
  generalize bs (Lib.itoa ((c.den : Nat) : Int)) = DC at *
  generalize bs (Lib.itoa t.num) = NT at *
  generalize bs (Lib.itoa ((t.den : Nat) : Int)) = DT at *
  have HZ4 := Lib.hid hz
  have HM := Lib.hid (And.intro m1 (And.intro m2 m3))
  clear hz m1 m2 m3
  obtain ⟨W0, hW0⟩ : ∃ W0, (((w.alloc (.cells #[.int .i64 x0, .int .i64 x1, .int .i64 x2, .int .i64 x3] 24)).alloc (.cells #[.int .i64 y0, .int .i64 y1, .int .i64 y2, .int .i64 y3] 24)).alloc (.cells #[.int .i64 z0, .int .i64 z1, .int .i64 z2, .int .i64 z3] 24)).alloc (.cells #[.int .i64 s0, .int .i64 s1] 25) = W0 := ⟨_, rfl⟩
  have hbw : Below w.heap.size w W0 := by
    rw [← hW0]
    exact ((((Below.refl _ _).alloc (Nat.le_refl _) _).alloc (by simp) _).alloc (by simp; omega) _).alloc (by simp; omega) _
  have HX : Hid (Row W0 (w.heap.size) 24 #[.int .i64 x0, .int .i64 x1, .int .i64 x2, .int .i64 x3]) := Lib.hid (by
    rw [← hW0]
    have h := Row.new w 24 #[.int .i64 x0, .int .i64 x1, .int .i64 x2, .int .i64 x3]
    exact (((h).alloc _).alloc _).alloc _)
  have HY : Hid (Row W0 (w.heap.size + 1) 24 #[.int .i64 y0, .int .i64 y1, .int .i64 y2, .int .i64 y3]) := Lib.hid (by
    rw [← hW0]
    have h := Row.new (w.alloc (.cells #[.int .i64 x0, .int .i64 x1, .int .i64 x2, .int .i64 x3] 24)) 24 #[.int .i64 y0, .int .i64 y1, .int .i64 y2, .int .i64 y3]
    simp only [World.size_alloc] at h
    exact ((h).alloc _).alloc _)
  have HZ : Hid (Row W0 (w.heap.size + 1 + 1) 24 #[.int .i64 z0, .int .i64 z1, .int .i64 z2, .int .i64 z3]) := Lib.hid (by
    rw [← hW0]
    have h := Row.new ((w.alloc (.cells #[.int .i64 x0, .int .i64 x1, .int .i64 x2, .int .i64 x3] 24)).alloc (.cells #[.int .i64 y0, .int .i64 y1, .int .i64 y2, .int .i64 y3] 24)) 24 #[.int .i64 z0, .int .i64 z1, .int .i64 z2, .int .i64 z3]
    simp only [World.size_alloc] at h
    exact (h).alloc _)
  have HS : Hid (Row W0 (w.heap.size + 1 + 1 + 1) 25 #[.int .i64 s0, .int .i64 s1]) := Lib.hid (by
    rw [← hW0]
    have h := Row.new (((w.alloc (.cells #[.int .i64 x0, .int .i64 x1, .int .i64 x2, .int .i64 x3] 24)).alloc (.cells #[.int .i64 y0, .int .i64 y1, .int .i64 y2, .int .i64 y3] 24)).alloc (.cells #[.int .i64 z0, .int .i64 z1, .int .i64 z2, .int .i64 z3] 24)) 25 #[.int .i64 s0, .int .i64 s1]
    simp only [World.size_alloc] at h
    exact h)
  have HW0 := Lib.hid hW0
  have HB := Lib.hid hbw
  have HR := Lib.hid (Bxs.nil W0)
  clear hW0 hbw
  go_enter Tryz.func7, Tryz.ntmps7
  go_upto_region 9 with (first | (go_at_call 11; rw [HW0.out]; (with_reducible refine Calls.mono (SA.out _ (HT.out.next HB.out)) ?_); rintro e w1 ⟨rfl, hb⟩; have hq := HR.out.below hb; have hpHX := HX.out.below hb HX.out.lt; have pHX0 : w1.cell? ⟨w.heap.size, 0, none⟩ = some (.int .i64 x0) := hpHX.cell 0; have pHX1 : w1.cell? ⟨w.heap.size, 1, none⟩ = some (.int .i64 x1) := hpHX.cell 1; have pHX2 : w1.cell? ⟨w.heap.size, 2, none⟩ = some (.int .i64 x2) := hpHX.cell 2; have pHX3 : w1.cell? ⟨w.heap.size, 3, none⟩ = some (.int .i64 x3) := hpHX.cell 3; have lHX : w.heap.size < w1.heap.size := hpHX.lt; replace HX := Lib.hid (hpHX); clear hpHX; have hpHY := HY.out.below hb HY.out.lt; have pHY0 : w1.cell? ⟨w.heap.size + 1, 0, none⟩ = some (.int .i64 y0) := hpHY.cell 0; have pHY1 : w1.cell? ⟨w.heap.size + 1, 1, none⟩ = some (.int .i64 y1) := hpHY.cell 1; have pHY2 : w1.cell? ⟨w.heap.size + 1, 2, none⟩ = some (.int .i64 y2) := hpHY.cell 2; have pHY3 : w1.cell? ⟨w.heap.size + 1, 3, none⟩ = some (.int .i64 y3) := hpHY.cell 3; have lHY : w.heap.size + 1 < w1.heap.size := hpHY.lt; replace HY := Lib.hid (hpHY); clear hpHY; have hpHZ := HZ.out.below hb HZ.out.lt; have pHZ0 : w1.cell? ⟨w.heap.size + 1 + 1, 0, none⟩ = some (.int .i64 z0) := hpHZ.cell 0; have pHZ1 : w1.cell? ⟨w.heap.size + 1 + 1, 1, none⟩ = some (.int .i64 z1) := hpHZ.cell 1; have pHZ2 : w1.cell? ⟨w.heap.size + 1 + 1, 2, none⟩ = some (.int .i64 z2) := hpHZ.cell 2; have pHZ3 : w1.cell? ⟨w.heap.size + 1 + 1, 3, none⟩ = some (.int .i64 z3) := hpHZ.cell 3; have lHZ : w.heap.size + 1 + 1 < w1.heap.size := hpHZ.lt; replace HZ := Lib.hid (hpHZ); clear hpHZ; have hpHS := HS.out.below hb HS.out.lt; have pHS0 : w1.cell? ⟨w.heap.size + 1 + 1 + 1, 0, none⟩ = some (.int .i64 s0) := hpHS.cell 0; have pHS1 : w1.cell? ⟨w.heap.size + 1 + 1 + 1, 1, none⟩ = some (.int .i64 s1) := hpHS.cell 1; have lHS : w.heap.size + 1 + 1 + 1 < w1.heap.size := hpHS.lt; replace HS := Lib.hid (hpHS); clear hpHS; replace HR := Lib.hid hq; replace HB := Lib.hid (below_to HB.out hb); clear hb hq) | (go_at_call 13; (with_reducible refine Calls.mono (L1.out _ (HT.out.next HB.out)) ?_); rintro e w2 ⟨rfl, hb⟩; have hq := HR.out.below hb; have hpHX := HX.out.below hb HX.out.lt; have pHX0 : w2.cell? ⟨w.heap.size, 0, none⟩ = some (.int .i64 x0) := hpHX.cell 0; have pHX1 : w2.cell? ⟨w.heap.size, 1, none⟩ = some (.int .i64 x1) := hpHX.cell 1; have pHX2 : w2.cell? ⟨w.heap.size, 2, none⟩ = some (.int .i64 x2) := hpHX.cell 2; have pHX3 : w2.cell? ⟨w.heap.size, 3, none⟩ = some (.int .i64 x3) := hpHX.cell 3; have lHX : w.heap.size < w2.heap.size := hpHX.lt; replace HX := Lib.hid (hpHX.alloc (.cells #[.string NA, .string DA] 23)); clear hpHX; have hpHY := HY.out.below hb HY.out.lt; have pHY0 : w2.cell? ⟨w.heap.size + 1, 0, none⟩ = some (.int .i64 y0) := hpHY.cell 0; have pHY1 : w2.cell? ⟨w.heap.size + 1, 1, none⟩ = some (.int .i64 y1) := hpHY.cell 1; have pHY2 : w2.cell? ⟨w.heap.size + 1, 2, none⟩ = some (.int .i64 y2) := hpHY.cell 2; have pHY3 : w2.cell? ⟨w.heap.size + 1, 3, none⟩ = some (.int .i64 y3) := hpHY.cell 3; have lHY : w.heap.size + 1 < w2.heap.size := hpHY.lt; replace HY := Lib.hid (hpHY.alloc (.cells #[.string NA, .string DA] 23)); clear hpHY; have hpHZ := HZ.out.below hb HZ.out.lt; have pHZ0 : w2.cell? ⟨w.heap.size + 1 + 1, 0, none⟩ = some (.int .i64 z0) := hpHZ.cell 0; have pHZ1 : w2.cell? ⟨w.heap.size + 1 + 1, 1, none⟩ = some (.int .i64 z1) := hpHZ.cell 1; have pHZ2 : w2.cell? ⟨w.heap.size + 1 + 1, 2, none⟩ = some (.int .i64 z2) := hpHZ.cell 2; have pHZ3 : w2.cell? ⟨w.heap.size + 1 + 1, 3, none⟩ = some (.int .i64 z3) := hpHZ.cell 3; have lHZ : w.heap.size + 1 + 1 < w2.heap.size := hpHZ.lt; replace HZ := Lib.hid (hpHZ.alloc (.cells #[.string NA, .string DA] 23)); clear hpHZ; have hpHS := HS.out.below hb HS.out.lt; have pHS0 : w2.cell? ⟨w.heap.size + 1 + 1 + 1, 0, none⟩ = some (.int .i64 s0) := hpHS.cell 0; have pHS1 : w2.cell? ⟨w.heap.size + 1 + 1 + 1, 1, none⟩ = some (.int .i64 s1) := hpHS.cell 1; have lHS : w.heap.size + 1 + 1 + 1 < w2.heap.size := hpHS.lt; replace HS := Lib.hid (hpHS.alloc (.cells #[.string NA, .string DA] 23)); clear hpHS; replace HR := Lib.hid (hq.cons NA DA); replace HB := Lib.hid (below_to (below_to HB.out hb) (new_below _ (.cells #[.string NA, .string DA] 23))); clear hb hq) | (go_at_call 13; (with_reducible refine Calls.mono (L2.out _ (HT.out.next HB.out)) ?_); rintro e w3 ⟨rfl, hb⟩; have hq := HR.out.below hb; have hpHX := HX.out.below hb HX.out.lt; have pHX0 : w3.cell? ⟨w.heap.size, 0, none⟩ = some (.int .i64 x0) := hpHX.cell 0; have pHX1 : w3.cell? ⟨w.heap.size, 1, none⟩ = some (.int .i64 x1) := hpHX.cell 1; have pHX2 : w3.cell? ⟨w.heap.size, 2, none⟩ = some (.int .i64 x2) := hpHX.cell 2; have pHX3 : w3.cell? ⟨w.heap.size, 3, none⟩ = some (.int .i64 x3) := hpHX.cell 3; have lHX : w.heap.size < w3.heap.size := hpHX.lt; replace HX := Lib.hid (hpHX.alloc (.cells #[.string NB, .string DB] 23)); clear hpHX; have hpHY := HY.out.below hb HY.out.lt; have pHY0 : w3.cell? ⟨w.heap.size + 1, 0, none⟩ = some (.int .i64 y0) := hpHY.cell 0; have pHY1 : w3.cell? ⟨w.heap.size + 1, 1, none⟩ = some (.int .i64 y1) := hpHY.cell 1; have pHY2 : w3.cell? ⟨w.heap.size + 1, 2, none⟩ = some (.int .i64 y2) := hpHY.cell 2; have pHY3 : w3.cell? ⟨w.heap.size + 1, 3, none⟩ = some (.int .i64 y3) := hpHY.cell 3; have lHY : w.heap.size + 1 < w3.heap.size := hpHY.lt; replace HY := Lib.hid (hpHY.alloc (.cells #[.string NB, .string DB] 23)); clear hpHY; have hpHZ := HZ.out.below hb HZ.out.lt; have pHZ0 : w3.cell? ⟨w.heap.size + 1 + 1, 0, none⟩ = some (.int .i64 z0) := hpHZ.cell 0; have pHZ1 : w3.cell? ⟨w.heap.size + 1 + 1, 1, none⟩ = some (.int .i64 z1) := hpHZ.cell 1; have pHZ2 : w3.cell? ⟨w.heap.size + 1 + 1, 2, none⟩ = some (.int .i64 z2) := hpHZ.cell 2; have pHZ3 : w3.cell? ⟨w.heap.size + 1 + 1, 3, none⟩ = some (.int .i64 z3) := hpHZ.cell 3; have lHZ : w.heap.size + 1 + 1 < w3.heap.size := hpHZ.lt; replace HZ := Lib.hid (hpHZ.alloc (.cells #[.string NB, .string DB] 23)); clear hpHZ; have hpHS := HS.out.below hb HS.out.lt; have pHS0 : w3.cell? ⟨w.heap.size + 1 + 1 + 1, 0, none⟩ = some (.int .i64 s0) := hpHS.cell 0; have pHS1 : w3.cell? ⟨w.heap.size + 1 + 1 + 1, 1, none⟩ = some (.int .i64 s1) := hpHS.cell 1; have lHS : w.heap.size + 1 + 1 + 1 < w3.heap.size := hpHS.lt; replace HS := Lib.hid (hpHS.alloc (.cells #[.string NB, .string DB] 23)); clear hpHS; replace HR := Lib.hid (hq.cons NB DB); replace HB := Lib.hid (below_to (below_to HB.out hb) (new_below _ (.cells #[.string NB, .string DB] 23))); clear hb hq) | (go_at_call 13; (with_reducible refine Calls.mono (L3.out _ (HT.out.next HB.out)) ?_); rintro e w4 ⟨rfl, hb⟩; have hq := HR.out.below hb; have hpHX := HX.out.below hb HX.out.lt; have pHX0 : w4.cell? ⟨w.heap.size, 0, none⟩ = some (.int .i64 x0) := hpHX.cell 0; have pHX1 : w4.cell? ⟨w.heap.size, 1, none⟩ = some (.int .i64 x1) := hpHX.cell 1; have pHX2 : w4.cell? ⟨w.heap.size, 2, none⟩ = some (.int .i64 x2) := hpHX.cell 2; have pHX3 : w4.cell? ⟨w.heap.size, 3, none⟩ = some (.int .i64 x3) := hpHX.cell 3; have lHX : w.heap.size < w4.heap.size := hpHX.lt; replace HX := Lib.hid (hpHX.alloc (.cells #[.string NC, .string DC] 23)); clear hpHX; have hpHY := HY.out.below hb HY.out.lt; have pHY0 : w4.cell? ⟨w.heap.size + 1, 0, none⟩ = some (.int .i64 y0) := hpHY.cell 0; have pHY1 : w4.cell? ⟨w.heap.size + 1, 1, none⟩ = some (.int .i64 y1) := hpHY.cell 1; have pHY2 : w4.cell? ⟨w.heap.size + 1, 2, none⟩ = some (.int .i64 y2) := hpHY.cell 2; have pHY3 : w4.cell? ⟨w.heap.size + 1, 3, none⟩ = some (.int .i64 y3) := hpHY.cell 3; have lHY : w.heap.size + 1 < w4.heap.size := hpHY.lt; replace HY := Lib.hid (hpHY.alloc (.cells #[.string NC, .string DC] 23)); clear hpHY; have hpHZ := HZ.out.below hb HZ.out.lt; have pHZ0 : w4.cell? ⟨w.heap.size + 1 + 1, 0, none⟩ = some (.int .i64 z0) := hpHZ.cell 0; have pHZ1 : w4.cell? ⟨w.heap.size + 1 + 1, 1, none⟩ = some (.int .i64 z1) := hpHZ.cell 1; have pHZ2 : w4.cell? ⟨w.heap.size + 1 + 1, 2, none⟩ = some (.int .i64 z2) := hpHZ.cell 2; have pHZ3 : w4.cell? ⟨w.heap.size + 1 + 1, 3, none⟩ = some (.int .i64 z3) := hpHZ.cell 3; have lHZ : w.heap.size + 1 + 1 < w4.heap.size := hpHZ.lt; replace HZ := Lib.hid (hpHZ.alloc (.cells #[.string NC, .string DC] 23)); clear hpHZ; have hpHS := HS.out.below hb HS.out.lt; have pHS0 : w4.cell? ⟨w.heap.size + 1 + 1 + 1, 0, none⟩ = some (.int .i64 s0) := hpHS.cell 0; have pHS1 : w4.cell? ⟨w.heap.size + 1 + 1 + 1, 1, none⟩ = some (.int .i64 s1) := hpHS.cell 1; have lHS : w.heap.size + 1 + 1 + 1 < w4.heap.size := hpHS.lt; replace HS := Lib.hid (hpHS.alloc (.cells #[.string NC, .string DC] 23)); clear hpHS; replace HR := Lib.hid (hq.cons NC DC); replace HB := Lib.hid (below_to (below_to HB.out hb) (new_below _ (.cells #[.string NC, .string DC] 23))); clear hb hq) | (go_at_call 14; (with_reducible refine Calls.mono (L4.out _ (HT.out.next HB.out)) ?_); rintro e w5 ⟨rfl, hb⟩; have hq := HR.out.below hb; have x0_0 : w5.cell? ⟨w4.heap.size, 0, none⟩ = some (.string NC) := (hq.at (x := (w4.heap.size, NC, DC)) 0 rfl).cell 0; have x0_1 : w5.cell? ⟨w4.heap.size, 1, none⟩ = some (.string DC) := (hq.at (x := (w4.heap.size, NC, DC)) 0 rfl).cell 1; have y0 : w4.heap.size < w5.heap.size := (hq.at (x := (w4.heap.size, NC, DC)) 0 rfl).lt; have x1_0 : w5.cell? ⟨w3.heap.size, 0, none⟩ = some (.string NB) := (hq.at (x := (w3.heap.size, NB, DB)) 1 rfl).cell 0; have x1_1 : w5.cell? ⟨w3.heap.size, 1, none⟩ = some (.string DB) := (hq.at (x := (w3.heap.size, NB, DB)) 1 rfl).cell 1; have y1 : w3.heap.size < w5.heap.size := (hq.at (x := (w3.heap.size, NB, DB)) 1 rfl).lt; have x2_0 : w5.cell? ⟨w2.heap.size, 0, none⟩ = some (.string NA) := (hq.at (x := (w2.heap.size, NA, DA)) 2 rfl).cell 0; have x2_1 : w5.cell? ⟨w2.heap.size, 1, none⟩ = some (.string DA) := (hq.at (x := (w2.heap.size, NA, DA)) 2 rfl).cell 1; have y2 : w2.heap.size < w5.heap.size := (hq.at (x := (w2.heap.size, NA, DA)) 2 rfl).lt; replace HR := Lib.hid (hq.cons NT DT); replace HB := Lib.hid (below_to (below_to HB.out hb) (new_below _ (.cells #[.string NT, .string DT] 23))); clear hb hq) | (go_at_call 20; (with_reducible refine Calls.mono (KAB.out _ (HT.out.next HB.out)) ?_); rintro e w6 ⟨rfl, hb⟩; have hq := HR.out.below hb; have x1_0 : w6.cell? ⟨w4.heap.size, 0, none⟩ = some (.string NC) := (hq.at (x := (w4.heap.size, NC, DC)) 1 rfl).cell 0; have x1_1 : w6.cell? ⟨w4.heap.size, 1, none⟩ = some (.string DC) := (hq.at (x := (w4.heap.size, NC, DC)) 1 rfl).cell 1; have y1 : w4.heap.size < w6.heap.size := (hq.at (x := (w4.heap.size, NC, DC)) 1 rfl).lt; have x2_0 : w6.cell? ⟨w3.heap.size, 0, none⟩ = some (.string NB) := (hq.at (x := (w3.heap.size, NB, DB)) 2 rfl).cell 0; have x2_1 : w6.cell? ⟨w3.heap.size, 1, none⟩ = some (.string DB) := (hq.at (x := (w3.heap.size, NB, DB)) 2 rfl).cell 1; have y2 : w3.heap.size < w6.heap.size := (hq.at (x := (w3.heap.size, NB, DB)) 2 rfl).lt; have x3_0 : w6.cell? ⟨w2.heap.size, 0, none⟩ = some (.string NA) := (hq.at (x := (w2.heap.size, NA, DA)) 3 rfl).cell 0; have x3_1 : w6.cell? ⟨w2.heap.size, 1, none⟩ = some (.string DA) := (hq.at (x := (w2.heap.size, NA, DA)) 3 rfl).cell 1; have y3 : w2.heap.size < w6.heap.size := (hq.at (x := (w2.heap.size, NA, DA)) 3 rfl).lt; replace HR := Lib.hid hq; replace HB := Lib.hid (below_to HB.out hb); clear hb hq) | (go_at_call 20; (with_reducible refine Calls.mono (KBC.out _ (HT.out.next HB.out)) ?_); rintro e w7 ⟨rfl, hb⟩; have hq := HR.out.below hb; have x1_0 : w7.cell? ⟨w4.heap.size, 0, none⟩ = some (.string NC) := (hq.at (x := (w4.heap.size, NC, DC)) 1 rfl).cell 0; have x1_1 : w7.cell? ⟨w4.heap.size, 1, none⟩ = some (.string DC) := (hq.at (x := (w4.heap.size, NC, DC)) 1 rfl).cell 1; have y1 : w4.heap.size < w7.heap.size := (hq.at (x := (w4.heap.size, NC, DC)) 1 rfl).lt; have x3_0 : w7.cell? ⟨w2.heap.size, 0, none⟩ = some (.string NA) := (hq.at (x := (w2.heap.size, NA, DA)) 3 rfl).cell 0; have x3_1 : w7.cell? ⟨w2.heap.size, 1, none⟩ = some (.string DA) := (hq.at (x := (w2.heap.size, NA, DA)) 3 rfl).cell 1; have y3 : w2.heap.size < w7.heap.size := (hq.at (x := (w2.heap.size, NA, DA)) 3 rfl).lt; replace HR := Lib.hid hq; replace HB := Lib.hid (below_to HB.out hb); clear hb hq) | (go_at_call 20; (with_reducible refine Calls.mono (KAC.out _ (HT.out.next HB.out)) ?_); rintro e w8 ⟨rfl, hb⟩; have hq := HR.out.below hb; have x2_0 : w8.cell? ⟨w3.heap.size, 0, none⟩ = some (.string NB) := (hq.at (x := (w3.heap.size, NB, DB)) 2 rfl).cell 0; have x2_1 : w8.cell? ⟨w3.heap.size, 1, none⟩ = some (.string DB) := (hq.at (x := (w3.heap.size, NB, DB)) 2 rfl).cell 1; have y2 : w3.heap.size < w8.heap.size := (hq.at (x := (w3.heap.size, NB, DB)) 2 rfl).lt; have x3_0 : w8.cell? ⟨w2.heap.size, 0, none⟩ = some (.string NA) := (hq.at (x := (w2.heap.size, NA, DA)) 3 rfl).cell 0; have x3_1 : w8.cell? ⟨w2.heap.size, 1, none⟩ = some (.string DA) := (hq.at (x := (w2.heap.size, NA, DA)) 3 rfl).cell 1; have y3 : w2.heap.size < w8.heap.size := (hq.at (x := (w2.heap.size, NA, DA)) 3 rfl).lt; replace HR := Lib.hid hq; replace HB := Lib.hid (below_to HB.out hb); clear hb hq))
  clear HX HY HZ HS L1 L2 L3 L4 SA
  go_cut [92] (fun s92 wx => s92 = .bool false ∧ Hid (Bxs wx [(w5.heap.size, NT, DT), (w4.heap.size, NC, DC), (w3.heap.size, NB, DB), (w2.heap.size, NA, DA)]) ∧ Hid (Below w.heap.size w wx))
  case first =>
    obtain ⟨⟨m1, m1'⟩, ⟨m2, m2'⟩, ⟨m3, m3'⟩⟩ := HM.out
    cases bn with
    | false =>
      cases bd with
      | false =>
        have zn := ZN.out
        have zd := ZD.out
        have zk : (k1 == 0) = false := ZK.out
        go_wp2_with (first | (go_at_call 20; (with_reducible refine Calls.mono (KBA.out _ (HT.out.next HB.out)) ?_); rintro e w9 ⟨rfl, hb⟩; have hq := HR.out.below hb; have x2_0 : w9.cell? ⟨w3.heap.size, 0, none⟩ = some (.string NB) := (hq.at (x := (w3.heap.size, NB, DB)) 2 rfl).cell 0; have x2_1 : w9.cell? ⟨w3.heap.size, 1, none⟩ = some (.string DB) := (hq.at (x := (w3.heap.size, NB, DB)) 2 rfl).cell 1; have y2 : w3.heap.size < w9.heap.size := (hq.at (x := (w3.heap.size, NB, DB)) 2 rfl).lt; have x3_0 : w9.cell? ⟨w2.heap.size, 0, none⟩ = some (.string NA) := (hq.at (x := (w2.heap.size, NA, DA)) 3 rfl).cell 0; have x3_1 : w9.cell? ⟨w2.heap.size, 1, none⟩ = some (.string DA) := (hq.at (x := (w2.heap.size, NA, DA)) 3 rfl).cell 1; have y3 : w2.heap.size < w9.heap.size := (hq.at (x := (w2.heap.size, NA, DA)) 3 rfl).lt; replace HR := Lib.hid hq; replace HB := Lib.hid (below_to HB.out hb); clear hb hq) | (go_at_call 20; (with_reducible refine Calls.mono (KAA.out _ (HT.out.next HB.out)) ?_); rintro e w10 ⟨rfl, hb⟩; have hq := HR.out.below hb; replace HR := Lib.hid hq; replace HB := Lib.hid (below_to HB.out hb); clear hb hq))
        all_goals
          go_meet
          refine ⟨?_, HR, HB⟩
          have hz := HZ4.out
          first | rfl | (exfalso; omega) | (refine congrArg Value.bool ?_; simp only [Bool.or_eq_false_iff, decide_eq_false_iff_not]; omega)
      | true =>
        have zn := ZN.out
        have zd := ZD.out
        have zk : (k1 == 0) = false := ZK.out
        go_wp2_with (first | (go_at_call 20; (with_reducible refine Calls.mono (KBA.out _ (HT.out.next HB.out)) ?_); rintro e w9 ⟨rfl, hb⟩; have hq := HR.out.below hb; have x2_0 : w9.cell? ⟨w3.heap.size, 0, none⟩ = some (.string NB) := (hq.at (x := (w3.heap.size, NB, DB)) 2 rfl).cell 0; have x2_1 : w9.cell? ⟨w3.heap.size, 1, none⟩ = some (.string DB) := (hq.at (x := (w3.heap.size, NB, DB)) 2 rfl).cell 1; have y2 : w3.heap.size < w9.heap.size := (hq.at (x := (w3.heap.size, NB, DB)) 2 rfl).lt; have x3_0 : w9.cell? ⟨w2.heap.size, 0, none⟩ = some (.string NA) := (hq.at (x := (w2.heap.size, NA, DA)) 3 rfl).cell 0; have x3_1 : w9.cell? ⟨w2.heap.size, 1, none⟩ = some (.string DA) := (hq.at (x := (w2.heap.size, NA, DA)) 3 rfl).cell 1; have y3 : w2.heap.size < w9.heap.size := (hq.at (x := (w2.heap.size, NA, DA)) 3 rfl).lt; replace HR := Lib.hid hq; replace HB := Lib.hid (below_to HB.out hb); clear hb hq) | (go_at_call 20; (with_reducible refine Calls.mono (KAA.out _ (HT.out.next HB.out)) ?_); rintro e w10 ⟨rfl, hb⟩; have hq := HR.out.below hb; replace HR := Lib.hid hq; replace HB := Lib.hid (below_to HB.out hb); clear hb hq))
        all_goals
          go_meet
          refine ⟨?_, HR, HB⟩
          have hz := HZ4.out
          first | rfl | (exfalso; omega) | (refine congrArg Value.bool ?_; simp only [Bool.or_eq_false_iff, decide_eq_false_iff_not]; omega)
    | true =>
      cases bd with
      | false =>
        have zn := ZN.out
        have zd := ZD.out
        have zk : (k1 == 0) = false := ZK.out
        go_wp2_with (first | (go_at_call 20; (with_reducible refine Calls.mono (KBA.out _ (HT.out.next HB.out)) ?_); rintro e w9 ⟨rfl, hb⟩; have hq := HR.out.below hb; have x2_0 : w9.cell? ⟨w3.heap.size, 0, none⟩ = some (.string NB) := (hq.at (x := (w3.heap.size, NB, DB)) 2 rfl).cell 0; have x2_1 : w9.cell? ⟨w3.heap.size, 1, none⟩ = some (.string DB) := (hq.at (x := (w3.heap.size, NB, DB)) 2 rfl).cell 1; have y2 : w3.heap.size < w9.heap.size := (hq.at (x := (w3.heap.size, NB, DB)) 2 rfl).lt; have x3_0 : w9.cell? ⟨w2.heap.size, 0, none⟩ = some (.string NA) := (hq.at (x := (w2.heap.size, NA, DA)) 3 rfl).cell 0; have x3_1 : w9.cell? ⟨w2.heap.size, 1, none⟩ = some (.string DA) := (hq.at (x := (w2.heap.size, NA, DA)) 3 rfl).cell 1; have y3 : w2.heap.size < w9.heap.size := (hq.at (x := (w2.heap.size, NA, DA)) 3 rfl).lt; replace HR := Lib.hid hq; replace HB := Lib.hid (below_to HB.out hb); clear hb hq) | (go_at_call 20; (with_reducible refine Calls.mono (KAA.out _ (HT.out.next HB.out)) ?_); rintro e w10 ⟨rfl, hb⟩; have hq := HR.out.below hb; replace HR := Lib.hid hq; replace HB := Lib.hid (below_to HB.out hb); clear hb hq))
        all_goals
          go_meet
          refine ⟨?_, HR, HB⟩
          have hz := HZ4.out
          first | rfl | (exfalso; omega) | (refine congrArg Value.bool ?_; simp only [Bool.or_eq_false_iff, decide_eq_false_iff_not]; omega)
      | true =>
        have zn := ZN.out
        have zd := ZD.out
        have zk : (k1 == 0) = true := ZK.out
        go_wp2_with (first | (go_at_call 20; (with_reducible refine Calls.mono (KBA.out _ (HT.out.next HB.out)) ?_); rintro e w9 ⟨rfl, hb⟩; have hq := HR.out.below hb; have x2_0 : w9.cell? ⟨w3.heap.size, 0, none⟩ = some (.string NB) := (hq.at (x := (w3.heap.size, NB, DB)) 2 rfl).cell 0; have x2_1 : w9.cell? ⟨w3.heap.size, 1, none⟩ = some (.string DB) := (hq.at (x := (w3.heap.size, NB, DB)) 2 rfl).cell 1; have y2 : w3.heap.size < w9.heap.size := (hq.at (x := (w3.heap.size, NB, DB)) 2 rfl).lt; have x3_0 : w9.cell? ⟨w2.heap.size, 0, none⟩ = some (.string NA) := (hq.at (x := (w2.heap.size, NA, DA)) 3 rfl).cell 0; have x3_1 : w9.cell? ⟨w2.heap.size, 1, none⟩ = some (.string DA) := (hq.at (x := (w2.heap.size, NA, DA)) 3 rfl).cell 1; have y3 : w2.heap.size < w9.heap.size := (hq.at (x := (w2.heap.size, NA, DA)) 3 rfl).lt; replace HR := Lib.hid hq; replace HB := Lib.hid (below_to HB.out hb); clear hb hq) | (go_at_call 20; (with_reducible refine Calls.mono (KAA.out _ (HT.out.next HB.out)) ?_); rintro e w10 ⟨rfl, hb⟩; have hq := HR.out.below hb; replace HR := Lib.hid hq; replace HB := Lib.hid (below_to HB.out hb); clear hb hq))
        all_goals
          go_meet
          refine ⟨?_, HR, HB⟩
          have hz := HZ4.out
          first | rfl | (exfalso; omega) | (refine congrArg Value.bool ?_; simp only [Bool.or_eq_false_iff, decide_eq_false_iff_not]; omega)
  case rest =>
    obtain ⟨rfl, HR9, HB9⟩ := hcut
    replace HR := HR9
    replace HB := HB9
    clear HR9 HB9 HZ4 ZN ZD ZK KAB KBC KAC KBA KAA
    have x2_0 : wc.cell? ⟨w3.heap.size, 0, none⟩ = some (.string NB) := (HR.out.at (x := (w3.heap.size, NB, DB)) 2 rfl).cell 0
    have x2_1 : wc.cell? ⟨w3.heap.size, 1, none⟩ = some (.string DB) := (HR.out.at (x := (w3.heap.size, NB, DB)) 2 rfl).cell 1
    have y2 : w3.heap.size < wc.heap.size := (HR.out.at (x := (w3.heap.size, NB, DB)) 2 rfl).lt
    have x3_0 : wc.cell? ⟨w2.heap.size, 0, none⟩ = some (.string NA) := (HR.out.at (x := (w2.heap.size, NA, DA)) 3 rfl).cell 0
    have x3_1 : wc.cell? ⟨w2.heap.size, 1, none⟩ = some (.string DA) := (HR.out.at (x := (w2.heap.size, NA, DA)) 3 rfl).cell 1
    have y3 : w2.heap.size < wc.heap.size := (HR.out.at (x := (w2.heap.size, NA, DA)) 3 rfl).lt
    go_upto_region 12 with (first | (go_at_call 40; (with_reducible refine Calls.mono (O1.out _ (HT.out.next HB.out)) ?_); rintro e w11 ⟨rfl, hb⟩; have hq := HR.out.below hb; replace HR := Lib.hid (hq.cons S1 T1); replace HB := Lib.hid (below_to (below_to HB.out hb) (new_below _ (.cells #[.string S1, .string T1] 23))); clear hb hq))
    obtain ⟨W12, hW12⟩ : ∃ W0, w11.alloc (.cells #[.string S1, .string T1] 23) = W0 := ⟨_, rfl⟩
    rw [hW12] at HR HB ⊢
    clear hW12
    go_cut [107] (fun s107 wx => s107 = .bool false ∧ Hid (Bxs wx [(w11.heap.size, S1, T1), (w5.heap.size, NT, DT), (w4.heap.size, NC, DC), (w3.heap.size, NB, DB), (w2.heap.size, NA, DA)]) ∧ Hid (Below w.heap.size w wx))
    case first =>
      have ee := E1.out
      cases f1 with
      | false =>
        obtain ⟨ee1, ee2⟩ := ee
        obtain ⟨d0, d1⟩ : W12.cell? ⟨w11.heap.size, 0, none⟩ = some (.string S1) ∧ W12.cell? ⟨w11.heap.size, 1, none⟩ = some (.string T1) := ⟨(HR.out.at (x := (w11.heap.size, S1, T1)) 0 rfl).cell 0, (HR.out.at (x := (w11.heap.size, S1, T1)) 0 rfl).cell 1⟩
        go_quiet (fail)
        go_wp2_with fail
        all_goals
          go_meet
          exact ⟨rfl, HR, Lib.hid (belowN HB.out _)⟩
      | true =>
        obtain ⟨ee1, ee2⟩ := ee
        have CDt := Lib.hid (CD.out rfl)
        have mkS : Hid (∀ u, Below w.heap.size w u → Bxs u [(w11.heap.size, S1, T1), (w5.heap.size, NT, DT), (w4.heap.size, NC, DC), (w3.heap.size, NB, DB), (w2.heap.size, NA, DA)] → Below w.heap.size w u ∧ Bxs u [(w11.heap.size, S1, T1), (w5.heap.size, NT, DT), (w4.heap.size, NC, DC), (w3.heap.size, NB, DB), (w2.heap.size, NA, DA)] ∧ u.cell? ⟨w11.heap.size, 0, none⟩ = some (.string S1) ∧ u.cell? ⟨w11.heap.size, 1, none⟩ = some (.string T1)) := Lib.hid (fun u h1 h2 => ⟨h1, h2, (h2 (w11.heap.size, S1, T1) (by simp)).cell 0, (h2 (w11.heap.size, S1, T1) (by simp)).cell 1⟩)
        go_region_held3 (fun u => Below w.heap.size w u ∧ Bxs u [(w11.heap.size, S1, T1), (w5.heap.size, NT, DT), (w4.heap.size, NC, DC), (w3.heap.size, NB, DB), (w2.heap.size, NA, DA)] ∧ u.cell? ⟨w11.heap.size, 0, none⟩ = some (.string S1) ∧ u.cell? ⟨w11.heap.size, 1, none⟩ = some (.string T1)) (first | assumption | (exact mkS.out _ HB.out.drew (fun x hx => (HR.out x hx).drew)) | (exact mkS.out _ (below_to (‹Below w.heap.size w _ ∧ Bxs _ _ ∧ _ ∧ _›).1 b5) ((‹Below w.heap.size w _ ∧ Bxs _ _ ∧ _ ∧ _›).2.1.below b5))) (first | (go_at_call 41; ((with_reducible refine Calls.mono (IS.out _ _ _ ?hu) ?_); (case hu => exact HT.out.next (‹Below w.heap.size w _ ∧ Bxs _ _ ∧ _ ∧ _›).1); rintro e v1 ⟨rfl, b5⟩)) | (go_at_call 20; ((with_reducible refine Calls.mono (CDt.out _ ?hu) ?_); (case hu => exact HT.out.next (‹Below w.heap.size w _ ∧ Bxs _ _ ∧ _ ∧ _›).1); rintro e v1 ⟨rfl, b5⟩)))
        all_goals
          have HX := Lib.hid (‹Below w.heap.size w _ ∧ Bxs _ _ ∧ _ ∧ _›)
          go_wp2_with fail
          go_meet
          exact ⟨rfl, Lib.hid HX.out.2.1, Lib.hid HX.out.1⟩
    case rest =>
      obtain ⟨rfl, HR9, HB9⟩ := hcut
      replace HR := HR9
      replace HB := HB9
      clear HR9 HB9 HM CD E1 O1
      have x3_0 : wc.cell? ⟨w3.heap.size, 0, none⟩ = some (.string NB) := (HR.out.at (x := (w3.heap.size, NB, DB)) 3 rfl).cell 0
      have x3_1 : wc.cell? ⟨w3.heap.size, 1, none⟩ = some (.string DB) := (HR.out.at (x := (w3.heap.size, NB, DB)) 3 rfl).cell 1
      have y3 : w3.heap.size < wc.heap.size := (HR.out.at (x := (w3.heap.size, NB, DB)) 3 rfl).lt
      have x4_0 : wc.cell? ⟨w2.heap.size, 0, none⟩ = some (.string NA) := (HR.out.at (x := (w2.heap.size, NA, DA)) 4 rfl).cell 0
      have x4_1 : wc.cell? ⟨w2.heap.size, 1, none⟩ = some (.string DA) := (HR.out.at (x := (w2.heap.size, NA, DA)) 4 rfl).cell 1
      have y4 : w2.heap.size < wc.heap.size := (HR.out.at (x := (w2.heap.size, NA, DA)) 4 rfl).lt
      have x1_0 : wc.cell? ⟨w5.heap.size, 0, none⟩ = some (.string NT) := (HR.out.at (x := (w5.heap.size, NT, DT)) 1 rfl).cell 0
      have x1_1 : wc.cell? ⟨w5.heap.size, 1, none⟩ = some (.string DT) := (HR.out.at (x := (w5.heap.size, NT, DT)) 1 rfl).cell 1
      have y1 : w5.heap.size < wc.heap.size := (HR.out.at (x := (w5.heap.size, NT, DT)) 1 rfl).lt
      go_upto_region 16 with (first | (go_at_call 38; (with_reducible refine Calls.mono (O2.out _ (HT.out.next HB.out)) ?_); rintro e w12 ⟨rfl, hb⟩; have hq := HR.out.below hb; have x0_0 : w12.cell? ⟨w11.heap.size, 0, none⟩ = some (.string S1) := (hq.at (x := (w11.heap.size, S1, T1)) 0 rfl).cell 0; have x0_1 : w12.cell? ⟨w11.heap.size, 1, none⟩ = some (.string T1) := (hq.at (x := (w11.heap.size, S1, T1)) 0 rfl).cell 1; have y0 : w11.heap.size < w12.heap.size := (hq.at (x := (w11.heap.size, S1, T1)) 0 rfl).lt; have x1_0 : w12.cell? ⟨w5.heap.size, 0, none⟩ = some (.string NT) := (hq.at (x := (w5.heap.size, NT, DT)) 1 rfl).cell 0; have x1_1 : w12.cell? ⟨w5.heap.size, 1, none⟩ = some (.string DT) := (hq.at (x := (w5.heap.size, NT, DT)) 1 rfl).cell 1; have y1 : w5.heap.size < w12.heap.size := (hq.at (x := (w5.heap.size, NT, DT)) 1 rfl).lt; have x2_0 : w12.cell? ⟨w4.heap.size, 0, none⟩ = some (.string NC) := (hq.at (x := (w4.heap.size, NC, DC)) 2 rfl).cell 0; have x2_1 : w12.cell? ⟨w4.heap.size, 1, none⟩ = some (.string DC) := (hq.at (x := (w4.heap.size, NC, DC)) 2 rfl).cell 1; have y2 : w4.heap.size < w12.heap.size := (hq.at (x := (w4.heap.size, NC, DC)) 2 rfl).lt; have x3_0 : w12.cell? ⟨w3.heap.size, 0, none⟩ = some (.string NB) := (hq.at (x := (w3.heap.size, NB, DB)) 3 rfl).cell 0; have x3_1 : w12.cell? ⟨w3.heap.size, 1, none⟩ = some (.string DB) := (hq.at (x := (w3.heap.size, NB, DB)) 3 rfl).cell 1; have y3 : w3.heap.size < w12.heap.size := (hq.at (x := (w3.heap.size, NB, DB)) 3 rfl).lt; have x4_0 : w12.cell? ⟨w2.heap.size, 0, none⟩ = some (.string NA) := (hq.at (x := (w2.heap.size, NA, DA)) 4 rfl).cell 0; have x4_1 : w12.cell? ⟨w2.heap.size, 1, none⟩ = some (.string DA) := (hq.at (x := (w2.heap.size, NA, DA)) 4 rfl).cell 1; have y4 : w2.heap.size < w12.heap.size := (hq.at (x := (w2.heap.size, NA, DA)) 4 rfl).lt; replace HR := Lib.hid (hq.cons S2 T2); have lbw12 : w.heap.size ≤ w12.heap.size := (below_to HB.out hb).size; replace HB := Lib.hid (below_to (below_to HB.out hb) (new_below _ (.cells #[.string S2, .string T2] 23))); clear hb hq) | (go_at_call 38; (with_reducible refine Calls.mono (O3.out _ (HT.out.next HB.out)) ?_); rintro e w13 ⟨rfl, hb⟩; have hq := HR.out.below hb; have x0_0 : w13.cell? ⟨w12.heap.size, 0, none⟩ = some (.string S2) := (hq.at (x := (w12.heap.size, S2, T2)) 0 rfl).cell 0; have x0_1 : w13.cell? ⟨w12.heap.size, 1, none⟩ = some (.string T2) := (hq.at (x := (w12.heap.size, S2, T2)) 0 rfl).cell 1; have y0 : w12.heap.size < w13.heap.size := (hq.at (x := (w12.heap.size, S2, T2)) 0 rfl).lt; have x1_0 : w13.cell? ⟨w11.heap.size, 0, none⟩ = some (.string S1) := (hq.at (x := (w11.heap.size, S1, T1)) 1 rfl).cell 0; have x1_1 : w13.cell? ⟨w11.heap.size, 1, none⟩ = some (.string T1) := (hq.at (x := (w11.heap.size, S1, T1)) 1 rfl).cell 1; have y1 : w11.heap.size < w13.heap.size := (hq.at (x := (w11.heap.size, S1, T1)) 1 rfl).lt; have x2_0 : w13.cell? ⟨w5.heap.size, 0, none⟩ = some (.string NT) := (hq.at (x := (w5.heap.size, NT, DT)) 2 rfl).cell 0; have x2_1 : w13.cell? ⟨w5.heap.size, 1, none⟩ = some (.string DT) := (hq.at (x := (w5.heap.size, NT, DT)) 2 rfl).cell 1; have y2 : w5.heap.size < w13.heap.size := (hq.at (x := (w5.heap.size, NT, DT)) 2 rfl).lt; have x3_0 : w13.cell? ⟨w4.heap.size, 0, none⟩ = some (.string NC) := (hq.at (x := (w4.heap.size, NC, DC)) 3 rfl).cell 0; have x3_1 : w13.cell? ⟨w4.heap.size, 1, none⟩ = some (.string DC) := (hq.at (x := (w4.heap.size, NC, DC)) 3 rfl).cell 1; have y3 : w4.heap.size < w13.heap.size := (hq.at (x := (w4.heap.size, NC, DC)) 3 rfl).lt; have x4_0 : w13.cell? ⟨w3.heap.size, 0, none⟩ = some (.string NB) := (hq.at (x := (w3.heap.size, NB, DB)) 4 rfl).cell 0; have x4_1 : w13.cell? ⟨w3.heap.size, 1, none⟩ = some (.string DB) := (hq.at (x := (w3.heap.size, NB, DB)) 4 rfl).cell 1; have y4 : w3.heap.size < w13.heap.size := (hq.at (x := (w3.heap.size, NB, DB)) 4 rfl).lt; have x5_0 : w13.cell? ⟨w2.heap.size, 0, none⟩ = some (.string NA) := (hq.at (x := (w2.heap.size, NA, DA)) 5 rfl).cell 0; have x5_1 : w13.cell? ⟨w2.heap.size, 1, none⟩ = some (.string DA) := (hq.at (x := (w2.heap.size, NA, DA)) 5 rfl).cell 1; have y5 : w2.heap.size < w13.heap.size := (hq.at (x := (w2.heap.size, NA, DA)) 5 rfl).lt; replace HR := Lib.hid (hq.cons S3 T3); have lbw13 : w.heap.size ≤ w13.heap.size := (below_to HB.out hb).size; replace HB := Lib.hid (below_to (below_to HB.out hb) (new_below _ (.cells #[.string S3, .string T3] 23))); clear hb hq))
      clear O2 O3
      obtain ⟨W16, hW16⟩ : ∃ W0, w13.alloc (.cells #[.string S3, .string T3] 23) = W0 := ⟨_, rfl⟩
      rw [hW16] at HR HB ⊢
      clear hW16
      go_cut [132] (fun s132 wx => s132 = .bool false ∧ Hid (Bxs wx [(w13.heap.size, S3, T3), (w12.heap.size, S2, T2), (w11.heap.size, S1, T1), (w5.heap.size, NT, DT), (w4.heap.size, NC, DC), (w3.heap.size, NB, DB), (w2.heap.size, NA, DA)]) ∧ Hid (Below w.heap.size w wx))
      case first =>
        have ee := E2.out
        have ef := E3.out
        cases f2 with
        | false =>
          obtain ⟨ee1, ee2⟩ := ee
          clear ef
          have x1_0 : W16.cell? ⟨w12.heap.size, 0, none⟩ = some (.string S2) := (HR.out.at (x := (w12.heap.size, S2, T2)) 1 rfl).cell 0
          have x1_1 : W16.cell? ⟨w12.heap.size, 1, none⟩ = some (.string T2) := (HR.out.at (x := (w12.heap.size, S2, T2)) 1 rfl).cell 1
          have y1 : w12.heap.size < W16.heap.size := (HR.out.at (x := (w12.heap.size, S2, T2)) 1 rfl).lt
          have x0_0 : W16.cell? ⟨w13.heap.size, 0, none⟩ = some (.string S3) := (HR.out.at (x := (w13.heap.size, S3, T3)) 0 rfl).cell 0
          have x0_1 : W16.cell? ⟨w13.heap.size, 1, none⟩ = some (.string T3) := (HR.out.at (x := (w13.heap.size, S3, T3)) 0 rfl).cell 1
          have y0 : w13.heap.size < W16.heap.size := (HR.out.at (x := (w13.heap.size, S3, T3)) 0 rfl).lt
          go_wp2_with fail
          all_goals
            go_meet
            exact ⟨rfl, HR, HB⟩
        | true =>
          obtain ⟨ee1, ee2⟩ := ee
          cases f3 with
          | false =>
            obtain ⟨ef1, ef2⟩ := ef
            have x1_0 : W16.cell? ⟨w12.heap.size, 0, none⟩ = some (.string S2) := (HR.out.at (x := (w12.heap.size, S2, T2)) 1 rfl).cell 0
            have x1_1 : W16.cell? ⟨w12.heap.size, 1, none⟩ = some (.string T2) := (HR.out.at (x := (w12.heap.size, S2, T2)) 1 rfl).cell 1
            have y1 : w12.heap.size < W16.heap.size := (HR.out.at (x := (w12.heap.size, S2, T2)) 1 rfl).lt
            have x0_0 : W16.cell? ⟨w13.heap.size, 0, none⟩ = some (.string S3) := (HR.out.at (x := (w13.heap.size, S3, T3)) 0 rfl).cell 0
            have x0_1 : W16.cell? ⟨w13.heap.size, 1, none⟩ = some (.string T3) := (HR.out.at (x := (w13.heap.size, S3, T3)) 0 rfl).cell 1
            have y0 : w13.heap.size < W16.heap.size := (HR.out.at (x := (w13.heap.size, S3, T3)) 0 rfl).lt
            go_wp2_with fail
            all_goals
              go_meet
              exact ⟨rfl, HR, HB⟩
          | true =>
            obtain ⟨ef1, ef2⟩ := ef
            have CPt := Lib.hid (CP.out rfl rfl)
            have x1_0 : W16.cell? ⟨w12.heap.size, 0, none⟩ = some (.string S2) := (HR.out.at (x := (w12.heap.size, S2, T2)) 1 rfl).cell 0
            have x1_1 : W16.cell? ⟨w12.heap.size, 1, none⟩ = some (.string T2) := (HR.out.at (x := (w12.heap.size, S2, T2)) 1 rfl).cell 1
            have y1 : w12.heap.size < W16.heap.size := (HR.out.at (x := (w12.heap.size, S2, T2)) 1 rfl).lt
            have x0_0 : W16.cell? ⟨w13.heap.size, 0, none⟩ = some (.string S3) := (HR.out.at (x := (w13.heap.size, S3, T3)) 0 rfl).cell 0
            have x0_1 : W16.cell? ⟨w13.heap.size, 1, none⟩ = some (.string T3) := (HR.out.at (x := (w13.heap.size, S3, T3)) 0 rfl).cell 1
            have y0 : w13.heap.size < W16.heap.size := (HR.out.at (x := (w13.heap.size, S3, T3)) 0 rfl).lt
            go_wp2_with (first | (go_at_call 20; (with_reducible refine Calls.mono (CPt.out _ (HT.out.next HB.out)) ?_); rintro e v1 ⟨rfl, b5⟩; replace HR := Lib.hid (HR.out.below b5); replace HB := Lib.hid (below_to HB.out b5); clear b5))
            all_goals
              go_meet
              exact ⟨rfl, HR, HB⟩
      case rest =>
        obtain ⟨rfl, HR9, HB9⟩ := hcut
        replace HR := HR9
        replace HB := HB9
        clear HR9 HB9 CP E2 E3
        have x0_0 : wc.cell? ⟨w13.heap.size, 0, none⟩ = some (.string S3) := (HR.out.at (x := (w13.heap.size, S3, T3)) 0 rfl).cell 0
        have x0_1 : wc.cell? ⟨w13.heap.size, 1, none⟩ = some (.string T3) := (HR.out.at (x := (w13.heap.size, S3, T3)) 0 rfl).cell 1
        have y0 : w13.heap.size < wc.heap.size := (HR.out.at (x := (w13.heap.size, S3, T3)) 0 rfl).lt
        have x1_0 : wc.cell? ⟨w12.heap.size, 0, none⟩ = some (.string S2) := (HR.out.at (x := (w12.heap.size, S2, T2)) 1 rfl).cell 0
        have x1_1 : wc.cell? ⟨w12.heap.size, 1, none⟩ = some (.string T2) := (HR.out.at (x := (w12.heap.size, S2, T2)) 1 rfl).cell 1
        have y1 : w12.heap.size < wc.heap.size := (HR.out.at (x := (w12.heap.size, S2, T2)) 1 rfl).lt
        have x3_0 : wc.cell? ⟨w5.heap.size, 0, none⟩ = some (.string NT) := (HR.out.at (x := (w5.heap.size, NT, DT)) 3 rfl).cell 0
        have x3_1 : wc.cell? ⟨w5.heap.size, 1, none⟩ = some (.string DT) := (HR.out.at (x := (w5.heap.size, NT, DT)) 3 rfl).cell 1
        have y3 : w5.heap.size < wc.heap.size := (HR.out.at (x := (w5.heap.size, NT, DT)) 3 rfl).lt
        have x5_0 : wc.cell? ⟨w3.heap.size, 0, none⟩ = some (.string NB) := (HR.out.at (x := (w3.heap.size, NB, DB)) 5 rfl).cell 0
        have x5_1 : wc.cell? ⟨w3.heap.size, 1, none⟩ = some (.string DB) := (HR.out.at (x := (w3.heap.size, NB, DB)) 5 rfl).cell 1
        have y5 : w3.heap.size < wc.heap.size := (HR.out.at (x := (w3.heap.size, NB, DB)) 5 rfl).lt
        have x6_0 : wc.cell? ⟨w2.heap.size, 0, none⟩ = some (.string NA) := (HR.out.at (x := (w2.heap.size, NA, DA)) 6 rfl).cell 0
        have x6_1 : wc.cell? ⟨w2.heap.size, 1, none⟩ = some (.string DA) := (HR.out.at (x := (w2.heap.size, NA, DA)) 6 rfl).cell 1
        have y6 : w2.heap.size < wc.heap.size := (HR.out.at (x := (w2.heap.size, NA, DA)) 6 rfl).lt
        obtain ⟨z0, z1, z2, z3⟩ := rat_facts (HR.out.at (x := (w12.heap.size, S2, T2)) 1 rfl)
        go_upto_region 19 with (first | (go_at_call 39; (with_reducible refine Calls.mono (O4.out _ (HT.out.next HB.out)) ?_); rintro e w14 ⟨rfl, hb⟩; have hq := HR.out.below hb; have x0_0 : w14.cell? ⟨w13.heap.size, 0, none⟩ = some (.string S3) := (hq.at (x := (w13.heap.size, S3, T3)) 0 rfl).cell 0; have x0_1 : w14.cell? ⟨w13.heap.size, 1, none⟩ = some (.string T3) := (hq.at (x := (w13.heap.size, S3, T3)) 0 rfl).cell 1; have y0 : w13.heap.size < w14.heap.size := (hq.at (x := (w13.heap.size, S3, T3)) 0 rfl).lt; have x3_0 : w14.cell? ⟨w5.heap.size, 0, none⟩ = some (.string NT) := (hq.at (x := (w5.heap.size, NT, DT)) 3 rfl).cell 0; have x3_1 : w14.cell? ⟨w5.heap.size, 1, none⟩ = some (.string DT) := (hq.at (x := (w5.heap.size, NT, DT)) 3 rfl).cell 1; have y3 : w5.heap.size < w14.heap.size := (hq.at (x := (w5.heap.size, NT, DT)) 3 rfl).lt; have x5_0 : w14.cell? ⟨w3.heap.size, 0, none⟩ = some (.string NB) := (hq.at (x := (w3.heap.size, NB, DB)) 5 rfl).cell 0; have x5_1 : w14.cell? ⟨w3.heap.size, 1, none⟩ = some (.string DB) := (hq.at (x := (w3.heap.size, NB, DB)) 5 rfl).cell 1; have y5 : w3.heap.size < w14.heap.size := (hq.at (x := (w3.heap.size, NB, DB)) 5 rfl).lt; have x6_0 : w14.cell? ⟨w2.heap.size, 0, none⟩ = some (.string NA) := (hq.at (x := (w2.heap.size, NA, DA)) 6 rfl).cell 0; have x6_1 : w14.cell? ⟨w2.heap.size, 1, none⟩ = some (.string DA) := (hq.at (x := (w2.heap.size, NA, DA)) 6 rfl).cell 1; have y6 : w2.heap.size < w14.heap.size := (hq.at (x := (w2.heap.size, NA, DA)) 6 rfl).lt; have hrow := hq.at (x := (w12.heap.size, S2, T2)) 1 rfl; obtain ⟨z0, z1, z2, z3⟩ := rat_facts hrow; replace HR := Lib.hid (hq.over (S := S4) (T := T4) (l' := [(w13.heap.size, S3, T3), (w5.heap.size, NT, DT), (w3.heap.size, NB, DB)]) hrow (fun x hx => by (simp only [List.mem_cons, List.not_mem_nil, or_false] at hx; rcases hx with rfl | rfl | rfl <;> exact ⟨by simp, by dsimp only; omega⟩))); replace HB := Lib.hid (((below_to HB.out hb).setCell (p := ⟨w12.heap.size, 0, none⟩) (by dsimp only; omega) (.string S4)).setCell (p := ⟨w12.heap.size, 1, none⟩) (by dsimp only; omega) (.string T4)); clear hb hq hrow))
        obtain ⟨W18, hW18⟩ : ∃ W0, (w14.setCell ⟨w12.heap.size, 0, none⟩ (.string S4)).setCell ⟨w12.heap.size, 1, none⟩ (.string T4) = W0 := ⟨_, rfl⟩
        rw [hW18] at HR HB ⊢
        clear hW18
        have x0_0 : W18.cell? ⟨w12.heap.size, 0, none⟩ = some (.string S4) := (HR.out.at (x := (w12.heap.size, S4, T4)) 0 rfl).cell 0
        have x0_1 : W18.cell? ⟨w12.heap.size, 1, none⟩ = some (.string T4) := (HR.out.at (x := (w12.heap.size, S4, T4)) 0 rfl).cell 1
        have y0 : w12.heap.size < W18.heap.size := (HR.out.at (x := (w12.heap.size, S4, T4)) 0 rfl).lt
        have x1_0 : W18.cell? ⟨w13.heap.size, 0, none⟩ = some (.string S3) := (HR.out.at (x := (w13.heap.size, S3, T3)) 1 rfl).cell 0
        have x1_1 : W18.cell? ⟨w13.heap.size, 1, none⟩ = some (.string T3) := (HR.out.at (x := (w13.heap.size, S3, T3)) 1 rfl).cell 1
        have y1 : w13.heap.size < W18.heap.size := (HR.out.at (x := (w13.heap.size, S3, T3)) 1 rfl).lt
        have x2_0 : W18.cell? ⟨w5.heap.size, 0, none⟩ = some (.string NT) := (HR.out.at (x := (w5.heap.size, NT, DT)) 2 rfl).cell 0
        have x2_1 : W18.cell? ⟨w5.heap.size, 1, none⟩ = some (.string DT) := (HR.out.at (x := (w5.heap.size, NT, DT)) 2 rfl).cell 1
        have y2 : w5.heap.size < W18.heap.size := (HR.out.at (x := (w5.heap.size, NT, DT)) 2 rfl).lt
        have x3_0 : W18.cell? ⟨w3.heap.size, 0, none⟩ = some (.string NB) := (HR.out.at (x := (w3.heap.size, NB, DB)) 3 rfl).cell 0
        have x3_1 : W18.cell? ⟨w3.heap.size, 1, none⟩ = some (.string DB) := (HR.out.at (x := (w3.heap.size, NB, DB)) 3 rfl).cell 1
        have y3 : w3.heap.size < W18.heap.size := (HR.out.at (x := (w3.heap.size, NB, DB)) 3 rfl).lt
        obtain ⟨z0, z1, z2, z3⟩ := rat_facts (HR.out.at (x := (w13.heap.size, S3, T3)) 1 rfl)
        go_upto_region 20 with (first | (go_at_call 39; (with_reducible refine Calls.mono (O5.out _ (HT.out.next HB.out)) ?_); rintro e w15 ⟨rfl, hb⟩; have hq := HR.out.below hb; have x0_0 : w15.cell? ⟨w12.heap.size, 0, none⟩ = some (.string S4) := (hq.at (x := (w12.heap.size, S4, T4)) 0 rfl).cell 0; have x0_1 : w15.cell? ⟨w12.heap.size, 1, none⟩ = some (.string T4) := (hq.at (x := (w12.heap.size, S4, T4)) 0 rfl).cell 1; have y0 : w12.heap.size < w15.heap.size := (hq.at (x := (w12.heap.size, S4, T4)) 0 rfl).lt; have x2_0 : w15.cell? ⟨w5.heap.size, 0, none⟩ = some (.string NT) := (hq.at (x := (w5.heap.size, NT, DT)) 2 rfl).cell 0; have x2_1 : w15.cell? ⟨w5.heap.size, 1, none⟩ = some (.string DT) := (hq.at (x := (w5.heap.size, NT, DT)) 2 rfl).cell 1; have y2 : w5.heap.size < w15.heap.size := (hq.at (x := (w5.heap.size, NT, DT)) 2 rfl).lt; have x3_0 : w15.cell? ⟨w3.heap.size, 0, none⟩ = some (.string NB) := (hq.at (x := (w3.heap.size, NB, DB)) 3 rfl).cell 0; have x3_1 : w15.cell? ⟨w3.heap.size, 1, none⟩ = some (.string DB) := (hq.at (x := (w3.heap.size, NB, DB)) 3 rfl).cell 1; have y3 : w3.heap.size < w15.heap.size := (hq.at (x := (w3.heap.size, NB, DB)) 3 rfl).lt; have hrow := hq.at (x := (w13.heap.size, S3, T3)) 1 rfl; obtain ⟨z0, z1, z2, z3⟩ := rat_facts hrow; replace HR := Lib.hid (hq.over (S := S5) (T := T5) (l' := [(w12.heap.size, S4, T4), (w5.heap.size, NT, DT)]) hrow (fun x hx => by (simp only [List.mem_cons, List.not_mem_nil, or_false] at hx; rcases hx with rfl | rfl <;> exact ⟨by simp, by dsimp only; omega⟩))); replace HB := Lib.hid (((below_to HB.out hb).setCell (p := ⟨w13.heap.size, 0, none⟩) (by dsimp only; omega) (.string S5)).setCell (p := ⟨w13.heap.size, 1, none⟩) (by dsimp only; omega) (.string T5)); clear hb hq hrow))
        obtain ⟨W19, hW19⟩ : ∃ W0, (w15.setCell ⟨w13.heap.size, 0, none⟩ (.string S5)).setCell ⟨w13.heap.size, 1, none⟩ (.string T5) = W0 := ⟨_, rfl⟩
        rw [hW19] at HR HB ⊢
        clear hW19
        have ee := E4.out
        have ef := E5.out
        clear O4 O5 E4 E5
        have sm := SM.out
        cases f4 with
        | false =>
          obtain ⟨ee1, ee2⟩ := ee
          clear ef
          go_quiet (fail)
          go_wp2_with fail
          all_goals
            go_ret
            exact ⟨rfl, belowN HB.out _⟩
        | true =>
          obtain ⟨ee1, ee2⟩ := ee
          cases f5 with
          | false =>
            obtain ⟨ef1, ef2⟩ := ef
            go_quiet (fail)
            go_wp2_with fail
            all_goals
              go_ret
              exact ⟨rfl, belowN HB.out _⟩
          | true =>
            obtain ⟨ef1, ef2⟩ := ef
            have CMt := Lib.hid (CM.out rfl rfl)
            have mkS : Hid (∀ u, Below w.heap.size w u → Bxs u [(w13.heap.size, S5, T5), (w12.heap.size, S4, T4), (w5.heap.size, NT, DT)] → Below w.heap.size w u ∧ Bxs u [(w13.heap.size, S5, T5), (w12.heap.size, S4, T4), (w5.heap.size, NT, DT)] ∧ u.cell? ⟨w12.heap.size, 0, none⟩ = some (.string S4) ∧ u.cell? ⟨w12.heap.size, 1, none⟩ = some (.string T4) ∧ u.cell? ⟨w13.heap.size, 0, none⟩ = some (.string S5) ∧ u.cell? ⟨w13.heap.size, 1, none⟩ = some (.string T5) ∧ u.cell? ⟨w5.heap.size, 0, none⟩ = some (.string NT) ∧ u.cell? ⟨w5.heap.size, 1, none⟩ = some (.string DT)) := Lib.hid (fun u h1 h2 => ⟨h1, h2, (h2 (w12.heap.size, S4, T4) (by simp)).cell 0, (h2 (w12.heap.size, S4, T4) (by simp)).cell 1, (h2 (w13.heap.size, S5, T5) (by simp)).cell 0, (h2 (w13.heap.size, S5, T5) (by simp)).cell 1, (h2 (w5.heap.size, NT, DT) (by simp)).cell 0, (h2 (w5.heap.size, NT, DT) (by simp)).cell 1⟩)
            go_region_held3 (fun u => Below w.heap.size w u ∧ Bxs u [(w13.heap.size, S5, T5), (w12.heap.size, S4, T4), (w5.heap.size, NT, DT)] ∧ u.cell? ⟨w12.heap.size, 0, none⟩ = some (.string S4) ∧ u.cell? ⟨w12.heap.size, 1, none⟩ = some (.string T4) ∧ u.cell? ⟨w13.heap.size, 0, none⟩ = some (.string S5) ∧ u.cell? ⟨w13.heap.size, 1, none⟩ = some (.string T5) ∧ u.cell? ⟨w5.heap.size, 0, none⟩ = some (.string NT) ∧ u.cell? ⟨w5.heap.size, 1, none⟩ = some (.string DT)) (first | assumption | (exact mkS.out _ HB.out.drew (fun x hx => (HR.out x hx).drew)) | (exact mkS.out _ (below_to (‹Below w.heap.size w _ ∧ Bxs _ _ ∧ _ ∧ _ ∧ _ ∧ _ ∧ _ ∧ _›).1 b5) ((‹Below w.heap.size w _ ∧ Bxs _ _ ∧ _ ∧ _ ∧ _ ∧ _ ∧ _ ∧ _›).2.1.below b5))) (first | (go_at_call 20; ((with_reducible refine Calls.mono (CMt.out _ ?hu) ?_); (case hu => exact HT.out.next (‹Below w.heap.size w _ ∧ Bxs _ _ ∧ _ ∧ _ ∧ _ ∧ _ ∧ _ ∧ _›).1); rintro e v1 ⟨rfl, b5⟩)) | (go_at_call 41; ((with_reducible refine Calls.mono (IS.out _ _ _ ?hu) ?_); (case hu => exact HT.out.next (‹Below w.heap.size w _ ∧ Bxs _ _ ∧ _ ∧ _ ∧ _ ∧ _ ∧ _ ∧ _›).1); rintro e v1 ⟨rfl, b5⟩)) | (go_at_call 20; ((with_reducible refine Calls.mono (KT.out _ ?hu) ?_); (case hu => exact HT.out.next (‹Below w.heap.size w _ ∧ Bxs _ _ ∧ _ ∧ _ ∧ _ ∧ _ ∧ _ ∧ _›).1); rintro e v1 ⟨rfl, b5⟩)))
            all_goals
              have HX := Lib.hid (‹Below w.heap.size w _ ∧ Bxs _ _ ∧ _ ∧ _ ∧ _ ∧ _ ∧ _ ∧ _›)
              go_wp2_with fail
              go_ret
              exact ⟨rfl, HX.out.1⟩

end Go.Proofs.YtabkodpjhpjgnaaGreatDoor
