/- The four operations and Make at fractions, and at strings that are none. -/
import Derived.Test.YtabkodpjhpjgnaaGreatDoorQi
namespace Go.Proofs.YtabkodpjhpjgnaaGreatDoor
open Go.RowKit Go.Shelf

theorem errT_dec (z : Int) : decide (errT z = 0) = okz z := by
  unfold errT
  cases h : okz z <;> simp
theorem mulT_c (a b : Int) (ha : okz a = true) (hb : okz b = true) : CallT 93 #[strOf (Lib.itoa a), strOf (Lib.itoa b)] (.tuple #[strOf (outT (a * b)), .int .i64 (errT (a * b))]) := fun u hu => Mul_ok a b u hu ha hb
theorem addT_c (a b : Int) (ha : okz a = true) (hb : okz b = true) : CallT 67 #[strOf (Lib.itoa a), strOf (Lib.itoa b)] (.tuple #[strOf (outT (a + b)), .int .i64 (errT (a + b))]) := fun u hu => Add_ok a b u hu ha hb
theorem subT_c (a b : Int) (ha : okz a = true) (hb : okz b = true) : CallT 70 #[strOf (Lib.itoa a), strOf (Lib.itoa b)] (.tuple #[strOf (outT (a - b)), .int .i64 (errT (a - b))]) := fun u hu => Sub_ok a b u hu ha hb

/-- Are the products of the definition not too large? -/
def addF (p q : Rat) : Bool := (okz (p.num * q.den) && okz ((p.den : Int) * q.den)) && (okz (q.num * p.den) && okz (p.num * q.den + q.num * p.den))
def subF (p q : Rat) : Bool := (okz (p.num * q.den) && okz ((p.den : Int) * q.den)) && (okz (q.num * p.den) && okz (p.num * q.den - q.num * p.den))
def mulF (p q : Rat) : Bool := okz (p.num * q.num) && okz ((p.den : Int) * q.den)
def divF (p q : Rat) : Bool := okz (p.num * q.den) && okz ((p.den : Int) * q.num) && !decide (q = 0)

theorem eg_Add : ∀ args w, (callFunc 67 args).run Tryz.prog w = .ok (.enter 67 args) w := enters_of Tryz.func67 (by kernel_rfl) rfl
theorem eg_Sub : ∀ args w, (callFunc 70 args).run Tryz.prog w = .ok (.enter 70 args) w := enters_of Tryz.func70 (by kernel_rfl) rfl
theorem nz_mul (p q : Rat) : (p.den : Int) * q.den ≠ 0 := Int.mul_ne_zero (Qm.den_ne p) (Qm.den_ne q)

theorem add_q (p q : Rat) (hp : okq p = true) (hq : okq q = true) (w : World) (ht : TabP w) : Calls Tryz.prog 38 #[qv p, qv q] w (BuildP (addF p q) (qv (p + q)) w) := by
  obtain ⟨p1, p2⟩ := okq_iff.1 hp
  obtain ⟨q1, q2⟩ := okq_iff.1 hq
  have hv : (vldR (Lib.itoa p.num) (Lib.itoa (p.den : Int)) && vldR (Lib.itoa q.num) (Lib.itoa (q.den : Int))) = true := by rw [vldR_q hp, vldR_q hq]; rfl
  refine add_of _ _ _ _ _ _ w ht (fun u hu => ?_)
  by_cases h3 : okz (q.num * p.den) = true
  · have := sum_any (Lib.itoa p.num) (Lib.itoa (p.den : Int)) (Lib.itoa q.num) (Lib.itoa (q.den : Int)) 67 eg_Add true true hv (bs (outT (p.num * q.den))) (bs (outT ((p.den : Int) * q.den))) (bs (outT (q.num * p.den))) (bs (outT (p.num * q.den + q.num * p.den))) (bs (Lib.itoa (p + q).num)) (bs (Lib.itoa (((p + q).den : Nat) : Int))) (errT (p.num * q.den)) (errT ((p.den : Int) * q.den)) (errT (q.num * p.den)) (errT (p.num * q.den + q.num * p.den)) u hu
      (fun _ => mulT_c _ _ p1 q2) (fun _ => mulT_c _ _ p2 q2) (fun _ => mulT_c _ _ q1 p2)
      (fun _ h => by
        rw [errT_dec, errT_dec, Bool.and_eq_true] at h
        refine ⟨_, _, rfl, rfl, ?_⟩
        rw [outT_ok h.1, outT_ok h3]
        exact addT_c _ _ h.1 h3)
      (fun _ h h' u => by
        rw [errT_dec, errT_dec, Bool.and_eq_true] at h h'
        rw [outT_ok h'.2, outT_ok h.2, ← Qm.add_eq]
        exact red_step _ _ u h'.2 h.2 (nz_mul p q))
    rw [errT_dec, errT_dec, errT_dec, errT_dec, Bool.true_and, Bool.and_true] at this
    exact this
  · have h3' : okz (q.num * p.den) = false := by simpa using h3
    have := sum_any (Lib.itoa p.num) (Lib.itoa (p.den : Int)) (Lib.itoa q.num) (Lib.itoa (q.den : Int)) 67 eg_Add true true hv (bs (outT (p.num * q.den))) (bs (outT ((p.den : Int) * q.den))) (bs (outT (q.num * p.den))) (bs []) (bs (Lib.itoa (p + q).num)) (bs (Lib.itoa (((p + q).den : Nat) : Int))) (errT (p.num * q.den)) (errT ((p.den : Int) * q.den)) (errT (q.num * p.den)) 30 u hu
      (fun _ => mulT_c _ _ p1 q2) (fun _ => mulT_c _ _ p2 q2) (fun _ => mulT_c _ _ q1 p2)
      (fun _ h => by
        refine ⟨_, _, rfl, rfl, fun u hu => ?_⟩
        have e : outT (q.num * p.den) = [] := by unfold outT; rw [if_neg h3]
        rw [e]
        exact Add_bad _ _ u (by rw [show Im.vld [] = false from rfl, Bool.and_false]))
      (fun _ h h' u => by
        rw [errT_dec, h3'] at h'; simp at h')
    have e : addF p q = (true && (decide (errT (p.num * q.den) = 0) && decide (errT ((p.den : Int) * q.den) = 0)) && (decide (errT (q.num * p.den) = 0) && decide ((30 : Int) = 0)) && true) := by
      unfold addF; rw [errT_dec, errT_dec, errT_dec, h3']; simp
    rw [e]
    exact this
theorem add_no (a1 a2 b1 b2 : List UInt8) (hv : (vldR a1 a2 && vldR b1 b2) = false) (y : Rat) (w : World) (ht : TabP w) : Calls Tryz.prog 38 #[rv a1 a2, rv b1 b2] w (BuildP false (qv y) w) :=
  add_of _ _ _ _ _ _ w ht (fun u hu => sum_any a1 a2 b1 b2 _ eg_Add false true hv ⟨#[]⟩ ⟨#[]⟩ ⟨#[]⟩ ⟨#[]⟩ _ _ 0 0 0 0 u hu (fun h => by cases h) (fun h => by cases h) (fun h => by cases h) (fun h => by cases h) (fun h => by cases h))

theorem sub_q (p q : Rat) (hp : okq p = true) (hq : okq q = true) (w : World) (ht : TabP w) : Calls Tryz.prog 40 #[qv p, qv q] w (BuildP (subF p q) (qv (p - q)) w) := by
  obtain ⟨p1, p2⟩ := okq_iff.1 hp
  obtain ⟨q1, q2⟩ := okq_iff.1 hq
  have hv : (vldR (Lib.itoa p.num) (Lib.itoa (p.den : Int)) && vldR (Lib.itoa q.num) (Lib.itoa (q.den : Int))) = true := by rw [vldR_q hp, vldR_q hq]; rfl
  refine sub_of _ _ _ _ _ _ w ht (fun u hu => ?_)
  by_cases h3 : okz (q.num * p.den) = true
  · have := sum_any (Lib.itoa p.num) (Lib.itoa (p.den : Int)) (Lib.itoa q.num) (Lib.itoa (q.den : Int)) 70 eg_Sub true true hv (bs (outT (p.num * q.den))) (bs (outT ((p.den : Int) * q.den))) (bs (outT (q.num * p.den))) (bs (outT (p.num * q.den - q.num * p.den))) (bs (Lib.itoa (p - q).num)) (bs (Lib.itoa (((p - q).den : Nat) : Int))) (errT (p.num * q.den)) (errT ((p.den : Int) * q.den)) (errT (q.num * p.den)) (errT (p.num * q.den - q.num * p.den)) u hu
      (fun _ => mulT_c _ _ p1 q2) (fun _ => mulT_c _ _ p2 q2) (fun _ => mulT_c _ _ q1 p2)
      (fun _ h => by
        rw [errT_dec, errT_dec, Bool.and_eq_true] at h
        refine ⟨_, _, rfl, rfl, ?_⟩
        rw [outT_ok h.1, outT_ok h3]
        exact subT_c _ _ h.1 h3)
      (fun _ h h' u => by
        rw [errT_dec, errT_dec, Bool.and_eq_true] at h h'
        rw [outT_ok h'.2, outT_ok h.2, ← Qm.sub_eq]
        exact red_step _ _ u h'.2 h.2 (nz_mul p q))
    rw [errT_dec, errT_dec, errT_dec, errT_dec, Bool.true_and, Bool.and_true] at this
    exact this
  · have h3' : okz (q.num * p.den) = false := by simpa using h3
    have := sum_any (Lib.itoa p.num) (Lib.itoa (p.den : Int)) (Lib.itoa q.num) (Lib.itoa (q.den : Int)) 70 eg_Sub true true hv (bs (outT (p.num * q.den))) (bs (outT ((p.den : Int) * q.den))) (bs (outT (q.num * p.den))) (bs []) (bs (Lib.itoa (p - q).num)) (bs (Lib.itoa (((p - q).den : Nat) : Int))) (errT (p.num * q.den)) (errT ((p.den : Int) * q.den)) (errT (q.num * p.den)) 30 u hu
      (fun _ => mulT_c _ _ p1 q2) (fun _ => mulT_c _ _ p2 q2) (fun _ => mulT_c _ _ q1 p2)
      (fun _ h => by
        refine ⟨_, _, rfl, rfl, fun u hu => ?_⟩
        have e : outT (q.num * p.den) = [] := by unfold outT; rw [if_neg h3]
        rw [e]
        exact Sub_bad _ _ u (by rw [show Im.vld [] = false from rfl, Bool.and_false]))
      (fun _ h h' u => by
        rw [errT_dec, h3'] at h'; simp at h')
    have e : subF p q = (true && (decide (errT (p.num * q.den) = 0) && decide (errT ((p.den : Int) * q.den) = 0)) && (decide (errT (q.num * p.den) = 0) && decide ((30 : Int) = 0)) && true) := by
      unfold subF; rw [errT_dec, errT_dec, errT_dec, h3']; simp
    rw [e]
    exact this
theorem sub_no (a1 a2 b1 b2 : List UInt8) (hv : (vldR a1 a2 && vldR b1 b2) = false) (y : Rat) (w : World) (ht : TabP w) : Calls Tryz.prog 40 #[rv a1 a2, rv b1 b2] w (BuildP false (qv y) w) :=
  sub_of _ _ _ _ _ _ w ht (fun u hu => sum_any a1 a2 b1 b2 _ eg_Sub false true hv ⟨#[]⟩ ⟨#[]⟩ ⟨#[]⟩ ⟨#[]⟩ _ _ 0 0 0 0 u hu (fun h => by cases h) (fun h => by cases h) (fun h => by cases h) (fun h => by cases h) (fun h => by cases h))

theorem mul_q (p q : Rat) (hp : okq p = true) (hq : okq q = true) (w : World) (ht : TabP w) : Calls Tryz.prog 39 #[qv p, qv q] w (BuildP (mulF p q) (qv (p * q)) w) := by
  obtain ⟨p1, p2⟩ := okq_iff.1 hp
  obtain ⟨q1, q2⟩ := okq_iff.1 hq
  have hv : (vldR (Lib.itoa p.num) (Lib.itoa (p.den : Int)) && vldR (Lib.itoa q.num) (Lib.itoa (q.den : Int))) = true := by rw [vldR_q hp, vldR_q hq]; rfl
  have := mulR_any (Lib.itoa p.num) (Lib.itoa (p.den : Int)) (Lib.itoa q.num) (Lib.itoa (q.den : Int)) true true hv (bs (outT (p.num * q.num))) (bs (outT ((p.den : Int) * q.den))) (bs (Lib.itoa (p * q).num)) (bs (Lib.itoa (((p * q).den : Nat) : Int))) (errT (p.num * q.num)) (errT ((p.den : Int) * q.den)) w ht
    (fun _ => mulT_c _ _ p1 q1) (fun _ => mulT_c _ _ p2 q2)
    (fun _ h u => by
      rw [errT_dec, errT_dec, Bool.and_eq_true] at h
      rw [outT_ok h.1, outT_ok h.2, ← Qm.mul_eq]
      exact red_step _ _ u h.1 h.2 (nz_mul p q))
  rw [errT_dec, errT_dec, Bool.true_and, Bool.and_true] at this
  exact this
theorem mul_no (a1 a2 b1 b2 : List UInt8) (hv : (vldR a1 a2 && vldR b1 b2) = false) (y : Rat) (w : World) (ht : TabP w) : Calls Tryz.prog 39 #[rv a1 a2, rv b1 b2] w (BuildP false (qv y) w) :=
  mulR_any a1 a2 b1 b2 false true hv ⟨#[]⟩ ⟨#[]⟩ _ _ 0 0 w ht (fun h => by cases h) (fun h => by cases h) (fun h => by cases h)
theorem div_q (p q : Rat) (hp : okq p = true) (hq : okq q = true) (w : World) (ht : TabP w) : Calls Tryz.prog 45 #[qv p, qv q] w (BuildP (divF p q) (qv (p / q)) w) := by
  obtain ⟨p1, p2⟩ := okq_iff.1 hp
  obtain ⟨q1, q2⟩ := okq_iff.1 hq
  have hv : (vldR (Lib.itoa p.num) (Lib.itoa (p.den : Int)) && vldR (Lib.itoa q.num) (Lib.itoa (q.den : Int))) = true := by rw [vldR_q hp, vldR_q hq]; rfl
  have hz : (q.num = 0) ↔ q = 0 := Qm.num_zero
  have := divR_any (Lib.itoa p.num) (Lib.itoa (p.den : Int)) (Lib.itoa q.num) (Lib.itoa (q.den : Int)) true (!decide (q = 0)) hv (bs (outT (p.num * q.den))) (bs (outT ((p.den : Int) * q.num))) (bs (Lib.itoa (p / q).num)) (bs (Lib.itoa (((p / q).den : Nat) : Int))) (errT (p.num * q.den)) (errT ((p.den : Int) * q.num)) w ht
    (fun _ => mulT_c _ _ p1 q2) (fun _ => mulT_c _ _ p2 q1)
    (fun _ h u => by
      rw [errT_dec, errT_dec, Bool.and_eq_true] at h
      rw [outT_ok h.1, outT_ok h.2]
      by_cases h0 : q = 0
      · rw [decide_eq_true h0]
        refine red_bad _ _ _ u (.inr ?_)
        rw [hz.2 h0, Int.mul_zero]
      · rw [decide_eq_false h0, ← Qm.div_eq]
        exact red_step _ _ u h.1 h.2 (Int.mul_ne_zero (Qm.den_ne p) (fun e => h0 (hz.1 e))))
  rw [errT_dec, errT_dec, Bool.true_and] at this
  exact this
theorem div_no (a1 a2 b1 b2 : List UInt8) (hv : (vldR a1 a2 && vldR b1 b2) = false) (y : Rat) (w : World) (ht : TabP w) : Calls Tryz.prog 45 #[rv a1 a2, rv b1 b2] w (BuildP false (qv y) w) :=
  divR_any a1 a2 b1 b2 false true hv ⟨#[]⟩ ⟨#[]⟩ _ _ 0 0 w ht (fun h => by cases h) (fun h => by cases h) (fun h => by cases h)
theorem make_q (a b : Int) (ha : okz a = true) (hb : okz b = true) (h0 : b ≠ 0) (w : World) (ht : TabP w) : Calls Tryz.prog 27 #[strOf (Lib.itoa a), strOf (Lib.itoa b)] w (BuildP true (qv (Rat.divInt a b)) w) :=
  make_any _ _ _ _ true w ht (fun u => red_step a b u ha hb h0)
theorem make_no (l r : List UInt8) (h : (Im.vld l && Im.vld r) = false ∨ r = Lib.itoa 0) (y : Rat) (w : World) (ht : TabP w) : Calls Tryz.prog 27 #[strOf l, strOf r] w (BuildP false (qv y) w) :=
  make_any l r _ _ false w ht (fun u => red_bad l r _ u h)

/-- What comes out is the same in every memory. -/
theorem out_fix (F : Nat) (args : Array Value) (f : Bool) (y : Rat) (h : ∀ u, TabP u → Calls Tryz.prog F args u (BuildP f (qv y) u)) :
    ∃ (s t : ByteArray) (er : Int), OutQ f (qv y) s t er ∧ CallT F args (.tuple #[rvB s t, .int .i64 er]) := by
  cases f with
  | true =>
    refine ⟨bs (Lib.itoa y.num), bs (Lib.itoa ((y.den : Nat) : Int)), 0, .inl ⟨rfl, rfl, rfl⟩, fun u hu => (h u hu).mono ?_⟩
    rintro e w' ⟨s, t, er, rfl, (⟨-, h1, rfl⟩ | ⟨h1, -⟩), hb⟩
    · rw [h1]; exact ⟨rfl, hb⟩
    · cases h1
  | false =>
    refine ⟨⟨#[]⟩, ⟨#[]⟩, 40, .inr ⟨rfl, rfl, rfl, rfl⟩, fun u hu => (h u hu).mono ?_⟩
    rintro e w' ⟨s, t, er, rfl, (⟨h1, -⟩ | ⟨-, rfl, rfl, rfl⟩), hb⟩
    · cases h1
    · exact ⟨rfl, hb⟩
end Go.Proofs.YtabkodpjhpjgnaaGreatDoor
