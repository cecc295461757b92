/- The four operations: the program and the reference answer alike at every two fractions. -/
import Derived.Test.YtabkodpjhpjgnaaGreatDoorRx4
namespace Go.Proofs.YtabkodpjhpjgnaaGreatDoor
open Go.RowKit Go.Shelf

theorem errT_beq (z : Int) : (errT z == 0) = okz z := by
  unfold errT
  cases okz z <;> rfl
theorem errT_zero {z : Int} (h : errT z = 0) : okz z = true := by rw [← errT_beq]; exact beq_iff_eq.2 h
theorem rmulX (a b : Int) (ha : okz a = true) (hb : okz b = true) : CallT 44 #[strOf (Lib.itoa a), strOf (Lib.itoa b)] (.tuple #[strOf (outT (a * b)), .int .i64 (errT (a * b))]) := fun u _ => rMul_ok a b u ha hb
theorem raddX (a b : Int) (ha : okz a = true) (hb : okz b = true) : CallT 48 #[strOf (Lib.itoa a), strOf (Lib.itoa b)] (.tuple #[strOf (outT (a + b)), .int .i64 (errT (a + b))]) := fun u _ => rAdd_ok a b u ha hb
theorem rsubX (a b : Int) (ha : okz a = true) (hb : okz b = true) : CallT 49 #[strOf (Lib.itoa a), strOf (Lib.itoa b)] (.tuple #[strOf (outT (a - b)), .int .i64 (errT (a - b))]) := fun u _ => rSub_ok a b u ha hb
theorem rvalid_q {q : Rat} (h : okq q = true) : CallT 30 #[qv q] (.bool true) := by
  obtain ⟨q1, q2⟩ := okq_iff.1 h
  have n1 := itoa_len q1
  have n2 := itoa_len q2
  have V := rvalid4_c (Lib.itoa q.num) (Lib.itoa ((q.den : Nat) : Int)) (by omega) (by omega)
  rw [vldR_q h] at V; exact V
/-- cross at two fractions. -/
theorem rcross_q (p q : Rat) (hp : okq p = true) (hq : okq q = true) : ∃ (x y d : ByteArray) (ok : Bool), CallT 47 #[qv p, qv q] (.tuple #[.string x, .string y, .string d, .bool ok]) ∧
    ok = (okz (p.num * q.den) && okz (q.num * p.den) && okz ((p.den : Int) * q.den)) ∧ (ok = true → x = bs (Lib.itoa (p.num * q.den)) ∧ y = bs (Lib.itoa (q.num * p.den)) ∧ d = bs (Lib.itoa ((p.den : Int) * q.den))) := by
  obtain ⟨p1, p2⟩ := okq_iff.1 hp
  obtain ⟨q1, q2⟩ := okq_iff.1 hq
  obtain ⟨x, y, d, ok, C, h⟩ := rcross_walk _ _ _ _ _ _ _ true true _ _ _ (rvalid_q hp) (rvalid_q hq) (fun _ => rmulX _ _ p1 q2) (fun _ => rmulX _ _ q1 p2) (fun _ => rmulX _ _ p2 q2)
  rcases h with ⟨h, -⟩ | ⟨-, rfl, rfl, rfl, h⟩
  · cases h
  · rw [errT_beq, errT_beq, errT_beq] at h
    refine ⟨_, _, _, ok, C, h, fun e => ?_⟩
    rw [e] at h
    have h' := h.symm
    simp only [Bool.and_eq_true] at h'
    rw [outT_ok h'.1.1, outT_ok h'.1.2, outT_ok h'.2]
    exact ⟨rfl, rfl, rfl⟩
theorem rcross_no (a1 a2 b1 b2 : List UInt8) (l1 : a1.length ≤ 1000000) (l2 : a2.length ≤ 1000000) (l3 : b1.length ≤ 1000000) (l4 : b2.length ≤ 1000000) (h : (vldR a1 a2 && vldR b1 b2) = false) :
    ∃ (x y d : ByteArray), CallT 47 #[rv a1 a2, rv b1 b2] (.tuple #[.string x, .string y, .string d, .bool false]) := by
  obtain ⟨x, y, d, ok, C, hc⟩ := rcross_walk (bs a1) (bs a2) (bs b1) (bs b2) ⟨#[]⟩ ⟨#[]⟩ ⟨#[]⟩ _ _ 0 0 0 (rvalid4_c a1 a2 l1 l2) (rvalid4_c b1 b2 l3 l4) (fun e => by rw [h] at e; cases e) (fun e => by rw [h] at e; cases e) (fun e => by rw [h] at e; cases e)
  rcases hc with ⟨-, rfl⟩ | ⟨hc, -⟩
  · exact ⟨x, y, d, C⟩
  · rw [h] at hc; cases hc
theorem radd_out (p q : Rat) (hp : okq p = true) (hq : okq q = true) : ∃ (s t : ByteArray) (er : Int), OutQ (addF p q) (qv (p + q)) s t er ∧ CallT 16 #[qv p, qv q] (.tuple #[rvB s t, .int .i64 er]) := by
  obtain ⟨x, y, d, ok, C, hok, hx⟩ := rcross_q p q hp hq
  have hF : addF p q = (ok && okz (p.num * q.den + q.num * p.den)) := by
    rw [hok]; unfold addF
    generalize okz (p.num * q.den) = b1
    generalize okz (q.num * p.den) = b2
    generalize okz ((p.den : Int) * q.den) = b3
    generalize okz (p.num * q.den + q.num * p.den) = b4
    cases b1 <;> cases b2 <;> cases b3 <;> cases b4 <;> rfl
  rw [hF]
  cases ok with
  | false => exact ⟨⟨#[]⟩, ⟨#[]⟩, 40, .inr ⟨rfl, rfl, rfl, rfl⟩, radd_walk _ _ _ _ _ _ _ ⟨#[]⟩ ⟨#[]⟩ ⟨#[]⟩ _ _ false 0 0 40 C (fun h => by cases h) (fun h => by cases h) (fun _ => ⟨rfl, rfl, rfl⟩) (fun h => by cases h) (fun h => by cases h)⟩
  | true =>
    obtain ⟨rfl, rfl, rfl⟩ := hx rfl
    have h' := hok.symm
    simp only [Bool.and_eq_true] at h'
    obtain ⟨⟨k1, k2⟩, k3⟩ := h'
    have AD := raddX _ _ k1 k2
    rw [Bool.true_and]
    cases kz : okz (p.num * q.den + q.num * p.den) with
    | false =>
      have he : ¬ errT (p.num * q.den + q.num * p.den) = 0 := fun e => by rw [errT_zero e] at kz; cases kz
      exact ⟨⟨#[]⟩, ⟨#[]⟩, 40, .inr ⟨rfl, rfl, rfl, rfl⟩, radd_walk _ _ _ _ _ _ _ _ ⟨#[]⟩ ⟨#[]⟩ _ _ true _ 0 40 C (fun _ => AD) (fun _ e => absurd e he) (fun h => by cases h) (fun _ _ => ⟨rfl, rfl, rfl⟩) (fun _ e => absurd e he)⟩
    | true =>
      have MK := rmake_ok _ _ kz k3 (nz_mul p q)
      rw [Qm.add_eq] at MK
      rw [outT_ok kz, errT_ok kz] at AD
      exact ⟨_, _, 0, .inl ⟨rfl, rfl, rfl⟩, radd_walk _ _ _ _ _ _ _ _ _ _ _ _ true 0 0 0 C (fun _ => AD) (fun _ _ => MK) (fun h => by cases h) (fun _ h => absurd rfl h) (fun _ _ => ⟨rfl, rfl, rfl⟩)⟩
theorem rsub_out (p q : Rat) (hp : okq p = true) (hq : okq q = true) : ∃ (s t : ByteArray) (er : Int), OutQ (subF p q) (qv (p - q)) s t er ∧ CallT 17 #[qv p, qv q] (.tuple #[rvB s t, .int .i64 er]) := by
  obtain ⟨x, y, d, ok, C, hok, hx⟩ := rcross_q p q hp hq
  have hF : subF p q = (ok && okz (p.num * q.den - q.num * p.den)) := by
    rw [hok]; unfold subF
    generalize okz (p.num * q.den) = b1
    generalize okz (q.num * p.den) = b2
    generalize okz ((p.den : Int) * q.den) = b3
    generalize okz (p.num * q.den - q.num * p.den) = b4
    cases b1 <;> cases b2 <;> cases b3 <;> cases b4 <;> rfl
  rw [hF]
  cases ok with
  | false => exact ⟨⟨#[]⟩, ⟨#[]⟩, 40, .inr ⟨rfl, rfl, rfl, rfl⟩, rsub_walk _ _ _ _ _ _ _ ⟨#[]⟩ ⟨#[]⟩ ⟨#[]⟩ _ _ false 0 0 40 C (fun h => by cases h) (fun h => by cases h) (fun _ => ⟨rfl, rfl, rfl⟩) (fun h => by cases h) (fun h => by cases h)⟩
  | true =>
    obtain ⟨rfl, rfl, rfl⟩ := hx rfl
    have h' := hok.symm
    simp only [Bool.and_eq_true] at h'
    obtain ⟨⟨k1, k2⟩, k3⟩ := h'
    have AD := rsubX _ _ k1 k2
    rw [Bool.true_and]
    cases kz : okz (p.num * q.den - q.num * p.den) with
    | false =>
      have he : ¬ errT (p.num * q.den - q.num * p.den) = 0 := fun e => by rw [errT_zero e] at kz; cases kz
      exact ⟨⟨#[]⟩, ⟨#[]⟩, 40, .inr ⟨rfl, rfl, rfl, rfl⟩, rsub_walk _ _ _ _ _ _ _ _ ⟨#[]⟩ ⟨#[]⟩ _ _ true _ 0 40 C (fun _ => AD) (fun _ e => absurd e he) (fun h => by cases h) (fun _ _ => ⟨rfl, rfl, rfl⟩) (fun _ e => absurd e he)⟩
    | true =>
      have MK := rmake_ok _ _ kz k3 (nz_mul p q)
      rw [Qm.sub_eq] at MK
      rw [outT_ok kz, errT_ok kz] at AD
      exact ⟨_, _, 0, .inl ⟨rfl, rfl, rfl⟩, rsub_walk _ _ _ _ _ _ _ _ _ _ _ _ true 0 0 0 C (fun _ => AD) (fun _ _ => MK) (fun h => by cases h) (fun _ h => absurd rfl h) (fun _ _ => ⟨rfl, rfl, rfl⟩)⟩
theorem rmul_out (p q : Rat) (hp : okq p = true) (hq : okq q = true) : ∃ (s t : ByteArray) (er : Int), OutQ (mulF p q) (qv (p * q)) s t er ∧ CallT 18 #[qv p, qv q] (.tuple #[rvB s t, .int .i64 er]) := by
  obtain ⟨p1, p2⟩ := okq_iff.1 hp
  obtain ⟨q1, q2⟩ := okq_iff.1 hq
  have M1 := rmulX _ _ p1 q1
  have M2 := rmulX _ _ p2 q2
  cases hF : mulF p q with
  | false =>
    have he : ¬ (errT (p.num * q.num) = 0 ∧ errT ((p.den : Int) * q.den) = 0) := fun e => by
      unfold mulF at hF; rw [errT_zero e.1, errT_zero e.2] at hF; cases hF
    exact ⟨⟨#[]⟩, ⟨#[]⟩, 40, .inr ⟨rfl, rfl, rfl, rfl⟩, rmul_walk _ _ _ _ _ _ ⟨#[]⟩ ⟨#[]⟩ _ _ true true _ _ 0 40 (rvalid_q hp) (rvalid_q hq) (fun _ => M1) (fun _ => M2) (fun _ e f => absurd ⟨e, f⟩ he) (fun h => by cases h) (fun _ _ => ⟨rfl, rfl, rfl⟩) (fun _ e f => absurd ⟨e, f⟩ he)⟩
  | true =>
    unfold mulF at hF
    simp only [Bool.and_eq_true] at hF
    have MK := rmake_ok _ _ hF.1 hF.2 (nz_mul p q)
    rw [Qm.mul_eq] at MK
    rw [outT_ok hF.1, errT_ok hF.1] at M1
    rw [outT_ok hF.2, errT_ok hF.2] at M2
    exact ⟨_, _, 0, .inl ⟨rfl, rfl, rfl⟩, rmul_walk _ _ _ _ _ _ _ _ _ _ true true 0 0 0 0 (rvalid_q hp) (rvalid_q hq) (fun _ => M1) (fun _ => M2) (fun _ _ _ => MK) (fun h => by cases h) (fun _ h => absurd ⟨rfl, rfl⟩ h) (fun _ _ _ => ⟨rfl, rfl, rfl⟩)⟩
theorem rdiv_out (p q : Rat) (hp : okq p = true) (hq : okq q = true) : ∃ (s t : ByteArray) (er : Int), OutQ (divF p q) (qv (p / q)) s t er ∧ CallT 19 #[qv p, qv q] (.tuple #[rvB s t, .int .i64 er]) := by
  obtain ⟨p1, p2⟩ := okq_iff.1 hp
  obtain ⟨q1, q2⟩ := okq_iff.1 hq
  have M1 := rmulX _ _ p1 q2
  have M2 := rmulX _ _ p2 q1
  by_cases hk : okz (p.num * q.den) = true ∧ okz ((p.den : Int) * q.num) = true
  · obtain ⟨k1, k2⟩ := hk
    rw [outT_ok k1, errT_ok k1] at M1
    rw [outT_ok k2, errT_ok k2] at M2
    by_cases hz : q = 0
    · have hF : divF p q = false := by unfold divF; rw [decide_eq_true hz, Bool.not_true, Bool.and_false]
      have n1 := itoa_len k1
      have MK := rmake_bad (Lib.itoa (p.num * q.den)) (Lib.itoa ((p.den : Int) * q.num)) (by omega) (by have := itoa_len k2; omega) (.inr (by rw [Qm.num_zero.2 hz, Int.mul_zero]))
      rw [hF]
      exact ⟨⟨#[]⟩, ⟨#[]⟩, 40, .inr ⟨rfl, rfl, rfl, rfl⟩, rdiv_walk _ _ _ _ _ _ _ _ _ _ true true 0 0 40 40 (rvalid_q hp) (rvalid_q hq) (fun _ => M1) (fun _ => M2) (fun _ _ _ => MK) (fun h => by cases h) (fun _ h => absurd ⟨rfl, rfl⟩ h) (fun _ _ _ => ⟨rfl, rfl, rfl⟩)⟩
    · have hF : divF p q = true := by unfold divF; rw [k1, k2, decide_eq_false hz]; rfl
      have MK := rmake_ok _ _ k1 k2 (Int.mul_ne_zero (Qm.den_ne p) (fun e => hz (Qm.num_zero.1 e)))
      rw [Qm.div_eq] at MK
      rw [hF]
      exact ⟨_, _, 0, .inl ⟨rfl, rfl, rfl⟩, rdiv_walk _ _ _ _ _ _ _ _ _ _ true true 0 0 0 0 (rvalid_q hp) (rvalid_q hq) (fun _ => M1) (fun _ => M2) (fun _ _ _ => MK) (fun h => by cases h) (fun _ h => absurd ⟨rfl, rfl⟩ h) (fun _ _ _ => ⟨rfl, rfl, rfl⟩)⟩
  · have hF : divF p q = false := by
      unfold divF
      cases k1 : okz (p.num * q.den) <;> cases k2 : okz ((p.den : Int) * q.num) <;> first | rfl | exact absurd ⟨k1, k2⟩ hk
    have he : ¬ (errT (p.num * q.den) = 0 ∧ errT ((p.den : Int) * q.num) = 0) := fun e => hk ⟨errT_zero e.1, errT_zero e.2⟩
    rw [hF]
    exact ⟨⟨#[]⟩, ⟨#[]⟩, 40, .inr ⟨rfl, rfl, rfl, rfl⟩, rdiv_walk _ _ _ _ _ _ ⟨#[]⟩ ⟨#[]⟩ _ _ true true _ _ 0 40 (rvalid_q hp) (rvalid_q hq) (fun _ => M1) (fun _ => M2) (fun _ e f => absurd ⟨e, f⟩ he) (fun h => by cases h) (fun _ _ => ⟨rfl, rfl, rfl⟩) (fun _ e f => absurd ⟨e, f⟩ he)⟩
/-- Both sides return the same. -/
def SameQ (F G : Nat) (args : Array Value) : Prop := ∃ (S T : ByteArray) (er : Int), CallT F args (.tuple #[rvB S T, .int .i64 er]) ∧ CallT G args (.tuple #[rvB S T, .int .i64 er])
theorem same_op (F G : Nat) (opF : Rat → Rat → Bool) (op : Rat → Rat → Rat)
    (hq : ∀ p q : Rat, okq p = true → okq q = true → ∃ (s t : ByteArray) (er : Int), OutQ (opF p q) (qv (op p q)) s t er ∧ CallT F #[qv p, qv q] (.tuple #[rvB s t, .int .i64 er]))
    (hr : ∀ p q : Rat, okq p = true → okq q = true → ∃ (s t : ByteArray) (er : Int), OutQ (opF p q) (qv (op p q)) s t er ∧ CallT G #[qv p, qv q] (.tuple #[rvB s t, .int .i64 er]))
    (hn : ∀ (a1 a2 b1 b2 : List UInt8), (vldR a1 a2 && vldR b1 b2) = false → ∀ u, TabP u → Calls Tryz.prog F #[rv a1 a2, rv b1 b2] u (BuildP false (qv 0) u))
    (hm : ∀ (a1 a2 b1 b2 : List UInt8), a1.length ≤ 1000000 → a2.length ≤ 1000000 → b1.length ≤ 1000000 → b2.length ≤ 1000000 → (vldR a1 a2 && vldR b1 b2) = false → CallT G #[rv a1 a2, rv b1 b2] (.tuple #[rvB ⟨#[]⟩ ⟨#[]⟩, .int .i64 40]))
    (a1 a2 b1 b2 : List UInt8) (l1 : a1.length ≤ 1000000) (l2 : a2.length ≤ 1000000) (l3 : b1.length ≤ 1000000) (l4 : b2.length ≤ 1000000) : SameQ F G #[rv a1 a2, rv b1 b2] := by
  cases hv : (vldR a1 a2 && vldR b1 b2) with
  | false => exact ⟨_, _, _, failed F _ (qv 0) (hn _ _ _ _ hv), hm _ _ _ _ l1 l2 l3 l4 hv⟩
  | true =>
    simp only [Bool.and_eq_true] at hv
    obtain ⟨p, hp, rfl, rfl⟩ := vldR_of hv.1
    obtain ⟨q, hq', rfl, rfl⟩ := vldR_of hv.2
    obtain ⟨s, t, er, ho, hc⟩ := hq p q hp hq'
    obtain ⟨s', t', er', ho', hc'⟩ := hr p q hp hq'
    obtain ⟨rfl, rfl, rfl⟩ := ho.same ho'
    exact ⟨_, _, _, hc, hc'⟩
theorem same_add (a1 a2 b1 b2 : List UInt8) (l1 : a1.length ≤ 1000000) (l2 : a2.length ≤ 1000000) (l3 : b1.length ≤ 1000000) (l4 : b2.length ≤ 1000000) : SameQ 38 16 #[rv a1 a2, rv b1 b2] := same_op 38 16 addF (· + ·) add_out radd_out (fun a1 a2 b1 b2 h u hu => add_no a1 a2 b1 b2 h 0 u hu) (fun a1 a2 b1 b2 l1 l2 l3 l4 h => by
  obtain ⟨x, y, d, C⟩ := rcross_no a1 a2 b1 b2 l1 l2 l3 l4 h
  exact radd_walk _ _ _ _ _ _ _ ⟨#[]⟩ ⟨#[]⟩ ⟨#[]⟩ _ _ false 0 0 40 C (fun h => by cases h) (fun h => by cases h) (fun _ => ⟨rfl, rfl, rfl⟩) (fun h => by cases h) (fun h => by cases h)) a1 a2 b1 b2 l1 l2 l3 l4
theorem same_sub (a1 a2 b1 b2 : List UInt8) (l1 : a1.length ≤ 1000000) (l2 : a2.length ≤ 1000000) (l3 : b1.length ≤ 1000000) (l4 : b2.length ≤ 1000000) : SameQ 40 17 #[rv a1 a2, rv b1 b2] := same_op 40 17 subF (· - ·) sub_out rsub_out (fun a1 a2 b1 b2 h u hu => sub_no a1 a2 b1 b2 h 0 u hu) (fun a1 a2 b1 b2 l1 l2 l3 l4 h => by
  obtain ⟨x, y, d, C⟩ := rcross_no a1 a2 b1 b2 l1 l2 l3 l4 h
  exact rsub_walk _ _ _ _ _ _ _ ⟨#[]⟩ ⟨#[]⟩ ⟨#[]⟩ _ _ false 0 0 40 C (fun h => by cases h) (fun h => by cases h) (fun _ => ⟨rfl, rfl, rfl⟩) (fun h => by cases h) (fun h => by cases h)) a1 a2 b1 b2 l1 l2 l3 l4
theorem same_mul (a1 a2 b1 b2 : List UInt8) (l1 : a1.length ≤ 1000000) (l2 : a2.length ≤ 1000000) (l3 : b1.length ≤ 1000000) (l4 : b2.length ≤ 1000000) : SameQ 39 18 #[rv a1 a2, rv b1 b2] := same_op 39 18 mulF (· * ·) mul_out rmul_out (fun a1 a2 b1 b2 h u hu => mul_no a1 a2 b1 b2 h 0 u hu) (fun a1 a2 b1 b2 l1 l2 l3 l4 h =>
  rmul_walk _ _ _ _ ⟨#[]⟩ ⟨#[]⟩ ⟨#[]⟩ ⟨#[]⟩ _ _ _ _ 0 0 0 40 (rvalid4_c a1 a2 l1 l2) (rvalid4_c b1 b2 l3 l4) (fun e => by rw [h] at e; cases e) (fun e => by rw [h] at e; cases e) (fun e => by rw [h] at e; cases e) (fun _ => ⟨rfl, rfl, rfl⟩) (fun e => by rw [h] at e; cases e) (fun e => by rw [h] at e; cases e)) a1 a2 b1 b2 l1 l2 l3 l4
theorem same_div (a1 a2 b1 b2 : List UInt8) (l1 : a1.length ≤ 1000000) (l2 : a2.length ≤ 1000000) (l3 : b1.length ≤ 1000000) (l4 : b2.length ≤ 1000000) : SameQ 45 19 #[rv a1 a2, rv b1 b2] := same_op 45 19 divF (· / ·) div_out rdiv_out (fun a1 a2 b1 b2 h u hu => div_no a1 a2 b1 b2 h 0 u hu) (fun a1 a2 b1 b2 l1 l2 l3 l4 h =>
  rdiv_walk _ _ _ _ ⟨#[]⟩ ⟨#[]⟩ ⟨#[]⟩ ⟨#[]⟩ _ _ _ _ 0 0 0 40 (rvalid4_c a1 a2 l1 l2) (rvalid4_c b1 b2 l3 l4) (fun e => by rw [h] at e; cases e) (fun e => by rw [h] at e; cases e) (fun e => by rw [h] at e; cases e) (fun _ => ⟨rfl, rfl, rfl⟩) (fun e => by rw [h] at e; cases e) (fun e => by rw [h] at e; cases e)) a1 a2 b1 b2 l1 l2 l3 l4
end Go.Proofs.YtabkodpjhpjgnaaGreatDoor
