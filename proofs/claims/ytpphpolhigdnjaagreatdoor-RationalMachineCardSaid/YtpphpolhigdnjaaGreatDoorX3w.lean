/- The walk of RationalMachine. -/
import Derived.Test.YtpphpolhigdnjaaGreatDoorX3
import Derived.Test.YtpphpolhigdnjaaGreatDoorX1
import Derived.Test.YtpphpolhigdnjaaGreatDoorQm
namespace Go.Proofs.YtpphpolhigdnjaaGreatDoor
open Go.RowKit Go.Shelf

theorem num_B {a b : Int} {k : Nat} (hb : b ≠ 0) (ha : a.natAbs < k) : (Rat.divInt a b).num.natAbs < k := Nat.lt_of_le_of_lt (Qm.red_num_le a b hb) ha
theorem den_B {a b : Int} {k : Nat} (hb : b ≠ 0) (ha : b.natAbs < k) : (((Rat.divInt a b).den : Nat) : Int).natAbs < k := by
  rw [Int.natAbs_natCast]; exact Nat.lt_of_le_of_lt (Qm.red_den_le a b hb) ha
/-- The text of a fraction of two machine's numbers is read as them, and its products with the other pair are equal. -/
theorem mach_read (a b : Int) (hb : b ≠ 0) (ha : a.natAbs < 2000000000) (hbb : b.natAbs < 1000000000) :
    okq (Rat.divInt a b) = true ∧ 1 ≤ (((Rat.divInt a b).den : Nat) : Int) ∧
    CallT 37 #[strOf (Lib.itoa (Rat.divInt a b).num)] (.tuple #[.int .i64 (Rat.divInt a b).num, .int .i64 0]) ∧
    CallT 37 #[strOf (Lib.itoa (((Rat.divInt a b).den : Nat) : Int))] (.tuple #[.int .i64 (((Rat.divInt a b).den : Nat) : Int), .int .i64 0]) ∧
    CallT 29 #[qv (Rat.divInt a b)] (.bool true) ∧
    ∃ X, IntKind.i64.wrap ((Rat.divInt a b).num * b) = X ∧ IntKind.i64.wrap (a * (((Rat.divInt a b).den : Nat) : Int)) = X := by
  have h1 := num_B hb ha
  have h2 := den_B (a := a) hb hbb
  have h3 := Qm.den_pos (Rat.divInt a b)
  have h4 := Qm.cross hb (rfl : Rat.divInt a b = Rat.divInt a b)
  have hok : okq (Rat.divInt a b) = true := okq_iff.2 ⟨ok_i64 (by omega) (by omega), ok_i64 (by omega) (by omega)⟩
  refine ⟨hok, by omega, fun u _ => rToInt_ok _ u (by omega) (by omega), fun u _ => rToInt_ok _ u (by omega) (by omega), val_q _ hok, _, rfl, ?_⟩
  rw [h4]
theorem absm {a b : Int} {j k : Nat} (ha : a.natAbs ≤ j) (hb : b.natAbs ≤ k) : (a * b).natAbs ≤ j * k := by
  rw [Int.natAbs_mul]; exact Nat.mul_le_mul ha hb
theorem machine_walk (n d m c : Int) (bn : -9223372036854775808 ≤ n ∧ n ≤ 9223372036854775807) (bd : -9223372036854775808 ≤ d ∧ d ≤ 9223372036854775807) (bm : -9223372036854775808 ≤ m ∧ m ≤ 9223372036854775807) (bc : -9223372036854775808 ≤ c ∧ c ≤ 9223372036854775807) (w : World) (ht : TabP w) :
    Calls Tryz.prog 5 #[.int .i64 n, .int .i64 d, .int .i64 m, .int .i64 c] w fun e w' => e = .returned (.bool true) ∧ Below w.heap.size w w' := by
  have P1 := pickL_any n 60001 (by decide) (by decide) bn.1 bn.2
  have P2 := pickL_any m 60001 (by decide) (by decide) bm.1 bm.2
  have P3 := pickL_any d 30000 (by decide) (by decide) bd.1 bd.2
  have P4 := pickL_any c 30000 (by decide) (by decide) bc.1 bc.2
  have l1 := pickN_lt n 60001 (by decide)
  have l2 := pickN_lt m 60001 (by decide)
  have l3 := pickN_lt d 30000 (by decide)
  have l4 := pickN_lt c 30000 (by decide)
  generalize pickN n 60001 = xn at *
  generalize pickN m 60001 = xm at *
  generalize pickN d 30000 = xd at *
  generalize pickN c 30000 = xc at *
  have hN : ((xn : Int) - 30000).natAbs ≤ 30000 := by omega
  have hM : ((xm : Int) - 30000).natAbs ≤ 30000 := by omega
  have hD : (1 + (xd : Int)).natAbs ≤ 30000 := by omega
  have hC : (1 + (xc : Int)).natAbs ≤ 30000 := by omega
  have d0 : 0 < 1 + (xd : Int) := by omega
  have c0 : 0 < 1 + (xc : Int) := by omega
  have i1 : -9223372036854775808 ≤ (xn : Int) - 30000 ∧ (xn : Int) - 30000 ≤ 9223372036854775807 := by omega
  have i2 : -9223372036854775808 ≤ (xm : Int) - 30000 ∧ (xm : Int) - 30000 ≤ 9223372036854775807 := by omega
  have i3 : -9223372036854775808 ≤ 1 + (xd : Int) ∧ 1 + (xd : Int) ≤ 9223372036854775807 := by omega
  have i4 : -9223372036854775808 ≤ 1 + (xc : Int) ∧ 1 + (xc : Int) ≤ 9223372036854775807 := by omega
  have O1 := of_c ((xn : Int) - 30000) (1 + (xd : Int)) i1.1 i1.2 i3.1 i3.2 (by omega)
  have O2 := of_c ((xm : Int) - 30000) (1 + (xc : Int)) i2.1 i2.2 i4.1 i4.2 (by omega)
  generalize hNe : (xn : Int) - 30000 = N at *
  generalize hMe : (xm : Int) - 30000 = M at *
  generalize hDe : 1 + (xd : Int) = D at *
  generalize hCe : 1 + (xc : Int) = C at *
  have a1 := absm hN hC
  have a2 := absm hM hD
  have a3 := absm hD hC
  have a4 := absm hN hM
  have a5 := absm hD hM
  have dc0 : D * C ≠ 0 := Int.mul_ne_zero (by omega) (by omega)
  obtain ⟨R0, R0d, R0n, R0e, R0v, X0, R0x, R0y⟩ := mach_read (N * C + M * D) (D * C) dc0 (by omega) (by omega)
  obtain ⟨R1, R1d, R1n, R1e, R1v, X1, R1x, R1y⟩ := mach_read (N * C - M * D) (D * C) dc0 (by omega) (by omega)
  obtain ⟨R2, R2d, R2n, R2e, R2v, X2, R2x, R2y⟩ := mach_read (N * M) (D * C) dc0 (by omega) (by omega)
  obtain ⟨RA, -, -, -, -, -⟩ := mach_read N D (by omega) (by omega) (by omega)
  obtain ⟨RB, -, -, -, -, -⟩ := mach_read M C (by omega) (by omega) (by omega)
  have g0 := Qm.add4 N D M C (by omega) (by omega)
  have g1 := Qm.sub4 N D M C (by omega) (by omega)
  have g2 := Qm.mul4 N D M C
  have g3 := Qm.div4 N D M C
  have gc := Qm.cmp_of N D M C d0 c0
  have pn := num_B (a := N) (b := D) (k := 30001) (by omega) (by omega)
  have pd := den_B (a := N) (b := D) (k := 30001) (by omega) (by omega)
  have qn := num_B (a := M) (b := C) (k := 30001) (by omega) (by omega)
  have qd := den_B (a := M) (b := C) (k := 30001) (by omega) (by omega)
  have qz : Rat.divInt M C = 0 ↔ M = 0 := ⟨fun e => by
    have h := Qm.cross (by omega) e
    rw [show (0 : Rat).num = 0 from rfl, show (((0 : Rat).den : Nat) : Int) = 1 from rfl, Int.zero_mul, Int.mul_one] at h
    exact h.symm, fun e => by rw [e, Rat.zero_divInt]⟩
  generalize Rat.divInt N D = p at *
  generalize Rat.divInt M C = q at *
  have f1 := absm (Nat.le_of_lt_succ pn) (Nat.le_of_lt_succ qd)
  have f2 := absm (Nat.le_of_lt_succ qn) (Nat.le_of_lt_succ pd)
  have f3 := absm (Nat.le_of_lt_succ pd) (Nat.le_of_lt_succ qd)
  have f4 := absm (Nat.le_of_lt_succ pn) (Nat.le_of_lt_succ qn)
  have f5 := absm (Nat.le_of_lt_succ pd) (Nat.le_of_lt_succ qn)
  have k1 : okz (p.num * ((q.den : Nat) : Int)) = true := ok_i64 (by omega) (by omega)
  have k2 : okz (q.num * ((p.den : Nat) : Int)) = true := ok_i64 (by omega) (by omega)
  have k3 : okz (((p.den : Nat) : Int) * ((q.den : Nat) : Int)) = true := ok_i64 (by omega) (by omega)
  have k4 : okz (p.num * q.num) = true := ok_i64 (by omega) (by omega)
  have k5 : okz (((p.den : Nat) : Int) * q.num) = true := ok_i64 (by omega) (by omega)
  have k6 : okz (p.num * ((q.den : Nat) : Int) + q.num * ((p.den : Nat) : Int)) = true := ok_i64 (by omega) (by omega)
  have k7 : okz (p.num * ((q.den : Nat) : Int) - q.num * ((p.den : Nat) : Int)) = true := ok_i64 (by omega) (by omega)
  have AD : CallT 38 #[qv p, qv q] (.tuple #[qv (p + q), .int .i64 0]) := built _ _ _ fun u hu => by
    have h := add_q p q RA RB u hu
    have hf : addF p q = true := by unfold addF; rw [k1, k2, k3, k6]; rfl
    rw [hf] at h; exact h
  have SU : CallT 40 #[qv p, qv q] (.tuple #[qv (p - q), .int .i64 0]) := built _ _ _ fun u hu => by
    have h := sub_q p q RA RB u hu
    have hf : subF p q = true := by unfold subF; rw [k1, k2, k3, k7]; rfl
    rw [hf] at h; exact h
  have MU : CallT 39 #[qv p, qv q] (.tuple #[qv (p * q), .int .i64 0]) := built _ _ _ fun u hu => by
    have h := mul_q p q RA RB u hu
    have hf : mulF p q = true := by unfold mulF; rw [k4, k3]; rfl
    rw [hf] at h; exact h
  rw [← g0] at AD
  rw [← g1] at SU
  rw [← g2] at MU
  have HK : (N * C < M * D ∧ Qm.qcmp p q = -1) ∨ (M * D < N * C ∧ Qm.qcmp p q = 1) ∨ (N * C = M * D ∧ Qm.qcmp p q = 0) := by
    rw [gc]; unfold Qm.cmp4
    split
    · exact .inl ⟨by assumption, rfl⟩
    · split
      · exact .inr (.inl ⟨by assumption, rfl⟩)
      · exact .inr (.inr ⟨by omega, rfl⟩)
  by_cases hm : M = 0
  · have DI : CallT 45 #[qv p, qv q] (.tuple #[rvB ⟨#[]⟩ ⟨#[]⟩, .int .i64 40]) := failed _ _ (qv (p / q)) fun u hu => by
      have h := div_q p q RA RB u hu
      have hf : divF p q = false := by unfold divF; rw [decide_eq_true (qz.2 hm), Bool.not_true, Bool.and_false]
      rw [hf] at h; exact h
    subst hNe hMe hDe hCe
    exact machine_core n d m c xn xm xd xc l1 l2 l3 l4 P1 P2 P3 P4 _ _ _ _ _ rfl rfl rfl rfl rfl (by omega) (by omega) (by omega) (by omega) (by omega) _ _ _ _ _ _ _ _ _ _ _ _ _ _ O1 O2 (four_c _ _ _ _ _ _ _ _ _ _ _ _ 0 0 0 _ AD SU MU DI) (cmp_q p q RA RB) HK _ _ X0 R0d R0n R0e R0v R0x R0y _ _ X1 R1d R1n R1e R1v R1x R1y _ _ X2 R2d R2n R2e R2v R2x R2y 0 0 0 (fun h => absurd hm h) (fun h => absurd hm h) (fun h => absurd hm h) (fun h => absurd hm h) (fun h => absurd hm h) (fun h => absurd hm h) (fun _ => ⟨rfl, rfl, rfl⟩) (fun h => absurd hm h) w ht
  · obtain ⟨R3, R3d, R3n, R3e, R3v, X3, R3x, R3y⟩ := mach_read (N * C) (D * M) (Int.mul_ne_zero (by omega) hm) (by omega) (by omega)
    have DI : CallT 45 #[qv p, qv q] (.tuple #[qv (p / q), .int .i64 0]) := built _ _ _ fun u hu => by
      have h := div_q p q RA RB u hu
      have hf : divF p q = true := by unfold divF; rw [k1, k5, decide_eq_false (fun e => hm (qz.1 e))]; rfl
      rw [hf] at h; exact h
    rw [← g3] at DI
    subst hNe hMe hDe hCe
    exact machine_core n d m c xn xm xd xc l1 l2 l3 l4 P1 P2 P3 P4 _ _ _ _ _ rfl rfl rfl rfl rfl (by omega) (by omega) (by omega) (by omega) (by omega) _ _ _ _ _ _ _ _ _ _ _ _ _ _ O1 O2 (four_c _ _ _ _ _ _ _ _ _ _ _ _ 0 0 0 _ AD SU MU DI) (cmp_q p q RA RB) HK _ _ X0 R0d R0n R0e R0v R0x R0y _ _ X1 R1d R1n R1e R1v R1x R1y _ _ X2 R2d R2n R2e R2v R2x R2y _ _ X3 (fun _ => R3d) (fun _ => R3n) (fun _ => R3e) (fun _ => R3v) (fun _ => R3x) (fun _ => R3y) (fun h => absurd h hm) (fun _ => rfl) w ht
end Go.Proofs.YtpphpolhigdnjaaGreatDoor
