/- Make, Of, Valid and the rest: what both sides answer alike, bundled. -/
import Derived.Test.YtabkodpjhpjgnaaGreatDoorRt4
import Derived.Test.YtabkodpjhpjgnaaGreatDoorQx
import Derived.Test.YtabkodpjhpjgnaaGreatDoorX8a
namespace Go.Proofs.YtabkodpjhpjgnaaGreatDoor
open Go.RowKit Go.Shelf

theorem same_make (l r : List UInt8) (hl : l.length ≤ 1000000) (hr : r.length ≤ 1000000) : SameQ 27 28 #[strOf l, strOf r] := by
  rcases split2 l r with h | ⟨a, b, rfl, rfl, ha, hb⟩
  · exact ⟨⟨#[]⟩, ⟨#[]⟩, 40, failed _ _ (qv 0) fun u hu => make_no l r (.inl h) 0 u hu, rmake_bad l r hl hr (.inl h)⟩
  · by_cases h0 : b = 0
    · subst h0
      exact ⟨⟨#[]⟩, ⟨#[]⟩, 40, failed _ _ (qv 0) fun u hu => make_no _ _ (.inr rfl) 0 u hu, rmake_bad _ _ hl hr (.inr rfl)⟩
    · exact ⟨_, _, 0, built _ _ _ fun u hu => make_q a b ha hb h0 u hu, rmake_ok a b ha hb h0⟩
theorem same_of (n d : Int) (h0 : -9223372036854775808 ≤ n ∧ n ≤ 9223372036854775807) (d0 : -9223372036854775808 ≤ d ∧ d ≤ 9223372036854775807) : SameQ 31 32 #[.int .i64 n, .int .i64 d] := by
  by_cases h : d = 0
  · subst h
    exact ⟨⟨#[]⟩, ⟨#[]⟩, 40, of_z n h0.1 h0.2, rof_of n 0 _ _ _ h0.1 h0.2 (by decide) (by decide) (rmake_bad _ _ (by have := itoa_len (ok_i64 h0.1 h0.2); omega) (by decide +kernel) (.inr rfl))⟩
  · exact ⟨_, _, 0, of_c n d h0.1 h0.2 d0.1 d0.2 h, rof_of n d _ _ _ h0.1 h0.2 d0.1 d0.2 (rmake_ok n d (ok_i64 h0.1 h0.2) (ok_i64 d0.1 d0.2) h)⟩
/-- Two fractions: the four operations and the order. -/
def AlikeP (E F G H : ByteArray) : Prop := ∃ (S0 T0 S1 T1 S2 T2 S3 T3 : ByteArray) (e0 e1 e2 e3 k : Int),
  CallT 15 #[rvB E F, rvB G H] (.tuple #[fourR S0 T0 S1 T1 S2 T2 S3 T3, fourE e0 e1 e2 e3]) ∧
  CallT 16 #[rvB E F, rvB G H] (.tuple #[rvB S0 T0, .int .i64 e0]) ∧ CallT 17 #[rvB E F, rvB G H] (.tuple #[rvB S1 T1, .int .i64 e1]) ∧
  CallT 18 #[rvB E F, rvB G H] (.tuple #[rvB S2 T2, .int .i64 e2]) ∧ CallT 19 #[rvB E F, rvB G H] (.tuple #[rvB S3 T3, .int .i64 e3]) ∧
  CallT 20 #[rvB E F, rvB G H] (.int .i64 k) ∧ CallT 21 #[rvB E F, rvB G H] (.int .i64 k)
theorem alike_p (a1 a2 b1 b2 : List UInt8) (l1 : a1.length ≤ 1000000) (l2 : a2.length ≤ 1000000) (l3 : b1.length ≤ 1000000) (l4 : b2.length ≤ 1000000) : AlikeP (bs a1) (bs a2) (bs b1) (bs b2) := by
  obtain ⟨S0, T0, e0, p0, r0⟩ := same_add a1 a2 b1 b2 l1 l2 l3 l4
  obtain ⟨S1, T1, e1, p1, r1⟩ := same_sub a1 a2 b1 b2 l1 l2 l3 l4
  obtain ⟨S2, T2, e2, p2, r2⟩ := same_mul a1 a2 b1 b2 l1 l2 l3 l4
  obtain ⟨S3, T3, e3, p3, r3⟩ := same_div a1 a2 b1 b2 l1 l2 l3 l4
  obtain ⟨k, p4, r4⟩ := same_cmp a1 a2 b1 b2 l1 l2 l3 l4
  exact ⟨S0, T0, S1, T1, S2, T2, S3, T3, e0, e1, e2, e3, k, four_c _ _ _ _ _ _ _ _ _ _ _ _ _ _ _ _ p0 p1 p2 p3, r0, r1, r2, r3, p4, r4⟩
/-- A text of a fraction's list: short lists behind both strings. -/
def Short (E F : ByteArray) : Prop := ∃ l r : List UInt8, l.length ≤ 1000000 ∧ r.length ≤ 1000000 ∧ E = bs l ∧ F = bs r
theorem Short.pair {E F G H : ByteArray} (h : Short E F) (h' : Short G H) : AlikeP E F G H := by
  obtain ⟨l, r, a, b, rfl, rfl⟩ := h
  obtain ⟨l', r', a', b', rfl, rfl⟩ := h'
  exact alike_p l r l' r' a b a' b'
theorem Short.down {E F : ByteArray} (h : Short E F) (P : Int) : SameQ 23 24 #[rvB E F, .int .i64 P] := by
  obtain ⟨l, r, a, b, rfl, rfl⟩ := h
  exact same_down l r a b P
theorem Short.up {E F : ByteArray} (h : Short E F) (P : Int) : SameQ 25 26 #[rvB E F, .int .i64 P] := by
  obtain ⟨l, r, a, b, rfl, rfl⟩ := h
  exact same_up l r a b P
theorem Short.make {E F G H : ByteArray} (h : Short E F) (h' : Short G H) : SameQ 27 28 #[.string E, .string H] := by
  obtain ⟨l, r, a, b, rfl, rfl⟩ := h
  obtain ⟨l', r', a', b', rfl, rfl⟩ := h'
  exact same_make l r' a b'
theorem Short.valid {E F : ByteArray} (h : Short E F) : ∃ v : Bool, CallT 29 #[rvB E F] (.bool v) ∧ CallT 30 #[rvB E F] (.bool v) := by
  obtain ⟨l, r, a, b, rfl, rfl⟩ := h
  exact ⟨vldR l r, valid_r l r, rvalid4_c l r a b⟩
theorem short_q {q : Rat} (h : okq q = true) : Short (bs (Lib.itoa q.num)) (bs (Lib.itoa ((q.den : Nat) : Int))) := by
  obtain ⟨q1, q2⟩ := okq_iff.1 h
  have n1 := itoa_len q1
  have n2 := itoa_len q2
  exact ⟨_, _, by omega, by omega, rfl, rfl⟩
end Go.Proofs.YtabkodpjhpjgnaaGreatDoor
