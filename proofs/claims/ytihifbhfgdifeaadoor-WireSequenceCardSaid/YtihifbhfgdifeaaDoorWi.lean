/- Contract of String (the program's): what the plain function strR says, for every string and every offset. -/
import Derived.Test.YtihifbhfgdifeaaDoorWh
namespace Go.Proofs.YtihifbhfgdifeaaDoor
open Go.RowKit

/-- What String returns, out of what Int returns. -/
def strD (l : List UInt8) (r : Int × Int × Int) : List UInt8 × Int × Int :=
  if r.2.2 = 0 then (if r.1 < 0 ∨ 65536 < r.1 ∨ (l.length : Int) - r.2.1 < r.1 then ([], 0, 10) else ((l.drop r.2.1.toNat).take r.1.toNat, r.2.1 + r.1, 0)) else ([], 0, r.2.2)
def strR (l : List UInt8) (at_ : Int) : List UInt8 × Int × Int := strD l (intR l at_)
def tupT (r : List UInt8 × Int × Int) : Value := .tuple #[.string (bs r.1), .int .i64 r.2.1, .int .i64 r.2.2]

theorem intR_bd (l : List UInt8) (at_ : Int) : ∃ n x e : Int, intR l at_ = (n, x, e) ∧ -4611686018427387903 ≤ n ∧ n ≤ 4611686018427387903 ∧ 0 ≤ x ∧ x ≤ l.length ∧ (e = 0 ∨ e = 2 ∨ e = 10) ∧ (e = 0 ∨ n = 0 ∧ x = 0) ∧ (e = 0 → at_ ≤ x ∧ 0 ≤ at_) := by
  by_cases h : at_ < 0 ∨ (l.length : Int) < at_
  · exact ⟨0, 0, 2, by unfold intR; rw [if_pos h], by omega, by omega, by omega, by omega, by omega, by omega, by omega⟩
  · have hr : intR l at_ = intD at_ (Wm.dec 0 0 (l.drop at_.toNat)) := by unfold intR; rw [if_neg h]
    rw [hr]
    obtain ⟨z, k, hd⟩ : ∃ z k, Wm.dec 0 0 (l.drop at_.toNat) = (z, k) := ⟨_, _, rfl⟩
    rw [hd]
    by_cases h2 : k = 0 ∨ 9223372036854775806 < z
    · exact ⟨0, 0, 10, by unfold intD; rw [if_pos h2], by omega, by omega, by omega, by omega, by omega, by omega, by omega⟩
    · obtain ⟨a1, a2, a3⟩ := Wm.dec_some0 _ z k hd (by omega)
      have hu := Wm.unfold_bd z (by omega)
      have hl : (k : Int) + at_ ≤ l.length := by
        have := congrArg List.length a3
        simp at this; omega
      exact ⟨Wm.unfoldZ z, at_ + k, 0, by unfold intD; rw [if_neg h2], hu.1, hu.2, by omega, by omega, by omega, by omega, by omega⟩

set_option maxRecDepth 100000 in
set_option maxHeartbeats 1000000 in
theorem string_any (s : ByteArray) (at_ : Int) (w : World) (hs : s.size ≤ maxLen) (ha1 : -9223372036854775808 ≤ at_) (ha2 : at_ ≤ 9223372036854775807) :
    Calls Tryd.prog 17 #[.string s, .int .i64 at_] w fun e w' => e = .returned (tupT (strR s.data.toList at_)) ∧ Below w.heap.size w w' := by
  have hc := fun w => int_any s at_ w hs ha1 ha2
  unfold strR
  obtain ⟨n, x, er, hr, hn1, hn2, hx1, hx2, he, _, _⟩ := intR_bd s.data.toList at_
  rw [hr] at hc ⊢
  clear hr
  unfold maxLen at hs
  have hx3 : x ≤ s.size := by simpa using hx2
  clear hx2
  rw [show tup3 (n, x, er) = .tuple #[.int .i64 n, .int .i64 x, .int .i64 er] from rfl] at hc
  have HC := Lib.hid hc; clear hc
  by_cases hz : er = 0
  · subst hz
    clear he
    by_cases hg : n < 0 ∨ 65536 < n ∨ (s.size : Int) - x < n
    · have hr : strD s.data.toList (n, x, 0) = ([], 0, 10) := by
        unfold strD; rw [if_pos rfl, if_pos (by simpa using hg)]
      rw [hr]; clear hr
      by_cases h0 : n < 0
      · clear hg
        go_enter Tryd.func17, Tryd.ntmps17
        go_wp2_with (go_at_call 15; refine (HC.out _).mono ?_; rintro e w' ⟨rfl, rfl⟩)
        go_ret3
        exact ⟨rfl, Below.refl _ _⟩
      · by_cases h1 : 65536 < n
        · clear hg
          go_enter Tryd.func17, Tryd.ntmps17
          go_wp2_with (go_at_call 15; refine (HC.out _).mono ?_; rintro e w' ⟨rfl, rfl⟩)
          go_ret3
          exact ⟨rfl, Below.refl _ _⟩
        · have h2 : (s.size : Int) - x < n := by omega
          clear hg
          go_enter Tryd.func17, Tryd.ntmps17
          go_wp2_with (go_at_call 15; refine (HC.out _).mono ?_; rintro e w' ⟨rfl, rfl⟩)
          go_ret3
          exact ⟨rfl, Below.refl _ _⟩
    · obtain ⟨a, rfl⟩ := Int.eq_ofNat_of_zero_le hx1
      obtain ⟨b, rfl⟩ := Int.eq_ofNat_of_zero_le (by omega : 0 ≤ n)
      have hr : strD s.data.toList ((b : Int), (a : Int), 0) = ((s.data.toList.drop a).take b, (a : Int) + b, 0) := by
        unfold strD; rw [if_pos rfl, if_neg (by simpa using hg)]; rfl
      rw [hr]; clear hr
      have hab : a + b ≤ s.size := by omega
      have hb6 : b ≤ 65536 := by omega
      clear hg
      have hxt : s.extract a (a + b) = bs ((s.data.toList.drop a).take b) := by rw [bs_extract, Nat.add_sub_cancel_left]
      have hlim : (s.extract a (a + b)).size ≤ 281474976710656 := by rw [ByteArray.size_extract]; omega
      have hcl := fun w => Tryd.stringslite_Clone (s.extract a (a + b)) w hlim
      have HX := Lib.hid hxt; clear hxt
      have HL := Lib.hid hcl; clear hcl hlim
      go_enter Tryd.func17, Tryd.ntmps17
      go_wp2_with (first | (go_at_call 15; refine (HC.out _).mono ?_; rintro e w' ⟨rfl, rfl⟩) | (go_at_call 30; refine (HL.out _).mono ?_; rintro e w' ⟨rfl, hb⟩) | go_in)
      go_ret3
      exact ⟨by rw [HX.out]; rfl, hb⟩
  · have hr : strD s.data.toList (n, x, er) = ([], 0, er) := by unfold strD; rw [if_neg hz]
    rw [hr]; clear hr
    have hb : (er != 0) = true := by simp [hz]
    clear hz
    go_enter Tryd.func17, Tryd.ntmps17
    go_wp2_with (go_at_call 15; refine (HC.out _).mono ?_; rintro e w' ⟨rfl, rfl⟩)
    go_ret3
    exact ⟨rfl, Below.refl _ _⟩
end Go.Proofs.YtihifbhfgdifeaaDoor
