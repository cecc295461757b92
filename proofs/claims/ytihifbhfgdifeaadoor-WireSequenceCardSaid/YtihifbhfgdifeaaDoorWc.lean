/- Contract of Int: it returns what the plain function intR says, for every string and every offset. -/
import Derived.Test.YtihifbhfgdifeaaDoorWb
namespace Go.Proofs.YtihifbhfgdifeaaDoor
open Go.RowKit

def intD (at_ : Int) (d : Nat × Nat) : Int × Int × Int :=
  if d.2 = 0 ∨ 9223372036854775806 < d.1 then (0, 0, 10) else (Wm.unfoldZ d.1, at_ + d.2, 0)
def intR (l : List UInt8) (at_ : Int) : Int × Int × Int :=
  if at_ < 0 ∨ (l.length : Int) < at_ then (0, 0, 2) else intD at_ (Wm.dec 0 0 (l.drop at_.toNat))
def tup3 (r : Int × Int × Int) : Value := .tuple #[.int .i64 r.1, .int .i64 r.2.1, .int .i64 r.2.2]

set_option maxRecDepth 100000 in
set_option maxHeartbeats 400000 in
theorem int_any (s : ByteArray) (at_ : Int) (w : World) (hs : s.size ≤ maxLen) (ha1 : -9223372036854775808 ≤ at_) (ha2 : at_ ≤ 9223372036854775807) :
    Calls Tryd.prog 15 #[.string s, .int .i64 at_] w fun e w' => e = .returned (tup3 (intR s.data.toList at_)) ∧ w = w' := by
  unfold maxLen at hs
  by_cases h0 : at_ < 0
  · have hr : intR s.data.toList at_ = (0, 0, 2) := by unfold intR; rw [if_pos (Or.inl h0)]
    rw [hr]
    go_enter Tryd.func15, Tryd.ntmps15
    go_wp2
    go_ret3
    exact ⟨rfl, rfl⟩
  by_cases h1 : (s.size : Int) < at_
  · have hr : intR s.data.toList at_ = (0, 0, 2) := by unfold intR; rw [if_pos (Or.inr (by simpa using h1))]
    rw [hr]
    go_enter Tryd.func15, Tryd.ntmps15
    go_wp2
    go_ret3
    exact ⟨rfl, rfl⟩
  obtain ⟨a, rfl⟩ := Int.eq_ofNat_of_zero_le (by omega : 0 ≤ at_)
  have hr : intR s.data.toList a = intD a (Wm.dec 0 0 (s.data.toList.drop a)) := by
    unfold intR
    rw [if_neg (by simp; omega)]
    rfl
  rw [hr]
  have hx : (s.extract a s.size).data.toList = s.data.toList.drop a := Lib.extract_to_end s a
  have hsz : (s.extract a s.size).size ≤ maxLen := by rw [ByteArray.size_extract]; unfold maxLen; omega
  have hcol := fun w => collect_any (s.extract a s.size) w hsz
  rw [hx] at hcol
  obtain ⟨z, k, hd⟩ : ∃ z k, Wm.dec 0 0 (s.data.toList.drop a) = (z, k) := ⟨_, _, rfl⟩
  rw [hd] at hcol ⊢
  have hf : 0 < k → z < 9223372036854775808 ∧ k + a ≤ s.size ∧ k ≤ 9 := fun hk => by
    obtain ⟨h1, h2, h3⟩ := Wm.dec_some0 _ z k hd hk
    refine ⟨h1, ?_, by have := Wm.enc_le z; omega⟩
    have := congrArg List.length h3
    simp at this; omega
  have hk0 : k = 0 → z = 0 := fun hk => by
    have := Wm.dec_none (s.data.toList.drop a) (by rw [hd]; exact hk)
    rw [hd] at this; simp at this; exact this.1
  have HC := Lib.hid hcol; clear hcol hx hd hr
  by_cases hk : k = 0
  · obtain rfl := hk0 hk
    subst hk
    have hr : intD a (0, 0) = (0, 0, 10) := rfl
    rw [hr]
    clear hr hf hk0
    go_enter Tryd.func15, Tryd.ntmps15
    go_wp2_with (go_at_call 26; refine (HC.out _).mono ?_; rintro e w' ⟨rfl, rfl⟩)
    go_ret3
    exact ⟨rfl, rfl⟩
  obtain ⟨hz, hka, hk9⟩ := hf (by omega)
  have hkb : ((k : Int) == 0) = false := by rw [beq_eq_false_iff_ne]; omega
  clear hf hk0
  by_cases hm : 9223372036854775806 < z
  · have hr : intD a (z, k) = (0, 0, 10) := by unfold intD; rw [if_pos (Or.inr hm)]
    rw [hr]
    clear hr
    go_enter Tryd.func15, Tryd.ntmps15
    go_wp2_with (go_at_call 26; refine (HC.out _).mono ?_; rintro e w' ⟨rfl, rfl⟩)
    go_ret3
    exact ⟨rfl, rfl⟩
  · have hr : intD a (z, k) = (Wm.unfoldZ z, (a : Int) + k, 0) := by unfold intD; rw [if_neg (by simp; omega)]
    rw [hr]
    clear hr
    go_enter Tryd.func15, Tryd.ntmps15
    go_wp2_with (first | (go_at_call 26; refine (HC.out _).mono ?_; rintro e w' ⟨rfl, rfl⟩) | (go_at_call 27; refine (unfold_any _ _ hz).mono ?_; rintro e w' ⟨rfl, rfl⟩))
    go_ret3
    exact ⟨rfl, rfl⟩
end Go.Proofs.YtihifbhfgdifeaaDoor
