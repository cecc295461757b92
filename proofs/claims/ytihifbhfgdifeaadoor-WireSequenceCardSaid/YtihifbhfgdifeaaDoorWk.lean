/- Contracts of the statements' own helpers NumberFrom and sane. -/
import Derived.Test.YtihifbhfgdifeaaDoorWd
import Derived.Test.YtihifbhfgdifeaaDoorWj
namespace Go.Proofs.YtihifbhfgdifeaaDoor
open Go.RowKit

theorem TabOk.below {w w' : World} {B : Nat} (h : TabOk w) (hb : Below B w w') (hB : 0 < B) : TabOk w' := fun i hi => (hb.cell (p := ⟨0, i, none⟩) hB).trans (h i hi)
theorem TabOk.pos {w : World} (h : TabOk w) : 0 < w.heap.size := by
  have h0 := h 0 (by decide)
  unfold World.cell? at h0
  by_cases hz : 0 < w.heap.size
  · exact hz
  · rw [Array.getElem?_eq_none (by show w.heap.size ≤ 0; omega)] at h0; simp at h0
theorem TabOk.next {w w' : World} (h : TabOk w) (hb : Below w.heap.size w w') : TabOk w' := h.below hb h.pos
theorem below_chain {a b c : World} {B : Nat} (h : Below B a b) (hB : B ≤ b.heap.size) (k : Below b.heap.size b c) : Below B a c := h.trans (k.mono hB)

def nfT (i : Int) : Int := if i = 0 then 64 else if i = 1 then 128 else if i = 2 then 8192 else if i = 3 then 16384 else if i = 4 then 1073741824 else if i = 5 then 36028797018963968 else if i = 6 then 576460752303423488 else 2
def nfN (c : Int) : Int := pickZ (pickZ c 4611686018427387904 / 8) (nfT (pickZ c 8))
def numZ (c : Int) : Int := if 8 ≤ pickZ c 16 then -nfN c else nfN c
theorem nfT_bd (i : Int) : 2 ≤ nfT i ∧ nfT i ≤ 576460752303423488 := by
  unfold nfT
  repeat' split
  all_goals omega
theorem nfN_bd (c : Int) : 0 ≤ nfN c ∧ nfN c < 576460752303423488 := by
  have h1 := nfT_bd (pickZ c 8)
  have h2 := pickZ_bd (pickZ c 4611686018427387904 / 8) (nfT (pickZ c 8)) (by omega)
  unfold nfN; omega
theorem numZ_bd (c : Int) : -576460752303423488 < numZ c ∧ numZ c < 576460752303423488 := by
  have := nfN_bd c
  unfold numZ; split <;> omega

set_option maxRecDepth 100000 in
set_option maxHeartbeats 1000000 in
theorem num_any (c : Int) (w : World) (hc1 : -9223372036854775808 ≤ c) (hc2 : c ≤ 9223372036854775807) :
    Calls Tryd.prog 11 #[.int .i64 c] w fun e w' => e = .returned (.int .i64 (numZ c)) ∧ Below w.heap.size w w' := by
  have k1 := fun w => pick_any c 4611686018427387904 w hc1 hc2 (by decide) (by decide)
  have k2 := fun w => pick_any c 8 w hc1 hc2 (by decide) (by decide)
  have k3 := fun w => pick_any c 16 w hc1 hc2 (by decide) (by decide)
  have b1 := pickZ_bd c 4611686018427387904 (by decide)
  have b2 := pickZ_bd c 8 (by decide)
  have hd : (if 8 ≤ pickZ c 16 then -nfN c else nfN c) = numZ c := rfl
  have hn : pickZ (pickZ c 4611686018427387904 / 8) (nfT (pickZ c 8)) = nfN c := rfl
  obtain ⟨v, hv⟩ : ∃ v, pickZ c 4611686018427387904 = v := ⟨_, rfl⟩
  obtain ⟨i, hi⟩ : ∃ i, pickZ c 8 = i := ⟨_, rfl⟩
  obtain ⟨q, hq⟩ : ∃ q, pickZ c 16 = q := ⟨_, rfl⟩
  rw [hv] at k1 b1 hn
  rw [hi] at k2 b2 hn
  rw [hq] at k3 hd
  clear hv hi hq
  have ht := nfT_bd i
  have k4 := fun w => pick_any (v / 8) (nfT i) w (by omega) (by omega) (by omega) (by omega)
  rw [hn] at k4
  have hb := nfN_bd c
  obtain ⟨r, hr⟩ : ∃ r, nfN c = r := ⟨_, rfl⟩
  obtain ⟨m, hm⟩ : ∃ m, numZ c = m := ⟨_, rfl⟩
  rw [hr] at k4 hd hb
  rw [hm] at hd ⊢
  clear hr hm hn
  have H1 := Lib.hid k1; have H2 := Lib.hid k2; have H3 := Lib.hid k3; have H4 := Lib.hid k4; have HD := Lib.hid hd
  clear k1 k2 k3 k4 hd
  have hi8 : i = 0 ∨ i = 1 ∨ i = 2 ∨ i = 3 ∨ i = 4 ∨ i = 5 ∨ i = 6 ∨ i = 7 := by omega
  by_cases h8 : 8 ≤ q
  · rcases hi8 with rfl | rfl | rfl | rfl | rfl | rfl | rfl | rfl
    all_goals
      go_enter Tryd.func11, Tryd.ntmps11
      go_wp2_with fail
      refine (H1.out _).mono ?_
      rintro e w' ⟨rfl, rfl⟩
      go_wp2_with fail
      refine (H2.out _).mono ?_
      rintro e w' ⟨rfl, rfl⟩
      go_wp2_with fail
      refine (H4.out _).mono ?_
      rintro e w' ⟨rfl, rfl⟩
      go_wp2_with fail
      refine (H3.out _).mono ?_
      rintro e w' ⟨rfl, rfl⟩
      go_wp2
      go_ret
      exact ⟨by rw [← HD.out, if_pos h8]; rfl, (Below.refl _ _).alloc (Nat.le_refl _) _⟩
  · rcases hi8 with rfl | rfl | rfl | rfl | rfl | rfl | rfl | rfl
    all_goals
      go_enter Tryd.func11, Tryd.ntmps11
      go_wp2_with fail
      refine (H1.out _).mono ?_
      rintro e w' ⟨rfl, rfl⟩
      go_wp2_with fail
      refine (H2.out _).mono ?_
      rintro e w' ⟨rfl, rfl⟩
      go_wp2_with fail
      refine (H4.out _).mono ?_
      rintro e w' ⟨rfl, rfl⟩
      go_wp2_with fail
      refine (H3.out _).mono ?_
      rintro e w' ⟨rfl, rfl⟩
      go_wp2
      go_ret
      exact ⟨by rw [← HD.out, if_neg (by omega)]; rfl, (Below.refl _ _).alloc (Nat.le_refl _) _⟩
end Go.Proofs.YtihifbhfgdifeaaDoor
