/- The walk of DigestSumMatchesReference: it returns true for every input. -/
import Derived.Test.YtnbhhhbmeafkaaaDoorE16
import Derived.Test.YtnbhhhbmeafkaaaDoorE9
import Derived.Test.YtnbhhhbmeafkaaaDoorL1
namespace Go.Proofs.YtnbhhhbmeafkaaaDoor
open Go.RowKit

theorem bs_cutN (l : List UInt8) (N m : Nat) (h : m = min l.length N) : (bs l).extract 0 m = bs (l.take N) := by
  subst h
  apply ByteArray.ext
  rw [ByteArray.data_extract]
  simp only [bs]
  rw [List.extract_toArray]
  simp [Nat.min_comm]
theorem str_cut500 (s : ByteArray) (n : Int) (h : n = min (s.size : Int) 500) : s.extract 0 n.toNat = bs (s.data.toList.take 500) := by
  have := bs_cutN s.data.toList 500 n.toNat (by subst h; simp; omega)
  rw [bs_of] at this; exact this

set_option maxRecDepth 100000 in
set_option maxHeartbeats 2000000 in
theorem sumMatches_walk (s t : ByteArray) (w : World) (ht : TabOk w) (hs : s.size ≤ maxLen) (hts : t.size ≤ maxLen) :
    Calls Tryd.prog 3 #[.string s, .string t] w (SanePost w) := by
  have c1 := sane_any w ht
  have e1 := str_cut500 s _ rfl
  have e2 := str_cut500 t _ rfl
  have l1 : (s.data.toList.take 500).length ≤ 500 := by rw [List.length_take]; omega
  have l2 : (t.data.toList.take 500).length ≤ 500 := by rw [List.length_take]; omega
  obtain ⟨x, hx⟩ : ∃ x, s.data.toList.take 500 = x := ⟨_, rfl⟩
  obtain ⟨y, hy⟩ : ∃ y, t.data.toList.take 500 = y := ⟨_, rfl⟩
  rw [hx] at e1 l1; rw [hy] at e2 l2
  have T := fun u (hu : Below w.heap.size w u) => ht.next hu
  have a1 := fun u (hu : Below w.heap.size w u) => calls_on hu (sum_any x u (by omega) (T u hu))
  have a2 := fun u (hu : Below w.heap.size w u) => calls_on hu (refSum_any x u (by omega))
  have a3 := fun u (hu : Below w.heap.size w u) => calls_on hu (leaf_any y u (by omega) (T u hu))
  have a4 := fun u (hu : Below w.heap.size w u) => calls_on hu (refLeaf_any y u (by omega))
  have a5 := fun u (hu : Below w.heap.size w u) => calls_on hu (node_any x y u (by omega) (T u hu))
  have a6 := fun u (hu : Below w.heap.size w u) => calls_on hu (refNode_any x y u (by omega))
  have a7 := fun u (hu : Below w.heap.size w u) => calls_on hu (chain_any y x u (by omega) (T u hu))
  have a8 := fun u (hu : Below w.heap.size w u) => calls_on hu (refChain_any y x u (by omega))
  obtain ⟨X, hX⟩ : ∃ X, bs x = X := ⟨_, rfl⟩
  obtain ⟨Y, hY⟩ : ∃ Y, bs y = Y := ⟨_, rfl⟩
  obtain ⟨D1, h1⟩ : ∃ D, bs (Dm.sha x) = D := ⟨_, rfl⟩
  obtain ⟨D2, h2⟩ : ∃ D, bs (Dm.leaf y) = D := ⟨_, rfl⟩
  obtain ⟨D3, h3⟩ : ∃ D, bs (Dm.node x y) = D := ⟨_, rfl⟩
  obtain ⟨D4, h4⟩ : ∃ D, bs (Dm.chain y x) = D := ⟨_, rfl⟩
  rw [hX] at e1; rw [hY] at e2
  unfold strOf at a1 a2 a3 a4 a5 a6 a7 a8
  rw [show Dm.sha (0 :: y) = Dm.leaf y from rfl] at a3
  rw [show Dm.sha (1 :: (x ++ y)) = Dm.node x y from rfl] at a5
  rw [show Dm.sha (2 :: (y ++ x)) = Dm.chain y x from rfl] at a7
  rw [hX, h1] at a1 a2; rw [hY, h2] at a3 a4; rw [hX, hY, h3] at a5 a6; rw [hX, hY, h4] at a7 a8
  have C1 := Lib.hid c1; have A1 := Lib.hid a1; have A2 := Lib.hid a2; have A3 := Lib.hid a3; have A4 := Lib.hid a4; have A5 := Lib.hid a5; have A6 := Lib.hid a6; have A7 := Lib.hid a7; have A8 := Lib.hid a8
  unfold maxLen at hs hts
  have m0 : (0 : Int) ≤ min (s.size : Int) 500 := by omega
  have m1 : min (s.size : Int) 500 ≤ (s.size : Int) := by omega
  have m2 : (0 : Int) ≤ min (t.size : Int) 500 := by omega
  have m3 : min (t.size : Int) 500 ≤ (t.size : Int) := by omega
  have q1 : (D1.toList == D1.toList) = true := by simp
  have q2 : (D2.toList == D2.toList) = true := by simp
  have q3 : (D3.toList == D3.toList) = true := by simp
  have q4 : (D4.toList == D4.toList) = true := by simp
  clear c1 T a1 a2 a3 a4 a5 a6 a7 a8 hx hy hX hY h1 h2 h3 h4
  go_enter Tryd.func3, Tryd.ntmps3
  go_wp2_with fail
  refine C1.out.mono ?_
  rintro e w1 ⟨rfl, k1⟩
  go_wp2_with fail
  refine (A1.out _ k1).mono ?_
  rintro e w2 ⟨rfl, k2⟩
  go_wp2_with fail
  refine (A2.out _ k2).mono ?_
  rintro e w3 ⟨rfl, k3⟩
  go_wp2_with fail
  refine (A3.out _ k3).mono ?_
  rintro e w4 ⟨rfl, k4⟩
  go_wp2_with fail
  refine (A4.out _ k4).mono ?_
  rintro e w5 ⟨rfl, k5⟩
  go_wp2_with fail
  refine (A5.out _ k5).mono ?_
  rintro e w6 ⟨rfl, k6⟩
  go_wp2_with fail
  refine (A6.out _ k6).mono ?_
  rintro e w7 ⟨rfl, k7⟩
  go_wp2_with fail
  refine (A7.out _ k7).mono ?_
  rintro e w8 ⟨rfl, k8⟩
  go_wp2_with fail
  refine (A8.out _ k8).mono ?_
  rintro e w9 ⟨rfl, k9⟩
  go_wp2
  go_ret
  exact ⟨rfl, k9⟩
end Go.Proofs.YtnbhhhbmeafkaaaDoor
