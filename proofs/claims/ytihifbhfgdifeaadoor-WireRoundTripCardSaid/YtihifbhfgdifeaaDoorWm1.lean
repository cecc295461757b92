/- The walk of WireRoundTrip: where the table reads as laid, it returns true for every input. -/
import Derived.Test.YtihifbhfgdifeaaDoorWe1
namespace Go.Proofs.YtihifbhfgdifeaaDoor
open Go.RowKit

set_option maxRecDepth 100000 in
set_option maxHeartbeats 1000000 in
theorem roundTrip_walk (c : Int) (tx s0 s1 : ByteArray) (w : World) (ht : TabOk w) (hc1 : -9223372036854775808 ≤ c) (hc2 : c ≤ 9223372036854775807) (htx : tx.size ≤ maxLen) (hs0 : s0.size ≤ maxLen) (hs1 : s1.size ≤ maxLen) :
    Calls Tryd.prog 4 #[.int .i64 c, .string tx, .agg #[.string s0, .string s1]] w fun e w' => e = .returned (.bool true) ∧ Below w.heap.size w w' := by
  obtain ⟨p, hp⟩ : ∃ p, s0.extract 0 (min (s0.size : Int) 200).toNat = p := ⟨_, rfl⟩
  obtain ⟨q, hq⟩ : ∃ q, s1.extract 0 (min (s1.size : Int) 200).toNat = q := ⟨_, rfl⟩
  obtain ⟨u, hu⟩ : ∃ u, tx.extract 0 (min (tx.size : Int) 200).toNat = u := ⟨_, rfl⟩
  have hps := cut_size hp; have hqs := cut_size hq; have hus := cut_size hu
  have hsn := fun w h => sane_any w h
  have hnm := fun w => num_any c w hc1 hc2
  have hnb := numZ_bd c
  obtain ⟨n, hn⟩ : ∃ n, numZ c = n := ⟨_, rfl⟩
  rw [hn] at hnm hnb
  clear hn
  have hpt := fun w => put_in n w (by omega) (by omega)
  obtain ⟨A, hA⟩ : ∃ A, A = bs (Wm.enc (Wm.foldZ n)) := ⟨_, rfl⟩
  rw [show strOf (Wm.enc (Wm.foldZ n)) = .string A from by rw [hA]] at hpt
  have hAs : A.size ≤ 9 := by rw [hA, bs_size]; exact Wm.enc_le _
  have hps2 : ∀ w, Calls Tryd.prog 19 #[.string u] w fun e w' => e = .returned (tupS (putS u.data.toList)) ∧ Below w.heap.size w w' := fun w => putS_any u w (by unfold maxLen; omega)
  rw [putS_small u (by omega)] at hps2
  obtain ⟨B, hB⟩ : ∃ B, B = bs (Wm.enc (Wm.foldZ u.size) ++ u.data.toList) := ⟨_, rfl⟩
  rw [show tupS (Wm.enc (Wm.foldZ u.size) ++ u.data.toList, 0) = .tuple #[.string B, .int .i64 0] from by rw [hB]; rfl] at hps2
  have hBs : B.size ≤ 209 := by rw [hB, bs_size]; have := Wm.enc_le (Wm.foldZ u.size); simp; omega
  have hI : ∀ w, Calls Tryd.prog 15 #[.string (p ++ A ++ q), .int .i64 (p.size : Int)] w fun e w' => e = .returned (.tuple #[.int .i64 n, .int .i64 ((p.size : Int) + A.size), .int .i64 0]) ∧ w = w' := fun w => by
    have h := int_any (p ++ A ++ q) p.size w (by simp only [ByteArray.size_append]; unfold maxLen; omega) (by omega) (by omega)
    rw [show (p ++ A ++ q).data.toList = p.data.toList ++ Wm.enc (Wm.foldZ n) ++ q.data.toList from by rw [hA]; simp [bs]] at h
    have e := intR_emb p.data.toList q.data.toList n (by omega) (by omega)
    rw [show p.data.toList.length = p.size from by simp] at e
    rw [e, show (Wm.enc (Wm.foldZ n)).length = A.size from by rw [hA, bs_size]] at h
    exact h
  have hSt : ∀ w, Calls Tryd.prog 17 #[.string (p ++ B ++ q), .int .i64 (p.size : Int)] w fun e w' => e = .returned (.tuple #[.string u, .int .i64 ((p.size : Int) + B.size), .int .i64 0]) ∧ Below w.heap.size w w' := fun w => by
    have h := string_any (p ++ B ++ q) p.size w (by simp only [ByteArray.size_append]; unfold maxLen; omega) (by omega) (by omega)
    rw [show (p ++ B ++ q).data.toList = p.data.toList ++ (Wm.enc (Wm.foldZ u.size) ++ u.data.toList) ++ q.data.toList from by rw [hB]; simp [bs]] at h
    have e := strR_emb p.data.toList q.data.toList u.data.toList (by simp; omega)
    rw [show p.data.toList.length = p.size from by simp, show u.data.toList.length = u.size from by simp] at e
    rw [e, show (Wm.enc (Wm.foldZ u.size) ++ u.data.toList).length = B.size from by rw [hB, bs_size]] at h
    have e2 : tupT (u.data.toList, (p.size : Int) + B.size, 0) = .tuple #[.string u, .int .i64 ((p.size : Int) + B.size), .int .i64 0] := by unfold tupT; rw [bs_of]
    rw [e2] at h
    exact h
  unfold maxLen at htx hs0 hs1
  have HI := Lib.hid hI; have HSt := Lib.hid hSt; have HPt := Lib.hid hpt; have HPs := Lib.hid hps2
  clear hI hSt hpt hps2 hA hB
  have HS := Lib.hid hsn; have HN := Lib.hid hnm; clear hsn hnm
  have HT := Lib.hid ht; clear ht
  go_enter Tryd.func4, Tryd.ntmps4
  go_wp2_with fail
  have hB0 : Below w.heap.size w (w.alloc (.cells #[.string s0, .string s1] 36)) := (Below.refl _ w).alloc (Nat.le_refl _) _
  refine (HS.out _ (HT.out.next hB0)).mono ?_
  rintro e w1 ⟨rfl, b1⟩
  go_wp2_with fail
  refine (HN.out _).mono ?_
  rintro e w2 ⟨rfl, b2⟩
  have g1 := b1.size
  rw [World.size_alloc] at g1
  have b12 := below_chain b1 b1.size b2
  rw [World.size_alloc] at b12
  have k0 : w2.cell? ⟨w.heap.size, 0, none⟩ = some (.string s0) := (b12.cell (p := ⟨w.heap.size, 0, none⟩) (by simp)).trans (by simp)
  have k1 : w2.cell? ⟨w.heap.size, 1, none⟩ = some (.string s1) := (b12.cell (p := ⟨w.heap.size, 1, none⟩) (by simp)).trans (by simp)
  go_wp2_with fail
  refine (HPt.out _).mono ?_
  rintro e w3 ⟨rfl, b3⟩
  go_wp2_with fail
  refine (HPs.out _).mono ?_
  rintro e w4 ⟨rfl, b4⟩
  go_wp2_with fail
  refine (HI.out _).mono ?_
  rintro e w' ⟨rfl, rfl⟩
  go_wp2_with fail
  refine (HSt.out _).mono ?_
  rintro e w5 ⟨rfl, b5⟩
  go_wp2
  go_ret
  have g2 := b2.size; have g3 := b3.size; have g4 := b4.size
  have d3 := below_chain b12 (by omega) b3
  have d4 := below_chain d3 (by omega) b4
  have d5 := below_chain d4 (by omega) b5
  exact ⟨rfl, hB0.trans (d5.mono (by omega))⟩
end Go.Proofs.YtihifbhfgdifeaaDoor
