/- The law's cut; the long walk of RationalTextMatchesReference. -/
import Derived.Test.YtabkodpjhpjgnaaGreatDoorRz
import Derived.Test.YtabkodpjhpjgnaaGreatDoorX4c
import Derived.StillTailTactics
import Derived.RegionTactic
import Derived.BigRegion
namespace Go.Proofs.YtabkodpjhpjgnaaGreatDoor
open Go.RowKit Go.Shelf

set_option maxRecDepth 100000 in
set_option maxHeartbeats 4000000 in
theorem cut_c (s t : ByteArray) : ∃ l r : List UInt8, l.length ≤ 210 ∧ r.length ≤ 210 ∧ CallT 12 #[rvB s t] (rv l r) := by
  obtain ⟨k, hk⟩ : ∃ k, min s.size 210 = k := ⟨_, rfl⟩
  obtain ⟨j, hj⟩ : ∃ k, min t.size 210 = k := ⟨_, rfl⟩
  obtain ⟨l, hl⟩ : ∃ l, (s.extract 0 k).data.toList = l := ⟨_, rfl⟩
  obtain ⟨m, hm⟩ : ∃ l, (t.extract 0 j).data.toList = l := ⟨_, rfl⟩
  have hp : s.extract 0 k = bs l := by rw [← hl, bs_of]
  have hq : t.extract 0 j = bs m := by rw [← hm, bs_of]
  have ll : l.length ≤ 210 := by
    have := congrArg ByteArray.size hp
    rw [bs_size, ByteArray.size_extract] at this; omega
  have lm : m.length ≤ 210 := by
    have := congrArg ByteArray.size hq
    rw [bs_size, ByteArray.size_extract] at this; omega
  refine ⟨l, m, ll, lm, fun w ht => ?_⟩
  have HMN := Lib.hid (fun (w : World) => run_min2 (P := Tryz.prog) (w := w) #[3, 3] 3 .i64 .i64 (s.size : Int) 210 (k : Int) (by omega))
  have HMN2 := Lib.hid (fun (w : World) => run_min2 (P := Tryz.prog) (w := w) #[3, 3] 3 .i64 .i64 (t.size : Int) 210 (j : Int) (by omega))
  have HSL : Hid (∀ w, (Instr.slice 9 (.string s) none (some (.int .i64 (k : Int))) none).run Tryz.prog w = .ok (.string (bs l)) w) := Lib.hid (fun w => by
    rw [run_slice_string_h (P := Tryz.prog) w 9 s Tryz.underlying9 .i64 (k : Int) (by omega) (by omega), Int.toNat_natCast, hp])
  have HSL2 : Hid (∀ w, (Instr.slice 9 (.string t) none (some (.int .i64 (j : Int))) none).run Tryz.prog w = .ok (.string (bs m)) w) := Lib.hid (fun w => by
    rw [run_slice_string_h (P := Tryz.prog) w 9 t Tryz.underlying9 .i64 (j : Int) (by omega) (by omega), Int.toNat_natCast, hq])
  clear hk hj hl hm hp hq ll lm ht
  unfold rvB rv strOf at *
  generalize bs l = L at *
  generalize bs m = R at *
  obtain ⟨W0, hW0⟩ : ∃ W0, (w.alloc (.cells #[.string s, .string t] 23)).alloc (.cells #[.string ⟨#[]⟩, .string ⟨#[]⟩] 23) = W0 := ⟨_, rfl⟩
  have hr : Rws W0 [(w.heap.size + 1, 23, #[.string ⟨#[]⟩, .string ⟨#[]⟩]), (w.heap.size, 23, #[.string s, .string t])] := by
    rw [← hW0]
    have h := ((Rws.nil w).cons 23 #[.string s, .string t]).cons 23 #[.string ⟨#[]⟩, .string ⟨#[]⟩]
    simp only [World.size_alloc] at h
    exact h
  have hb : Below w.heap.size w W0 := by rw [← hW0]; exact ((Below.refl _ _).alloc (Nat.le_refl _) _).alloc (by simp) _
  have HW0 := Lib.hid hW0; have HR := Lib.hid hr; have HB := Lib.hid hb
  obtain ⟨z0, z1, z2, z3⟩ := rat_facts (hr.at (x := (w.heap.size + 1, 23, #[.string ⟨#[]⟩, .string ⟨#[]⟩])) 0 rfl)
  obtain ⟨p0, p1, -, -⟩ := rat_facts (hr.at (x := (w.heap.size, 23, #[.string s, .string t])) 1 rfl)
  have HZ := Lib.hid (hr.at (x := (w.heap.size + 1, 23, #[.string ⟨#[]⟩, .string ⟨#[]⟩])) 0 rfl)
  clear hW0 hr hb
  go_enter Tryz.func12, Tryz.ntmps12
  go_upto_region 1 with (fail)
  rw [HW0.out]
  clear HW0
  have hmn := HMN.out; have hmn2 := HMN2.out; have hsl := HSL.out; have hsl2 := HSL2.out
  clear HMN HMN2 HSL HSL2
  go_still_tail 15, (by kernel_rfl)
  all_goals
    go_wp2_with fail
    refine bodyPost_ret (results_rat1 rfl _ _ (w.heap.size + 1) _ _ rfl (rat_row (Row.drew HZ.out))) rfl ?_
    exact ⟨rfl, ((Below.drew HB.out).setCell (by dsimp only; omega) _).setCell (by dsimp only; omega) _⟩
end Go.Proofs.YtabkodpjhpjgnaaGreatDoor
