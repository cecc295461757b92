/- Compare. -/
import Derived.Test.YtabkodpjhpjgnaaGreatDoorQr
namespace Go.Proofs.YtabkodpjhpjgnaaGreatDoor
open Go.RowKit Go.Shelf

set_option maxRecDepth 100000 in
set_option maxHeartbeats 2000000 in
theorem cmp_walk (a1 a2 b1 b2 : List UInt8) (k : Int) (v1 v2 : Bool) (h1 : vldR a1 a2 = v1) (h2 : vldR b1 b2 = v2) (ho : v1 = true → v2 = true → CallT 50 #[rv a1 a2, rv b1 b2] (.int .i64 k)) :
    CallT 20 #[rv a1 a2, rv b1 b2] (.int .i64 (if (v1 && v2) = true then k else 0)) := fun w hw => by
  have hva := valid_r a1 a2
  have hvb := valid_r b1 b2
  rw [h1] at hva
  rw [h2] at hvb
  have VA := Lib.hid hva; have VB := Lib.hid hvb; have HO := Lib.hid ho; have HT := Lib.hid hw
  clear h1 h2 hva hvb ho hw
  unfold rv strOf at *
  generalize bs a1 = A1 at *
  generalize bs a2 = A2 at *
  generalize bs b1 = B1 at *
  generalize bs b2 = B2 at *
  obtain ⟨W, hW⟩ : ∃ W, (w.alloc (.cells #[.string A1, .string A2] 23)).alloc (.cells #[.string B1, .string B2] 23) = W := ⟨_, rfl⟩
  have hx : Row W w.heap.size 23 #[.string A1, .string A2] := by rw [← hW]; exact (Row.new w _ _).alloc _
  have hy : Row W (w.heap.size + 1) 23 #[.string B1, .string B2] := by
    rw [← hW]
    have := Row.new (w.alloc (.cells #[.string A1, .string A2] 23)) 23 #[.string B1, .string B2]
    rw [World.size_alloc] at this; exact this
  have hb : Below w.heap.size w W := by rw [← hW]; exact ((Below.refl _ _).alloc (Nat.le_refl _) _).alloc (by simp) _
  have HW := Lib.hid hW; have HX := Lib.hid hx; have HY := Lib.hid hy; have HB := Lib.hid hb
  clear hW hx hy hb
  cases v1 with
  | false =>
    clear HO
    go_enter Tryz.func20, Tryz.ntmps20
    go_wp2_with (go_at_call 29; rw [HW.out]; (with_reducible refine Calls.mono (VA.out _ (HT.out.next HB.out)) ?_); rintro e w1 ⟨rfl, hb1⟩; replace HB := Lib.hid (below_to HB.out hb1); clear hb1)
    go_ret
    exact ⟨rfl, HB.out⟩
  | true =>
    cases v2 with
    | false =>
      clear HO
      go_enter Tryz.func20, Tryz.ntmps20
      go_wp2_with (first | (go_at_call 29; rw [HW.out]; (with_reducible refine Calls.mono (VA.out _ (HT.out.next HB.out)) ?_); rintro e w1 ⟨rfl, hb1⟩; replace HY := Lib.hid (HY.out.below hb1 HY.out.lt); obtain ⟨y0, y1, -, -⟩ := rat_facts HY.out; replace HB := Lib.hid (below_to HB.out hb1); clear hb1) | (go_at_call 29; (with_reducible refine Calls.mono (VB.out _ (HT.out.next HB.out)) ?_); rintro e w2 ⟨rfl, hb1⟩; replace HB := Lib.hid (below_to HB.out hb1); clear hb1))
      go_ret
      exact ⟨rfl, HB.out⟩
    | true =>
      replace HO := Lib.hid (HO.out rfl rfl)
      go_enter Tryz.func20, Tryz.ntmps20
      go_wp2_with (first | (go_at_call 29; rw [HW.out]; (with_reducible refine Calls.mono (VA.out _ (HT.out.next HB.out)) ?_); rintro e w1 ⟨rfl, hb1⟩; replace HX := Lib.hid (HX.out.below hb1 HX.out.lt); replace HY := Lib.hid (HY.out.below hb1 HY.out.lt); obtain ⟨y0, y1, -, -⟩ := rat_facts HY.out; replace HB := Lib.hid (below_to HB.out hb1); clear hb1) | (go_at_call 29; (with_reducible refine Calls.mono (VB.out _ (HT.out.next HB.out)) ?_); rintro e w2 ⟨rfl, hb1⟩; replace HX := Lib.hid (HX.out.below hb1 HX.out.lt); replace HY := Lib.hid (HY.out.below hb1 HY.out.lt); clear y0 y1; obtain ⟨x0, x1, -, -⟩ := rat_facts HX.out; obtain ⟨y0, y1, -, -⟩ := rat_facts HY.out; replace HB := Lib.hid (below_to HB.out hb1); clear hb1) | (go_at_call 50; (with_reducible refine Calls.mono (HO.out _ (HT.out.next HB.out)) ?_); rintro e w3 ⟨rfl, hb1⟩; replace HB := Lib.hid (below_to HB.out hb1); clear hb1))
      go_ret
      exact ⟨rfl, HB.out⟩
theorem cmp_q (p q : Rat) (hp : okq p = true) (hq : okq q = true) : CallT 20 #[qv p, qv q] (.int .i64 (Qm.qcmp p q)) := by
  obtain ⟨p1, p2⟩ := okq_iff.1 hp
  obtain ⟨q1, q2⟩ := okq_iff.1 hq
  exact cmp_walk _ _ _ _ _ true true (vldR_q hp) (vldR_q hq) (fun _ _ u hu => qorder_any _ _ _ _ u hu p1 p2 q1 q2 (Qm.den_pos p) (Qm.den_pos q) _ rfl)
theorem cmp_no (a1 a2 b1 b2 : List UInt8) (h : (vldR a1 a2 && vldR b1 b2) = false) : CallT 20 #[rv a1 a2, rv b1 b2] (.int .i64 0) := by
  have := cmp_walk a1 a2 b1 b2 0 _ _ rfl rfl (fun h1 h2 => by rw [h1, h2] at h; cases h)
  rw [h] at this; exact this
end Go.Proofs.YtabkodpjhpjgnaaGreatDoor
