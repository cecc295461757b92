/- Overdue. -/
import Derived.Test.YtinhjobjlpkflaaEs
namespace Go.Proofs.Ytinhjobjlpkflaa
open Go.RowKit Go.Shelf

set_option maxRecDepth 100000 in
set_option maxHeartbeats 8000000 in
theorem Overdue_bad (m now : Int) (l : List Ap) (A : Option Addr) (n c : Nat) (w : World) (hr : Recs encP 4 w w.heap.size (.slice A n c) l) (hbad : (validA m l && nowB now) = false) :
    Calls Try.prog 18 #[.int .i64 m, .slice A n c, .int .i64 now] w fun e w' => e = .returned (.tuple #[.slice none 0 0, .int .i64 130]) ∧ Below w.heap.size w w' := by
  obtain ⟨W, hW⟩ : ∃ W, w.alloc (.cells #[.int .i64 now] 3) = W := ⟨_, rfl⟩
  have hbW : Below w.heap.size w W := by rw [← hW]; exact (Below.refl _ w).alloc (Nat.le_refl _) _
  have hrow := Row.new w 3 #[.int .i64 now]
  rw [hW] at hrow
  obtain ⟨bN, hbN⟩ : ∃ g, w.heap.size = g := ⟨_, rfl⟩
  rw [hbN] at hrow
  have HR := Lib.hid hrow
  have HB := Lib.hid hbW
  have lN := hrow.lt
  have y0 := hrow.cell 0
  simp only [List.getElem?_toArray, List.getElem?_cons_zero] at y0
  have HV := Lib.hid (accAt_bad m now l A n c W (hr.next hbW) hbad)
  clear hr hbad hrow hbW
  go_enter Try.func18, Try.ntmps18
  go_wp2_with (go_at_call 32; (with_reducible refine Calls.mono HV.out ?_); rintro r u1 ⟨rfl, hb⟩; have HB1 := Lib.hid hb; clear hb)
  refine bodyPost_ret (results_tmp2 rfl _ _ _) rfl ?_
  exact ⟨rfl, below_to HB.out HB1.out⟩
set_option maxRecDepth 100000 in
set_option maxHeartbeats 8000000 in
theorem Overdue_ok (m : Nat) (now : Int) (l : List Ap) (A : Option Addr) (n c : Nat) (w : World) (hr : Recs encP 4 w w.heap.size (.slice A n c) l) (hv : validA (m : Int) l = true) (hnow : nowB now = true) :
    Calls Try.prog 18 #[.int .i64 (m : Int), .slice A n c, .int .i64 now] w fun e w' => ∃ v, e = .returned (.tuple #[v, .int .i64 0]) ∧ GatC w ((clV m l now).filter (late now)) v w' := by
  obtain ⟨W, hW⟩ : ∃ W, w.alloc (.cells #[.int .i64 now] 3) = W := ⟨_, rfl⟩
  have hbW : Below w.heap.size w W := by rw [← hW]; exact (Below.refl _ w).alloc (Nat.le_refl _) _
  have hrow := Row.new w 3 #[.int .i64 now]
  rw [hW] at hrow
  obtain ⟨bN, hbN⟩ : ∃ g, w.heap.size = g := ⟨_, rfl⟩
  rw [hbN] at hrow
  have HR := Lib.hid hrow
  have HB := Lib.hid hbW
  have lN := hrow.lt
  have y0 := hrow.cell 0
  simp only [List.getElem?_toArray, List.getElem?_cons_zero] at y0
  obtain ⟨v0, v1, v2, v3⟩ := validA_parts hv
  have hok := acc_ok (now := now) (show 2 ≤ m by omega) (by omega) v3 l.length (Nat.le_refl _)
  have HOL := Lib.hid (op_len hok v2)
  have HOK := Lib.hid (flat_keys hok)
  have hfl : (accV m l now).op.flatten.length ≤ 8000 := by
    obtain ⟨M, hM, _⟩ := hok.lev
    have h2 := flat_bound HOL.out 8
    rw [List.take_of_length_le (by rw [hM.lo]; omega)] at h2
    exact h2
  have HFL := Lib.hid hfl
  have HV := Lib.hid (accAt_ok m now l A n c W (hr.next hbW) hv hnow)
  clear hr hv hnow v0 v1 v2 v3 hok hrow hbW hfl
  go_enter Try.func18, Try.ntmps18
  go_wp2_with (first | (go_at_call 32; (with_reducible refine Calls.mono HV.out ?_); rintro r u1 ⟨g, rfl, xs, hs⟩; have HS := Lib.hid hs; have HCL := Lib.hid (claims_any W g m _ xs u1 hs HOL.out); clear hs) | (go_at_call 33; (with_reducible refine Calls.mono HCL.out ?_); rintro r u2 ⟨v, rfl, d, hp, ha, hg⟩; have he := asc_unique HOK.out hp ha; have hd := hp.length_eq; have hd2 := HFL.out; have HE := Lib.hid he; obtain ⟨A2, c2, hv2, -⟩ := own_slice hg.own; subst hv2; have hdel := delete_any d now bN u1.heap.size A2 d.length c2 u2 hg.own rfl (by omega) hg.b.size (by have := ((HR.out.below HS.out.b HR.out.lt).below hg.b (by have := HS.out.b.size; have := HR.out.lt; omega)).cell 0; simpa using this) (by have := HS.out.b.size; have := HR.out.lt; omega); have HDL := Lib.hid hdel; have HG := Lib.hid hg; clear hp ha hg he hd hd2 hdel) | (go_at_call 34; (with_reducible refine Calls.mono HDL.out ?_); rintro r u3 ⟨v3, rfl, ho, hb⟩; have HO := Lib.hid ho; have HB3 := Lib.hid hb; clear ho hb))
  refine bodyPost_ret (results_tmp2 rfl _ _ _) rfl ?_
  have hE : d = clV m l now := HE.out
  rw [← hE]
  have s1 := HB.out.size
  have s2 := HS.out.b.size
  exact ⟨_, rfl, own_lower HO.out (by omega), (below_to HB.out (below_to HS.out.b HG.out.b)).trans (HB3.out.mono (by omega))⟩
end Go.Proofs.Ytinhjobjlpkflaa
