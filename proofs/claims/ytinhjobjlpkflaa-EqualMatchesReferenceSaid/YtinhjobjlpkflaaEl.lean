/- Owed, Totals. -/
import Derived.Test.YtinhjobjlpkflaaEj
import Derived.Test.YtinhjobjlpkflaaShelf
namespace Go.Proofs.Ytinhjobjlpkflaa
open Go.RowKit Go.Shelf
attribute [local go_sem ↓] append_appN

theorem clone_any (l : List Int) (hl : l.length ≤ 100000) (A : Option Addr) (n c : Nat) (w : World) (hr : Recs enc1 1 w w.heap.size (.slice A n c) l) :
    Calls Try.prog 37 #[.slice A n c] w fun e w' => ∃ v', e = .returned v' ∧ w'.ownsRow w.heap.size 3 1 v' n (iv1 l) ∧ Below w.heap.size w w' := by
  have hn := (recs_cap hr).1
  by_cases hz : n = 0
  · have hnil : l = [] := List.eq_nil_of_length_eq_zero (by omega)
    subst hnil
    subst hz
    cases A with
    | none =>
      refine (Try.slices_Clone_int_nil 0 c w).mono ?_
      rintro e w' ⟨rfl, rfl⟩
      exact ⟨_, rfl, World.ownsRow_nil _ _ _ _, Below.refl _ _⟩
    | some a =>
      refine (Try.slices_Clone_int_zero a c w).mono ?_
      rintro e w' ⟨v', rfl, h1, -, h2⟩
      exact ⟨v', rfl, h1, h2⟩
  · obtain ⟨b, off, rfl, hb, hcell⟩ := recs_at hr 0 (by omega)
    refine (Try.slices_Clone_int b off n c l w (by omega) (by omega) (fun j hj => ?_)).mono ?_
    · have := cells1 hcell j hj
      rw [this]
      simp [List.getD_eq_getElem?_getD, hj]
    · rintro e w' ⟨v', rfl, h1, -, h2⟩
      rw [List.take_of_length_le (by omega)] at h1
      exact ⟨v', rfl, h1, h2⟩
/-- Numbers that are gathered. -/
structure GatI (w : World) (L : List Int) (o : Value) (wr : World) : Prop where
  own : wr.ownsRow w.heap.size 3 1 o L.length (iv1 L)
  b : Below w.heap.size w wr
theorem GatI.next {w : World} {L : List Int} {o : Value} {wr wr' : World} (h : GatI w L o wr) (hb : Below wr.heap.size wr wr') : GatI w L o wr' := ⟨own_below h.own hb, below_to h.b hb⟩
theorem GatI.push {w : World} {L : List Int} {o : Value} {wr : World} (h : GatI w L o wr) (hl : L.length ≤ 100000) (k : Int) :
    ∃ A c w', Sem.run Try.prog (appN #[28, 28] 28 #[o, .slice (some ⟨wr.heap.size, 0, none⟩) 1 1]) (wr.alloc (.cells #[.int .i64 k] 3)) = .ok (.slice A (L.length + 1) c) w' ∧ GatI w (L ++ [k]) (.slice A (L.length + 1) c) w' := by
  obtain ⟨A, c, w', r, o', g, -⟩ := push_one (x := .int .i64 k) (B := w.heap.size) Try.underlying28 infoInt rfl rfl (by omega) h.own (by omega) h.b.size
  have hlow := own_ge h.own
  have hb : Below w.heap.size wr w' := ((Below.refl _ wr).alloc h.b.size _ |>.mono (Nat.le_refl _)).grown g (by have := h.b.size; simp; omega) (fun r x => by have := hlow r x; omega)
  refine ⟨A, c, w', r, ⟨?_, h.b.trans hb⟩⟩
  rw [List.length_append]
  have e2 : iv1 (L ++ [k]) = iv1 L ++ [Value.int .i64 k] := by simp [iv1]
  rw [e2]; exact o'
theorem GatI.recs {w : World} {L : List Int} {o : Value} {wr : World} (h : GatI w L o wr) : Recs enc1 1 wr wr.heap.size o L := ints_own h.own rfl
theorem owV_step {m : Nat} {l : List Ap} {now : Int} {k : Nat} (h : k < m) : (owV m l now).take (k + 1) = (owV m l now).take k ++ [owedL ((accV m l now).op.getD k [])] := by
  rw [List.take_add_one, owV_get h]; rfl
theorem tot_recs {w : World} {g m : Nat} {l : List Ap} {now : Int} {xs : List Value} {u : World} (hs : AcS w g m (accV m l now) xs u) (hl : (totV m l now).length = m) (hm : m ≤ 8) : Recs enc1 1 u u.heap.size (.slice (some ⟨g, 0, none⟩) m 8) (totV m l now) := by
  refine ⟨some ⟨g, 0, none⟩, 8, by rw [hl], by rw [hl]; exact hm, by decide, .inr ⟨g, 0, rfl, hs.row.lt, fun j x hj i v hv => ?_⟩⟩
  have hj2 : (accV m l now).had[j]? = some x := by
    unfold totV at hj
    have h1 := (List.getElem?_eq_some_iff.1 hj).1
    rw [List.getElem?_take] at hj
    split at hj
    · exact hj
    · cases hj
  have e : i = 0 ∧ v = .int .i64 x := by
    unfold enc1 at hv
    cases i with
    | zero => exact ⟨rfl, (Option.some.inj hv).symm⟩
    | succ i => simp at hv
  rw [e.1, e.2, show 0 + j * 1 + 0 = j by omega]
  exact hs.cellH hj2
def nowB (now : Int) : Bool := decide (0 ≤ now) && decide (now ≤ 20000000)
set_option maxRecDepth 100000 in
set_option maxHeartbeats 8000000 in
theorem Owed_bad (m now : Int) (l : List Ap) (A : Option Addr) (n c : Nat) (w : World) (hr : Recs encP 4 w w.heap.size (.slice A n c) l) (hbad : (validA m l && nowB now) = false) :
    Calls Try.prog 21 #[.int .i64 m, .slice A n c, .int .i64 now] w fun e w' => e = .returned (.tuple #[.slice none 0 0, .int .i64 130]) ∧ Below w.heap.size w w' := by
  have HV := Lib.hid (accAt_bad m now l A n c w hr hbad)
  clear hr hbad
  go_enter Try.func21, Try.ntmps21
  go_wp2_with (go_at_call 32; (with_reducible refine Calls.mono HV.out ?_); rintro r u1 ⟨rfl, hb⟩; have HB1 := Lib.hid hb; clear hb)
  refine bodyPost_ret (results_tmp2 rfl _ _ _) rfl ?_
  exact ⟨rfl, HB1.out⟩
set_option maxRecDepth 100000 in
set_option maxHeartbeats 8000000 in
theorem Totals_bad (m now : Int) (l : List Ap) (A : Option Addr) (n c : Nat) (w : World) (hr : Recs encP 4 w w.heap.size (.slice A n c) l) (hbad : (validA m l && nowB now) = false) :
    Calls Try.prog 23 #[.int .i64 m, .slice A n c, .int .i64 now] w fun e w' => e = .returned (.tuple #[.slice none 0 0, .int .i64 130]) ∧ Below w.heap.size w w' := by
  have HV := Lib.hid (accAt_bad m now l A n c w hr hbad)
  clear hr hbad
  go_enter Try.func23, Try.ntmps23
  go_wp2_with (go_at_call 32; (with_reducible refine Calls.mono HV.out ?_); rintro r u1 ⟨rfl, hb⟩; have HB1 := Lib.hid hb; clear hb)
  refine bodyPost_ret (results_tmp2 rfl _ _ _) rfl ?_
  exact ⟨rfl, HB1.out⟩
set_option maxRecDepth 100000 in
set_option maxHeartbeats 16000000 in
theorem Owed_ok (m : Nat) (now : Int) (l : List Ap) (A : Option Addr) (n c : Nat) (w : World) (hr : Recs encP 4 w w.heap.size (.slice A n c) l) (hv : validA (m : Int) l = true) (hnow : nowB now = true) :
    Calls Try.prog 21 #[.int .i64 (m : Int), .slice A n c, .int .i64 now] w fun e w' => ∃ v, e = .returned (.tuple #[v, .int .i64 0]) ∧ GatI w (owV m l now) v w' := by
  obtain ⟨v0, v1, v2, v3⟩ := validA_parts hv
  have HOK := Lib.hid (acc_step (acc_ok (now := now) (show 2 ≤ m by omega) (by omega) v3 l.length (Nat.le_refl _)) v2)
  have HV := Lib.hid (accAt_ok m now l A n c w hr hv hnow)
  have hm8 : m ≤ 8 := by omega
  have m0 : (0 : Int) ≤ (m : Int) := by omega
  clear hr hv hnow v0 v1 v2 v3
  go_enter Try.func21, Try.ntmps21
  go_wp2_with (go_at_call 32; (with_reducible refine Calls.mono HV.out ?_); rintro r u1 ⟨g, rfl, xs, hs⟩; have HS := Lib.hid hs; clear hs)
  go_loopw [10, 23] (fun o z wi => ∃ k : Nat, z = .int .i64 (k : Int) ∧ k ≤ m ∧ Hid (GatI u1 ((owV m l now).take k) o wi)) (fun _ z _ => m - (intOf z).toNat)
  case atStart => exact ⟨0, rfl, Nat.zero_le _, Lib.hid ⟨World.ownsRow_nil _ _ _ _, Below.refl _ _⟩⟩
  case round =>
    obtain ⟨k, rfl, hk, HG⟩ := hrel
    have k0 : (0 : Int) ≤ (k : Int) := by omega
    have e7 : IntKind.i64.wrap ((k : Int) + 1) = (k : Int) + 1 := IntWalk.i64_in _ (by omega)
    by_cases hlt : k < m
    · have k1 : (k : Int) < (m : Int) := by omega
      have HSK := Lib.hid (HS.out.next HG.out.b)
      have HOW := Lib.hid (owed_any w g m (accV m l now) xs wr HSK.out k (by omega) (HOK.out.2.1 k) (by have := HOK.out.2.2 k; unfold accV; omega))
      have HN := Lib.hid (owV_step (l := l) (now := now) hlt)
      obtain ⟨x, hx⟩ : ∃ x, owedL ((accV m l now).op.getD k []) = x := ⟨_, rfl⟩
      rw [hx] at HN HOW
      obtain ⟨L, hL⟩ : ∃ L, (owV m l now).take k = L := ⟨_, rfl⟩
      have HLN := Lib.hid (show L.length ≤ 8 by rw [← hL, List.length_take]; omega)
      rw [hL] at HG HN
      obtain ⟨A5, c5, rfl, -⟩ := own_slice HG.out.own
      clear hx hL
      go_upto_region 8 with fail
      go_wp2_with (go_at_call 36; (with_reducible refine Calls.mono HOW.out ?_); rintro r u3 ⟨rfl, hb3⟩; obtain ⟨A6, c6, w6, hrun, hG⟩ := (HG.out.next hb3).push (by have := HLN.out; omega) x; have HG6 := Lib.hid hG; clear hG hb3)
      go_roundw
      case rel => exact ⟨k + 1, by go_num, by omega, by rw [HN.out]; exact HG6⟩
      case measure => simp [intOf]; omega
    · have k1 : ¬ (k : Int) < (m : Int) := by omega
      have HE := Lib.hid (show (owV m l now).take k = owV m l now by rw [List.take_of_length_le (by rw [owV_len]; omega)])
      go_wp2
      refine bodyPost_ret (results_tmp2 rfl _ _ _) rfl ?_
      have h := HG.out
      rw [HE.out] at h
      exact ⟨_, rfl, own_lower h.own HS.out.b.size, HS.out.b.trans (h.b.mono HS.out.b.size)⟩
set_option maxRecDepth 100000 in
set_option maxHeartbeats 16000000 in
theorem Totals_ok (m : Nat) (now : Int) (l : List Ap) (A : Option Addr) (n c : Nat) (w : World) (hr : Recs encP 4 w w.heap.size (.slice A n c) l) (hv : validA (m : Int) l = true) (hnow : nowB now = true) :
    Calls Try.prog 23 #[.int .i64 (m : Int), .slice A n c, .int .i64 now] w fun e w' => ∃ v, e = .returned (.tuple #[v, .int .i64 0]) ∧ GatI w (totV m l now) v w' := by
  obtain ⟨v0, v1, v2, v3⟩ := validA_parts hv
  have HV := Lib.hid (accAt_ok m now l A n c w hr hv hnow)
  have HTL := Lib.hid (show (totV m l now).length = m from (levels (now := now) (by omega) (by omega) v3).1)
  have hm8 : m ≤ 8 := by omega
  have m0 : (0 : Int) ≤ (m : Int) := by omega
  have m1 : (m : Int) ≤ 8 := by omega
  have HCL := Lib.hid (fun u1 g xs (hs : AcS w g m (accV m l now) xs u1) => clone_any (totV m l now) (by rw [HTL.out]; omega) (some ⟨g, 0, none⟩) m 8 u1 (tot_recs hs HTL.out hm8))
  clear hr hv hnow v0 v1 v2 v3
  go_enter Try.func23, Try.ntmps23
  go_wp2_with (first | (go_at_call 32; (with_reducible refine Calls.mono HV.out ?_); rintro r u1 ⟨g, rfl, xs, hs⟩; have HS := Lib.hid hs; have lg := hs.row.lt; clear hs) | (go_at_call 37; (with_reducible refine Calls.mono (HCL.out _ g xs HS.out) ?_); rintro r u2 ⟨v2, rfl, ho, hb⟩; have HO := Lib.hid ho; have HB := Lib.hid hb; clear ho hb))
  refine bodyPost_ret (results_tmp2 rfl _ _ _) rfl ?_
  exact ⟨_, rfl, own_lower (by rw [HTL.out]; exact HO.out) HS.out.b.size, HS.out.b.trans (HB.out.mono HS.out.b.size)⟩
end Go.Proofs.Ytinhjobjlpkflaa
