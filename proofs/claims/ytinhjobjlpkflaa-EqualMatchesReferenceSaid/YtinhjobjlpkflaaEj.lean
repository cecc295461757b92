/- accounts' owed, accountsAt. -/
import Derived.Test.YtinhjobjlpkflaaEi
import Derived.Test.YtinhjobjlpkflaaEh
import Derived.Test.YtinhjobjlpkflaaEc
namespace Go.Proofs.Ytinhjobjlpkflaa
open Go.RowKit
attribute [local go_sem ↓] append_appN

theorem owedL_take {L : List Cl} (h : ∀ d ∈ L, 0 < d.rest ∧ d.rest ≤ 100000) : ∀ k, 0 ≤ owedL (L.take k) ∧ owedL (L.take k) ≤ (k : Int) * 100000
  | 0 => by simp [owedL]
  | k + 1 => by
    have ih := owedL_take h k
    by_cases hk : k < L.length
    · have hq : L[k]? = some L[k] := List.getElem?_eq_getElem hk
      have h2 := h L[k] (List.getElem_mem _)
      rw [List.take_add_one, hq, Option.toList_some, owedL_append, owedL_one]
      omega
    · rw [List.take_of_length_le (by omega)] at ih ⊢
      omega
theorem owedL_step {L : List Cl} {k : Nat} {q : Cl} (h : L[k]? = some q) : owedL (L.take (k + 1)) = owedL (L.take k) + q.rest := by
  rw [List.take_add_one, h, Option.toList_some, owedL_append, owedL_one]
set_option maxRecDepth 100000 in
set_option maxHeartbeats 8000000 in
theorem owed_any (w : World) (g n : Nat) (s : Ac) (xs : List Value) (w0 : World) (h : AcS w g n s xs w0) (c : Nat) (hc : c < 8) (hp : ∀ d ∈ s.op.getD c [], 0 < d.rest ∧ d.rest ≤ 100000) (hl : (s.op.getD c []).length ≤ 1000) :
    Calls Try.prog 36 #[pt g, .int .i64 (c : Int)] w0 fun e w' => e = .returned (.int .i64 (owedL (s.op.getD c []))) ∧ Below w0.heap.size w0 w' := by
  obtain ⟨L, hL⟩ : ∃ L, s.op.getD c [] = L := ⟨_, rfl⟩
  have hLg : s.op[c]? = some L := by rw [← hL]; exact op_get h.lo hc
  obtain ⟨v, hv⟩ : ∃ v, xs[c]? = some v := ⟨_, List.getElem?_eq_getElem (by rw [h.lx]; exact hc)⟩
  have ho := h.own c v L hv hLg
  obtain ⟨Av, cv, rfl, -⟩ := own_slice ho
  have HR := Lib.hid (recs_of_ownE (enc := encC) (k := 4) (fun _ => rfl) ho rfl)
  have z0 := h.cellS hv
  have lg := h.row.lt
  rw [hL] at hp hl ⊢
  have HB := Lib.hid (fun k => owedL_take hp k)
  have HP := Lib.hid hp
  have c0 : (0 : Int) ≤ (c : Int) := by omega
  have c1 : (c : Int) < 8 := by omega
  clear h hv hLg ho hL hp
  go_enter Try.func36, Try.ntmps36
  go_upto_region 3 with fail
  clear z0
  go_loopw [5, 15] (fun u z wi => ∃ k : Nat, z = .int .i64 (k : Int) ∧ k ≤ L.length ∧ u = .int .i64 (owedL (L.take k)) ∧ Hid (Below w0.heap.size w0 wi)) (fun _ z _ => L.length - (intOf z).toNat)
  case atStart => exact ⟨0, rfl, Nat.zero_le _, rfl, Lib.hid (Below.refl _ _)⟩
  case round =>
    obtain ⟨k, rfl, hk, rfl, HW⟩ := hrel
    have k0 : (0 : Int) ≤ (k : Int) := by omega
    have e7 : IntKind.i64.wrap ((k : Int) + 1) = (k : Int) + 1 := IntWalk.i64_in _ (by omega)
    have hb := HB.out k
    by_cases hlt : k < L.length
    · have k1 : (k : Int) < (L.length : Int) := by omega
      obtain ⟨q, hq⟩ : ∃ q, L[k]? = some q := ⟨_, List.getElem?_eq_getElem hlt⟩
      have hpq := HP.out q (List.mem_of_getElem? hq)
      have HN := Lib.hid (owedL_step hq)
      obtain ⟨b, o, rfl, hg, hcell⟩ := recs_at (HR.out.below HW.out) k hlt
      have a0 : wr.cell? ⟨b, o + k * 4, none⟩ = some (.int .i64 q.cand) := hcell k q hq 0 _ rfl
      have a1 : wr.cell? ⟨b, o + k * 4 + 1, none⟩ = some (.int .i64 q.of_) := hcell k q hq 1 _ rfl
      have a2 : wr.cell? ⟨b, o + k * 4 + 2, none⟩ = some (.int .i64 q.rest) := hcell k q hq 2 _ rfl
      have a3 : wr.cell? ⟨b, o + k * 4 + 3, none⟩ = some (.int .i64 q.until_) := hcell k q hq 3 _ rfl
      have lw := HW.out.size
      have g9 : b < wr.heap.size := by omega
      obtain ⟨S, hS⟩ : ∃ S, owedL (L.take k) = S := ⟨_, rfl⟩
      rw [hS] at hb HN ⊢
      have HBX := Lib.hid (HW.out.alloc HW.out.size (.cells #[.int .i64 q.cand, .int .i64 q.of_, .int .i64 q.rest, .int .i64 q.until_] 39))
      obtain ⟨z0, z1, z2, z3⟩ := q
      dsimp only at a0 a1 a2 a3 HN HBX hpq
      clear hcell hq hS lw
      go_wp2
      go_roundw
      case rel => exact ⟨k + 1, by go_num, by omega, by rw [HN.out], HBX⟩
      case measure => simp [intOf]; omega
    · have k1 : ¬ (k : Int) < (L.length : Int) := by omega
      have HE := Lib.hid (show owedL (L.take k) = owedL L by rw [List.take_of_length_le (by omega)])
      go_wp2
      go_ret
      exact ⟨by rw [← HE.out]; rfl, HW.out⟩
theorem AcS.start {w w1 : World} (hb : Below w.heap.size w w1) (n : Nat) {cs : Array Value} (hcs : (acCells n Ac.start.had (List.replicate 8 (.slice none 0 0))).toArray = cs) : AcS w w1.heap.size n Ac.start (List.replicate 8 (.slice none 0 0)) (w1.alloc (.cells cs 68)) := by
  subst hcs
  have hx : ∀ (j : Nat) (x : Value), (List.replicate 8 (Value.slice none 0 0))[j]? = some x → x = .slice none 0 0 := fun j x h => List.eq_of_mem_replicate (List.mem_of_getElem? h)
  refine ⟨Row.new _ _ _, by simp, by simp [Ac.start], by simp [Ac.start], fun j x L h1 h2 => ?_, fun i j x y q _ h1 _ h3 _ => ?_, fun i x h1 e => ?_, hb.alloc hb.size _, hb.size⟩
  · have e := List.eq_of_mem_replicate (List.mem_of_getElem? h2)
    rw [hx j x h1, e]
    exact World.ownsRow_nil _ _ _ _
  · rw [hx i x h1] at h3
    simp [Value.ownBlock] at h3
  · rw [hx i x h1] at e
    simp [Value.ownBlock] at e
/-- What appear asks for. -/
theorem acc_step {n k : Nat} {s : Ac} (h : AcOk n k s) (hk : k ≤ 60) : (∀ j, j < n → 0 ≤ s.had.getD j 0 ∧ s.had.getD j 0 ≤ 100000000) ∧ (∀ j, ∀ d ∈ s.op.getD j [], 0 < d.rest ∧ d.rest ≤ 100000) ∧ (∀ j, (s.op.getD j []).length ≤ 100) := by
  obtain ⟨M, hM, hM2⟩ := h.lev
  refine ⟨fun j hj => ⟨hM.nn j, by have h1 := hM.sum j hj; have h2 := owedL_nonneg (hM.pos j); omega⟩, fun j d hd => ⟨hM.pos j d hd, by have := (h.cand j d hd).2.2.2.1; omega⟩, fun j => by have := h.len j; omega⟩
set_option maxRecDepth 100000 in
set_option maxHeartbeats 16000000 in
theorem accAt_bad (m now : Int) (l : List Ap) (A : Option Addr) (n c : Nat) (w : World) (hr : Recs encP 4 w w.heap.size (.slice A n c) l) (hbad : (validA m l && (decide (0 ≤ now) && decide (now ≤ 20000000))) = false) :
    Calls Try.prog 32 #[.int .i64 m, .slice A n c, .int .i64 now] w fun e w' => e = .returned (.tuple #[.pointer none, .int .i64 130]) ∧ Below w.heap.size w w' := by
  have HV := Lib.hid (Valid_any m l A n c w hr)
  have HNW := Lib.hid (fun u => isNow_any now u)
  clear hr
  obtain ⟨b0, h0⟩ : ∃ b, validA m l = b := ⟨_, rfl⟩
  obtain ⟨b1, h1⟩ : ∃ b, (decide (0 ≤ now) && decide (now ≤ 20000000)) = b := ⟨_, rfl⟩
  rw [h0] at HV hbad
  rw [h1] at HNW hbad
  clear h0 h1
  cases b0 with
  | false =>
    go_enter Try.func32, Try.ntmps32
    go_wp2_with (first | (go_at_call 14; (with_reducible refine Calls.mono HV.out ?_); rintro r u1 ⟨rfl, hb⟩; have HB1 := Lib.hid hb; clear hb) | (go_at_call 38; (with_reducible refine Calls.mono (HNW.out _) ?_); rintro r u2 ⟨rfl, rfl⟩))
    refine bodyPost_ret (results_tmp2 rfl _ _ _) rfl ?_
    exact ⟨rfl, HB1.out⟩
  | true =>
    obtain rfl : b1 = false := by simpa using hbad
    clear hbad
    go_enter Try.func32, Try.ntmps32
    go_wp2_with (first | (go_at_call 14; (with_reducible refine Calls.mono HV.out ?_); rintro r u1 ⟨rfl, hb⟩; have HB1 := Lib.hid hb; clear hb) | (go_at_call 38; (with_reducible refine Calls.mono (HNW.out _) ?_); rintro r u2 ⟨rfl, rfl⟩))
    refine bodyPost_ret (results_tmp2 rfl _ _ _) rfl ?_
    exact ⟨rfl, HB1.out⟩
theorem validA_parts {n : Int} {l : List Ap} (h : validA n l = true) : 2 ≤ n ∧ n ≤ 8 ∧ l.length ≤ 60 ∧ apsK n l l.length = true := by
  unfold validA at h
  simp only [Bool.and_eq_true, decide_eq_true_eq] at h
  exact ⟨h.1.1.1, h.1.1.2, h.1.2, h.2⟩
set_option maxRecDepth 100000 in
set_option maxHeartbeats 16000000 in
theorem accAt_ok (m : Nat) (now : Int) (l : List Ap) (A : Option Addr) (n c : Nat) (w : World) (hr : Recs encP 4 w w.heap.size (.slice A n c) l) (hv : validA (m : Int) l = true) (hnow : (decide (0 ≤ now) && decide (now ≤ 20000000)) = true) :
    Calls Try.prog 32 #[.int .i64 (m : Int), .slice A n c, .int .i64 now] w fun e w' => ∃ g, e = .returned (.tuple #[pt g, .int .i64 0]) ∧ ∃ xs, AcS w g m (accV m l now) xs w' := by
  have HV := Lib.hid (Valid_any m l A n c w hr)
  have HNW := Lib.hid (fun u => isNow_any now u)
  rw [hv] at HV
  rw [hnow] at HNW
  obtain ⟨v0, v1, v2, v3⟩ := validA_parts hv
  obtain ⟨hn, _, _⟩ := recs_cap hr
  have HN := Lib.hid hn
  have HR := Lib.hid hr
  have hn9 : n ≤ 60 := by omega
  have HOK := Lib.hid (acc_ok (now := now) (show 2 ≤ m by omega) (by omega) v3)
  have HAP := Lib.hid (fun k x (h : l[k]? = some x) => aps_at v3 h)
  have HM8 := Lib.hid (show m ≤ 8 by omega)
  have HST := Lib.hid (fun w1 (hb : Below w.heap.size w w1) => AcS.start hb m (cs := #[.int .i64 0, .int .i64 0, .int .i64 0, .int .i64 0, .int .i64 0, .int .i64 0, .int .i64 0, .int .i64 0, .int .i64 (m : Int), .slice none 0 0, .slice none 0 0, .slice none 0 0, .slice none 0 0, .slice none 0 0, .slice none 0 0, .slice none 0 0, .slice none 0 0]) rfl)
  clear hr hv hnow hn v0 v1 v2 v3
  go_enter Try.func32, Try.ntmps32
  go_wp2_with (first | (go_at_call 14; (with_reducible refine Calls.mono HV.out ?_); rintro r u1 ⟨rfl, hb⟩; have HB1 := Lib.hid hb; clear hb) | (go_at_call 38; (with_reducible refine Calls.mono (HNW.out _) ?_); rintro r u2 ⟨rfl, rfl⟩))
  have HS0 := Lib.hid (HST.out _ HB1.out)
  obtain ⟨g, hg⟩ : ∃ g, u1.heap.size = g := ⟨_, rfl⟩
  rw [hg] at HS0 ⊢
  clear HST hg
  go_loopw [25] (fun z wi => ∃ (k : Nat) (xs : List Value), z = .int .i64 (k : Int) ∧ k ≤ n ∧ Hid (AcS w g m (accK m l now k) xs wi)) (fun z _ => n - (intOf z).toNat)
  case atStart => exact ⟨0, _, rfl, Nat.zero_le _, HS0⟩
  case round =>
    obtain ⟨k, xs, rfl, hk, HS⟩ := hrel
    have k0 : (0 : Int) ≤ (k : Int) := by omega
    have e7 : IntKind.i64.wrap ((k : Int) + 1) = (k : Int) + 1 := IntWalk.i64_in _ (by omega)
    by_cases hlt : k < n
    · have hka : k < l.length := by have := HN.out; omega
      have k1 : (k : Int) < (n : Int) := by omega
      obtain ⟨b, o, rfl, hgb, hcell⟩ := recs_at (HR.out.below HS.out.b) k hka
      obtain ⟨q, hq⟩ : ∃ q, l[k]? = some q := ⟨_, List.getElem?_eq_getElem hka⟩
      have a0 : wr.cell? ⟨b, o + k * 4, none⟩ = some (.int .i64 q.cand) := hcell k q hq 0 _ rfl
      have a1 : wr.cell? ⟨b, o + k * 4 + 1, none⟩ = some (.int .i64 q.at_) := hcell k q hq 1 _ rfl
      have a2 : wr.cell? ⟨b, o + k * 4 + 2, none⟩ = some (.int .i64 q.secs) := hcell k q hq 2 _ rfl
      have a3 : wr.cell? ⟨b, o + k * 4 + 3, none⟩ = some (.int .i64 q.weight) := hcell k q hq 3 _ rfl
      have lw := HS.out.b.size
      have g1 : b < wr.heap.size := by omega
      have HQO := Lib.hid (HAP.out k q hq)
      have HSTP := Lib.hid (acc_step (HOK.out k (by omega)) (by omega))
      have HSX := Lib.hid (HS.out.next ((Below.refl wr.heap.size wr).alloc (Nat.le_refl _) (.cells #[.int .i64 q.cand, .int .i64 q.at_, .int .i64 q.secs, .int .i64 q.weight] 49)))
      have HN1 := Lib.hid (accK_succ (n := m) (now := now) hq)
      have HAPP := Lib.hid (fun w1 (hs : AcS w g m (accK m l now k) xs w1) => appear_any w g m (accK m l now k) xs w1 hs k q HM8.out HQO.out HSTP.out.1 HSTP.out.2.1 HSTP.out.2.2)
      obtain ⟨z0, z1, z2, z3⟩ := q
      dsimp only at a0 a1 a2 a3 HN1 HSX HAPP
      clear hcell hq lw
      by_cases hd : z1 ≤ now
      · have HN2 := Lib.hid (show accK m l now (k + 1) = apStep m k ⟨z0, z1, z2, z3⟩ (accK m l now k) by rw [HN1.out, if_pos hd])
        go_wp2_with (go_at_call 39; (with_reducible refine Calls.mono (HAPP.out _ HSX.out) ?_); rintro r u3 ⟨rfl, xs3, hs3⟩; have HS3 := Lib.hid hs3; clear hs3)
        go_roundw
        case rel => exact ⟨k + 1, xs3, by go_num, by omega, by rw [HN2.out]; exact HS3⟩
        case measure => simp [intOf]; omega
      · have HN2 := Lib.hid (show accK m l now (k + 1) = accK m l now k by rw [HN1.out, if_neg hd])
        go_wp2
        go_roundw
        case rel => exact ⟨k + 1, xs, by go_num, by omega, by rw [HN2.out]; exact HSX⟩
        case measure => simp [intOf]; omega
    · have k1 : ¬ (k : Int) < (n : Int) := by omega
      have HE := Lib.hid (show accK m l now k = accV m l now by unfold accV; rw [show k = l.length by have := HN.out; omega])
      go_wp2
      refine bodyPost_ret (results_tmp2 rfl _ _ _) rfl ?_
      exact ⟨g, rfl, xs, by rw [← HE.out]; exact HS.out⟩
end Go.Proofs.Ytinhjobjlpkflaa
