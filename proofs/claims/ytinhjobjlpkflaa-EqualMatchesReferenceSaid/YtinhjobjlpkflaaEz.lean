/- The reference's Made. -/
import Derived.Test.YtinhjobjlpkflaaEx
import Derived.Deep.CutBlock
namespace Go.Proofs.Ytinhjobjlpkflaa
open Go.RowKit
attribute [local go_sem ↓] append_appN

theorem GatP.pushD {w : World} {L : List Ap} {o : Value} {wr : World} (h : GatP w L o wr) (hl : L.length ≤ 100000) (x : Ap) {cs : Array Value} (hcs : (encP x).toArray = cs) :
    ∃ A c w', Sem.run Try.prog (appN #[22, 22] 22 #[o, .slice (some ⟨wr.heap.size, 0, none⟩) 1 1]) (wr.alloc (.cells cs 49)).drew = .ok (.slice A (L.length + 1) c) w' ∧ GatP w (L ++ [x]) (.slice A (L.length + 1) c) w' :=
  (h.next (Below.refl _ _).drew).push hl x hcs
set_option maxRecDepth 100000 in
set_option maxHeartbeats 16000000 in
theorem made_any (nn : Int) (hnn : I64 nn) (xs : List I4) (hx : ∀ x ∈ xs, OkI4 x) (A : Option Addr) (n c : Nat) (w : World) (hr : Recs enc4 4 w w.heap.size (.slice A n c) xs) :
    Calls Try.prog 11 #[.int .i64 nn, .slice A n c] w fun e w' => ∃ v, e = .returned v ∧ GatP w (madeA nn xs) v w' := by
  obtain ⟨hn, hc1, hc2⟩ := recs_cap hr
  have HN := Lib.hid hn
  have HR := Lib.hid hr
  have HX := Lib.hid hx
  have HMO := Lib.hid (fun k h1 h2 => made_ok nn xs k h1 h2)
  have HCT := Lib.hid (fun u => count_any nn hnn.1 hnn.2 u)
  have HNN := Lib.hid hnn
  have n9 : n ≤ 9223372036854775807 := by omega
  clear hn hc1 hc2 hr hx hnn
  go_enter Try.func11, Try.ntmps11
  go_wp2
  go_loopw [5, 6, 7] (fun v a z wr => ∃ k : Nat, z = .int .i64 (k : Int) ∧ k ≤ n ∧ k ≤ 20 ∧ a = .int .i64 (madeS nn (xs.take k)).2 ∧ Hid (GatP w (madeS nn (xs.take k)).1 v wr)) (fun _ _ z _ => 20 - (intOf z).toNat)
  case atStart => exact ⟨0, rfl, Nat.zero_le _, by decide, rfl, Lib.hid ⟨World.ownsRow_nil _ _ _ _, Below.refl _ _⟩⟩
  case round =>
    obtain ⟨k, rfl, hk, hk8, rfl, HW⟩ := hrel
    have HM := Lib.hid (HMO.out k (by have := HN.out; omega) hk8)
    obtain ⟨st, hst⟩ : ∃ st, madeS nn (xs.take k) = st := ⟨_, rfl⟩
    rw [hst] at HW HM ⊢
    have HST := Lib.hid hst
    clear hst
    obtain ⟨L, t⟩ := st
    obtain ⟨A2, c2, rfl, -⟩ := own_slice HW.out.own
    have t0 : 0 ≤ t := HM.out.a0
    have t1 : t ≤ 1728000 := by have := HM.out.a1; dsimp only at this; omega
    have HLL := Lib.hid (show L.length = k from HM.out.len)
    have k0 : (0 : Int) ≤ (k : Int) := by omega
    dsimp only
    by_cases hlt : k < n
    · have k1 : (k : Int) < (n : Int) := by omega
      by_cases h8 : k < 20
      · have k2 : (k : Int) < 20 := by omega
        have hka : k < xs.length := by have := HN.out; omega
        obtain ⟨b, o, rfl, hg, hcell⟩ := recs_at HR.out k hka
        obtain ⟨q, hq⟩ : ∃ q, xs[k]? = some q := ⟨_, List.getElem?_eq_getElem hka⟩
        have lw := HW.out.b.size
        have g9 : b < wr.heap.size := by omega
        have hbw := HW.out.b
        have HSN := Lib.hid (show madeS nn (xs.take (k + 1)) = stepA nn (L, t) q by rw [← HST.out]; exact madeS_snoc nn hq)
        have HQ := Lib.hid (HX.out q (List.mem_of_getElem? hq))
        have a0 : wr.cell? ⟨b, o + k * 4, none⟩ = some (.int .i64 q.a) := (hbw.cell hg).trans (hcell k q hq 0 _ rfl)
        have a1 : wr.cell? ⟨b, o + k * 4 + 1, none⟩ = some (.int .i64 q.b) := (hbw.cell hg).trans (hcell k q hq 1 _ rfl)
        have a2 : wr.cell? ⟨b, o + k * 4 + 2, none⟩ = some (.int .i64 q.c) := (hbw.cell hg).trans (hcell k q hq 2 _ rfl)
        have a3 : wr.cell? ⟨b, o + k * 4 + 3, none⟩ = some (.int .i64 q.d) := (hbw.cell hg).trans (hcell k q hq 3 _ rfl)
        have hcb := countV_bd nn
        have P1 := Lib.hid (fun u => rpick_any q.a (countV nn) (by omega) (by omega) HQ.out.a.1 HQ.out.a.2 u)
        have P2 := Lib.hid (fun u => rpick_any q.b 86400 (by decide) (by decide) HQ.out.b.1 HQ.out.b.2 u)
        have P3 := Lib.hid (fun u => rpick_any q.c 30 (by decide) (by decide) HQ.out.c.1 HQ.out.c.2 u)
        have P4 := Lib.hid (fun u => rpick_any q.d 4 (by decide) (by decide) HQ.out.d.1 HQ.out.d.2 u)
        have r2 := pickI_lt q.b 86400 (by decide)
        have r3 := pickI_lt q.c 30 (by decide)
        have r4 := pickI_lt q.d 4 (by decide)
        unfold stepA at HSN
        generalize pickI q.a (countV nn) = p1 at *
        generalize pickI q.b 86400 = p2 at *
        generalize pickI q.c 30 = p3 at *
        generalize pickI q.d 4 = p4 at *
        obtain ⟨cn, hcn⟩ : ∃ cn, countV nn = cn := ⟨_, rfl⟩
        have HCT := HCT
        rw [hcn] at HCT P1
        obtain ⟨q0, q1, q2, q3⟩ := q
        dsimp only at a0 a1 a2 a3 P1 P2 P3 P4 HSN
        have HSK := Lib.hid (show ∀ y, Below w.heap.size w y → Below w.heap.size w y ∧ y.cell? ⟨b, o + k * 4, none⟩ = some (.int .i64 q0) ∧ y.cell? ⟨b, o + k * 4 + 2, none⟩ = some (.int .i64 q2) ∧ y.cell? ⟨b, o + k * 4 + 3, none⟩ = some (.int .i64 q3) from fun y hy => ⟨hy, (hy.cell hg).trans ((hbw.cell hg).symm.trans a0), (hy.cell hg).trans ((hbw.cell hg).symm.trans a2), (hy.cell hg).trans ((hbw.cell hg).symm.trans a3)⟩)
        have s1 : IntKind.i64.wrap (t + 1) = t + 1 := IntWalk.i64_in _ (by omega)
        have s2 : IntKind.i64.wrap (t + 1 + p2) = t + 1 + p2 := IntWalk.i64_in _ (by omega)
        have s3 : IntKind.i64.wrap (1 + p3) = 1 + p3 := IntWalk.i64_in _ (by omega)
        have s4 : IntKind.i64.wrap (1 + p4) = 1 + p4 := IntWalk.i64_in _ (by omega)
        have e5k : IntKind.i64.wrap ((k : Int) + 1) = (k : Int) + 1 := IntWalk.i64_in _ (by omega)
        obtain ⟨T, hT⟩ : ∃ T, t + 1 + p2 = T := ⟨_, rfl⟩
        rw [hT] at HSN s2
        obtain ⟨A3, c3, w3, hrun, hG⟩ := HW.out.pushD (by have := HLL.out; dsimp only; omega) ⟨p1, T, 1 + p3, 1 + p4⟩ (cs := #[.int .i64 p1, .int .i64 T, .int .i64 (1 + p3), .int .i64 (1 + p4)]) rfl
        have HG2 := Lib.hid hG
        clear hbw hcell hq lw r2 r3 r4 hka hcb hcn hG HQ
        go_upto_region 7 with (go_at_call 29; (with_reducible refine Calls.mono (P2.out _) ?_); rintro r u1 ⟨rfl, rfl⟩)
        clear hT
        go_region_held3 (fun y => Below w.heap.size w y ∧ y.cell? ⟨b, o + k * 4, none⟩ = some (.int .i64 q0) ∧ y.cell? ⟨b, o + k * 4 + 2, none⟩ = some (.int .i64 q2) ∧ y.cell? ⟨b, o + k * 4 + 3, none⟩ = some (.int .i64 q3)) (first | assumption | (exact HSK.out _ HW.out.b.drew) | (exact HSK.out _ (HW.out.b.alloc HW.out.b.size _).drew) | (exact HSK.out _ HG2.out.b)) (first | (go_at_call 12; ((with_reducible refine Calls.mono (HCT.out _) ?_); rintro r w9 ⟨rfl, rfl⟩)) | (go_at_call 29; ((first | (with_reducible refine Calls.mono (P1.out _) ?_) | (with_reducible refine Calls.mono (P3.out _) ?_) | (with_reducible refine Calls.mono (P4.out _) ?_)); rintro r w9 ⟨rfl, rfl⟩)))
        all_goals (
          go_wp2
          go_roundw
          case rel => exact ⟨k + 1, by go_num, by omega, by omega, by rw [HSN.out], by rw [HSN.out]; exact HG2⟩
          case measure => simp [intOf]; omega)
      · have k2 : ¬ (k : Int) < 20 := by omega
        have HE := Lib.hid (show L = madeA nn xs by unfold madeA; rw [show 20 = k by omega, HST.out])
        go_wp2
        go_ret
        exact ⟨_, rfl, by rw [← HE.out]; exact HW.out⟩
    · have k1 : ¬ (k : Int) < (n : Int) := by omega
      have HE := Lib.hid (show L = madeA nn xs by unfold madeA; rw [List.take_of_length_le (by have := HN.out; omega), ← List.take_of_length_le (l := xs) (i := k) (by have := HN.out; omega), HST.out])
      go_wp2
      go_ret
      exact ⟨_, rfl, by rw [← HE.out]; exact HW.out⟩
end Go.Proofs.Ytinhjobjlpkflaa
