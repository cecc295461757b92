/- The reference: Withdraw, Permits, Left. -/
import Derived.Test.YtenojfniknjeiaaRh
import Derived.Deep.RegionHeld3
namespace Go.Proofs.Ytenojfniknjeiaa
open Go.RowKit Go.Shelf
attribute [local go_sem ↓] append_appN
set_option maxRecDepth 100000 in
set_option maxHeartbeats 8000000 in
theorem rWithdraw_any (l : List Gr) (item at_ : Int) (A : Option Addr) (n c : Nat) (w : World) (hr : Recs encG 6 w w.heap.size (.slice A n c) l) :
    Calls Try.prog 19 #[.slice A n c, .int .i64 item, .int .i64 at_] w (WithPost w (withV l item at_)) := by
  obtain ⟨hn, hc1, hc2⟩ := recs_cap hr
  have HR := Lib.hid hr
  have HN := Lib.hid hn
  have hn9 : n ≤ 9223372036854775807 := by omega
  have HG := Lib.hid (rvalid_any l A n c w hr)
  obtain ⟨b0, hb0⟩ : ∃ b, validG l = b := ⟨_, rfl⟩
  rw [hb0] at HG
  have H0 := Lib.hid hb0
  clear hr hn hc1 hc2 hb0
  cases b0 with
  | false =>
    have HE := Lib.hid (show withV l item at_ = [] by unfold withV withOk; rw [H0.out]; simp)
    rw [HE.out]
    go_enter Try.func19, Try.ntmps19
    go_wp2_with (first | (go_at_call 14; (with_reducible refine Calls.mono HG.out ?_); rintro r u1 ⟨rfl, hb⟩; have Bc := Lib.hid hb; clear hb) | (go_at_call 33; (with_reducible refine Calls.mono (HI1.out _) ?_); rintro r y1 ⟨rfl, rfl⟩) | (go_at_call 33; (with_reducible refine Calls.mono (HI2.out _) ?_); rintro r y1 ⟨rfl, rfl⟩))
    go_ret
    exact ⟨_, _, rfl, recs_nil _ _ _ _, Bc.out⟩
  | true =>
    have HI1 := Lib.hid (fun y => in_any item 0 199 y)
    have HI2 := Lib.hid (fun y => in_any at_ 0 10000000 y)
    by_cases g0 : 0 ≤ item
    · skip
      by_cases g1 : item < 200
      · have g1i : item ≤ 199 := by omega
        by_cases g2 : 0 ≤ at_
        · skip
          by_cases g3 : at_ ≤ 10000000
          · skip
            have HOK := Lib.hid (show withV l item at_ = withL l item at_ by unfold withV withOk; rw [H0.out]; simp [g0, g1, g2, g3])
            rw [HOK.out]
            have HL12 := Lib.hid (validG_len H0.out)
            go_enter Try.func19, Try.ntmps19
            go_upto_region 3 with (first | (go_at_call 14; (with_reducible refine Calls.mono HG.out ?_); rintro r u1 ⟨rfl, hb⟩; have Bc := Lib.hid hb; clear hb) | (go_at_call 33; (with_reducible refine Calls.mono (HI1.out _) ?_); rintro r y1 ⟨rfl, rfl⟩) | (go_at_call 33; (with_reducible refine Calls.mono (HI2.out _) ?_); rintro r y1 ⟨rfl, rfl⟩))
            have HG0 := Lib.hid (show GatG w (withL (l.take 0) item at_) (.slice none 0 0) u1 from ⟨World.ownsRow_nil _ _ _ _, Bc.out⟩)
            clear Bc
            go_wp2
            go_loopw [7, 8] (fun o j wr => ∃ k : Nat, j = .int .i64 (k : Int) ∧ k ≤ n ∧ Hid (GatG w (withL (l.take k) item at_) o wr)) (fun _ j _ => n - (intOf j).toNat)
            case atStart => exact ⟨0, rfl, Nat.zero_le _, HG0⟩
            case round =>
              clear HG0
              obtain ⟨k, rfl, hk, HW⟩ := hrel
              by_cases hlt : k < n
              · have hka : k < l.length := by have := HN.out; omega
                obtain ⟨b, o, rfl, hg, hcell⟩ := recs_at (HR.out.below HW.out.b) k hka
                obtain ⟨q, hq⟩ : ∃ q, l[k]? = some q := ⟨_, List.getElem?_eq_getElem hka⟩
                have HQ := Lib.hid hq
                have a0 : wr.cell? ⟨b, o + k * 6, none⟩ = some (.int .i64 q.item) := hcell k q hq 0 _ rfl
                have a1 : wr.cell? ⟨b, o + k * 6 + 1, none⟩ = some (.int .i64 q.acts) := hcell k q hq 1 _ rfl
                have a2 : wr.cell? ⟨b, o + k * 6 + 2, none⟩ = some (.int .i64 q.regions) := hcell k q hq 2 _ rfl
                have a3 : wr.cell? ⟨b, o + k * 6 + 3, none⟩ = some (.int .i64 q.plays) := hcell k q hq 3 _ rfl
                have a4 : wr.cell? ⟨b, o + k * 6 + 4, none⟩ = some (.int .i64 q.fr) := hcell k q hq 4 _ rfl
                have a5 : wr.cell? ⟨b, o + k * 6 + 5, none⟩ = some (.int .i64 q.tw) := hcell k q hq 5 _ rfl
                have lw := HW.out.b.size
                have g9 : b < wr.heap.size := by omega
                have k0 : (0 : Int) ≤ (k : Int) := by omega
                have k1 : (k : Int) < (n : Int) := by omega
                have HSN := Lib.hid (withL_snoc item at_ HQ.out)
                have HLE := Lib.hid (show (withL (l.take k) item at_).length ≤ 12 by have := withL_len (l.take k) item at_; rw [List.length_take] at this; have := HL12.out; omega)
                obtain ⟨tw2, htw⟩ : ∃ t, (if q.item = item then min q.tw at_ else q.tw) = t := ⟨_, rfl⟩
                have HWD := Lib.hid (show wdG item at_ q = ⟨q.item, q.acts, q.regions, q.plays, q.fr, tw2⟩ by unfold wdG; rw [← htw]; split <;> rfl)
                have HS2 := Lib.hid (show withL (l.take (k + 1)) item at_ = withL (l.take k) item at_ ++ (if q.fr < tw2 then [⟨q.item, q.acts, q.regions, q.plays, q.fr, tw2⟩] else []) by have := HSN.out; rw [HWD.out] at this; exact this)
                have hb2 : ∀ cs, Below wr.heap.size wr (wr.alloc (.cells cs 52)) := fun cs => (Below.refl _ _).alloc (Nat.le_refl _) _
                have HB2 := Lib.hid hb2
                clear hcell hq hb2 lw
                by_cases he : q.item = item
                · have e1 : (q.item == item) = true := by simp [he]
                  rw [if_pos he] at htw
                  have MN := fun w : World => run_min2 (P := Try.prog) (w := w) #[3, 3] 3 .i64 .i64 q.tw at_ tw2 htw
                  clear he htw
                  by_cases hf : q.fr < tw2
                  · have HS3 := Lib.hid (show withL (l.take (k + 1)) item at_ = withL (l.take k) item at_ ++ [⟨q.item, q.acts, q.regions, q.plays, q.fr, tw2⟩] by rw [HS2.out, if_pos hf])
                    obtain ⟨A2, c2, w2, hrun, hG⟩ := (HW.out.next (HB2.out #[.int .i64 q.item, .int .i64 q.acts, .int .i64 q.regions, .int .i64 q.plays, .int .i64 q.fr, .int .i64 tw2])).push (by have := HLE.out; omega) ⟨q.item, q.acts, q.regions, q.plays, q.fr, tw2⟩ (cs := #[.int .i64 q.item, .int .i64 q.acts, .int .i64 q.regions, .int .i64 q.plays, .int .i64 q.fr, .int .i64 tw2]) rfl
                    have HG2 := Lib.hid hG
                    rw [World.size_alloc] at hrun
                    clear hG
                    go_wp2
                    go_roundw
                    case rel => exact ⟨k + 1, by go_num, by omega, by rw [HS3.out]; exact HG2⟩
                    case measure => simp [intOf]; omega
                  · have HS3 := Lib.hid (show withL (l.take (k + 1)) item at_ = withL (l.take k) item at_ by rw [HS2.out, if_neg hf, List.append_nil])
                    have HG2 := Lib.hid (HW.out.next (HB2.out #[.int .i64 q.item, .int .i64 q.acts, .int .i64 q.regions, .int .i64 q.plays, .int .i64 q.fr, .int .i64 tw2]))
                    go_wp2
                    go_roundw
                    case rel => exact ⟨k + 1, by go_num, by omega, by rw [HS3.out]; exact HG2⟩
                    case measure => simp [intOf]; omega
                · have e1 : (q.item == item) = false := by simp [he]
                  rw [if_neg he] at htw
                  subst htw
                  clear he
                  by_cases hf : q.fr < q.tw
                  · have HS3 := Lib.hid (show withL (l.take (k + 1)) item at_ = withL (l.take k) item at_ ++ [⟨q.item, q.acts, q.regions, q.plays, q.fr, q.tw⟩] by rw [HS2.out, if_pos hf])
                    obtain ⟨A2, c2, w2, hrun, hG⟩ := (HW.out.next (HB2.out #[.int .i64 q.item, .int .i64 q.acts, .int .i64 q.regions, .int .i64 q.plays, .int .i64 q.fr, .int .i64 q.tw])).push (by have := HLE.out; omega) ⟨q.item, q.acts, q.regions, q.plays, q.fr, q.tw⟩ (cs := #[.int .i64 q.item, .int .i64 q.acts, .int .i64 q.regions, .int .i64 q.plays, .int .i64 q.fr, .int .i64 q.tw]) rfl
                    have HG2 := Lib.hid hG
                    rw [World.size_alloc] at hrun
                    clear hG
                    go_wp2
                    go_roundw
                    case rel => exact ⟨k + 1, by go_num, by omega, by rw [HS3.out]; exact HG2⟩
                    case measure => simp [intOf]; omega
                  · have HS3 := Lib.hid (show withL (l.take (k + 1)) item at_ = withL (l.take k) item at_ by rw [HS2.out, if_neg hf, List.append_nil])
                    have HG2 := Lib.hid (HW.out.next (HB2.out #[.int .i64 q.item, .int .i64 q.acts, .int .i64 q.regions, .int .i64 q.plays, .int .i64 q.fr, .int .i64 q.tw]))
                    go_wp2
                    go_roundw
                    case rel => exact ⟨k + 1, by go_num, by omega, by rw [HS3.out]; exact HG2⟩
                    case measure => simp [intOf]; omega
              · have k1 : ¬ (k : Int) < (n : Int) := by omega
                have HE := Lib.hid (show withL (l.take k) item at_ = withL l item at_ by rw [List.take_of_length_le (by have := HN.out; omega)])
                obtain ⟨A2, c2, rfl, -⟩ := own_slice HW.out.own
                go_wp2
                go_ret
                exact ⟨A2, c2, by rw [← HE.out]; rfl, by rw [← HE.out]; exact HW.out.recs, HW.out.b⟩
          · skip
            have HE := Lib.hid (show withV l item at_ = [] by unfold withV withOk; rw [H0.out]; simp [g3])
            have HI2 := Lib.hid (fun y => by have h := in_any at_ 0 10000000 y; rw [decide_eq_true g2, decide_eq_false g3] at h; exact h)
            rw [HE.out]
            go_enter Try.func19, Try.ntmps19
            go_wp2_with (first | (go_at_call 14; (with_reducible refine Calls.mono HG.out ?_); rintro r u1 ⟨rfl, hb⟩; have Bc := Lib.hid hb; clear hb) | (go_at_call 33; (with_reducible refine Calls.mono (HI1.out _) ?_); rintro r y1 ⟨rfl, rfl⟩) | (go_at_call 33; (with_reducible refine Calls.mono (HI2.out _) ?_); rintro r y1 ⟨rfl, rfl⟩))
            go_ret
            exact ⟨_, _, rfl, recs_nil _ _ _ _, Bc.out⟩
        · skip
          have HE := Lib.hid (show withV l item at_ = [] by unfold withV withOk; rw [H0.out]; simp [g2])
          have HI2 := Lib.hid (fun y => by have h := in_any at_ 0 10000000 y; rw [decide_eq_false g2, Bool.false_and] at h; exact h)
          rw [HE.out]
          go_enter Try.func19, Try.ntmps19
          go_wp2_with (first | (go_at_call 14; (with_reducible refine Calls.mono HG.out ?_); rintro r u1 ⟨rfl, hb⟩; have Bc := Lib.hid hb; clear hb) | (go_at_call 33; (with_reducible refine Calls.mono (HI1.out _) ?_); rintro r y1 ⟨rfl, rfl⟩) | (go_at_call 33; (with_reducible refine Calls.mono (HI2.out _) ?_); rintro r y1 ⟨rfl, rfl⟩))
          go_ret
          exact ⟨_, _, rfl, recs_nil _ _ _ _, Bc.out⟩
      · have g1i : ¬ item ≤ 199 := by omega
        have HE := Lib.hid (show withV l item at_ = [] by unfold withV withOk; rw [H0.out]; simp [g1])
        have HI1 := Lib.hid (fun y => by have h := in_any item 0 199 y; rw [decide_eq_true g0, decide_eq_false g1i] at h; exact h)
        rw [HE.out]
        go_enter Try.func19, Try.ntmps19
        go_wp2_with (first | (go_at_call 14; (with_reducible refine Calls.mono HG.out ?_); rintro r u1 ⟨rfl, hb⟩; have Bc := Lib.hid hb; clear hb) | (go_at_call 33; (with_reducible refine Calls.mono (HI1.out _) ?_); rintro r y1 ⟨rfl, rfl⟩) | (go_at_call 33; (with_reducible refine Calls.mono (HI2.out _) ?_); rintro r y1 ⟨rfl, rfl⟩))
        go_ret
        exact ⟨_, _, rfl, recs_nil _ _ _ _, Bc.out⟩
    · skip
      have HE := Lib.hid (show withV l item at_ = [] by unfold withV withOk; rw [H0.out]; simp [g0])
      have HI1 := Lib.hid (fun y => by have h := in_any item 0 199 y; rw [decide_eq_false g0, Bool.false_and] at h; exact h)
      rw [HE.out]
      go_enter Try.func19, Try.ntmps19
      go_wp2_with (first | (go_at_call 14; (with_reducible refine Calls.mono HG.out ?_); rintro r u1 ⟨rfl, hb⟩; have Bc := Lib.hid hb; clear hb) | (go_at_call 33; (with_reducible refine Calls.mono (HI1.out _) ?_); rintro r y1 ⟨rfl, rfl⟩) | (go_at_call 33; (with_reducible refine Calls.mono (HI2.out _) ?_); rintro r y1 ⟨rfl, rfl⟩))
      go_ret
      exact ⟨_, _, rfl, recs_nil _ _ _ _, Bc.out⟩
end Go.Proofs.Ytenojfniknjeiaa
