/- Contract of VerifyExtension, for every argument. -/
import Derived.Test.YtnbhhhbmeafkaaaDoorDx3
namespace Go.Proofs.YtnbhhhbmeafkaaaDoor
open Go.RowKit

set_option maxRecDepth 100000 in
set_option maxHeartbeats 2000000 in
theorem vex_zero (old root : List UInt8) (n : Nat) (v : Value) (ps : List (List UInt8)) (w : World) (hv : Strs w w.heap.size v ps) (hl : ∀ s ∈ ps, s.length ≤ 1000) (ho : old.length ≤ 1000) (hr : root.length ≤ 1000)
    (hd1 : Dm.digs [old, root] = true) (hd2 : Dm.digs ps = true) (ht : TabOk w) :
    Calls Tryd.prog 31 #[strOf old, .int .i64 0, strOf root, .int .i64 (n : Int), v] w (VexPost (ps.length == 0 && old == Dm.root []) w) := by
  have hb1 : Below w.heap.size w (w.alloc (.cells #[strOf old, strOf root] 9)) := (Below.refl _ w).alloc (Nat.le_refl _) _
  have ha1 := areDigs_any _ [old, root] (w.alloc (.cells #[strOf old, strOf root] 9)) (strs_new w [old, root] #[strOf old, strOf root] 2 rfl rfl (by omega)) (fun s hs => by simp at hs; rcases hs with rfl | rfl <;> omega)
  have ha2 := areDigs_any v ps (w.alloc (.cells #[strOf old, strOf root] 9)) (hv.next hb1) (fun s hs => by have := hl s hs; omega)
  rw [hd1] at ha1; rw [hd2] at ha2
  have hrt := root_any (.slice none 0 0) [] (w.alloc (.cells #[strOf old, strOf root] 9)) ⟨none, 0, rfl, Nat.le_refl _, by decide, .inl ⟨rfl, rfl⟩⟩ (fun _ h => by cases h) (ht.next hb1)
  obtain ⟨A, c, rfl, hc1, hc2, hA⟩ := hv
  obtain ⟨rt, hrte⟩ : ∃ rt, Dm.root [] = rt := ⟨_, rfl⟩
  rw [hrte] at hrt ⊢
  have hd0 : decide ((n : Int) < 0) = false := by simp
  have HB := Lib.hid hb1; have HA := Lib.hid ha1; have HR := Lib.hid hrt
  clear hb1 ha1 hrt hrte hA hd1 hd2 hl ho hr
  by_cases h0 : ps.length = 0
  · rw [h0] at ha2 ⊢
    have HA2 := Lib.hid ha2
    clear ha2 h0 hc1
    by_cases hq : old = rt
    · subst hq
      have HEQ := Lib.hid (show ((0 == 0) && old == old) = true by simp)
      rw [HEQ.out]
      go_enter Tryd.func31, Tryd.ntmps31
      go_wp2_with (first | (go_at_call 50; refine HA.out.mono ?_; rintro e w' ⟨rfl, rfl⟩) | (go_at_call 50; refine HA2.out.mono ?_; rintro e w' ⟨rfl, rfl⟩) | (go_at_call 27; refine HR.out.mono ?_; rintro e w1 ⟨rfl, hb⟩))
      go_ret
      exact ⟨ret_bool (by simp), HB.out.trans (hb.mono HB.out.size)⟩
    · have hq2 : (old == rt) = false := by simpa using hq
      have HEQ := Lib.hid (show ((0 == 0) && old == rt) = false by rw [hq2]; rfl)
      rw [HEQ.out]
      have HQ := Lib.hid hq2
      rw [← bs_eqb] at hq2
      go_enter Tryd.func31, Tryd.ntmps31
      go_wp2_with (first | (go_at_call 50; refine HA.out.mono ?_; rintro e w' ⟨rfl, rfl⟩) | (go_at_call 50; refine HA2.out.mono ?_; rintro e w' ⟨rfl, rfl⟩) | (go_at_call 27; refine HR.out.mono ?_; rintro e w1 ⟨rfl, hb⟩))
      go_ret
      exact ⟨rfl, HB.out.trans (hb.mono HB.out.size)⟩
  · have e : (ps.length == 0) = false := by simpa using h0
    rw [e, Bool.false_and]
    have hne : ((ps.length : Int) == 0) = false := by rw [beq_eq_false_iff_ne]; omega
    have HA2 := Lib.hid ha2
    clear ha2 e
    go_enter Tryd.func31, Tryd.ntmps31
    go_wp2_with (first | (go_at_call 50; refine HA.out.mono ?_; rintro e w' ⟨rfl, rfl⟩) | (go_at_call 50; refine HA2.out.mono ?_; rintro e w' ⟨rfl, rfl⟩) | (go_at_call 27; refine HR.out.mono ?_; rintro e w1 ⟨rfl, hb⟩))
    go_ret
    exact ⟨rfl, HB.out⟩
theorem vex_any (old root : List UInt8) (n m : Int) (v : Value) (ps : List (List UInt8)) (w : World) (hv : Strs w w.heap.size v ps) (hl : ∀ s ∈ ps, s.length ≤ 1000) (ho : old.length ≤ 9223372036854775807) (hr : root.length ≤ 9223372036854775807)
    (hn : n ≤ 9223372036854775807) (ht : TabOk w) :
    Calls Tryd.prog 31 #[strOf old, .int .i64 m, strOf root, .int .i64 n, v] w (VexPost (vex old m root n ps) w) := by
  by_cases h1 : m < 0 ∨ n < m
  · rw [show vex old m root n ps = false from by unfold vex; rw [if_pos h1]]
    exact vex_out old root n m v ps w hv hl ho hr (h1.elim .inl (fun h => .inr (.inl h)))
  cases hd1 : Dm.digs [old, root] with
  | false =>
    rw [show vex old m root n ps = false from by unfold vex; rw [if_neg h1, hd1]; rfl]
    exact vex_out old root n m v ps w hv hl ho hr (.inr (.inr (.inl hd1)))
  | true =>
    cases hd2 : Dm.digs ps with
    | false =>
      rw [show vex old m root n ps = false from by unfold vex; rw [if_neg h1, hd1, hd2]; rfl]
      exact vex_out old root n m v ps w hv hl ho hr (.inr (.inr (.inr hd2)))
    | true =>
      have ho2 : old.length = 32 := digs_get [old, root] hd1 0 (by simp)
      have hr2 : root.length = 32 := digs_get [old, root] hd1 1 (by simp)
      obtain ⟨k, rfl⟩ := Int.eq_ofNat_of_zero_le (by omega : 0 ≤ n)
      obtain ⟨j, rfl⟩ := Int.eq_ofNat_of_zero_le (by omega : 0 ≤ m)
      have hx : vex old (j : Int) root (k : Int) ps = if (j : Int) = 0 then ps.length == 0 && old == Dm.root [] else vexIn old root k j ps := by
        unfold vex; rw [if_neg h1, hd1, hd2]; rfl
      rw [hx]
      by_cases hj : j = 0
      · subst hj
        rw [if_pos (show ((0 : Nat) : Int) = 0 from rfl)]
        exact vex_zero old root k v ps w hv hl (by omega) (by omega) hd1 hd2 ht
      · rw [if_neg (by omega)]
        exact vex_in old root k j v ps w hv hl (by omega) (by omega) hd1 hd2 (by omega) (by omega) (by omega) ht
end Go.Proofs.YtnbhhhbmeafkaaaDoor
