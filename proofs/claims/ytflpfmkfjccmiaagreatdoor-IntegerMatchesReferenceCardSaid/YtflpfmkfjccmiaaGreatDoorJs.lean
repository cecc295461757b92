/- Contract of Div. -/
import Derived.Test.YtflpfmkfjccmiaaGreatDoorJr
import Derived.OwnWalk
namespace Go.Proofs.YtflpfmkfjccmiaaGreatDoor
open Go.RowKit Go.Shelf

def Bad3 (w : World) (e : Ending) (w' : World) : Prop := e = .returned (.tuple #[strOf [], strOf [], .int .i64 30]) ∧ Below w.heap.size w w'
set_option maxRecDepth 100000 in
set_option maxHeartbeats 1000000 in
theorem div_bad (l r : List UInt8) (w : World) (h : (Im.vld l && Im.vld r) = false) :
    Calls Tryz.prog 13 #[strOf l, strOf r] w (Bad3 w) := by
  have HB := Lib.hid (both_bad l r w h)
  unfold Bad3
  unfold strOf at *
  generalize bs l = L at *
  generalize bs r = R at *
  clear h
  go_enter Tryz.func13, Tryz.ntmps13
  go_wp2_with (go_at_call 36; refine HB.out.mono ?_; rintro e w1 ⟨f, A, n, c, g, B, m, d, rfl, hb⟩)
  go_ret3
  exact ⟨rfl, (hb.alloc hb.size _).alloc (by have := hb.size; simp; omega) _⟩
set_option maxRecDepth 100000 in
set_option maxHeartbeats 1000000 in
theorem div_zero (a : Int) (w : World) (ha : okz a = true) :
    Calls Tryz.prog 13 #[strOf (Lib.itoa a), strOf (Lib.itoa 0)] w (Bad3 w) := by
  have HB := Lib.hid (both_ok a 0 w ha (by decide))
  have hz := fun y u (hy : Num u y 0) => numZero_any y 0 u hy
  rw [decide_eq_true rfl] at hz
  have HZ := Lib.hid hz
  unfold Bad3
  unfold strOf at *
  generalize bs (Lib.itoa a) = L at *
  generalize bs (Lib.itoa 0) = R at *
  clear ha hz
  go_enter Tryz.func13, Tryz.ntmps13
  go_wp2_with (first | (go_at_call 36; refine HB.out.mono ?_; rintro e w1 ⟨f, A, n, c, g, B, m, d, rfl, hx, hy, hb⟩; have HU := Lib.hid (pair_boxes (f := f) (g := g) (A := A) (B := B) (n := n) (c := c) (m := m) (d := d) hb); have HY := Lib.hid hy; clear hx hy hb) | (go_at_call 37; obtain ⟨U, hU, hbU, r0, r1, hbw⟩ := HU.out; rw [← hU]; refine (HZ.out _ _ (HY.out.next hbU)).mono ?_; rintro e w2 ⟨rfl, hb2⟩; have HB2 := Lib.hid (hbw.trans (hb2.mono hbw.size)); clear hb2))
  go_ret3
  exact ⟨rfl, HB2.out⟩
set_option maxRecDepth 100000 in
set_option maxHeartbeats 2000000 in
theorem div_ok (a b : Int) (w : World) (ht : TabP w) (ha : okz a = true) (hb : okz b = true) (h0 : b ≠ 0) :
    Calls Tryz.prog 13 #[strOf (Lib.itoa a), strOf (Lib.itoa b)] w fun e w' => e = .returned (.tuple #[strOf (outT (a / b)), strOf (outT (a % b)), .int .i64 0]) ∧ Below w.heap.size w w' := by
  have la := ok50 ha
  have lb := ok50 hb
  have HB := Lib.hid (both_ok a b w ha hb)
  have hz := fun y u (hy : Num u y b) => numZero_any y b u hy
  rw [decide_eq_false h0] at hz
  have hop := fun x y u (hx : Num u x a) (hy : Num u y b) => numOver_any x y a b u hx hy (by omega) (by omega) h0
  have lq : (Im.grp (a / b).natAbs).length ≤ 400 := by
    have h1 := Im.plus_len a.natAbs 1 50 la (by decide)
    have h2 : (a / b).natAbs ≤ a.natAbs + 1 := by
      have h3 := Int.natAbs_ediv_le_natAbs a b
      omega
    have h3 := Im.len_mono h2
    omega
  have lr : (Im.grp (a % b).natAbs).length ≤ 400 := by
    have h2 : (a % b).natAbs ≤ b.natAbs := by
      have h3 := Int.emod_lt a h0
      have h4 := Int.emod_nonneg a h0
      omega
    have h3 := Im.len_mono h2
    omega
  have htq := fun x u (hx : Num u x (a / b)) (hu : TabP u) => text_any x _ u hx hu lq
  have htr := fun x u (hx : Num u x (a % b)) (hu : TabP u) => text_any x _ u hx hu lr
  have HZ := Lib.hid hz; have HOP := Lib.hid hop; have HTQ := Lib.hid htq; have HTR := Lib.hid htr; have HT := Lib.hid ht
  unfold strOf at *
  generalize bs (Lib.itoa a) = L at *
  generalize bs (Lib.itoa b) = R at *
  generalize bs (outT (a / b)) = S1 at *
  generalize bs (outT (a % b)) = S2 at *
  generalize errT (a / b) = er1 at *
  generalize errT (a % b) = er2 at *
  generalize a / b = p at *
  generalize a % b = q at *
  clear ha hb h0 la lb hz hop lq lr htq htr ht
  go_enter Tryz.func13, Tryz.ntmps13
  go_wp2_with (first | (go_at_call 36; refine HB.out.mono ?_; rintro e w1 ⟨f, A, n, c, g, B, m, d, rfl, hx, hy, hb⟩; have HU := Lib.hid (pair_boxes (f := f) (g := g) (A := A) (B := B) (n := n) (c := c) (m := m) (d := d) hb); have HX := Lib.hid hx; have HY := Lib.hid hy; clear hx hy hb) | (go_at_call 37; obtain ⟨U, hU, hbU, r0, r1, hbw⟩ := HU.out; rw [← hU]; refine (HZ.out _ _ (HY.out.next hbU)).mono ?_; rintro e w2 ⟨rfl, hb2⟩; have hu2 := below_to hbU hb2; have HX2 := Lib.hid (HX.out.next hu2); have HY2 := Lib.hid (HY.out.next hu2); obtain ⟨k0, k1, f0, f1⟩ := box_facts (r0.below hb2 r0.lt); obtain ⟨k2, k3, f2, f3⟩ := box_facts (r1.below hb2 r1.lt); have HB2 := Lib.hid (hbw.trans (hb2.mono hbw.size)); clear hb2 hu2 hU hbU r0 r1 hbw) | (go_at_call 38; refine (HOP.out _ _ _ HX2.out HY2.out).mono ?_; unfold NumsPost; rintro e w3 ⟨f', g', A', B', n', m', c', d', rfl, hn1, hn2, hb3⟩; have HU3 := Lib.hid (pair_boxes (f := f') (g := g') (A := A') (B := B') (n := n') (c := c') (m := m') (d := d') (HB2.out.trans (hb3.mono HB2.out.size))); have HN1 := Lib.hid hn1; have HN2 := Lib.hid hn2; clear hn1 hn2 hb3) | (go_at_call 39; obtain ⟨V, hV, hbV, v0, v1, hbv⟩ := HU3.out; rw [← hV]; refine (HTQ.out _ _ (HN1.out.next hbV) (HT.out.next hbv)).mono ?_; rintro e w4 ⟨rfl, hb4⟩; have HN4 := Lib.hid (HN2.out.next (below_to hbV hb4)); obtain ⟨k4, k5, f4, f5⟩ := box_facts (v1.below hb4 v1.lt); have HB4 := Lib.hid (hbv.trans (hb4.mono hbv.size)); clear hb4 hV hbV v0 v1 hbv HN1) | (go_at_call 39; refine (HTR.out _ _ HN4.out (HT.out.next HB4.out)).mono ?_; rintro e w5 ⟨rfl, hb5⟩; have HB5 := Lib.hid (HB4.out.trans (hb5.mono HB4.out.size)); clear hb5))
  go_ret3
  exact ⟨rfl, HB5.out⟩
end Go.Proofs.YtflpfmkfjccmiaaGreatDoor
