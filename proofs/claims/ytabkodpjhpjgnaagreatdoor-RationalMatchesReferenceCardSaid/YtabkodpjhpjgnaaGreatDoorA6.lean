/- Contracts of combine at the four operations, and of Add, Sub, Mul, Gcd. Contracts of FromInt, Compare, Root and Div. Contract of Div. The reference's numbers digit by digit: plain mathematics; contract of its trim. Contracts of the reference's text and Made. Contract of the reference's Made. Contract of the laws' sane. Contract of the laws' sane: the walk. What the walks of the laws have in common: bounds, and each call of the program at integers. Atoi at the texts of integers; contract of ToInt. Contract of ToInt. -/
import Derived.Test.YtabkodpjhpjgnaaGreatDoorA5
import Derived.Test.YtabkodpjhpjgnaaGreatDoorA4
import Derived.OwnWalk
import Derived.Deep.RegionHeld3
import Derived.Lib.AtoiAllCases
namespace Go.Proofs.YtabkodpjhpjgnaaGreatDoor
open Go.RowKit Go.Shelf

theorem grp50 {n : Nat} (h : n < 10 ^ 200) : (Im.grp n).length ≤ 50 := Im.grp_len n 50 (by rw [pow4, show 4 * 50 = 200 from rfl]; exact h)
theorem ok50 {z : Int} (h : okz z = true) : (Im.grp z.natAbs).length ≤ 50 := grp50 (of_decide_eq_true h)
theorem vld_ok {z : Int} (h : okz z = true) : Im.vld (Lib.itoa z) = true := by rw [Im.vld_itoa]; exact h
theorem both_ok (a b : Int) (w : World) (ha : okz a = true) (hb : okz b = true) : Calls Tryz.prog 85 #[strOf (Lib.itoa a), strOf (Lib.itoa b)] w fun e w' =>
    ∃ f A n c g B m d, e = .returned (.tuple #[.agg #[.bool f, .slice A n c], .agg #[.bool g, .slice B m d], .bool true]) ∧ Num w' (.agg #[.bool f, .slice A n c]) a ∧ Num w' (.agg #[.bool g, .slice B m d]) b ∧ Below w.heap.size w w' := by
  refine (both_any (Lib.itoa a) (Lib.itoa b) w).mono ?_
  rintro e w' ⟨f, A, n, c, g, B, m, d, rfl, h1, h2, hb'⟩
  exact ⟨f, A, n, c, g, B, m, d, by rw [vld_ok ha, vld_ok hb]; rfl, h1 a rfl (vld_ok ha), h2 b rfl (vld_ok hb), hb'⟩
theorem both_bad (l r : List UInt8) (w : World) (h : (Im.vld l && Im.vld r) = false) : Calls Tryz.prog 85 #[strOf l, strOf r] w fun e w' =>
    ∃ f A n c g B m d, e = .returned (.tuple #[.agg #[.bool f, .slice A n c], .agg #[.bool g, .slice B m d], .bool false]) ∧ Below w.heap.size w w' := by
  refine (both_any l r w).mono ?_
  rintro e w' ⟨f, A, n, c, g, B, m, d, rfl, h1, h2, hb'⟩
  exact ⟨f, A, n, c, g, B, m, d, by rw [h], hb'⟩
def TextP (z : Int) (w : World) (e : Ending) (w' : World) : Prop := e = .returned (.tuple #[strOf (outT z), .int .i64 (errT z)]) ∧ Below w.heap.size w w'
def BadP (w : World) (e : Ending) (w' : World) : Prop := e = .returned (.tuple #[strOf [], .int .i64 30]) ∧ Below w.heap.size w w'

set_option maxRecDepth 100000 in
set_option maxHeartbeats 1000000 in
theorem comb_bad (l r : List UInt8) (f : Value) (w : World) (h : (Im.vld l && Im.vld r) = false) :
    Calls Tryz.prog 83 #[strOf l, strOf r, f] w (BadP w) := by
  have HB := Lib.hid (both_bad l r w h)
  unfold strOf at *
  generalize bs l = L at *
  generalize bs r = R at *
  clear h
  go_enter Tryz.func83, Tryz.ntmps83
  go_wp2_with (go_at_call 85; refine HB.out.mono ?_; rintro e w1 ⟨f, A, n, c, g, B, m, d, rfl, hb⟩)
  go_ret2
  exact ⟨rfl, (hb.alloc hb.size _).alloc (by have := hb.size; simp; omega) _⟩

set_option maxRecDepth 100000 in
set_option maxHeartbeats 1000000 in
theorem comb_plus (a b : Int) (w : World) (ht : TabP w) (ha : okz a = true) (hb : okz b = true) :
    Calls Tryz.prog 83 #[strOf (Lib.itoa a), strOf (Lib.itoa b), .func (.func 90) #[] #[]] w (TextP (a + b) w) := by
  have la := ok50 ha
  have lb := ok50 hb
  have HB := Lib.hid (both_ok a b w ha hb)
  have hop := fun x y u (hx : Num u x a) (hy : Num u y b) => numPlus_any x y a b u hx hy (by omega) (by omega)
  have hlen : (Im.grp (a + b).natAbs).length ≤ 400 := by
    have h1 := Im.plus_len a.natAbs b.natAbs 50 la lb
    have h2 : (a + b).natAbs ≤ a.natAbs + b.natAbs := by omega
    have h3 := Im.len_mono h2
    omega
  have htx := fun x u (hx : Num u x (a + b)) (hu : TabP u) => text_any x (a + b) u hx hu hlen
  generalize a + b = z at *
  unfold TextP
  unfold strOf at *
  generalize bs (Lib.itoa a) = L at *
  generalize bs (Lib.itoa b) = R at *
  have HOP := Lib.hid hop; have HTX := Lib.hid htx; have HT := Lib.hid ht
  generalize bs (outT z) = S at *
  generalize errT z = er at *
  clear hop hlen htx ht ha hb la lb
  go_enter Tryz.func83, Tryz.ntmps83
  go_wp2_with (first | (go_at_call 85; refine HB.out.mono ?_; rintro e w1 ⟨f, A, n, c, g, B, m, d, rfl, hx, hy, hb⟩; have hbb := (hb.alloc hb.size (.cells #[.bool f, .slice A n c] 99)).alloc (by have := hb.size; simp; omega) (.cells #[.bool g, .slice B m d] 99); have hb1 := ((Below.refl _ w1).alloc (Nat.le_refl _) (.cells #[.bool f, .slice A n c] 99)).alloc (by simp) (.cells #[.bool g, .slice B m d] 99); have HX := Lib.hid (hx.next hb1); have HY := Lib.hid (hy.next hb1); have HBB := Lib.hid hbb; clear hx hy hb hbb hb1) | (go_at_call 90; refine (HOP.out _ _ _ HX.out HY.out).mono ?_; unfold NumPost; rintro e w2 ⟨y, rfl, hn, hb2⟩; have HN := Lib.hid hn; have HB2 := Lib.hid (HBB.out.trans (hb2.mono HBB.out.size)); clear hn hb2) | (go_at_call 98; refine (HTX.out _ _ HN.out (HT.out.next HB2.out)).mono ?_; rintro e w3 ⟨rfl, hb3⟩; have HB3 := Lib.hid (HB2.out.trans (hb3.mono HB2.out.size)); clear hb3))
  go_ret2
  exact ⟨rfl, HB3.out⟩
set_option maxRecDepth 100000 in
set_option maxHeartbeats 1000000 in
theorem Add_ok (a b : Int) (w : World) (ht : TabP w) (ha : okz a = true) (hb : okz b = true) :
    Calls Tryz.prog 67 #[strOf (Lib.itoa a), strOf (Lib.itoa b)] w (TextP (a + b) w) := by
  have HC := Lib.hid (comb_plus a b w ht ha hb)
  unfold TextP at *
  unfold strOf at *
  generalize bs (Lib.itoa a) = L at *
  generalize bs (Lib.itoa b) = R at *
  clear ht ha hb
  go_enter Tryz.func67, Tryz.ntmps67
  go_wp2_with (go_at_call 83; refine HC.out.mono ?_; rintro e w1 ⟨rfl, hb⟩)
  go_ret2
  exact ⟨rfl, hb⟩
set_option maxRecDepth 100000 in
set_option maxHeartbeats 1000000 in
theorem Add_bad (l r : List UInt8) (w : World) (h : (Im.vld l && Im.vld r) = false) :
    Calls Tryz.prog 67 #[strOf l, strOf r] w (BadP w) := by
  have HC := Lib.hid (comb_bad l r (.func (.func 90) #[] #[]) w h)
  unfold BadP at *
  unfold strOf at *
  generalize bs l = L at *
  generalize bs r = R at *
  clear h
  go_enter Tryz.func67, Tryz.ntmps67
  go_wp2_with (go_at_call 83; refine HC.out.mono ?_; rintro e w1 ⟨rfl, hb⟩)
  go_ret2
  exact ⟨rfl, hb⟩

set_option maxRecDepth 100000 in
set_option maxHeartbeats 1000000 in
theorem comb_minus (a b : Int) (w : World) (ht : TabP w) (ha : okz a = true) (hb : okz b = true) :
    Calls Tryz.prog 83 #[strOf (Lib.itoa a), strOf (Lib.itoa b), .func (.func 94) #[] #[]] w (TextP (a - b) w) := by
  have la := ok50 ha
  have lb := ok50 hb
  have HB := Lib.hid (both_ok a b w ha hb)
  have hop := fun x y u (hx : Num u x a) (hy : Num u y b) => numMinus_any x y a b u hx hy (by omega) (by omega)
  have hlen : (Im.grp (a - b).natAbs).length ≤ 400 := by
    have h1 := Im.plus_len a.natAbs b.natAbs 50 la lb
    have h2 : (a - b).natAbs ≤ a.natAbs + b.natAbs := by omega
    have h3 := Im.len_mono h2
    omega
  have htx := fun x u (hx : Num u x (a - b)) (hu : TabP u) => text_any x (a - b) u hx hu hlen
  generalize a - b = z at *
  unfold TextP
  unfold strOf at *
  generalize bs (Lib.itoa a) = L at *
  generalize bs (Lib.itoa b) = R at *
  have HOP := Lib.hid hop; have HTX := Lib.hid htx; have HT := Lib.hid ht
  generalize bs (outT z) = S at *
  generalize errT z = er at *
  clear hop hlen htx ht ha hb la lb
  go_enter Tryz.func83, Tryz.ntmps83
  go_wp2_with (first | (go_at_call 85; refine HB.out.mono ?_; rintro e w1 ⟨f, A, n, c, g, B, m, d, rfl, hx, hy, hb⟩; have hbb := (hb.alloc hb.size (.cells #[.bool f, .slice A n c] 99)).alloc (by have := hb.size; simp; omega) (.cells #[.bool g, .slice B m d] 99); have hb1 := ((Below.refl _ w1).alloc (Nat.le_refl _) (.cells #[.bool f, .slice A n c] 99)).alloc (by simp) (.cells #[.bool g, .slice B m d] 99); have HX := Lib.hid (hx.next hb1); have HY := Lib.hid (hy.next hb1); have HBB := Lib.hid hbb; clear hx hy hb hbb hb1) | (go_at_call 94; refine (HOP.out _ _ _ HX.out HY.out).mono ?_; unfold NumPost; rintro e w2 ⟨y, rfl, hn, hb2⟩; have HN := Lib.hid hn; have HB2 := Lib.hid (HBB.out.trans (hb2.mono HBB.out.size)); clear hn hb2) | (go_at_call 98; refine (HTX.out _ _ HN.out (HT.out.next HB2.out)).mono ?_; rintro e w3 ⟨rfl, hb3⟩; have HB3 := Lib.hid (HB2.out.trans (hb3.mono HB2.out.size)); clear hb3))
  go_ret2
  exact ⟨rfl, HB3.out⟩
set_option maxRecDepth 100000 in
set_option maxHeartbeats 1000000 in
theorem Sub_ok (a b : Int) (w : World) (ht : TabP w) (ha : okz a = true) (hb : okz b = true) :
    Calls Tryz.prog 70 #[strOf (Lib.itoa a), strOf (Lib.itoa b)] w (TextP (a - b) w) := by
  have HC := Lib.hid (comb_minus a b w ht ha hb)
  unfold TextP at *
  unfold strOf at *
  generalize bs (Lib.itoa a) = L at *
  generalize bs (Lib.itoa b) = R at *
  clear ht ha hb
  go_enter Tryz.func70, Tryz.ntmps70
  go_wp2_with (go_at_call 83; refine HC.out.mono ?_; rintro e w1 ⟨rfl, hb⟩)
  go_ret2
  exact ⟨rfl, hb⟩
set_option maxRecDepth 100000 in
set_option maxHeartbeats 1000000 in
theorem Sub_bad (l r : List UInt8) (w : World) (h : (Im.vld l && Im.vld r) = false) :
    Calls Tryz.prog 70 #[strOf l, strOf r] w (BadP w) := by
  have HC := Lib.hid (comb_bad l r (.func (.func 94) #[] #[]) w h)
  unfold BadP at *
  unfold strOf at *
  generalize bs l = L at *
  generalize bs r = R at *
  clear h
  go_enter Tryz.func70, Tryz.ntmps70
  go_wp2_with (go_at_call 83; refine HC.out.mono ?_; rintro e w1 ⟨rfl, hb⟩)
  go_ret2
  exact ⟨rfl, hb⟩

set_option maxRecDepth 100000 in
set_option maxHeartbeats 1000000 in
theorem comb_times (a b : Int) (w : World) (ht : TabP w) (ha : okz a = true) (hb : okz b = true) :
    Calls Tryz.prog 83 #[strOf (Lib.itoa a), strOf (Lib.itoa b), .func (.func 114) #[] #[]] w (TextP (a * b) w) := by
  have la := ok50 ha
  have lb := ok50 hb
  have HB := Lib.hid (both_ok a b w ha hb)
  have hop := fun x y u (hx : Num u x a) (hy : Num u y b) => numTimes_any x y a b u hx hy (by omega) (by omega)
  have hlen : (Im.grp (a * b).natAbs).length ≤ 400 := by
    rw [Int.natAbs_mul]
    have h1 := Im.times_len a.natAbs b.natAbs
    omega
  have htx := fun x u (hx : Num u x (a * b)) (hu : TabP u) => text_any x (a * b) u hx hu hlen
  generalize a * b = z at *
  unfold TextP
  unfold strOf at *
  generalize bs (Lib.itoa a) = L at *
  generalize bs (Lib.itoa b) = R at *
  have HOP := Lib.hid hop; have HTX := Lib.hid htx; have HT := Lib.hid ht
  generalize bs (outT z) = S at *
  generalize errT z = er at *
  clear hop hlen htx ht ha hb la lb
  go_enter Tryz.func83, Tryz.ntmps83
  go_wp2_with (first | (go_at_call 85; refine HB.out.mono ?_; rintro e w1 ⟨f, A, n, c, g, B, m, d, rfl, hx, hy, hb⟩; have hbb := (hb.alloc hb.size (.cells #[.bool f, .slice A n c] 99)).alloc (by have := hb.size; simp; omega) (.cells #[.bool g, .slice B m d] 99); have hb1 := ((Below.refl _ w1).alloc (Nat.le_refl _) (.cells #[.bool f, .slice A n c] 99)).alloc (by simp) (.cells #[.bool g, .slice B m d] 99); have HX := Lib.hid (hx.next hb1); have HY := Lib.hid (hy.next hb1); have HBB := Lib.hid hbb; clear hx hy hb hbb hb1) | (go_at_call 114; refine (HOP.out _ _ _ HX.out HY.out).mono ?_; unfold NumPost; rintro e w2 ⟨y, rfl, hn, hb2⟩; have HN := Lib.hid hn; have HB2 := Lib.hid (HBB.out.trans (hb2.mono HBB.out.size)); clear hn hb2) | (go_at_call 98; refine (HTX.out _ _ HN.out (HT.out.next HB2.out)).mono ?_; rintro e w3 ⟨rfl, hb3⟩; have HB3 := Lib.hid (HB2.out.trans (hb3.mono HB2.out.size)); clear hb3))
  go_ret2
  exact ⟨rfl, HB3.out⟩
set_option maxRecDepth 100000 in
set_option maxHeartbeats 1000000 in
theorem Mul_ok (a b : Int) (w : World) (ht : TabP w) (ha : okz a = true) (hb : okz b = true) :
    Calls Tryz.prog 93 #[strOf (Lib.itoa a), strOf (Lib.itoa b)] w (TextP (a * b) w) := by
  have HC := Lib.hid (comb_times a b w ht ha hb)
  unfold TextP at *
  unfold strOf at *
  generalize bs (Lib.itoa a) = L at *
  generalize bs (Lib.itoa b) = R at *
  clear ht ha hb
  go_enter Tryz.func93, Tryz.ntmps93
  go_wp2_with (go_at_call 83; refine HC.out.mono ?_; rintro e w1 ⟨rfl, hb⟩)
  go_ret2
  exact ⟨rfl, hb⟩
set_option maxRecDepth 100000 in
set_option maxHeartbeats 1000000 in
theorem Mul_bad (l r : List UInt8) (w : World) (h : (Im.vld l && Im.vld r) = false) :
    Calls Tryz.prog 93 #[strOf l, strOf r] w (BadP w) := by
  have HC := Lib.hid (comb_bad l r (.func (.func 114) #[] #[]) w h)
  unfold BadP at *
  unfold strOf at *
  generalize bs l = L at *
  generalize bs r = R at *
  clear h
  go_enter Tryz.func93, Tryz.ntmps93
  go_wp2_with (go_at_call 83; refine HC.out.mono ?_; rintro e w1 ⟨rfl, hb⟩)
  go_ret2
  exact ⟨rfl, hb⟩

set_option maxRecDepth 100000 in
set_option maxHeartbeats 1000000 in
theorem comb_gcd (a b : Int) (w : World) (ht : TabP w) (ha : okz a = true) (hb : okz b = true) :
    Calls Tryz.prog 83 #[strOf (Lib.itoa a), strOf (Lib.itoa b), .func (.func 84) #[] #[]] w (TextP ((Nat.gcd a.natAbs b.natAbs : Nat) : Int) w) := by
  have la := ok50 ha
  have lb := ok50 hb
  have HB := Lib.hid (both_ok a b w ha hb)
  have hop := fun x y u (hx : Num u x a) (hy : Num u y b) => numGcd_any x y a b u hx hy (by omega) (by omega)
  have hlen : (Im.grp ((Nat.gcd a.natAbs b.natAbs : Nat) : Int).natAbs).length ≤ 400 := by
    by_cases h0 : a.natAbs = 0
    · rw [h0, Nat.gcd_zero_left]; show (Im.grp b.natAbs).length ≤ 400; omega
    · have h2 := Im.len_mono (Nat.gcd_le_left b.natAbs (Nat.pos_of_ne_zero h0))
      show (Im.grp (Nat.gcd a.natAbs b.natAbs)).length ≤ 400
      omega
  have htx := fun x u (hx : Num u x ((Nat.gcd a.natAbs b.natAbs : Nat) : Int)) (hu : TabP u) => text_any x ((Nat.gcd a.natAbs b.natAbs : Nat) : Int) u hx hu hlen
  generalize ((Nat.gcd a.natAbs b.natAbs : Nat) : Int) = z at *
  unfold TextP
  unfold strOf at *
  generalize bs (Lib.itoa a) = L at *
  generalize bs (Lib.itoa b) = R at *
  have HOP := Lib.hid hop; have HTX := Lib.hid htx; have HT := Lib.hid ht
  generalize bs (outT z) = S at *
  generalize errT z = er at *
  clear hop hlen htx ht ha hb la lb
  go_enter Tryz.func83, Tryz.ntmps83
  go_wp2_with (first | (go_at_call 85; refine HB.out.mono ?_; rintro e w1 ⟨f, A, n, c, g, B, m, d, rfl, hx, hy, hb⟩; have hbb := (hb.alloc hb.size (.cells #[.bool f, .slice A n c] 99)).alloc (by have := hb.size; simp; omega) (.cells #[.bool g, .slice B m d] 99); have hb1 := ((Below.refl _ w1).alloc (Nat.le_refl _) (.cells #[.bool f, .slice A n c] 99)).alloc (by simp) (.cells #[.bool g, .slice B m d] 99); have HX := Lib.hid (hx.next hb1); have HY := Lib.hid (hy.next hb1); have HBB := Lib.hid hbb; clear hx hy hb hbb hb1) | (go_at_call 84; refine (HOP.out _ _ _ HX.out HY.out).mono ?_; unfold NumPost; rintro e w2 ⟨y, rfl, hn, hb2⟩; have HN := Lib.hid hn; have HB2 := Lib.hid (HBB.out.trans (hb2.mono HBB.out.size)); clear hn hb2) | (go_at_call 98; refine (HTX.out _ _ HN.out (HT.out.next HB2.out)).mono ?_; rintro e w3 ⟨rfl, hb3⟩; have HB3 := Lib.hid (HB2.out.trans (hb3.mono HB2.out.size)); clear hb3))
  go_ret2
  exact ⟨rfl, HB3.out⟩
set_option maxRecDepth 100000 in
set_option maxHeartbeats 1000000 in
theorem Gcd_ok (a b : Int) (w : World) (ht : TabP w) (ha : okz a = true) (hb : okz b = true) :
    Calls Tryz.prog 62 #[strOf (Lib.itoa a), strOf (Lib.itoa b)] w (TextP ((Nat.gcd a.natAbs b.natAbs : Nat) : Int) w) := by
  have HC := Lib.hid (comb_gcd a b w ht ha hb)
  unfold TextP at *
  unfold strOf at *
  generalize bs (Lib.itoa a) = L at *
  generalize bs (Lib.itoa b) = R at *
  clear ht ha hb
  go_enter Tryz.func62, Tryz.ntmps62
  go_wp2_with (go_at_call 83; refine HC.out.mono ?_; rintro e w1 ⟨rfl, hb⟩)
  go_ret2
  exact ⟨rfl, hb⟩
set_option maxRecDepth 100000 in
set_option maxHeartbeats 1000000 in
theorem Gcd_bad (l r : List UInt8) (w : World) (h : (Im.vld l && Im.vld r) = false) :
    Calls Tryz.prog 62 #[strOf l, strOf r] w (BadP w) := by
  have HC := Lib.hid (comb_bad l r (.func (.func 84) #[] #[]) w h)
  unfold BadP at *
  unfold strOf at *
  generalize bs l = L at *
  generalize bs r = R at *
  clear h
  go_enter Tryz.func62, Tryz.ntmps62
  go_wp2_with (go_at_call 83; refine HC.out.mono ?_; rintro e w1 ⟨rfl, hb⟩)
  go_ret2
  exact ⟨rfl, hb⟩
end Go.Proofs.YtabkodpjhpjgnaaGreatDoor

namespace Go.Proofs.YtabkodpjhpjgnaaGreatDoor
open Go.RowKit Go.Shelf

theorem fromInt_ok (z : Int) (w : World) (ht : TabP w) (h0 : -9223372036854775808 ≤ z) (h1 : z ≤ 9223372036854775807) :
    Calls Tryz.prog 64 #[.int .i64 z] w fun e w' => e = .returned (strOf (Lib.itoa z)) ∧ Below w.heap.size w w' := by
  have HI := Lib.hid (itoa_any z h0 h1 w ht)
  clear ht h0 h1
  go_enter Tryz.func64, Tryz.ntmps64
  go_wp2_with (go_at_call 87; refine HI.out.mono ?_; rintro e w1 ⟨rfl, hb⟩)
  go_ret
  exact ⟨rfl, hb⟩

/-- A boxed pair of numbers behind a call. -/
theorem pair_boxes {w w1 : World} {f g : Bool} {A B : Option Addr} {n c m d : Nat} (hb : Below w.heap.size w w1) :
    ∃ U, U = (w1.alloc (.cells #[.bool f, .slice A n c] 99)).alloc (.cells #[.bool g, .slice B m d] 99) ∧ Below w1.heap.size w1 U ∧ Row U w1.heap.size 99 #[.bool f, .slice A n c] ∧ Row U (w1.heap.size + 1) 99 #[.bool g, .slice B m d] ∧ Below w.heap.size w U := by
  have hb1 := ((Below.refl _ w1).alloc (Nat.le_refl _) (.cells #[.bool f, .slice A n c] 99)).alloc (by simp) (.cells #[.bool g, .slice B m d] 99)
  refine ⟨_, rfl, hb1, (Row.new w1 _ _).alloc _, ?_, hb.trans (hb1.mono hb.size)⟩
  have := Row.new (w1.alloc (.cells #[.bool f, .slice A n c] 99)) 99 #[.bool g, .slice B m d]
  rw [World.size_alloc] at this; exact this

set_option maxRecDepth 100000 in
set_option maxHeartbeats 1000000 in
theorem cmpI_ok (a b : Int) (w : World) (ha : okz a = true) (hb : okz b = true) :
    Calls Tryz.prog 63 #[strOf (Lib.itoa a), strOf (Lib.itoa b)] w fun e w' => e = .returned (.int .i64 (sg a b)) ∧ Below w.heap.size w w' := by
  have la := ok50 ha
  have lb := ok50 hb
  have HB := Lib.hid (both_ok a b w ha hb)
  have HOP := Lib.hid (fun x y u (hx : Num u x a) (hy : Num u y b) => numCompare_any x y a b u hx hy (by omega) (by omega))
  unfold strOf at *
  generalize bs (Lib.itoa a) = L at *
  generalize bs (Lib.itoa b) = R at *
  generalize sg a b = z at *
  clear ha hb la lb
  go_enter Tryz.func63, Tryz.ntmps63
  go_wp2_with (first | (go_at_call 85; refine HB.out.mono ?_; rintro e w1 ⟨f, A, n, c, g, B, m, d, rfl, hx, hy, hb⟩; have HU := Lib.hid (pair_boxes (f := f) (g := g) (A := A) (B := B) (n := n) (c := c) (m := m) (d := d) hb); have HX := Lib.hid hx; have HY := Lib.hid hy; clear hx hy hb) | (go_at_call 86; obtain ⟨U, hU, hbU, r0, r1, hbw⟩ := HU.out; rw [← hU]; refine (HOP.out _ _ _ (HX.out.next hbU) (HY.out.next hbU)).mono ?_; rintro e w2 ⟨rfl, hb2⟩; have HB2 := Lib.hid (hbw.trans (hb2.mono hbw.size)); clear hb2))
  go_ret
  exact ⟨rfl, HB2.out⟩
set_option maxRecDepth 100000 in
set_option maxHeartbeats 1000000 in
theorem cmpI_bad (l r : List UInt8) (w : World) (h : (Im.vld l && Im.vld r) = false) :
    Calls Tryz.prog 63 #[strOf l, strOf r] w fun e w' => e = .returned (.int .i64 0) ∧ Below w.heap.size w w' := by
  have HB := Lib.hid (both_bad l r w h)
  unfold strOf at *
  generalize bs l = L at *
  generalize bs r = R at *
  clear h
  go_enter Tryz.func63, Tryz.ntmps63
  go_wp2_with (go_at_call 85; refine HB.out.mono ?_; rintro e w1 ⟨f, A, n, c, g, B, m, d, rfl, hb⟩)
  go_ret
  exact ⟨rfl, (hb.alloc hb.size _).alloc (by have := hb.size; simp; omega) _⟩

theorem parse_ok (a : Int) (w : World) (ha : okz a = true) : Calls Tryz.prog 107 #[strOf (Lib.itoa a)] w fun e w' => ∃ A n c, e = .returned (.tuple #[.agg #[.bool (decide (a < 0)), .slice A n c], .bool true]) ∧ Num w' (.agg #[.bool (decide (a < 0)), .slice A n c]) a ∧ Below w.heap.size w w' := by
  refine (parse_any (Lib.itoa a) w).mono ?_
  rintro e w' ⟨f, A, n, c, rfl, h1, hb⟩
  have hn := h1 a rfl (vld_ok ha)
  obtain ⟨f', A', n', c', e, hf, _⟩ := hn.parts
  have ef : f = f' := by injection e with e; simp at e; exact e.1
  subst ef; subst hf
  exact ⟨A, n, c, by rw [vld_ok ha], hn, hb⟩
theorem parse_bad (l : List UInt8) (w : World) (h : Im.vld l = false) : Calls Tryz.prog 107 #[strOf l] w fun e w' => ∃ f A n c, e = .returned (.tuple #[.agg #[.bool f, .slice A n c], .bool false]) ∧ Below w.heap.size w w' := by
  refine (parse_any l w).mono ?_
  rintro e w' ⟨f, A, n, c, rfl, h1, hb⟩
  exact ⟨f, A, n, c, by rw [h], hb⟩

theorem isqrt_le (m : Nat) : Im.isqrt m ≤ m := by
  have h := Im.isqrt_lo m
  rcases Nat.eq_zero_or_pos (Im.isqrt m) with e | e
  · omega
  · exact Nat.le_trans (Nat.le_mul_of_pos_left _ e) h
end Go.Proofs.YtabkodpjhpjgnaaGreatDoor

namespace Go.Proofs.YtabkodpjhpjgnaaGreatDoor
open Go.RowKit Go.Shelf

def Bad3 (w : World) (e : Ending) (w' : World) : Prop := e = .returned (.tuple #[strOf [], strOf [], .int .i64 30]) ∧ Below w.heap.size w w'
set_option maxRecDepth 100000 in
set_option maxHeartbeats 1000000 in
theorem div_bad (l r : List UInt8) (w : World) (h : (Im.vld l && Im.vld r) = false) :
    Calls Tryz.prog 76 #[strOf l, strOf r] w (Bad3 w) := by
  have HB := Lib.hid (both_bad l r w h)
  unfold Bad3
  unfold strOf at *
  generalize bs l = L at *
  generalize bs r = R at *
  clear h
  go_enter Tryz.func76, Tryz.ntmps76
  go_wp2_with (go_at_call 85; refine HB.out.mono ?_; rintro e w1 ⟨f, A, n, c, g, B, m, d, rfl, hb⟩)
  go_ret3
  exact ⟨rfl, (hb.alloc hb.size _).alloc (by have := hb.size; simp; omega) _⟩
set_option maxRecDepth 100000 in
set_option maxHeartbeats 1000000 in
theorem div_zero (a : Int) (w : World) (ha : okz a = true) :
    Calls Tryz.prog 76 #[strOf (Lib.itoa a), strOf (Lib.itoa 0)] w (Bad3 w) := by
  have HB := Lib.hid (both_ok a 0 w ha (by decide))
  have hz := fun y u (hy : Num u y 0) => numZero_any y 0 u hy
  rw [decide_eq_true rfl] at hz
  have HZ := Lib.hid hz
  unfold Bad3
  unfold strOf at *
  generalize bs (Lib.itoa a) = L at *
  generalize bs (Lib.itoa 0) = R at *
  clear ha hz
  go_enter Tryz.func76, Tryz.ntmps76
  go_wp2_with (first | (go_at_call 85; refine HB.out.mono ?_; rintro e w1 ⟨f, A, n, c, g, B, m, d, rfl, hx, hy, hb⟩; have HU := Lib.hid (pair_boxes (f := f) (g := g) (A := A) (B := B) (n := n) (c := c) (m := m) (d := d) hb); have HY := Lib.hid hy; clear hx hy hb) | (go_at_call 96; obtain ⟨U, hU, hbU, r0, r1, hbw⟩ := HU.out; rw [← hU]; refine (HZ.out _ _ (HY.out.next hbU)).mono ?_; rintro e w2 ⟨rfl, hb2⟩; have HB2 := Lib.hid (hbw.trans (hb2.mono hbw.size)); clear hb2))
  go_ret3
  exact ⟨rfl, HB2.out⟩
set_option maxRecDepth 100000 in
set_option maxHeartbeats 2000000 in
theorem div_ok (a b : Int) (w : World) (ht : TabP w) (ha : okz a = true) (hb : okz b = true) (h0 : b ≠ 0) :
    Calls Tryz.prog 76 #[strOf (Lib.itoa a), strOf (Lib.itoa b)] w fun e w' => e = .returned (.tuple #[strOf (outT (a / b)), strOf (outT (a % b)), .int .i64 0]) ∧ Below w.heap.size w w' := by
  have la := ok50 ha
  have lb := ok50 hb
  have HB := Lib.hid (both_ok a b w ha hb)
  have hz := fun y u (hy : Num u y b) => numZero_any y b u hy
  rw [decide_eq_false h0] at hz
  have hop := fun x y u (hx : Num u x a) (hy : Num u y b) => numOver_any x y a b u hx hy (by omega) (by omega) h0
  have lq : (Im.grp (a / b).natAbs).length ≤ 400 := by
    have h1 := Im.plus_len a.natAbs 1 50 la (by decide)
    have h2 : (a / b).natAbs ≤ a.natAbs + 1 := by
      have h3 := Int.natAbs_ediv_le_natAbs a b
      omega
    have h3 := Im.len_mono h2
    omega
  have lr : (Im.grp (a % b).natAbs).length ≤ 400 := by
    have h2 : (a % b).natAbs ≤ b.natAbs := by
      have h3 := Int.emod_lt a h0
      have h4 := Int.emod_nonneg a h0
      omega
    have h3 := Im.len_mono h2
    omega
  have htq := fun x u (hx : Num u x (a / b)) (hu : TabP u) => text_any x _ u hx hu lq
  have htr := fun x u (hx : Num u x (a % b)) (hu : TabP u) => text_any x _ u hx hu lr
  have HZ := Lib.hid hz; have HOP := Lib.hid hop; have HTQ := Lib.hid htq; have HTR := Lib.hid htr; have HT := Lib.hid ht
  unfold strOf at *
  generalize bs (Lib.itoa a) = L at *
  generalize bs (Lib.itoa b) = R at *
  generalize bs (outT (a / b)) = S1 at *
  generalize bs (outT (a % b)) = S2 at *
  generalize errT (a / b) = er1 at *
  generalize errT (a % b) = er2 at *
  generalize a / b = p at *
  generalize a % b = q at *
  clear ha hb h0 la lb hz hop lq lr htq htr ht
  go_enter Tryz.func76, Tryz.ntmps76
  go_wp2_with (first | (go_at_call 85; refine HB.out.mono ?_; rintro e w1 ⟨f, A, n, c, g, B, m, d, rfl, hx, hy, hb⟩; have HU := Lib.hid (pair_boxes (f := f) (g := g) (A := A) (B := B) (n := n) (c := c) (m := m) (d := d) hb); have HX := Lib.hid hx; have HY := Lib.hid hy; clear hx hy hb) | (go_at_call 96; obtain ⟨U, hU, hbU, r0, r1, hbw⟩ := HU.out; rw [← hU]; refine (HZ.out _ _ (HY.out.next hbU)).mono ?_; rintro e w2 ⟨rfl, hb2⟩; have hu2 := below_to hbU hb2; have HX2 := Lib.hid (HX.out.next hu2); have HY2 := Lib.hid (HY.out.next hu2); obtain ⟨k0, k1, f0, f1⟩ := box_facts (r0.below hb2 r0.lt); obtain ⟨k2, k3, f2, f3⟩ := box_facts (r1.below hb2 r1.lt); have HB2 := Lib.hid (hbw.trans (hb2.mono hbw.size)); clear hb2 hu2 hU hbU r0 r1 hbw) | (go_at_call 97; refine (HOP.out _ _ _ HX2.out HY2.out).mono ?_; unfold NumsPost; rintro e w3 ⟨f', g', A', B', n', m', c', d', rfl, hn1, hn2, hb3⟩; have HU3 := Lib.hid (pair_boxes (f := f') (g := g') (A := A') (B := B') (n := n') (c := c') (m := m') (d := d') (HB2.out.trans (hb3.mono HB2.out.size))); have HN1 := Lib.hid hn1; have HN2 := Lib.hid hn2; clear hn1 hn2 hb3) | (go_at_call 98; obtain ⟨V, hV, hbV, v0, v1, hbv⟩ := HU3.out; rw [← hV]; refine (HTQ.out _ _ (HN1.out.next hbV) (HT.out.next hbv)).mono ?_; rintro e w4 ⟨rfl, hb4⟩; have HN4 := Lib.hid (HN2.out.next (below_to hbV hb4)); obtain ⟨k4, k5, f4, f5⟩ := box_facts (v1.below hb4 v1.lt); have HB4 := Lib.hid (hbv.trans (hb4.mono hbv.size)); clear hb4 hV hbV v0 v1 hbv HN1) | (go_at_call 98; refine (HTR.out _ _ HN4.out (HT.out.next HB4.out)).mono ?_; rintro e w5 ⟨rfl, hb5⟩; have HB5 := Lib.hid (HB4.out.trans (hb5.mono HB4.out.size)); clear hb5))
  go_ret3
  exact ⟨rfl, HB5.out⟩
end Go.Proofs.YtabkodpjhpjgnaaGreatDoor

namespace Go.Proofs.YtabkodpjhpjgnaaGreatDoor
open Go.RowKit

namespace Im
/-- The number of some digits, the lowest one first. -/
def dval : List Int → Int
  | [] => 0
  | x :: r => x + 10 * dval r
def Dg (l : List Int) : Prop := ∀ x ∈ l, 0 ≤ x ∧ x < 10
def Top (l : List Int) : Prop := ∀ r x, l = r ++ [x] → x ≠ 0
def dtxt (l : List Int) : List UInt8 := l.reverse.map fun x => UInt8.ofNat (48 + x.toNat)
theorem dtxt_cons (x : Int) (l : List Int) : dtxt (x :: l) = dtxt l ++ [UInt8.ofNat (48 + x.toNat)] := by simp [dtxt]
theorem Dg.tail {x : Int} {l : List Int} (h : Dg (x :: l)) : Dg l := fun y hy => h y (List.mem_cons_of_mem _ hy)
theorem Top.tail {x : Int} {l : List Int} (h : Top (x :: l)) : Top l := fun r y e => h (x :: r) y (by rw [e]; rfl)
theorem dval_nonneg : ∀ {l : List Int}, Dg l → 0 ≤ dval l
  | [], _ => Int.le_refl _
  | x :: r, h => by
    have h1 := (h x (by simp)).1
    have h2 := dval_nonneg h.tail
    show 0 ≤ x + 10 * dval r
    omega
theorem dval_lt : ∀ {l : List Int}, Dg l → (dval l).toNat < 10 ^ l.length
  | [], _ => by decide
  | x :: r, h => by
    have h1 := h x (by simp)
    have h2 := dval_lt h.tail
    have h3 := dval_nonneg h.tail
    show (x + 10 * dval r).toNat < 10 ^ (r.length + 1)
    rw [Nat.pow_succ]; omega
theorem dval_pos : ∀ {l : List Int}, Dg l → l ≠ [] → Top l → 0 < dval l
  | [], _, h, _ => absurd rfl h
  | [x], hd, _, ht => by
    have h1 := (hd x (by simp)).1
    have h2 := ht [] x rfl
    show 0 < x + 10 * 0
    omega
  | x :: y :: r, hd, _, ht => by
    have h1 := (hd x (by simp)).1
    have h2 := dval_pos hd.tail (by simp) ht.tail
    show 0 < x + 10 * dval (y :: r)
    omega
theorem dtxt_dd : ∀ {l : List Int}, Dg l → l ≠ [] → Top l → Lib.decDigits (dval l).toNat = dtxt l
  | [], _, h, _ => absurd rfl h
  | [x], hd, _, _ => by
    have h1 := hd x (by simp)
    show Lib.decDigits (x + 10 * 0).toNat = _
    rw [dd_small _ (by omega), show x + 10 * 0 = x by omega]; rfl
  | x :: y :: r, hd, _, ht => by
    have h1 := hd x (by simp)
    have h2 := dval_pos hd.tail (by simp) ht.tail
    have ih := dtxt_dd hd.tail (by simp) ht.tail
    rw [dtxt_cons, ← ih]
    have e : dval (x :: y :: r) = x + 10 * dval (y :: r) := rfl
    rw [e]
    generalize dval (y :: r) = v at *
    rw [dd_big _ (by omega), show (x + 10 * v).toNat / 10 = v.toNat by omega, show (x + 10 * v).toNat % 10 = x.toNat by omega]
/-- The integer of a sign and digits. -/
def sgn (neg : Bool) (l : List Int) : Int := if neg then -(dval l) else dval l
def rtxt (neg : Bool) (l : List Int) : List UInt8 := if l = [] then [48] else if neg then 45 :: dtxt l else dtxt l
theorem rtxt_itoa (neg : Bool) {l : List Int} (hd : Dg l) (ht : Top l) : rtxt neg l = Lib.itoa (sgn neg l) := by
  unfold rtxt
  by_cases h : l = []
  · subst h
    rw [if_pos rfl]
    cases neg <;> decide +kernel
  · rw [if_neg h]
    have hp := dval_pos hd h ht
    have hx := dtxt_dd hd h ht
    cases neg with
    | true =>
      have e : sgn true l = -(dval l) := rfl
      rw [if_pos rfl, e]
      unfold Lib.itoa
      rw [if_pos (by omega), Int.natAbs_neg, ← hx, show (dval l).natAbs = (dval l).toNat by omega]
    | false =>
      have e : sgn false l = dval l := rfl
      rw [if_neg (by decide), e]
      unfold Lib.itoa
      rw [if_neg (by omega), hx]
theorem sgn_lt (neg : Bool) {l : List Int} (hd : Dg l) : (sgn neg l).natAbs < 10 ^ l.length := by
  have h := dval_lt hd
  have h2 := dval_nonneg hd
  unfold sgn
  split <;> omega
theorem trim_dg {l : List Int} (h : Dg l) : Dg (trim l) := fun x hx => h x (by
  rw [trim_take l] at hx; exact List.mem_of_mem_take hx)
theorem trim_top (l : List Int) : Top (trim l) := fun r x e => trim_nil_or l x r e
end Im

def lenV3 : Value → Nat
  | .slice _ m _ => m
  | _ => 0
set_option maxRecDepth 100000 in
set_option maxHeartbeats 1000000 in
theorem trim3_any (l : List Int) (A : Option Addr) (c : Nat) (w : World) (hv : Ints w w.heap.size (.slice A l.length c) l) :
    Calls Tryz.prog 95 #[.slice A l.length c] w fun e w' => e = .returned (.slice A (Im.trim l).length c) ∧ w = w' := by
  obtain ⟨-, hc1, hc2⟩ := ints_cap hv
  have HV := Lib.hid (fun k hk => ints_at hv k hk)
  obtain ⟨N, hN⟩ : ∃ N, l.length = N := ⟨_, rfl⟩
  have HN := Lib.hid hN
  rw [hN] at hc1 ⊢
  clear hv hN
  go_enter Tryz.func95, Tryz.ntmps95
  go_wp2
  go_loop [0] (fun n => ∃ k : Nat, k ≤ N ∧ n = .slice A k c ∧ Hid (∀ j, k ≤ j → j < l.length → l.getD j 0 = 0)) (fun n => lenV3 n)
  case atStart => exact ⟨N, by omega, rfl, Lib.hid fun j h1 h2 => by have := HN.out; omega⟩
  case round =>
    obtain ⟨k, hk, rfl, HZ⟩ := hrel
    by_cases h0 : 0 < k
    · obtain ⟨g, off, rfl, hg, hcell⟩ := HV.out (k - 1) (by have := HN.out; omega)
      have c0 := hcell (k - 1) (by have := HN.out; omega)
      obtain ⟨x, hx⟩ : ∃ x, l.getD (k - 1) 0 = x := ⟨_, rfl⟩
      rw [hx] at c0
      have HX := Lib.hid hx
      obtain ⟨j, rfl⟩ : ∃ j, k = j + 1 := ⟨k - 1, by omega⟩
      rw [Nat.add_sub_cancel] at c0 HX
      have e1 : ((j + 1 : Nat) : Int) - 1 = (j : Int) := by omega
      have i1 : (0 : Int) ≤ (j : Int) := by omega
      have i2 : (j : Int) < (N : Int) := by omega
      have i3 : (0 : Int) < ((j + 1 : Nat) : Int) := by omega
      have i4 : (j : Int) ≤ (c : Int) := by omega
      have i5 : (j : Int) < ((j + 1 : Nat) : Int) := by omega
      clear hcell hx
      by_cases hz : x = 0
      · have t1 : (x == 0) = true := by simpa using hz
        have HZ2 : Hid (∀ i, j ≤ i → i < l.length → l.getD i 0 = 0) := Lib.hid fun i h1 h2 => by
          by_cases e : i = j
          · rw [e, HX.out, hz]
          · exact HZ.out i (by omega) h2
        clear hz
        go_wp2
        go_round
        case rel => exact ⟨j, by omega, by first | rfl | simp, HZ2⟩
        case measure => simp [lenV3]
      · have t1 : (x == 0) = false := by simpa using hz
        have hl : (Im.trim l).length = j + 1 := by
          rw [Im.trim_at l (j + 1) (by have := HN.out; omega) HZ.out (fun _ => by rw [Nat.add_sub_cancel, HX.out]; exact hz), List.length_take]
          have := HN.out; omega
        have HL := Lib.hid hl
        clear hz hl
        go_wp2
        go_ret
        exact ⟨by rw [HL.out]; rfl, rfl⟩
    · obtain rfl : k = 0 := by omega
      have hl : (Im.trim l).length = 0 := by
        rw [Im.trim_at l 0 (by omega) HZ.out (fun h => by omega)]; rfl
      have HL := Lib.hid hl
      clear hl h0
      go_wp2
      go_ret
      exact ⟨by rw [HL.out]; rfl, rfl⟩
end Go.Proofs.YtabkodpjhpjgnaaGreatDoor

namespace Go.Proofs.YtabkodpjhpjgnaaGreatDoor
open Go.RowKit
attribute [local go_sem ↓] append_appN

theorem infoB : (Tryz.prog.info? 5).map (fun i => (i.zero, i.size, i.bytes)) = some (some (.int .u8 0), 1, 1) := by kernel_rfl
theorem snoc_u8 {B : Nat} {w : World} {v : Value} {l : List UInt8} {n : Nat} {b : UInt8} {x : Int} {i0 : TypeInfo} (hi0 : Tryz.prog.info? 5 = some i0) (hz0 : i0.zero = some (.int .u8 0)) (hz1 : i0.size = 1) (hz2 : i0.bytes = 1)
    (hrow : w.ownsRow B 5 1 v n (Lib.byteCells l)) (hB : B ≤ w.heap.size) (hn : n ≤ 100000) (hx : x = (b.toNat : Int)) :
    ∃ v' w', Sem.run Tryz.prog (appN #[48, 48] 48 #[v, .slice (some ⟨w.heap.size, 0, none⟩) 1 1]) (w.alloc (.cells #[.int .u8 x] 5)) = .ok v' w' ∧
      w'.ownsRow B 5 1 v' (n + 1) (Lib.byteCells (l ++ [b])) ∧ Below B w w' := by
  subst hx
  obtain ⟨v', w', hrun, hown, hgr, _⟩ := run_append_own (P := Tryz.prog) (w.alloc (.cells #[.int .u8 (b.toNat : Int)] 5)) B 48 48 5 i0 (.int .u8 0) 1 1 Tryz.underlying48 hi0 hz0 hz1 hz2 rfl (by decide)
    v n _ (hrow.alloc _) ⟨w.heap.size, 0, none⟩ 1 1 [.int .u8 (b.toNat : Int)] rfl (fun j u h => cell_one_new _ _ _ j u h) (by simp [Value.oneCell']) (by unfold maxLen; omega) (by omega) (by simp; omega)
  refine ⟨v', w', hrun, ?_, ?_⟩
  · rw [show Lib.byteCells (l ++ [b]) = Lib.byteCells l ++ [.int .u8 (b.toNat : Int)] by simp [Lib.byteCells]]; exact hown
  · have h3 : Below B w (w.alloc (.cells #[.int .u8 (b.toNat : Int)] 5)) := (Below.refl _ w).alloc hB _
    exact ⟨hgr.os.trans h3.os, hgr.tape.trans h3.tape, hgr.output.trans h3.output, Nat.le_trans h3.size hgr.size, fun k hk =>
      (hgr.block k (by simp; omega) (fun e => by have := own_ge hrow k e.symm; omega)).trans (h3.block k hk)⟩
theorem own_string {w : World} {base g cap n : Nat} (l : List UInt8) (h : w.ownsRow base 5 1 (.slice (some ⟨g, 0, none⟩) n cap) n (Lib.byteCells l)) (hn : l.length = n) :
    Sem.run Tryz.prog (Go.convert 48 9 (.slice (some ⟨g, 0, none⟩) n cap)) w = .ok (strOf l) w := by
  subst hn
  refine run_convert_bytes_back w 48 9 5 ⟨g, 0, none⟩ cap l Tryz.underlying48 Tryz.underlying5 Tryz.underlying9 fun j hj => ?_
  have := h.cellAt j (by omega)
  rw [show (⟨g, 0, none⟩ : Addr).add j = ⟨g, j, none⟩ from by simp [Addr.add]; omega, this]
  simp [Lib.byteCells, List.getElem?_eq_getElem hj]
theorem dtxt_len (l : List Int) : (Im.dtxt l).length = l.length := by simp [Im.dtxt]
theorem dtxt_take {l : List Int} (k : Nat) (h : k < l.length) : (Im.dtxt l).take (k + 1) = (Im.dtxt l).take k ++ [UInt8.ofNat (48 + (l.getD (l.length - 1 - k) 0).toNat)] := by
  have hk : k < (Im.dtxt l).length := by rw [dtxt_len]; exact h
  have e : (Im.dtxt l)[k]'hk = UInt8.ofNat (48 + (l.getD (l.length - 1 - k) 0).toNat) := by
    simp only [Im.dtxt, List.getElem_map, List.getElem_reverse]
    rw [List.getD_eq_getElem?_getD, List.getElem?_eq_getElem (by omega)]
    rfl
  rw [List.take_succ_eq_append_getElem hk, e]

set_option maxRecDepth 100000 in
set_option maxHeartbeats 1000000 in
theorem text3_any (neg : Bool) (l : List Int) (A : Option Addr) (c : Nat) (w : World) (hv : Ints w w.heap.size (.slice A l.length c) l) (hd : Im.Dg l) (hl : l.length ≤ 200) :
    Calls Tryz.prog 71 #[.bool neg, .slice A l.length c] w fun e w' => e = .returned (.tuple #[strOf (Im.rtxt neg l), .bool true]) ∧ Below w.heap.size w w' := by
  obtain ⟨i0, hi0, hz0, hz1, hz2⟩ := info_parts infoB
  by_cases h0 : l = []
  · subst h0
    cases neg
    all_goals
      go_enter Tryz.func71, Tryz.ntmps71
      go_wp2
      go_ret2
      exact ⟨rfl, Below.refl _ _⟩
  obtain ⟨pre, hpre⟩ : ∃ pre : List UInt8, (if neg then [45] else []) = pre := ⟨_, rfl⟩
  have hr : Im.rtxt neg l = pre ++ Im.dtxt l := by
    unfold Im.rtxt
    rw [if_neg h0, ← hpre]
    cases neg <;> rfl
  have hn1 : 1 ≤ l.length := by
    rcases Nat.eq_zero_or_pos l.length with e | e
    · exact absurd (List.eq_nil_of_length_eq_zero e) h0
    · exact e
  rw [hr]
  have hdl := dtxt_len l
  have hdt := fun k (hk : k < l.length) => dtxt_take (l := l) k hk
  have hdg := fun k (hk : k < l.length) => hd (l.getD k 0) (by rw [List.getD_eq_getElem?_getD, List.getElem?_eq_getElem hk]; simp)
  have hvi := fun k hk => ints_at hv k hk
  obtain ⟨-, hc1, hc2⟩ := ints_cap hv
  obtain ⟨n, hn⟩ : ∃ n, l.length = n := ⟨_, rfl⟩
  rw [hn] at hdt hdl hl hn1 hc1 ⊢
  obtain ⟨T, hT⟩ : ∃ T, Im.dtxt l = T := ⟨_, rfl⟩
  rw [hT] at hdl hdt ⊢
  have hta : T.take n = T := List.take_of_length_le (by omega)
  have HN := Lib.hid hn; have HDT := Lib.hid hdt; have HDG := Lib.hid hdg; have HVI := Lib.hid hvi; have HTA := Lib.hid hta; have HDL := Lib.hid hdl
  have e0 : ((n : Int) == 0) = false := by rw [beq_eq_false_iff_ne]; omega
  have hs0 := snoc_u8 (B := w.heap.size) (w := w) (v := .slice none 0 0) (l := []) (n := 0) (b := 45) (x := 45) hi0 hz0 hz1 hz2 (World.ownsRow_nil _ _ _ _) (Nat.le_refl _) (by decide) rfl
  have s0 : IntKind.i64.wrap ((n : Int) - 1) = (n : Int) - 1 := IntWalk.i64_in _ (by omega)
  clear hn hdt hdg hvi hta hdl hv hd hT hr h0
  have LOOP : ∀ (v : Value) (W : World), W.ownsRow w.heap.size 5 1 v pre.length (Lib.byteCells pre) → Below w.heap.size w W → True := fun _ _ _ _ => trivial
  clear LOOP
  cases neg with
  | true =>
    obtain rfl : [45] = pre := hpre
    obtain ⟨v1, w1, hrun1, hown1, hb1⟩ := hs0
    have HO1 := Lib.hid hown1; have HB1 := Lib.hid hb1
    clear hown1 hb1
    go_enter Tryz.func71, Tryz.ntmps71
    go_wp2
    clear hrun1
    go_loopw [6, 7] (fun o i wr => ∃ k : Nat, k ≤ n ∧ i = .int .i64 ((n : Int) - 1 - (k : Int)) ∧ Hid (wr.ownsRow w.heap.size 5 1 o (1 + k) (Lib.byteCells ([45] ++ T.take k))) ∧ Hid (Below w.heap.size w wr)) (fun _ i _ => (intOf i + 1).toNat)
    case atStart => exact ⟨0, by omega, by go_num, HO1, HB1⟩
    case round =>
      obtain ⟨k, hk, rfl, HO, HB⟩ := hrel
      by_cases hlt : k < n
      · obtain ⟨g, off, rfl, hg, hcell⟩ := HVI.out (n - 1 - k) (by have := HN.out; omega)
        have c0 := (HB.out.cell (p := ⟨g, off + (n - 1 - k), none⟩) hg).trans (hcell (n - 1 - k) (by have := HN.out; omega))
        have hx := HDG.out (n - 1 - k) (by have := HN.out; omega)
        have ht := HDT.out k hlt
        obtain ⟨x, hxx⟩ : ∃ x, l.getD (n - 1 - k) 0 = x := ⟨_, rfl⟩
        rw [hxx] at c0 hx ht
        obtain ⟨b, hb⟩ : ∃ b, UInt8.ofNat (48 + x.toNat) = b := ⟨_, rfl⟩
        rw [hb] at ht
        have hbn : (b.toNat : Int) = 48 + x := by rw [← hb, u8_ofNat _ (by omega)]; omega
        obtain ⟨v2, w2, hrun, hown2, hb2⟩ := snoc_u8 (b := b) (x := 48 + x) hi0 hz0 hz1 hz2 HO.out HB.out.size (by omega) hbn.symm
        rw [List.append_assoc, ← ht] at hown2
        have HO2 := Lib.hid hown2; have HB2 := Lib.hid (HB.out.trans hb2)
        have i1 : (0 : Int) ≤ (n : Int) - 1 - (k : Int) := by omega
        have i2 : (n : Int) - 1 - (k : Int) < (n : Int) := by omega
        have i3 : ((n : Int) - 1 - (k : Int)).toNat = n - 1 - k := by omega
        have i5 : IntKind.u8.wrap (48 + x) = 48 + x := by rw [IntKind.wrap_u8]; omega
        have i6 : IntKind.i64.wrap (48 + x) = 48 + x := IntWalk.i64_in _ (by omega)
        clear hcell hxx hb hbn hown2 hb2 ht
        go_wp2
        go_roundw
        case rel => exact ⟨k + 1, by omega, by go_num, by rw [show 1 + (k + 1) = 1 + k + 1 by omega]; exact HO2, HB2⟩
        case measure => simp [intOf]; omega
      · obtain rfl : k = n := by omega
        have hown := HO.out
        rw [HTA.out, show 1 + k = k + 1 by omega] at hown
        obtain ⟨g, cap, rfl⟩ := ownsRow_succ hown
        have hcv := own_string ([45] ++ T) hown (by rw [List.length_append, HDL.out]; simp; omega)
        have i1 : decide ((k : Int) ≤ 200) = true := decide_eq_true (by omega)
        clear hown
        go_wp2
        go_ret2
        exact ⟨rfl, HB.out⟩
  | false =>
    obtain rfl : [] = pre := hpre
    clear hs0
    go_enter Tryz.func71, Tryz.ntmps71
    go_wp2
    go_loopw [6, 7] (fun o i wr => ∃ k : Nat, k ≤ n ∧ i = .int .i64 ((n : Int) - 1 - (k : Int)) ∧ Hid (wr.ownsRow w.heap.size 5 1 o k (Lib.byteCells (T.take k))) ∧ Hid (Below w.heap.size w wr)) (fun _ i _ => (intOf i + 1).toNat)
    case atStart => exact ⟨0, by omega, by go_num, Lib.hid (World.ownsRow_nil _ _ _ _), Lib.hid (Below.refl _ _)⟩
    case round =>
      obtain ⟨k, hk, rfl, HO, HB⟩ := hrel
      by_cases hlt : k < n
      · obtain ⟨g, off, rfl, hg, hcell⟩ := HVI.out (n - 1 - k) (by have := HN.out; omega)
        have c0 := (HB.out.cell (p := ⟨g, off + (n - 1 - k), none⟩) hg).trans (hcell (n - 1 - k) (by have := HN.out; omega))
        have hx := HDG.out (n - 1 - k) (by have := HN.out; omega)
        have ht := HDT.out k hlt
        obtain ⟨x, hxx⟩ : ∃ x, l.getD (n - 1 - k) 0 = x := ⟨_, rfl⟩
        rw [hxx] at c0 hx ht
        obtain ⟨b, hb⟩ : ∃ b, UInt8.ofNat (48 + x.toNat) = b := ⟨_, rfl⟩
        rw [hb] at ht
        have hbn : (b.toNat : Int) = 48 + x := by rw [← hb, u8_ofNat _ (by omega)]; omega
        obtain ⟨v2, w2, hrun, hown2, hb2⟩ := snoc_u8 (b := b) (x := 48 + x) hi0 hz0 hz1 hz2 HO.out HB.out.size (by omega) hbn.symm
        rw [← ht] at hown2
        have HO2 := Lib.hid hown2; have HB2 := Lib.hid (HB.out.trans hb2)
        have i1 : (0 : Int) ≤ (n : Int) - 1 - (k : Int) := by omega
        have i2 : (n : Int) - 1 - (k : Int) < (n : Int) := by omega
        have i3 : ((n : Int) - 1 - (k : Int)).toNat = n - 1 - k := by omega
        have i5 : IntKind.u8.wrap (48 + x) = 48 + x := by rw [IntKind.wrap_u8]; omega
        have i6 : IntKind.i64.wrap (48 + x) = 48 + x := IntWalk.i64_in _ (by omega)
        clear hcell hxx hb hbn hown2 hb2 ht
        go_wp2
        go_roundw
        case rel => exact ⟨k + 1, by omega, by go_num, HO2, HB2⟩
        case measure => simp [intOf]; omega
      · obtain ⟨m, hm⟩ : ∃ m, n = m + 1 := ⟨n - 1, by omega⟩
        obtain rfl : k = n := by omega
        have hown := HO.out
        rw [HTA.out] at hown
        have hown' := hown
        rw [hm] at hown'
        obtain ⟨g, cap, rfl⟩ := ownsRow_succ hown'
        rw [← hm] at hown ⊢
        have hcv := own_string T hown HDL.out
        have i1 : decide ((k : Int) ≤ 200) = true := decide_eq_true (by omega)
        clear hown hown' hm
        go_wp2
        go_ret2
        exact ⟨rfl, HB.out⟩
end Go.Proofs.YtabkodpjhpjgnaaGreatDoor

namespace Go.Proofs.YtabkodpjhpjgnaaGreatDoor
open Go.RowKit
attribute [local go_sem ↓] append_appN

/-- The digits that a string determines. -/
def digL (s : ByteArray) (k : Nat) : List Int := (s.data.toList.take k).map fun c => ((c.toNat % 10 : Nat) : Int)
theorem digL_len (s : ByteArray) (k : Nat) (h : k ≤ s.size) : (digL s k).length = k := by
  have := Lib.size_eq s
  simp [digL]; omega
theorem digL_succ (s : ByteArray) (k : Nat) (h : k < s.size) : digL s (k + 1) = digL s k ++ [(((s[k]'h).toNat % 10 : Nat) : Int)] := by
  have hl : k < s.data.toList.length := by have := Lib.size_eq s; omega
  unfold digL
  rw [List.take_succ_eq_append_getElem hl, List.map_append]
  rfl
theorem digL_dg (s : ByteArray) (k : Nat) : Im.Dg (digL s k) := fun x hx => by
  unfold digL at hx
  obtain ⟨c, _, rfl⟩ := List.mem_map.1 hx
  omega

/-- Whether the string asks for a negative integer, and the integer that it determines. -/
def negS (s : ByteArray) : Bool := if h : 0 < s.size then decide (128 ≤ (s[0]'h).toNat) else false
def madeZ (s : ByteArray) (m : Nat) : Int := Im.sgn (negS s) (Im.trim (digL s (min s.size m)))
theorem madeZ_lt (s : ByteArray) (m : Nat) : (madeZ s m).natAbs < 10 ^ m := by
  have hd := Im.trim_dg (digL_dg s (min s.size m))
  refine Nat.lt_of_lt_of_le (Im.sgn_lt _ hd) (Nat.pow_le_pow_right (by decide) ?_)
  have h1 := Im.trim_len_le (digL s (min s.size m))
  rw [digL_len s _ (Nat.min_le_left _ _)] at h1
  omega
def MadeP (s : ByteArray) (m : Nat) (w : World) (e : Ending) (w' : World) : Prop := e = .returned (strOf (Lib.itoa (madeZ s m))) ∧ Below w.heap.size w w'

theorem made_end (s : ByteArray) (k m : Nat) (hk : k = min s.size m) : strOf (Im.rtxt (negS s) (Im.trim (digL s k))) = strOf (Lib.itoa (madeZ s m)) := by
  subst hk
  rw [Im.rtxt_itoa _ (Im.trim_dg (digL_dg s _)) (Im.trim_top _)]; rfl

theorem text3_nil (w : World) : Calls Tryz.prog 71 #[.bool false, .slice none 0 0] w fun e w' => e = .returned (.tuple #[.string ⟨#[48]⟩, .bool true]) ∧ w' = w := by
  go_enter Tryz.func71, Tryz.ntmps71
  go_wp2
  go_ret2
  exact ⟨rfl, rfl⟩
theorem trim3_nil (w : World) : Calls Tryz.prog 95 #[.slice none 0 0] w fun e w' => e = .returned (.slice none 0 0) ∧ w' = w := by
  refine (trim3_any [] none 0 w (ints_nil _ _)).mono ?_
  rintro e w' ⟨rfl, rfl⟩
  exact ⟨rfl, rfl⟩
end Go.Proofs.YtabkodpjhpjgnaaGreatDoor

namespace Go.Proofs.YtabkodpjhpjgnaaGreatDoor
open Go.RowKit

/-- A call that answers v in every world that bears the table. -/
abbrev CallT (f : Nat) (args : Array Value) (v : Value) : Prop := ∀ u, TabP u → Calls Tryz.prog f args u fun e w' => e = .returned v ∧ Below u.heap.size u w'
theorem add_lit (a b : Int) (x y z : List UInt8) (r : Int) (hx : Lib.itoa a = x) (hy : Lib.itoa b = y) (hz : outT (a + b) = z) (hr : errT (a + b) = r) (ha : okz a = true) (hb : okz b = true) : CallT 67 #[strOf x, strOf y] (.tuple #[strOf z, .int .i64 r]) := fun u hu => by
  subst hx hy hz hr; exact Add_ok a b u hu ha hb
theorem sub_lit (a b : Int) (x y z : List UInt8) (r : Int) (hx : Lib.itoa a = x) (hy : Lib.itoa b = y) (hz : outT (a - b) = z) (hr : errT (a - b) = r) (ha : okz a = true) (hb : okz b = true) : CallT 70 #[strOf x, strOf y] (.tuple #[strOf z, .int .i64 r]) := fun u hu => by
  subst hx hy hz hr; exact Sub_ok a b u hu ha hb
theorem mul_lit (a b : Int) (x y z : List UInt8) (r : Int) (hx : Lib.itoa a = x) (hy : Lib.itoa b = y) (hz : outT (a * b) = z) (hr : errT (a * b) = r) (ha : okz a = true) (hb : okz b = true) : CallT 93 #[strOf x, strOf y] (.tuple #[strOf z, .int .i64 r]) := fun u hu => by
  subst hx hy hz hr; exact Mul_ok a b u hu ha hb
theorem gcd_lit (a b : Int) (x y z : List UInt8) (r : Int) (hx : Lib.itoa a = x) (hy : Lib.itoa b = y) (hz : outT ((Nat.gcd a.natAbs b.natAbs : Nat) : Int) = z) (hr : errT ((Nat.gcd a.natAbs b.natAbs : Nat) : Int) = r) (ha : okz a = true) (hb : okz b = true) : CallT 62 #[strOf x, strOf y] (.tuple #[strOf z, .int .i64 r]) := fun u hu => by
  subst hx hy hz hr; exact Gcd_ok a b u hu ha hb
theorem div_lit (a b : Int) (x y z t : List UInt8) (hx : Lib.itoa a = x) (hy : Lib.itoa b = y) (hz : outT (a / b) = z) (ht : outT (a % b) = t) (ha : okz a = true) (hb : okz b = true) (h0 : b ≠ 0) : CallT 76 #[strOf x, strOf y] (.tuple #[strOf z, strOf t, .int .i64 0]) := fun u hu => by
  subst hx hy hz ht; exact div_ok a b u hu ha hb h0
theorem sane_H1 : CallT 67 #[.string ⟨#[57, 57, 57]⟩, .string ⟨#[49]⟩] (.tuple #[.string ⟨#[49, 48, 48, 48]⟩, .int .i64 0]) :=
  add_lit 999 1 [57, 57, 57] [49] [49, 48, 48, 48] 0 (by decide +kernel) (by decide +kernel) (by decide +kernel) (by decide +kernel) (by decide +kernel) (by decide +kernel)
theorem sane_H2 : CallT 70 #[.string ⟨#[49]⟩, .string ⟨#[49, 48, 48, 48]⟩] (.tuple #[.string ⟨#[45, 57, 57, 57]⟩, .int .i64 0]) :=
  sub_lit 1 1000 [49] [49, 48, 48, 48] [45, 57, 57, 57] 0 (by decide +kernel) (by decide +kernel) (by decide +kernel) (by decide +kernel) (by decide +kernel) (by decide +kernel)
theorem sane_H3 : CallT 93 #[.string ⟨#[45, 49, 50]⟩, .string ⟨#[49, 50]⟩] (.tuple #[.string ⟨#[45, 49, 52, 52]⟩, .int .i64 0]) :=
  mul_lit (-12) 12 [45, 49, 50] [49, 50] [45, 49, 52, 52] 0 (by decide +kernel) (by decide +kernel) (by decide +kernel) (by decide +kernel) (by decide +kernel) (by decide +kernel)
theorem sane_H4 : CallT 76 #[.string ⟨#[45, 55]⟩, .string ⟨#[50]⟩] (.tuple #[.string ⟨#[45, 52]⟩, .string ⟨#[49]⟩, .int .i64 0]) :=
  div_lit (-7) 2 [45, 55] [50] [45, 52] [49] (by decide +kernel) (by decide +kernel) (by decide +kernel) (by decide +kernel) (by decide +kernel) (by decide +kernel) (by decide)
theorem sane_H5 : CallT 76 #[.string ⟨#[45, 55]⟩, .string ⟨#[45, 50]⟩] (.tuple #[.string ⟨#[52]⟩, .string ⟨#[49]⟩, .int .i64 0]) :=
  div_lit (-7) (-2) [45, 55] [45, 50] [52] [49] (by decide +kernel) (by decide +kernel) (by decide +kernel) (by decide +kernel) (by decide +kernel) (by decide +kernel) (by decide)
theorem sane_H6 : CallT 62 #[.string ⟨#[49, 50]⟩, .string ⟨#[45, 49, 56]⟩] (.tuple #[.string ⟨#[54]⟩, .int .i64 0]) :=
  gcd_lit 12 (-18) [49, 50] [45, 49, 56] [54] 0 (by decide +kernel) (by decide +kernel) (by decide +kernel) (by decide +kernel) (by decide +kernel) (by decide +kernel)
theorem sane_H9 : CallT 67 #[.string ⟨#[48, 48, 55]⟩, .string ⟨#[49]⟩] (.tuple #[.string ⟨#[]⟩, .int .i64 30]) :=
  fun u _ => Add_bad [48, 48, 55] [49] u (by decide +kernel)
theorem sane_H10 : CallT 119 #[.string ⟨#[45, 55]⟩] (.bool true) :=
  fun u _ => by
    have h := valid_any [45, 55] u
    rw [show Im.vld [45, 55] = true from by decide +kernel] at h
    exact h
theorem sane_H11 : CallT 119 #[.string ⟨#[45, 48]⟩] (.bool false) :=
  fun u _ => by
    have h := valid_any [45, 48] u
    rw [show Im.vld [45, 48] = false from by decide +kernel] at h
    exact h
theorem sane_H12 : CallT 119 #[.string ⟨#[]⟩] (.bool false) :=
  fun u _ => by
    have h := valid_any [] u
    rw [show Im.vld [] = false from by decide +kernel] at h
    exact h
theorem sane_H13 : CallT 63 #[.string ⟨#[45, 56]⟩, .string ⟨#[45, 55]⟩] (.int .i64 (-1)) :=
  fun u _ => by
    have h := cmpI_ok (-8) (-7) u (by decide +kernel) (by decide +kernel)
    rw [show Lib.itoa (-8) = [45, 56] from by decide +kernel, show Lib.itoa (-7) = [45, 55] from by decide +kernel, sg_lt (by decide)] at h
    exact h
end Go.Proofs.YtabkodpjhpjgnaaGreatDoor

namespace Go.Proofs.YtabkodpjhpjgnaaGreatDoor
open Go.RowKit

end Go.Proofs.YtabkodpjhpjgnaaGreatDoor

namespace Go.Proofs.YtabkodpjhpjgnaaGreatDoor
open Go.RowKit

/-- At most k digits. -/
def B (k : Nat) (z : Int) : Prop := z.natAbs < 10 ^ k
theorem B.mono {j k : Nat} {z : Int} (h : B j z) (hk : j ≤ k) : B k z := Nat.lt_of_lt_of_le h (Nat.pow_le_pow_right (by decide) hk)
theorem B.add {k : Nat} {a b : Int} (ha : B k a) (hb : B k b) : B (k + 1) (a + b) := by
  unfold B at *
  rw [Nat.pow_succ]; omega
theorem B.sub {k : Nat} {a b : Int} (ha : B k a) (hb : B k b) : B (k + 1) (a - b) := by
  unfold B at *
  rw [Nat.pow_succ]; omega
theorem B.mul {j k : Nat} {a b : Int} (ha : B j a) (hb : B k b) : B (j + k) (a * b) := by
  unfold B at *
  rw [Int.natAbs_mul, Nat.pow_add]
  exact Nat.mul_lt_mul'' ha hb
theorem B.ok {k : Nat} {z : Int} (h : B k z) (hk : k ≤ 200) : okz z = true := decide_eq_true (h.mono hk)
theorem made_B (s : ByteArray) (m : Nat) : B m (madeZ s m) := madeZ_lt s m
theorem outT_ok {z : Int} (h : okz z = true) : outT z = Lib.itoa z := if_pos h
theorem errT_ok {z : Int} (h : okz z = true) : errT z = 0 := if_pos h

theorem add_c (a b z : Int) (hz : a + b = z) (ha : okz a = true) (hb : okz b = true) (hc : okz z = true) : CallT 67 #[strOf (Lib.itoa a), strOf (Lib.itoa b)] (.tuple #[strOf (Lib.itoa z), .int .i64 0]) := fun u hu => by
  subst hz
  have h := Add_ok a b u hu ha hb
  unfold TextP at h
  rw [outT_ok hc, errT_ok hc] at h; exact h
theorem sub_c (a b z : Int) (hz : a - b = z) (ha : okz a = true) (hb : okz b = true) (hc : okz z = true) : CallT 70 #[strOf (Lib.itoa a), strOf (Lib.itoa b)] (.tuple #[strOf (Lib.itoa z), .int .i64 0]) := fun u hu => by
  subst hz
  have h := Sub_ok a b u hu ha hb
  unfold TextP at h
  rw [outT_ok hc, errT_ok hc] at h; exact h
theorem mul_c (a b z : Int) (hz : a * b = z) (ha : okz a = true) (hb : okz b = true) (hc : okz z = true) : CallT 93 #[strOf (Lib.itoa a), strOf (Lib.itoa b)] (.tuple #[strOf (Lib.itoa z), .int .i64 0]) := fun u hu => by
  subst hz
  have h := Mul_ok a b u hu ha hb
  unfold TextP at h
  rw [outT_ok hc, errT_ok hc] at h; exact h
theorem gcd_c (a b z : Int) (hz : ((Nat.gcd a.natAbs b.natAbs : Nat) : Int) = z) (ha : okz a = true) (hb : okz b = true) (hc : okz z = true) : CallT 62 #[strOf (Lib.itoa a), strOf (Lib.itoa b)] (.tuple #[strOf (Lib.itoa z), .int .i64 0]) := fun u hu => by
  subst hz
  have h := Gcd_ok a b u hu ha hb
  unfold TextP at h
  rw [outT_ok hc, errT_ok hc] at h; exact h
theorem div_c (a b q r : Int) (hq : a / b = q) (hr : a % b = r) (ha : okz a = true) (hb : okz b = true) (h0 : b ≠ 0) (hc : okz q = true) (hd : okz r = true) : CallT 76 #[strOf (Lib.itoa a), strOf (Lib.itoa b)] (.tuple #[strOf (Lib.itoa q), strOf (Lib.itoa r), .int .i64 0]) := fun u hu => by
  subst hq hr
  have h := div_ok a b u hu ha hb h0
  rw [outT_ok hc, outT_ok hd] at h; exact h
theorem div0_c (a : Int) (ha : okz a = true) : CallT 76 #[strOf (Lib.itoa a), strOf (Lib.itoa 0)] (.tuple #[strOf [], strOf [], .int .i64 30]) := fun u _ => div_zero a u ha
theorem cmp_c (a b z : Int) (hz : sg a b = z) (ha : okz a = true) (hb : okz b = true) : CallT 63 #[strOf (Lib.itoa a), strOf (Lib.itoa b)] (.int .i64 z) := fun u _ => by
  subst hz; exact cmpI_ok a b u ha hb
theorem val_c (a : Int) (ha : okz a = true) : CallT 119 #[strOf (Lib.itoa a)] (.bool true) := fun u _ => by
  have h := valid_itoa a u
  rw [ha] at h; exact h
theorem lit0 : strOf (Lib.itoa 0) = .string ⟨#[48]⟩ := by rw [show Lib.itoa 0 = [48] from by decide +kernel]; rfl
theorem lit1 : strOf (Lib.itoa 1) = .string ⟨#[49]⟩ := by rw [show Lib.itoa 1 = [49] from by decide +kernel]; rfl
theorem ok0 : okz 0 = true := by decide +kernel
theorem ok1 : okz 1 = true := by decide +kernel
theorem B0 (k : Nat) : B k 0 := Nat.pow_pos (by decide)
theorem B1 (k : Nat) (h : 1 ≤ k) : B k 1 := by
  have : B 1 1 := by unfold B; decide
  exact this.mono h
/-- Equality of texts is equality of the integers. -/
theorem txt_eqb (a b : Int) : ((bs (Lib.itoa a)).toList == (bs (Lib.itoa b)).toList) = decide (a = b) := by
  rw [bs_eqb]
  by_cases h : a = b
  · rw [h, decide_eq_true rfl]; simp
  · rw [decide_eq_false h, beq_eq_false_iff_ne]
    exact fun e => h (Im.itoa_inj e)
theorem txt_zero (a : Int) : ((bs (Lib.itoa a)).toList == [48]) = decide (a = 0) := by
  have h := txt_eqb a 0
  rw [show (bs (Lib.itoa 0)).toList = [48] from by rw [show Lib.itoa 0 = [48] from by decide +kernel]; rw [ByteArray.toList_eq, bs_list]] at h
  exact h
theorem txt_one (a : Int) : ((bs (Lib.itoa a)).toList == [49]) = decide (a = 1) := by
  have h := txt_eqb a 1
  rw [show (bs (Lib.itoa 1)).toList = [49] from by rw [show Lib.itoa 1 = [49] from by decide +kernel]; rw [ByteArray.toList_eq, bs_list]] at h
  exact h
end Go.Proofs.YtabkodpjhpjgnaaGreatDoor

namespace Go.Proofs.YtabkodpjhpjgnaaGreatDoor
open Go.RowKit

namespace Im
def fv (acc : Nat) (l : List UInt8) : Nat := l.foldl (fun s c => 10 * s + (c.toNat - 48)) acc
theorem fv_ge : ∀ (l : List UInt8) (acc : Nat), acc ≤ fv acc l
  | [], _ => Nat.le_refl _
  | c :: r, acc => by
    have h := fv_ge r (10 * acc + (c.toNat - 48))
    show acc ≤ fv (10 * acc + (c.toNat - 48)) r
    omega
theorem parse_fv : ∀ (l : List UInt8) (acc : Nat), acc < 18446744073709551616 → digs l = true → Lib.parseUint10 acc l = if fv acc l < 18446744073709551616 then .ok (fv acc l) else .range
  | [], acc, ha, _ => by
    show Lib.NumEnd.ok acc = if acc < 18446744073709551616 then .ok acc else .range
    rw [if_pos ha]
  | c :: r, acc, ha, hd => by
    have h1 : (decide (48 ≤ c.toNat) && decide (c.toNat ≤ 57) && digs r) = true := hd
    simp only [Bool.and_eq_true, decide_eq_true_eq] at h1
    have hg := fv_ge r (10 * acc + (c.toNat - 48))
    have e : fv acc (c :: r) = fv (10 * acc + (c.toNat - 48)) r := rfl
    unfold Lib.parseUint10
    rw [if_pos h1.1, e]
    by_cases h2 : 1844674407370955162 ≤ acc
    · rw [if_pos h2, if_neg (by omega)]
    · rw [if_neg h2]
      by_cases h3 : 18446744073709551616 ≤ acc * 10 + (c.toNat - 48)
      · rw [if_pos h3, if_neg (by omega)]
      · rw [if_neg h3, show acc * 10 + (c.toNat - 48) = 10 * acc + (c.toNat - 48) by omega]
        exact parse_fv r _ (by omega) h1.2
theorem parse_dd (n : Nat) : Lib.parseMag (Lib.decDigits n) = if n < 18446744073709551616 then .ok n else .range := by
  unfold Lib.parseMag
  rw [if_neg (dd_ne n), parse_fv _ 0 (by decide) (dd_digs n)]
  have : fv 0 (Lib.decDigits n) = n := dd_dv n
  rw [this]
theorem atoi_in (z : Int) (h0 : -9223372036854775808 ≤ z) (h1 : z ≤ 9223372036854775807) : Lib.atoiAll (Lib.itoa z) = .ok z := by
  by_cases hn : z < 0
  · rw [show Lib.itoa z = 45 :: Lib.decDigits z.natAbs from by unfold Lib.itoa; rw [if_pos hn], Lib.atoiAll_minus, parse_dd, if_pos (by omega)]
    show (if 9223372036854775808 < z.natAbs then Lib.NumEnd.range else .ok (-(z.natAbs : Int))) = _
    rw [if_neg (by omega), show -(z.natAbs : Int) = z by omega]
  · rw [show Lib.itoa z = Lib.decDigits z.natAbs from by unfold Lib.itoa; rw [if_neg hn, show z.toNat = z.natAbs by omega]]
    have hp := parse_dd z.natAbs
    have hd := dd_digs z.natAbs
    cases hl : Lib.decDigits z.natAbs with
    | nil => exact absurd hl (dd_ne _)
    | cons c r =>
      rw [hl] at hp hd
      have h2 : (decide (48 ≤ c.toNat) && decide (c.toNat ≤ 57) && digs r) = true := hd
      simp only [Bool.and_eq_true, decide_eq_true_eq] at h2
      rw [Lib.atoiAll_plain c r (by omega) (by omega), hp, if_pos (by omega)]
      show (if 9223372036854775808 ≤ z.natAbs then Lib.NumEnd.range else .ok (z.natAbs : Int)) = _
      rw [if_neg (by omega), show (z.natAbs : Int) = z by omega]
theorem atoi_out (z : Int) (h : ¬ (-9223372036854775808 ≤ z ∧ z ≤ 9223372036854775807)) : Lib.atoiAll (Lib.itoa z) = .range := by
  by_cases hn : z < 0
  · rw [show Lib.itoa z = 45 :: Lib.decDigits z.natAbs from by unfold Lib.itoa; rw [if_pos hn], Lib.atoiAll_minus, parse_dd]
    by_cases h2 : z.natAbs < 18446744073709551616
    · rw [if_pos h2]
      show (if 9223372036854775808 < z.natAbs then Lib.NumEnd.range else .ok (-(z.natAbs : Int))) = _
      rw [if_pos (by omega)]
    · rw [if_neg h2]; rfl
  · rw [show Lib.itoa z = Lib.decDigits z.natAbs from by unfold Lib.itoa; rw [if_neg hn, show z.toNat = z.natAbs by omega]]
    have hp := parse_dd z.natAbs
    have hd := dd_digs z.natAbs
    cases hl : Lib.decDigits z.natAbs with
    | nil => exact absurd hl (dd_ne _)
    | cons c r =>
      rw [hl] at hp hd
      have h2 : (decide (48 ≤ c.toNat) && decide (c.toNat ≤ 57) && digs r) = true := hd
      simp only [Bool.and_eq_true, decide_eq_true_eq] at h2
      rw [Lib.atoiAll_plain c r (by omega) (by omega), hp]
      by_cases h3 : z.natAbs < 18446744073709551616
      · rw [if_pos h3]
        show (if 9223372036854775808 ≤ z.natAbs then Lib.NumEnd.range else .ok (z.natAbs : Int)) = _
        rw [if_pos (by omega)]
      · rw [if_neg h3]; rfl
end Im

/-- The variable of the range's error holds an error. -/
def ErrP (w : World) : Prop := ∃ tp p, w.var? Tryz.prog "strconv.ErrRange" = some #[.iface tp p]
end Go.Proofs.YtabkodpjhpjgnaaGreatDoor

namespace Go.Proofs.YtabkodpjhpjgnaaGreatDoor
open Go.RowKit

theorem from_c (z : Int) (h0 : -9223372036854775808 ≤ z) (h1 : z ≤ 9223372036854775807) : CallT 64 #[.int .i64 z] (strOf (Lib.itoa z)) := fun u hu => fromInt_ok z u hu h0 h1
theorem ok_int (z : Int) (h0 : -9223372036854775808 ≤ z) (h1 : z ≤ 9223372036854775807) : okz z = true := by
  have h : B 19 z := by
    unfold B
    have e : (10 : Nat) ^ 19 = 10000000000000000000 := by decide
    rw [e]; omega
  exact h.ok (by decide)
end Go.Proofs.YtabkodpjhpjgnaaGreatDoor
