/- Contracts of combine at the four operations, and of Add, Sub, Mul, Gcd. -/
import Derived.Test.YtflpfmkfjccmiaaGreatDoorJp
import Derived.Test.YtflpfmkfjccmiaaGreatDoorJg
namespace Go.Proofs.YtflpfmkfjccmiaaGreatDoor
open Go.RowKit Go.Shelf

theorem grp50 {n : Nat} (h : n < 10 ^ 200) : (Im.grp n).length ≤ 50 := Im.grp_len n 50 (by rw [pow4, show 4 * 50 = 200 from rfl]; exact h)
theorem ok50 {z : Int} (h : okz z = true) : (Im.grp z.natAbs).length ≤ 50 := grp50 (of_decide_eq_true h)
theorem vld_ok {z : Int} (h : okz z = true) : Im.vld (Lib.itoa z) = true := by rw [Im.vld_itoa]; exact h
theorem both_ok (a b : Int) (w : World) (ha : okz a = true) (hb : okz b = true) : Calls Tryz.prog 36 #[strOf (Lib.itoa a), strOf (Lib.itoa b)] w fun e w' =>
    ∃ f A n c g B m d, e = .returned (.tuple #[.agg #[.bool f, .slice A n c], .agg #[.bool g, .slice B m d], .bool true]) ∧ Num w' (.agg #[.bool f, .slice A n c]) a ∧ Num w' (.agg #[.bool g, .slice B m d]) b ∧ Below w.heap.size w w' := by
  refine (both_any (Lib.itoa a) (Lib.itoa b) w).mono ?_
  rintro e w' ⟨f, A, n, c, g, B, m, d, rfl, h1, h2, hb'⟩
  exact ⟨f, A, n, c, g, B, m, d, by rw [vld_ok ha, vld_ok hb]; rfl, h1 a rfl (vld_ok ha), h2 b rfl (vld_ok hb), hb'⟩
theorem both_bad (l r : List UInt8) (w : World) (h : (Im.vld l && Im.vld r) = false) : Calls Tryz.prog 36 #[strOf l, strOf r] w fun e w' =>
    ∃ f A n c g B m d, e = .returned (.tuple #[.agg #[.bool f, .slice A n c], .agg #[.bool g, .slice B m d], .bool false]) ∧ Below w.heap.size w w' := by
  refine (both_any l r w).mono ?_
  rintro e w' ⟨f, A, n, c, g, B, m, d, rfl, h1, h2, hb'⟩
  exact ⟨f, A, n, c, g, B, m, d, by rw [h], hb'⟩
def TextP (z : Int) (w : World) (e : Ending) (w' : World) : Prop := e = .returned (.tuple #[strOf (outT z), .int .i64 (errT z)]) ∧ Below w.heap.size w w'
def BadP (w : World) (e : Ending) (w' : World) : Prop := e = .returned (.tuple #[strOf [], .int .i64 30]) ∧ Below w.heap.size w w'

set_option maxRecDepth 100000 in
set_option maxHeartbeats 1000000 in
theorem comb_bad (l r : List UInt8) (f : Value) (w : World) (h : (Im.vld l && Im.vld r) = false) :
    Calls Tryz.prog 28 #[strOf l, strOf r, f] w (BadP w) := by
  have HB := Lib.hid (both_bad l r w h)
  unfold strOf at *
  generalize bs l = L at *
  generalize bs r = R at *
  clear h
  go_enter Tryz.func28, Tryz.ntmps28
  go_wp2_with (go_at_call 36; refine HB.out.mono ?_; rintro e w1 ⟨f, A, n, c, g, B, m, d, rfl, hb⟩)
  go_ret2
  exact ⟨rfl, (hb.alloc hb.size _).alloc (by have := hb.size; simp; omega) _⟩

set_option maxRecDepth 100000 in
set_option maxHeartbeats 1000000 in
theorem comb_plus (a b : Int) (w : World) (ht : TabP w) (ha : okz a = true) (hb : okz b = true) :
    Calls Tryz.prog 28 #[strOf (Lib.itoa a), strOf (Lib.itoa b), .func (.func 29) #[] #[]] w (TextP (a + b) w) := by
  have la := ok50 ha
  have lb := ok50 hb
  have HB := Lib.hid (both_ok a b w ha hb)
  have hop := fun x y u (hx : Num u x a) (hy : Num u y b) => numPlus_any x y a b u hx hy (by omega) (by omega)
  have hlen : (Im.grp (a + b).natAbs).length ≤ 400 := by
    have h1 := Im.plus_len a.natAbs b.natAbs 50 la lb
    have h2 : (a + b).natAbs ≤ a.natAbs + b.natAbs := by omega
    have h3 := Im.len_mono h2
    omega
  have htx := fun x u (hx : Num u x (a + b)) (hu : TabP u) => text_any x (a + b) u hx hu hlen
  generalize a + b = z at *
  unfold TextP
  unfold strOf at *
  generalize bs (Lib.itoa a) = L at *
  generalize bs (Lib.itoa b) = R at *
  have HOP := Lib.hid hop; have HTX := Lib.hid htx; have HT := Lib.hid ht
  generalize bs (outT z) = S at *
  generalize errT z = er at *
  clear hop hlen htx ht ha hb la lb
  go_enter Tryz.func28, Tryz.ntmps28
  go_wp2_with (first | (go_at_call 36; refine HB.out.mono ?_; rintro e w1 ⟨f, A, n, c, g, B, m, d, rfl, hx, hy, hb⟩; have hbb := (hb.alloc hb.size (.cells #[.bool f, .slice A n c] 47)).alloc (by have := hb.size; simp; omega) (.cells #[.bool g, .slice B m d] 47); have hb1 := ((Below.refl _ w1).alloc (Nat.le_refl _) (.cells #[.bool f, .slice A n c] 47)).alloc (by simp) (.cells #[.bool g, .slice B m d] 47); have HX := Lib.hid (hx.next hb1); have HY := Lib.hid (hy.next hb1); have HBB := Lib.hid hbb; clear hx hy hb hbb hb1) | (go_at_call 29; refine (HOP.out _ _ _ HX.out HY.out).mono ?_; unfold NumPost; rintro e w2 ⟨y, rfl, hn, hb2⟩; have HN := Lib.hid hn; have HB2 := Lib.hid (HBB.out.trans (hb2.mono HBB.out.size)); clear hn hb2) | (go_at_call 39; refine (HTX.out _ _ HN.out (HT.out.next HB2.out)).mono ?_; rintro e w3 ⟨rfl, hb3⟩; have HB3 := Lib.hid (HB2.out.trans (hb3.mono HB2.out.size)); clear hb3))
  go_ret2
  exact ⟨rfl, HB3.out⟩
set_option maxRecDepth 100000 in
set_option maxHeartbeats 1000000 in
theorem Add_ok (a b : Int) (w : World) (ht : TabP w) (ha : okz a = true) (hb : okz b = true) :
    Calls Tryz.prog 7 #[strOf (Lib.itoa a), strOf (Lib.itoa b)] w (TextP (a + b) w) := by
  have HC := Lib.hid (comb_plus a b w ht ha hb)
  unfold TextP at *
  unfold strOf at *
  generalize bs (Lib.itoa a) = L at *
  generalize bs (Lib.itoa b) = R at *
  clear ht ha hb
  go_enter Tryz.func7, Tryz.ntmps7
  go_wp2_with (go_at_call 28; refine HC.out.mono ?_; rintro e w1 ⟨rfl, hb⟩)
  go_ret2
  exact ⟨rfl, hb⟩
set_option maxRecDepth 100000 in
set_option maxHeartbeats 1000000 in
theorem Add_bad (l r : List UInt8) (w : World) (h : (Im.vld l && Im.vld r) = false) :
    Calls Tryz.prog 7 #[strOf l, strOf r] w (BadP w) := by
  have HC := Lib.hid (comb_bad l r (.func (.func 29) #[] #[]) w h)
  unfold BadP at *
  unfold strOf at *
  generalize bs l = L at *
  generalize bs r = R at *
  clear h
  go_enter Tryz.func7, Tryz.ntmps7
  go_wp2_with (go_at_call 28; refine HC.out.mono ?_; rintro e w1 ⟨rfl, hb⟩)
  go_ret2
  exact ⟨rfl, hb⟩

set_option maxRecDepth 100000 in
set_option maxHeartbeats 1000000 in
theorem comb_minus (a b : Int) (w : World) (ht : TabP w) (ha : okz a = true) (hb : okz b = true) :
    Calls Tryz.prog 28 #[strOf (Lib.itoa a), strOf (Lib.itoa b), .func (.func 32) #[] #[]] w (TextP (a - b) w) := by
  have la := ok50 ha
  have lb := ok50 hb
  have HB := Lib.hid (both_ok a b w ha hb)
  have hop := fun x y u (hx : Num u x a) (hy : Num u y b) => numMinus_any x y a b u hx hy (by omega) (by omega)
  have hlen : (Im.grp (a - b).natAbs).length ≤ 400 := by
    have h1 := Im.plus_len a.natAbs b.natAbs 50 la lb
    have h2 : (a - b).natAbs ≤ a.natAbs + b.natAbs := by omega
    have h3 := Im.len_mono h2
    omega
  have htx := fun x u (hx : Num u x (a - b)) (hu : TabP u) => text_any x (a - b) u hx hu hlen
  generalize a - b = z at *
  unfold TextP
  unfold strOf at *
  generalize bs (Lib.itoa a) = L at *
  generalize bs (Lib.itoa b) = R at *
  have HOP := Lib.hid hop; have HTX := Lib.hid htx; have HT := Lib.hid ht
  generalize bs (outT z) = S at *
  generalize errT z = er at *
  clear hop hlen htx ht ha hb la lb
  go_enter Tryz.func28, Tryz.ntmps28
  go_wp2_with (first | (go_at_call 36; refine HB.out.mono ?_; rintro e w1 ⟨f, A, n, c, g, B, m, d, rfl, hx, hy, hb⟩; have hbb := (hb.alloc hb.size (.cells #[.bool f, .slice A n c] 47)).alloc (by have := hb.size; simp; omega) (.cells #[.bool g, .slice B m d] 47); have hb1 := ((Below.refl _ w1).alloc (Nat.le_refl _) (.cells #[.bool f, .slice A n c] 47)).alloc (by simp) (.cells #[.bool g, .slice B m d] 47); have HX := Lib.hid (hx.next hb1); have HY := Lib.hid (hy.next hb1); have HBB := Lib.hid hbb; clear hx hy hb hbb hb1) | (go_at_call 32; refine (HOP.out _ _ _ HX.out HY.out).mono ?_; unfold NumPost; rintro e w2 ⟨y, rfl, hn, hb2⟩; have HN := Lib.hid hn; have HB2 := Lib.hid (HBB.out.trans (hb2.mono HBB.out.size)); clear hn hb2) | (go_at_call 39; refine (HTX.out _ _ HN.out (HT.out.next HB2.out)).mono ?_; rintro e w3 ⟨rfl, hb3⟩; have HB3 := Lib.hid (HB2.out.trans (hb3.mono HB2.out.size)); clear hb3))
  go_ret2
  exact ⟨rfl, HB3.out⟩
set_option maxRecDepth 100000 in
set_option maxHeartbeats 1000000 in
theorem Sub_ok (a b : Int) (w : World) (ht : TabP w) (ha : okz a = true) (hb : okz b = true) :
    Calls Tryz.prog 9 #[strOf (Lib.itoa a), strOf (Lib.itoa b)] w (TextP (a - b) w) := by
  have HC := Lib.hid (comb_minus a b w ht ha hb)
  unfold TextP at *
  unfold strOf at *
  generalize bs (Lib.itoa a) = L at *
  generalize bs (Lib.itoa b) = R at *
  clear ht ha hb
  go_enter Tryz.func9, Tryz.ntmps9
  go_wp2_with (go_at_call 28; refine HC.out.mono ?_; rintro e w1 ⟨rfl, hb⟩)
  go_ret2
  exact ⟨rfl, hb⟩
set_option maxRecDepth 100000 in
set_option maxHeartbeats 1000000 in
theorem Sub_bad (l r : List UInt8) (w : World) (h : (Im.vld l && Im.vld r) = false) :
    Calls Tryz.prog 9 #[strOf l, strOf r] w (BadP w) := by
  have HC := Lib.hid (comb_bad l r (.func (.func 32) #[] #[]) w h)
  unfold BadP at *
  unfold strOf at *
  generalize bs l = L at *
  generalize bs r = R at *
  clear h
  go_enter Tryz.func9, Tryz.ntmps9
  go_wp2_with (go_at_call 28; refine HC.out.mono ?_; rintro e w1 ⟨rfl, hb⟩)
  go_ret2
  exact ⟨rfl, hb⟩

set_option maxRecDepth 100000 in
set_option maxHeartbeats 1000000 in
theorem comb_times (a b : Int) (w : World) (ht : TabP w) (ha : okz a = true) (hb : okz b = true) :
    Calls Tryz.prog 28 #[strOf (Lib.itoa a), strOf (Lib.itoa b), .func (.func 33) #[] #[]] w (TextP (a * b) w) := by
  have la := ok50 ha
  have lb := ok50 hb
  have HB := Lib.hid (both_ok a b w ha hb)
  have hop := fun x y u (hx : Num u x a) (hy : Num u y b) => numTimes_any x y a b u hx hy (by omega) (by omega)
  have hlen : (Im.grp (a * b).natAbs).length ≤ 400 := by
    rw [Int.natAbs_mul]
    have h1 := Im.times_len a.natAbs b.natAbs
    omega
  have htx := fun x u (hx : Num u x (a * b)) (hu : TabP u) => text_any x (a * b) u hx hu hlen
  generalize a * b = z at *
  unfold TextP
  unfold strOf at *
  generalize bs (Lib.itoa a) = L at *
  generalize bs (Lib.itoa b) = R at *
  have HOP := Lib.hid hop; have HTX := Lib.hid htx; have HT := Lib.hid ht
  generalize bs (outT z) = S at *
  generalize errT z = er at *
  clear hop hlen htx ht ha hb la lb
  go_enter Tryz.func28, Tryz.ntmps28
  go_wp2_with (first | (go_at_call 36; refine HB.out.mono ?_; rintro e w1 ⟨f, A, n, c, g, B, m, d, rfl, hx, hy, hb⟩; have hbb := (hb.alloc hb.size (.cells #[.bool f, .slice A n c] 47)).alloc (by have := hb.size; simp; omega) (.cells #[.bool g, .slice B m d] 47); have hb1 := ((Below.refl _ w1).alloc (Nat.le_refl _) (.cells #[.bool f, .slice A n c] 47)).alloc (by simp) (.cells #[.bool g, .slice B m d] 47); have HX := Lib.hid (hx.next hb1); have HY := Lib.hid (hy.next hb1); have HBB := Lib.hid hbb; clear hx hy hb hbb hb1) | (go_at_call 33; refine (HOP.out _ _ _ HX.out HY.out).mono ?_; unfold NumPost; rintro e w2 ⟨y, rfl, hn, hb2⟩; have HN := Lib.hid hn; have HB2 := Lib.hid (HBB.out.trans (hb2.mono HBB.out.size)); clear hn hb2) | (go_at_call 39; refine (HTX.out _ _ HN.out (HT.out.next HB2.out)).mono ?_; rintro e w3 ⟨rfl, hb3⟩; have HB3 := Lib.hid (HB2.out.trans (hb3.mono HB2.out.size)); clear hb3))
  go_ret2
  exact ⟨rfl, HB3.out⟩
set_option maxRecDepth 100000 in
set_option maxHeartbeats 1000000 in
theorem Mul_ok (a b : Int) (w : World) (ht : TabP w) (ha : okz a = true) (hb : okz b = true) :
    Calls Tryz.prog 11 #[strOf (Lib.itoa a), strOf (Lib.itoa b)] w (TextP (a * b) w) := by
  have HC := Lib.hid (comb_times a b w ht ha hb)
  unfold TextP at *
  unfold strOf at *
  generalize bs (Lib.itoa a) = L at *
  generalize bs (Lib.itoa b) = R at *
  clear ht ha hb
  go_enter Tryz.func11, Tryz.ntmps11
  go_wp2_with (go_at_call 28; refine HC.out.mono ?_; rintro e w1 ⟨rfl, hb⟩)
  go_ret2
  exact ⟨rfl, hb⟩
set_option maxRecDepth 100000 in
set_option maxHeartbeats 1000000 in
theorem Mul_bad (l r : List UInt8) (w : World) (h : (Im.vld l && Im.vld r) = false) :
    Calls Tryz.prog 11 #[strOf l, strOf r] w (BadP w) := by
  have HC := Lib.hid (comb_bad l r (.func (.func 33) #[] #[]) w h)
  unfold BadP at *
  unfold strOf at *
  generalize bs l = L at *
  generalize bs r = R at *
  clear h
  go_enter Tryz.func11, Tryz.ntmps11
  go_wp2_with (go_at_call 28; refine HC.out.mono ?_; rintro e w1 ⟨rfl, hb⟩)
  go_ret2
  exact ⟨rfl, hb⟩

set_option maxRecDepth 100000 in
set_option maxHeartbeats 1000000 in
theorem comb_gcd (a b : Int) (w : World) (ht : TabP w) (ha : okz a = true) (hb : okz b = true) :
    Calls Tryz.prog 28 #[strOf (Lib.itoa a), strOf (Lib.itoa b), .func (.func 43) #[] #[]] w (TextP ((Nat.gcd a.natAbs b.natAbs : Nat) : Int) w) := by
  have la := ok50 ha
  have lb := ok50 hb
  have HB := Lib.hid (both_ok a b w ha hb)
  have hop := fun x y u (hx : Num u x a) (hy : Num u y b) => numGcd_any x y a b u hx hy (by omega) (by omega)
  have hlen : (Im.grp ((Nat.gcd a.natAbs b.natAbs : Nat) : Int).natAbs).length ≤ 400 := by
    by_cases h0 : a.natAbs = 0
    · rw [h0, Nat.gcd_zero_left]; show (Im.grp b.natAbs).length ≤ 400; omega
    · have h2 := Im.len_mono (Nat.gcd_le_left b.natAbs (Nat.pos_of_ne_zero h0))
      show (Im.grp (Nat.gcd a.natAbs b.natAbs)).length ≤ 400
      omega
  have htx := fun x u (hx : Num u x ((Nat.gcd a.natAbs b.natAbs : Nat) : Int)) (hu : TabP u) => text_any x ((Nat.gcd a.natAbs b.natAbs : Nat) : Int) u hx hu hlen
  generalize ((Nat.gcd a.natAbs b.natAbs : Nat) : Int) = z at *
  unfold TextP
  unfold strOf at *
  generalize bs (Lib.itoa a) = L at *
  generalize bs (Lib.itoa b) = R at *
  have HOP := Lib.hid hop; have HTX := Lib.hid htx; have HT := Lib.hid ht
  generalize bs (outT z) = S at *
  generalize errT z = er at *
  clear hop hlen htx ht ha hb la lb
  go_enter Tryz.func28, Tryz.ntmps28
  go_wp2_with (first | (go_at_call 36; refine HB.out.mono ?_; rintro e w1 ⟨f, A, n, c, g, B, m, d, rfl, hx, hy, hb⟩; have hbb := (hb.alloc hb.size (.cells #[.bool f, .slice A n c] 47)).alloc (by have := hb.size; simp; omega) (.cells #[.bool g, .slice B m d] 47); have hb1 := ((Below.refl _ w1).alloc (Nat.le_refl _) (.cells #[.bool f, .slice A n c] 47)).alloc (by simp) (.cells #[.bool g, .slice B m d] 47); have HX := Lib.hid (hx.next hb1); have HY := Lib.hid (hy.next hb1); have HBB := Lib.hid hbb; clear hx hy hb hbb hb1) | (go_at_call 43; refine (HOP.out _ _ _ HX.out HY.out).mono ?_; unfold NumPost; rintro e w2 ⟨y, rfl, hn, hb2⟩; have HN := Lib.hid hn; have HB2 := Lib.hid (HBB.out.trans (hb2.mono HBB.out.size)); clear hn hb2) | (go_at_call 39; refine (HTX.out _ _ HN.out (HT.out.next HB2.out)).mono ?_; rintro e w3 ⟨rfl, hb3⟩; have HB3 := Lib.hid (HB2.out.trans (hb3.mono HB2.out.size)); clear hb3))
  go_ret2
  exact ⟨rfl, HB3.out⟩
set_option maxRecDepth 100000 in
set_option maxHeartbeats 1000000 in
theorem Gcd_ok (a b : Int) (w : World) (ht : TabP w) (ha : okz a = true) (hb : okz b = true) :
    Calls Tryz.prog 15 #[strOf (Lib.itoa a), strOf (Lib.itoa b)] w (TextP ((Nat.gcd a.natAbs b.natAbs : Nat) : Int) w) := by
  have HC := Lib.hid (comb_gcd a b w ht ha hb)
  unfold TextP at *
  unfold strOf at *
  generalize bs (Lib.itoa a) = L at *
  generalize bs (Lib.itoa b) = R at *
  clear ht ha hb
  go_enter Tryz.func15, Tryz.ntmps15
  go_wp2_with (go_at_call 28; refine HC.out.mono ?_; rintro e w1 ⟨rfl, hb⟩)
  go_ret2
  exact ⟨rfl, hb⟩
set_option maxRecDepth 100000 in
set_option maxHeartbeats 1000000 in
theorem Gcd_bad (l r : List UInt8) (w : World) (h : (Im.vld l && Im.vld r) = false) :
    Calls Tryz.prog 15 #[strOf l, strOf r] w (BadP w) := by
  have HC := Lib.hid (comb_bad l r (.func (.func 43) #[] #[]) w h)
  unfold BadP at *
  unfold strOf at *
  generalize bs l = L at *
  generalize bs r = R at *
  clear h
  go_enter Tryz.func15, Tryz.ntmps15
  go_wp2_with (go_at_call 28; refine HC.out.mono ?_; rintro e w1 ⟨rfl, hb⟩)
  go_ret2
  exact ⟨rfl, hb⟩
end Go.Proofs.YtflpfmkfjccmiaaGreatDoor
