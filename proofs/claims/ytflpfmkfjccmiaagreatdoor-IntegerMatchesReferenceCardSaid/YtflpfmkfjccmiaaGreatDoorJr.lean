/- Contracts of FromInt, Compare, Root and Div. -/
import Derived.Test.YtflpfmkfjccmiaaGreatDoorJq
namespace Go.Proofs.YtflpfmkfjccmiaaGreatDoor
open Go.RowKit Go.Shelf

theorem fromInt_ok (z : Int) (w : World) (ht : TabP w) (h0 : -9223372036854775808 ≤ z) (h1 : z ≤ 9223372036854775807) :
    Calls Tryz.prog 25 #[.int .i64 z] w fun e w' => e = .returned (strOf (Lib.itoa z)) ∧ Below w.heap.size w w' := by
  have HI := Lib.hid (itoa_any z h0 h1 w ht)
  clear ht h0 h1
  go_enter Tryz.func25, Tryz.ntmps25
  go_wp2_with (go_at_call 54; refine HI.out.mono ?_; rintro e w1 ⟨rfl, hb⟩)
  go_ret
  exact ⟨rfl, hb⟩

/-- A boxed pair of numbers behind a call. -/
theorem pair_boxes {w w1 : World} {f g : Bool} {A B : Option Addr} {n c m d : Nat} (hb : Below w.heap.size w w1) :
    ∃ U, U = (w1.alloc (.cells #[.bool f, .slice A n c] 47)).alloc (.cells #[.bool g, .slice B m d] 47) ∧ Below w1.heap.size w1 U ∧ Row U w1.heap.size 47 #[.bool f, .slice A n c] ∧ Row U (w1.heap.size + 1) 47 #[.bool g, .slice B m d] ∧ Below w.heap.size w U := by
  have hb1 := ((Below.refl _ w1).alloc (Nat.le_refl _) (.cells #[.bool f, .slice A n c] 47)).alloc (by simp) (.cells #[.bool g, .slice B m d] 47)
  refine ⟨_, rfl, hb1, (Row.new w1 _ _).alloc _, ?_, hb.trans (hb1.mono hb.size)⟩
  have := Row.new (w1.alloc (.cells #[.bool f, .slice A n c] 47)) 47 #[.bool g, .slice B m d]
  rw [World.size_alloc] at this; exact this

set_option maxRecDepth 100000 in
set_option maxHeartbeats 1000000 in
theorem cmpI_ok (a b : Int) (w : World) (ha : okz a = true) (hb : okz b = true) :
    Calls Tryz.prog 23 #[strOf (Lib.itoa a), strOf (Lib.itoa b)] w fun e w' => e = .returned (.int .i64 (sg a b)) ∧ Below w.heap.size w w' := by
  have la := ok50 ha
  have lb := ok50 hb
  have HB := Lib.hid (both_ok a b w ha hb)
  have HOP := Lib.hid (fun x y u (hx : Num u x a) (hy : Num u y b) => numCompare_any x y a b u hx hy (by omega) (by omega))
  unfold strOf at *
  generalize bs (Lib.itoa a) = L at *
  generalize bs (Lib.itoa b) = R at *
  generalize sg a b = z at *
  clear ha hb la lb
  go_enter Tryz.func23, Tryz.ntmps23
  go_wp2_with (first | (go_at_call 36; refine HB.out.mono ?_; rintro e w1 ⟨f, A, n, c, g, B, m, d, rfl, hx, hy, hb⟩; have HU := Lib.hid (pair_boxes (f := f) (g := g) (A := A) (B := B) (n := n) (c := c) (m := m) (d := d) hb); have HX := Lib.hid hx; have HY := Lib.hid hy; clear hx hy hb) | (go_at_call 53; obtain ⟨U, hU, hbU, r0, r1, hbw⟩ := HU.out; rw [← hU]; refine (HOP.out _ _ _ (HX.out.next hbU) (HY.out.next hbU)).mono ?_; rintro e w2 ⟨rfl, hb2⟩; have HB2 := Lib.hid (hbw.trans (hb2.mono hbw.size)); clear hb2))
  go_ret
  exact ⟨rfl, HB2.out⟩
set_option maxRecDepth 100000 in
set_option maxHeartbeats 1000000 in
theorem cmpI_bad (l r : List UInt8) (w : World) (h : (Im.vld l && Im.vld r) = false) :
    Calls Tryz.prog 23 #[strOf l, strOf r] w fun e w' => e = .returned (.int .i64 0) ∧ Below w.heap.size w w' := by
  have HB := Lib.hid (both_bad l r w h)
  unfold strOf at *
  generalize bs l = L at *
  generalize bs r = R at *
  clear h
  go_enter Tryz.func23, Tryz.ntmps23
  go_wp2_with (go_at_call 36; refine HB.out.mono ?_; rintro e w1 ⟨f, A, n, c, g, B, m, d, rfl, hb⟩)
  go_ret
  exact ⟨rfl, (hb.alloc hb.size _).alloc (by have := hb.size; simp; omega) _⟩

theorem parse_ok (a : Int) (w : World) (ha : okz a = true) : Calls Tryz.prog 44 #[strOf (Lib.itoa a)] w fun e w' => ∃ A n c, e = .returned (.tuple #[.agg #[.bool (decide (a < 0)), .slice A n c], .bool true]) ∧ Num w' (.agg #[.bool (decide (a < 0)), .slice A n c]) a ∧ Below w.heap.size w w' := by
  refine (parse_any (Lib.itoa a) w).mono ?_
  rintro e w' ⟨f, A, n, c, rfl, h1, hb⟩
  have hn := h1 a rfl (vld_ok ha)
  obtain ⟨f', A', n', c', e, hf, _⟩ := hn.parts
  have ef : f = f' := by injection e with e; simp at e; exact e.1
  subst ef; subst hf
  exact ⟨A, n, c, by rw [vld_ok ha], hn, hb⟩
theorem parse_bad (l : List UInt8) (w : World) (h : Im.vld l = false) : Calls Tryz.prog 44 #[strOf l] w fun e w' => ∃ f A n c, e = .returned (.tuple #[.agg #[.bool f, .slice A n c], .bool false]) ∧ Below w.heap.size w w' := by
  refine (parse_any l w).mono ?_
  rintro e w' ⟨f, A, n, c, rfl, h1, hb⟩
  exact ⟨f, A, n, c, by rw [h], hb⟩

set_option maxRecDepth 100000 in
set_option maxHeartbeats 1000000 in
theorem root_bad (l : List UInt8) (w : World) (h : Im.vld l = false) :
    Calls Tryz.prog 17 #[strOf l] w (BadP w) := by
  have HB := Lib.hid (parse_bad l w h)
  unfold BadP
  unfold strOf at *
  generalize bs l = L at *
  clear h
  go_enter Tryz.func17, Tryz.ntmps17
  go_wp2_with (go_at_call 44; refine HB.out.mono ?_; rintro e w1 ⟨f, A, n, c, rfl, hb⟩)
  go_ret2
  exact ⟨rfl, hb.alloc hb.size _⟩
set_option maxRecDepth 100000 in
set_option maxHeartbeats 1000000 in
theorem root_neg (a : Int) (w : World) (ha : okz a = true) (hn : a < 0) :
    Calls Tryz.prog 17 #[strOf (Lib.itoa a)] w (BadP w) := by
  have hp := parse_ok a w ha
  rw [decide_eq_true hn] at hp
  have HB := Lib.hid hp
  unfold BadP
  unfold strOf at *
  generalize bs (Lib.itoa a) = L at *
  clear ha hn hp
  go_enter Tryz.func17, Tryz.ntmps17
  go_wp2_with (go_at_call 44; refine HB.out.mono ?_; rintro e w1 ⟨A, n, c, rfl, hn, hb⟩; clear hn)
  go_ret2
  exact ⟨rfl, hb.alloc hb.size _⟩
theorem isqrt_le (m : Nat) : Im.isqrt m ≤ m := by
  have h := Im.isqrt_lo m
  rcases Nat.eq_zero_or_pos (Im.isqrt m) with e | e
  · omega
  · exact Nat.le_trans (Nat.le_mul_of_pos_left _ e) h
set_option maxRecDepth 100000 in
set_option maxHeartbeats 1000000 in
theorem root_ok (a : Int) (w : World) (ht : TabP w) (ha : okz a = true) (hn : ¬ a < 0) :
    Calls Tryz.prog 17 #[strOf (Lib.itoa a)] w (TextP ((Im.isqrt a.natAbs : Nat) : Int) w) := by
  have hp := parse_ok a w ha
  rw [decide_eq_false hn] at hp
  have la := ok50 ha
  have hop := fun v u (hv : Mag u v a.natAbs) => root_any v a.natAbs u hv (by omega)
  have hsg := fun v u (hv : Mag u v (Im.isqrt a.natAbs)) => signed_any false v _ u hv
  rw [if_neg (by decide)] at hsg
  have htx := fun x u (hx : Num u x ((Im.isqrt a.natAbs : Nat) : Int)) (hu : TabP u) => text_any x _ u hx hu (by
    have h2 := Im.len_mono (isqrt_le a.natAbs)
    show (Im.grp (Im.isqrt a.natAbs)).length ≤ 400
    omega)
  have hmg := fun (A : Option Addr) n c (u : World) (hx : Num u (.agg #[.bool false, .slice A n c]) a) => (show Mag u (.slice A n c) a.natAbs from by
    obtain ⟨f', A', n', c', e, hf, hm⟩ := hx.parts
    obtain ⟨_, rfl, rfl, rfl⟩ : false = f' ∧ A = A' ∧ n = n' ∧ c = c' := by simpa using e
    exact hm)
  unfold TextP
  have HB := Lib.hid hp; have HMG := Lib.hid hmg; have HOP := Lib.hid hop; have HSG := Lib.hid hsg; have HTX := Lib.hid htx; have HT := Lib.hid ht
  unfold strOf at *
  generalize bs (Lib.itoa a) = L at *
  generalize bs (outT ((Im.isqrt a.natAbs : Nat) : Int)) = S at *
  generalize errT ((Im.isqrt a.natAbs : Nat) : Int) = er at *
  clear ha hn hp la hop hsg htx hmg ht
  go_enter Tryz.func17, Tryz.ntmps17
  go_wp2_with (first | (go_at_call 44; refine HB.out.mono ?_; rintro e w1 ⟨A, n, c, rfl, hn, hb⟩; have hbn := (Below.refl _ w1).alloc (Nat.le_refl _) (.cells #[.bool false, .slice A n c] 47); have HM := Lib.hid (HMG.out _ _ _ _ (hn.next hbn)); have HB1 := Lib.hid (hb.trans (hbn.mono hb.size)); clear hn hb hbn) | (go_at_call 46; refine (HOP.out _ _ HM.out).mono ?_; unfold MagPost; rintro e w2 ⟨v, rfl, hm, hb2⟩; have HM2 := Lib.hid hm; have HB2 := Lib.hid (HB1.out.trans (hb2.mono HB1.out.size)); clear hm hb2) | (go_at_call 45; refine (HSG.out _ _ HM2.out).mono ?_; unfold NumPost; rintro e w3 ⟨y, rfl, hm, hb2⟩; have HM3 := Lib.hid hm; have HB3 := Lib.hid (HB2.out.trans (hb2.mono HB2.out.size)); clear hm hb2) | (go_at_call 39; refine (HTX.out _ _ HM3.out (HT.out.next HB3.out)).mono ?_; rintro e w4 ⟨rfl, hb4⟩; have HB4 := Lib.hid (HB3.out.trans (hb4.mono HB3.out.size)); clear hb4))
  go_ret2
  exact ⟨rfl, HB4.out⟩
end Go.Proofs.YtflpfmkfjccmiaaGreatDoor
