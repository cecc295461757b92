/- Contracts of gcd, times and minus of numbers. -/
import Derived.Test.YtflpfmkfjccmiaaGreatDoorJb
namespace Go.Proofs.YtflpfmkfjccmiaaGreatDoor
open Go.RowKit

/-- Two boxed numbers and a box for the result. -/
structure Two (w W : World) (b1 b2 : Bool) (A1 A2 : Option Addr) (n1 c1 n2 c2 : Nat) : Prop where
  r0 : Row W w.heap.size 47 #[.bool b1, .slice A1 n1 c1]
  r1 : Row W (w.heap.size + 1) 47 #[.bool b2, .slice A2 n2 c2]
  r2 : Row W (w.heap.size + 1 + 1) 47 #[.bool false, .slice none 0 0]
  bw : Below w.heap.size w W
theorem two_new (w : World) (b1 b2 : Bool) (A1 A2 : Option Addr) (n1 c1 n2 c2 : Nat) : Two w (((w.alloc (.cells #[.bool b1, .slice A1 n1 c1] 47)).alloc (.cells #[.bool b2, .slice A2 n2 c2] 47)).alloc (.cells #[.bool false, .slice none 0 0] 47)) b1 b2 A1 A2 n1 c1 n2 c2 := by
  refine ⟨((Row.new w _ _).alloc _).alloc _, ?_, ?_, (((Below.refl _ w).alloc (Nat.le_refl _) _).alloc (by simp) _).alloc (by simp; omega) _⟩
  · have := (Row.new (w.alloc (.cells #[.bool b1, .slice A1 n1 c1] 47)) 47 #[.bool b2, .slice A2 n2 c2]).alloc (.cells #[.bool false, .slice none 0 0] 47)
    rw [World.size_alloc] at this; exact this
  · have := Row.new ((w.alloc (.cells #[.bool b1, .slice A1 n1 c1] 47)).alloc (.cells #[.bool b2, .slice A2 n2 c2] 47)) 47 #[.bool false, .slice none 0 0]
    rw [World.size_alloc, World.size_alloc] at this; exact this
theorem Two.below {w W U : World} {b1 b2 : Bool} {A1 A2 : Option Addr} {n1 c1 n2 c2 : Nat} (h : Two w W b1 b2 A1 A2 n1 c1 n2 c2) (hb : Below W.heap.size W U) : Two w U b1 b2 A1 A2 n1 c1 n2 c2 := ⟨h.r0.below hb h.r0.lt, h.r1.below hb h.r1.lt, h.r2.below hb h.r2.lt, h.bw.trans (hb.mono h.bw.size)⟩
/-- The four cells of the boxed numbers. -/
def Four (w u : World) (b1 b2 : Bool) (A1 A2 : Option Addr) (n1 c1 n2 c2 : Nat) : Prop := u.cell? ⟨w.heap.size, 0, none⟩ = some (.bool b1) ∧ u.cell? ⟨w.heap.size, 1, none⟩ = some (.slice A1 n1 c1) ∧ u.cell? ⟨w.heap.size + 1, 0, none⟩ = some (.bool b2) ∧ u.cell? ⟨w.heap.size + 1, 1, none⟩ = some (.slice A2 n2 c2)
theorem Two.four {w W : World} {b1 b2 : Bool} {A1 A2 : Option Addr} {n1 c1 n2 c2 : Nat} (h : Two w W b1 b2 A1 A2 n1 c1 n2 c2) : Four w W b1 b2 A1 A2 n1 c1 n2 c2 := ⟨(box_facts h.r0).1, (box_facts h.r0).2.1, (box_facts h.r1).1, (box_facts h.r1).2.1⟩
theorem Two.fin {w W : World} {b1 b2 b : Bool} {A1 A2 A : Option Addr} {n1 c1 n2 c2 n c : Nat} {z : Int} (h : Two w W b1 b2 A1 A2 n1 c1 n2 c2) (hb : b = decide (z < 0)) (hm : Mag W (.slice A n c) z.natAbs) : Num ((W.setCell ⟨w.heap.size + 1 + 1, 0, none⟩ (.bool b)).setCell ⟨w.heap.size + 1 + 1, 1, none⟩ (.slice A n c)) (.agg #[.bool b, .slice A n c]) z ∧ Below w.heap.size w ((W.setCell ⟨w.heap.size + 1 + 1, 0, none⟩ (.bool b)).setCell ⟨w.heap.size + 1 + 1, 1, none⟩ (.slice A n c)) :=
  ⟨num_of hb rfl (mag_box hm h.r2), (h.bw.setCell (by dsimp only; omega) _).setCell (by dsimp only; omega) _⟩
theorem Two.four_fin {w W : World} {b1 b2 : Bool} {A1 A2 : Option Addr} {n1 c1 n2 c2 : Nat} {x y : Value} (h : Two w W b1 b2 A1 A2 n1 c1 n2 c2) : Four w ((W.setCell ⟨w.heap.size + 1 + 1, 0, none⟩ x).setCell ⟨w.heap.size + 1 + 1, 1, none⟩ y) b1 b2 A1 A2 n1 c1 n2 c2 := by
  have k0 := (h.r0.far (p := ⟨w.heap.size + 1 + 1, 0, none⟩) (by dsimp only; omega) x).far (p := ⟨w.heap.size + 1 + 1, 1, none⟩) (by dsimp only; omega) y
  have k1 := (h.r1.far (p := ⟨w.heap.size + 1 + 1, 0, none⟩) (by dsimp only; omega) x).far (p := ⟨w.heap.size + 1 + 1, 1, none⟩) (by dsimp only; omega) y
  exact ⟨(box_facts k0).1, (box_facts k0).2.1, (box_facts k1).1, (box_facts k1).2.1⟩

set_option maxRecDepth 100000 in
set_option maxHeartbeats 1000000 in
theorem numGcd_any (x y : Value) (a b : Int) (w : World) (hx : Num w x a) (hy : Num w y b) (la : (Im.grp a.natAbs).length ≤ 250) (lb : (Im.grp b.natAbs).length ≤ 250) :
    Calls Tryz.prog 43 #[x, y] w (NumPost ((Nat.gcd a.natAbs b.natAbs : Nat) : Int) w) := by
  obtain ⟨b1, A1, n1, c1, rfl, hb1, hv1⟩ := hx.parts
  obtain ⟨b2, A2, n2, c2, rfl, hb2, hv2⟩ := hy.parts
  have h2 := two_new w b1 b2 A1 A2 n1 c1 n2 c2
  obtain ⟨W, hW⟩ : ∃ W, (((w.alloc (.cells #[.bool b1, .slice A1 n1 c1] 47)).alloc (.cells #[.bool b2, .slice A2 n2 c2] 47)).alloc (.cells #[.bool false, .slice none 0 0] 47)) = W := ⟨_, rfl⟩
  rw [hW] at h2
  have HG := Lib.hid (gcd_any _ _ _ _ W (hv1.next h2.bw) (hv2.next h2.bw) la lb)
  have H2 := Lib.hid h2; have HW := Lib.hid hW
  clear h2 hW hx hy hb1 hb2 hv1 hv2 la lb
  go_enter Tryz.func43, Tryz.ntmps43
  go_wp2_with (first | (go_at_call 63; rw [HW.out]; refine HG.out.mono ?_; unfold MagPost; rintro e w1 ⟨v1, rfl, hm, hb⟩; have H2' := Lib.hid (H2.out.below hb); have HS := Lib.hid (signed_any false v1 _ w1 hm); clear hm hb) | (go_at_call 45; refine HS.out.mono ?_; unfold NumPost; rintro e w2 ⟨z, rfl, hn, hb2⟩; obtain ⟨b3, A3, n3, c3, rfl, hbe, hm⟩ := hn.parts; have H3 := Lib.hid (H2'.out.below hb2); obtain ⟨k0, k1, f0, f1⟩ := box_facts H3.out.r2; have HM := Lib.hid hm; have HBE := Lib.hid hbe; clear hn hm hb2 hbe))
  refine bodyPost_ret (results_num rfl _ _ (w.heap.size + 1 + 1) _ _ rfl (box_row H3.out.r2)) rfl ?_
  exact ⟨_, rfl, H3.out.fin HBE.out HM.out⟩

theorem mul_if (a b : Int) (b1 b2 : Bool) (h1 : b1 = decide (a < 0)) (h2 : b2 = decide (b < 0)) : (if (!(b1 == b2)) = true then -((a.natAbs * b.natAbs : Nat) : Int) else ((a.natAbs * b.natAbs : Nat) : Int)) = a * b := by
  have e : ((a.natAbs * b.natAbs : Nat) : Int) = (a.natAbs : Int) * (b.natAbs : Int) := Int.natCast_mul _ _
  rw [e]
  rcases Int.lt_or_le a 0 with ha | ha <;> rcases Int.lt_or_le b 0 with hb | hb
  · rw [decide_eq_true ha] at h1; rw [decide_eq_true hb] at h2; subst h1; subst h2
    rw [show (a.natAbs : Int) = -a by omega, show (b.natAbs : Int) = -b by omega]; simp [Int.neg_mul_neg]
  · rw [decide_eq_true ha] at h1; rw [decide_eq_false (by omega)] at h2; subst h1; subst h2
    rw [show (a.natAbs : Int) = -a by omega, show (b.natAbs : Int) = b by omega]; simp [Int.neg_mul]
  · rw [decide_eq_false (by omega)] at h1; rw [decide_eq_true hb] at h2; subst h1; subst h2
    rw [show (a.natAbs : Int) = a by omega, show (b.natAbs : Int) = -b by omega]; simp [Int.mul_neg]
  · rw [decide_eq_false (by omega)] at h1; rw [decide_eq_false (by omega)] at h2; subst h1; subst h2
    rw [show (a.natAbs : Int) = a by omega, show (b.natAbs : Int) = b by omega]; simp

set_option maxRecDepth 100000 in
set_option maxHeartbeats 1000000 in
theorem numTimes_any (x y : Value) (a b : Int) (w : World) (hx : Num w x a) (hy : Num w y b) (la : (Im.grp a.natAbs).length ≤ 250) (lb : (Im.grp b.natAbs).length ≤ 250) :
    Calls Tryz.prog 33 #[x, y] w (NumPost (a * b) w) := by
  obtain ⟨b1, A1, n1, c1, rfl, hb1, hv1⟩ := hx.parts
  obtain ⟨b2, A2, n2, c2, rfl, hb2, hv2⟩ := hy.parts
  have hif := mul_if a b b1 b2 hb1 hb2
  have h2 := two_new w b1 b2 A1 A2 n1 c1 n2 c2
  obtain ⟨W, hW⟩ : ∃ W, (((w.alloc (.cells #[.bool b1, .slice A1 n1 c1] 47)).alloc (.cells #[.bool b2, .slice A2 n2 c2] 47)).alloc (.cells #[.bool false, .slice none 0 0] 47)) = W := ⟨_, rfl⟩
  rw [hW] at h2
  have HG := Lib.hid (times_any _ _ _ _ W.drew (hv1.next h2.bw.drew) (hv2.next h2.bw.drew) (by omega) (by omega))
  have hsg := fun v u (hv : Mag u v (a.natAbs * b.natAbs)) => signed_any (!(b1 == b2)) v _ u hv
  rw [hif] at hsg
  have HSG := Lib.hid hsg
  have H2 := Lib.hid (h2.below (Below.refl _ _).drew); have HW := Lib.hid hW
  clear h2 hW hx hy hb1 hb2 hv1 hv2 la lb hif hsg
  go_enter Tryz.func33, Tryz.ntmps33
  go_wp2
  rw [HW.out]
  go_region_held3 (fun u => u.cell? ⟨w.heap.size, 0, none⟩ = some (.bool b1) ∧ u.cell? ⟨w.heap.size, 1, none⟩ = some (.slice A1 n1 c1) ∧ u.cell? ⟨w.heap.size + 1, 0, none⟩ = some (.bool b2) ∧ u.cell? ⟨w.heap.size + 1, 1, none⟩ = some (.slice A2 n2 c2)) (first | assumption | (exact H2.out.four) | (exact H3.out.four_fin) | (exact H3.out.four) | (exact H2'.out.four)) (first | (go_at_call 59; ((with_reducible refine Calls.mono HG.out ?_); unfold MagPost; rintro e w1 ⟨v1, rfl, hm, hb⟩; have H2' := Lib.hid (H2.out.below hb); have HS := Lib.hid (HSG.out v1 w1 hm); clear hm hb)) | (go_at_call 45; ((with_reducible refine Calls.mono HS.out ?_); unfold NumPost; rintro e w2 ⟨z, rfl, hn, hb2⟩; obtain ⟨b3, A3, n3, c3, rfl, hbe, hm⟩ := hn.parts; have H3 := Lib.hid (H2'.out.below hb2); obtain ⟨k0, k1, f0, f1⟩ := box_facts H3.out.r2; have HM := Lib.hid hm; have HBE := Lib.hid hbe; clear hn hm hb2 hbe)))
  all_goals
    go_wp2
    refine bodyPost_ret (results_num rfl _ _ (w.heap.size + 1 + 1) _ _ rfl (box_row H3.out.r2)) rfl ?_
    exact ⟨_, rfl, H3.out.fin HBE.out HM.out⟩
end Go.Proofs.YtflpfmkfjccmiaaGreatDoor
