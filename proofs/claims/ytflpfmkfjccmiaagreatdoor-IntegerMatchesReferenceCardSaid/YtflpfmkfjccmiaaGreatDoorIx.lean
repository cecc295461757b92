/- Contract of gcd of magnitudes. -/
import Derived.Test.YtflpfmkfjccmiaaGreatDoorIq
namespace Go.Proofs.YtflpfmkfjccmiaaGreatDoor
open Go.RowKit Go.Shelf

theorem ints_uniq {w : World} {B B' : Nat} {v : Value} {l l' : List Int} (h : Ints w B v l) (h' : Ints w B' v l') : l = l' := by
  obtain ⟨A, c, h1, _, _, h4⟩ := h
  obtain ⟨A', c', h1', _, _, h4'⟩ := h'
  rw [h1] at h1'
  injection h1' with e1 e2 e3
  subst e1
  rcases h4 with ⟨rfl, rfl⟩ | ⟨g, off, rfl, _, hc⟩
  · exact (List.eq_nil_of_length_eq_zero e2.symm).symm
  · rcases h4' with ⟨h5, _⟩ | ⟨g', off', h5, _, hc'⟩
    · cases h5
    · injection h5 with h5
      injection h5 with h6 h7
      subst h6; subst h7
      apply List.ext_getElem e2
      intro j h1 h2
      have a1 := hc j _ (List.getElem?_eq_getElem h1)
      have a2 := hc' j _ (List.getElem?_eq_getElem h2)
      rw [a1] at a2
      injection a2 with a2
      injection a2
theorem mag_uniq {w : World} {v : Value} {m n : Nat} (h : Mag w v m) (h' : Mag w v n) : m = n := Im.grp_inj (ints_uniq h h')
open Classical in
/-- The number that a slice reads as. -/
noncomputable def magOf (w : World) (v : Value) : Nat := if h : ∃ n, Mag w v n then h.choose else 0
theorem magOf_eq {w : World} {v : Value} {n : Nat} (h : Mag w v n) : magOf w v = n := by
  have hx : ∃ n, Mag w v n := ⟨n, h⟩
  unfold magOf
  rw [dif_pos hx]
  exact mag_uniq hx.choose_spec h

set_option maxRecDepth 100000 in
set_option maxHeartbeats 1000000 in
theorem gcd_any (va vb : Value) (a b : Nat) (w : World) (ha : Mag w va a) (hb : Mag w vb b) (la : (Im.grp a).length ≤ 250) (lb : (Im.grp b).length ≤ 250) :
    Calls Tryz.prog 63 #[va, vb] w (MagPost (Nat.gcd a b) w) := by
  have HZ := Lib.hid (fun v n u => isZero_any v n u)
  have HO := Lib.hid (fun va vd a d u ha hd h0 la ld => over_any va vd a d u ha hd h0 la ld)
  go_enter Tryz.func63, Tryz.ntmps63
  go_wp2
  go_loopw [0, 1, 5, 6] (fun vx vy _ _ wr => ∃ x y : Nat, Hid (Mag wr vx x) ∧ Hid (Mag wr vy y) ∧ (Im.grp x).length ≤ 250 ∧ (Im.grp y).length ≤ 250 ∧ Nat.gcd x y = Nat.gcd a b ∧ Hid (Below w.heap.size w wr)) (fun _ vy _ _ wr => magOf wr vy)
  case atStart => exact ⟨a, b, Lib.hid ha, Lib.hid hb, la, lb, rfl, Lib.hid (Below.refl _ _)⟩
  case round =>
    obtain ⟨x, y, HX, HY, lx, ly, hg, HB⟩ := hrel
    have hz := HZ.out _ y wr HY.out
    by_cases h0 : y = 0
    · subst h0
      rw [decide_eq_true rfl] at hz
      have HZ1 := Lib.hid hz
      clear hz
      go_wp2_with (go_at_call 60; refine HZ1.out.mono ?_; rintro e w1 ⟨rfl, rfl⟩)
      go_ret
      rw [Nat.gcd_zero_right] at hg
      exact ⟨_, rfl, hg ▸ HX.out, HB.out⟩
    · rw [decide_eq_false h0] at hz
      have HZ1 := Lib.hid hz
      have HV := Lib.hid (HO.out _ _ x y wr HX.out HY.out h0 lx ly)
      clear hz
      go_wp2_with (first | (go_at_call 60; refine HZ1.out.mono ?_; rintro e w1 ⟨rfl, rfl⟩) | (go_at_call 61; refine HV.out.mono ?_; unfold OverPost; rintro e w2 ⟨vq, vr, rfl, hq, hr, hb2⟩; have HR := Lib.hid hr; have HB2 := Lib.hid hb2; clear hq hr hb2))
      go_roundw
      case rel =>
        refine ⟨y, x % y, Lib.hid (HY.out.next HB2.out), HR, ly, ?_, ?_, Lib.hid (below_to HB.out HB2.out)⟩
        · have := Im.len_mono (Nat.le_of_lt (Nat.mod_lt x (by omega : 0 < y))); omega
        · rw [← hg, Nat.gcd_comm x y, Nat.gcd_rec y x, Nat.gcd_comm]
      case measure =>
        rw [magOf_eq HY.out]
        have := magOf_eq HR.out
        simp only [this]
        exact Nat.mod_lt _ (by omega)
end Go.Proofs.YtflpfmkfjccmiaaGreatDoor
