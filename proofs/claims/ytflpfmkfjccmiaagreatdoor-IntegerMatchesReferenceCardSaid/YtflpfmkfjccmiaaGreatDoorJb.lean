/- Numbers with a sign; contracts of signed and isZero. -/
import Derived.Test.YtflpfmkfjccmiaaGreatDoorJa
namespace Go.Proofs.YtflpfmkfjccmiaaGreatDoor
open Go.RowKit

/-- A number with a sign. -/
def Num (w : World) (x : Value) (z : Int) : Prop := ∃ v, x = .agg #[.bool (decide (z < 0)), v] ∧ Mag w v z.natAbs
theorem Num.next {w w' : World} {x : Value} {z : Int} (h : Num w x z) (hb : Below w.heap.size w w') : Num w' x z := by
  obtain ⟨v, h1, h2⟩ := h
  exact ⟨v, h1, h2.next hb⟩
def NumPost (z : Int) (w : World) (e : Ending) (w' : World) : Prop := ∃ x, e = .returned x ∧ Num w' x z ∧ Below w.heap.size w w'

theorem results_num {fn : Func} {p : Tmp} (h : fn.results = #[.cell p 47]) (tmps : Array Value) (w : World) (g : Nat) (b v : Value) (hp : tmps.getD p undef = .pointer (some ⟨g, 0, none⟩)) (hg : Row w g 47 #[b, v]) :
    (results fn tmps).run Tryz.prog w = .ok (.agg #[b, v]) w :=
  results_cell_row h tmps w g 47 #[b, v] (0, 0) _ hp hg Tryz.underlying47 rfl (by kernel_rfl)
theorem num_of {w : World} {b : Bool} {v : Value} {z : Int} {n : Nat} (hb : b = decide (z < 0)) (hn : z.natAbs = n) (hv : Mag w v n) : Num w (.agg #[.bool b, v]) z := by
  subst hb; subst hn; exact ⟨v, rfl, hv⟩

set_option maxRecDepth 100000 in
set_option maxHeartbeats 1000000 in
theorem signed_any (neg : Bool) (v : Value) (n : Nat) (w : World) (hv : Mag w v n) :
    Calls Tryz.prog 45 #[.bool neg, v] w (NumPost (if neg then -(n : Int) else (n : Int)) w) := by
  have hz := isZero_any v n (w.alloc (.cells #[.bool false, .slice none 0 0] 47)) (hv.next ((Below.refl _ _).alloc (Nat.le_refl _) _))
  obtain ⟨A, c, rfl, hc1, hc2⟩ := ints_form hv
  have HZ := Lib.hid hz
  cases neg with
  | false =>
    go_enter Tryz.func45, Tryz.ntmps45
    go_wp2
    refine bodyPost_ret (results_num rfl _ _ w.heap.size _ _ rfl (Row.new w _ _)) rfl ?_
    exact ⟨_, rfl, num_of (by rw [decide_eq_false (by omega)]) (by omega) (hv.next ((Below.refl _ _).alloc (Nat.le_refl _) _)), (Below.refl _ _).alloc (Nat.le_refl _) _⟩
  | true =>
    go_enter Tryz.func45, Tryz.ntmps45
    go_wp2_with (go_at_call 60; refine HZ.out.mono ?_; rintro e w1 ⟨rfl, rfl⟩)
    refine bodyPost_ret (results_num rfl _ _ w.heap.size _ _ rfl (Row.new w _ _)) rfl ?_
    refine ⟨_, rfl, num_of ?_ (by omega) (hv.next ((Below.refl _ _).alloc (Nat.le_refl _) _)), (Below.refl _ _).alloc (Nat.le_refl _) _⟩
    by_cases h0 : n = 0
    · rw [decide_eq_true h0, decide_eq_false (by omega)]; rfl
    · rw [decide_eq_false h0, decide_eq_true (by omega)]; rfl

theorem Num.parts {w : World} {x : Value} {z : Int} (h : Num w x z) : ∃ b A n c, x = .agg #[.bool b, .slice A n c] ∧ b = decide (z < 0) ∧ Mag w (.slice A n c) z.natAbs := by
  obtain ⟨v, rfl, hv⟩ := h
  obtain ⟨A, c, rfl, _, _⟩ := ints_form hv
  exact ⟨_, A, _, c, rfl, rfl, hv⟩
theorem ints_setBox {X : World} {B g j : Nat} {t : TypeId} {cs : Array Value} {v z : Value} {l : List Int} (h : Ints X B v l) (hr : Row X g t cs) (hn : ∀ (i : Nat) (n : Int), cs[i]? ≠ some (.int .i64 n)) : Ints (X.setCell ⟨g, j, none⟩ z) B v l := by
  obtain ⟨A, c, h1, h2, h3, h4⟩ := h
  refine ⟨A, c, h1, h2, h3, ?_⟩
  rcases h4 with h4 | ⟨g', off, h4, h5, h6⟩
  · exact .inl h4
  · refine .inr ⟨g', off, h4, h5, fun k x hj => ?_⟩
    have h7 := h6 k x hj
    by_cases e : g' = g
    · subst e
      rw [hr.cell] at h7
      exact absurd h7 (hn _ _)
    · rw [← h7]; exact World.cell?_of_block (Below.heap_setCell X ⟨g, j, none⟩ z g' (by simpa using e))
theorem no_int2 (b : Bool) (A : Option Addr) (n c : Nat) : ∀ (i : Nat) (m : Int), (#[.bool b, .slice A n c] : Array Value)[i]? ≠ some (.int .i64 m) := by
  intro i m h
  match i with
  | 0 => simp at h
  | 1 => simp at h
  | i + 2 => simp at h
/-- A number laid into a box: it reads as before. -/
theorem mag_box {X : World} {g : Nat} {b b' : Bool} {A A' : Option Addr} {n c n' c' m : Nat} {v : Value} (h : Mag X v m) (hr : Row X g 47 #[.bool b, .slice A n c]) : Mag ((X.setCell ⟨g, 0, none⟩ (.bool b')).setCell ⟨g, 1, none⟩ (.slice A' n' c')) v m := by
  have h1 := ints_setBox (z := .bool b') (j := 0) h hr (no_int2 _ _ _ _)
  have h2 := ints_setBox (z := .slice A' n' c') (j := 1) h1 (hr.put 0 (.bool b')) (no_int2 b' A n c)
  exact h2.more (by simp [World.setCell])
theorem box_row {X : World} {g : Nat} {b b' : Bool} {A A' : Option Addr} {n c n' c' : Nat} (hr : Row X g 47 #[.bool b, .slice A n c]) : Row ((X.setCell ⟨g, 0, none⟩ (.bool b')).setCell ⟨g, 1, none⟩ (.slice A' n' c')) g 47 #[.bool b', .slice A' n' c'] := (hr.put 0 (.bool b')).put 1 (.slice A' n' c')
/-- What stands in a box of a number. -/
theorem box_facts {X : World} {g : Nat} {x y : Value} (hr : Row X g 47 #[x, y]) : X.cell? ⟨g, 0, none⟩ = some x ∧ X.cell? ⟨g, 1, none⟩ = some y ∧ X.frozen? ⟨g, 0, none⟩ = false ∧ X.frozen? ⟨g, 1, none⟩ = false := ⟨(hr.cell 0).trans rfl, (hr.cell 1).trans rfl, hr.free 0, hr.free 1⟩

set_option maxHeartbeats 400000 in
theorem numZero_any (x : Value) (z : Int) (w : World) (hx : Num w x z) :
    Calls Tryz.prog 37 #[x] w fun e w' => e = .returned (.bool (decide (z = 0))) ∧ Below w.heap.size w w' := by
  obtain ⟨v, rfl, hv⟩ := hx
  have hz := isZero_any v z.natAbs (w.alloc (.cells #[.bool (decide (z < 0)), v] 47)) (hv.next ((Below.refl _ _).alloc (Nat.le_refl _) _))
  obtain ⟨A, c, rfl, hc1, hc2⟩ := ints_form hv
  have HZ := Lib.hid hz
  have HE : decide (z.natAbs = 0) = decide (z = 0) := decide_eq_decide.2 (by omega)
  go_enter Tryz.func37, Tryz.ntmps37
  go_wp2_with (go_at_call 60; refine HZ.out.mono ?_; rintro e w1 ⟨rfl, rfl⟩)
  go_ret
  exact ⟨by rw [← HE]; rfl, (Below.refl _ _).alloc (Nat.le_refl _) _⟩

theorem neg_if (z : Int) (b : Bool) (hb : b = decide (z < 0)) : (if (!b) = true then -(z.natAbs : Int) else (z.natAbs : Int)) = -z := by
  by_cases h : z < 0
  · rw [decide_eq_true h] at hb; subst hb; simp; omega
  · rw [decide_eq_false h] at hb; subst hb; simp; omega

set_option maxRecDepth 100000 in
set_option maxHeartbeats 1000000 in
theorem opp_any (x : Value) (z : Int) (w : World) (hx : Num w x z) :
    Calls Tryz.prog 58 #[x] w (NumPost (-z) w) := by
  obtain ⟨b, A, n, c, rfl, hb, hv⟩ := hx.parts
  obtain ⟨W, hW⟩ : ∃ W, (w.alloc (.cells #[.bool b, .slice A n c] 47)).alloc (.cells #[.bool false, .slice none 0 0] 47) = W := ⟨_, rfl⟩
  have hb0 : Below w.heap.size w W := by rw [← hW]; exact ((Below.refl _ w).alloc (Nat.le_refl _) _).alloc (by simp) _
  have r2 : Row W (w.heap.size + 1) 47 #[.bool false, .slice none 0 0] := by
    rw [← hW]
    have := Row.new (w.alloc (.cells #[.bool b, .slice A n c] 47)) 47 #[.bool false, .slice none 0 0]
    rw [World.size_alloc] at this; exact this
  have hsg := signed_any (!b) (.slice A n c) z.natAbs W (hv.next hb0)
  rw [neg_if z b hb] at hsg
  have HS := Lib.hid hsg; have HW := Lib.hid hW; have HB := Lib.hid hb0; have HR := Lib.hid r2
  clear hsg hW hb0 r2 hv hx hb
  go_enter Tryz.func58, Tryz.ntmps58
  go_wp2_with (go_at_call 45; rw [HW.out]; refine HS.out.mono ?_; unfold NumPost; rintro e w2 ⟨y, rfl, hn, hb2⟩; obtain ⟨b2, A2, n2, c2, rfl, hbe, hm⟩ := hn.parts; have hr2 := HR.out.below hb2 HR.out.lt; have HR2 := Lib.hid hr2; obtain ⟨k0, k1, f0, f1⟩ := box_facts hr2; have HB2 := Lib.hid hb2; have HM := Lib.hid hm; have HBE := Lib.hid hbe; clear hn hm hb2 hbe hr2)
  refine bodyPost_ret (results_num rfl _ _ (w.heap.size + 1) _ _ rfl (box_row HR2.out)) rfl ?_
  exact ⟨_, rfl, num_of HBE.out rfl (mag_box HM.out HR2.out), ((HB.out.trans (HB2.out.mono HB.out.size)).setCell (by dsimp only; omega) _).setCell (by dsimp only; omega) _⟩
end Go.Proofs.YtflpfmkfjccmiaaGreatDoor
