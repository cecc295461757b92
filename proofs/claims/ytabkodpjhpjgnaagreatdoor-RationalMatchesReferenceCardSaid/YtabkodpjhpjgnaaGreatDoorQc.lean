/- The steps of a calculation: what each makes of a fraction. -/
import Derived.Test.YtabkodpjhpjgnaaGreatDoorQb
namespace Go.Proofs.YtabkodpjhpjgnaaGreatDoor
open Go.RowKit Go.Shelf

abbrev rvB (s t : ByteArray) : Value := .agg #[.string s, .string t]
theorem results_rat_tmp {fn : Func} {p u : Tmp} (h : fn.results = #[.cell p 23, .tmp u]) (tmps : Array Value) (w : World) (g : Nat) (b v : Value) (hp : tmps.getD p undef = .pointer (some ⟨g, 0, none⟩)) (hg : Row w g 23 #[b, v]) :
    (results fn tmps).run Tryz.prog w = .ok (.tuple #[.agg #[b, v], tmps.getD u undef]) w := by
  have hp' : tmps[p]?.getD undef = .pointer (some ⟨g, 0, none⟩) := by simpa using hp
  have e1 := run_loadVar_row (P := Tryz.prog) w g 23 23 #[b, v] (0, 0) _ hg Tryz.underlying23 rfl (by kernel_rfl)
  simp [results, h, hp', asAddr, e1]
/-- What stands in a box of a fraction. -/
theorem rat_facts {X : World} {g : Nat} {x y : Value} (hr : Row X g 23 #[x, y]) : X.cell? ⟨g, 0, none⟩ = some x ∧ X.cell? ⟨g, 1, none⟩ = some y ∧ X.frozen? ⟨g, 0, none⟩ = false ∧ X.frozen? ⟨g, 1, none⟩ = false := ⟨(hr.cell 0).trans rfl, (hr.cell 1).trans rfl, hr.free 0, hr.free 1⟩
theorem rat_row {X : World} {g : Nat} {x y x' y' : Value} (hr : Row X g 23 #[x, y]) : Row ((X.setCell ⟨g, 0, none⟩ x').setCell ⟨g, 1, none⟩ y') g 23 #[x', y'] := (hr.put 0 x').put 1 y'
/-- What stands in a box of one cell. -/
theorem one_fact {X : World} {g : Nat} {t : TypeId} {x : Value} (hr : Row X g t #[x]) : X.cell? ⟨g, 0, none⟩ = some x := (hr.cell 0).trans rfl

/-- What a step returns: its fraction if it goes well. -/
def StepP (y : Value) (f : Bool) (u : World) (e : Ending) (u' : World) : Prop :=
  ∃ (s t : ByteArray) (er : Int), e = .returned (.tuple #[rvB s t, .int .i64 er]) ∧ decide (er = 0) = f ∧ (f = true → rvB s t = y) ∧ Below u.heap.size u u'
/-- Function gf with what it captured makes y of x, or an error. -/
def StepQ (w : World) (gf : Nat) (cb : Array Value) (x y : Value) (f : Bool) : Prop :=
  ∀ u, TabP u → Below w.heap.size w u → Calls Tryz.prog gf (#[x] ++ cb) u (StepP y f u)
theorem StepQ.next {w w' : World} {gf : Nat} {cb : Array Value} {x y : Value} {f : Bool} (h : StepQ w gf cb x y f) (hb : Below w.heap.size w w') : StepQ w' gf cb x y f :=
  fun u hu hb' => h u hu (below_to hb hb')

theorem StepQ.go {w : World} {gf : Nat} {cb : Array Value} {x y : Value} {f : Bool} (h : StepQ w gf cb x y f) (u : World) (hu : TabP u) (hb : Below w.heap.size w u) : Calls Tryz.prog gf (#[x] ++ cb) u (StepP y f u) := h u hu hb

set_option maxRecDepth 100000 in
set_option maxHeartbeats 1000000 in
theorem mul1_step (l r p q : List UInt8) (s1 s2 : ByteArray) (e1 e2 : Int) (w : World) (g1 g2 : Nat) (h1 : Row w g1 9 #[strOf p]) (h2 : Row w g2 9 #[strOf q])
    (m1 : CallT 93 #[strOf l, strOf p] (.tuple #[.string s1, .int .i64 e1])) (m2 : CallT 93 #[strOf r, strOf q] (.tuple #[.string s2, .int .i64 e2])) :
    StepQ w 92 #[.pointer (some ⟨g1, 0, none⟩), .pointer (some ⟨g2, 0, none⟩)] (rv l r) (rvB s1 s2) (decide (e1 = 0) && decide (e2 = 0)) := by
  intro u hu hb
  replace h1 := h1.below hb h1.lt
  replace h2 := h2.below hb h2.lt
  have l1 := h1.lt; have l2 := h2.lt
  have HT := Lib.hid hu; have M1 := Lib.hid m1; have M2 := Lib.hid m2
  unfold rv strOf at *
  generalize bs l = L at *
  generalize bs r = R at *
  generalize bs p = P at *
  generalize bs q = Q at *
  obtain ⟨W, hW⟩ : ∃ W, (u.alloc (.cells #[.string L, .string R] 23)).alloc (.cells #[.string ⟨#[]⟩, .string ⟨#[]⟩] 23) = W := ⟨_, rfl⟩
  have hbw : Below u.heap.size u W := by rw [← hW]; exact ((Below.refl _ _).alloc (Nat.le_refl _) _).alloc (by simp) _
  have hrx : Row W u.heap.size 23 #[.string L, .string R] := by rw [← hW]; exact (Row.new u _ _).alloc _
  have hro : Row W (u.heap.size + 1) 23 #[.string ⟨#[]⟩, .string ⟨#[]⟩] := by
    rw [← hW]
    have := Row.new (u.alloc (.cells #[.string L, .string R] 23)) 23 #[.string ⟨#[]⟩, .string ⟨#[]⟩]
    rw [World.size_alloc] at this; exact this
  have hr2 := h2.below hbw l2
  have c1 := one_fact h1
  have HW := Lib.hid hW; have HB := Lib.hid hbw; have HX := Lib.hid hrx; have HO := Lib.hid hro; have HR2 := Lib.hid hr2
  clear hu m1 m2 hb h1 h2 l2 hW hbw hrx hro hr2
  unfold StepP
  by_cases k1 : e1 = 0
  · subst k1
    go_enter Tryz.func92, Tryz.ntmps92
    go_wp2_with (first | (go_at_call 93; rw [HW.out]; (with_reducible refine Calls.mono (M1.out _ (HT.out.next HB.out)) ?_); rintro e w1 ⟨rfl, hb1⟩; have HX1 := Lib.hid (HX.out.below hb1 HX.out.lt); have HO1 := Lib.hid (HO.out.below hb1 HO.out.lt); obtain ⟨-, y1, -, -⟩ := rat_facts HX1.out; have z1 := one_fact (HR2.out.below hb1 HR2.out.lt); have HB1 := Lib.hid (below_to HB.out hb1); clear hb1) | (go_at_call 93; (with_reducible refine Calls.mono (M2.out _ (HT.out.next HB1.out)) ?_); rintro e w2 ⟨rfl, hb2⟩; have HO2 := Lib.hid (HO1.out.below hb2 HO1.out.lt); obtain ⟨o0, o1, f0, f1⟩ := rat_facts HO2.out; have HB2 := Lib.hid (below_to HB1.out hb2); clear hb2))
    refine bodyPost_ret (results_rat_tmp rfl _ _ (u.heap.size + 1) _ _ rfl (rat_row HO2.out)) rfl ?_
    exact ⟨s1, s2, e2, rfl, by simp, fun _ => rfl, (HB2.out.setCell (by dsimp only; omega) _).setCell (by dsimp only; omega) _⟩
  · have k2 : (e1 != 0) = true := by simpa using k1
    go_enter Tryz.func92, Tryz.ntmps92
    go_wp2_with (first | (go_at_call 93; rw [HW.out]; (with_reducible refine Calls.mono (M1.out _ (HT.out.next HB.out)) ?_); rintro e w1 ⟨rfl, hb1⟩; have HX1 := Lib.hid (HX.out.below hb1 HX.out.lt); have HO1 := Lib.hid (HO.out.below hb1 HO.out.lt); obtain ⟨y0, y1, -, -⟩ := rat_facts HX1.out; obtain ⟨o0, o1, f0, f1⟩ := rat_facts HO1.out; have HB1 := Lib.hid (below_to HB.out hb1); clear hb1))
    refine bodyPost_ret (results_rat_tmp rfl _ _ (u.heap.size + 1) _ _ rfl (rat_row HO1.out)) rfl ?_
    exact ⟨L, R, e1, rfl, by simp [k1], fun h => by simp [k1] at h, (HB1.out.setCell (by dsimp only; omega) _).setCell (by dsimp only; omega) _⟩

/-- combine's step: the operation on Num and a product. -/
theorem comb1_step (l r x y : List UInt8) (s1 s2 : ByteArray) (e1 e2 : Int) (op : Nat) (w : World) (g1 g2 g3 : Nat) (h1 : Row w g1 9 #[strOf x]) (h2 : Row w g2 9 #[strOf y]) (h3 : Row w g3 103 #[.func (.func op) #[] #[]])
    (eg : ∀ args w, (callFunc op args).run Tryz.prog w = .ok (.enter op args) w)
    (m1 : CallT 93 #[strOf x, strOf y] (.tuple #[.string s1, .int .i64 e1])) (m2 : CallT op #[strOf l, .string s1] (.tuple #[.string s2, .int .i64 e2])) :
    StepQ w 110 #[.pointer (some ⟨g1, 0, none⟩), .pointer (some ⟨g2, 0, none⟩), .pointer (some ⟨g3, 0, none⟩)] (rv l r) (.agg #[.string s2, strOf r]) (decide (e1 = 0) && decide (e2 = 0)) := by
  intro u hu hb
  replace h1 := h1.below hb h1.lt
  replace h2 := h2.below hb h2.lt
  replace h3 := h3.below hb h3.lt
  have l1 := h1.lt; have l2 := h2.lt; have l3 := h3.lt
  have HT := Lib.hid hu; have M1 := Lib.hid m1; have M2 := Lib.hid m2
  unfold rv strOf at *
  generalize bs l = L at *
  generalize bs r = R at *
  generalize bs x = P at *
  generalize bs y = Q at *
  obtain ⟨W, hW⟩ : ∃ W, (u.alloc (.cells #[.string L, .string R] 23)).alloc (.cells #[.string ⟨#[]⟩, .string ⟨#[]⟩] 23) = W := ⟨_, rfl⟩
  have hbw : Below u.heap.size u W := by rw [← hW]; exact ((Below.refl _ _).alloc (Nat.le_refl _) _).alloc (by simp) _
  have hrx : Row W u.heap.size 23 #[.string L, .string R] := by rw [← hW]; exact (Row.new u _ _).alloc _
  have hro : Row W (u.heap.size + 1) 23 #[.string ⟨#[]⟩, .string ⟨#[]⟩] := by
    rw [← hW]
    have := Row.new (u.alloc (.cells #[.string L, .string R] 23)) 23 #[.string ⟨#[]⟩, .string ⟨#[]⟩]
    rw [World.size_alloc] at this; exact this
  have hr3 := h3.below hbw l3
  have c1 := one_fact h1
  have c2 := one_fact h2
  have HW := Lib.hid hW; have HB := Lib.hid hbw; have HX := Lib.hid hrx; have HO := Lib.hid hro; have HR3 := Lib.hid hr3
  clear hu m1 m2 hb h1 h2 h3 l3 hW hbw hrx hro hr3
  unfold StepP
  by_cases k1 : e1 = 0
  · subst k1
    go_enter Tryz.func110, Tryz.ntmps110
    go_wp2_with (first | (go_at_call 93; rw [HW.out]; (with_reducible refine Calls.mono (M1.out _ (HT.out.next HB.out)) ?_); rintro e w1 ⟨rfl, hb1⟩; have HX1 := Lib.hid (HX.out.below hb1 HX.out.lt); have HO1 := Lib.hid (HO.out.below hb1 HO.out.lt); obtain ⟨y0, -, -, -⟩ := rat_facts HX1.out; have z1 := one_fact (HR3.out.below hb1 HR3.out.lt); have HB1 := Lib.hid (below_to HB.out hb1); clear hb1) | (go_at_fn op; (with_reducible refine Calls.mono (M2.out _ (HT.out.next HB1.out)) ?_); rintro e w2 ⟨rfl, hb2⟩; have HO2 := Lib.hid (HO1.out.below hb2 HO1.out.lt); have HX2 := HX1.out.below hb2 HX1.out.lt; obtain ⟨-, y1, -, -⟩ := rat_facts HX2; obtain ⟨o0, o1, f0, f1⟩ := rat_facts HO2.out; have HB2 := Lib.hid (below_to HB1.out hb2); clear hb2 HX2))
    refine bodyPost_ret (results_rat_tmp rfl _ _ (u.heap.size + 1) _ _ rfl (rat_row HO2.out)) rfl ?_
    exact ⟨s2, R, e2, rfl, by simp, fun _ => rfl, (HB2.out.setCell (by dsimp only; omega) _).setCell (by dsimp only; omega) _⟩
  · have k2 : (e1 != 0) = true := by simpa using k1
    go_enter Tryz.func110, Tryz.ntmps110
    go_wp2_with (first | (go_at_call 93; rw [HW.out]; (with_reducible refine Calls.mono (M1.out _ (HT.out.next HB.out)) ?_); rintro e w1 ⟨rfl, hb1⟩; have HX1 := Lib.hid (HX.out.below hb1 HX.out.lt); have HO1 := Lib.hid (HO.out.below hb1 HO.out.lt); obtain ⟨y0, y1, -, -⟩ := rat_facts HX1.out; obtain ⟨o0, o1, f0, f1⟩ := rat_facts HO1.out; have HB1 := Lib.hid (below_to HB.out hb1); clear hb1))
    refine bodyPost_ret (results_rat_tmp rfl _ _ (u.heap.size + 1) _ _ rfl (rat_row HO1.out)) rfl ?_
    exact ⟨L, R, e1, rfl, by simp [k1], fun h => by simp [k1] at h, (HB1.out.setCell (by dsimp only; omega) _).setCell (by dsimp only; omega) _⟩
end Go.Proofs.YtabkodpjhpjgnaaGreatDoor
