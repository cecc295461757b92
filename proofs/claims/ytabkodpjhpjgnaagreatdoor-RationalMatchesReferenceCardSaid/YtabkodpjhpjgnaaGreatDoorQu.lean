/- The inputs' fractions: Of and Small. -/
import Derived.Test.YtabkodpjhpjgnaaGreatDoorQt
namespace Go.Proofs.YtabkodpjhpjgnaaGreatDoor
open Go.RowKit Go.Shelf

theorem results_rat1 {fn : Func} {p : Tmp} (h : fn.results = #[.cell p 23]) (tmps : Array Value) (w : World) (g : Nat) (b v : Value) (hp : tmps.getD p undef = .pointer (some ⟨g, 0, none⟩)) (hg : Row w g 23 #[b, v]) :
    (results fn tmps).run Tryz.prog w = .ok (.agg #[b, v]) w := by
  have hp' : tmps[p]?.getD undef = .pointer (some ⟨g, 0, none⟩) := by simpa using hp
  have e1 := run_loadVar_row (P := Tryz.prog) w g 23 23 #[b, v] (0, 0) _ hg Tryz.underlying23 rfl (by kernel_rfl)
  simp [results, h, hp', asAddr, e1]
set_option maxRecDepth 100000 in
set_option maxHeartbeats 1000000 in
theorem rof_of (n d : Int) (s t : ByteArray) (er : Int) (h0 : -9223372036854775808 ≤ n) (h1 : n ≤ 9223372036854775807) (d0 : -9223372036854775808 ≤ d) (d1 : d ≤ 9223372036854775807)
    (h : CallT 28 #[strOf (Lib.itoa n), strOf (Lib.itoa d)] (.tuple #[rvB s t, .int .i64 er])) :
    CallT 32 #[.int .i64 n, .int .i64 d] (.tuple #[rvB s t, .int .i64 er]) := fun w ht => by
  have H := Lib.hid h; have HT := Lib.hid ht
  have F1 := Lib.hid (fun u => rFromInt_ok n u h0 h1)
  have F2 := Lib.hid (fun u => rFromInt_ok d u d0 d1)
  clear h ht h0 h1 d0 d1
  have ho := Row.new w 23 #[.string ⟨#[]⟩, .string ⟨#[]⟩]
  have HO := Lib.hid ho
  have HB := Lib.hid (new_below w (.cells #[.string ⟨#[]⟩, .string ⟨#[]⟩] 23))
  clear ho
  unfold strOf at *
  generalize bs (Lib.itoa n) = P at *
  generalize bs (Lib.itoa d) = Q at *
  go_enter Tryz.func32, Tryz.ntmps32
  go_wp2_with (first | (go_at_call 43; (with_reducible refine Calls.mono (F1.out _) ?_); rintro e w1 ⟨rfl, hb1⟩; replace HO := Lib.hid (HO.out.below hb1 HO.out.lt); replace HB := Lib.hid (below_to HB.out hb1); clear hb1) | (go_at_call 43; (with_reducible refine Calls.mono (F2.out _) ?_); rintro e w2 ⟨rfl, hb1⟩; replace HO := Lib.hid (HO.out.below hb1 HO.out.lt); replace HB := Lib.hid (below_to HB.out hb1); clear hb1) | (go_at_call 28; (with_reducible refine Calls.mono (H.out _ (HT.out.next HB.out)) ?_); rintro e w3 ⟨rfl, hb1⟩; replace HO := Lib.hid (HO.out.below hb1 HO.out.lt); replace HB := Lib.hid (below_to HB.out hb1); obtain ⟨o0, o1, f0, f1⟩ := rat_facts HO.out; clear hb1))
  refine bodyPost_ret (results_rat_tmp rfl _ _ w.heap.size _ _ rfl (rat_row HO.out)) rfl ?_
  exact ⟨rfl, (HB.out.setCell (by dsimp only; omega) _).setCell (by dsimp only; omega) _⟩
theorem ok_i64 {n : Int} (h0 : -9223372036854775808 ≤ n) (h1 : n ≤ 9223372036854775807) : okz n = true := decide_eq_true (by
  have : (9223372036854775809 : Nat) ≤ 10 ^ 200 := by decide +kernel
  omega)

theorem far2x {w u : World} {x y c d : Value} {g : Nat} (hg : w.heap.size + 1 < g) (h : Below w.heap.size w u ∧ w.heap.size + 1 < u.heap.size ∧ (∃ a b, Row u (w.heap.size + 1) 23 #[a, b]) ∧ u.cell? ⟨w.heap.size, 0, none⟩ = some x ∧ u.cell? ⟨w.heap.size, 1, none⟩ = some y) :
    Below w.heap.size w ((u.setCell ⟨g, 0, none⟩ c).setCell ⟨g, 1, none⟩ d) ∧ w.heap.size + 1 < ((u.setCell ⟨g, 0, none⟩ c).setCell ⟨g, 1, none⟩ d).heap.size ∧ (∃ a b, Row ((u.setCell ⟨g, 0, none⟩ c).setCell ⟨g, 1, none⟩ d) (w.heap.size + 1) 23 #[a, b]) ∧ ((u.setCell ⟨g, 0, none⟩ c).setCell ⟨g, 1, none⟩ d).cell? ⟨w.heap.size, 0, none⟩ = some x ∧ ((u.setCell ⟨g, 0, none⟩ c).setCell ⟨g, 1, none⟩ d).cell? ⟨w.heap.size, 1, none⟩ = some y := by
  obtain ⟨h1, h2, ⟨a, b, h3⟩, h4, h5⟩ := h
  exact ⟨(h1.setCell (by dsimp only; omega) _).setCell (by dsimp only; omega) _, by simp; omega, ⟨a, b, (h3.far (by dsimp only; omega) _).far (by dsimp only; omega) _⟩, (far2 (by dsimp only; omega)).trans h4, (far2 (by dsimp only; omega)).trans h5⟩
/-- The small fraction that two integers determine. -/
def smallQ (x0 x1 : Int) : Rat := Rat.divInt ((pickN x0 1999 : Nat) - 999) (1 + (pickN x1 60 : Nat))
set_option maxRecDepth 100000 in
set_option maxHeartbeats 4000000 in
theorem small_any (x0 x1 : Int) (a0 : -9223372036854775808 ≤ x0) (a1 : x0 ≤ 9223372036854775807) (b0 : -9223372036854775808 ≤ x1) (b1 : x1 ≤ 9223372036854775807) : CallT 14 #[.agg #[.int .i64 x0, .int .i64 x1]] (qv (smallQ x0 x1)) := fun w ht => by
  have P1 := Lib.hid (pick04_any x0 1999 (by decide) (by decide) a0 a1)
  have P2 := Lib.hid (pick04_any x1 60 (by decide) (by decide) b0 b1)
  have l1 := pickN_lt x0 1999 (by decide)
  have l2 := pickN_lt x1 60 (by decide)
  unfold smallQ
  generalize pickN x0 1999 = m at *
  generalize pickN x1 60 = k at *
  have OF := Lib.hid (rof_of ((m : Int) - 999) (1 + (k : Int)) _ _ _ (by omega) (by omega) (by omega) (by omega) (rmake_ok _ _ (ok_i64 (by omega) (by omega)) (ok_i64 (by omega) (by omega)) (by omega)))
  have HT := Lib.hid ht
  have s1 : IntKind.i64.wrap ((m : Int) - 999) = (m : Int) - 999 := IntWalk.i64_in _ (by omega)
  have s2 : IntKind.i64.wrap (1 + (k : Int)) = 1 + (k : Int) := IntWalk.i64_in _ (by omega)
  clear a0 a1 b0 b1 l1 l2 ht
  unfold qv rv strOf at *
  generalize bs (Lib.itoa (Rat.divInt ((m : Int) - 999) (1 + (k : Int))).num) = S at *
  generalize bs (Lib.itoa (((Rat.divInt ((m : Int) - 999) (1 + (k : Int))).den : Nat) : Int)) = T at *
  obtain ⟨W, hW⟩ : ∃ W, (w.alloc (.cells #[.int .i64 x0, .int .i64 x1] 25)).alloc (.cells #[.string ⟨#[]⟩, .string ⟨#[]⟩] 23) = W := ⟨_, rfl⟩
  have hx : Row W w.heap.size 25 #[.int .i64 x0, .int .i64 x1] := by rw [← hW]; exact (Row.new w _ _).alloc _
  have ho : Row W (w.heap.size + 1) 23 #[.string ⟨#[]⟩, .string ⟨#[]⟩] := by
    rw [← hW]
    have := Row.new (w.alloc (.cells #[.int .i64 x0, .int .i64 x1] 25)) 23 #[.string ⟨#[]⟩, .string ⟨#[]⟩]
    rw [World.size_alloc] at this; exact this
  have hb : Below w.heap.size w W := by rw [← hW]; exact ((Below.refl _ _).alloc (Nat.le_refl _) _).alloc (by simp) _
  have p0 : W.cell? ⟨w.heap.size, 0, none⟩ = some (.int .i64 x0) := hx.cell 0
  have p1 : W.cell? ⟨w.heap.size, 1, none⟩ = some (.int .i64 x1) := hx.cell 1
  have HW := Lib.hid hW; have HO := Lib.hid ho; have HB := Lib.hid hb; have HL := Lib.hid ho.lt
  clear hW hx ho hb
  go_enter Tryz.func14, Tryz.ntmps14
  go_wp2
  rw [HW.out]
  go_region_held3 (fun u => Below w.heap.size w u ∧ w.heap.size + 1 < u.heap.size ∧ (∃ a b, Row u (w.heap.size + 1) 23 #[a, b]) ∧ u.cell? ⟨w.heap.size, 0, none⟩ = some (.int .i64 x0) ∧ u.cell? ⟨w.heap.size, 1, none⟩ = some (.int .i64 x1)) (first | assumption | (exact ⟨HB.out.drew, HL.out, ⟨_, _, HO.out.drew⟩, p0, p1⟩) | (exact hold2r (by assumption) b5) | (exact hold2r (by assumption) (new_below _ _)) | (exact hold2r (hold2r ⟨HB.out.drew, HL.out, ⟨_, _, HO.out.drew⟩, p0, p1⟩ b5) (new_below _ _)) | (exact far2x HL.out (by assumption))) (first | (go_at_call 46; ((with_reducible refine Calls.mono (P1.out _) ?_); rintro e w1 ⟨rfl, rfl⟩)) | (go_at_call 46; ((with_reducible refine Calls.mono (P2.out _) ?_); rintro e w2 ⟨rfl, rfl⟩)) | (go_at_call 32; ((with_reducible refine Calls.mono (OF.out _ ?hu) ?_); (case hu => exact HT.out.next (‹Below w.heap.size w _ ∧ _ ∧ _ ∧ _ ∧ _›).1); rintro e w5 ⟨rfl, b5⟩); have HS5 := Lib.hid (hold2r ‹Below w.heap.size w _ ∧ _ ∧ _ ∧ _ ∧ _› b5); obtain ⟨x5, y5, hr5⟩ := HS5.out.2.2.1; have HO5 := Lib.hid hr5; obtain ⟨o0, o1, f0, f1⟩ := rat_facts hr5; clear hr5; try (have hr9 : Row w5 W.heap.size 23 #[.string ⟨#[]⟩, .string ⟨#[]⟩] := (Row.new W.drew 23 #[.string ⟨#[]⟩, .string ⟨#[]⟩]).below b5 (by simp); have HR9 := Lib.hid hr9; obtain ⟨z0, z1, z2, z3⟩ := rat_facts hr9; clear hr9)))
  all_goals
    have HSX := Lib.hid ‹Below w.heap.size w _ ∧ _ ∧ _ ∧ _ ∧ _›
    obtain ⟨x6, y6, hr6⟩ := HSX.out.2.2.1
    have HO6 := Lib.hid hr6
    obtain ⟨k0, k1, k2, k3⟩ := rat_facts hr6
    clear hr6 o0 o1 f0 f1
    first
    | (have hz := rat_facts (rat_row (x' := .string S) (y' := .string T) HR9.out); obtain ⟨r0, r1, -, -⟩ := hz)
    | (have hz := rat_facts (Row.new w5 23 #[.string S, .string T]); obtain ⟨r0, r1, -, -⟩ := hz)
    go_wp2
    refine bodyPost_ret (results_rat1 rfl _ _ (w.heap.size + 1) _ _ rfl (rat_row HO6.out)) rfl ?_
    exact ⟨rfl, (HSX.out.1.setCell (by dsimp only; omega) _).setCell (by dsimp only; omega) _⟩
end Go.Proofs.YtabkodpjhpjgnaaGreatDoor
