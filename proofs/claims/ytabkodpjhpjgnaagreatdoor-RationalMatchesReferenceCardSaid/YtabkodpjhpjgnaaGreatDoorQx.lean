/- The law's four: the results of the four operations, in two arrays. -/
import Derived.Test.YtabkodpjhpjgnaaGreatDoorQw
import Derived.OrdersHeld
import Derived.Deep.RegionHeld
import Derived.Laws.Tables
namespace Go.Proofs.YtabkodpjhpjgnaaGreatDoor
open Go.RowKit Go.Shelf

def fourR (S0 T0 S1 T1 S2 T2 S3 T3 : ByteArray) : Value := .agg #[.string S0, .string T0, .string S1, .string T1, .string S2, .string T2, .string S3, .string T3]
def fourE (e0 e1 e2 e3 : Int) : Value := .agg #[.int .i64 e0, .int .i64 e1, .int .i64 e2, .int .i64 e3]
/-- What is known in four's memory: its operands, and the two arrays. -/
def FourM (w : World) (A1 A2 B1 B2 : ByteArray) (r e : Array Value) (u : World) : Prop :=
  Below w.heap.size w u ∧ Row u (w.heap.size) 23 #[.string A1, .string A2] ∧ Row u (w.heap.size + 1) 23 #[.string B1, .string B2] ∧ Row u (w.heap.size + 1 + 1) 31 #[.string ⟨#[]⟩, .string ⟨#[]⟩, .string ⟨#[]⟩, .string ⟨#[]⟩, .string ⟨#[]⟩, .string ⟨#[]⟩, .string ⟨#[]⟩, .string ⟨#[]⟩] ∧ Row u (w.heap.size + 1 + 1 + 1) 33 #[.int .i64 0, .int .i64 0, .int .i64 0, .int .i64 0] ∧ Row u (w.heap.size + 1 + 1 + 1 + 1) 31 r ∧ Row u (w.heap.size + 1 + 1 + 1 + 1 + 1) 33 e
theorem FourM.base {w : World} {A1 A2 B1 B2 : ByteArray} {r e : Array Value} {u : World} (h : FourM w A1 A2 B1 B2 r e u) : Below w.heap.size w u := h.1
theorem FourM.below {w : World} {A1 A2 B1 B2 : ByteArray} {r e : Array Value} {u u' : World} (h : FourM w A1 A2 B1 B2 r e u) (hb : Below u.heap.size u u') : FourM w A1 A2 B1 B2 r e u' := by
  obtain ⟨h0, h1, h2, h3, h4, h5, h6⟩ := h
  exact ⟨below_to h0 hb, h1.below hb h1.lt, h2.below hb h2.lt, h3.below hb h3.lt, h4.below hb h4.lt, h5.below hb h5.lt, h6.below hb h6.lt⟩
theorem FourM.drew {w : World} {A1 A2 B1 B2 : ByteArray} {r e : Array Value} {u : World} (h : FourM w A1 A2 B1 B2 r e u) : FourM w A1 A2 B1 B2 r e u.drew := by
  obtain ⟨h0, h1, h2, h3, h4, h5, h6⟩ := h
  exact ⟨h0.drew, h1.drew, h2.drew, h3.drew, h4.drew, h5.drew, h6.drew⟩
theorem FourM.put {w : World} {A1 A2 B1 B2 : ByteArray} {r e : Array Value} {u : World} (h : FourM w A1 A2 B1 B2 r e u) (i j k : Nat) (x y z : Value) :
    FourM w A1 A2 B1 B2 ((r.setIfInBounds i x).setIfInBounds j y) (e.setIfInBounds k z) (((u.setCell ⟨w.heap.size + 1 + 1 + 1 + 1, i, none⟩ x).setCell ⟨w.heap.size + 1 + 1 + 1 + 1, j, none⟩ y).setCell ⟨w.heap.size + 1 + 1 + 1 + 1 + 1, k, none⟩ z) := by
  obtain ⟨h0, h1, h2, h3, h4, h5, h6⟩ := h
  refine ⟨((h0.setCell (by dsimp only; omega) _).setCell (by dsimp only; omega) _).setCell (by dsimp only; omega) _, ?_, ?_, ?_, ?_, ((h5.put i x).put j y).far (by dsimp only; omega) _, ((h6.far (by dsimp only; omega) _).far (by dsimp only; omega) _).put k z⟩
  · exact ((h1.far (by dsimp only; omega) _).far (by dsimp only; omega) _).far (by dsimp only; omega) _
  · exact ((h2.far (by dsimp only; omega) _).far (by dsimp only; omega) _).far (by dsimp only; omega) _
  · exact ((h3.far (by dsimp only; omega) _).far (by dsimp only; omega) _).far (by dsimp only; omega) _
  · exact ((h4.far (by dsimp only; omega) _).far (by dsimp only; omega) _).far (by dsimp only; omega) _
/-- What is known while four's results are laid: the two arrays, and where they go. -/
def RetS (w : World) (r e : Array Value) (u : World) : Prop :=
  Below w.heap.size w u ∧ (∃ x, Row u (w.heap.size + 1 + 1) 31 x ∧ x.size = 8) ∧ (∃ x, Row u (w.heap.size + 1 + 1 + 1) 33 x ∧ x.size = 4) ∧ Row u (w.heap.size + 1 + 1 + 1 + 1) 31 r ∧ Row u (w.heap.size + 1 + 1 + 1 + 1 + 1) 33 e
theorem row_set {u : World} {g : Nat} {t : TypeId} {x cs : Array Value} (h : Row u g t x) : Row (u.setRow g cs) g t cs := setRow_heap u g x cs t (0, 0) h
theorem row_far {u : World} {g k : Nat} {t : TypeId} {x cs : Array Value} (h : Row u k t x) (hk : k ≠ g) : Row (u.setRow g cs) k t x := (setRow_other u g k cs hk).trans h
theorem RetS.left {w : World} {r e : Array Value} {u : World} (h : RetS w r e u) (cs : Array Value) (hc : cs.size = 8) : RetS w r e (u.setRow (w.heap.size + 1 + 1) cs) ∧ Row (u.setRow (w.heap.size + 1 + 1) cs) (w.heap.size + 1 + 1) 31 cs := by
  obtain ⟨hb, ⟨x, hx, hxs⟩, ⟨y, hy, hys⟩, h5, h6⟩ := h
  exact ⟨⟨below_setRow hb (by omega) _, ⟨_, row_set hx, hc⟩, ⟨_, row_far hy (by omega), hys⟩, row_far h5 (by omega), row_far h6 (by omega)⟩, row_set hx⟩
theorem RetS.right {w : World} {r e : Array Value} {u : World} (h : RetS w r e u) (cs : Array Value) (hc : cs.size = 4) : RetS w r e (u.setRow (w.heap.size + 1 + 1 + 1) cs) ∧ Row (u.setRow (w.heap.size + 1 + 1 + 1) cs) (w.heap.size + 1 + 1 + 1) 33 cs := by
  obtain ⟨hb, ⟨x, hx, hxs⟩, ⟨y, hy, hys⟩, h5, h6⟩ := h
  exact ⟨⟨below_setRow hb (by omega) _, ⟨_, row_far hx (by omega), hxs⟩, ⟨_, row_set hy, hc⟩, row_far h5 (by omega), row_far h6 (by omega)⟩, row_set hy⟩
theorem yield_row {o : Oper} {a : Act} {u : World} {ty : TypeId} {x : Operand} {g : Nat} {cs : Array Value} (ho : o.op = .load ty x) (hx : a.eval x = .pointer (some ⟨g, 0, none⟩))
    (hl : (loadVar ty ⟨g, 0, none⟩).run Tryz.prog u = .ok (.agg cs) u) : (execOp a.eval o).run Tryz.prog u = .ok (.value (.agg cs)) u := by
  unfold execOp
  simp only [ho, hx, Instr.loadAt, Instr.sureAddr, Sem.run_bind, Sem.run_pure, Result.andThen_ok, hl]
theorem results_two {fn : Func} {p u : Tmp} (h : fn.results = #[.cell p 31, .cell u 33]) (tmps : Array Value) (w : World) (g g' : Nat) (r e : Array Value) (hp : tmps.getD p undef = .pointer (some ⟨g, 0, none⟩)) (hu : tmps.getD u undef = .pointer (some ⟨g', 0, none⟩)) (hg : Row w g 31 r) (hr : r.size = 8) (hg' : Row w g' 33 e) (he : e.size = 4) :
    (results fn tmps).run Tryz.prog w = .ok (.tuple #[.agg r, .agg e]) w := by
  have hp' : tmps[p]?.getD undef = .pointer (some ⟨g, 0, none⟩) := by simpa using hp
  have hu' : tmps[u]?.getD undef = .pointer (some ⟨g', 0, none⟩) := by simpa using hu
  have e1 := run_loadVar_row (P := Tryz.prog) w g 31 31 r (0, 0) _ hg Tryz.underlying31 rfl (by rw [hr]; kernel_rfl)
  have e2 := run_loadVar_row (P := Tryz.prog) w g' 33 33 e (0, 0) _ hg' Tryz.underlying33 rfl (by rw [he]; kernel_rfl)
  simp [results, h, hp', hu', asAddr, e1, e2]

set_option maxRecDepth 100000 in
set_option maxHeartbeats 4000000 in
theorem four_c (A1 A2 B1 B2 S0 T0 S1 T1 S2 T2 S3 T3 : ByteArray) (e0 e1 e2 e3 : Int)
    (C0 : CallT 38 #[rvB A1 A2, rvB B1 B2] (.tuple #[rvB S0 T0, .int .i64 e0]))
    (C1 : CallT 40 #[rvB A1 A2, rvB B1 B2] (.tuple #[rvB S1 T1, .int .i64 e1]))
    (C2 : CallT 39 #[rvB A1 A2, rvB B1 B2] (.tuple #[rvB S2 T2, .int .i64 e2]))
    (C3 : CallT 45 #[rvB A1 A2, rvB B1 B2] (.tuple #[rvB S3 T3, .int .i64 e3]))
    : CallT 15 #[rvB A1 A2, rvB B1 B2] (.tuple #[fourR S0 T0 S1 T1 S2 T2 S3 T3, fourE e0 e1 e2 e3]) := fun w ht => by
  have K0 := Lib.hid C0; have K1 := Lib.hid C1; have K2 := Lib.hid C2; have K3 := Lib.hid C3
  have HT := Lib.hid ht
  clear C0 C1 C2 C3 ht
  unfold rvB fourR fourE at *
  obtain ⟨W0, hW0⟩ : ∃ W0, ((((((w.alloc (.cells #[.string A1, .string A2] 23)).alloc (.cells #[.string B1, .string B2] 23)).alloc (.cells #[.string ⟨#[]⟩, .string ⟨#[]⟩, .string ⟨#[]⟩, .string ⟨#[]⟩, .string ⟨#[]⟩, .string ⟨#[]⟩, .string ⟨#[]⟩, .string ⟨#[]⟩] 31)).alloc (.cells #[.int .i64 0, .int .i64 0, .int .i64 0, .int .i64 0] 33)).alloc (.cells #[.string ⟨#[]⟩, .string ⟨#[]⟩, .string ⟨#[]⟩, .string ⟨#[]⟩, .string ⟨#[]⟩, .string ⟨#[]⟩, .string ⟨#[]⟩, .string ⟨#[]⟩] 31)).alloc (.cells #[.int .i64 0, .int .i64 0, .int .i64 0, .int .i64 0] 33)) = W0 := ⟨_, rfl⟩
  have hM : FourM w A1 A2 B1 B2 #[.string ⟨#[]⟩, .string ⟨#[]⟩, .string ⟨#[]⟩, .string ⟨#[]⟩, .string ⟨#[]⟩, .string ⟨#[]⟩, .string ⟨#[]⟩, .string ⟨#[]⟩] #[.int .i64 0, .int .i64 0, .int .i64 0, .int .i64 0] W0 := by
    rw [← hW0]
    refine ⟨((((((Below.refl _ _).alloc (Nat.le_refl _) _).alloc (by simp) _).alloc (by simp; omega) _).alloc (by simp; omega) _).alloc (by simp; omega) _).alloc (by simp; omega) _, ?_, ?_, ?_, ?_, ?_, ?_⟩
    · have h := Row.new w 23 #[.string A1, .string A2]
      exact (((((h).alloc _).alloc _).alloc _).alloc _).alloc _
    · have h := Row.new (w.alloc (.cells #[.string A1, .string A2] 23)) 23 #[.string B1, .string B2]
      simp only [World.size_alloc] at h
      exact ((((h).alloc _).alloc _).alloc _).alloc _
    · have h := Row.new ((w.alloc (.cells #[.string A1, .string A2] 23)).alloc (.cells #[.string B1, .string B2] 23)) 31 #[.string ⟨#[]⟩, .string ⟨#[]⟩, .string ⟨#[]⟩, .string ⟨#[]⟩, .string ⟨#[]⟩, .string ⟨#[]⟩, .string ⟨#[]⟩, .string ⟨#[]⟩]
      simp only [World.size_alloc] at h
      exact (((h).alloc _).alloc _).alloc _
    · have h := Row.new (((w.alloc (.cells #[.string A1, .string A2] 23)).alloc (.cells #[.string B1, .string B2] 23)).alloc (.cells #[.string ⟨#[]⟩, .string ⟨#[]⟩, .string ⟨#[]⟩, .string ⟨#[]⟩, .string ⟨#[]⟩, .string ⟨#[]⟩, .string ⟨#[]⟩, .string ⟨#[]⟩] 31)) 33 #[.int .i64 0, .int .i64 0, .int .i64 0, .int .i64 0]
      simp only [World.size_alloc] at h
      exact ((h).alloc _).alloc _
    · have h := Row.new ((((w.alloc (.cells #[.string A1, .string A2] 23)).alloc (.cells #[.string B1, .string B2] 23)).alloc (.cells #[.string ⟨#[]⟩, .string ⟨#[]⟩, .string ⟨#[]⟩, .string ⟨#[]⟩, .string ⟨#[]⟩, .string ⟨#[]⟩, .string ⟨#[]⟩, .string ⟨#[]⟩] 31)).alloc (.cells #[.int .i64 0, .int .i64 0, .int .i64 0, .int .i64 0] 33)) 31 #[.string ⟨#[]⟩, .string ⟨#[]⟩, .string ⟨#[]⟩, .string ⟨#[]⟩, .string ⟨#[]⟩, .string ⟨#[]⟩, .string ⟨#[]⟩, .string ⟨#[]⟩]
      simp only [World.size_alloc] at h
      exact (h).alloc _
    · have h := Row.new (((((w.alloc (.cells #[.string A1, .string A2] 23)).alloc (.cells #[.string B1, .string B2] 23)).alloc (.cells #[.string ⟨#[]⟩, .string ⟨#[]⟩, .string ⟨#[]⟩, .string ⟨#[]⟩, .string ⟨#[]⟩, .string ⟨#[]⟩, .string ⟨#[]⟩, .string ⟨#[]⟩] 31)).alloc (.cells #[.int .i64 0, .int .i64 0, .int .i64 0, .int .i64 0] 33)).alloc (.cells #[.string ⟨#[]⟩, .string ⟨#[]⟩, .string ⟨#[]⟩, .string ⟨#[]⟩, .string ⟨#[]⟩, .string ⟨#[]⟩, .string ⟨#[]⟩, .string ⟨#[]⟩] 31)) 33 #[.int .i64 0, .int .i64 0, .int .i64 0, .int .i64 0]
      simp only [World.size_alloc] at h
      exact h
  have HM := Lib.hid hM
  have HW0 := Lib.hid hW0
  clear hW0
  obtain ⟨-, h1, h2, -⟩ := hM
  have p0 : W0.cell? ⟨w.heap.size, 0, none⟩ = some (.string A1) := h1.cell 0
  have p1 : W0.cell? ⟨w.heap.size, 1, none⟩ = some (.string A2) := h1.cell 1
  have q0 : W0.cell? ⟨w.heap.size + 1, 0, none⟩ = some (.string B1) := h2.cell 0
  have q1 : W0.cell? ⟨w.heap.size + 1, 1, none⟩ = some (.string B2) := h2.cell 1
  clear h1 h2
  go_enter Tryz.func15, Tryz.ntmps15
  go_upto_region 3 with (fail)
  rw [HW0.out]
  clear HW0
  go_upto_region 4 with (first | (go_at_call 38; go_loud ((with_reducible refine Calls.mono (K0.out _ (HT.out.next HM.out.base)) ?_); rintro e w1 ⟨rfl, hb⟩; have hm := HM.out.below hb; obtain ⟨-, -, -, -, -, h5, h6⟩ := id hm; have o0 : w1.cell? ⟨w.heap.size + 1 + 1 + 1 + 1, 0, none⟩ = some (.string ⟨#[]⟩) := h5.cell 0; have o1 : w1.cell? ⟨w.heap.size + 1 + 1 + 1 + 1, 1, none⟩ = some (.string ⟨#[]⟩) := h5.cell 1; have o2 : w1.cell? ⟨w.heap.size + 1 + 1 + 1 + 1 + 1, 0, none⟩ = some (.int .i64 0) := h6.cell 0; have f0 := h5.free 0; have f1 := h5.free 1; have f2 := h6.free 0; clear h5 h6; replace HM := Lib.hid (hm.put 0 1 0 (.string S0) (.string T0) (.int .i64 e0)); clear hb hm)))
  obtain ⟨W1, hW1⟩ : ∃ W', ((w1.setCell ⟨w.heap.size + 1 + 1 + 1 + 1, 0, none⟩ (.string S0)).setCell ⟨w.heap.size + 1 + 1 + 1 + 1, 1, none⟩ (.string T0)).setCell ⟨w.heap.size + 1 + 1 + 1 + 1 + 1, 0, none⟩ (.int .i64 e0) = W' := ⟨_, rfl⟩
  rw [hW1] at HM ⊢
  clear hW1 o0 o1 o2 f0 f1 f2 p0 p1 q0 q1
  clear w1
  obtain ⟨-, h1, h2, -⟩ := id HM.out
  have p0 : W1.cell? ⟨w.heap.size, 0, none⟩ = some (.string A1) := h1.cell 0
  have p1 : W1.cell? ⟨w.heap.size, 1, none⟩ = some (.string A2) := h1.cell 1
  have q0 : W1.cell? ⟨w.heap.size + 1, 0, none⟩ = some (.string B1) := h2.cell 0
  have q1 : W1.cell? ⟨w.heap.size + 1, 1, none⟩ = some (.string B2) := h2.cell 1
  clear h1 h2
  go_upto_region 5 with (first | (go_at_call 40; go_loud ((with_reducible refine Calls.mono (K1.out _ (HT.out.next HM.out.base)) ?_); rintro e w1 ⟨rfl, hb⟩; have hm := HM.out.below hb; obtain ⟨-, -, -, -, -, h5, h6⟩ := id hm; have o0 : w1.cell? ⟨w.heap.size + 1 + 1 + 1 + 1, 2, none⟩ = some (.string ⟨#[]⟩) := h5.cell 2; have o1 : w1.cell? ⟨w.heap.size + 1 + 1 + 1 + 1, 3, none⟩ = some (.string ⟨#[]⟩) := h5.cell 3; have o2 : w1.cell? ⟨w.heap.size + 1 + 1 + 1 + 1 + 1, 1, none⟩ = some (.int .i64 0) := h6.cell 1; have f0 := h5.free 2; have f1 := h5.free 3; have f2 := h6.free 1; clear h5 h6; replace HM := Lib.hid (hm.put 2 3 1 (.string S1) (.string T1) (.int .i64 e1)); clear hb hm)))
  obtain ⟨W2, hW2⟩ : ∃ W', ((w1.setCell ⟨w.heap.size + 1 + 1 + 1 + 1, 2, none⟩ (.string S1)).setCell ⟨w.heap.size + 1 + 1 + 1 + 1, 3, none⟩ (.string T1)).setCell ⟨w.heap.size + 1 + 1 + 1 + 1 + 1, 1, none⟩ (.int .i64 e1) = W' := ⟨_, rfl⟩
  rw [hW2] at HM ⊢
  clear hW2 o0 o1 o2 f0 f1 f2 p0 p1 q0 q1
  clear w1
  obtain ⟨-, h1, h2, -⟩ := id HM.out
  have p0 : W2.cell? ⟨w.heap.size, 0, none⟩ = some (.string A1) := h1.cell 0
  have p1 : W2.cell? ⟨w.heap.size, 1, none⟩ = some (.string A2) := h1.cell 1
  have q0 : W2.cell? ⟨w.heap.size + 1, 0, none⟩ = some (.string B1) := h2.cell 0
  have q1 : W2.cell? ⟨w.heap.size + 1, 1, none⟩ = some (.string B2) := h2.cell 1
  clear h1 h2
  go_upto_region 6 with (first | (go_at_call 39; go_loud ((with_reducible refine Calls.mono (K2.out _ (HT.out.next HM.out.base)) ?_); rintro e w1 ⟨rfl, hb⟩; have hm := HM.out.below hb; obtain ⟨-, -, -, -, -, h5, h6⟩ := id hm; have o0 : w1.cell? ⟨w.heap.size + 1 + 1 + 1 + 1, 4, none⟩ = some (.string ⟨#[]⟩) := h5.cell 4; have o1 : w1.cell? ⟨w.heap.size + 1 + 1 + 1 + 1, 5, none⟩ = some (.string ⟨#[]⟩) := h5.cell 5; have o2 : w1.cell? ⟨w.heap.size + 1 + 1 + 1 + 1 + 1, 2, none⟩ = some (.int .i64 0) := h6.cell 2; have f0 := h5.free 4; have f1 := h5.free 5; have f2 := h6.free 2; clear h5 h6; replace HM := Lib.hid (hm.put 4 5 2 (.string S2) (.string T2) (.int .i64 e2)); clear hb hm)))
  obtain ⟨W3, hW3⟩ : ∃ W', ((w1.setCell ⟨w.heap.size + 1 + 1 + 1 + 1, 4, none⟩ (.string S2)).setCell ⟨w.heap.size + 1 + 1 + 1 + 1, 5, none⟩ (.string T2)).setCell ⟨w.heap.size + 1 + 1 + 1 + 1 + 1, 2, none⟩ (.int .i64 e2) = W' := ⟨_, rfl⟩
  rw [hW3] at HM ⊢
  clear hW3 o0 o1 o2 f0 f1 f2 p0 p1 q0 q1
  clear w1
  obtain ⟨-, h1, h2, -⟩ := id HM.out
  have p0 : W3.cell? ⟨w.heap.size, 0, none⟩ = some (.string A1) := h1.cell 0
  have p1 : W3.cell? ⟨w.heap.size, 1, none⟩ = some (.string A2) := h1.cell 1
  have q0 : W3.cell? ⟨w.heap.size + 1, 0, none⟩ = some (.string B1) := h2.cell 0
  have q1 : W3.cell? ⟨w.heap.size + 1, 1, none⟩ = some (.string B2) := h2.cell 1
  clear h1 h2
  go_upto_region 7 with (first | (go_at_call 45; go_loud ((with_reducible refine Calls.mono (K3.out _ (HT.out.next HM.out.base)) ?_); rintro e w1 ⟨rfl, hb⟩; have hm := HM.out.below hb; obtain ⟨-, -, -, -, -, h5, h6⟩ := id hm; have o0 : w1.cell? ⟨w.heap.size + 1 + 1 + 1 + 1, 6, none⟩ = some (.string ⟨#[]⟩) := h5.cell 6; have o1 : w1.cell? ⟨w.heap.size + 1 + 1 + 1 + 1, 7, none⟩ = some (.string ⟨#[]⟩) := h5.cell 7; have o2 : w1.cell? ⟨w.heap.size + 1 + 1 + 1 + 1 + 1, 3, none⟩ = some (.int .i64 0) := h6.cell 3; have f0 := h5.free 6; have f1 := h5.free 7; have f2 := h6.free 3; clear h5 h6; replace HM := Lib.hid (hm.put 6 7 3 (.string S3) (.string T3) (.int .i64 e3)); clear hb hm)))
  obtain ⟨W4, hW4⟩ : ∃ W', ((w1.setCell ⟨w.heap.size + 1 + 1 + 1 + 1, 6, none⟩ (.string S3)).setCell ⟨w.heap.size + 1 + 1 + 1 + 1, 7, none⟩ (.string T3)).setCell ⟨w.heap.size + 1 + 1 + 1 + 1 + 1, 3, none⟩ (.int .i64 e3) = W' := ⟨_, rfl⟩
  rw [hW4] at HM ⊢
  clear hW4 o0 o1 o2 f0 f1 f2 p0 p1 q0 q1
  clear w1
  obtain ⟨-, h1, h2, -⟩ := id HM.out
  have p0 : W4.cell? ⟨w.heap.size, 0, none⟩ = some (.string A1) := h1.cell 0
  have p1 : W4.cell? ⟨w.heap.size, 1, none⟩ = some (.string A2) := h1.cell 1
  have q0 : W4.cell? ⟨w.heap.size + 1, 0, none⟩ = some (.string B1) := h2.cell 0
  have q1 : W4.cell? ⟨w.heap.size + 1, 1, none⟩ = some (.string B2) := h2.cell 1
  clear h1 h2
  obtain ⟨hb, -, -, h3, h4, h5, h6⟩ := id HM.out
  have hS : RetS w #[.string S0, .string T0, .string S1, .string T1, .string S2, .string T2, .string S3, .string T3] #[.int .i64 e0, .int .i64 e1, .int .i64 e2, .int .i64 e3] W4.drew := ⟨hb.drew, ⟨_, h3.drew, rfl⟩, ⟨_, h4.drew, rfl⟩, h5.drew, h6.drew⟩
  clear h3 h4 h5 h6 hb p0 p1 q0 q1 K0 K1 K2 K3 HM HT
  refine wp_region_held_drew (S := RetS w #[.string S0, .string T0, .string S1, .string T1, .string S2, .string T2, .string S3, .string T3] #[.int .i64 e0, .int .i64 e1, .int .i64 e2, .int .i64 e3]) (by kernel_rfl) hS (fun _ => ?_)
  refine wpAnyH_take (i := 0) (oi := { dst := some 40, op := Op.load 31 (Operand.tmp 6), type := 31, pos := "law.go:57", after := #[], guard := none }) (v := .agg #[.string S0, .string T0, .string S1, .string T1, .string S2, .string T2, .string S3, .string T3]) rfl (by kernel_rfl) (by kernel_rfl) (by kernel_rfl) (fun _ _ _ h => h) (Or.inl ⟨by rfl, fun u hu => ?_⟩) hS ?_
  · exact yield_row rfl rfl (run_loadVar_row u _ _ _ _ (0, 0) _ hu.2.2.2.1 Tryz.underlying31 rfl (by kernel_rfl))
  refine wpAnyH_take (i := 1) (oi := { dst := some 41, op := Op.load 33 (Operand.tmp 7), type := 33, pos := "law.go:57", after := #[{ on := 2, ground := Ground.gcOnly Departure.lateStores }], guard := none }) (v := .agg #[.int .i64 e0, .int .i64 e1, .int .i64 e2, .int .i64 e3]) rfl (by kernel_rfl) (by kernel_rfl) (by kernel_rfl) (fun _ _ _ h => h) (Or.inl ⟨by rfl, fun u hu => ?_⟩) hS ?_
  · exact yield_row rfl rfl (run_loadVar_row u _ _ _ _ (0, 0) _ hu.2.2.2.2 Tryz.underlying33 rfl (by kernel_rfl))
  simp only [Act.put, List.setIfInBounds_toArray, List.set_cons_zero, List.set_cons_succ]
  refine wpAnyH_ready (rs := [2]) (by kernel_rfl) (by simp) ?_
  refine AllReadyH.cons rfl (fun K hK => ?_) AllReadyH.nil
  refine (if_pos (by rfl)).mpr ?_
  obtain ⟨-, ⟨x, hx, hxs⟩, ⟨y, hy, hys⟩, -, -⟩ := id hS
  refine wp_store_row 31 _ _ rfl (w.heap.size + 1 + 1) #[.string S0, .string T0, .string S1, .string T1, .string S2, .string T2, .string S3, .string T3] rfl rfl _ _ hx (by kernel_rfl) hxs (by simp [Value.oneCell']) ?_
  obtain ⟨hS2, hz⟩ := RetS.left hS #[.string S0, .string T0, .string S1, .string T1, .string S2, .string T2, .string S3, .string T3] rfl
  refine hK.out _ _ hS2 (fun _ => ?_)
  clear hK hx hxs hy hys
  obtain ⟨-, ⟨x, hx, hxs⟩, ⟨y, hy, hys⟩, -, -⟩ := id hS2
  simp only [Act.put, List.setIfInBounds_toArray]
  refine wpAnyH_ready (rs := [3]) (by kernel_rfl) (by simp) ?_
  refine AllReadyH.cons rfl (fun K hK => ?_) AllReadyH.nil
  refine (if_pos (by rfl)).mpr ?_
  refine wp_store_row 33 _ _ rfl (w.heap.size + 1 + 1 + 1) #[.int .i64 e0, .int .i64 e1, .int .i64 e2, .int .i64 e3] rfl rfl _ _ hy (by kernel_rfl) hys (by simp [Value.oneCell']) ?_
  obtain ⟨hS3, hv⟩ := RetS.right hS2 #[.int .i64 e0, .int .i64 e1, .int .i64 e2, .int .i64 e3] rfl
  refine hK.out _ _ hS3 (fun _ => ?_)
  have hz2 := row_far (cs := #[.int .i64 e0, .int .i64 e1, .int .i64 e2, .int .i64 e3]) hz (by omega : (w.heap.size + 1 + 1) ≠ (w.heap.size + 1 + 1 + 1))
  have hb := hS3.1
  refine wpAnyH_done (by kernel_rfl) ?_ _
  go_wp2
  exact bodyPost_ret (results_two rfl _ _ (w.heap.size + 1 + 1) (w.heap.size + 1 + 1 + 1) _ _ rfl rfl hz2 rfl hv rfl) rfl ⟨rfl, hb⟩
end Go.Proofs.YtabkodpjhpjgnaaGreatDoor
