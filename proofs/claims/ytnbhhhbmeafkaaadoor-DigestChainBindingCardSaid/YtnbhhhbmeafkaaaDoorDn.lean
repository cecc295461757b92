/- Contracts of AppendSeq and Collect over forks: the slice of the parts on the way down. -/
import Derived.Test.YtnbhhhbmeafkaaaDoorDl
namespace Go.Proofs.YtnbhhhbmeafkaaaDoor
open Go.RowKit Go.Shelf
attribute [local go_sem] Oper.semAt_some

theorem Tryd.infoFk : (Tryd.prog.info? 57).map (fun i => (i.zero, i.size, i.bytes)) = some (some (.agg #[.int .i64 0, .int .i64 0, .int .i64 0, .bool false]), 4, 32) := by kernel_rfl
def fkCells (fs : List Dm.Fk) : List Value := fs.flatMap fun f => [.int .i64 (f.fr : Int), .int .i64 (f.mid : Int), .int .i64 (f.to : Int), .bool f.sec]
theorem fkCells_snoc (fs : List Dm.Fk) (f : Dm.Fk) : fkCells (fs ++ [f]) = fkCells fs ++ [.int .i64 (f.fr : Int), .int .i64 (f.mid : Int), .int .i64 (f.to : Int), .bool f.sec] := by simp [fkCells]
theorem fkCells_len (fs : List Dm.Fk) : (fkCells fs).length = 4 * fs.length := by
  induction fs with
  | nil => rfl
  | cons f fs ih =>
    have e : fkCells (f :: fs) = [.int .i64 (f.fr : Int), .int .i64 (f.mid : Int), .int .i64 (f.to : Int), .bool f.sec] ++ fkCells fs := by simp [fkCells]
    rw [e, List.length_append, ih]; simp; omega

theorem forks_gives (m n i : Nat) (hn : n ≤ 9223372036854775807) (hi : i ≤ 9223372036854775807) (no : World → Nat → Prop) (Bn Bi : Nat) (w : World)
    (rn : Row w Bn 3 #[.int .i64 (n : Int)]) (ri : Row w Bi 3 #[.int .i64 (i : Int)]) :
    GivesOr Fence.wide m Tryd.prog 62 #[.pointer (some ⟨Bn, 0, none⟩), .pointer (some ⟨Bi, 0, none⟩)] encF no (fun k => k = Bi) 64 (fun xs => fkL xs = Dm.forks 64 0 n i) (fun pre : List (FkN n) => fkL pre <+: Dm.forks 64 0 n i) w := by
  intro l J Jx W hb _ _ hJ hJn hY h0
  exact forks1_in no l W.heap.size m Bn Bi n i hn hi J Jx hJ hJn hY W (Nat.le_refl _) (rn.below hb rn.lt) (ri.below hb ri.lt) h0

/-- A box at B, of a slice that owns the cells xs. -/
def OwnBox (W : World) (B base : Nat) (t e : TypeId) (size n : Nat) (xs : List Value) : Prop := ∃ v, Boxed W B t v ∧ W.ownsRow base e size v n xs
theorem OwnBox.grow {W W' : World} {B base : Nat} {t e : TypeId} {size n : Nat} {xs : List Value} (h : OwnBox W B base t e size n xs) (hb : Below W.heap.size W W') : OwnBox W' B base t e size n xs := by
  obtain ⟨v, h1, h2⟩ := h
  exact ⟨v, (hb.block B h1.lt).trans h1, own_below h2 hb (own_lt h2)⟩
theorem OwnBox.putObj {W : World} {B base : Nat} {t e : TypeId} {size n : Nat} {xs : List Value} (h : OwnBox W B base t e size n xs) {r : Nat} (o : Obj) (hr : r ≠ B) (hr2 : r < base) : OwnBox (W.putObj r o) B base t e size n xs := by
  obtain ⟨v, h1, h2⟩ := h
  refine ⟨v, (World.putObj_heap_other (Ne.symm hr)).trans h1, h2.1, ?_⟩
  rcases h2.2 with h3 | ⟨g, cap, cur, rfl, h3, h4, h5⟩
  · exact .inl h3
  · exact .inr ⟨g, cap, cur, rfl, h3, (World.putObj_heap_other (by omega)).trans h4, h5⟩
def ownNo (B : Nat) (W : World) (k : Nat) : Prop := k = B ∨ ∃ v, W.cell? ⟨B, 0, none⟩ = some v ∧ v.ownBlock = some k
theorem ownNo_grow {W W' : World} {B : Nat} {t : TypeId} {v : Value} (h : Boxed W B t v) (hb : Below W.heap.size W W') (k : Nat) (hk : ownNo B W' k) : ownNo B W k := by
  rcases hk with hk | ⟨u, hu, hk⟩
  · exact .inl hk
  · exact .inr ⟨u, (hb.cell (p := ⟨B, 0, none⟩) h.lt).symm.trans hu, hk⟩
theorem ownNo_putObj {W : World} {B r : Nat} {o : Obj} (hr : r ≠ B) (k : Nat) (hk : ownNo B (W.putObj r o) k) : ownNo B W k := by
  rcases hk with hk | ⟨u, hu, hk⟩
  · exact .inl hk
  · refine .inr ⟨u, ?_, hk⟩
    rw [← hu]; exact (World.cell?_of_block (World.putObj_heap_other (Ne.symm hr))).symm
theorem ownNo_is {W : World} {B base : Nat} {t e : TypeId} {size n : Nat} {xs : List Value} (h : OwnBox W B base t e size n xs) (k : Nat) (hk : ownNo B W k) : k < W.heap.size ∧ (k = B ∨ base ≤ k) := by
  obtain ⟨v, h1, h2⟩ := h
  rcases hk with rfl | ⟨u, hu, hk⟩
  · exact ⟨h1.lt, .inl rfl⟩
  · rw [h1.cell] at hu
    obtain rfl := Option.some.inj hu
    exact ⟨own_lt h2 k hk, .inr (own_ge h2 k hk)⟩
/-- An element is appended to the row of a box, by way of a new block. -/
theorem ownBox_append {W w1 : World} {B base : Nat} {t e : TypeId} {size n m : Nat} {v v' : Value} {xs ys : List Value} {tmp : Obj} (hv : Boxed W B t v) (hrow : W.ownsRow base e size v n xs) (hB : B < base)
    (hown : w1.ownsRow base e size v' m ys) (hg : (W.alloc tmp).grownBy w1 v.ownBlock) :
    Boxed w1 B t v ∧ OwnBox (w1.setCell ⟨B, 0, none⟩ v') B base t e size m ys ∧ Keeps (ownNo B W) W (w1.setCell ⟨B, 0, none⟩ v') := by
  have h1 : Boxed w1 B t v := (hg.block B (by have := hv.lt; simp; omega) (fun e => by have := own_ge hrow B e.symm; omega)).trans (hv.alloc tmp)
  refine ⟨h1, ⟨v', h1.set v', ownsRow_setCell_below hown hB _⟩, ?_⟩
  have k1 : Keeps (ownNo B W) W w1 := ⟨hg.os, hg.tape, hg.output, by have := hg.size; simp at this; omega, fun k hk hn => by
    rw [hg.block k (by simp; omega) (fun e => hn (.inr ⟨v, hv.cell, e.symm⟩))]
    exact Below.heap_alloc _ _ _ hk⟩
  exact k1.trans (Keeps.setCell (.inl rfl) _)

set_option maxRecDepth 100000 in
set_option maxHeartbeats 2000000 in
theorem appendSeq_in (n i Bn Bi : Nat) (hn : n ≤ 9223372036854775807) (hi : i ≤ 9223372036854775807) (w : World) (rn : Row w Bn 3 #[.int .i64 (n : Int)]) (ri : Row w Bi 3 #[.int .i64 (i : Int)]) :
    Calls Tryd.prog 66 #[.slice none 0 0, .func (.func 62) #[] #[.pointer (some ⟨Bn, 0, none⟩), .pointer (some ⟨Bi, 0, none⟩)]] w fun e w' =>
      ∃ v, e = .returned v ∧ w'.ownsRow w.heap.size 57 4 v (Dm.forks 64 0 n i).length (fkCells (Dm.forks 64 0 n i)) ∧ Below w.heap.size w w' := by
  obtain ⟨i0, hi0, hz0, hz1, hz2⟩ := info_parts Tryd.infoFk
  refine (callsIn_wide (n := 3)).1 ?_
  refine callsIn_of_wp_marks Tryd.func66 rfl trivial ?_ rfl
  simp only [Tryd.ntmps66, List.size_toArray, List.length_cons, List.length_nil, Nat.reduceAdd, Nat.reduceSub, Array.replicate_succ, Array.replicate_zero, List.push_toArray, List.append_toArray, List.nil_append, List.cons_append]
  gi_wp2
  obtain ⟨W0, hW0⟩ : ∃ W0, w.alloc (.cells #[.slice none 0 0] 60) = W0 := ⟨_, rfl⟩
  have hb0 : Below w.heap.size w W0 := by rw [← hW0]; exact (Below.refl _ w).alloc (Nat.le_refl _) _
  have hs0 : W0.heap.size = w.heap.size + 1 := by rw [← hW0]; simp
  have bx0 : Boxed W0 w.heap.size 60 (.slice none 0 0) := by rw [← hW0]; exact Boxed.new w _ _
  rw [hW0]
  clear hW0
  refine rangeFunc_or (F := Fence.wide) rfl (by decide) (gf := 62) (lb := #[.pointer (some ⟨Bn, 0, none⟩), .pointer (some ⟨Bi, 0, none⟩)]) rfl trivial (enters_of Tryd.func62 (by kernel_rfl) rfl)
    (no := ownNo w.heap.size) (encs := encF)
    (forks_gives (3 - 1) n i hn hi _ Bn Bi W0 (rn.below hb0 rn.lt) (ri.below hb0 ri.lt))
    (fun _ => rfl) (fun k e => by have := ri.lt; omega)
    (fun pre W => OwnBox W w.heap.size (W0.heap.size + 2) 60 57 4 pre.length (fkCells (fkL pre)) ∧ Below w.heap.size w W)
    (fun pre X Y k h hb hk => by
      have h1 : ownNo w.heap.size X k := by obtain ⟨v, h1, _⟩ := h.1; exact ownNo_grow h1 hb k hk
      have h2 := ownNo_is h.1 k h1
      have := ri.lt
      exact ⟨h1, h2.1, by omega, by omega, by omega⟩)
    (fun pre X o k h hk => ownNo_putObj (by omega) k hk)
    (fun _ _ _ => False) (fun _ _ _ _ _ _ h => h)
    (fun pre X Y h hb => ⟨h.1.grow hb, h.2.trans (hb.mono h.2.size)⟩)
    (fun pre X r o hr h => ⟨h.1.putObj o (by omega) (by omega), h.2.trans ⟨rfl, rfl, rfl, by simp, fun k hk => World.putObj_heap_other (by omega)⟩⟩)
    ⟨⟨_, bx0, World.ownsRow_nil _ _ _ _⟩, hb0⟩
    (fun x a' W => ∃ Bx, W0.heap.size + 2 ≤ Bx ∧ Row W Bx 57 #[.int .i64 (x.1.fr : Int), .int .i64 (x.1.mid : Int), .int .i64 (x.1.to : Int), .bool x.1.sec] ∧
      a' = { tmps := #[.slice none 0 0, .func (.func 62) #[] #[.pointer (some ⟨Bn, 0, none⟩), .pointer (some ⟨Bi, 0, none⟩)], .pointer (some ⟨w.heap.size, 0, none⟩), undef, .slice none 0 0, .pointer (some ⟨Bx, 0, none⟩), .func (.func 62) #[] #[.pointer (some ⟨Bn, 0, none⟩), .pointer (some ⟨Bi, 0, none⟩)], .agg #[.int .i64 (x.1.fr : Int), .int .i64 (x.1.mid : Int), .int .i64 (x.1.to : Int), .bool x.1.sec], undef, undef, undef, undef, undef], defers := [] })
    (fun x a' W r o h1 h2 ⟨Bx, h3, h4, h5⟩ => ⟨Bx, h3, (World.putObj_heap_other (by omega)).trans h4, h5⟩) ?assign ?body ?done ?stop
  case assign =>
    intro l pre x W K hsz hI hK
    unfold encF fkV
    have rx := Row.new W 57 #[.int .i64 (x.1.fr : Int), .int .i64 (x.1.mid : Int), .int .i64 (x.1.to : Int), .bool x.1.sec]
    have HK := Lib.hid hK; have RX := Lib.hid rx
    clear hK rx
    gi_wp2
    exact HK.out _ _ ((Below.refl _ _).alloc (Nat.le_refl _) _) ⟨_, by omega, RX.out, rfl⟩
  case body =>
    rintro l pre x a' W hsz ⟨⟨v, hv, hrow⟩, hB⟩ ⟨Bx, h1, h2, rfl⟩ hlen
    have cx0 := h2.cell 0; have cx1 := h2.cell 1; have cx2 := h2.cell 2; have cx3 := h2.cell 3
    simp only [List.getElem?_toArray, List.getElem?_cons_zero, List.getElem?_cons_succ] at cx0 cx1 cx2 cx3
    have hc := hv.cell
    have H2 := Lib.hid h2
    clear h2
    gi_wp2_with (gi_at_builtin; refine wpListIn_append_own _ rfl _ _ 60 rfl (W0.heap.size + 2) 57 i0 (.agg #[.int .i64 0, .int .i64 0, .int .i64 0, .bool false]) 4 32 Tryd.underlying60 hi0 hz0 hz1 hz2 rfl (by decide) _ _ _ rfl (hrow.alloc _) ⟨W.heap.size, 0, none⟩ 1 1 [.int .i64 (x.1.fr : Int), .int .i64 (x.1.mid : Int), .int .i64 (x.1.to : Int), .bool x.1.sec] rfl rfl (cells_new _ _ _) (by simp [Value.oneCell']) (by unfold maxLen; omega) (by omega) (by simp; omega) ?_; intro v' w1 hown' hgrow _; obtain ⟨g', cap', rfl⟩ := ownsRow_succ hown'; obtain ⟨hv1, hv2, hk2⟩ := ownBox_append hv hrow (by omega) hown' hgrow; have hc1 := hv1.cell; have hf1 := hv1.frozen)
    refine ⟨hk2, ?_, hB.trans (hk2.below (fun k hk => by have := ownNo_is ⟨v, hv, hrow⟩ k hk; omega) hB.size)⟩
    rw [fkL_snoc, fkCells_snoc, List.length_append, List.length_singleton]
    exact hv2
  case done =>
    rintro D xs W hD hS ⟨⟨v, hv, hrow⟩, hB⟩ hK
    have hc := hv.cell
    have hl : xs.length = (Dm.forks 64 0 n i).length := by rw [← hS]; simp [fkL]
    rw [hS, hl] at hrow
    have HROW := Lib.hid hrow
    clear hrow hl hS
    gi_wp2
    refine ⟨by simp, .inl ⟨_, _, rfl, run_takeDeferred hK, ?_⟩⟩
    refine ⟨_, results_tmp rfl _ _ _, _, rfl, ?_, hB.trans (belowK_b (w := w) (Nat.le_refl _) W D _ _ (by omega) hK rfl rfl)⟩
    have h1 := HROW.out
    refine ⟨h1.1, ?_⟩
    rcases h1.2 with h3 | ⟨g, cap, cur, e, h3, h4, h5⟩
    · exact .inl h3
    · exact .inr ⟨g, cap, cur, e, by omega, (World.putObj_heap_other (fun e => by rw [e, hK] at h4; cases h4)).trans h4, h5⟩
  case stop =>
    rintro D c pre W _ _ h _
    exact h.elim
end Go.Proofs.YtnbhhhbmeafkaaaDoor
