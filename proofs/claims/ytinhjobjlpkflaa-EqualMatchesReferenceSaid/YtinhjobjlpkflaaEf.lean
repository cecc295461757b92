/- Accounts in memory; totals' add, accounts' serve. -/
import Derived.Test.YtinhjobjlpkflaaEk
import Derived.StillTailTactics
namespace Go.Proofs.Ytinhjobjlpkflaa
open Go.RowKit
attribute [local go_sem ↓] append_appN

def encC (c : Cl) : List Value := [.int .i64 c.cand, .int .i64 c.of_, .int .i64 c.rest, .int .i64 c.until_]
def encP (x : Ap) : List Value := [.int .i64 x.cand, .int .i64 x.at_, .int .i64 x.secs, .int .i64 x.weight]
abbrev pt (g : Nat) : Value := .pointer (some ⟨g, 0, none⟩)
theorem infoClaim : (Try.prog.info? 39).map (fun i => (i.zero, i.size, i.bytes)) = some (some (.agg #[.int .i64 0, .int .i64 0, .int .i64 0, .int .i64 0]), 4, 32) := by kernel_rfl
theorem encC_one (x : Cl) : ∀ u ∈ encC x, u.oneCell' = true := fun u hu => by
  simp only [encC, List.mem_cons, List.not_mem_nil, or_false] at hu
  rcases hu with rfl | rfl | rfl | rfl <;> rfl
/-- A row of one's own of claims that is gathered. -/
structure GatC (w : World) (L : List Cl) (o : Value) (wr : World) : Prop where
  own : wr.ownsRow w.heap.size 39 4 o L.length (flatE encC L)
  b : Below w.heap.size w wr
theorem GatC.next {w : World} {L : List Cl} {o : Value} {wr wr' : World} (h : GatC w L o wr) (hb : Below wr.heap.size wr wr') : GatC w L o wr' := ⟨own_below h.own hb, below_to h.b hb⟩
theorem snoc_claim {w : World} {B n : Nat} {v : Value} {l : List Cl} (x : Cl) (hrow : w.ownsRow B 39 4 v n (flatE encC l)) (hn : n ≤ 100000) (hB : B ≤ w.heap.size) {cs : Array Value} (hcs : (encC x).toArray = cs) :
    ∃ A c w', Sem.run Try.prog (appN #[31, 31] 31 #[v, .slice (some ⟨w.heap.size, 0, none⟩) 1 1]) (w.alloc (.cells cs 39)) = .ok (.slice A (n + 1) c) w' ∧
      w'.ownsRow B 39 4 (.slice A (n + 1) c) (n + 1) (flatE encC (l ++ [x])) ∧ (w.alloc (.cells cs 39)).grownBy w' v.ownBlock ∧ ((Value.slice A (n + 1) c).ownBlock = v.ownBlock ∨ (Value.slice A (n + 1) c).ownBlock = some (w.heap.size + 1)) := by
  subst hcs
  obtain ⟨i0, hi0, hz0, hz1, hz2⟩ := info_parts infoClaim
  have hnews : ∀ j u, (encC x)[j]? = some u → (w.alloc (.cells (encC x).toArray 39)).cell? (Addr.add ⟨w.heap.size, 0, none⟩ j) = some u := fun j u hj => by
    have hc := (Row.new w 39 (encC x).toArray).cell j
    have ha : Addr.add ⟨w.heap.size, 0, none⟩ j = ⟨w.heap.size, j, none⟩ := by rw [Addr.add_lit, Nat.zero_add]
    rw [ha, hc]; simpa using hj
  obtain ⟨v', w', hrun, hown, hgr, -, hloc⟩ := run_append_own_at (P := Try.prog) (w := w.alloc (.cells (encC x).toArray 39)) B 31 31 39 i0 _ 4 32 Try.underlying31 hi0 hz0 hz1 hz2 rfl (by decide)
    v n _ (hrow.alloc _) ⟨w.heap.size, 0, none⟩ 1 1 (encC x) rfl hnews (encC_one x) (by unfold maxLen; omega) (by omega) (by simp; omega)
  obtain ⟨A, c, rfl, -⟩ := own_slice hown
  rw [World.size_alloc] at hloc
  refine ⟨A, c, w', hrun, ?_, hgr, hloc⟩
  rw [flatE_append, show flatE encC [x] = encC x by simp [flatE]]
  exact hown
theorem GatC.push {w : World} {L : List Cl} {o : Value} {wr : World} (h : GatC w L o wr) (hl : L.length ≤ 100000) (x : Cl) {cs : Array Value} (hcs : (encC x).toArray = cs) :
    ∃ A c w', Sem.run Try.prog (appN #[31, 31] 31 #[o, .slice (some ⟨wr.heap.size, 0, none⟩) 1 1]) (wr.alloc (.cells cs 39)) = .ok (.slice A (L.length + 1) c) w' ∧ GatC w (L ++ [x]) (.slice A (L.length + 1) c) w' := by
  obtain ⟨A, c, w', hrun, hown, hgr, -⟩ := snoc_claim x h.own hl h.b.size hcs
  exact ⟨A, c, w', hrun, by rw [List.length_append]; exact hown, (h.b.alloc h.b.size _).grown hgr (by have := h.b.size; simp; omega) (fun r x => by have := own_ge h.own r x; omega)⟩
theorem GatC.recs {w : World} {L : List Cl} {o : Value} {wr : World} (h : GatC w L o wr) : Recs encC 4 wr wr.heap.size o L := recs_of_ownE (enc := encC) (k := 4) (fun _ => rfl) h.own rfl
/-- The cells of accounts. -/
def acCells (n : Nat) (had : List Int) (xs : List Value) : List Value := (had.map fun x => .int .i64 x) ++ (.int .i64 (n : Int)) :: xs
theorem acCells_had {n : Nat} {had : List Int} {xs : List Value} {j : Nat} {x : Int} (h : had[j]? = some x) : (acCells n had xs)[j]? = some (.int .i64 x) := by
  unfold acCells
  rw [List.getElem?_append_left (by rw [List.length_map]; exact (List.getElem?_eq_some_iff.1 h).1), List.getElem?_map, h]; rfl
theorem acCells_n {n : Nat} {had : List Int} {xs : List Value} (h : had.length = 8) : (acCells n had xs)[8]? = some (.int .i64 (n : Int)) := by
  unfold acCells
  rw [List.getElem?_append_right (by simp [h]), List.length_map, h]; rfl
theorem acCells_sl {n : Nat} {had : List Int} {xs : List Value} {j : Nat} {v : Value} (h : had.length = 8) (hj : xs[j]? = some v) : (acCells n had xs)[9 + j]? = some v := by
  unfold acCells
  rw [List.getElem?_append_right (by rw [List.length_map]; omega), List.length_map, h, show 9 + j - 8 = j + 1 by omega, List.getElem?_cons_succ, hj]
theorem acCells_setHad {n : Nat} {had : List Int} {xs : List Value} {j : Nat} {x : Int} (h : j < had.length) : (acCells n had xs).set j (.int .i64 x) = acCells n (had.set j x) xs := by
  unfold acCells
  rw [List.set_append_left _ _ (by rw [List.length_map]; exact h), List.map_set]
theorem acCells_setSl {n : Nat} {had : List Int} {xs : List Value} {j : Nat} {v : Value} (h : had.length = 8) : (acCells n had xs).set (9 + j) v = acCells n had (xs.set j v) := by
  unfold acCells
  rw [List.set_append_right _ _ (by rw [List.length_map]; omega), List.length_map, h, show 9 + j - 8 = j + 1 by omega, List.set_cons_succ]
/-- Accounts that a call has made for itself. -/
structure AcS (w : World) (g n : Nat) (s : Ac) (xs : List Value) (wr : World) : Prop where
  row : Row wr g 68 (acCells n s.had xs).toArray
  lx : xs.length = 8
  lh : s.had.length = 8
  lo : s.op.length = 8
  own : ∀ (j : Nat) (x : Value) (L : List Cl), xs[j]? = some x → s.op[j]? = some L → wr.ownsRow w.heap.size 39 4 x L.length (flatE encC L)
  ap : ∀ (i j : Nat) (x y : Value) (q : Nat), i ≠ j → xs[i]? = some x → xs[j]? = some y → x.ownBlock = some q → y.ownBlock ≠ some q
  ng : ∀ (i : Nat) (x : Value), xs[i]? = some x → x.ownBlock ≠ some g
  b : Below w.heap.size w wr
  hg : w.heap.size ≤ g
theorem AcS.next {w : World} {g n : Nat} {s : Ac} {xs : List Value} {wr wr' : World} (h : AcS w g n s xs wr) (hb : Below wr.heap.size wr wr') : AcS w g n s xs wr' :=
  ⟨h.row.below hb h.row.lt, h.lx, h.lh, h.lo, fun j x L hx hL => own_below (h.own j x L hx hL) hb, h.ap, h.ng, below_to h.b hb, h.hg⟩
theorem AcS.cellH {w : World} {g n : Nat} {s : Ac} {xs : List Value} {wr : World} (h : AcS w g n s xs wr) {j : Nat} {x : Int} (hj : s.had[j]? = some x) : wr.cell? ⟨g, j, none⟩ = some (.int .i64 x) := by
  rw [h.row.cell, List.getElem?_toArray]; exact acCells_had hj
theorem AcS.cellN {w : World} {g n : Nat} {s : Ac} {xs : List Value} {wr : World} (h : AcS w g n s xs wr) : wr.cell? ⟨g, 8, none⟩ = some (.int .i64 (n : Int)) := by
  rw [h.row.cell, List.getElem?_toArray]; exact acCells_n h.lh
theorem AcS.cellS {w : World} {g n : Nat} {s : Ac} {xs : List Value} {wr : World} (h : AcS w g n s xs wr) {j : Nat} {v : Value} (hj : xs[j]? = some v) : wr.cell? ⟨g, 9 + j, none⟩ = some v := by
  rw [h.row.cell, List.getElem?_toArray]; exact acCells_sl h.lh hj
theorem AcS.setH {w : World} {g n : Nat} {s : Ac} {xs : List Value} {wr : World} (h : AcS w g n s xs wr) {j : Nat} (hj : j < 8) (x : Int) : AcS w g n ⟨s.had.set j x, s.op⟩ xs (wr.setCell ⟨g, j, none⟩ (.int .i64 x)) := by
  refine ⟨?_, h.lx, by rw [List.length_set]; exact h.lh, h.lo, fun i y L hy hL => own_keep (h.own i y L hy hL) fun q e => Below.heap_setCell wr ⟨g, j, none⟩ _ q (fun e2 => h.ng i y hy (by rw [e, e2])), h.ap, h.ng, h.b.setCell (p := ⟨g, j, none⟩) h.hg _, h.hg⟩
  have h2 := h.row.put j (.int .i64 x)
  rw [← acCells_setHad (by rw [h.lh]; exact hj)]
  rwa [List.setIfInBounds_toArray] at h2
/-- The row of one candidate's claims is exchanged. -/
theorem AcS.setS {w : World} {g n : Nat} {s : Ac} {xs : List Value} {wr : World} (hrow : Row wr g 68 (acCells n s.had xs).toArray) (lx : xs.length = 8) (lh : s.had.length = 8) (lo : s.op.length = 8) (b : Below w.heap.size w wr) (hg : w.heap.size ≤ g) {j : Nat} (hj : j < 8) {v : Value} {L : List Cl}
    (hother : ∀ (i : Nat) (x : Value) (M : List Cl), i ≠ j → xs[i]? = some x → s.op[i]? = some M → wr.ownsRow w.heap.size 39 4 x M.length (flatE encC M))
    (ap : ∀ (i k : Nat) (x y : Value) (q : Nat), i ≠ k → i ≠ j → k ≠ j → xs[i]? = some x → xs[k]? = some y → x.ownBlock = some q → y.ownBlock ≠ some q)
    (ng : ∀ (i : Nat) (x : Value), i ≠ j → xs[i]? = some x → x.ownBlock ≠ some g)
    (hown : wr.ownsRow w.heap.size 39 4 v L.length (flatE encC L)) (hv : ∀ (i : Nat) (x : Value) (q : Nat), i ≠ j → xs[i]? = some x → v.ownBlock = some q → x.ownBlock ≠ some q) (hvg : v.ownBlock ≠ some g) :
    AcS w g n ⟨s.had, s.op.set j L⟩ (xs.set j v) (wr.setCell ⟨g, 9 + j, none⟩ v) := by
  have hkeep : ∀ {x : Value} {M : List Cl}, x.ownBlock ≠ some g → wr.ownsRow w.heap.size 39 4 x M.length (flatE encC M) → (wr.setCell ⟨g, 9 + j, none⟩ v).ownsRow w.heap.size 39 4 x M.length (flatE encC M) := fun {x M} hx ho => own_keep ho fun q e => Below.heap_setCell wr ⟨g, 9 + j, none⟩ _ q (fun e2 => hx (by rw [e, e2]))
  have hget : ∀ (i : Nat) (x : Value), (xs.set j v)[i]? = some x → (i = j ∧ x = v) ∨ (i ≠ j ∧ xs[i]? = some x) := fun i x hx => by
    rw [List.getElem?_set] at hx
    by_cases e : j = i
    · rw [if_pos e, if_pos (by omega)] at hx
      exact .inl ⟨e.symm, (Option.some.inj hx).symm⟩
    · rw [if_neg e] at hx
      exact .inr ⟨fun e2 => e e2.symm, hx⟩
  refine ⟨?_, by rw [List.length_set]; exact lx, lh, by rw [List.length_set]; exact lo, fun i x M hx hM => ?_, fun i k x y q hik hx hy e => ?_, fun i x hx => ?_, b.setCell (p := ⟨g, 9 + j, none⟩) hg _, hg⟩
  · have h2 := hrow.put (9 + j) v
    rw [← acCells_setSl lh]
    rwa [List.setIfInBounds_toArray] at h2
  · dsimp only at hM
    rw [List.getElem?_set] at hM
    rcases hget i x hx with ⟨rfl, rfl⟩ | ⟨hi, hx⟩
    · rw [if_pos rfl, if_pos (by omega)] at hM
      obtain rfl := Option.some.inj hM
      exact hkeep hvg hown
    · rw [if_neg (fun e => hi e.symm)] at hM
      exact hkeep (ng i x hi hx) (hother i x M hi hx hM)
  · rcases hget i x hx with ⟨rfl, rfl⟩ | ⟨hi, hx⟩
    · rcases hget k y hy with ⟨rfl, _⟩ | ⟨hk, hy⟩
      · exact absurd rfl hik
      · exact hv k y q hk hy e
    · rcases hget k y hy with ⟨rfl, rfl⟩ | ⟨hk, hy⟩
      · exact fun e2 => hv i x q hi ‹xs[i]? = some x› e2 e
      · exact ap i k x y q hik hi hk hx hy e
  · rcases hget i x hx with ⟨rfl, rfl⟩ | ⟨hi, hx⟩
    · exact hvg
    · exact ng i x hi hx
/-- Nothing that was there is changed but the block g. -/
structure FarG (g : Nat) (w w' : World) : Prop where
  size : w.heap.size ≤ w'.heap.size
  block : ∀ k, k < w.heap.size → k ≠ g → w'.heap[k]? = w.heap[k]?
theorem FarG.row {g : Nat} {w w' : World} (h : FarG g w w') {k : Nat} {t : TypeId} {cs : Array Value} (hr : Row w k t cs) (hk : k ≠ g) : Row w' k t cs := (h.block k hr.lt hk).trans hr
theorem had_get {l : List Int} (h : l.length = 8) {j : Nat} (hj : j < 8) : l[j]? = some (l.getD j 0) := by rw [List.getElem?_eq_getElem (by omega)]; simp [List.getD_eq_getElem?_getD, h, hj]
theorem op_get {l : List (List Cl)} (h : l.length = 8) {j : Nat} (hj : j < 8) : l[j]? = some (l.getD j []) := by rw [List.getElem?_eq_getElem (by omega)]; simp [List.getD_eq_getElem?_getD, h, hj]
set_option maxRecDepth 100000 in
set_option maxHeartbeats 8000000 in
theorem add_any (w : World) (g n : Nat) (s : Ac) (xs : List Value) (wr : World) (h : AcS w g n s xs wr) (c : Nat) (hc : c < 8) (wt : Int) (h0 : 0 ≤ s.had.getD c 0 ∧ s.had.getD c 0 ≤ 100000000) (hw : 0 ≤ wt ∧ wt ≤ 1000000) :
    Calls Try.prog 46 #[pt g, .int .i64 (c : Int), .int .i64 wt] wr fun e w' => e = .returned (.tuple #[]) ∧ AcS w g n ⟨s.had.set c (s.had.getD c 0 + wt), s.op⟩ xs w' ∧ FarG g wr w' := by
  have z0 := h.cellH (had_get h.lh hc)
  have f0 := h.row.free c
  have lg := h.row.lt
  have hset := h.setH hc (s.had.getD c 0 + wt)
  have HSET := Lib.hid hset
  obtain ⟨x, hx⟩ : ∃ x, s.had.getD c 0 = x := ⟨_, rfl⟩
  rw [hx] at z0 h0 HSET ⊢
  have c0 : (0 : Int) ≤ (c : Int) := by omega
  have c1 : (c : Int) < 8 := by omega
  clear hset hx
  go_enter Try.func46, Try.ntmps46
  go_still_tail 11, (by kernel_rfl)
  change wpList _ _ _ _ _ wr.drew
  go_wp2
  go_end0
  exact ⟨rfl, HSET.out.next (Below.refl _ _).drew, by show wr.heap.size ≤ (wr.setCell _ _).heap.size; simp, fun k _ hk => Below.heap_setCell wr ⟨g, c, none⟩ _ k hk⟩
end Go.Proofs.Ytinhjobjlpkflaa
