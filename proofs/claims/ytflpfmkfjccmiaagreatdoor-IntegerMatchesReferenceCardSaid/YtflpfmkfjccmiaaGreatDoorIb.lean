/- Contracts of carried and what it calls. -/
import Derived.Test.YtflpfmkfjccmiaaGreatDoorIa
import Derived.LoopN
namespace Go.Proofs.YtflpfmkfjccmiaaGreatDoor
open Go.RowKit

theorem Tryz.infoInt : (Tryz.prog.info? 3).map (fun i => (i.zero, i.size, i.bytes)) = some (some (.int .i64 0), 1, 8) := by kernel_rfl
/-- Append under a name that the walk doesn't unfold. -/
def appN (ts : Array TypeId) (t : TypeId) (vs : Array Value) := Builtin.append_ ts t vs
theorem append_appN (ts : Array TypeId) (t : TypeId) (vs : Array Value) : Builtin.append_ ts t vs = appN ts t vs := rfl
attribute [local go_sem ↓] append_appN

theorem own_ge {w : World} {base : Nat} {e : TypeId} {size : Nat} {v : Value} {n : Nat} {xs : List Value} (h : w.ownsRow base e size v n xs) : ∀ k, v.ownBlock = some k → base ≤ k := by
  intro k hk
  rcases h.2 with ⟨rfl, _⟩ | ⟨g, cap, cur, rfl, hb, _⟩
  · simp [Value.ownBlock] at hk
  · simp [Value.ownBlock] at hk; omega
theorem own_lt {w : World} {base : Nat} {e : TypeId} {size : Nat} {v : Value} {n : Nat} {xs : List Value} (h : w.ownsRow base e size v n xs) : ∀ k, v.ownBlock = some k → k < w.heap.size := by
  intro k hk
  rcases h.2 with ⟨rfl, _⟩ | ⟨g, cap, cur, rfl, hb, hh, _⟩
  · simp [Value.ownBlock] at hk
  · simp [Value.ownBlock] at hk; subst hk; exact (Array.getElem?_eq_some_iff.1 hh).1
theorem own_below {w w' : World} {base B : Nat} {e : TypeId} {size : Nat} {v : Value} {n : Nat} {xs : List Value} (h : w.ownsRow base e size v n xs) (hb : Below B w w') (hB : ∀ k, v.ownBlock = some k → k < B) : w'.ownsRow base e size v n xs := by
  refine ⟨h.1, ?_⟩
  rcases h.2 with h2 | ⟨g, cap, cur, rfl, h3, h4, h5⟩
  · exact .inl h2
  · exact .inr ⟨g, cap, cur, rfl, h3, (hb.block g (hB g rfl)).trans h4, h5⟩
theorem own_base {w : World} {B B' : Nat} {e : TypeId} {size n : Nat} {v : Value} {xs : List Value} (h : w.ownsRow B e size v n xs) (hB : B' ≤ B) : w.ownsRow B' e size v n xs := by
  refine ⟨h.1, ?_⟩
  rcases h.2 with h | ⟨g, cap, cur, h1, h2, h3⟩
  · exact .inl h
  · exact .inr ⟨g, cap, cur, h1, by omega, h3⟩
theorem own_slice {w : World} {base : Nat} {e : TypeId} {size n : Nat} {v : Value} {xs : List Value} (h : w.ownsRow base e size v n xs) : ∃ A c, v = .slice A n c := by
  rcases h.2 with ⟨rfl, rfl⟩ | ⟨g, cap, cur, rfl, _⟩
  · exact ⟨_, _, rfl⟩
  · exact ⟨_, _, rfl⟩
/-- One integer more behind a row of the call's own. -/
theorem snoc_int {w : World} {B n : Nat} {v : Value} {l : List Int} {x : Int} {i0 : TypeInfo} (hi0 : Tryz.prog.info? 3 = some i0) (hz0 : i0.zero = some (.int .i64 0)) (hz1 : i0.size = 1) (hz2 : i0.bytes = 8)
    (hrow : w.ownsRow B 3 1 v n (intCells l)) (hn : n ≤ 100000) (hB : B ≤ w.heap.size) :
    ∃ v' w', Sem.run Tryz.prog (appN #[38, 38] 38 #[v, .slice (some ⟨w.heap.size, 0, none⟩) 1 1]) (w.alloc (.cells #[.int .i64 x] 3)) = .ok v' w' ∧
      w'.ownsRow B 3 1 v' (n + 1) (intCells (l ++ [x])) ∧ (w.alloc (.cells #[.int .i64 x] 3)).grownBy w' v.ownBlock := by
  obtain ⟨v', w', hrun, hown, hgr, _⟩ := run_append_own (P := Tryz.prog) (w.alloc (.cells #[.int .i64 x] 3)) B 38 38 3 i0 (.int .i64 0) 1 8 Tryz.underlying38 hi0 hz0 hz1 hz2 rfl (by decide)
    v n _ (hrow.alloc _) ⟨w.heap.size, 0, none⟩ 1 1 [.int .i64 x] rfl (fun j u h => cell_one_new _ _ _ j u h) (by simp [Value.oneCell']) (by unfold maxLen; omega) (by omega) (by simp; omega)
  exact ⟨v', w', hrun, by rw [intCells_snoc]; exact hown, hgr⟩
theorem grown_below {w w' : World} {B n : Nat} {v : Value} {xs : List Value} {o : Obj} (hrow : w.ownsRow B 3 1 v n xs) (hB : B ≤ w.heap.size) (hg : (w.alloc o).grownBy w' v.ownBlock) : Below B w w' := by
  have h3 : Below B w (w.alloc o) := (Below.refl _ w).alloc hB o
  exact ⟨hg.os.trans h3.os, hg.tape.trans h3.tape, hg.output.trans h3.output, Nat.le_trans h3.size hg.size, fun k hk =>
    (hg.block k (by simp; omega) (fun e => by have := own_ge hrow k e.symm; omega)).trans (h3.block k hk)⟩

/-- A box that holds a slice of the call's own with these integers. -/
def OwnBox (W : World) (Bx base : Nat) (l : List Int) : Prop := ∃ v, Boxed W Bx 38 v ∧ W.ownsRow base 3 1 v l.length (intCells l)
def StepPost (q : Int) (Bx base : Nat) (l : List Int) (w : World) (e : Ending) (w' : World) : Prop := e = .returned (.int .i64 q) ∧ OwnBox w' Bx base l ∧ Below base w w'

set_option maxRecDepth 100000 in
set_option maxHeartbeats 1000000 in
theorem step_any (c x : Int) (Bx base : Nat) (l : List Int) (w : World) (hb : OwnBox w Bx base l) (hB : base ≤ Bx) (hBw : base ≤ w.heap.size) (hl : l.length ≤ 1000) (hc1 : -2000000000000000 ≤ c) (hc2 : c ≤ 2000000000000000)
    (hx1 : -1000000000000000 ≤ x) (hx2 : x ≤ 1000000000000000) :
    Calls Tryz.prog 97 #[.int .i64 c, .int .i64 x, .pointer (some ⟨Bx, 0, none⟩)] w (StepPost ((c + x) / 10000) Bx base (l ++ [(c + x) % 10000]) w) := by
  obtain ⟨i0, hi0, hz0, hz1, hz2⟩ := info_parts Tryz.infoInt
  obtain ⟨v, hbox, hrow⟩ := hb
  have hm := Im.gmod_go (c + x)
  have hd := Im.gdiv_go (c + x)
  have hs1 : IntKind.i64.wrap (c + x) = c + x := IntWalk.i64_in _ (by omega)
  obtain ⟨s, hs⟩ : ∃ s, c + x = s := ⟨_, rfl⟩
  rw [hs] at hm hd hs1
  have hsb : -3000000000000000 ≤ s ∧ s ≤ 3000000000000000 := by omega
  obtain ⟨sb1, sb2⟩ := hsb
  have ht : -10000 < s.tmod 10000 ∧ s.tmod 10000 < 10000 := by
    rw [Int.tmod_eq_emod]; split <;> omega
  obtain ⟨t, htt⟩ : ∃ t, s.tmod 10000 = t := ⟨_, rfl⟩
  rw [htt] at hm ht
  have hs2 : IntKind.i64.wrap (t + 10000) = t + 10000 := IntWalk.i64_in _ (by omega)
  obtain ⟨q, hq⟩ : ∃ q, s % 10000 = q := ⟨_, rfl⟩
  rw [hq] at hm hd
  have hqb : 0 ≤ q ∧ q < 10000 := by omega
  obtain ⟨qb1, qb2⟩ := hqb
  have hs3 : IntKind.i64.wrap (s - q) = s - q := IntWalk.i64_in _ (by omega)
  obtain ⟨d, hdd⟩ : ∃ d, s / 10000 = d := ⟨_, rfl⟩
  rw [hdd] at hd
  have hdb : -1000000000000 ≤ d ∧ d ≤ 1000000000000 := by omega
  have hs4 : IntKind.i64.wrap d = d := IntWalk.i64_in _ (by omega)
  obtain ⟨v', w1, hrun, hown, hgr⟩ := snoc_int (x := q) hi0 hz0 hz1 hz2 hrow (by omega) hBw
  obtain ⟨g', cap', rfl⟩ := ownsRow_succ hown
  obtain ⟨k1, k2, k3, _, k5⟩ := hbox.appended (by decide) hrow hBw hB hown hgr
  have hc0 := hbox.cell
  have hf1 := k1.frozen
  have hc1' := k1.cell
  have HR := Lib.hid (⟨_, k2, by rw [List.length_append, List.length_singleton]; exact k3⟩ : OwnBox (w1.setCell ⟨Bx, 0, none⟩ (.slice (some ⟨g', 0, none⟩) (l.length + 1) cap')) Bx base (l ++ [q]))
  have HB := Lib.hid k5
  obtain ⟨ht1, ht2⟩ := ht
  have hm2 : (t + 10000) % 10000 = q := by rw [← hm, Int.tmod_eq_emod_of_nonneg (by omega)]
  have hm3 : (0 : Int) ≤ t + 10000 := by omega
  rw [hs, hdd, hq]
  clear hbox hrow hown hgr k1 k2 k3 k5 hq hdd hdb hi0 hz0 hz1 hz2
  go_enter Tryz.func97, Tryz.ntmps97
  go_wp2
  go_ret
  exact ⟨rfl, HR.out, HB.out⟩
end Go.Proofs.YtflpfmkfjccmiaaGreatDoor
