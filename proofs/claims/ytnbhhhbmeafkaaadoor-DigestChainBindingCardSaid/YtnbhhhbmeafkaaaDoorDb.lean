/- Words for blocks of memory, and the schedule of a block: schedule returns the words that the plain function full of Dm says. -/
import Derived.Test.YtnbhhhbmeafkaaaDoorDa
import Derived.Laws.Rows
import Derived.Below
import Derived.Deep.Draws
import Derived.Laws.OwnMore
import Derived.BigRegion
import Derived.StillTailTactics
import Derived.LoopN
import Derived.Outline
namespace Go.Proofs.YtnbhhhbmeafkaaaDoor
open Go.RowKit

def u8row (l : List UInt8) : Array Value := (l.map fun (x : UInt8) => Value.int .u8 (x.toNat : Int)).toArray
def u32row (l : List Nat) : Array Value := (l.map fun (x : Nat) => Value.int .u32 (x : Int)).toArray

/-- Block g is just the cells cs, none frozen. -/
def Row (w : World) (g : Nat) (t : TypeId) (cs : Array Value) : Prop := w.heap[g]? = some (.cells cs t (0, 0))
section
variable {w w' : World} {g : Nat} {t : TypeId} {cs : Array Value}
theorem Row.lt (h : Row w g t cs) : g < w.heap.size := by
  by_cases hl : g < w.heap.size
  · exact hl
  · unfold Row at h; rw [Array.getElem?_eq_none (by omega)] at h; cases h
theorem Row.cell (h : Row w g t cs) (i : Nat) : w.cell? ⟨g, i, none⟩ = cs[i]? := cell_of_row w g i cs t (0, 0) h
theorem Row.free (h : Row w g t cs) (i : Nat) : w.frozen? ⟨g, i, none⟩ = false := frozen_of_row w g i cs t h
theorem Row.new (w : World) (t : TypeId) (cs : Array Value) : Row (w.alloc (.cells cs t)) w.heap.size t cs := heap_alloc_new w _
theorem Row.drew (h : Row w g t cs) : Row w.drew g t cs := h
theorem Row.drewN (h : Row w g t cs) (n : Nat) : Row (w.drewN n) g t cs := h
theorem Row.alloc (h : Row w g t cs) (o : Obj) : Row (w.alloc o) g t cs := (Below.heap_alloc w o g h.lt).trans h
theorem Row.put (h : Row w g t cs) (i : Nat) (u : Value) : Row (w.setCell ⟨g, i, none⟩ u) g t (cs.setIfInBounds i u) := by
  unfold Row at h ⊢
  simp [World.setCell, Array.getElem?_modify, h]
theorem Row.far (h : Row w g t cs) {p : Addr} (hp : g ≠ p.block) (u : Value) : Row (w.setCell p u) g t cs := (Below.heap_setCell w p u g hp).trans h
theorem Row.below {B : Nat} (h : Row w g t cs) (hb : Below B w w') (hg : g < B) : Row w' g t cs := (hb.block g hg).trans h
end

theorem belowN {B : Nat} {w w' : World} (h : Below B w w') (n : Nat) : Below B w (w'.drewN n) := ⟨h.os, h.tape, h.output, h.size, h.block⟩
theorem belowRow {B : Nat} {w w' : World} (h : Below B w w') {g : Nat} (hg : B ≤ g) (cs : Array Value) : Below B w (w'.setRow g cs) :=
  h.trans ⟨setRow_os _ _ _, setRow_tape _ _ _, setRow_output _ _ _, by rw [setRow_size]; exact Nat.le_refl _, fun k hk => setRow_other _ _ _ _ (by omega)⟩

theorem u8row_get (l : List UInt8) (i : Nat) (h : i < l.length) : (u8row l)[i]? = some (.int .u8 ((l.getD i 0).toNat : Int)) := by
  simp [u8row, List.getElem?_eq_getElem h]
theorem u32row_get (l : List Nat) (i : Nat) (h : i < l.length) : (u32row l)[i]? = some (.int .u32 ((l.getD i 0 : Nat) : Int)) := by
  simp [u32row, List.getElem?_eq_getElem h]
theorem u32row_put (l : List Nat) (i x : Nat) : (u32row l).setIfInBounds i (.int .u32 (x : Int)) = u32row (l.set i x) := by
  simp [u32row, List.map_set]
theorem u32row_size (l : List Nat) : (u32row l).size = l.length := by simp [u32row]
theorem u8row_size (l : List UInt8) : (u8row l).size = l.length := by simp [u8row]

/-- A list of n words at the head of 64. -/
def to64 (l : List Nat) : List Nat := l ++ List.replicate (64 - l.length) 0
theorem to64_snoc (l : List Nat) (x : Nat) (h : l.length < 64) : (to64 l).set l.length x = to64 (l ++ [x]) := by
  have e : 64 - l.length = (64 - (l ++ [x]).length) + 1 := by simp; omega
  unfold to64
  rw [e, List.replicate_succ, List.set_append_right _ _ (Nat.le_refl _), Nat.sub_self, List.set_cons_zero, List.append_assoc]; rfl
theorem to64_get (l : List Nat) (i : Nat) (h : i < l.length) : (to64 l).getD i 0 = l.getD i 0 := by
  unfold to64; simp [List.getElem?_append_left h]
theorem to64_len (l : List Nat) (h : l.length ≤ 64) : (to64 l).length = 64 := by simp [to64]; omega

theorem rot_q (x n : Nat) (w : World) (hx : x < 4294967296) (h1 : 1 ≤ n) (h2 : n ≤ 31) :
    Calls Tryd.prog 71 #[.int .u32 (x : Int), .int .i64 (n : Int)] w fun e w' => e = .returned (.int .u32 (Dm.rotr x n : Nat)) ∧ w' = w :=
  (rot_any x n w hx h1 h2).mono fun _ _ h => ⟨h.1, h.2.symm⟩
theorem lo_eqs (v : Nat) (h : v < 4294967296) : ∃ r q s : Nat, Dm.rotr v 7 = r ∧ Dm.rotr v 18 = q ∧ bits .xor .u32 (r : Int) (q : Int) = (s : Int) ∧ bits .xor .u32 (s : Int) ((v : Int) / 8) = ((Dm.lo v : Nat) : Int) := by
  refine ⟨_, _, _, rfl, rfl, xor_u32 _ _ (Dm.rotr_lt _ _ h) (Dm.rotr_lt _ _ h), ?_⟩
  have e : (v : Int) / 8 = ((v / 8 : Nat) : Int) := by omega
  rw [e, xor_u32 _ _ (Dm.xor_lt _ _ (Dm.rotr_lt _ _ h) (Dm.rotr_lt _ _ h)) (Dm.div_lt _ _ h)]; rfl
theorem hi_eqs (v : Nat) (h : v < 4294967296) : ∃ r q s : Nat, Dm.rotr v 17 = r ∧ Dm.rotr v 19 = q ∧ bits .xor .u32 (r : Int) (q : Int) = (s : Int) ∧ bits .xor .u32 (s : Int) ((v : Int) / 1024) = ((Dm.hi v : Nat) : Int) := by
  refine ⟨_, _, _, rfl, rfl, xor_u32 _ _ (Dm.rotr_lt _ _ h) (Dm.rotr_lt _ _ h), ?_⟩
  have e : (v : Int) / 1024 = ((v / 1024 : Nat) : Int) := by omega
  rw [e, xor_u32 _ _ (Dm.xor_lt _ _ (Dm.rotr_lt _ _ h) (Dm.rotr_lt _ _ h)) (Dm.div_lt _ _ h)]; rfl
theorem add_u32 (a b c : Nat) (h : Dm.add a b = c) : IntKind.u32.wrap ((a : Int) + (b : Int)) = (c : Int) := by
  subst h; rw [IntKind.wrap_u32]; unfold Dm.add; omega

set_option maxRecDepth 100000 in
set_option maxHeartbeats 2000000 in
theorem sched_any (b : List UInt8) (hb : b.length = 64) (w : World) :
    Calls Tryd.prog 70 #[.agg (u8row b)] w fun e w' => e = .returned (.agg (u32row (Dm.full b))) ∧ Below w.heap.size w w' := by
  go_enter Tryd.func70, Tryd.ntmps70
  go_wp2
  go_loopw [4, 5, 9] (fun _ _ i wr => ∃ k : Nat, k ≤ 16 ∧ i = .int .i64 k ∧ Row wr w.heap.size 77 (u8row b) ∧ Row wr (w.heap.size + 1) 89 (u32row (to64 [])) ∧
      Row wr (w.heap.size + 1 + 1) 89 (u32row (to64 ((Dm.words b).take k))) ∧ Below w.heap.size w wr) (fun _ _ i _ => 16 - (intOf i).toNat)
  case atStart =>
    refine ⟨0, by omega, rfl, ((Row.new w _ _).alloc _).alloc _, ?_, ?_, (((Below.refl _ _).alloc (Nat.le_refl _) _).alloc (by simp) _).alloc (by simp; omega) _⟩
    · have := (Row.new (w.alloc (.cells (u8row b) 77)) 89 (u32row (to64 []))).alloc (.cells (u32row (to64 [])) 89)
      rw [World.size_alloc] at this; exact this
    · have := Row.new ((w.alloc (.cells (u8row b) 77)).alloc (.cells (u32row (to64 [])) 89)) 89 (u32row (to64 []))
      rw [World.size_alloc, World.size_alloc] at this; exact this
  case round =>
    obtain ⟨k, hk, rfl, r1, r2, r3, hbw⟩ := hrel
    by_cases hlt : k < 16
    · have c0 := (r1.cell (4 * k)).trans (u8row_get b (4 * k) (by omega))
      have c1 := (r1.cell (4 * k + 1)).trans (u8row_get b (4 * k + 1) (by omega))
      have c2 := (r1.cell (4 * k + 2)).trans (u8row_get b (4 * k + 2) (by omega))
      have c3 := (r1.cell (4 * k + 3)).trans (u8row_get b (4 * k + 3) (by omega))
      have f3 := r3.free k
      have u0 := (b.getD (4 * k) 0).toNat_lt
      have u1 := (b.getD (4 * k + 1) 0).toNat_lt
      have u2 := (b.getD (4 * k + 2) 0).toNat_lt
      have u3 := (b.getD (4 * k + 3) 0).toNat_lt
      generalize hx0 : (b.getD (4 * k) 0).toNat = x0 at c0 u0
      generalize hx1 : (b.getD (4 * k + 1) 0).toNat = x1 at c1 u1
      generalize hx2 : (b.getD (4 * k + 2) 0).toNat = x2 at c2 u2
      generalize hx3 : (b.getD (4 * k + 3) 0).toNat = x3 at c3 u3
      have c4 := r3.cell k
      rw [u32row_get _ _ (by rw [to64_len _ (by simp; omega)]; omega)] at c4
      have q0 : IntKind.u32.wrap (x0 : Int) = x0 := by rw [IntKind.wrap_u32]; omega
      have q1 : IntKind.u32.wrap (x1 : Int) = x1 := by rw [IntKind.wrap_u32]; omega
      have q2 : IntKind.u32.wrap (x2 : Int) = x2 := by rw [IntKind.wrap_u32]; omega
      have q3 : IntKind.u32.wrap (x3 : Int) = x3 := by rw [IntKind.wrap_u32]; omega
      obtain ⟨y0, hy0⟩ : ∃ y, x0 * 16777216 = y := ⟨_, rfl⟩
      obtain ⟨y1, hy1⟩ : ∃ y, x1 * 65536 = y := ⟨_, rfl⟩
      obtain ⟨y2, hy2⟩ : ∃ y, x2 * 256 = y := ⟨_, rfl⟩
      have z0 : IntKind.u32.wrap ((x0 : Int) * 16777216) = (y0 : Int) := by rw [IntKind.wrap_u32]; omega
      have z1 : IntKind.u32.wrap ((x1 : Int) * 65536) = (y1 : Int) := by rw [IntKind.wrap_u32]; omega
      have z2 : IntKind.u32.wrap ((x2 : Int) * 256) = (y2 : Int) := by rw [IntKind.wrap_u32]; omega
      have o1 := or_u32 y0 y1 (by omega) (by omega)
      have o1' := Dm.or_lt y0 y1 (by omega) (by omega)
      obtain ⟨s1, hs1⟩ : ∃ y, y0 ||| y1 = y := ⟨_, rfl⟩
      rw [hs1] at o1 o1'
      have o2 := or_u32 s1 y2 (by omega) (by omega)
      have o2' := Dm.or_lt s1 y2 (by omega) (by omega)
      obtain ⟨s2, hs2⟩ : ∃ y, s1 ||| y2 = y := ⟨_, rfl⟩
      rw [hs2] at o2 o2'
      have o3 := or_u32 s2 x3 (by omega) (by omega)
      obtain ⟨s3, hs3⟩ : ∃ y, s2 ||| x3 = y := ⟨_, rfl⟩
      rw [hs3] at o3
      have hw : Dm.word b k = s3 := by unfold Dm.word; rw [hx0, hx1, hx2, hx3, hy0, hy1, hy2, hs1, hs2, hs3]
      have HW := Lib.hid hw
      clear hy0 hy1 hy2 hs1 hs2 hs3 o1' o2' hw
      have X0 := Lib.hid hx0; have X1 := Lib.hid hx1; have X2 := Lib.hid hx2; have X3 := Lib.hid hx3
      have R1 := Lib.hid r1; have R2 := Lib.hid r2; have R3 := Lib.hid r3
      clear hx0 hx1 hx2 hx3 r1 r2 r3
      have a1 : (0 : Int) ≤ 4 * (k : Int) + 1 := by omega
      have a2 : (0 : Int) ≤ 4 * (k : Int) + 2 := by omega
      have a3 : (0 : Int) ≤ 4 * (k : Int) + 3 := by omega
      have a0 : (0 : Int) ≤ 4 * (k : Int) := by omega
      have l0 : 4 * (k : Int) < 64 := by omega
      have l1 : 4 * (k : Int) + 1 < 64 := by omega
      have l2 : 4 * (k : Int) + 2 < 64 := by omega
      have l3 : 4 * (k : Int) + 3 < 64 := by omega
      have lk : (k : Int) < 64 := by omega
      have t0 : (4 * (k : Int)).toNat = 4 * k := by omega
      have t1 : (4 * (k : Int) + 1).toNat = 4 * k + 1 := by omega
      have t2 : (4 * (k : Int) + 2).toNat = 4 * k + 2 := by omega
      have t3 : (4 * (k : Int) + 3).toNat = 4 * k + 3 := by omega
      have w1 : IntKind.i64.wrap (4 * (k : Int) + 1) = 4 * (k : Int) + 1 := IntWalk.i64_in _ (by omega)
      have w2 : IntKind.i64.wrap (4 * (k : Int) + 2) = 4 * (k : Int) + 2 := IntWalk.i64_in _ (by omega)
      have w3 : IntKind.i64.wrap (4 * (k : Int) + 3) = 4 * (k : Int) + 3 := IntWalk.i64_in _ (by omega)
      go_wp2
      go_still_tail 27, (by kernel_rfl)
      change wpList _ _ _ _ _ wr.drew
      go_wp2
      go_roundw
      case rel =>
        refine ⟨k + 1, by omega, by go_num, (R1.out.drew).far (by simp; omega) _, (R2.out.drew).far (by simp) _, ?_, (hbw.drew).setCell (by simp; omega) _⟩
        have := (R3.out.drew).put k (.int .u32 (s3 : Int))
        rw [u32row_put] at this
        have e : (to64 ((Dm.words b).take k)).set k s3 = to64 ((Dm.words b).take (k + 1)) := by
          have h1 : k < (Dm.words b).length := by rw [Dm.words_len]; omega
          have h2 : (Dm.words b)[k] = s3 := by simp [Dm.words, HW.out]
          have h3 := to64_snoc ((Dm.words b).take k) s3 (by simp; omega)
          rw [List.length_take, Nat.min_eq_left (by omega)] at h3
          rw [h3, List.take_succ_eq_append_getElem h1, h2]
        rw [e] at this
        exact this
      case measure => simp [intOf]; omega
    · rw [List.take_of_length_le (by rw [Dm.words_len]; omega)] at r3
      go_wp2
      go_loopw [6, 7, 8] (fun i _ _ wr => ∃ k : Nat, 16 ≤ k ∧ k ≤ 64 ∧ i = .int .i64 k ∧ Row wr (w.heap.size + 1) 89 (u32row (to64 [])) ∧
          Row wr (w.heap.size + 1 + 1) 89 (u32row (to64 (Dm.sched (k - 16) (Dm.words b)))) ∧ Below w.heap.size w wr) (fun i _ _ _ => 64 - (intOf i).toNat)
      case atStart => exact ⟨16, by omega, by omega, rfl, r2, r3, hbw⟩
      case round =>
        obtain ⟨k, hk1, hk, rfl, r2, r3, hbw⟩ := hrel
        have hl := Dm.sched_len (k - 16) (Dm.words b)
        rw [Dm.words_len] at hl
        obtain ⟨ws, hws⟩ : ∃ ws, Dm.sched (k - 16) (Dm.words b) = ws := ⟨_, rfl⟩
        have hwl := Dm.sched_lt (k - 16) (Dm.words b) (Dm.words_lt b)
        rw [hws] at hl r3 hwl
        by_cases hlt : k < 64
        · have hg := fun j (hj : j < ws.length) => (r3.cell j).trans (u32row_get (to64 ws) j (by rw [to64_len _ (by omega)]; omega))
          have c15 := hg (k - 15) (by omega)
          have c2 := hg (k - 2) (by omega)
          have c16 := hg (k - 16) (by omega)
          have c7 := hg (k - 7) (by omega)
          rw [to64_get _ _ (by omega)] at c15 c2 c16 c7
          have ck := r3.cell k
          rw [u32row_get _ _ (by rw [to64_len _ (by omega)]; omega)] at ck
          have l15 := Dm.getD_lt ws hwl (k - 15)
          have l2 := Dm.getD_lt ws hwl (k - 2)
          have l16 := Dm.getD_lt ws hwl (k - 16)
          have l7 := Dm.getD_lt ws hwl (k - 7)
          generalize hv15 : ws.getD (k - 15) 0 = v15 at c15 l15
          generalize hv2 : ws.getD (k - 2) 0 = v2 at c2 l2
          generalize hv16 : ws.getD (k - 16) 0 = v16 at c16 l16
          generalize hv7 : ws.getD (k - 7) 0 = v7 at c7 l7
          have f3 := r3.free k
          obtain ⟨r7, r18, s1, h7, h18, x1, x2⟩ := lo_eqs v15 l15
          obtain ⟨r17, r19, s2, h17, h19, y1, y2⟩ := hi_eqs v2 l2
          have K7 := Lib.hid (fun w => rot_q v15 7 w l15 (by decide) (by decide))
          have K18 := Lib.hid (fun w => rot_q v15 18 w l15 (by decide) (by decide))
          have K17 := Lib.hid (fun w => rot_q v2 17 w l2 (by decide) (by decide))
          have K19 := Lib.hid (fun w => rot_q v2 19 w l2 (by decide) (by decide))
          rw [h7] at K7; rw [h18] at K18; rw [h17] at K17; rw [h19] at K19
          clear h7 h18 h17 h19
          have hlo := Dm.lo_lt v15 l15
          have hhi := Dm.hi_lt v2 l2
          obtain ⟨L, hL⟩ : ∃ L, Dm.lo v15 = L := ⟨_, rfl⟩
          obtain ⟨Hh, hH⟩ : ∃ L, Dm.hi v2 = L := ⟨_, rfl⟩
          rw [hL] at x2 hlo; rw [hH] at y2 hhi
          obtain ⟨p1, hp1⟩ : ∃ y, Dm.add v16 L = y := ⟨_, rfl⟩
          obtain ⟨p2, hp2⟩ : ∃ y, Dm.add p1 v7 = y := ⟨_, rfl⟩
          obtain ⟨p3, hp3⟩ : ∃ y, Dm.add p2 Hh = y := ⟨_, rfl⟩
          have z1 := add_u32 _ _ _ hp1
          have z2 := add_u32 _ _ _ hp2
          have z3 := add_u32 _ _ _ hp3
          have hn : Dm.next ws ws.length = p3 := by
            unfold Dm.next; rw [show ws.length = k from by omega, hv15, hv2, hv16, hv7, hL, hH, hp1, hp2, hp3]
          have HN := Lib.hid hn
          have HWS := Lib.hid hws
          have HLE := Lib.hid hl
          have R2 := Lib.hid r2; have R3 := Lib.hid r3
          clear hp1 hp2 hp3 hn hL hH hv15 hv2 hv16 hv7 hws hg hwl r1 r2 r3 hl
          have b15 : (15 : Int) ≤ (k : Int) := by omega
          have b2 : (2 : Int) ≤ (k : Int) := by omega
          have b16 : (16 : Int) ≤ (k : Int) := by omega
          have b7 : (7 : Int) ≤ (k : Int) := by omega
          have b0 : (0 : Int) ≤ (k : Int) := by omega
          have d15 : (0 : Int) ≤ (k : Int) - 15 := by omega
          have d2 : (0 : Int) ≤ (k : Int) - 2 := by omega
          have d16 : (0 : Int) ≤ (k : Int) - 16 := by omega
          have d7 : (0 : Int) ≤ (k : Int) - 7 := by omega
          have e15 : (k : Int) - 15 < 64 := by omega
          have e2 : (k : Int) - 2 < 64 := by omega
          have e16 : (k : Int) - 16 < 64 := by omega
          have e7 : (k : Int) - 7 < 64 := by omega
          have ek : (k : Int) < 64 := by omega
          have t15 : ((k : Int) - 15).toNat = k - 15 := by omega
          have t2 : ((k : Int) - 2).toNat = k - 2 := by omega
          have t16 : ((k : Int) - 16).toNat = k - 16 := by omega
          have t7 : ((k : Int) - 7).toNat = k - 7 := by omega
          have w15 : IntKind.i64.wrap ((k : Int) - 15) = (k : Int) - 15 := IntWalk.i64_in _ (by omega)
          have w2 : IntKind.i64.wrap ((k : Int) - 2) = (k : Int) - 2 := IntWalk.i64_in _ (by omega)
          have w16 : IntKind.i64.wrap ((k : Int) - 16) = (k : Int) - 16 := IntWalk.i64_in _ (by omega)
          have w7 : IntKind.i64.wrap ((k : Int) - 7) = (k : Int) - 7 := IntWalk.i64_in _ (by omega)
          go_wp2
          go_quiet (first | (go_at_call 71; (with_reducible refine Calls.quiet_of_same (K7.out _))) | (go_at_call 71; (with_reducible refine Calls.quiet_of_same (K18.out _))))
          replace R2 : Hid (Row (wr.drewN nq) (w.heap.size + 1) 89 (u32row (to64 []))) := Lib.hid R2.out.drewN _
          replace R3 : Hid (Row (wr.drewN nq) (w.heap.size + 1 + 1) 89 (u32row (to64 ws))) := Lib.hid R3.out.drewN _
          replace hbw : Below w.heap.size w (wr.drewN nq) := belowN hbw _
          replace c2 : (wr.drewN nq).cell? ⟨w.heap.size + 1 + 1, k - 2, none⟩ = _ := c2
          replace c16 : (wr.drewN nq).cell? ⟨w.heap.size + 1 + 1, k - 16, none⟩ = _ := c16
          replace c7 : (wr.drewN nq).cell? ⟨w.heap.size + 1 + 1, k - 7, none⟩ = _ := c7
          replace ck : (wr.drewN nq).cell? ⟨w.heap.size + 1 + 1, k, none⟩ = _ := ck
          replace f3 : (wr.drewN nq).frozen? ⟨w.heap.size + 1 + 1, k, none⟩ = false := f3
          clear c15
          generalize wr.drewN nq = u at *
          clear nq
          go_wp2
          go_quiet (first | (go_at_call 71; (with_reducible refine Calls.quiet_of_same (K17.out _))) | (go_at_call 71; (with_reducible refine Calls.quiet_of_same (K19.out _))))
          go_wp2
          replace R2 : Hid (Row (u.drewN nq) (w.heap.size + 1) 89 (u32row (to64 []))) := Lib.hid R2.out.drewN _
          replace R3 : Hid (Row (u.drewN nq) (w.heap.size + 1 + 1) 89 (u32row (to64 ws))) := Lib.hid R3.out.drewN _
          replace hbw : Below w.heap.size w (u.drewN nq) := belowN hbw _
          replace c16 : (u.drewN nq).cell? ⟨w.heap.size + 1 + 1, k - 16, none⟩ = _ := c16
          replace c7 : (u.drewN nq).cell? ⟨w.heap.size + 1 + 1, k - 7, none⟩ = _ := c7
          replace ck : (u.drewN nq).cell? ⟨w.heap.size + 1 + 1, k, none⟩ = _ := ck
          replace f3 : (u.drewN nq).frozen? ⟨w.heap.size + 1 + 1, k, none⟩ = false := f3
          clear c2
          generalize u.drewN nq = v at *
          clear nq
          go_still_tail 15, (by kernel_rfl)
          change wpList _ _ _ _ _ v.drew
          go_wp2
          go_roundw
          case rel =>
            refine ⟨k + 1, by omega, by omega, by go_num, (R2.out.drew).far (by simp) _, ?_, (hbw.drew).setCell (by simp; omega) _⟩
            have q := (R3.out.drew).put k (.int .u32 (p3 : Int))
            have hl := HLE.out
            have hk2 : ws.length = k := by omega
            have e : (to64 ws).set k p3 = to64 (ws ++ [p3]) := by
              have := to64_snoc ws p3 (by omega)
              rw [hk2] at this; exact this
            rw [u32row_put, e] at q
            rw [show k + 1 - 16 = (k - 16) + 1 from by omega, Dm.sched_snoc, HWS.out, HN.out]
            exact q
          case measure => simp [intOf]; omega
        · have hws' : ws = Dm.full b := by rw [← hws, show k - 16 = 48 from by omega]; rfl
          rw [hws'] at r3
          have e64 : to64 (Dm.full b) = Dm.full b := by unfold to64; rw [Dm.full_len]; simp
          rw [e64] at r3
          have hsz : (u32row (Dm.full b)).size = 64 := by rw [u32row_size, Dm.full_len]
          have hsz0 : (u32row (to64 [])).size = 64 := by rw [u32row_size, to64_len _ (by simp)]
          have R2 := Lib.hid r2; have R3 := Lib.hid r3; clear r2 r3
          have hall : (u32row (Dm.full b)).all (·.oneCell') = true := by
            rw [Array.all_eq_true_iff_forall_mem]; intro x hx; simp [u32row] at hx; obtain ⟨y, _, rfl⟩ := hx; rfl
          have hi1 : (Tryd.prog.info? 89).map (·.size) = some (u32row (Dm.full b)).size := by rw [hsz]; kernel_rfl
          obtain ⟨cs, hcs⟩ : ∃ cs, u32row (Dm.full b) = cs := ⟨_, rfl⟩
          obtain ⟨zs, hzs⟩ : ∃ zs, u32row (to64 []) = zs := ⟨_, rfl⟩
          rw [hcs] at hall hsz hi1 R3
          rw [hzs] at hsz0 R2
          have HALL := Lib.hid hall; have HSZ := Lib.hid (hsz0.trans hsz.symm); have HI := Lib.hid hi1; have HCS := Lib.hid hcs
          clear hall hsz hsz0 e64 hws hws' hwl hl hi1 hcs hzs
          go_wp2_with (first | (refine wpList_load_row rfl 89 (.tmp 3) rfl (w.heap.size + 1 + 1) rfl 89 cs (0, 0) _ R3.out Tryd.underlying89 rfl HI.out ?_) | (refine wpList_store_row rfl 89 (.tmp 2) (.tmp 95) rfl (w.heap.size + 1) cs rfl rfl 89 zs R2.out HI.out HSZ.out HALL.out ?_))
          refine bodyPost_ret (results_cell_row rfl _ _ (w.heap.size + 1) 89 cs (0, 0) _ rfl (setRow_heap _ _ _ _ _ _ R2.out) Tryd.underlying89 rfl HI.out) rfl ⟨by rw [HCS.out], belowRow hbw (by omega) _⟩
end Go.Proofs.YtnbhhhbmeafkaaaDoor
