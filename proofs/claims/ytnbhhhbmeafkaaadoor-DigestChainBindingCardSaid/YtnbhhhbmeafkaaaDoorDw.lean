/- Contract of Proof. -/
import Derived.Test.YtnbhhhbmeafkaaaDoorDx
import Derived.Stop.RegionWithIn
namespace Go.Proofs.YtnbhhhbmeafkaaaDoor
open Go.RowKit Go.Shelf
attribute [local go_sem] Oper.semAt_some
/-- Append under a name that the walk doesn't unfold. -/
def appN (ts : Array TypeId) (t : TypeId) (vs : Array Value) := Builtin.append_ ts t vs
theorem append_appN (ts : Array TypeId) (t : TypeId) (vs : Array Value) : Builtin.append_ ts t vs = appN ts t vs := rfl
attribute [local go_sem ↓] append_appN

def rootsOf (ps : List (List UInt8)) (fs : List Dm.Fk) : List (List UInt8) := fs.map fun f => Dm.root (f.other ps)
/-- What holds between two rounds of Proof: B is the heap's size where the loop begins. -/
def PrfI (n : Nat) (ps : List (List UInt8)) (v : Value) (w : World) (B : Nat) (pre : List (FkN n)) (W : World) : Prop :=
  OwnBox W (w.heap.size + 1) (B + 2) 26 9 1 pre.length (strCells (rootsOf ps (fkL pre))) ∧ Row W w.heap.size 26 #[v] ∧ Below w.heap.size w W
theorem PrfI.grow {n : Nat} {ps : List (List UInt8)} {v : Value} {w : World} {B : Nat} {pre : List (FkN n)} {X Y : World} (h : PrfI n ps v w B pre X) (hb : Below X.heap.size X Y) : PrfI n ps v w B pre Y :=
  ⟨h.1.grow hb, h.2.1.below hb h.2.1.lt, h.2.2.trans (hb.mono h.2.2.size)⟩
theorem PrfI.putObj {n : Nat} {ps : List (List UInt8)} {v : Value} {w : World} {B : Nat} {pre : List (FkN n)} {X : World} (h : PrfI n ps v w B pre X) {r : Nat} {o : Obj} (hr : r = B + 1) (hB : B = w.heap.size + 4) : PrfI n ps v w B pre (X.putObj r o) :=
  ⟨h.1.putObj o (by omega) (by omega), (World.putObj_heap_other (by omega)).trans h.2.1, h.2.2.trans ⟨rfl, rfl, rfl, by simp, fun k hk => World.putObj_heap_other (by omega)⟩⟩

theorem prf_close {n : Nat} {ps : List (List UInt8)} {v u : Value} {w W w2 Wf : World} {B : Nat} {pre : List (FkN n)} {x : FkN n} {r : List UInt8}
    (hV : Boxed W (w.heap.size + 1) 26 v) (hrow : W.ownsRow (B + 2) 9 1 v pre.length (strCells (rootsOf ps (fkL pre)))) (hRL : Row W w.heap.size 26 #[u]) (hB : Below w.heap.size w W) (h2 : Below W.heap.size W w2)
    (h4 : OwnBox Wf (w.heap.size + 1) (B + 2) 26 9 1 (pre.length + 1) (strCells (rootsOf ps (fkL pre)) ++ [strOf r])) (k3 : Keeps (ownNo (w.heap.size + 1) w2) w2 Wf) (hr : Dm.root (x.1.other ps) = r) (hs : B = w.heap.size + 4) :
    Keeps (ownNo (w.heap.size + 1) W) W Wf ∧ PrfI n ps u w B (pre ++ [x]) Wf := by
  have k1 : Keeps (ownNo (w.heap.size + 1) W) W Wf :=
    (Keeps.of_below h2).trans ⟨k3.os, k3.tape, k3.output, k3.size, fun k hk hn => k3.block k hk (fun h => hn (ownNo_grow hV h2 k h))⟩
  have hge : ∀ k, ownNo (w.heap.size + 1) W k → w.heap.size + 1 ≤ k := fun k hk => by
    have := (ownNo_is ⟨v, hV, hrow⟩ k hk).2; omega
  refine ⟨k1, ?_, ?_, hB.trans (k1.below (fun k hk => by have := hge k hk; omega) hB.size)⟩
  · have e1 : strCells (rootsOf ps (fkL (pre ++ [x]))) = strCells (rootsOf ps (fkL pre)) ++ [strOf r] := by
      rw [fkL_snoc]; simp [rootsOf, strCells, hr]
    rw [e1, List.length_append, List.length_singleton]
    exact h4
  · exact (k1.block _ hRL.lt (fun h => by have := hge _ h; omega)).trans hRL

set_option maxRecDepth 100000 in
set_option maxHeartbeats 600000 in
theorem prf_in (ps : List (List UInt8)) (i : Nat) (v : Value) (w : World) (hv : Strs w w.heap.size v ps) (hl : ∀ s ∈ ps, s.length ≤ 1000) (hi : i < ps.length) (hn : ps.length ≤ 1000000) (ht : TabOk w) :
    Calls Tryd.prog 22 #[v, .int .i64 (i : Int)] w fun e w' =>
      ∃ r, e = .returned (.tuple #[r, .int .i64 0]) ∧ w'.ownsRow w.heap.size 9 1 r (Dm.proof ps i).length (strCells (Dm.proof ps i)) ∧ Below w.heap.size w w' := by
  obtain ⟨i0, hi0, hz0, hz1, hz2⟩ := info_parts Tryd.infoStr
  have hv0 := hv
  obtain ⟨A, c, rfl, hc1, hc2, hA⟩ := hv
  obtain ⟨n, hnn⟩ : ∃ n, ps.length = n := ⟨_, rfl⟩
  rw [hnn] at hi hn hc1 ⊢
  have HN := Lib.hid hnn
  clear hnn
  refine (callsIn_wide (n := 3)).1 ?_
  refine callsIn_of_wp_marks Tryd.func22 rfl trivial ?_ rfl
  simp only [Tryd.ntmps22, List.size_toArray, List.length_cons, List.length_nil, Nat.reduceAdd, Nat.reduceSub, Array.replicate_succ, Array.replicate_zero, List.push_toArray, List.append_toArray, List.nil_append, List.cons_append]
  have hd : decide (n ≤ i) = false := by simp; omega
  gi_wp2_with (refine ⟨trivial, ?_⟩; gi_at_call 43; refine (forks_in _ _ _ _).mono ?_; rintro e w' ⟨rfl, rfl⟩)
  obtain ⟨W0, hW0⟩ : ∃ W0, ((((w.alloc (.cells #[.slice A n c] 26)).alloc (.cells #[.slice none 0 0] 26)).alloc (.cells #[.int .i64 (n : Int)] 3)).alloc (.cells #[.int .i64 (i : Int)] 3)) = W0 := ⟨_, rfl⟩
  have hs0 : W0.heap.size = w.heap.size + 4 := by rw [← hW0]; simp
  have hb0 : Below w.heap.size w W0 := by
    rw [← hW0]
    exact ((((Below.refl _ w).alloc (Nat.le_refl _) _).alloc (by simp) _).alloc (by simp; omega) _).alloc (by simp; omega) _
  have rl0 : Row W0 w.heap.size 26 #[.slice A n c] := by rw [← hW0]; exact (((Row.new w _ _).alloc _).alloc _).alloc _
  have bx0 : Boxed W0 (w.heap.size + 1) 26 (.slice none 0 0) := by
    rw [← hW0]
    have := ((Row.new (w.alloc (.cells #[.slice A n c] 26)) 26 #[.slice none 0 0]).alloc (.cells #[.int .i64 (n : Int)] 3)).alloc (.cells #[.int .i64 (i : Int)] 3)
    rw [World.size_alloc] at this; exact this
  have rn0 : Row W0 (w.heap.size + 1 + 1) 3 #[.int .i64 (n : Int)] := by
    rw [← hW0]
    have := (Row.new ((w.alloc (.cells #[.slice A n c] 26)).alloc (.cells #[.slice none 0 0] 26)) 3 #[.int .i64 (n : Int)]).alloc (.cells #[.int .i64 (i : Int)] 3)
    rw [World.size_alloc, World.size_alloc] at this; exact this
  have ri0 : Row W0 (w.heap.size + 1 + 1 + 1) 3 #[.int .i64 (i : Int)] := by
    rw [← hW0]
    have := Row.new (((w.alloc (.cells #[.slice A n c] 26)).alloc (.cells #[.slice none 0 0] 26)).alloc (.cells #[.int .i64 (n : Int)] 3)) 3 #[.int .i64 (i : Int)]
    rw [World.size_alloc, World.size_alloc, World.size_alloc] at this; exact this
  rw [hW0]
  clear hW0
  refine rangeFunc_or (F := Fence.wide) rfl (by decide) (gf := 62) (lb := #[.pointer (some ⟨w.heap.size + 1 + 1, 0, none⟩), .pointer (some ⟨w.heap.size + 1 + 1 + 1, 0, none⟩)]) rfl trivial (enters_of Tryd.func62 (by kernel_rfl) rfl)
    (no := ownNo (w.heap.size + 1)) (encs := encF)
    (forks_gives (3 - 1) n i (by omega) (by omega) _ _ _ W0 rn0 ri0)
    (fun _ => rfl) (fun k e => by omega)
    (PrfI n ps (.slice A n c) w W0.heap.size)
    (fun pre X Y k h hb hk => by
      have h1 : ownNo (w.heap.size + 1) X k := by obtain ⟨v, h1, _⟩ := h.1; exact ownNo_grow h1 hb k hk
      have h2 := ownNo_is h.1 k h1
      exact ⟨h1, h2.1, by omega, by omega, by omega⟩)
    (fun pre X o k h hk => ownNo_putObj (by omega) k hk)
    (fun _ _ _ => False) (fun _ _ _ _ _ _ h => h)
    (fun pre X Y h hb => h.grow hb)
    (fun pre X r o hr h => h.putObj hr hs0)
    ⟨⟨_, bx0, World.ownsRow_nil _ _ _ _⟩, rl0, hb0⟩
    (fun x a' W => ∃ Bx, W0.heap.size + 2 ≤ Bx ∧ Row W Bx 57 #[.int .i64 (x.1.fr : Int), .int .i64 (x.1.mid : Int), .int .i64 (x.1.to : Int), .bool x.1.sec] ∧
      a' = { tmps := #[.slice A n c, .int .i64 (i : Int), .pointer (some ⟨w.heap.size, 0, none⟩), undef, .slice none 0 0, .int .i64 0, .pointer (some ⟨w.heap.size + 1, 0, none⟩), .pointer (some ⟨Bx, 0, none⟩), .int .i64 (i : Int), .bool (decide ((i : Int) < 0)), .bool (decide ((i : Int) < 0)), .int .i64 (i : Int), .slice A n c, .int .i64 (n : Int), .bool false, .bool (decide ((i : Int) < 0)), .slice A n c, .int .i64 (n : Int), .int .i64 (i : Int), .func (.func 62) #[] #[.pointer (some ⟨w.heap.size + 1 + 1, 0, none⟩), .pointer (some ⟨w.heap.size + 1 + 1 + 1, 0, none⟩)], .agg #[.int .i64 (x.1.fr : Int), .int .i64 (x.1.mid : Int), .int .i64 (x.1.to : Int), .bool x.1.sec], undef, undef, undef, undef, undef, undef, undef, undef, undef, undef], defers := [] })
    (fun x a' W r o h1 h2 ⟨Bx, h3, h4, h5⟩ => ⟨Bx, h3, (World.putObj_heap_other (by omega)).trans h4, h5⟩) ?assign ?body ?done ?stop
  case assign =>
    intro l pre x W K hsz hI hK
    unfold encF fkV
    have rx := Row.new W 57 #[.int .i64 (x.1.fr : Int), .int .i64 (x.1.mid : Int), .int .i64 (x.1.to : Int), .bool x.1.sec]
    have HK := Lib.hid hK; have RX := Lib.hid rx
    clear hK rx
    gi_wp2
    exact HK.out _ _ ((Below.refl _ _).alloc (Nat.le_refl _) _) ⟨_, by omega, RX.out, rfl⟩
  case body =>
    rintro l pre x a' W hsz ⟨⟨v, hv, hrow⟩, hrl, hB⟩ ⟨Bx, h1, h2, rfl⟩ hlen
    have cx0 := h2.cell 0; have cx1 := h2.cell 1; have cx2 := h2.cell 2; have cx3 := h2.cell 3
    have cl := hrl.cell 0
    simp only [List.getElem?_toArray, List.getElem?_cons_zero, List.getElem?_cons_succ] at cx0 cx1 cx2 cx3 cl
    have cv := hv.cell
    have hfB := x.2
    have hvW : Strs W W.heap.size (.slice A n c) ps := by
      have := hv0.below hB
      rw [HN.out] at this; exact this.more hB.size
    have HO := Lib.hid (fun u (hu : Below W.heap.size W u) => other_any x.1 (.slice A n c) ps u (hvW.next hu) hfB.1 hfB.2.1 (by have := HN.out; omega))
    have HROW := Lib.hid hrow; have HV := Lib.hid hv; have HRL := Lib.hid hrl; have H2 := Lib.hid h2
    have hu0 : Below W.heap.size W W := Below.refl _ _
    clear hrow hv hrl h2 hvW hfB
    gi_wp2
    have hol : ∀ s ∈ x.1.other ps, s.length ≤ 1000 := by
      intro s hs
      unfold Dm.Fk.other at hs
      split at hs
      · exact hl s (List.mem_of_mem_drop (List.mem_of_mem_take hs))
      · exact hl s (List.mem_of_mem_drop (List.mem_of_mem_take hs))
    have hRT := Lib.hid (fun u v1 (h1 : Strs u u.heap.size v1 (x.1.other ps)) (hu : Below W.heap.size W u) => root_any v1 (x.1.other ps) u h1 hol (ht.next (hB.trans (hu.mono hB.size))))
    obtain ⟨r, hr⟩ : ∃ r, Dm.root (x.1.other ps) = r := ⟨_, rfl⟩
    rw [hr] at hRT
    gi_region_with (first | (refine ⟨trivial, (CallsIn.inRound l (callsIn_wide.2 (HO.out _ ?hu))).mono ?_⟩; (case hu => (first | assumption | exact Below.drew (by assumption))); rintro e w1 ⟨v1, rfl, hs1, hb1⟩; have hs2 := hs1.next hb1; have hb1W : Below W.heap.size W w1 := (Below.refl _ _).drew.trans hb1; have cv1 := (hb1W.cell (p := ⟨w.heap.size + 1, 0, none⟩) HV.out.lt).trans cv) | (refine ⟨trivial, (CallsIn.inRound l (callsIn_wide.2 (hRT.out _ _ ?h1 ?hu))).mono ?_⟩; (case h1 => assumption); (case hu => assumption); rintro e w2 ⟨rfl, hb2⟩; have hb2W : Below W.heap.size W w2 := hb1W.trans (hb2.mono hb1W.size); have hv2 : Boxed w2 (w.heap.size + 1) 26 v := (hb2W.block _ HV.out.lt).trans HV.out; have hrow2 := own_below HROW.out hb2W (own_lt HROW.out); obtain ⟨v3, w3, hrun, hown3, hg3, _⟩ := run_append_own (P := Tryd.prog) (w2.alloc (.cells #[strOf r] 9)) (W0.heap.size + 2) 26 26 9 i0 (.string ⟨#[]⟩) 1 16 Tryd.underlying26 hi0 hz0 hz1 hz2 rfl (by decide) v pre.length _ (hrow2.alloc _) ⟨w2.heap.size, 0, none⟩ 1 1 [strOf r] rfl (cell_one_new _ _ _) (by simp [Value.oneCell']) (by unfold maxLen; omega) (by omega) (by have := hb2W.size; simp; omega); have cv2 := hv2.cell; have hlt2 := hv2.lt; have HB2W := Lib.hid hb2W; have HV2 := Lib.hid hv2; have HROW2 := Lib.hid hrow2; have HOWN3 := Lib.hid hown3; have HG3 := Lib.hid hg3; obtain ⟨g', cap', rfl⟩ := ownsRow_succ hown3; obtain ⟨hv3, hv4, hk3⟩ := ownBox_append hv2 hrow2 (by omega) hown3 hg3; have cv3 := hv3.cell; have fv3 := hv3.frozen; have HV3 := Lib.hid hv3; have HV4 := Lib.hid hv4; have HK3 := Lib.hid hk3; clear hv3 hv4 hk3; rw [append_appN] at hrun; clear hb2W hv2 hrow2 hown3 hg3))
    all_goals exact prf_close HV.out HROW.out HRL.out hB HB2W.out HV4.out HK3.out hr hs0
  case done =>
    rintro D pre W hD hS ⟨⟨v, hv, hrow⟩, hrl, hB⟩ hK
    have hpf : Dm.proof ps i = (rootsOf ps (fkL pre)).reverse := by unfold Dm.proof rootsOf; rw [HN.out, hS]
    have hln : (rootsOf ps (fkL pre)).length = pre.length := by simp [rootsOf, fkL]
    have hle : (rootsOf ps (fkL pre)).length ≤ 1000 := by
      have h1 := Dm.forks_len 64 0 n i
      rw [← hS] at h1; simp [fkL] at h1; omega
    clear hS
    rw [← hln] at hrow
    have hrv := rvS_own (rootsOf ps (fkL pre)) v (W0.heap.size + 2) hle W hrow
    have hc := hv.cell
    have hDn : v.ownBlock ≠ some D := by
      intro e
      rcases hrow.2 with ⟨rfl, _⟩ | ⟨g, cap, cur, rfl, _, h4, _⟩
      · simp [Value.ownBlock] at e
      · simp [Value.ownBlock] at e; subst e; rw [hK] at h4; cases h4
    have hDl : D < W.heap.size := (Array.getElem?_eq_some_iff.1 hK).1
    have hge := own_ge hrow
    have HRV := Lib.hid hrv; have HV := Lib.hid hv; have HPF := Lib.hid hpf
    clear hrv hv hpf hrow hrl hln
    gi_wp2_with fail
    refine ⟨trivial, (callsIn_wide.2 HRV.out).mono ?_⟩
    rintro e w2 ⟨rfl, hrow2, hk2⟩
    have hK2 := (hk2.block D hDl hDn).trans hK
    have hc2 := (World.cell?_of_block (w := W) (a := ⟨w.heap.size + 1, 0, none⟩) (hk2.block _ HV.out.lt (fun e => by have := hge _ e; dsimp only at this; omega))).trans hc
    gi_wp2
    refine ⟨by simp, .inl ⟨_, _, rfl, run_takeDeferred hK2, ?_⟩⟩
    refine ⟨_, results_tmp2 rfl _ _ _, v, rfl, ?_, ?_⟩
    · rw [HPF.out]
      refine ⟨by rw [strCells_len, Nat.mul_one], ?_⟩
      have hl2 : (rootsOf ps (fkL pre)).reverse.length = (rootsOf ps (fkL pre)).length := List.length_reverse
      rw [hl2]
      rcases hrow2.2 with h3 | ⟨g, cap, cur, e, h3, h4, h5⟩
      · exact .inl h3
      · exact .inr ⟨g, cap, cur, e, by omega, (World.putObj_heap_other (fun e => by rw [e] at h4; rw [hK2] at h4; cases h4)).trans h4, h5⟩
    · have h6 : Below w.heap.size W w2 := hk2.below (fun k hk => by have := hge k hk; omega) hB.size
      exact (hB.trans h6).trans (belowK_b (w := w) (Nat.le_refl _) w2 D _ _ (by omega) hK2 rfl rfl)
  case stop =>
    rintro D c pre W _ _ h _
    exact h.elim
end Go.Proofs.YtnbhhhbmeafkaaaDoor
