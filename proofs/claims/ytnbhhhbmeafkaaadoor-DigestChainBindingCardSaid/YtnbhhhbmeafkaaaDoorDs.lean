/- Contract of wayToEnd: the parts on the way down to the first part that ends where the old list ends, the smallest one first, and where that part begins. -/
import Derived.Test.YtnbhhhbmeafkaaaDoorDp
import Derived.Scope
namespace Go.Proofs.YtnbhhhbmeafkaaaDoor
open Go.RowKit Go.Shelf
attribute [local go_sem] Oper.semAt_some

/-- What the parts before the first one that ends at m leave. -/
def upto (m : Nat) (fs : List Dm.Fk) : List Dm.Fk := fs.takeWhile fun f => f.to != m
def fromOf (fs : List Dm.Fk) : Nat := fs.foldl (fun a f => if f.sec then f.mid else a) 0
theorem fromOf_snoc (fs : List Dm.Fk) (f : Dm.Fk) : fromOf (fs ++ [f]) = if f.sec then f.mid else fromOf fs := by simp [fromOf]
theorem upto_stop (m : Nat) (pre fs : List Dm.Fk) (x : Dm.Fk) (h : ∀ f ∈ pre, f.to ≠ m) (hx : x.to = m) (hp : pre ++ [x] <+: fs) : upto m fs = pre := by
  obtain ⟨t, rfl⟩ := hp
  unfold upto
  rw [List.append_assoc, List.takeWhile_append_of_pos (by intro a ha; simpa using h a ha)]
  simp [hx]
theorem upto_all (m : Nat) (fs : List Dm.Fk) (h : ∀ f ∈ fs, f.to ≠ m) : upto m fs = fs := by
  have := List.takeWhile_append_of_pos (p := fun f : Dm.Fk => f.to != m) (l₁ := fs) (l₂ := []) (by intro a ha; simpa using h a ha)
  rw [List.append_nil, List.takeWhile_nil, List.append_nil] at this
  exact this

theorem scope_wide {n : Nat} {P : Program} {Q : Exit → Act → World → Prop} {a : Act} {w : World} {c : Code} (h : c.wpIn Fence.wide n P (Exit.noGoto Q) a w) : (Code.scope c).wpIn Fence.wide n P Q a w := wpIn_wide.2 (wp_scope_straight (wpIn_wide.1 h))

def WayPost (n m : Nat) (w : World) (e : Ending) (w' : World) : Prop := ∃ v, e = .returned (.tuple #[v, .int .i64 (fromOf (upto m (Dm.forks 64 0 n (m - 1))) : Int)]) ∧
  w'.ownsRow w.heap.size 57 4 v (upto m (Dm.forks 64 0 n (m - 1))).length (fkCells (upto m (Dm.forks 64 0 n (m - 1))).reverse) ∧ Below w.heap.size w w'

/-- What holds between two rounds of wayToEnd: B is the heap's size where the loop begins. -/
def WayI (n m : Nat) (w : World) (B : Nat) (pre : List (FkN n)) (W : World) : Prop :=
  OwnBox W (w.heap.size + 1) (B + 2) 60 57 4 pre.length (fkCells (fkL pre)) ∧ Row W (w.heap.size + 1 + 1) 3 #[.int .i64 ((fromOf (fkL pre) : Nat) : Int)] ∧ Row W w.heap.size 3 #[.int .i64 (m : Int)] ∧
    (∀ f ∈ fkL pre, f.to ≠ m) ∧ Below w.heap.size w W
theorem WayI.grow {n m : Nat} {w : World} {B : Nat} {pre : List (FkN n)} {X Y : World} (h : WayI n m w B pre X) (hb : Below X.heap.size X Y) : WayI n m w B pre Y :=
  ⟨h.1.grow hb, h.2.1.below hb h.2.1.lt, h.2.2.1.below hb h.2.2.1.lt, h.2.2.2.1, h.2.2.2.2.trans (hb.mono h.2.2.2.2.size)⟩
theorem WayI.putObj {n m : Nat} {w : World} {B : Nat} {pre : List (FkN n)} {X : World} (h : WayI n m w B pre X) {r : Nat} {o : Obj} (hr : r = B + 1) (hB : B = w.heap.size + 5) : WayI n m w B pre (X.putObj r o) :=
  ⟨h.1.putObj o (by omega) (by omega), (World.putObj_heap_other (by omega)).trans h.2.1, (World.putObj_heap_other (by omega)).trans h.2.2.1, h.2.2.2.1, h.2.2.2.2.trans ⟨rfl, rfl, rfl, by simp, fun k hk => World.putObj_heap_other (by omega)⟩⟩

set_option maxRecDepth 100000 in
set_option maxHeartbeats 2000000 in
theorem way_any (n m : Nat) (hn : n ≤ 9223372036854775807) (hm : m ≤ 9223372036854775807) (h1 : 1 ≤ m) (w : World) :
    Calls Tryd.prog 47 #[.int .i64 (n : Int), .int .i64 (m : Int)] w (WayPost n m w) := by
  obtain ⟨i0, hi0, hz0, hz1, hz2⟩ := info_parts Tryd.infoFk
  have e1 : (m : Int) - 1 = ((m - 1 : Nat) : Int) := by omega
  refine (callsIn_wide (n := 3)).1 ?_
  refine callsIn_of_wp_marks Tryd.func47 rfl trivial ?_ rfl
  simp only [Tryd.ntmps47, List.size_toArray, List.length_cons, List.length_nil, Nat.reduceAdd, Nat.reduceSub, Array.replicate_succ, Array.replicate_zero, List.push_toArray, List.append_toArray, List.nil_append, List.cons_append]
  gi_wp2
  refine scope_wide ?_
  gi_wp2
  refine wpIn_label ?_
  gi_wp2_with (refine ⟨trivial, ?_⟩; gi_at_call 43; refine (forks_in _ _ _ _).mono ?_; rintro e w' ⟨rfl, rfl⟩)
  obtain ⟨W0, hW0⟩ : ∃ W0, (((((w.alloc (.cells #[.int .i64 (m : Int)] 3)).alloc (.cells #[.slice none 0 0] 60)).alloc (.cells #[.int .i64 0] 3)).alloc (.cells #[.int .i64 (n : Int)] 3)).alloc (.cells #[.int .i64 ((m - 1 : Nat) : Int)] 3)) = W0 := ⟨_, rfl⟩
  have hs0 : W0.heap.size = w.heap.size + 5 := by rw [← hW0]; simp
  have hb0 : Below w.heap.size w W0 := by
    rw [← hW0]
    exact (((((Below.refl _ w).alloc (Nat.le_refl _) _).alloc (by simp) _).alloc (by simp; omega) _).alloc (by simp; omega) _).alloc (by simp; omega) _
  have rm0 : Row W0 w.heap.size 3 #[.int .i64 (m : Int)] := by rw [← hW0]; exact ((((Row.new w _ _).alloc _).alloc _).alloc _).alloc _
  have bx0 : Boxed W0 (w.heap.size + 1) 60 (.slice none 0 0) := by
    rw [← hW0]
    have := (((Row.new (w.alloc (.cells #[.int .i64 (m : Int)] 3)) 60 #[.slice none 0 0]).alloc (.cells #[.int .i64 0] 3)).alloc (.cells #[.int .i64 (n : Int)] 3)).alloc (.cells #[.int .i64 ((m - 1 : Nat) : Int)] 3)
    rw [World.size_alloc] at this; exact this
  have rf0 : Row W0 (w.heap.size + 1 + 1) 3 #[.int .i64 ((fromOf [] : Nat) : Int)] := by
    rw [← hW0]
    have := ((Row.new ((w.alloc (.cells #[.int .i64 (m : Int)] 3)).alloc (.cells #[.slice none 0 0] 60)) 3 #[.int .i64 0]).alloc (.cells #[.int .i64 (n : Int)] 3)).alloc (.cells #[.int .i64 ((m - 1 : Nat) : Int)] 3)
    rw [World.size_alloc, World.size_alloc] at this; exact this
  have rn0 : Row W0 (w.heap.size + 1 + 1 + 1) 3 #[.int .i64 (n : Int)] := by
    rw [← hW0]
    have := (Row.new (((w.alloc (.cells #[.int .i64 (m : Int)] 3)).alloc (.cells #[.slice none 0 0] 60)).alloc (.cells #[.int .i64 0] 3)) 3 #[.int .i64 (n : Int)]).alloc (.cells #[.int .i64 ((m - 1 : Nat) : Int)] 3)
    rw [World.size_alloc, World.size_alloc, World.size_alloc] at this; exact this
  have ri0 : Row W0 (w.heap.size + 1 + 1 + 1 + 1) 3 #[.int .i64 ((m - 1 : Nat) : Int)] := by
    rw [← hW0]
    have := Row.new ((((w.alloc (.cells #[.int .i64 (m : Int)] 3)).alloc (.cells #[.slice none 0 0] 60)).alloc (.cells #[.int .i64 0] 3)).alloc (.cells #[.int .i64 (n : Int)] 3)) 3 #[.int .i64 ((m - 1 : Nat) : Int)]
    rw [World.size_alloc, World.size_alloc, World.size_alloc, World.size_alloc] at this; exact this
  rw [hW0]
  clear hW0 e1
  refine rangeFunc_or (F := Fence.wide) rfl (by decide) (gf := 62) (lb := #[.pointer (some ⟨w.heap.size + 1 + 1 + 1, 0, none⟩), .pointer (some ⟨w.heap.size + 1 + 1 + 1 + 1, 0, none⟩)]) rfl trivial (enters_of Tryd.func62 (by kernel_rfl) rfl)
    (no := fun X k => ownNo (w.heap.size + 1) X k ∨ k = w.heap.size + 1 + 1) (encs := encF)
    (forks_gives (3 - 1) n (m - 1) hn (by omega) _ _ _ W0 rn0 ri0)
    (fun _ => rfl) (fun k e => by omega)
    (WayI n m w W0.heap.size)
    (fun pre X Y k h hb hk => by
      rcases hk with hk | rfl
      · have h1 : ownNo (w.heap.size + 1) X k := by obtain ⟨v, h1, _⟩ := h.1; exact ownNo_grow h1 hb k hk
        have h2 := ownNo_is h.1 k h1
        exact ⟨.inl h1, h2.1, by omega, by omega, by omega⟩
      · exact ⟨.inr rfl, h.2.1.lt, by omega, by omega, by omega⟩)
    (fun pre X o k h hk => hk.elim (fun hk => .inl (ownNo_putObj (by omega) k hk)) .inr)
    (fun c pre W => c = .exit 0 ∧ ∃ (pre' : List (FkN n)) (x : FkN n), pre = pre' ++ [x] ∧ x.1.to = m ∧ WayI n m w W0.heap.size pre' W)
    (fun c pre X r o hr h => by
      obtain ⟨h1, pre', x, h2, h3, h4⟩ := h
      exact ⟨h1, pre', x, h2, h3, h4.putObj hr hs0⟩)
    (fun pre X Y h hb => h.grow hb)
    (fun pre X r o hr h => h.putObj hr hs0)
    ⟨⟨_, bx0, World.ownsRow_nil _ _ _ _⟩, rf0, rm0, (fun f hf => by cases hf), hb0⟩
    (fun x a' W => ∃ Bx, W0.heap.size + 2 ≤ Bx ∧ Row W Bx 57 #[.int .i64 (x.1.fr : Int), .int .i64 (x.1.mid : Int), .int .i64 (x.1.to : Int), .bool x.1.sec] ∧
      a' = { tmps := #[.int .i64 (n : Int), .int .i64 (m : Int), undef, .pointer (some ⟨w.heap.size, 0, none⟩), .slice none 0 0, .int .i64 0, .pointer (some ⟨w.heap.size + 1, 0, none⟩), .pointer (some ⟨w.heap.size + 1 + 1, 0, none⟩), .pointer (some ⟨Bx, 0, none⟩), .int .i64 (n : Int), .int .i64 (m : Int), .int .i64 ((m - 1 : Nat) : Int), .func (.func 62) #[] #[.pointer (some ⟨w.heap.size + 1 + 1 + 1, 0, none⟩), .pointer (some ⟨w.heap.size + 1 + 1 + 1 + 1, 0, none⟩)], .agg #[.int .i64 (x.1.fr : Int), .int .i64 (x.1.mid : Int), .int .i64 (x.1.to : Int), .bool x.1.sec], undef, undef, undef, undef, undef, undef, undef, undef, undef, undef, undef, undef, undef, undef, undef, undef, undef, undef], defers := [] })
    (fun x a' W r o h1 h2 ⟨Bx, h3, h4, h5⟩ => ⟨Bx, h3, (World.putObj_heap_other (by omega)).trans h4, h5⟩) ?assign ?body ?done ?stop
  case assign =>
    intro l pre x W K hsz hI hK
    unfold encF fkV
    have rx := Row.new W 57 #[.int .i64 (x.1.fr : Int), .int .i64 (x.1.mid : Int), .int .i64 (x.1.to : Int), .bool x.1.sec]
    have HK := Lib.hid hK; have RX := Lib.hid rx
    clear hK rx
    gi_wp2
    exact HK.out _ _ ((Below.refl _ _).alloc (Nat.le_refl _) _) ⟨_, by omega, RX.out, rfl⟩
  case body =>
    rintro l pre x a' W hsz ⟨⟨v, hv, hrow⟩, hfr, hrm, hne, hB⟩ ⟨Bx, h1, h2, rfl⟩ hlen
    have cx0 := h2.cell 0; have cx1 := h2.cell 1; have cx2 := h2.cell 2; have cx3 := h2.cell 3
    have cm := hrm.cell 0
    have cf := hfr.cell 0; have ff := hfr.free 0
    simp only [List.getElem?_toArray, List.getElem?_cons_zero, List.getElem?_cons_succ] at cx0 cx1 cx2 cx3 cm cf
    have hc := hv.cell
    have H2 := Lib.hid h2; have HROW := Lib.hid hrow; have HV := Lib.hid hv; have HFR := Lib.hid hfr; have HRM := Lib.hid hrm; have HNE := Lib.hid hne
    clear h2 hrow hv hfr hrm hne
    by_cases heq : x.1.to = m
    · have hd : (((x.1.to : Nat) : Int) == (m : Int)) = true := by rw [beq_iff_eq]; omega
      have HEQ := Lib.hid heq
      clear heq
      gi_wp2
      exact ⟨Keeps.refl _ _, rfl, pre, x, rfl, HEQ.out, ⟨_, HV.out, HROW.out⟩, HFR.out, HRM.out, HNE.out, hB⟩
    · have hd : (((x.1.to : Nat) : Int) == (m : Int)) = false := by rw [beq_eq_false_iff_ne]; omega
      have HEQ := Lib.hid heq
      clear heq
      obtain ⟨b, hb⟩ : ∃ b, x.1.sec = b := ⟨_, rfl⟩
      rw [hb] at cx3 ⊢
      have HBS := Lib.hid hb
      clear hb
      have hlx : fkCells (fkL (pre ++ [x])) = fkCells (fkL pre) ++ [.int .i64 (x.1.fr : Int), .int .i64 (x.1.mid : Int), .int .i64 (x.1.to : Int), .bool b] := by rw [fkL_snoc, fkCells_snoc, HBS.out]
      have HLX := Lib.hid hlx
      clear hlx
      have hfin : ∀ f ∈ fkL (pre ++ [x]), f.to ≠ m := by
        intro f hf
        rw [fkL_snoc] at hf
        rcases List.mem_append.1 hf with hf | hf
        · exact HNE.out f hf
        · rw [List.mem_singleton.1 hf]; exact HEQ.out
      have HFIN := Lib.hid hfin
      clear hfin
      cases b
      · gi_wp2_with (gi_at_builtin; refine wpListIn_append_own _ rfl _ _ 60 rfl (W0.heap.size + 2) 57 i0 (.agg #[.int .i64 0, .int .i64 0, .int .i64 0, .bool false]) 4 32 Tryd.underlying60 hi0 hz0 hz1 hz2 rfl (by decide) _ _ _ rfl (HROW.out.alloc _) ⟨W.heap.size, 0, none⟩ 1 1 [.int .i64 (x.1.fr : Int), .int .i64 (x.1.mid : Int), .int .i64 (x.1.to : Int), .bool false] rfl rfl (cells_new _ _ _) (by simp [Value.oneCell']) (by unfold maxLen; omega) (by omega) (by simp; omega) ?_; intro v' w1 hown' hgrow _; obtain ⟨g', cap', rfl⟩ := ownsRow_succ hown'; obtain ⟨hv1, hv2, hk2⟩ := ownBox_append HV.out HROW.out (by omega) hown' hgrow; have hc1 := hv1.cell; have hf1 := hv1.frozen)
        have hnk : ∀ k, ownNo (w.heap.size + 1) W k → k = w.heap.size + 1 ∨ W0.heap.size + 2 ≤ k := fun k hk => (ownNo_is ⟨_, HV.out, HROW.out⟩ k hk).2
        have hlo : ∀ k, k < W0.heap.size + 2 → k ≠ w.heap.size + 1 → ¬ ownNo (w.heap.size + 1) W k := fun k h1 h2 h3 => (hnk k h3).elim h2 (fun h => by omega)
        refine ⟨⟨hk2.os, hk2.tape, hk2.output, hk2.size, fun k h1 h2 => hk2.block k h1 (fun e => h2 (.inl e))⟩, ?_, (hk2.block _ HFR.out.lt (hlo _ (by omega) (by omega))).trans ?_, (hk2.block _ HRM.out.lt (hlo _ (by omega) (by omega))).trans HRM.out, HFIN.out, ?_⟩
        · rw [HLX.out, List.length_append, List.length_singleton]; exact hv2
        · rw [fkL_snoc, fromOf_snoc, HBS.out]; exact HFR.out
        · exact hB.trans (hk2.below (fun k hk => by have := hnk k hk; omega) hB.size)
      · have hv' : Boxed (W.setCell ⟨w.heap.size + 1 + 1, 0, none⟩ (.int .i64 (x.1.mid : Int))) (w.heap.size + 1) 60 v := (Below.heap_setCell _ _ _ _ (by simp)).trans HV.out
        have hrow' : (W.setCell ⟨w.heap.size + 1 + 1, 0, none⟩ (.int .i64 (x.1.mid : Int))).ownsRow (W0.heap.size + 2) 57 4 v pre.length (fkCells (fkL pre)) := ownsRow_setCell_below HROW.out (by simp; omega) _
        have HV2 := Lib.hid hv'; have HROW2 := Lib.hid hrow'
        have hsz2 : (W.setCell ⟨w.heap.size + 1 + 1, 0, none⟩ (.int .i64 (x.1.mid : Int))).heap.size = W.heap.size := by simp [World.setCell]
        have hcn : ∀ xs : List Value, ∀ j u, xs[j]? = some u → ((W.setCell ⟨w.heap.size + 1 + 1, 0, none⟩ (.int .i64 (x.1.mid : Int))).alloc (.cells xs.toArray 57)).cell? ((⟨W.heap.size, 0, none⟩ : Addr).add j) = some u := by
          intro xs j u hj
          rw [← hsz2]; exact cells_new _ xs _ j u hj
        have HCN := Lib.hid hcn; have HSZ2 := Lib.hid hsz2
        clear hv' hrow' hcn hsz2
        gi_wp2_with (gi_at_builtin; refine wpListIn_append_own _ rfl _ _ 60 rfl (W0.heap.size + 2) 57 i0 (.agg #[.int .i64 0, .int .i64 0, .int .i64 0, .bool false]) 4 32 Tryd.underlying60 hi0 hz0 hz1 hz2 rfl (by decide) _ _ _ rfl (HROW2.out.alloc _) ⟨W.heap.size, 0, none⟩ 1 1 [.int .i64 (x.1.fr : Int), .int .i64 (x.1.mid : Int), .int .i64 (x.1.to : Int), .bool true] rfl rfl (HCN.out _) (by simp [Value.oneCell']) (by unfold maxLen; omega) (by omega) (by simp; omega) ?_; intro v' w1 hown' hgrow _; obtain ⟨g', cap', rfl⟩ := ownsRow_succ hown'; obtain ⟨hv1, hv2, hk2⟩ := ownBox_append HV2.out HROW2.out (by omega) hown' hgrow; have hc1 := hv1.cell; have hf1 := hv1.frozen)
        have hnk : ∀ k, ownNo (w.heap.size + 1) (W.setCell ⟨w.heap.size + 1 + 1, 0, none⟩ (.int .i64 (x.1.mid : Int))) k → ownNo (w.heap.size + 1) W k := by
          intro k hk
          rcases hk with hk | ⟨u, hu, hk⟩
          · exact .inl hk
          · refine .inr ⟨u, ?_, hk⟩
            rw [HV2.out.cell] at hu
            rw [HV.out.cell]; exact hu
        have hnl : ∀ k, ownNo (w.heap.size + 1) W k → k = w.heap.size + 1 ∨ W0.heap.size + 2 ≤ k := fun k hk => (ownNo_is ⟨_, HV.out, HROW.out⟩ k hk).2
        have hlo : ∀ k, k < W0.heap.size + 2 → k ≠ w.heap.size + 1 → ¬ ownNo (w.heap.size + 1) (W.setCell ⟨w.heap.size + 1 + 1, 0, none⟩ (.int .i64 (x.1.mid : Int))) k := fun k h1 h2 h3 => (hnl k (hnk k h3)).elim h2 (fun h => by omega)
        have kk : Keeps (fun k => ownNo (w.heap.size + 1) W k ∨ k = w.heap.size + 1 + 1) W (w1.setCell ⟨w.heap.size + 1, 0, none⟩ (.slice (some ⟨g', 0, none⟩) (pre.length + 1) cap')) := by
          have k1 : Keeps (fun k => ownNo (w.heap.size + 1) W k ∨ k = w.heap.size + 1 + 1) W (W.setCell ⟨w.heap.size + 1 + 1, 0, none⟩ (.int .i64 (x.1.mid : Int))) := Keeps.setCell (.inr rfl) _
          exact k1.trans ⟨hk2.os, hk2.tape, hk2.output, hk2.size, fun k h1 h2 => hk2.block k h1 (fun e => h2 (.inl (hnk k e)))⟩
        refine ⟨kk, ?_, (hk2.block _ (by rw [HSZ2.out]; exact HFR.out.lt) (hlo _ (by omega) (by omega))).trans ?_, (kk.block _ HRM.out.lt (fun e => e.elim (fun e => by have := hnl _ e; omega) (fun e => by omega))).trans HRM.out, HFIN.out, ?_⟩
        · rw [HLX.out, List.length_append, List.length_singleton]; exact hv2
        · rw [fkL_snoc, fromOf_snoc, HBS.out]; exact HFR.out.put 0 _
        · exact hB.trans (kk.below (fun k hk => hk.elim (fun e => by have := hnl _ e; omega) (fun e => by omega)) hB.size)
  case done =>
    rintro D pre W hD hS hi hK
    have hup : upto m (Dm.forks 64 0 n (m - 1)) = fkL pre := by rw [← hS]; exact upto_all _ _ hi.2.2.2.1
    clear hS
    obtain ⟨⟨v, hv, hrow⟩, hfr, hrm, hne, hB⟩ := hi
    have hfk : (fkL pre).length = pre.length := by simp [fkL]
    have hle : (fkL pre).length ≤ 1000 := by
      have h1 := Dm.forks_len 64 0 n (m - 1)
      have h2 : (upto m (Dm.forks 64 0 n (m - 1))).length ≤ (Dm.forks 64 0 n (m - 1)).length := (List.takeWhile_prefix _).length_le
      rw [hup] at h2; omega
    rw [← hfk] at hrow
    have hrv := revFk_own (fkL pre) v (W0.heap.size + 2) hle W hrow
    have hc := hv.cell
    have hDn : v.ownBlock ≠ some D := by
      intro e
      rcases hrow.2 with ⟨rfl, _⟩ | ⟨g, cap, cur, rfl, _, h4, _⟩
      · simp [Value.ownBlock] at e
      · simp [Value.ownBlock] at e; subst e; rw [hK] at h4; cases h4
    have hDl : D < W.heap.size := (Array.getElem?_eq_some_iff.1 hK).1
    have hge := own_ge hrow
    have HRV := Lib.hid hrv; have HV := Lib.hid hv; have HFR := Lib.hid hfr; have HUP := Lib.hid hup; have HFK := Lib.hid hfk
    clear hrv hv hfr hrm hne hup hrow hfk hle
    gi_wp2_with fail
    refine ⟨trivial, (callsIn_wide.2 HRV.out).mono ?_⟩
    rintro e w2 ⟨rfl, hrow2, hk2⟩
    have hK2 := (hk2.block D hDl hDn).trans hK
    have hc2 := (World.cell?_of_block (w := W) (a := ⟨w.heap.size + 1, 0, none⟩) (hk2.block _ HV.out.lt (fun e => by have := hge _ e; dsimp only at this; omega))).trans hc
    have hf2 := (World.cell?_of_block (w := W) (a := ⟨w.heap.size + 1 + 1, 0, none⟩) (hk2.block _ HFR.out.lt (fun e => by have := hge _ e; dsimp only at this; omega))).trans (HFR.out.cell 0)
    simp only [List.getElem?_toArray, List.getElem?_cons_zero] at hf2
    gi_wp2
    gi_region
    gi_wp2
    rw [Exit.noGoto_ret]
    refine ⟨by simp, .inl ⟨_, _, rfl, run_takeDeferred (w := w2.drew) hK2, ?_⟩⟩
    refine ⟨_, results_tmp2 rfl _ _ _, v, by rw [HUP.out]; rfl, ?_, ?_⟩
    · rw [HUP.out]
      refine ⟨by rw [fkCells_len, List.length_reverse, Nat.mul_comm], ?_⟩
      rcases hrow2.2 with h3 | ⟨g, cap, cur, e, h3, h4, h5⟩
      · exact .inl h3
      · exact .inr ⟨g, cap, cur, e, by omega, (World.putObj_heap_other (fun e => by rw [e] at h4; rw [hK2] at h4; cases h4)).trans h4, h5⟩
    · have h6 : Below w.heap.size W w2 := hk2.below (fun k hk => by have := hge k hk; omega) hB.size
      exact ((hB.trans h6).drew).trans (belowK_b (w := w) (Nat.le_refl _) w2.drew D _ _ (by omega) hK2 rfl rfl)
  case stop =>
    rintro D c pre W hD hS ⟨rfl, pre', x, rfl, hx, hi⟩ hK
    have hup : upto m (Dm.forks 64 0 n (m - 1)) = fkL pre' := by rw [fkL_snoc] at hS; exact upto_stop _ _ _ _ hi.2.2.2.1 hx hS
    clear hS hx
    obtain ⟨⟨v, hv, hrow⟩, hfr, hrm, hne, hB⟩ := hi
    have hfk : (fkL pre').length = pre'.length := by simp [fkL]
    have hle : (fkL pre').length ≤ 1000 := by
      have h1 := Dm.forks_len 64 0 n (m - 1)
      have h2 : (upto m (Dm.forks 64 0 n (m - 1))).length ≤ (Dm.forks 64 0 n (m - 1)).length := (List.takeWhile_prefix _).length_le
      rw [hup] at h2; omega
    rw [← hfk] at hrow
    have hrv := revFk_own (fkL pre') v (W0.heap.size + 2) hle W hrow
    have hc := hv.cell
    have hDn : v.ownBlock ≠ some D := by
      intro e
      rcases hrow.2 with ⟨rfl, _⟩ | ⟨g, cap, cur, rfl, _, h4, _⟩
      · simp [Value.ownBlock] at e
      · simp [Value.ownBlock] at e; subst e; rw [hK] at h4; cases h4
    have hDl : D < W.heap.size := (Array.getElem?_eq_some_iff.1 hK).1
    have hge := own_ge hrow
    have HRV := Lib.hid hrv; have HV := Lib.hid hv; have HFR := Lib.hid hfr; have HUP := Lib.hid hup; have HFK := Lib.hid hfk
    clear hrv hv hfr hrm hne hup hrow hfk hle
    gi_wp2_with fail
    refine ⟨trivial, (callsIn_wide.2 HRV.out).mono ?_⟩
    rintro e w2 ⟨rfl, hrow2, hk2⟩
    have hK2 := (hk2.block D hDl hDn).trans hK
    have hc2 := (World.cell?_of_block (w := W) (a := ⟨w.heap.size + 1, 0, none⟩) (hk2.block _ HV.out.lt (fun e => by have := hge _ e; dsimp only at this; omega))).trans hc
    have hf2 := (World.cell?_of_block (w := W) (a := ⟨w.heap.size + 1 + 1, 0, none⟩) (hk2.block _ HFR.out.lt (fun e => by have := hge _ e; dsimp only at this; omega))).trans (HFR.out.cell 0)
    simp only [List.getElem?_toArray, List.getElem?_cons_zero] at hf2
    gi_wp2
    gi_region
    gi_wp2
    rw [Exit.noGoto_ret]
    refine ⟨by simp, .inl ⟨_, _, rfl, run_takeDeferred (w := w2.drew) hK2, ?_⟩⟩
    refine ⟨_, results_tmp2 rfl _ _ _, v, by rw [HUP.out]; rfl, ?_, ?_⟩
    · rw [HUP.out]
      refine ⟨by rw [fkCells_len, List.length_reverse, Nat.mul_comm], ?_⟩
      rcases hrow2.2 with h3 | ⟨g, cap, cur, e, h3, h4, h5⟩
      · exact .inl h3
      · exact .inr ⟨g, cap, cur, e, by omega, (World.putObj_heap_other (fun e => by rw [e] at h4; rw [hK2] at h4; cases h4)).trans h4, h5⟩
    · have h6 : Below w.heap.size W w2 := hk2.below (fun k hk => by have := hge k hk; omega) hB.size
      exact ((hB.trans h6).drew).trans (belowK_b (w := w) (Nat.le_refl _) w2.drew D _ _ (by omega) hK2 rfl rfl)
end Go.Proofs.YtnbhhhbmeafkaaaDoor
