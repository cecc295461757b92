/- The iterator pieces, handed to any loop by the own law. -/
import Derived.Test.YtmfpaankkoaoaaaDoorVd
namespace Go.Proofs.YtmfpaankkoaoaaaDoor
open Go.RowKit Go.Shelf
attribute [local go_sem] Oper.semAt_some

theorem RoundInn.anyDepth {F : Fence} (hd : F.depth = none) {m m' : Nat} {P : Program} {l : Nat} {f : FuncId} {tmps : Array Value} {assign body : Code} {w : World} {R : Ending → World → Prop}
    (h : RoundIn F m P l f tmps assign body w R) : RoundIn F m' P l f tmps assign body w R := ⟨h.1, fun c cs _ => h.2 c cs (fun d e => by rw [hd] at e; cases e)⟩
theorem YieldAt.any {F : Fence} (hd : F.depth = none) {m : Nat} (m' : Nat) {P : Program} {l : Nat} {args : Array Value} {W : World} {R : Ending → World → Prop} (h : YieldAt F m P l args W R) : YieldAt F m' P l args W R := by
  obtain ⟨fn, tmps, assign, body, hy, hR⟩ := h
  exact ⟨fn, tmps, assign, body, hy, RoundInn.anyDepth hd hR⟩
abbrev encP (p : Nat × Nat) : Array Value := #[.agg #[.int .i64 (p.1 : Int), .int .i64 (p.2 : Int)]]
abbrev mkD (D : Nat) : Deferred := { target := .collected D, args := #[] }
/-- What the iterator pieces keeps in memory while its loops run. -/
structure PInv (no : World → Nat → Prop) (Bs Bw By a b : Nat) (L : List Int) (l : Nat) (ds : List Nat) (X : World) : Prop where
  s : Row X Bs 25 #[.int .i64 (a : Int), .int .i64 (b : Int)]
  w : Row X Bw 23 (ints L)
  y : Row X By 58 #[.func (.yield l) #[] #[]]
  t : TzT X
  ny : ¬ no X By
  tz : tzG < X.heap.size
  mks : ∀ D ∈ ds, By ≤ D ∧ X.heap[D]? = some (.deferred (some []))
theorem Row.grown {W W' : World} {g : Nat} {t : TypeId} {cs : Array Value} {row : Option Nat} (h : Row W g t cs) (hg : W.grownBy W' row) (hr : ∀ r, row = some r → g < r) : Row W' g t cs := (hg.block g h.lt (fun e => by have := hr g e.symm; omega)).trans h
theorem PInv.grown {no : World → Nat → Prop} {Bs Bw By a b : Nat} {L : List Int} {l : Nat} {ds : List Nat} {X Y : World} {row : Option Nat} (h : PInv no Bs Bw By a b L l ds X) (hg : X.grownBy Y row)
    (hr : ∀ r, row = some r → Bs < r ∧ Bw < r ∧ By < r ∧ tzG < r ∧ ∀ D ∈ ds, D < r) (hn : ∀ k, no Y k → no X k) : PInv no Bs Bw By a b L l ds Y :=
  ⟨h.s.grown hg fun r e => (hr r e).1, h.w.grown hg fun r e => (hr r e).2.1, h.y.grown hg fun r e => (hr r e).2.2.1,
    fun j hj => by
      have e : Y.heap[tzG]? = X.heap[tzG]? := hg.block tzG h.tz (fun e => by have := (hr _ e.symm).2.2.2.1; omega)
      exact (show Y.cell? ⟨tzG, j, none⟩ = X.cell? ⟨tzG, j, none⟩ by unfold World.cell?; rw [e]).trans (h.t j hj),
    fun e => h.ny (hn _ e), Nat.lt_of_lt_of_le h.tz hg.size,
    fun D hD => ⟨(h.mks D hD).1, (hg.block D (Array.getElem?_eq_some_iff.1 (h.mks D hD).2).1 (fun e => by have := (hr _ e.symm).2.2.2.2 D hD; omega)).trans (h.mks D hD).2⟩⟩
theorem PInv.alloc {no : World → Nat → Prop} {Bs Bw By a b : Nat} {L : List Int} {l : Nat} {ds : List Nat} {X : World} (h : PInv no Bs Bw By a b L l ds X) (o : Obj) (hn : ∀ k, no (X.alloc o) k → no X k) : PInv no Bs Bw By a b L l ds (X.alloc o) :=
  h.grown (World.grownBy_alloc X o none) (fun r e => by cases e) hn
theorem PInv.keeps {no : World → Nat → Prop} {Bs Bw By a b : Nat} {L : List Int} {l : Nat} {ds : List Nat} {X Y : World} (h : PInv no Bs Bw By a b L l ds X) (hk : Keeps (no X) X Y) (h1 : ¬ no X Bs) (h2 : ¬ no X Bw) (h3 : ¬ no X tzG) (h4 : ∀ D ∈ ds, ¬ no X D) (hn : ¬ no Y By) : PInv no Bs Bw By a b L l ds Y :=
  ⟨hk.row h.s h1, hk.row h.w h2, hk.row h.y h.ny, h.t.keepK hk h.tz h3, hn, Nat.lt_of_lt_of_le h.tz hk.size, fun D hD => ⟨(h.mks D hD).1, (hk.block D (Array.getElem?_eq_some_iff.1 (h.mks D hD).2).1 (h4 D hD)).trans (h.mks D hD).2⟩⟩

theorem leaves_marks {F : Fence} {n : Nat} {P : Program} {fn : Func} {tmps : Array Value} {R : Ending → World → Prop} (hres : fn.results = #[]) (K : World → Prop) (B : Nat) (hK : ∀ X D o d, K X → B ≤ D → X.heap[D]? = some (.deferred d) → K (X.putObj D o)) (hR : ∀ X v, K X → R (.returned v) X) :
    ∀ (ds : List Nat) (X : World), ds.Nodup → (∀ D ∈ ds, B ≤ D ∧ X.heap[D]? = some (.deferred (some []))) → K X → LeavesInM F n P fn tmps R (ds.map mkD) .returning X := by
  intro ds
  induction ds with
  | nil =>
    intro X _ _ hk
    exact ⟨_, results_none hres _ _ _, hR X _ hk⟩
  | cons D ds ih =>
    intro X hnd hm hk
    obtain ⟨hB, hD⟩ := hm D (by simp)
    refine ⟨by simp, .inl ⟨_, _, rfl, run_takeDeferred hD, ih _ (List.nodup_cons.1 hnd).2 (fun E hE => ⟨(hm E (by simp [hE])).1, (World.putObj_heap_other (fun e => (List.nodup_cons.1 hnd).1 (by first | (rw [e]; exact hE) | (rw [← e]; exact hE)))).trans (hm E (by simp [hE])).2⟩) (hK X D _ _ hk hB hD)⟩⟩

theorem dayP_snoc (a b d : Nat) (R : List (Nat × Nat)) (r : Nat × Nat) : dayP a b d (R ++ [r]) = dayP a b d R ++ (clip a b (d * 86400 + r.1 * 3600, d * 86400 + r.2 * 3600)).toList := by
  unfold dayP
  rw [List.map_append, List.filterMap_append]
  congr 1
theorem dayP_pre {a b d : Nat} {R S : List (Nat × Nat)} (h : R <+: S) : dayP a b d R <+: dayP a b d S := by
  obtain ⟨t, rfl⟩ := h
  unfold dayP
  rw [List.map_append, List.filterMap_append]
  exact List.prefix_append _ _

set_option maxRecDepth 100000 in
set_option maxHeartbeats 8000000 in
theorem pieces1_p (n : Nat) (hn : 6 ≤ n) (l Bs Bw : Nat) (L : List Int) (h7 : L.length = 7) (hv : validW L = true) (a b : Nat) (hab : a < b) (hb : b ≤ 10000000) (J Jx : List (Nat × Nat) → World → Prop) (no : World → Nat → Prop) (W : World)
    (hJ : OwnFrom W.heap.size J) (hJx : OwnFrom W.heap.size Jx)
    (hno : ∀ s X k, J s X → no X k → k < X.heap.size ∧ ¬ (k = Bs ∨ k = Bw ∨ k = tzG) ∧ ((∃ o : Obj, X.heap[k]? = some o ∧ o.isCells = true) ∨ k < W.heap.size))
    (hng : ∀ s X Y row k, J s X → X.grownBy Y row → Turns W.heap.size X row → no Y k → no X k)
    (hY : ∀ pre x W1, pre ++ [x] <+: pcs L a b → J pre W1 → YieldAt Fence.wide (n - 1) Tryd.prog l (encP x) W1 fun e W' =>
      (e = .returned (.bool true) ∧ RoundK no W1 W' ∧ J (pre ++ [x]) W') ∨ (e = .returned (.bool false) ∧ Keeps (no W1) W1 W' ∧ Jx (pre ++ [x]) W'))
    (hBs : Row W Bs 25 #[.int .i64 (a : Int), .int .i64 (b : Int)]) (hBw : Row W Bw 23 (ints L)) (hT : TzT W) (h2 : tzG < W.heap.size) (h0 : J [] W) :
    CallsIn Fence.wide n Tryd.prog 54 #[.func (.yield l) #[] #[], .pointer (some ⟨Bs, 0, none⟩), .pointer (some ⟨Bw, 0, none⟩)] W fun e W' => (∃ v, e = .returned v) ∧
      (J (pcs L a b) W' ∨ (∃ pre, pre <+: pcs L a b ∧ Jx pre W')) := by
  have c0 := hBs.cell 0
  have c1 := hBs.cell 1
  have lBs := hBs.lt
  have lBw := hBw.lt
  have q0 : ((a : Int)).tdiv 86400 = ((a / 86400 : Nat) : Int) := by rw [Int.tdiv_eq_ediv_of_nonneg (by omega)]; omega
  have HAT := Lib.hid (fun k (hk : k < 7) => hrs_at hv (show k < L.length by omega))
  have HIC := Lib.hid (fun k => ints_get L k)
  have hnW : ¬ no (W.alloc (.cells #[.func (.yield l) #[] #[]] 58)) W.heap.size := fun e => by
    have := (hno [] W _ h0 (hng [] W _ none _ h0 (World.grownBy_alloc W _ none) (fun r e => by cases e) e)).1
    omega
  have HI0 : Hid (PInv no Bs Bw W.heap.size a b L l [] (W.alloc (.cells #[.func (.yield l) #[] #[]] 58))) :=
    Lib.hid ⟨hBs.alloc _, hBw.alloc _, Row.new _ _ _, hT.keep (Below.refl W.heap.size W |>.alloc (Nat.le_refl _) _) h2, hnW, by simp; omega, fun D hD => by cases hD⟩
  have HJ0 : Hid (J [] (W.alloc (.cells #[.func (.yield l) #[] #[]] 58))) := Lib.hid (hJ.alloc _ h0)
  have HP0 := Lib.hid (show pcs L a b = [] ++ pcl (fun k => rl 25 (hrs L k) 0) a b (117 - a / 86400) (a / 86400) from rfl)
  have hn1 : 1 ≤ n := by omega
  have hn2 : 1 ≤ n - 1 - 1 := by omega
  obtain ⟨full, hfull⟩ : ∃ f, pcs L a b = f := ⟨_, rfl⟩
  rw [hfull] at HP0 hY ⊢
  clear hfull
  refine callsIn_of_wp_marks Tryd.func54 rfl trivial ?_ rfl
  simp only [Tryd.ntmps54, List.size_toArray, List.length_cons, List.length_nil, Nat.reduceAdd, Nat.reduceSub, Array.replicate_succ, Array.replicate_zero, List.push_toArray, List.append_toArray, List.nil_append, List.cons_append]
  gi_wp2
  refine wpIn_loop (fun act X => ∃ (d f : Nat) (pre : List (Nat × Nat)) (ds : List Nat) (DS : List Deferred) (x5 x6 x7 x8 x9 x10 x11 x12 x13 x14 x15 x16 x17 x18 x19 x20 x21 x22 x23 x24 x25 x26 x27 x28 x29 x30 x31 x32 x33 x34 x35 x36 x37 x38 x39 x40 x41 x42 x43 x44 x45 x46 x47 x48 x49 x50 x51 x52 x53 : Value), act = { tmps := #[.func (.yield l) #[] #[], .pointer (some ⟨Bs, 0, none⟩), .pointer (some ⟨Bw, 0, none⟩), .pointer (some ⟨W.heap.size, 0, none⟩), .int .i64 (d : Int), x5, x6, x7, x8, x9, x10, x11, x12, x13, x14, x15, x16, x17, x18, x19, x20, x21, x22, x23, x24, x25, x26, x27, x28, x29, x30, x31, x32, x33, x34, x35, x36, x37, x38, x39, x40, x41, x42, x43, x44, x45, x46, x47, x48, x49, x50, x51, x52, x53], defers := DS } ∧
      Hid (DS = ds.map mkD ∧ ds.Nodup ∧ d + f = 117 ∧ a < (d + 1) * 86400 ∧ full = pre ++ pcl (fun k => rl 25 (hrs L k) 0) a b f d) ∧ Hid (J pre X) ∧ Hid (PInv no Bs Bw W.heap.size a b L l ds X))
    (fun act _ => 117 - (intOf (act.tmps[4]?.getD undef)).toNat) ⟨a / 86400, 117 - a / 86400, [], [], [], _, _, _, _, _, _, _, _, _, _, _, _, _, _, _, _, _, _, _, _, _, _, _, _, _, _, _, _, _, _, _, _, _, _, _, _, _, _, _, _, _, _, _, _, _, _, _, _, _, rfl, Lib.hid ⟨rfl, List.nodup_nil, by omega, by omega, HP0.out⟩, HJ0, HI0⟩ ?_
  rintro act X ⟨d, f, pre, ds, DS, x5, x6, x7, x8, x9, x10, x11, x12, x13, x14, x15, x16, x17, x18, x19, x20, x21, x22, x23, x24, x25, x26, x27, x28, x29, x30, x31, x32, x33, x34, x35, x36, x37, x38, x39, x40, x41, x42, x43, x44, x45, x46, x47, x48, x49, x50, x51, x52, x53, rfl, HD, HJX, HIX⟩
  clear c0 c1 HI0 HJ0 HP0 q0 hnW
  have c0 := HIX.out.s.cell 0
  have c1 := HIX.out.s.cell 1
  have lBs2 := HIX.out.s.lt
  have lBw2 := HIX.out.w.lt
  have lBy2 := HIX.out.y.lt
  have d0 : (0 : Int) ≤ (d : Int) := by omega
  have d1 : (d : Int) ≤ 117 := by have := HD.out; omega
  by_cases hlt : d * 86400 < b
  · have t0 : decide ((d : Int) * 86400 < (b : Int)) = true := decide_eq_true (by omega)
    have t1 : (d : Int) * 86400 < (b : Int) := by omega
    have q1 : ((d : Int)).tmod 7 = ((d % 7 : Nat) : Int) := by rw [Int.tmod_eq_emod_of_nonneg (by omega)]; omega
    obtain ⟨hx, hx2⟩ := HAT.out (d % 7) (by omega)
    have cw := HIX.out.w.cell (d % 7)
    have hic := HIC.out (d % 7)
    rw [hx] at hic
    simp only [Option.map_some] at hic
    rw [hic] at cw
    have HHS := Lib.hid (show hrs L (d % 7) = hrs L (d % 7) from rfl)
    obtain ⟨sd, hsd⟩ : ∃ sd, hrs L (d % 7) = sd := ⟨_, rfl⟩
    rw [hsd] at cw hx2
    have HSD := Lib.hid hsd
    obtain ⟨e7, he7⟩ : ∃ e, d % 7 = e := ⟨_, rfl⟩
    rw [he7] at cw q1
    have k0 : (0 : Int) ≤ (e7 : Int) := by omega
    have k1 : (e7 : Int) < 7 := by omega
    have HE7 := Lib.hid he7
    clear hx hic HHS hsd he7
    gi_wp2_with (refine ⟨trivial, ?_⟩; gi_at_call 55; ((with_reducible refine CallsIn.mono (callsIn_wide.2 (runs_call _ _)) ?_); rintro e' w' ⟨rfl, rfl⟩))
    have hnX : ∀ (Z : World) (o : Obj), J pre Z → ∀ k, no (Z.alloc o) k → no Z k := fun Z o hz k hk => hng pre Z _ none k hz (World.grownBy_alloc Z o none) (fun r e => by cases e) hk
    have hnlt : ∀ (s : List (Nat × Nat)) (Z : World) (k : Nat), J s Z → no Z k → k < Z.heap.size := fun s Z k hz hk => (hno s Z k hz hk).1
    have hq1 : J pre (X.alloc (.cells #[.int .i64 ((d : Int) * 86400)] 3)) := hJ.alloc _ HJX.out
    obtain ⟨X1, hX1⟩ : ∃ X1, (X.alloc (.cells #[.int .i64 ((d : Int) * 86400)] 3)).alloc (.cells #[.int .i64 (sd : Int)] 3) = X1 := ⟨_, rfl⟩
    have hs1 : X1.heap.size = X.heap.size + 1 + 1 := by rw [← hX1]; simp
    have HM1 : Hid (Row X1 X.heap.size 3 #[.int .i64 ((d : Int) * 86400)]) := Lib.hid (by rw [← hX1]; exact (Row.new _ _ _).alloc _)
    have HB1 : Hid (Row X1 (X.heap.size + 1) 3 #[.int .i64 (sd : Int)]) := Lib.hid (by
      rw [← hX1]
      have := Row.new (X.alloc (.cells #[.int .i64 ((d : Int) * 86400)] 3)) 3 #[.int .i64 (sd : Int)]
      rwa [World.size_alloc] at this)
    have HJ1 : Hid (J pre X1) := Lib.hid (by rw [← hX1]; exact hJ.alloc _ hq1)
    have HN1 : Hid (∀ k, no X1 k → no X k) := Lib.hid (fun k hk => by rw [← hX1] at hk; exact hnX _ _ HJX.out k (hnX _ _ hq1 k hk))
    have HI1 : Hid (PInv no Bs Bw W.heap.size a b L l ds X1) := Lib.hid (by rw [← hX1]; exact (HIX.out.alloc _ (hnX _ _ HJX.out)).alloc _ (hnX _ _ hq1))
    have HDS : Hid (∀ D ∈ ds, D < X.heap.size) := Lib.hid (fun D hD => (Array.getElem?_eq_some_iff.1 (HIX.out.mks D hD).2).1)
    have HLT : Hid (∀ k, no X1 k → k < X.heap.size) := Lib.hid (fun k hk => hnlt pre X k HJX.out (HN1.out k hk))
    rw [hX1]
    clear hX1 hq1 hnX hnlt c0 c1 cw
    have hWX : W.heap.size < X.heap.size := lBy2
    have HCA : Hid (∀ pp Z, J pp Z → ∀ D ∈ ds, Z.heap[D]? = some (.deferred (some [])) → ¬ no Z D) := Lib.hid (fun pp Z hz D hD hh hk => by
      rcases (hno pp Z D hz hk).2.2 with ⟨o, ho, hc⟩ | h
      · rw [hh] at ho; cases ho; cases hc
      · have := (HIX.out.mks D hD).1; omega)
    refine rangeFunc_p (F := Fence.wide) rfl hn1 (gf := 74) (lb := #[.pointer (some ⟨X.heap.size + 1, 0, none⟩)]) rfl trivial (enters_of Tryd.func74 (by kernel_rfl) rfl)
      (runs_p (n - 1) (by omega) (X.heap.size + 1) sd hx2 (fun Y k => no Y k ∨ k = X1.heap.size + 1) X1 HI1.out.tz (by omega) (HB1.out.cell 0) HI1.out.t) (fun _ => rfl) (fun k hk => hk.elim (fun e => by omega) (fun e => e ▸ HI1.out.tz))
      (fun rp Y => J (pre ++ dayP a b d rp) Y ∧ PInv no Bs Bw W.heap.size a b L l ds Y ∧ Row Y X.heap.size 3 #[.int .i64 ((d : Int) * 86400)] ∧ ¬ no Y X.heap.size ∧ ¬ no Y (X.heap.size + 1) ∧ X1.heap.size ≤ Y.heap.size)
      (fun c _ Y => c = .ret ∧ ∃ pp, pp <+: full ∧ Jx pp Y ∧ (∀ D ∈ ds, Y.heap[D]? = some (.deferred (some []))) ∧ X1.heap.size ≤ Y.heap.size)
      ?oI ?oIx ?start ?hno ?hng
      (fun _ x a' _ => ∃ (x8 x9 x10 x11 x12 x13 x14 x15 x16 x17 x18 x19 x20 x21 x22 x23 x24 x25 x26 x27 x28 x29 x30 x31 x32 x33 x34 x35 x36 x37 x38 x39 x40 x41 x42 x43 x44 x45 x46 x47 x48 x49 x50 x51 x52 x53 : Value), a' = { tmps := #[.func (.yield l) #[] #[], .pointer (some ⟨Bs, 0, none⟩), .pointer (some ⟨Bw, 0, none⟩), .pointer (some ⟨W.heap.size, 0, none⟩), .int .i64 (d : Int), .pointer (some ⟨X.heap.size, 0, none⟩), .int .i64 (x.1 : Int), .int .i64 (x.2 : Int), x8, x9, x10, x11, x12, x13, x14, x15, x16, x17, x18, x19, x20, x21, x22, x23, x24, x25, x26, x27, x28, x29, x30, x31, x32, x33, x34, x35, x36, x37, x38, x39, x40, x41, x42, x43, x44, x45, x46, x47, x48, x49, x50, x51, x52, x53], defers := [] })
      (fun _ _ _ _ _ _ _ hs _ _ => hs) ?assign ?body ?done ?stop
    case oI =>
      rintro rp Y Z row ⟨hj, hi, hm, hnm, hnb, hsz⟩ hg hr
      have hr0 : Turns W.heap.size Y row := fun r e => ⟨by have := (hr r e).1; omega, (hr r e).2⟩
      have hn0 : ∀ k, no Z k → no Y k := fun k hk => hng _ Y Z row k hj hg hr0 hk
      exact ⟨hJ _ Y Z row hj hg hr0, hi.grown hg (fun r e => by have h1 := (hr r e).1; have h2 := HI1.out.tz; have h3 := HI1.out.s.lt; have h4 := HI1.out.w.lt; exact ⟨by omega, by omega, by omega, by omega, fun D hD => by have := HDS.out D hD; omega⟩) hn0, hm.grown hg (fun r e => by have := (hr r e).1; omega), fun e => hnm (hn0 _ e), fun e => hnb (hn0 _ e), Nat.le_trans hsz hg.size⟩
    case oIx =>
      rintro c rp Y Z row ⟨hc, pp, hpp, hj, hm, hsz⟩ hg hr
      exact ⟨hc, pp, hpp, hJx _ Y Z row hj hg (fun r e => ⟨by have := (hr r e).1; omega, (hr r e).2⟩), fun D hD => (hg.block D (by have := HDS.out D hD; omega) (fun e => by have h1 := (hr _ e.symm).1; have := HDS.out D hD; omega)).trans (hm D hD), Nat.le_trans hsz hg.size⟩
    case start => exact ⟨by rw [show dayP a b d [] = [] from rfl, List.append_nil]; exact HJ1.out, HI1.out, HM1.out, fun e => by have := HLT.out _ e; omega, fun e => by have := HLT.out _ e; omega, Nat.le_refl _⟩
    case hno =>
      rintro rp Y k ⟨hj, hi, hm, hnm, hnb, hsz⟩ hk
      obtain ⟨e1, e2, e3⟩ := hno _ Y k hj hk
      exact ⟨e1, fun h => h.elim (fun e => hnb (e ▸ hk)) (fun e => e2 (.inr (.inr e))), e3.imp id (fun h => by omega)⟩
    case hng =>
      rintro rp Y Z row k ⟨hj, -⟩ hg hr hk
      exact hng _ Y Z row k hj hg (fun r e => ⟨by have := (hr r e).1; omega, (hr r e).2⟩) hk
    case assign =>
      rintro l' rp x Y K hpre hi hK
      gi_wp2
      exact hK _ _ (RoundK.refl _ _) hi ⟨_, _, _, _, _, _, _, _, _, _, _, _, _, _, _, _, _, _, _, _, _, _, _, _, _, _, _, _, _, _, _, _, _, _, _, _, _, _, _, _, _, _, _, _, _, _, rfl⟩
    case body =>
      rintro l' rp x a' Y hl ⟨r, hr⟩ hpre ⟨hj, hi, hm, hnm, hnb, hsz⟩ ⟨x8, x9, x10, x11, x12, x13, x14, x15, x16, x17, x18, x19, x20, x21, x22, x23, x24, x25, x26, x27, x28, x29, x30, x31, x32, x33, x34, x35, x36, x37, x38, x39, x40, x41, x42, x43, x44, x45, x46, x47, x48, x49, x50, x51, x52, x53, rfl⟩
      have hmem : x ∈ rl 25 sd 0 := by obtain ⟨t, ht⟩ := hpre; rw [← ht]; simp
      obtain ⟨-, hx12, hx24⟩ := rl_mem sd hx2 25 0 (by omega) x hmem
      obtain ⟨u, v⟩ := x
      dsimp only at hx12 hx24
      have c0 := hi.s.cell 0
      have c1 := hi.s.cell 1
      have c2 := hm.cell 0
      have c3 := hi.y.cell 0
      have l0 := hi.s.lt
      have l1 := hm.lt
      have l2 := hi.y.lt
      have d2 : (d : Int) ≤ 115 := by omega
      have u0 : (0 : Int) ≤ (u : Int) := by omega
      have u1 : (u : Int) ≤ 24 := by omega
      have v0 : (0 : Int) ≤ (v : Int) := by omega
      have v1 : (v : Int) ≤ 24 := by omega
      obtain ⟨U, hU⟩ : ∃ U, max a (d * 86400 + u * 3600) = U := ⟨_, rfl⟩
      obtain ⟨V, hV⟩ : ∃ V, min b (d * 86400 + v * 3600) = V := ⟨_, rfl⟩
      have m1 : max (a : Int) ((d : Int) * 86400 + (u : Int) * 3600) = (U : Int) := by omega
      have m2 : min (b : Int) ((d : Int) * 86400 + (v : Int) * 3600) = (V : Int) := by omega
      have R1 := fun w => run_max2 (P := Tryd.prog) (w := w) #[3, 3] 3 .i64 .i64 _ _ _ m1
      have R2 := fun w => run_min2 (P := Tryd.prog) (w := w) #[3, 3] 3 .i64 .i64 _ _ _ m2
      have HC := Lib.hid (show dayP a b d (rp ++ [(u, v)]) = dayP a b d rp ++ (if U < V then some (U, V) else none).toList by rw [dayP_snoc]; unfold clip; dsimp only; rw [hU, hV])
      have HPR := Lib.hid (dayP_pre (a := a) (b := b) (d := d) hpre)
      have HH := Lib.hid hi
      have HMM := Lib.hid (And.intro hm (And.intro hnm (And.intro hnb hsz)))
      have HJ2 := Lib.hid hj
      clear hi hm hnm hnb hsz hj m1 m2 hU hV hpre hmem hx12 hx24
      have hgo : ∀ k, no (Y.alloc (.cells #[.int .i64 (U : Int), .int .i64 (V : Int)] 25)) k → no Y k := fun k hk => hng _ Y _ none k HJ2.out (World.grownBy_alloc Y _ none) (fun r e => by cases e) hk
      have HG0 := Lib.hid hgo
      clear hgo
      by_cases hUV : U < V
      · have t2 : decide ((U : Int) < (V : Int)) = true := decide_eq_true (by omega)
        have t3 : (U : Int) < (V : Int) := by omega
        have hcc := HC.out
        rw [if_pos hUV] at hcc
        have HC2 := Lib.hid (show dayP a b d (rp ++ [(u, v)]) = dayP a b d rp ++ [(U, V)] from hcc)
        have hfull : pre ++ dayP a b d rp ++ [(U, V)] <+: full := by
          obtain ⟨g1, g2, g3, g4, g5⟩ := HD.out
          obtain ⟨f1, rfl⟩ : ∃ f1, f = f1 + 1 := ⟨f - 1, by omega⟩
          rw [pcl_cons hlt, HSD.out] at g5
          rw [g5, List.append_assoc pre, ← HC2.out]
          exact (List.prefix_append_right_inj pre).2 (HPR.out.trans (List.prefix_append _ _))
        obtain ⟨fn, tmps, assign, body, hyy, hR⟩ := YieldAt.any rfl (n - 1 - 1 - 1) (hY _ (U, V) (Y.alloc (.cells #[.int .i64 (U : Int), .int .i64 (V : Int)] 25)) hfull (hJ.alloc _ HJ2.out))
        dsimp only [encP] at hyy
        have HF := Lib.hid hfull
        clear hcc hfull
        gi_wp2
        have hRY : RoundK no Y (Y.alloc (.cells #[.int .i64 (U : Int), .int .i64 (V : Int)] 25)) := ⟨Keeps.of_below ((Below.refl _ Y).alloc (Nat.le_refl _) _), fun k hk => .inl (HG0.out k hk)⟩
        have hjA : J (pre ++ dayP a b d rp) (Y.alloc (.cells #[.int .i64 (U : Int), .int .i64 (V : Int)] 25)) := hJ.alloc _ HJ2.out
        have hIA := HH.out.alloc (.cells #[.int .i64 (U : Int), .int .i64 (V : Int)] 25) HG0.out
        have HA := Lib.hid (And.intro hRY (And.intro hjA hIA))
        clear hRY hjA hIA
        refine hR.mono ?_
        rintro e' W3 (⟨rfl, hk3, hj3⟩ | ⟨rfl, hk3, hjx3⟩)
        · have HK3 := Lib.hid (And.intro hk3 hj3)
          clear hk3 hj3
          gi_wp2
          obtain ⟨hk3, hj3⟩ := HK3.out
          obtain ⟨hRY, hjA, hIA⟩ := HA.out
          obtain ⟨hm, hnm, hnb, hsz⟩ := HMM.out
          have hsA : (Y.alloc (.cells #[.int .i64 (U : Int), .int .i64 (V : Int)] 25)).heap.size = Y.heap.size + 1 := by simp
          have hgrow : ∀ k, k < X1.heap.size → ¬ no Y k → ¬ no W3 k := fun k hk hn hh => (hk3.grow k hh).elim (fun e => hn (HG0.out k e)) (fun e => by omega)
          exact ⟨hRY.trans hk3, by rw [HC2.out, ← List.append_assoc]; exact hj3, hIA.keeps hk3.keeps (fun e => (hno _ _ _ hjA e).2.1 (.inl rfl)) (fun e => (hno _ _ _ hjA e).2.1 (.inr (.inl rfl))) (fun e => (hno _ _ _ hjA e).2.1 (.inr (.inr rfl))) (fun D hD => HCA.out _ _ hjA D hD (hIA.mks D hD).2) (hgrow _ (by omega) HH.out.ny),
            hk3.keeps.row (hm.alloc _) (fun e => hnm (HG0.out _ e)), hgrow _ (by omega) hnm, hgrow _ (by omega) hnb, by have := hk3.keeps.size; omega⟩
        · have HK3 := Lib.hid (And.intro hk3 hjx3)
          clear hk3 hjx3
          gi_wp2
          obtain ⟨hk3, hjx3⟩ := HK3.out
          obtain ⟨hRY, hjA, hIA⟩ := HA.out
          obtain ⟨hm, hnm, hnb, hsz⟩ := HMM.out
          have hsA : (Y.alloc (.cells #[.int .i64 (U : Int), .int .i64 (V : Int)] 25)).heap.size = Y.heap.size + 1 := by simp
          exact ⟨hRY.keep hk3, rfl, _, HF.out, hjx3, fun D hD => (hk3.block D (by have := (Array.getElem?_eq_some_iff.1 (hIA.mks D hD).2).1; exact this) (HCA.out _ _ hjA D hD (hIA.mks D hD).2)).trans (hIA.mks D hD).2, by have := hk3.size; omega⟩
      · have t2 : decide ((U : Int) < (V : Int)) = false := decide_eq_false (by omega)
        have t3 : ¬ (U : Int) < (V : Int) := by omega
        have hcc := HC.out
        rw [if_neg hUV] at hcc
        have HC2 := Lib.hid (show dayP a b d (rp ++ [(u, v)]) = dayP a b d rp from hcc.trans (List.append_nil _))
        clear hcc
        gi_wp2
        refine ⟨fun _ h => (by cases h), ?_⟩
        gi_wp2
        obtain ⟨hm, hnm, hnb, hsz⟩ := HMM.out
        exact ⟨⟨Keeps.of_below ((Below.refl _ Y).alloc (Nat.le_refl _) _), fun k hk => .inl (HG0.out k hk)⟩, by rw [HC2.out]; exact hJ.alloc _ HJ2.out, HH.out.alloc _ HG0.out, hm.alloc _, fun e => hnm (HG0.out _ e), fun e => hnb (HG0.out _ e), Nat.le_trans hsz (by simp)⟩
    case done =>
      rintro D Y rfl ⟨hj, hi, hm, hnm, hnb, hsz⟩ hD
      obtain ⟨g1, g2, g3, g4, g5⟩ := HD.out
      have HG := Lib.hid (And.intro g1 (And.intro g2 (And.intro g3 (And.intro g4 g5))))
      clear g1 g2 g4 g5
      gi_wp2
      obtain ⟨g1, g2, g3, g4, g5⟩ := HG.out
      obtain ⟨f1, rfl⟩ : ∃ f1, f = f1 + 1 := ⟨f - 1, by omega⟩
      rw [pcl_cons hlt, HSD.out] at g5
      exact ⟨⟨d + 1, f1, pre ++ dayP a b d (rl 25 sd 0), X1.heap.size :: ds, _, _, _, _, _, _, _, _, _, _, _, _, _, _, _, _, _, _, _, _, _, _, _, _, _, _, _, _, _, _, _, _, _, _, _, _, _, _, _, _, _, _, _, _, _, _, _, _, _, _, rfl, Lib.hid ⟨by rw [g1]; rfl, List.nodup_cons.2 ⟨fun h => by have := HDS.out _ h; omega, g2⟩, by omega, Nat.lt_of_lt_of_le g4 (Nat.mul_le_mul_right _ (Nat.le_succ _)), by rw [g5, List.append_assoc]⟩, Lib.hid hj,
        Lib.hid ⟨hi.s, hi.w, hi.y, hi.t, hi.ny, hi.tz, fun D hDD => (List.mem_cons.1 hDD).elim (fun e => e ▸ ⟨by omega, hD⟩) (fun e => hi.mks D e)⟩⟩, by simp [intOf]; omega⟩
    case stop =>
      rintro D c rp Y rfl hrp ⟨rfl, pp, hpp, hjx, hm, hsz⟩ hD
      obtain ⟨g1, g2, g3, g4, g5⟩ := HD.out
      have HG := Lib.hid (And.intro g1 g2)
      clear g1 g2 g4 g5
      gi_wp2
      obtain ⟨g1, g2⟩ := HG.out
      rw [g1]
      exact leaves_marks rfl (fun Y => ∃ pp, pp <+: full ∧ Jx pp Y) W.heap.size (fun Y D o d hk hB hD => ⟨hk.choose, hk.choose_spec.1, hJx.putObj _ hk.choose_spec.2 hB hD rfl⟩) (fun Y v hk => ⟨⟨v, rfl⟩, .inr hk⟩) (X1.heap.size :: ds) Y (List.nodup_cons.2 ⟨fun h => by have := HDS.out _ h; omega, g2⟩)
        (fun D hDD => (List.mem_cons.1 hDD).elim (fun e => e ▸ ⟨by omega, hD⟩) (fun e => ⟨(HIX.out.mks D e).1, hm D e⟩)) ⟨pp, hpp, hjx⟩
  · have t0 : decide ((d : Int) * 86400 < (b : Int)) = false := decide_eq_false (by omega)
    have t1 : ¬ (d : Int) * 86400 < (b : Int) := by omega
    gi_wp2
    obtain ⟨g1, g2, g3, g4, g5⟩ := HD.out
    rw [pcl_nil hlt, List.append_nil] at g5
    rw [g1, g5]
    exact leaves_marks rfl (fun Y => J pre Y) W.heap.size (fun Y D o d hk hB hD => hJ.putObj _ hk hB hD rfl) (fun Y v hk => ⟨⟨v, rfl⟩, .inl hk⟩) ds X g2 HIX.out.mks HJX.out
theorem pieces_p (n : Nat) (hn : 6 ≤ n) (Bs Bw : Nat) (L : List Int) (h7 : L.length = 7) (hv : validW L = true) (a b : Nat) (hab : a < b) (hb : b ≤ 10000000) (no : World → Nat → Prop) (w : World) (h2 : tzG < w.heap.size)
    (hBs : Row w Bs 25 #[.int .i64 (a : Int), .int .i64 (b : Int)]) (hBw : Row w Bw 23 (ints L)) (hT : TzT w) :
    GivesP Fence.wide n Tryd.prog 54 #[.pointer (some ⟨Bs, 0, none⟩), .pointer (some ⟨Bw, 0, none⟩)] encP no (fun k => k = Bs ∨ k = Bw ∨ k = tzG) (pcs L a b) w :=
  fun l J Jx W hW hJ hJx hno hng hY h0 => pieces1_p n hn l Bs Bw L h7 hv a b hab hb J Jx no W hJ hJx hno hng hY (hBs.below hW hBs.lt) (hBw.below hW hBw.lt) (hT.keep hW h2) (Nat.lt_of_lt_of_le h2 hW.size) h0
set_option maxHeartbeats 400000 in
theorem pieces_call (L : List Int) (h7 : L.length = 7) (a b : Int) (w : World) : Calls Tryd.prog 31 #[wv L, .agg #[.int .i64 a, .int .i64 b]] w fun e w' => e = .returned (.func (.func 54) #[] #[.pointer (some ⟨w.heap.size + 1, 0, none⟩), .pointer (some ⟨w.heap.size, 0, none⟩)]) ∧ w' = (w.alloc (.cells (ints L) 23)).alloc (.cells #[.int .i64 a, .int .i64 b] 25) := by
  obtain ⟨x0, x1, x2, x3, x4, x5, x6, rfl⟩ := seven h7
  show Calls Tryd.prog 31 #[.agg #[.int .i64 x0, .int .i64 x1, .int .i64 x2, .int .i64 x3, .int .i64 x4, .int .i64 x5, .int .i64 x6], .agg #[.int .i64 a, .int .i64 b]] w fun e w' => e = .returned (.func (.func 54) #[] #[.pointer (some ⟨w.heap.size + 1, 0, none⟩), .pointer (some ⟨w.heap.size, 0, none⟩)]) ∧ w' = (w.alloc (.cells #[.int .i64 x0, .int .i64 x1, .int .i64 x2, .int .i64 x3, .int .i64 x4, .int .i64 x5, .int .i64 x6] 23)).alloc (.cells #[.int .i64 a, .int .i64 b] 25)
  go_enter Tryd.func31, Tryd.ntmps31
  go_wp2
  go_ret
  exact ⟨by simp, rfl⟩
end Go.Proofs.YtmfpaankkoaoaaaDoor
