/- Rows of claims changed in place. -/
import Derived.Test.YtinhjobjlpkflaaEr
import Derived.Laws.IdiomCopy
namespace Go.Proofs.Ytinhjobjlpkflaa
open Go.RowKit Go.Shelf

theorem own_shrink {w : World} {B k n g c : Nat} {e : TypeId} {xs : List Value} (h : w.ownsRow B e k (.slice (some ⟨g, 0, none⟩) n c) n xs) {i : Nat} (hi : i ≤ n) : w.ownsRow B e k (.slice (some ⟨g, 0, none⟩) i c) i (xs.take (i * k)) := by
  rcases h.2 with ⟨h0, _⟩ | ⟨g', c', cur, hv, hB, hh, h1, h2, h3, h4⟩
  · cases h0
  · injection hv with e1 e2 e3
    injection e1 with e1
    injection e1 with e1 e4
    subst e1; subst e3
    have hik : i * k ≤ n * k := Nat.mul_le_mul_right k hi
    refine ⟨by rw [List.length_take, h.1]; omega, .inr ⟨g, c, cur, rfl, hB, hh, by omega, h2, h3, ?_⟩⟩
    rw [← h4, List.take_take, Nat.min_eq_left hik]
theorem own_beyond {w : World} {B k n g c : Nat} {e : TypeId} {xs : List Value} (h : w.ownsRow B e k (.slice (some ⟨g, 0, none⟩) n c) n xs) {o : Nat} (ho : n * k ≤ o) (y : Value) : (w.setCell ⟨g, o, none⟩ y).ownsRow B e k (.slice (some ⟨g, 0, none⟩) n c) n xs := by
  rcases h.2 with ⟨h0, _⟩ | ⟨g', c', cur, hv, hB, hh, h1, h2, h3, h4⟩
  · cases h0
  · injection hv with e1 e2 e3
    injection e1 with e1
    injection e1 with e1 e4
    subst e1; subst e3
    refine ⟨h.1, .inr ⟨g, c, cur.setIfInBounds o y, rfl, hB, (show Row w g e cur from hh).put _ _, h1, h2, by simpa using h3, ?_⟩⟩
    rw [Array.toList_setIfInBounds, List.take_set_of_le ho, h4]
theorem own_beyonds {B k n g c : Nat} {e : TypeId} {xs : List Value} : ∀ (vs : List Value) (o : Nat) (w : World), w.ownsRow B e k (.slice (some ⟨g, 0, none⟩) n c) n xs → n * k ≤ o → (w.setCells g o vs).ownsRow B e k (.slice (some ⟨g, 0, none⟩) n c) n xs
  | [], _, _, h, _ => h
  | v :: r, o, w, h, ho => own_beyonds r (o + 1) _ (own_beyond h ho v) (by omega)
theorem below_setCells {B g : Nat} (hg : B ≤ g) {w : World} : ∀ (vs : List Value) (o : Nat) (u : World), Below B w u → Below B w (u.setCells g o vs)
  | [], _, _, h => h
  | v :: r, o, _, h => below_setCells hg r (o + 1) _ (h.setCell (p := ⟨g, o, none⟩) hg v)
theorem flat_set (x : Cl) : ∀ (D : List Cl) (p : Nat), p < D.length → flatE encC (D.set p x) = ((((flatE encC D).set (p * 4) (.int .i64 x.cand)).set (p * 4 + 1) (.int .i64 x.of_)).set (p * 4 + 2) (.int .i64 x.rest)).set (p * 4 + 3) (.int .i64 x.until_)
  | [], p, h => absurd h (Nat.not_lt_zero _)
  | a :: D, 0, _ => by simp [flatE, encC]
  | a :: D, p + 1, h => by
    have ih := flat_set x D p (by simpa using h)
    have e : flatE encC (a :: D) = encC a ++ flatE encC D := rfl
    have e2 : flatE encC ((a :: D).set (p + 1) x) = encC a ++ flatE encC (D.set p x) := rfl
    have hs : ∀ (i : Nat) (v : Value) (r : List Value), (encC a ++ r).set ((p + 1) * 4 + i) v = encC a ++ r.set (p * 4 + i) v := fun i v r => by
      rw [List.set_append_right _ _ (by rw [encC_len]; omega), encC_len, show (p + 1) * 4 + i - 4 = p * 4 + i by omega]
    have h0 := hs 0
    simp only [Nat.add_zero] at h0
    rw [e, e2, ih, h0, hs 1, hs 2, hs 3]
theorem own_setC {u : World} {B n g c : Nat} {D : List Cl} (h : u.ownsRow B 39 4 (.slice (some ⟨g, 0, none⟩) n c) n (flatE encC D)) (hD : D.length = n) {p : Nat} (hp : p < n) (x : Cl) :
    ((((u.setCell ⟨g, p * 4, none⟩ (.int .i64 x.cand)).setCell ⟨g, p * 4 + 1, none⟩ (.int .i64 x.of_)).setCell ⟨g, p * 4 + 2, none⟩ (.int .i64 x.rest)).setCell ⟨g, p * 4 + 3, none⟩ (.int .i64 x.until_)).ownsRow B 39 4 (.slice (some ⟨g, 0, none⟩) n c) n (flatE encC (D.set p x)) := by
  have key : ∀ (w : World) (xs : List Value), w.ownsRow B 39 4 (.slice (some ⟨g, 0, none⟩) n c) n xs → ∀ o, o < n * 4 → ∀ y, (w.setCell ⟨g, o, none⟩ y).ownsRow B 39 4 (.slice (some ⟨g, 0, none⟩) n c) n (xs.set o y) := fun w xs hx o ho y => by
    have hl : o < xs.length := by rw [hx.1]; exact ho
    obtain ⟨g', c', hv, _, _, _, _, hset⟩ := own_cell hx (List.getElem?_eq_getElem hl)
    injection hv with e1 e2 e3
    injection e1 with e1
    injection e1 with e1 e4
    subst e1
    exact hset w y rfl
  rw [flat_set x D p (by omega)]
  exact key _ _ (key _ _ (key _ _ (key _ _ h _ (by omega) _) _ (by omega) _) _ (by omega) _) _ (by omega) _
theorem own_cells {u : World} {B n g c : Nat} {D : List Cl} (h : u.ownsRow B 39 4 (.slice (some ⟨g, 0, none⟩) n c) n (flatE encC D)) {p : Nat} {q : Cl} (hq : D[p]? = some q) : B ≤ g ∧ g < u.heap.size ∧ ∀ i, i < 4 → u.cell? ⟨g, p * 4 + i, none⟩ = (encC q)[i]? ∧ u.frozen? ⟨g, p * 4 + i, none⟩ = false := by
  have hx0 := flatE_get encC_len D p 0 q _ hq rfl
  obtain ⟨g', c', hv, h1, h2, -⟩ := own_cell h hx0
  injection hv with e1 e2 e3
  injection e1 with e1
  injection e1 with e1 e4
  subst e1
  refine ⟨h1, h2, fun i hi => ?_⟩
  obtain ⟨y, hy⟩ : ∃ y, (encC q)[i]? = some y := ⟨_, encC_cell q hi⟩
  have hx := flatE_get encC_len D p i q y hq hy
  obtain ⟨g', c', hv, _, _, h3, h4, -⟩ := own_cell h hx
  injection hv with e1 e2 e3
  injection e1 with e1
  injection e1 with e1 e4
  subst e1
  exact ⟨h3.trans hy.symm, h4⟩
def zC (n : Nat) : List Value := (Builtin.zeroCells (Value.agg #[.int .i64 0, .int .i64 0, .int .i64 0, .int .i64 0]).cells n).toList
/-- clear under a name that the walk doesn't unfold. -/
def clrN (ts : Array TypeId) (t : TypeId) (vs : Array Value) := Builtin.clear_ ts t vs
theorem clear_clrN (ts : Array TypeId) (t : TypeId) (vs : Array Value) : Builtin.clear_ ts t vs = clrN ts t vs := rfl
theorem flat_takeC (D : List Cl) (p : Nat) : (flatE encC D).take (p * 4) = flatE encC (D.take p) := by
  by_cases hp : p ≤ D.length
  · have h1 : flatE encC D = flatE encC (D.take p) ++ flatE encC (D.drop p) := by rw [← flatE_append, List.take_append_drop]
    rw [h1, List.take_left' (by rw [flatE_len encC_len, List.length_take]; omega)]
  · rw [List.take_of_length_le (by rw [flatE_len encC_len]; omega), List.take_of_length_le (by omega)]
theorem run_clear4 (w : World) (t ty : TypeId) (ht : Try.prog.underlying t = some (.slice 39)) (b o n c : Nat) (hn : 0 < n) (hc : ∀ j, j < n * 4 → (w.cell? ⟨b, o + j, none⟩).isSome = true) (hf : ∀ j, j < n * 4 → w.frozen? ⟨b, o + j, none⟩ = false) :
    (clrN #[t] ty #[.slice (some ⟨b, o, none⟩) n c]).run Try.prog w = .ok (.tuple #[]) (w.setCells b o (zC n)) := by
  obtain ⟨i0, hi0, hz0, hz1, hz2⟩ := info_parts infoClaim
  have hv : ∀ w, (zeroValue 39).run Try.prog w = .ok (.agg #[.int .i64 0, .int .i64 0, .int .i64 0, .int .i64 0]) w := fun w => by simp [zeroValue, typeInfo, hi0, hz0, go_sem]
  have hsz : (Builtin.zeroCells (Value.agg #[.int .i64 0, .int .i64 0, .int .i64 0, .int .i64 0]).cells n).toList.length = n * 4 := by rw [Array.length_toList, size_zeroCells]; rfl
  have hst := run_storeCells_cells (P := Try.prog) b o (Builtin.zeroCells (Value.agg #[.int .i64 0, .int .i64 0, .int .i64 0, .int .i64 0]).cells n).toList 0 w (by rw [hsz]; simpa using hc) (by rw [hsz]; simpa using hf) (by
    intro v hv
    simp [Builtin.zeroCells, Value.cells] at hv
    obtain ⟨j, hj, rfl⟩ := hv
    have : j % 4 = 0 ∨ j % 4 = 1 ∨ j % 4 = 2 ∨ j % 4 = 3 := by omega
    rcases this with e | e | e | e <;> simp [e] <;> rfl)
  simp only [Nat.add_zero] at hst
  obtain ⟨m, rfl⟩ : ∃ m, n = m + 1 := ⟨n - 1, by omega⟩
  unfold clrN zC
  simp [Builtin.clear_, run_underlying ht, hv, hst]
theorem below_to' {B : Nat} {w u v : World} (h : Below B w u) (hB : B ≤ w.heap.size) (hb : Below u.heap.size u v) : Below B w v := h.trans (hb.mono (Nat.le_trans hB h.size))
theorem filter_take {l : List Cl} {f : Cl → Bool} {k : Nat} {q : Cl} (hq : l[k]? = some q) : (l.take (k + 1)).filter f = if f q = true then (l.take k).filter f ++ [q] else (l.take k).filter f := by
  rw [List.take_add_one, hq, Option.toList_some, List.filter_append]
  by_cases h : f q = true <;> simp [h]
attribute [local go_sem ↓] clear_clrN
/-- Where the loop stands: the first p are those that stay of the first j; behind them the others lie as they were. -/
structure DelI (B g n c : Nat) (now : Int) (l : List Cl) (w : World) (j p : Nat) (wr : World) : Prop where
  ex : ∃ D : List Cl, D.length = n ∧ D.take p = (l.take j).filter (late now) ∧ (∀ t, j ≤ t → D[t]? = l[t]?) ∧ wr.ownsRow B 39 4 (.slice (some ⟨g, 0, none⟩) n c) n (flatE encC D)
  b : Below B w wr
set_option maxRecDepth 100000 in
set_option maxHeartbeats 16000000 in
theorem delete_any (l : List Cl) (now : Int) (bN B : Nat) (A : Option Addr) (n c : Nat) (w : World) (h : w.ownsRow B 39 4 (.slice A n c) n (flatE encC l)) (hl : l.length = n) (hn : n ≤ 100000) (hB : B ≤ w.heap.size) (hN : w.cell? ⟨bN, 0, none⟩ = some (.int .i64 now)) (hb : bN < B) :
    Calls Try.prog 34 #[.slice A n c, .func (.func 35) #[] #[.pointer (some ⟨bN, 0, none⟩)]] w fun e w' => ∃ v, e = .returned v ∧ w'.ownsRow B 39 4 v (l.filter (late now)).length (flatE encC (l.filter (late now))) ∧ Below B w w' := by
  have HIX := Lib.hid (index_any l now bN A n c w (recs_of_ownE (enc := encC) (k := 4) (fun _ => rfl) h hl) (by omega) hN (by omega))
  have HNB := Lib.hid (fun u (h : Below B w u) => show u.cell? ⟨bN, 0, none⟩ = some (.int .i64 now) from (h.cell (p := ⟨bN, 0, none⟩) hb).trans hN)
  have HH := Lib.hid h
  have HL := Lib.hid hl
  have HBB := Lib.hid hB
  have HbN := Lib.hid hb
  clear h hl hB hN hb
  go_enter Try.func34, Try.ntmps34
  go_upto_region 2 with (go_at_call 45; (with_reducible refine Calls.mono HIX.out ?_); unfold IdxPost; rintro r u1 ⟨i, rfl, hb1, hi⟩; have HB1 := Lib.hid hb1; have HI := Lib.hid hi; clear hb1 hi)
  clear HIX
  have HI := HI.out
  rcases HI with ⟨rfl, ha⟩ | ⟨k, rfl, hk, hF, hT⟩
  · have HE := Lib.hid (show l.filter (late now) = l from List.filter_eq_self.2 (fun x hx => List.all_eq_true.1 ha x hx))
    clear ha
    go_wp2
    go_ret
    exact ⟨_, rfl, by rw [HE.out, HL.out]; exact own_below HH.out HB1.out, HB1.out.mono HBB.out⟩
  · have HK := Lib.hid hk
    have HF := Lib.hid hF
    have HT := Lib.hid hT
    have e0 : ((k : Int) == -1) = false := by rw [beq_eq_false_iff_ne]; omega
    obtain ⟨A', c', eA, hnc, hcm, hA⟩ := own_slice HH.out
    injection eA with e1 e2 e3
    subst e1; subst e3
    have hkn : k < n := by have := HL.out; omega
    rcases hA with ⟨rfl, h0⟩ | ⟨g, rfl, hg1, hg2⟩
    · omega
    have HG1 := Lib.hid hg1
    have HNC := Lib.hid hnc
    have k0 : (0 : Int) ≤ (k : Int) := by omega
    have e8 : IntKind.i64.wrap ((k : Int) + 1) = (k : Int) + 1 := IntWalk.i64_in _ (by omega)
    clear hk hF hT hg1 hg2 hnc hcm
    have HST := Lib.hid (show DelI B g n c now l w (k + 1) k u1 from by
      have hq : l[k]? = some l[k] := List.getElem?_eq_getElem HK.out
      exact ⟨⟨l, HL.out, by rw [filter_take hq, if_neg (by rw [HT.out _ hq]; decide)]; exact (List.filter_eq_self.2 (fun x hx => List.all_eq_true.1 HF.out x hx)).symm, fun _ _ => rfl, own_below HH.out HB1.out⟩, HB1.out.mono HBB.out⟩)
    go_wp2
    go_loopw [5, 6] (fun z5 z6 wr => ∃ j p : Nat, z6 = .int .i64 (j : Int) ∧ z5 = .int .i64 (p : Int) ∧ p < j ∧ j ≤ n ∧ Hid (DelI B g n c now l w j p wr)) (fun _ z6 _ => n - (intOf z6).toNat)
    case atStart => exact ⟨k + 1, k, by go_num, rfl, by omega, by omega, HST⟩
    case round =>
      obtain ⟨j, p, rfl, rfl, hpj, hj, HD⟩ := hrel
      clear HST e0 e8 k0 hkn
      have j0 : (0 : Int) ≤ (j : Int) := by omega
      have p0 : (0 : Int) ≤ (p : Int) := by omega
      have p1 : (p : Int) < (n : Int) := by omega
      have e7 : IntKind.i64.wrap ((j : Int) + 1) = (j : Int) + 1 := IntWalk.i64_in _ (by omega)
      have e6 : IntKind.i64.wrap ((p : Int) + 1) = (p : Int) + 1 := IntWalk.i64_in _ (by omega)
      obtain ⟨D, hDn, hDt, hDr, hDo⟩ := HD.out.ex
      by_cases hlt : j < n
      · have j1 : (j : Int) < (n : Int) := by omega
        obtain ⟨q, hq⟩ : ∃ q, l[j]? = some q := ⟨_, List.getElem?_eq_getElem (by have := HL.out; omega)⟩
        have hqD : D[j]? = some q := (hDr j (Nat.le_refl _)).trans hq
        obtain ⟨-, lg, hcell⟩ := own_cells hDo hqD
        have a0 := (hcell 0 (by decide)).1; have a1 := (hcell 1 (by decide)).1; have a2 := (hcell 2 (by decide)).1; have a3 := (hcell 3 (by decide)).1
        simp only [encC, List.getElem?_cons_zero, List.getElem?_cons_succ, Nat.add_zero] at a0 a1 a2 a3
        have HFT := Lib.hid (filter_take (f := late now) hq)
        have hbU := (Below.refl wr.heap.size wr).alloc (Nat.le_refl _) (.cells #[.int .i64 q.cand, .int .i64 q.of_, .int .i64 q.rest, .int .i64 q.until_] 39)
        have hrU := Row.new wr 39 #[.int .i64 q.cand, .int .i64 q.of_, .int .i64 q.rest, .int .i64 q.until_]
        obtain ⟨U, hU⟩ : ∃ U, wr.alloc (.cells #[.int .i64 q.cand, .int .i64 q.of_, .int .i64 q.rest, .int .i64 q.until_] 39) = U := ⟨_, rfl⟩
        rw [hU] at hbU hrU
        obtain ⟨gX, hgX⟩ : ∃ x, wr.heap.size = x := ⟨_, rfl⟩
        rw [hgX] at hrU
        have HOV := Lib.hid (over_any q now bN U (HNB.out _ (below_to' HD.out.b HBB.out hbU)) (by have := HbN.out; have := HBB.out; have := HD.out.b.size; have := hbU.size; omega))
        have HU := Lib.hid (below_to' HD.out.b HBB.out hbU)
        have HDU := Lib.hid (own_below hDo hbU)
        have HRU := Lib.hid hrU
        have y0 := hrU.cell 0; have y1 := hrU.cell 1; have y2 := hrU.cell 2; have y3 := hrU.cell 3; have lX := hrU.lt
        simp only [List.getElem?_toArray, List.getElem?_cons_zero, List.getElem?_cons_succ] at y0 y1 y2 y3
        have HDF := Lib.hid (And.intro hDn (And.intro hDt hDr))
        clear hbU hrU hcell hDt hDr hDo hqD hq
        by_cases hd : now ≤ q.until_
        · have HLF := Lib.hid (show late now q = false by unfold late; exact decide_eq_false (by omega))
          rw [decide_eq_true hd] at HOV
          clear hd
          go_wp2_with (go_at_call 35; (with_reducible refine Calls.mono HOV.out ?_); rintro r u3 ⟨rfl, hb⟩; have HB3 := Lib.hid hb; clear hb)
          go_roundw
          case rel => exact ⟨j + 1, p, by go_num, rfl, by omega, by omega, Lib.hid ⟨⟨D, HDF.out.1, by rw [HFT.out, if_neg (by rw [HLF.out]; decide)]; exact HDF.out.2.1, fun t ht => HDF.out.2.2 t (by omega), own_below HDU.out HB3.out⟩, below_to' HU.out HBB.out HB3.out⟩⟩
          case measure => simp [intOf]; omega
        · have HLF := Lib.hid (show late now q = true by unfold late; exact decide_eq_true (by omega))
          rw [decide_eq_false hd] at HOV
          obtain ⟨x, hx⟩ : ∃ x, D[p]? = some x := ⟨_, List.getElem?_eq_getElem (by have := HDF.out.1; omega)⟩
          have HX := Lib.hid hx
          clear hd hx y0 y1 y2 y3 lX
          have y0 := HRU.out.cell 0; have y1 := HRU.out.cell 1; have y2 := HRU.out.cell 2; have y3 := HRU.out.cell 3; have lX := HRU.out.lt
          simp only [List.getElem?_toArray, List.getElem?_cons_zero, List.getElem?_cons_succ] at y0 y1 y2 y3
          go_wp2_with (go_at_call 35; (with_reducible refine Calls.mono HOV.out ?_); rintro r u3 ⟨rfl, hb⟩; have HB3 := Lib.hid hb; have HD3 := Lib.hid (own_below HDU.out hb); have RX := HRU.out.below hb HRU.out.lt; clear y0 y1 y2 y3 lX; have lX := RX.lt; have y0 := RX.cell 0; have y1 := RX.cell 1; have y2 := RX.cell 2; have y3 := RX.cell 3; simp only [List.getElem?_toArray, List.getElem?_cons_zero, List.getElem?_cons_succ] at y0 y1 y2 y3; obtain ⟨-, lg3, hpc⟩ := own_cells HD3.out HX.out; have b0 := (hpc 0 (by decide)).1; have b1 := (hpc 1 (by decide)).1; have b2 := (hpc 2 (by decide)).1; have b3 := (hpc 3 (by decide)).1; have f0 := (hpc 0 (by decide)).2; have f1 := (hpc 1 (by decide)).2; have f2 := (hpc 2 (by decide)).2; have f3 := (hpc 3 (by decide)).2; simp only [encC, List.getElem?_cons_zero, List.getElem?_cons_succ, Nat.add_zero] at b0 b1 b2 b3 f0; clear hb RX hpc)
          go_roundw
          case rel =>
            refine ⟨j + 1, p + 1, by go_num, by go_num, by omega, by omega, Lib.hid ⟨⟨D.set p q, by rw [List.length_set]; exact HDF.out.1, ?_, fun t ht => ?_, own_setC HD3.out HDF.out.1 (by omega) q⟩, ?_⟩⟩
            · rw [HFT.out, if_pos HLF.out, ← HDF.out.2.1, List.take_add_one, List.take_set_of_le (Nat.le_refl _), List.getElem?_set_self (by have := HDF.out.1; omega)]; rfl
            · rw [List.getElem?_set_ne (by omega)]; exact HDF.out.2.2 t (by omega)
            · exact (((below_to' HU.out HBB.out HB3.out).setCell (p := ⟨g, p * 4, none⟩) HG1.out _).setCell (p := ⟨g, p * 4 + 1, none⟩) HG1.out _).setCell (p := ⟨g, p * 4 + 2, none⟩) HG1.out _ |>.setCell (p := ⟨g, p * 4 + 3, none⟩) HG1.out _
          case measure => simp [intOf]; omega
      · obtain rfl : j = n := by omega
        have j1 : ¬ (j : Int) < (j : Int) := by omega
        have HTK := Lib.hid (show D.take p = l.filter (late now) by rw [hDt, List.take_of_length_le (by have := HL.out; omega)])
        have HLN := Lib.hid (show (l.filter (late now)).length = p by rw [← HTK.out, List.length_take]; omega)
        have HS := Lib.hid (own_beyonds (zC (j - p)) (p * 4) wr (own_shrink hDo (show p ≤ j by omega)) (Nat.le_refl _))
        have HTE := Lib.hid (show (flatE encC D).take (p * 4) = flatE encC (D.take p) from flat_takeC D p)
        have HBE := Lib.hid (below_setCells HG1.out (zC (j - p)) (p * 4) wr HD.out.b)
        have hs1 := fun u => slice_from Try.underlying31 infoClaim (some ⟨g, 0, none⟩) j c p (show p ≤ j by omega) u
        have hcp : ¬ c = p := by have := HNC.out; omega
        have hclr := fun ty => run_clear4 wr 31 ty Try.underlying31 g (p * 4) (j - p) (c - p) (by omega) (fun t ht => by
          obtain ⟨q, hq⟩ : ∃ q, D[p + t / 4]? = some q := ⟨_, List.getElem?_eq_getElem (by omega)⟩
          have := ((own_cells hDo hq).2.2 (t % 4) (by omega)).1
          rw [show (p + t / 4) * 4 + t % 4 = p * 4 + t by omega] at this
          rw [this, encC_cell q (by omega)]; rfl) (fun t ht => by
          obtain ⟨q, hq⟩ : ∃ q, D[p + t / 4]? = some q := ⟨_, List.getElem?_eq_getElem (by omega)⟩
          have := ((own_cells hDo hq).2.2 (t % 4) (by omega)).2
          rwa [show (p + t / 4) * 4 + t % 4 = p * 4 + t by omega] at this)
        have hs2 := fun u => slice_head u 31 39 Try.underlying31 infoClaim (some ⟨g, 0, none⟩) j c p (show p ≤ c by have := HNC.out; omega)
        rw [if_neg hcp] at hs1
        simp only [Option.map_some, Addr.add_lit, Nat.zero_add] at hs1
        clear hDt hDr hDo hDn
        go_wp2
        go_ret
        exact ⟨_, rfl, by rw [HLN.out, ← HTK.out, ← HTE.out]; exact HS.out, HBE.out⟩
end Go.Proofs.Ytinhjobjlpkflaa
