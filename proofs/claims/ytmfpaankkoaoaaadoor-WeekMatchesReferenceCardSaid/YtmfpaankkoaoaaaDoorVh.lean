/- Next. -/
import Derived.Test.YtmfpaankkoaoaaaDoorVg
namespace Go.Proofs.YtmfpaankkoaoaaaDoor
open Go.RowKit Go.Shelf
attribute [local go_sem] Oper.semAt_some

theorem three_boxes {w w1 : World} {t1 t2 t3 : TypeId} {c1 c2 c3 : Array Value} (hb : Below (((w.alloc (.cells c1 t1)).alloc (.cells c2 t2)).alloc (.cells c3 t3)).heap.size (((w.alloc (.cells c1 t1)).alloc (.cells c2 t2)).alloc (.cells c3 t3)) w1) :
    Row w1 w.heap.size t1 c1 ∧ Row w1 (w.heap.size + 1) t2 c2 ∧ Row w1 (w.heap.size + 1 + 1) t3 c3 ∧ Below w.heap.size w w1 ∧ w.heap.size + 1 + 1 + 1 ≤ w1.heap.size := by
  have hs := hb.size
  simp only [World.size_alloc] at hs
  have h2 := Row.new (w.alloc (.cells c1 t1)) t2 c2
  rw [World.size_alloc] at h2
  have h3 := Row.new ((w.alloc (.cells c1 t1)).alloc (.cells c2 t2)) t3 c3
  simp only [World.size_alloc] at h3
  exact ⟨(((Row.new w t1 c1).alloc _).alloc _).below hb (by simp; omega), (h2.alloc _).below hb (by simp), h3.below hb (by simp), ((((Below.refl _ w).alloc (Nat.le_refl _) _).alloc (by simp) _).alloc (by simp; omega) _).trans (hb.mono (by simp; omega)), hs⟩
theorem results_ib {fn : Func} {p q : Tmp} (h : fn.results = #[.cell p 3, .cell q 4]) (tmps : Array Value) (w : World) (g k : Nat) (x : Int) (c : Bool) (hp : tmps.getD p undef = .pointer (some ⟨g, 0, none⟩)) (hq : tmps.getD q undef = .pointer (some ⟨k, 0, none⟩)) (hg : Row w g 3 #[.int .i64 x]) (hk : Row w k 4 #[.bool c]) :
    (results fn tmps).run Tryd.prog w = .ok (.tuple #[.int .i64 x, .bool c]) w := by
  have hp' : tmps[p]?.getD undef = .pointer (some ⟨g, 0, none⟩) := by simpa using hp
  have hq' : tmps[q]?.getD undef = .pointer (some ⟨k, 0, none⟩) := by simpa using hq
  have e1 := hg.cell 0
  have e2 := hk.cell 0
  simp [results, h, hp', hq', asAddr, go_sem, e1, e2]
/-- The first second from t on that the week has. -/
def nextV (L : List Int) (t : Int) : Int × Bool := if validW L && isSec t then (match pcs L t.toNat 10000000 with | [] => (0, false) | q :: _ => ((q.1 : Int), true)) else (0, false)
theorem next_ok {L : List Int} {t : Nat} (h : validW L = true) (h' : isSec t = true) : nextV L t = (match pcs L t 10000000 with | [] => (0, false) | q :: _ => ((q.1 : Int), true)) := by
  unfold nextV; rw [h, h']; rfl
theorem next_bad {L : List Int} {t : Int} (h : (validW L && isSec t) = false) : nextV L t = (0, false) := by
  unfold nextV; rw [h]; rfl

set_option maxRecDepth 100000 in
set_option maxHeartbeats 8000000 in
theorem next_any (L : List Int) (h7 : L.length = 7) (t : Int) (w : World) (hT : TzT w) (h2 : tzG < w.heap.size) : Calls Tryd.prog 9 #[wv L, .int .i64 t] w fun e w' =>
    e = .returned (.tuple #[.int .i64 (nextV L t).1, .bool (nextV L t).2]) ∧ Below w.heap.size w w' := by
  have HVA := Lib.hid (fun u => valid_any L h7 u)
  have HSA := Lib.hid (fun u => isSecond_any t u)
  have HPC := Lib.hid (fun b u => pieces_call L h7 t b u)
  have HT := Lib.hid hT
  have HPP := Lib.hid (fun (n : Nat) (hn : 6 ≤ n) (Bs Bw : Nat) hv (a' b' : Nat) hab hb no u hu => pieces_p n hn Bs Bw L h7 hv a' b' hab hb no u hu)
  have HBAD := Lib.hid (fun (h : (validW L && isSec t) = false) => next_bad h)
  have HOK := Lib.hid (fun (n : Nat) (h : validW L = true) (h' : isSec n = true) => next_ok h h')
  obtain ⟨LL, hL⟩ : ∃ LL, L = LL := ⟨_, rfl⟩
  obtain ⟨x0, x1, x2, x3, x4, x5, x6, rfl⟩ := seven h7
  have hwv : wv LL = .agg #[.int .i64 x0, .int .i64 x1, .int .i64 x2, .int .i64 x3, .int .i64 x4, .int .i64 x5, .int .i64 x6] := by rw [← hL]; rfl
  have hin : ints LL = #[.int .i64 x0, .int .i64 x1, .int .i64 x2, .int .i64 x3, .int .i64 x4, .int .i64 x5, .int .i64 x6] := by rw [← hL]; rfl
  simp only [hL] at HVA HPC HPP HOK HBAD ⊢
  rw [hwv] at HVA HPC ⊢
  rw [hin] at HPC HPP
  clear hwv hin h7 hL hT
  refine (callsIn_wide (n := 12)).1 ?_
  refine callsIn_of_wp_marks Tryd.func9 rfl trivial ?_ rfl
  simp only [Tryd.ntmps9, List.size_toArray, List.length_cons, List.length_nil, Nat.reduceAdd, Nat.reduceSub, Array.replicate_succ, Array.replicate_zero, List.push_toArray, List.append_toArray, List.nil_append, List.cons_append]
  cases h1 : validW LL with
  | false =>
    have HV := Lib.hid (fun u => h1 ▸ HVA.out u)
    have HB := Lib.hid (HBAD.out (by rw [h1]; rfl))
    clear HVA HSA HPC HPP HOK HBAD h1
    gi_wp2_with ((refine ⟨trivial, ?_⟩; gi_at_call 6; ((with_reducible refine CallsIn.mono (callsIn_wide.2 (HV.out _)) ?_); rintro e' w1 ⟨rfl, hb1⟩; obtain ⟨hr1, hr2, hr3, hr4, hr5⟩ := three_boxes hb1; have HB1 := Lib.hid hr4; have HW1 := Lib.hid hr1; have HI1 := Lib.hid hr2; have HO1 := Lib.hid hr3; have e0 := hr2.cell 0; have e1 := hr3.cell 0; have f0 := hr2.free 0; have f1 := hr3.free 0; obtain ⟨y0, y1, y2, y3, y4, y5, y6, -⟩ := seven_cells (show Row w1 w.heap.size 23 (ints [x0, x1, x2, x3, x4, x5, x6]) from hr1); have lt0 : w.heap.size < w1.heap.size := (by omega); have lt1 : w.heap.size + 1 < w1.heap.size := (by omega); have lt2 : w.heap.size + 1 + 1 < w1.heap.size := (by omega); clear hb1 hr1 hr2 hr3 hr4 hr5)))
    refine ⟨trivial, ?_⟩
    gi_wp2
    have hi := (HI1.out.put 0 (.int .i64 0)).far (p := ⟨w.heap.size + 1 + 1, 0, none⟩) (by dsimp only; omega) (.bool false)
    have ho := (HO1.out.far (p := ⟨w.heap.size + 1, 0, none⟩) (by dsimp only; omega) (.int .i64 0)).put 0 (.bool false)
    exact ⟨_, results_ib rfl _ _ (w.heap.size + 1) (w.heap.size + 1 + 1) 0 false rfl rfl hi ho, by rw [HB.out], (HB1.out.setCell (p := ⟨w.heap.size + 1, 0, none⟩) (by dsimp only; omega) _).setCell (p := ⟨w.heap.size + 1 + 1, 0, none⟩) (by dsimp only; omega) _⟩
  | true =>
    have HV := Lib.hid (fun u => h1 ▸ HVA.out u)
    cases h2' : isSec t with
    | false =>
      have HS := Lib.hid (fun u => h2' ▸ HSA.out u)
      have HB := Lib.hid (HBAD.out (by rw [h1, h2']; rfl))
      clear HVA HSA HPC HPP HOK HBAD h1 h2'
      gi_wp2_with (first | (refine ⟨trivial, ?_⟩; gi_at_call 6; ((with_reducible refine CallsIn.mono (callsIn_wide.2 (HV.out _)) ?_); rintro e' w1 ⟨rfl, hb1⟩; obtain ⟨hr1, hr2, hr3, hr4, hr5⟩ := three_boxes hb1; have HB1 := Lib.hid hr4; have HW1 := Lib.hid hr1; have HI1 := Lib.hid hr2; have HO1 := Lib.hid hr3; have e0 := hr2.cell 0; have e1 := hr3.cell 0; have f0 := hr2.free 0; have f1 := hr3.free 0; obtain ⟨y0, y1, y2, y3, y4, y5, y6, -⟩ := seven_cells (show Row w1 w.heap.size 23 (ints [x0, x1, x2, x3, x4, x5, x6]) from hr1); have lt0 : w.heap.size < w1.heap.size := (by omega); have lt1 : w.heap.size + 1 < w1.heap.size := (by omega); have lt2 : w.heap.size + 1 + 1 < w1.heap.size := (by omega); clear hb1 hr1 hr2 hr3 hr4 hr5)) | (refine ⟨trivial, ?_⟩; gi_at_call 30; ((with_reducible refine CallsIn.mono (callsIn_wide.2 (HS.out _)) ?_); rintro e' w2 ⟨rfl, rfl⟩)))
      have hi := (HI1.out.put 0 (.int .i64 0)).far (p := ⟨w.heap.size + 1 + 1, 0, none⟩) (by dsimp only; omega) (.bool false)
      have ho := (HO1.out.far (p := ⟨w.heap.size + 1, 0, none⟩) (by dsimp only; omega) (.int .i64 0)).put 0 (.bool false)
      exact ⟨_, results_ib rfl _ _ (w.heap.size + 1) (w.heap.size + 1 + 1) 0 false rfl rfl hi ho, by rw [HB.out], (HB1.out.setCell (p := ⟨w.heap.size + 1, 0, none⟩) (by dsimp only; omega) _).setCell (p := ⟨w.heap.size + 1 + 1, 0, none⟩) (by dsimp only; omega) _⟩
    | true =>
      have HS := Lib.hid (fun u => h2' ▸ HSA.out u)
      obtain ⟨ha, hb⟩ := (isSec_iff t).1 h2'
      obtain ⟨a, rfl⟩ := Int.eq_ofNat_of_zero_le ha
      have HR := Lib.hid (HOK.out a h1 h2')
      have HPQ := Lib.hid (fun (n : Nat) (hn : 6 ≤ n) (Bs Bw : Nat) no u hu => HPP.out n hn Bs Bw h1 a 10000000 (by omega) (by omega) no u hu)
      clear HVA HSA HPP HOK HBAD h1 h2' ha hb
      gi_wp2_with (first | (refine ⟨trivial, ?_⟩; gi_at_call 6; ((with_reducible refine CallsIn.mono (callsIn_wide.2 (HV.out _)) ?_); rintro e' w1 ⟨rfl, hb1⟩; obtain ⟨hr1, hr2, hr3, hr4, hr5⟩ := three_boxes hb1; have HB1 := Lib.hid hr4; have HW1 := Lib.hid hr1; have HI1 := Lib.hid hr2; have HO1 := Lib.hid hr3; have e0 := hr2.cell 0; have e1 := hr3.cell 0; have f0 := hr2.free 0; have f1 := hr3.free 0; obtain ⟨y0, y1, y2, y3, y4, y5, y6, -⟩ := seven_cells (show Row w1 w.heap.size 23 (ints [x0, x1, x2, x3, x4, x5, x6]) from hr1); have lt0 : w.heap.size < w1.heap.size := (by omega); have lt1 : w.heap.size + 1 < w1.heap.size := (by omega); have lt2 : w.heap.size + 1 + 1 < w1.heap.size := (by omega); clear hb1 hr1 hr2 hr3 hr4 hr5)) | (refine ⟨trivial, ?_⟩; gi_at_call 30; ((with_reducible refine CallsIn.mono (callsIn_wide.2 (HS.out _)) ?_); rintro e' w2 ⟨rfl, rfl⟩)) | (refine ⟨trivial, ?_⟩; gi_at_call 31; ((with_reducible refine CallsIn.mono (callsIn_wide.2 (HPC.out _ _)) ?_); rintro e' w3 ⟨rfl, rfl⟩)))
      obtain ⟨X, hX⟩ : ∃ X, ((w1.alloc (.cells #[.int .i64 x0, .int .i64 x1, .int .i64 x2, .int .i64 x3, .int .i64 x4, .int .i64 x5, .int .i64 x6] 23)).alloc (.cells #[.int .i64 (a : Int), .int .i64 10000000] 25)) = X := ⟨_, rfl⟩
      have hsX : X.heap.size = w1.heap.size + 1 + 1 := by rw [← hX]; simp
      have HXW : Hid (Row X w1.heap.size 23 #[.int .i64 x0, .int .i64 x1, .int .i64 x2, .int .i64 x3, .int .i64 x4, .int .i64 x5, .int .i64 x6]) := Lib.hid (by rw [← hX]; exact (Row.new _ _ _).alloc _)
      have HXS : Hid (Row X (w1.heap.size + 1) 25 #[.int .i64 (a : Int), .int .i64 10000000]) := Lib.hid (by
        rw [← hX]
        have := Row.new (w1.alloc (.cells #[.int .i64 x0, .int .i64 x1, .int .i64 x2, .int .i64 x3, .int .i64 x4, .int .i64 x5, .int .i64 x6] 23)) 25 #[.int .i64 (a : Int), .int .i64 10000000]
        simp only [World.size_alloc] at this
        exact this)
      have HXI : Hid (Row X (w.heap.size + 1) 3 #[.int .i64 0]) := Lib.hid (by rw [← hX]; exact (HI1.out.alloc _).alloc _)
      have HXO : Hid (Row X (w.heap.size + 1 + 1) 4 #[.bool false]) := Lib.hid (by rw [← hX]; exact (HO1.out.alloc _).alloc _)
      have HXL : Hid (Below w.heap.size w X) := Lib.hid (by rw [← hX]; exact (HB1.out.alloc HB1.out.size _).alloc (by simp; omega) _)
      have HXT : Hid (TzT X) := Lib.hid (HT.out.keep HXL.out h2)
      rw [hX]
      clear hX e0 e1 f0 f1 y0 y1 y2 y3 y4 y5 y6
      refine rangeFunc_p (F := Fence.wide) rfl (by decide) (gf := 54) (lb := #[.pointer (some ⟨w1.heap.size + 1, 0, none⟩), .pointer (some ⟨w1.heap.size, 0, none⟩)]) rfl trivial (enters_of Tryd.func54 (by kernel_rfl) rfl)
        (HPQ.out 11 (by decide) (w1.heap.size + 1) w1.heap.size (fun _ k => (k = w.heap.size + 1 ∨ k = w.heap.size + 1 + 1) ∨ k = X.heap.size + 1) X (by omega) HXS.out HXW.out HXT.out) (fun _ => rfl) (fun k hk => by rcases hk with rfl | rfl | rfl <;> omega)
        (fun pre Y => pre = [] ∧ Row Y (w.heap.size + 1) 3 #[.int .i64 0] ∧ Row Y (w.heap.size + 1 + 1) 4 #[.bool false] ∧ Below w.heap.size w Y ∧ X.heap.size ≤ Y.heap.size)
        (fun c pre Y => c = .ret ∧ ∃ x, pre = [x] ∧ Row Y (w.heap.size + 1) 3 #[.int .i64 (x.1 : Int)] ∧ Row Y (w.heap.size + 1 + 1) 4 #[.bool true] ∧ Below w.heap.size w Y ∧ X.heap.size ≤ Y.heap.size)
        ?oI ?oIx ⟨rfl, HXI.out, HXO.out, HXL.out, Nat.le_refl _⟩ ?hno (fun _ _ _ _ _ _ _ _ hk => hk)
        (fun _ x a' Y => ∃ (B : Nat) (z0 z1 z2 z3 z7 z8 z9 z10 z11 z12 z13 z14 z15 z16 z17 z18 z19 z20 z21 : Value), Row Y B 25 #[.int .i64 (x.1 : Int), .int .i64 (x.2 : Int)] ∧ w1.heap.size < B ∧ a' = { tmps := #[z0, z1, z2, z3, .pointer (some ⟨w.heap.size + 1, 0, none⟩), .pointer (some ⟨w.heap.size + 1 + 1, 0, none⟩), .pointer (some ⟨B, 0, none⟩), z7, z8, z9, z10, z11, z12, z13, z14, z15, z16, z17, z18, z19, z20, z21], defers := [] }) ?hAx ?assign ?body ?done ?stop
      case oI =>
        rintro pre Y Z row ⟨rfl, h1, h1', h2, h3⟩ hg hr
        exact ⟨rfl, h1.turn hg hr, h1'.turn hg hr, h2.grown hg h2.size (fun k e => by have := (hr k e).1; omega), Nat.le_trans h3 hg.size⟩
      case oIx =>
        rintro c pre Y Z row ⟨rfl, x, rfl, h1, h1', h2, h3⟩ hg hr
        exact ⟨rfl, x, rfl, h1.turn hg hr, h1'.turn hg hr, h2.grown hg h2.size (fun k e => by have := (hr k e).1; omega), Nat.le_trans h3 hg.size⟩
      case hno =>
        rintro pre Y k ⟨rfl, h1, h1', h2, h3⟩ (rfl | rfl)
        · exact ⟨h1.lt, fun h => by rcases h with h | h | h <;> omega, .inr (by omega)⟩
        · exact ⟨h1'.lt, fun h => by rcases h with h | h | h <;> omega, .inr (by omega)⟩
      case hAx =>
        rintro pre x a' _ Y Z row ⟨B, z0, z1, z2, z3, z7, z8, z9, z10, z11, z12, z13, z14, z15, z16, z17, z18, z19, z20, z21, h1, h2, h3⟩ hg hr
        exact ⟨B, z0, z1, z2, z3, z7, z8, z9, z10, z11, z12, z13, z14, z15, z16, z17, z18, z19, z20, z21, h1.turn hg hr, h2, h3⟩
      case assign =>
        rintro l' pre x Y K hpre ⟨rfl, h1, h1', h2, h3⟩ hK
        gi_wp2
        exact hK _ _ ⟨Keeps.of_below ((Below.refl _ Y).alloc (Nat.le_refl _) _), fun k hk => .inl hk⟩ ⟨(by first | rfl | trivial), h1.alloc _, h1'.alloc _, h2.alloc h2.size _, by simp; omega⟩ ⟨Y.heap.size, _, _, _, _, _, _, _, _, _, _, _, _, _, _, _, _, _, _, _, Row.new _ _ _, by omega, rfl⟩
      case body =>
        rintro l' pre x a' Y hl hr hpre ⟨rfl, h1, h1', h2, h3⟩ ⟨B, z0, z1, z2, z3, z7, z8, z9, z10, z11, z12, z13, z14, z15, z16, z17, z18, z19, z20, z21, hB, hlt, rfl⟩
        obtain ⟨u, v⟩ := x
        dsimp only at hB
        have c0 := h1.cell 0
        have f0 := h1.free 0
        have c1 := h1'.cell 0
        have f1 := h1'.free 0
        have p0 := hB.cell 0
        have HH := Lib.hid (And.intro h1 (And.intro h1' h2))
        have lb0 := h1.lt
        have lb1 := h1'.lt
        clear h1 h1' h2 hB hpre
        gi_wp2
        obtain ⟨h1, h1', h2⟩ := HH.out
        exact ⟨(Keeps.setCell (no := fun k => k = w.heap.size + 1 ∨ k = w.heap.size + 1 + 1) (p := ⟨w.heap.size + 1, 0, none⟩) (.inl rfl) _).trans (Keeps.setCell (p := ⟨w.heap.size + 1 + 1, 0, none⟩) (.inr rfl) _), (by first | rfl | trivial), (u, v), rfl, (h1.put 0 _).far (p := ⟨w.heap.size + 1 + 1, 0, none⟩) (by dsimp only; omega) _, (h1'.far (p := ⟨w.heap.size + 1, 0, none⟩) (by dsimp only; omega) _).put 0 _, (h2.setCell (p := ⟨w.heap.size + 1, 0, none⟩) (by dsimp only; omega) _).setCell (p := ⟨w.heap.size + 1 + 1, 0, none⟩) (by dsimp only; omega) _, by simp [World.setCell]; omega⟩
      case done =>
        rintro D Y rfl ⟨hfull, h1, h1', h2, h3⟩ hD
        have c0 := h1.cell 0
        have f0 := h1.free 0
        have c1 := h1'.cell 0
        have f1 := h1'.free 0
        have HH := Lib.hid (And.intro hfull (And.intro h1 (And.intro h1' h2)))
        have lb0 := h1.lt
        have lb1 := h1'.lt
        have lD : X.heap.size < Y.heap.size := (Array.getElem?_eq_some_iff.1 hD).1
        clear h1 h1' h2 hfull
        gi_wp2
        obtain ⟨hfull, h1, h1', h2⟩ := HH.out
        have hD2 : ((Y.setCell ⟨w.heap.size + 1, 0, none⟩ (.int .i64 0)).setCell ⟨w.heap.size + 1 + 1, 0, none⟩ (.bool false)).heap[X.heap.size]? = some (.deferred (some [])) := (Below.heap_setCell _ _ _ _ (by dsimp only; omega)).trans ((Below.heap_setCell _ _ _ _ (by dsimp only; omega)).trans hD)
        refine ⟨by simp, .inl ⟨_, _, rfl, run_takeDeferred hD2, ?_⟩⟩
        have hi := ((h1.put 0 (.int .i64 0)).far (p := ⟨w.heap.size + 1 + 1, 0, none⟩) (by dsimp only; omega) (.bool false))
        have ho := ((h1'.far (p := ⟨w.heap.size + 1, 0, none⟩) (by dsimp only; omega) (.int .i64 0)).put 0 (.bool false))
        have hbb := (h2.setCell (p := ⟨w.heap.size + 1, 0, none⟩) (by dsimp only; omega) (.int .i64 0)).setCell (p := ⟨w.heap.size + 1 + 1, 0, none⟩) (by dsimp only; omega) (.bool false)
        exact ⟨_, results_ib rfl _ _ (w.heap.size + 1) (w.heap.size + 1 + 1) 0 false rfl rfl (hi.grown (grownBy_putObj' _ _ _) (fun r e => by cases e; omega)) (ho.grown (grownBy_putObj' _ _ _) (fun r e => by cases e; omega)), by rw [HR.out, hfull], hbb.trans (belowK_b (w := w) (Nat.le_refl _) _ _ _ _ (by omega) hD2 rfl rfl)⟩
      case stop =>
        rintro D c pre Y rfl hpre ⟨rfl, x, rfl, h1, h1', h2, h3⟩ hD
        gi_wp2
        refine ⟨by simp, .inl ⟨_, _, rfl, run_takeDeferred hD, ?_⟩⟩
        obtain ⟨tl, htl⟩ := hpre
        exact ⟨_, results_ib rfl _ _ (w.heap.size + 1) (w.heap.size + 1 + 1) _ true rfl rfl (h1.grown (grownBy_putObj' _ _ _) (fun r e => by cases e; omega)) (h1'.grown (grownBy_putObj' _ _ _) (fun r e => by cases e; omega)), by rw [HR.out, ← htl]; rfl, h2.trans (belowK_b (w := w) (Nat.le_refl _) _ _ _ _ (by omega) hD rfl rfl)⟩
end Go.Proofs.YtmfpaankkoaoaaaDoor
