/- Seconds. -/
import Derived.Test.YtmfpaankkoaoaaaDoorVf
namespace Go.Proofs.YtmfpaankkoaoaaaDoor
open Go.RowKit Go.Shelf
attribute [local go_sem] Oper.semAt_some

set_option maxRecDepth 100000 in
set_option maxHeartbeats 8000000 in
theorem seconds_any (L : List Int) (h7 : L.length = 7) (a b : Int) (w : World) (hT : TzT w) (h2 : tzG < w.heap.size) : Calls Tryd.prog 16 #[wv L, .agg #[.int .i64 a, .int .i64 b]] w fun e w' =>
    e = .returned (.tuple #[.int .i64 (secsV L a b).1, .int .i64 (secsV L a b).2]) ∧ Below w.heap.size w w' := by
  have HVA := Lib.hid (fun u => valid_any L h7 u)
  have HSA := Lib.hid (fun u => isSpell_any a b u)
  have HPC := Lib.hid (fun u => pieces_call L h7 a b u)
  have HT := Lib.hid hT
  have HPP := Lib.hid (fun (n : Nat) (hn : 6 ≤ n) (Bs Bw : Nat) hv (a' b' : Nat) hab hb no u hu => pieces_p n hn Bs Bw L h7 hv a' b' hab hb no u hu)
  have HTI := Lib.hid (fun hv (a' b' : Nat) hb hab => tiles_pcs L h7 hv a' b' hb hab)
  have HOK := Lib.hid (fun (a' b' : Nat) (h : validW L = true) (h' : isSpl a' b' = true) => secs_ok h h')
  have HBAD := Lib.hid (fun (h : (validW L && isSpl a b) = false) => secs_bad h)
  obtain ⟨LL, hL⟩ : ∃ LL, L = LL := ⟨_, rfl⟩
  obtain ⟨x0, x1, x2, x3, x4, x5, x6, rfl⟩ := seven h7
  have hwv : wv LL = .agg #[.int .i64 x0, .int .i64 x1, .int .i64 x2, .int .i64 x3, .int .i64 x4, .int .i64 x5, .int .i64 x6] := by rw [← hL]; rfl
  have hin : ints LL = #[.int .i64 x0, .int .i64 x1, .int .i64 x2, .int .i64 x3, .int .i64 x4, .int .i64 x5, .int .i64 x6] := by rw [← hL]; rfl
  simp only [hL] at HVA HPC HPP HTI HOK HBAD ⊢
  rw [hwv] at HVA HPC ⊢
  rw [hin] at HPC HPP
  clear hwv hin h7 hL hT
  refine (callsIn_wide (n := 12)).1 ?_
  refine callsIn_of_wp_marks Tryd.func16 rfl trivial ?_ rfl
  simp only [Tryd.ntmps16, List.size_toArray, List.length_cons, List.length_nil, Nat.reduceAdd, Nat.reduceSub, Array.replicate_succ, Array.replicate_zero, List.push_toArray, List.append_toArray, List.nil_append, List.cons_append]
  cases h1 : validW LL with
  | false =>
    have HV := Lib.hid (fun u => h1 ▸ HVA.out u)
    have HB := Lib.hid (HBAD.out (by rw [h1]; rfl))
    clear HVA HSA HPC HPP HTI HOK HBAD h1
    gi_wp2_with ((refine ⟨trivial, ?_⟩; gi_at_call 6; ((with_reducible refine CallsIn.mono (callsIn_wide.2 (HV.out _)) ?_); rintro e' w1 ⟨rfl, hb1⟩; obtain ⟨hr1, hr2, hr3, hr4⟩ := two_boxes hb1; have HB1 := Lib.hid hr3; have HW1 := Lib.hid hr1; have HS1 := Lib.hid hr2; have e0 := hr2.cell 0; have e1 := hr2.cell 1; obtain ⟨y0, y1, y2, y3, y4, y5, y6, -⟩ := seven_cells (show Row w1 w.heap.size 23 (ints [x0, x1, x2, x3, x4, x5, x6]) from hr1); have le1 := hr4; clear hb1 hr1 hr2 hr3 hr4)))
    refine ⟨trivial, ?_⟩
    gi_wp2
    exact ⟨_, results_tmp2 rfl _ _ _, by rw [HB.out]; rfl, HB1.out⟩
  | true =>
    have HV := Lib.hid (fun u => h1 ▸ HVA.out u)
    cases h2' : isSpl a b with
    | false =>
      have HS := Lib.hid (fun u => h2' ▸ HSA.out u)
      have HB := Lib.hid (HBAD.out (by rw [h1, h2']; rfl))
      clear HVA HSA HPC HPP HTI HOK HBAD h1 h2'
      gi_wp2_with (first | (refine ⟨trivial, ?_⟩; gi_at_call 6; ((with_reducible refine CallsIn.mono (callsIn_wide.2 (HV.out _)) ?_); rintro e' w1 ⟨rfl, hb1⟩; obtain ⟨hr1, hr2, hr3, hr4⟩ := two_boxes hb1; have HB1 := Lib.hid hr3; have HW1 := Lib.hid hr1; have HS1 := Lib.hid hr2; have e0 := hr2.cell 0; have e1 := hr2.cell 1; obtain ⟨y0, y1, y2, y3, y4, y5, y6, -⟩ := seven_cells (show Row w1 w.heap.size 23 (ints [x0, x1, x2, x3, x4, x5, x6]) from hr1); have le1 := hr4; clear hb1 hr1 hr2 hr3 hr4)) | (refine ⟨trivial, ?_⟩; gi_at_call 34; ((with_reducible refine CallsIn.mono (callsIn_wide.2 (HS.out _)) ?_); rintro e' w2 ⟨rfl, hb2⟩; have hw2 := HW1.out.below hb2 HW1.out.lt; have hs2 := HS1.out.below hb2 HS1.out.lt; clear e0 e1 y0 y1 y2 y3 y4 y5 y6; have e0 := hs2.cell 0; have e1 := hs2.cell 1; obtain ⟨y0, y1, y2, y3, y4, y5, y6, -⟩ := seven_cells (show Row w2 w.heap.size 23 (ints [x0, x1, x2, x3, x4, x5, x6]) from hw2); have HB2 := Lib.hid (below_to HB1.out hb2); have le2 := Nat.le_trans le1 hb2.size; have lt0 : w.heap.size < w2.heap.size := (by omega); have lt1 : w.heap.size + 1 < w2.heap.size := (by omega); clear hb2 hw2 hs2)))
      exact ⟨_, results_tmp2 rfl _ _ _, by rw [HB.out]; rfl, HB2.out⟩
    | true =>
      have HS := Lib.hid (fun u => h2' ▸ HSA.out u)
      obtain ⟨ha, hab, hb⟩ := (isSpl_iff a b).1 h2'
      obtain ⟨a, rfl⟩ := Int.eq_ofNat_of_zero_le ha
      obtain ⟨b, rfl⟩ := Int.eq_ofNat_of_zero_le (show 0 ≤ b by omega)
      have hab' : a < b := by omega
      have hb' : b ≤ 10000000 := by omega
      have HR := Lib.hid (HOK.out a b h1 h2')
      have HTT := Lib.hid (HTI.out h1 a b hb' hab')
      have HSUM := Lib.hid (tiles_sum HTT.out (Nat.le_of_lt hab'))
      have HPQ := Lib.hid (fun (n : Nat) (hn : 6 ≤ n) (Bs Bw : Nat) no u hu => HPP.out n hn Bs Bw h1 a b hab' hb' no u hu)
      clear HVA HSA HPP HTI HOK HBAD h1 h2' ha hab hb
      gi_wp2_with (first | (refine ⟨trivial, ?_⟩; gi_at_call 6; ((with_reducible refine CallsIn.mono (callsIn_wide.2 (HV.out _)) ?_); rintro e' w1 ⟨rfl, hb1⟩; obtain ⟨hr1, hr2, hr3, hr4⟩ := two_boxes hb1; have HB1 := Lib.hid hr3; have HW1 := Lib.hid hr1; have HS1 := Lib.hid hr2; have e0 := hr2.cell 0; have e1 := hr2.cell 1; obtain ⟨y0, y1, y2, y3, y4, y5, y6, -⟩ := seven_cells (show Row w1 w.heap.size 23 (ints [x0, x1, x2, x3, x4, x5, x6]) from hr1); have le1 := hr4; clear hb1 hr1 hr2 hr3 hr4)) | (refine ⟨trivial, ?_⟩; gi_at_call 34; ((with_reducible refine CallsIn.mono (callsIn_wide.2 (HS.out _)) ?_); rintro e' w2 ⟨rfl, hb2⟩; have hw2 := HW1.out.below hb2 HW1.out.lt; have hs2 := HS1.out.below hb2 HS1.out.lt; clear e0 e1 y0 y1 y2 y3 y4 y5 y6; have e0 := hs2.cell 0; have e1 := hs2.cell 1; obtain ⟨y0, y1, y2, y3, y4, y5, y6, -⟩ := seven_cells (show Row w2 w.heap.size 23 (ints [x0, x1, x2, x3, x4, x5, x6]) from hw2); have HB2 := Lib.hid (below_to HB1.out hb2); have le2 := Nat.le_trans le1 hb2.size; have lt0 : w.heap.size < w2.heap.size := (by omega); have lt1 : w.heap.size + 1 < w2.heap.size := (by omega); clear hb2 hw2 hs2)) | (refine ⟨trivial, ?_⟩; gi_at_call 31; ((with_reducible refine CallsIn.mono (callsIn_wide.2 (HPC.out _)) ?_); rintro e' w3 ⟨rfl, rfl⟩)))
      obtain ⟨X, hX⟩ : ∃ X, (((w2.alloc (.cells #[.int .i64 0] 3)).alloc (.cells #[.int .i64 x0, .int .i64 x1, .int .i64 x2, .int .i64 x3, .int .i64 x4, .int .i64 x5, .int .i64 x6] 23)).alloc (.cells #[.int .i64 (a : Int), .int .i64 (b : Int)] 25)) = X := ⟨_, rfl⟩
      have hsX : X.heap.size = w2.heap.size + 1 + 1 + 1 := by rw [← hX]; simp
      have HXB : Hid (Row X w2.heap.size 3 #[.int .i64 0]) := Lib.hid (by rw [← hX]; exact ((Row.new _ _ _).alloc _).alloc _)
      have HXW : Hid (Row X (w2.heap.size + 1) 23 #[.int .i64 x0, .int .i64 x1, .int .i64 x2, .int .i64 x3, .int .i64 x4, .int .i64 x5, .int .i64 x6]) := Lib.hid (by
        rw [← hX]
        have := Row.new (w2.alloc (.cells #[.int .i64 0] 3)) 23 #[.int .i64 x0, .int .i64 x1, .int .i64 x2, .int .i64 x3, .int .i64 x4, .int .i64 x5, .int .i64 x6]
        rw [World.size_alloc] at this
        exact this.alloc _)
      have HXS : Hid (Row X (w2.heap.size + 1 + 1) 25 #[.int .i64 (a : Int), .int .i64 (b : Int)]) := Lib.hid (by
        rw [← hX]
        have := Row.new ((w2.alloc (.cells #[.int .i64 0] 3)).alloc (.cells #[.int .i64 x0, .int .i64 x1, .int .i64 x2, .int .i64 x3, .int .i64 x4, .int .i64 x5, .int .i64 x6] 23)) 25 #[.int .i64 (a : Int), .int .i64 (b : Int)]
        simp only [World.size_alloc] at this
        exact this)
      have HXL : Hid (Below w.heap.size w X) := Lib.hid (by rw [← hX]; exact ((HB2.out.alloc HB2.out.size _).alloc (by simp; omega) _).alloc (by simp; omega) _)
      have HXT : Hid (TzT X) := Lib.hid (HT.out.keep HXL.out h2)
      rw [hX]
      clear hX e0 e1 y0 y1 y2 y3 y4 y5 y6
      refine rangeFunc_p (F := Fence.wide) rfl (by decide) (gf := 54) (lb := #[.pointer (some ⟨w2.heap.size + 1 + 1, 0, none⟩), .pointer (some ⟨w2.heap.size + 1, 0, none⟩)]) rfl trivial (enters_of Tryd.func54 (by kernel_rfl) rfl)
        (HPQ.out 11 (by decide) (w2.heap.size + 1 + 1) (w2.heap.size + 1) (fun _ k => k = w2.heap.size ∨ k = X.heap.size + 1) X (by omega) HXS.out HXW.out HXT.out) (fun _ => rfl) (fun k hk => by rcases hk with rfl | rfl | rfl <;> omega)
        (fun pre Y => Row Y w2.heap.size 3 #[.int .i64 ((sumL pre : Nat) : Int)] ∧ Below w.heap.size w Y ∧ X.heap.size ≤ Y.heap.size)
        (fun _ _ _ => False) ?oI (fun _ _ _ _ _ hs _ _ => hs) ⟨HXB.out, HXL.out, Nat.le_refl _⟩ ?hno (fun _ _ _ _ _ _ _ _ hk => hk)
        (fun _ x a' Y => ∃ (B : Nat) (z0 z1 z2 z3 z4 z5 z8 z9 z10 z11 z12 z13 z14 z15 z16 z17 z18 z19 z20 z21 z22 z23 z24 z25 z26 z27 : Value), Row Y B 25 #[.int .i64 (x.1 : Int), .int .i64 (x.2 : Int)] ∧ w2.heap.size < B ∧ a' = { tmps := #[z0, z1, z2, z3, z4, z5, .pointer (some ⟨w2.heap.size, 0, none⟩), .pointer (some ⟨B, 0, none⟩), z8, z9, z10, z11, z12, z13, z14, z15, z16, z17, z18, z19, z20, z21, z22, z23, z24, z25, z26, z27], defers := [] }) ?hAx ?assign ?body ?done (fun _ _ _ _ _ _ h _ => h.elim)
      case oI =>
        rintro pre Y Z row ⟨h1, h2, h3⟩ hg hr
        exact ⟨h1.turn hg hr, h2.grown hg h2.size (fun k e => by have := (hr k e).1; omega), Nat.le_trans h3 hg.size⟩
      case hno =>
        rintro pre Y k ⟨h1, h2, h3⟩ rfl
        exact ⟨h1.lt, fun h => by rcases h with h | h | h <;> omega, .inr (by omega)⟩
      case hAx =>
        rintro pre x a' _ Y Z row ⟨B, z0, z1, z2, z3, z4, z5, z8, z9, z10, z11, z12, z13, z14, z15, z16, z17, z18, z19, z20, z21, z22, z23, z24, z25, z26, z27, h1, h2, h3⟩ hg hr
        exact ⟨B, z0, z1, z2, z3, z4, z5, z8, z9, z10, z11, z12, z13, z14, z15, z16, z17, z18, z19, z20, z21, z22, z23, z24, z25, z26, z27, h1.turn hg hr, h2, h3⟩
      case assign =>
        rintro l' pre x Y K hpre ⟨h1, h2, h3⟩ hK
        gi_wp2
        exact hK _ _ ⟨Keeps.of_below ((Below.refl _ Y).alloc (Nat.le_refl _) _), fun k hk => .inl hk⟩ ⟨h1.alloc _, h2.alloc h2.size _, by simp; omega⟩ ⟨Y.heap.size, _, _, _, _, _, _, _, _, _, _, _, _, _, _, _, _, _, _, _, _, _, _, _, _, _, _, Row.new _ _ _, h1.lt, rfl⟩
      case body =>
        rintro l' pre x a' Y hl hr hpre ⟨h1, h2, h3⟩ ⟨B, z0, z1, z2, z3, z4, z5, z8, z9, z10, z11, z12, z13, z14, z15, z16, z17, z18, z19, z20, z21, z22, z23, z24, z25, z26, z27, hB, hlt, rfl⟩
        have hle := sumL_prefix hpre
        have hmm := tiles_mem HTT.out x (by obtain ⟨t, ht⟩ := hpre; rw [← ht]; simp)
        have hsum := HSUM.out
        have hc := cnt_le (hasS LL) a (b - a)
        rw [sumL_append] at hle
        have hss : ∀ q : Nat × Nat, sumL [q] = q.2 - q.1 := fun q => rfl
        have HS2 := Lib.hid (sumL_append pre [x])
        rw [hss] at hle
        obtain ⟨u, v⟩ := x
        dsimp only at hle hmm hB
        obtain ⟨sm, hsm⟩ : ∃ sm, sumL pre = sm := ⟨_, rfl⟩
        rw [hsm] at h1 hle
        have HSM := Lib.hid hsm
        have hbd : sm + (v - u) ≤ 10000000 := by omega
        have c0 := h1.cell 0
        have f0 := h1.free 0
        have p0 := hB.cell 0
        have p1 := hB.cell 1
        obtain ⟨g1, g2, g3⟩ := hmm
        have g4 : v ≤ 10000000 := by omega
        have H1 := Lib.hid h1; have H2 := Lib.hid h2
        have lbb := h1.lt
        clear hsm hsum hc hle hss h1 h2 hB hpre
        gi_wp2
        have hrow : Row (Y.setCell ⟨w2.heap.size, 0, none⟩ (.int .i64 ((sm : Int) + ((v : Int) - (u : Int))))) w2.heap.size 3 #[.int .i64 ((sumL (pre ++ [(u, v)]) : Nat) : Int)] := by
          have := H1.out.put 0 (.int .i64 ((sm : Int) + ((v : Int) - (u : Int))))
          rw [show ((sumL (pre ++ [(u, v)]) : Nat) : Int) = (sm : Int) + ((v : Int) - (u : Int)) by rw [HS2.out, HSM.out, show sumL [(u, v)] = v - u from rfl]; omega]
          exact this
        exact ⟨⟨Keeps.setCell (no := fun k => k = w2.heap.size) (p := ⟨w2.heap.size, 0, none⟩) rfl _, fun k hk => .inl hk⟩, hrow, H2.out.setCell (p := ⟨w2.heap.size, 0, none⟩) (by dsimp only; omega) _, by simp [World.setCell]; omega⟩
      case done =>
        rintro D Y rfl ⟨h1, h2, h3⟩ hD
        have c0 := h1.cell 0
        gi_wp2
        refine ⟨by simp, .inl ⟨_, _, rfl, run_takeDeferred hD, ?_⟩⟩
        exact ⟨_, results_tmp2 rfl _ _ _, by rw [HR.out, ← HSUM.out]; rfl, h2.trans (belowK_b (w := w) (Nat.le_refl _) Y _ _ _ (by omega) hD rfl rfl)⟩
end Go.Proofs.YtmfpaankkoaoaaaDoor
