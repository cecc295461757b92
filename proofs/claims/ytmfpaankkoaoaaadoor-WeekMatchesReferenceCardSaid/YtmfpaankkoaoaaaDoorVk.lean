/- readRuns. -/
import Derived.Test.YtmfpaankkoaoaaaDoorVj
namespace Go.Proofs.YtmfpaankkoaoaaaDoor
open Go.RowKit Go.Shelf
attribute [local go_sem] Oper.semAt_some

/-- The set whose runs are read, from a set and an end on; 0 if something is no run. -/
def rdStep (rd : ByteArray → Int × Int) : List ByteArray → Nat → Int → Nat
  | [], s, _ => s
  | x :: xs, s, e => if (rd x).2 ≤ (rd x).1 ∨ (rd x).1 ≤ e then 0 else rdStep rd xs (s ||| (2 ^ (rd x).2.toNat - 2 ^ (rd x).1.toNat)) (rd x).2
theorem rdStep_bad {rd : ByteArray → Int × Int} {x : ByteArray} {xs : List ByteArray} {s : Nat} {e : Int} (h : (rd x).2 ≤ (rd x).1 ∨ (rd x).1 ≤ e) : rdStep rd (x :: xs) s e = 0 := by
  unfold rdStep; rw [if_pos h]
theorem rdStep_ok {rd : ByteArray → Int × Int} {x : ByteArray} {xs : List ByteArray} {s : Nat} {e : Int} (h : ¬ ((rd x).2 ≤ (rd x).1 ∨ (rd x).1 ≤ e)) : rdStep rd (x :: xs) s e = rdStep rd xs (s ||| (2 ^ (rd x).2.toNat - 2 ^ (rd x).1.toNat)) (rd x).2 := by
  rw [rdStep, if_neg h]
theorem or_le24 {s a b : Nat} (hs : s ≤ 16777215) (hb : b ≤ 24) : s ||| (2 ^ b - 2 ^ a) ≤ 16777215 := by
  have h1 : (2 : Nat) ^ b ≤ 2 ^ 24 := Nat.pow_le_pow_right (by decide) hb
  have h0 : 0 < (2 : Nat) ^ a := Nat.pow_pos (by decide)
  have := Nat.or_lt_two_pow (x := s) (y := 2 ^ b - 2 ^ a) (n := 24) (by omega) (by omega)
  omega
theorem results_int {fn : Func} {p : Tmp} (h : fn.results = #[.cell p 3]) (tmps : Array Value) (w : World) (g : Nat) (x : Int) (hp : tmps.getD p undef = .pointer (some ⟨g, 0, none⟩)) (hg : Row w g 3 #[.int .i64 x]) :
    (results fn tmps).run Tryd.prog w = .ok (.int .i64 x) w := by
  have hp' : tmps[p]?.getD undef = .pointer (some ⟨g, 0, none⟩) := by simpa using hp
  have e1 := hg.cell 0
  simp [results, h, hp', asAddr, go_sem, e1]
theorem rdH_bd (x : ByteArray) (h : ¬ (rdH x).2 ≤ (rdH x).1) : 0 ≤ (rdH x).1 ∧ (rdH x).2 ≤ 24 := by
  unfold rdH at h ⊢
  by_cases hc : hourN (cut1 x dash) < 0 ∨ hourN (cut2 x dash) ≤ hourN (cut1 x dash)
  · rw [if_pos hc] at h; exact absurd (Int.le_refl _) h
  · rw [if_neg hc] at h ⊢
    have : hourN (cut2 x dash) ≤ 24 := by
      unfold hourN
      cases hf : (List.range 25).find? (fun k => decide (itoaB k = cut2 x dash)) with
      | none => simp
      | some k => have := List.mem_range.1 (List.mem_of_find?_eq_some hf); simp; omega
    exact ⟨by omega, this⟩
theorem rdD_bd (x : ByteArray) (h : ¬ (rdD x).2 ≤ (rdD x).1) : 0 ≤ (rdD x).1 ∧ (rdD x).2 ≤ 24 := by
  obtain ⟨b1, b2⟩ := dayN_bd (cut1 x dash)
  obtain ⟨b3, b4⟩ := dayN_bd (cut2 x dash)
  unfold rdD at h ⊢
  split at h
  · exact absurd (Int.le_refl _) h
  · rename_i h1
    rw [if_neg h1]
    split at h
    · rename_i h2; rw [if_pos h2]; exact ⟨by dsimp only; omega, by dsimp only; omega⟩
    · rename_i h2
      rw [if_neg h2]
      split at h
      · exact absurd (Int.le_refl _) h
      · rename_i h3; rw [if_neg h3]; exact ⟨by dsimp only; omega, by dsimp only; omega⟩
/-- What a loop that reads runs keeps in memory. -/
structure RInv (w : World) (fv : Value) (n0 : Nat) (st : Nat) (e : Int) (Y : World) : Prop where
  f : Row Y w.heap.size 78 #[fv]
  r : Row Y (w.heap.size + 1) 3 #[.int .i64 0]
  s : Row Y (w.heap.size + 1 + 1) 3 #[.int .i64 (st : Int)]
  e : Row Y (w.heap.size + 1 + 1 + 1) 3 #[.int .i64 e]
  b : Below w.heap.size w Y
  n : n0 ≤ Y.heap.size
theorem read_round {w Y w4 w5 : World} {fv : Value} {n0 st st2 : Nat} {ed ed2 : Int} (h : RInv w fv n0 st ed Y) (h4 : Below Y.heap.size Y w4) (h5 : Below w4.heap.size w4 w5) :
    RoundK (fun _ k => k = w.heap.size + 1 ∨ k = w.heap.size + 1 + 1 ∨ k = w.heap.size + 1 + 1 + 1) Y ((w5.setCell ⟨w.heap.size + 1 + 1, 0, none⟩ (.int .i64 (st2 : Int))).setCell ⟨w.heap.size + 1 + 1 + 1, 0, none⟩ (.int .i64 ed2)) ∧
    RInv w fv n0 st2 ed2 ((w5.setCell ⟨w.heap.size + 1 + 1, 0, none⟩ (.int .i64 (st2 : Int))).setCell ⟨w.heap.size + 1 + 1 + 1, 0, none⟩ (.int .i64 ed2)) := by
  have hb : Below Y.heap.size Y w5 := below_to h4 h5
  have hs := hb.size
  have hn := h.n
  exact ⟨⟨((Keeps.of_below hb).trans (Keeps.setCell (p := ⟨w.heap.size + 1 + 1, 0, none⟩) (.inr (.inl rfl)) _)).trans (Keeps.setCell (p := ⟨w.heap.size + 1 + 1 + 1, 0, none⟩) (.inr (.inr rfl)) _), fun k hk => .inl hk⟩,
    ((h.f.below hb h.f.lt).far (p := ⟨w.heap.size + 1 + 1, 0, none⟩) (by dsimp only; omega) _).far (p := ⟨w.heap.size + 1 + 1 + 1, 0, none⟩) (by dsimp only; omega) _,
    ((h.r.below hb h.r.lt).far (p := ⟨w.heap.size + 1 + 1, 0, none⟩) (by dsimp only; omega) _).far (p := ⟨w.heap.size + 1 + 1 + 1, 0, none⟩) (by dsimp only; omega) _,
    ((h.s.below hb h.s.lt).put 0 _).far (p := ⟨w.heap.size + 1 + 1 + 1, 0, none⟩) (by dsimp only; omega) _,
    ((h.e.below hb h.e.lt).far (p := ⟨w.heap.size + 1 + 1, 0, none⟩) (by dsimp only; omega) _).put 0 _,
    ((below_to h.b hb).setCell (p := ⟨w.heap.size + 1 + 1, 0, none⟩) (by dsimp only; omega) _).setCell (p := ⟨w.heap.size + 1 + 1 + 1, 0, none⟩) (by dsimp only; omega) _,
    by simp [World.setCell]; omega⟩

set_option maxRecDepth 100000 in
set_option maxHeartbeats 8000000 in
theorem readRunsH (s sep : ByteArray) (hs : s.size < 4294967281) (h0 : sep.data.toList ≠ []) (w : World) (hT : Tabs w)
    (HW : ∀ x : ByteArray, x.size < 4294967281 → ∀ u, Tabs u → Calls Tryd.prog 69 #[.string x] u fun e w' => e = .returned (.tuple #[.int .i64 (rdH x).1, .int .i64 (rdH x).2]) ∧ Below u.heap.size u w') :
    Calls Tryd.prog 67 #[.string s, .string sep, .func (.func 69) #[] #[]] w fun e w' => e = .returned (.int .i64 ((rdStep rdH (ptl sep (s.size + 1) s) 0 (-1) : Nat) : Int)) ∧ Below w.heap.size w w' := by
  have HT := Lib.hid hT
  have HWW := Lib.hid HW
  have hn4 := hT.n
  have HPS := Lib.hid (ptl_size sep (s.size + 1) s)
  clear hT HW
  refine (callsIn_wide (n := 12)).1 ?_
  refine callsIn_of_wp_marks Tryd.func67 rfl trivial ?_ rfl
  simp only [Tryd.ntmps67, List.size_toArray, List.length_cons, List.length_nil, Nat.reduceAdd, Nat.reduceSub, Array.replicate_succ, Array.replicate_zero, List.push_toArray, List.append_toArray, List.nil_append, List.cons_append]
  gi_wp2_with (refine ⟨trivial, ?_⟩; gi_at_call 47; ((with_reducible refine CallsIn.mono (callsIn_wide.2 (parts_any _ _ _)) ?_); rintro e' w3 ⟨rfl, rfl⟩))
  obtain ⟨X, hX⟩ : ∃ X, ((((((w.alloc (.cells #[.func (.func 69) #[] #[]] 78)).alloc (.cells #[.int .i64 0] 3)).alloc (.cells #[.int .i64 0] 3)).alloc (.cells #[.int .i64 (-1)] 3)).alloc (.cells #[.string s] 9)).alloc (.cells #[.string sep] 9)) = X := ⟨_, rfl⟩
  have hsX : X.heap.size = w.heap.size + 1 + 1 + 1 + 1 + 1 + 1 := by rw [← hX]; simp
  have r0 : Row X w.heap.size 78 #[.func (.func 69) #[] #[]] := by rw [← hX]; exact ((((((Row.new w _ _).alloc _).alloc _).alloc _).alloc _).alloc _)
  have r1 : Row X (w.heap.size + 1) 3 #[.int .i64 0] := by
    rw [← hX]
    have := Row.new (w.alloc (.cells #[.func (.func 69) #[] #[]] 78)) 3 #[.int .i64 0]
    simp only [World.size_alloc] at this
    exact (((this.alloc _).alloc _).alloc _).alloc _
  have r2 : Row X (w.heap.size + 1 + 1) 3 #[.int .i64 0] := by
    rw [← hX]
    have := Row.new ((w.alloc (.cells #[.func (.func 69) #[] #[]] 78)).alloc (.cells #[.int .i64 0] 3)) 3 #[.int .i64 0]
    simp only [World.size_alloc] at this
    exact ((this.alloc _).alloc _).alloc _
  have r3 : Row X (w.heap.size + 1 + 1 + 1) 3 #[.int .i64 (-1)] := by
    rw [← hX]
    have := Row.new (((w.alloc (.cells #[.func (.func 69) #[] #[]] 78)).alloc (.cells #[.int .i64 0] 3)).alloc (.cells #[.int .i64 0] 3)) 3 #[.int .i64 (-1)]
    simp only [World.size_alloc] at this
    exact (this.alloc _).alloc _
  have r4 : Row X (w.heap.size + 1 + 1 + 1 + 1) 9 #[.string s] := by
    rw [← hX]
    have := Row.new ((((w.alloc (.cells #[.func (.func 69) #[] #[]] 78)).alloc (.cells #[.int .i64 0] 3)).alloc (.cells #[.int .i64 0] 3)).alloc (.cells #[.int .i64 (-1)] 3)) 9 #[.string s]
    simp only [World.size_alloc] at this
    exact this.alloc _
  have r5 : Row X (w.heap.size + 1 + 1 + 1 + 1 + 1) 9 #[.string sep] := by
    rw [← hX]
    have := Row.new (((((w.alloc (.cells #[.func (.func 69) #[] #[]] 78)).alloc (.cells #[.int .i64 0] 3)).alloc (.cells #[.int .i64 0] 3)).alloc (.cells #[.int .i64 (-1)] 3)).alloc (.cells #[.string s] 9)) 9 #[.string sep]
    simp only [World.size_alloc] at this
    exact this
  have hXL : Below w.heap.size w X := by rw [← hX]; exact ((((((Below.refl _ w).alloc (Nat.le_refl _) _).alloc (by simp) _).alloc (by simp; omega) _).alloc (by simp; omega) _).alloc (by simp; omega) _).alloc (by simp; omega) _
  have hI0 : RInv w (.func (.func 69) #[] #[]) X.heap.size 0 (-1) X := ⟨r0, r1, r2, r3, hXL, Nat.le_refl _⟩
  have HTX := Lib.hid (HT.out.next hXL)
  rw [hX]
  clear hX r0 r1 r2 r3
  obtain ⟨full, hfull⟩ : ∃ f, ptl sep (s.size + 1) s = f := ⟨_, rfl⟩
  have hp := parts_p 11 (by decide) (w.heap.size + 1 + 1 + 1 + 1) (w.heap.size + 1 + 1 + 1 + 1 + 1) s sep hs h0 (fun _ k => (k = w.heap.size + 1 ∨ k = w.heap.size + 1 + 1 ∨ k = w.heap.size + 1 + 1 + 1) ∨ k = X.heap.size + 1) X (cut4 HTX.out) (by omega) (by omega) (r4.cell 0) (r5.cell 0) HTX.out.c
  rw [hfull] at hp HPS
  have HFULL := Lib.hid hfull
  clear hfull
  refine rangeFunc_p (F := Fence.wide) rfl (by decide) (gf := 65) (lb := #[.pointer (some ⟨w.heap.size + 1 + 1 + 1 + 1, 0, none⟩), .pointer (some ⟨w.heap.size + 1 + 1 + 1 + 1 + 1, 0, none⟩)]) rfl trivial (enters_of Tryd.func65 (by kernel_rfl) rfl)
    hp (fun _ => rfl) (fun k hk => by rcases hk with rfl | rfl | rfl <;> first | exact cut4 HTX.out | omega)
    (fun pre Y => ∃ (st : Nat) (ed : Int), RInv w (.func (.func 69) #[] #[]) X.heap.size st ed Y ∧ (∀ xs, rdStep rdH (pre ++ xs) 0 (-1) = rdStep rdH xs st ed) ∧ (-1 ≤ ed ∧ ed ≤ 24) ∧ st ≤ 16777215)
    (fun c _ Y => c = .ret ∧ rdStep rdH full 0 (-1) = 0 ∧ Row Y (w.heap.size + 1) 3 #[.int .i64 0] ∧ Below w.heap.size w Y ∧ X.heap.size ≤ Y.heap.size)
    ?oI ?oIx ⟨0, -1, hI0, fun _ => rfl, ⟨by omega, by omega⟩, by omega⟩ ?hno (fun _ _ _ _ _ _ _ _ hk => hk)
    (fun _ x a' _ => ∃ (z10 z11 z0 z1 z2 z3 z4 z12 z13 z14 z15 z16 z17 z18 z19 z20 z21 z22 z23 z24 z25 z26 z27 z28 z29 z30 z31 z32 z33 z34 z35 z36 : Value), a' = { tmps := #[z0, z1, z2, z3, z4, .pointer (some ⟨w.heap.size, 0, none⟩), .pointer (some ⟨w.heap.size + 1, 0, none⟩), .pointer (some ⟨w.heap.size + 1 + 1, 0, none⟩), .pointer (some ⟨w.heap.size + 1 + 1 + 1, 0, none⟩), .string x, z10, z11, z12, z13, z14, z15, z16, z17, z18, z19, z20, z21, z22, z23, z24, z25, z26, z27, z28, z29, z30, z31, z32, z33, z34, z35, z36], defers := [] }) (fun _ _ _ _ _ _ _ hs _ _ => hs) ?assign ?body ?done ?stop
  case oI =>
    rintro pre Y Z row ⟨st, ed, h1, h2, h3, h4⟩ hg hr
    exact ⟨st, ed, ⟨h1.f.turn hg hr, h1.r.turn hg hr, h1.s.turn hg hr, h1.e.turn hg hr, h1.b.grown hg h1.b.size (fun k e => by have := (hr k e).1; omega), Nat.le_trans h1.n hg.size⟩, h2, h3, h4⟩
  case oIx =>
    rintro c pre Y Z row ⟨rfl, h1, h2, h3, h4⟩ hg hr
    exact ⟨rfl, h1, h2.turn hg hr, h3.grown hg h3.size (fun k e => by have := (hr k e).1; omega), Nat.le_trans h4 hg.size⟩
  case hno =>
    rintro pre Y k ⟨st, ed, h1, h2, h3, h4⟩ hk
    have hc := cut4 HT.out
    have := h1.n
    exact ⟨by omega, fun h => by omega, .inr (by omega)⟩
  case assign =>
    rintro l' pre x Y K hpre hi hK
    gi_wp2
    exact hK _ _ (RoundK.refl _ _) hi ⟨_, _, _, _, _, _, _, _, _, _, _, _, _, _, _, _, _, _, _, _, _, _, _, _, _, _, _, _, _, _, _, _, rfl⟩
  case body =>
    rintro l' pre x a' Y hl hr hpre ⟨st, ed, h1, h2, h3, h4⟩ ⟨z10, z11, z0, z1, z2, z3, z4, z12, z13, z14, z15, z16, z17, z18, z19, z20, z21, z22, z23, z24, z25, z26, z27, z28, z29, z30, z31, z32, z33, z34, z35, z36, rfl⟩
    have hmem : x ∈ full := by obtain ⟨t, ht⟩ := hpre; rw [← ht]; simp
    have hxs : x.size < 4294967281 := Nat.lt_of_le_of_lt (HPS.out x hmem) hs
    have HWC := Lib.hid (HWW.out x hxs Y (HT.out.next h1.b))
    have hbd := rdH_bd x
    obtain ⟨tl, htl⟩ := hpre
    have hst := h2 (x :: tl)
    have HEQ := Lib.hid (show rdStep rdH full 0 (-1) = rdStep rdH (x :: tl) st ed by rw [← htl, List.append_assoc]; exact hst)
    have HBAD := Lib.hid (fun h => rdStep_bad (rd := rdH) (x := x) (xs := tl) (s := st) (e := ed) h)
    have HOK := Lib.hid (fun (xs : List ByteArray) h => rdStep_ok (rd := rdH) (x := x) (xs := xs) (s := st) (e := ed) h)
    have HPRE := Lib.hid h2
    obtain ⟨fa, hfa⟩ : ∃ fa, (rdH x).1 = fa := ⟨_, rfl⟩
    obtain ⟨fb, hfb⟩ : ∃ fb, (rdH x).2 = fb := ⟨_, rfl⟩
    rw [hfa, hfb] at HWC hbd HBAD HOK
    have k0 := h1.f.cell 0
    have ke := h1.e.cell 0
    have l0 := h1.f.lt
    have l3 := h1.e.lt
    have l1 := h1.r.lt
    have H1 := Lib.hid h1
    clear h1 h2 hst htl hmem hxs hfa hfb
    by_cases c1 : fb ≤ fa
    · have t1 : decide (fb ≤ fa) = true := decide_eq_true c1
      have t1' : decide (fa ≥ fb) = true := decide_eq_true c1
      have HB := Lib.hid (HEQ.out.trans (HBAD.out (.inl c1)))
      gi_wp2_with ((try refine ⟨trivial, ?_⟩); gi_at_call 69; ((with_reducible refine CallsIn.mono (CallsIn.inRound l' (callsIn_wide.2 HWC.out)) ?_); rintro e' w4 ⟨rfl, hb4⟩; have r4 := H1.out.r.below hb4 l1; have g4 := r4.cell 0; have g4f := r4.free 0; have g5 := (hb4.cell (p := ⟨w.heap.size + 1 + 1 + 1, 0, none⟩) l3).trans ke; have H4 := Lib.hid hb4; have HR4 := Lib.hid r4; clear hb4 r4))
      exact ⟨((Keeps.of_below H4.out).trans (Keeps.setCell (no := fun k => (k = w.heap.size + 1 ∨ k = w.heap.size + 1 + 1 ∨ k = w.heap.size + 1 + 1 + 1)) (p := ⟨w.heap.size + 1, 0, none⟩) (.inl rfl) _)), (by first | rfl | trivial), HB.out, HR4.out.put 0 _, (below_to H1.out.b H4.out).setCell (p := ⟨w.heap.size + 1, 0, none⟩) (by dsimp only; omega) _, by have h := H1.out.n; have h2 := H4.out.size; simp [World.setCell]; omega⟩
    · have t1 : decide (fb ≤ fa) = false := decide_eq_false c1
      have t1' : decide (fa ≥ fb) = false := decide_eq_false c1
      have c1' : fa < fb := by omega
      by_cases c2 : fa ≤ ed
      · have t2 : decide (fa ≤ ed) = true := decide_eq_true c2
        have HB := Lib.hid (HEQ.out.trans (HBAD.out (.inr c2)))
        gi_wp2_with ((try refine ⟨trivial, ?_⟩); gi_at_call 69; ((with_reducible refine CallsIn.mono (CallsIn.inRound l' (callsIn_wide.2 HWC.out)) ?_); rintro e' w4 ⟨rfl, hb4⟩; have r4 := H1.out.r.below hb4 l1; have g4 := r4.cell 0; have g4f := r4.free 0; have g5 := (hb4.cell (p := ⟨w.heap.size + 1 + 1 + 1, 0, none⟩) l3).trans ke; have H4 := Lib.hid hb4; have HR4 := Lib.hid r4; clear hb4 r4))
        exact ⟨((Keeps.of_below H4.out).trans (Keeps.setCell (no := fun k => (k = w.heap.size + 1 ∨ k = w.heap.size + 1 + 1 ∨ k = w.heap.size + 1 + 1 + 1)) (p := ⟨w.heap.size + 1, 0, none⟩) (.inl rfl) _)), (by first | rfl | trivial), HB.out, HR4.out.put 0 _, (below_to H1.out.b H4.out).setCell (p := ⟨w.heap.size + 1, 0, none⟩) (by dsimp only; omega) _, by have h := H1.out.n; have h2 := H4.out.size; simp [World.setCell]; omega⟩
      · have t2 : decide (fa ≤ ed) = false := decide_eq_false c2
        have c2' : ed < fa := by omega
        obtain ⟨b1, b2⟩ := hbd c1
        obtain ⟨a, rfl⟩ := Int.eq_ofNat_of_zero_le b1
        obtain ⟨b, rfl⟩ := Int.eq_ofNat_of_zero_le (show 0 ≤ fb by omega)
        have HRUN0 := fun u => run_c a b (by omega) (by omega) u
        have hst2 := or_le24 (s := st) (a := a) (b := b) h4 (by omega)
        have hpw : (2 : Nat) ^ b - 2 ^ a < 2 ^ 62 := Nat.lt_of_le_of_lt (Nat.sub_le _ _) (Nat.pow_lt_pow_right (by decide) (by omega))
        have OR := bits_or64 st (2 ^ b - 2 ^ a) (by omega) hpw
        have hok := fun xs => HOK.out xs (by rintro (h | h) <;> omega)
        rw [Int.toNat_natCast, Int.toNat_natCast] at hok
        obtain ⟨m, hm⟩ : ∃ m, (2 : Nat) ^ b - 2 ^ a = m := ⟨_, rfl⟩
        rw [hm] at HRUN0 hst2 OR hok
        have HOK2 := Lib.hid hok
        have HRUN := Lib.hid HRUN0
        obtain ⟨st2, hs2⟩ : ∃ st2, st ||| m = st2 := ⟨_, rfl⟩
        rw [hs2] at OR hst2
        have HS2 := Lib.hid hs2
        have HST := Lib.hid hst2
        have HAB := Lib.hid (show -1 ≤ (b : Int) ∧ (b : Int) ≤ 24 from ⟨by omega, by omega⟩)
        clear hok HRUN0 hm hpw hs2 hst2 hbd b1 b2
        gi_wp2_with ((try refine ⟨trivial, ?_⟩); gi_at_call 69; ((with_reducible refine CallsIn.mono (CallsIn.inRound l' (callsIn_wide.2 HWC.out)) ?_); rintro e' w4 ⟨rfl, hb4⟩; have r4 := H1.out.r.below hb4 l1; have g4 := r4.cell 0; have g4f := r4.free 0; have g5 := (hb4.cell (p := ⟨w.heap.size + 1 + 1 + 1, 0, none⟩) l3).trans ke; have H4 := Lib.hid hb4; have HR4 := Lib.hid r4; clear hb4 r4))
        have HR1 : Hid (RInv w (.func (.func 69) #[] #[]) X.heap.size st ed w4) := Lib.hid ⟨H1.out.f.below H4.out l0, HR4.out, H1.out.s.below H4.out H1.out.s.lt, H1.out.e.below H4.out l3, below_to H1.out.b H4.out, Nat.le_trans H1.out.n H4.out.size⟩
        have HLB := Lib.hid (And.intro HR1.out.s.lt HR1.out.e.lt)
        have ks := HR1.out.s.cell 0
        have gs := HR1.out.s.free 0
        have ge := HR1.out.e.free 0
        have HFI := Lib.hid (fun w5 (hb5 : Below w4.heap.size w4 w5) => read_round (w := w) (n0 := X.heap.size) (st2 := st2) (ed2 := (b : Int)) H1.out H4.out hb5)
        have HXS := Lib.hid (show ∀ xs, rdStep rdH (pre ++ [x] ++ xs) 0 (-1) = rdStep rdH xs st2 (b : Int) from fun xs => by rw [List.append_assoc]; exact (HPRE.out (x :: xs)).trans ((HOK2.out xs).trans (by rw [HS2.out])))
        clear t1 t1' t2 c1 c1' c2 c2' g4 g4f
        refine region_round (S := fun _ => True) (by kernel_rfl) (by kernel_rfl) (fun ⟨_, _, h⟩ => h) trivial (fun hHeld => ?_)
        refine wpAnyH_take (i := 1) (oi := _) (v := ?_) rfl (by kernel_rfl) (by kernel_rfl) (by kernel_rfl) (fun _ _ _ h => h) (Or.inl ⟨by rfl, ?_⟩) (by assumption) ?_
        rotate_left
        · (intro w hSw; (try dsimp only at hSw); go_simp; all_goals (with_reducible rfl))
        (try simp only [Act.put])
        refine wpAnyH_take (i := 2) (oi := _) (v := ?_) rfl (by kernel_rfl) (by kernel_rfl) (by kernel_rfl) (fun _ _ _ h => h) (Or.inl ⟨by rfl, ?_⟩) (by assumption) ?_
        rotate_left
        · (intro w hSw; (try dsimp only at hSw); go_simp; all_goals (with_reducible rfl))
        (try simp only [Act.put])
        refine wpAnyH_take (i := 5) (oi := _) (v := ?_) rfl (by kernel_rfl) (by kernel_rfl) (by kernel_rfl) (fun _ _ _ h => h) (Or.inl ⟨by rfl, ?_⟩) (by assumption) ?_
        rotate_left
        · (intro w hSw; (try dsimp only at hSw); go_simp; all_goals (with_reducible rfl))
        (try simp only [Act.put])
        refine wpAnyH_ready (rs := [0, 3]) (by kernel_rfl) (by simp) ?_
        refine AllReadyH.cons (o := _) rfl (fun K hK => ?_) ?_
        · go_simp
          refine hK.out _ _ ?_ (fun hHeld => ?_)
          · (try dsimp only)
            all_goals trivial
          clear hK K
          (try simp only [Act.put, List.setIfInBounds_toArray, List.set_cons_zero, List.set_cons_succ])
          refine wpAnyH_ready (rs := [3]) (by kernel_rfl) (by simp) ?_
          refine AllReadyH.cons (o := _) rfl (fun K hK => ?_) ?_
          · go_simp
            (go_at_call 56; ((with_reducible refine Calls.mono (HRUN.out _) ?_); rintro e w5 ⟨rfl, hb5⟩))
            have ks5 : w5.cell? ⟨w.heap.size + 1 + 1, 0, none⟩ = some (.int .i64 (st : Int)) := (hb5.cell (p := ⟨w.heap.size + 1 + 1, 0, none⟩) HLB.out.1).trans ks
            have ke5 : w5.cell? ⟨w.heap.size + 1 + 1 + 1, 0, none⟩ = some (.int .i64 ed) := (hb5.cell (p := ⟨w.heap.size + 1 + 1 + 1, 0, none⟩) HLB.out.2).trans g5
            have gs5 := ((show Row w4.drew _ _ _ from HR1.out.s).below hb5 HLB.out.1).free 0
            have ge5 := ((show Row w4.drew _ _ _ from HR1.out.e).below hb5 HLB.out.2).free 0
            have H5 := Lib.hid hb5
            clear hb5
            refine hK.out _ _ ?_ (fun hHeld => ?_)
            · (try dsimp only)
              all_goals trivial
            clear hK K
            (try simp only [Act.put, List.setIfInBounds_toArray, List.set_cons_zero, List.set_cons_succ])
            refine wpAnyH_take (i := 4) (oi := _) (v := ?_) rfl (by kernel_rfl) (by kernel_rfl) (by kernel_rfl) (fun _ _ _ h => h) (Or.inl ⟨by rfl, ?_⟩) (by assumption) ?_
            rotate_left
            · (intro w hSw; (try dsimp only at hSw); go_simp; all_goals (with_reducible rfl))
            (try simp only [Act.put])
            refine wpAnyH_ready (rs := [6]) (by kernel_rfl) (by simp) ?_
            refine AllReadyH.cons (o := _) rfl (fun K hK => ?_) ?_
            · go_simp
              refine hK.out _ _ ?_ (fun hHeld => ?_)
              · (try dsimp only)
                all_goals trivial
              clear hK K
              (try simp only [Act.put, List.setIfInBounds_toArray, List.set_cons_zero, List.set_cons_succ])
              refine wpAnyH_ready (rs := [7]) (by kernel_rfl) (by simp) ?_
              refine AllReadyH.cons (o := _) rfl (fun K hK => ?_) ?_
              · go_simp
                refine hK.out _ _ ?_ (fun hHeld => ?_)
                · (try dsimp only)
                  all_goals trivial
                clear hK K
                (try simp only [Act.put, List.setIfInBounds_toArray, List.set_cons_zero, List.set_cons_succ])
                refine wpAnyH_done (by kernel_rfl) ?_ _
                gi_wp2
                have hb5 : Below w4.heap.size w4 w5 := (Below.refl _ w4).drew.trans H5.out
                obtain ⟨g1, g2⟩ := HFI.out _ hb5
                exact ⟨g1, _, _, g2, HXS.out, HAB.out, HST.out⟩
              exact AllReadyH.nil
            exact AllReadyH.nil
          exact AllReadyH.nil
        refine AllReadyH.cons (o := _) rfl (fun K hK => ?_) ?_
        · go_simp
          (go_at_call 56; ((with_reducible refine Calls.mono (HRUN.out _) ?_); rintro e w5 ⟨rfl, hb5⟩))
          have ks5 : w5.cell? ⟨w.heap.size + 1 + 1, 0, none⟩ = some (.int .i64 (st : Int)) := (hb5.cell (p := ⟨w.heap.size + 1 + 1, 0, none⟩) HLB.out.1).trans ks
          have ke5 : w5.cell? ⟨w.heap.size + 1 + 1 + 1, 0, none⟩ = some (.int .i64 ed) := (hb5.cell (p := ⟨w.heap.size + 1 + 1 + 1, 0, none⟩) HLB.out.2).trans g5
          have gs5 := ((show Row w4.drew _ _ _ from HR1.out.s).below hb5 HLB.out.1).free 0
          have ge5 := ((show Row w4.drew _ _ _ from HR1.out.e).below hb5 HLB.out.2).free 0
          have H5 := Lib.hid hb5
          clear hb5
          refine hK.out _ _ ?_ (fun hHeld => ?_)
          · (try dsimp only)
            all_goals trivial
          clear hK K
          (try simp only [Act.put, List.setIfInBounds_toArray, List.set_cons_zero, List.set_cons_succ])
          refine wpAnyH_ready (rs := [0]) (by kernel_rfl) (by simp) ?_
          refine AllReadyH.cons (o := _) rfl (fun K hK => ?_) ?_
          · go_simp
            refine hK.out _ _ ?_ (fun hHeld => ?_)
            · (try dsimp only)
              all_goals trivial
            clear hK K
            (try simp only [Act.put, List.setIfInBounds_toArray, List.set_cons_zero, List.set_cons_succ])
            refine wpAnyH_take (i := 4) (oi := _) (v := ?_) rfl (by kernel_rfl) (by kernel_rfl) (by kernel_rfl) (fun _ _ _ h => h) (Or.inl ⟨by rfl, ?_⟩) (by assumption) ?_
            rotate_left
            · (intro w hSw; (try dsimp only at hSw); go_simp; all_goals (with_reducible rfl))
            (try simp only [Act.put])
            refine wpAnyH_ready (rs := [6]) (by kernel_rfl) (by simp) ?_
            refine AllReadyH.cons (o := _) rfl (fun K hK => ?_) ?_
            · go_simp
              refine hK.out _ _ ?_ (fun hHeld => ?_)
              · (try dsimp only)
                all_goals trivial
              clear hK K
              (try simp only [Act.put, List.setIfInBounds_toArray, List.set_cons_zero, List.set_cons_succ])
              refine wpAnyH_ready (rs := [7]) (by kernel_rfl) (by simp) ?_
              refine AllReadyH.cons (o := _) rfl (fun K hK => ?_) ?_
              · go_simp
                refine hK.out _ _ ?_ (fun hHeld => ?_)
                · (try dsimp only)
                  all_goals trivial
                clear hK K
                (try simp only [Act.put, List.setIfInBounds_toArray, List.set_cons_zero, List.set_cons_succ])
                refine wpAnyH_done (by kernel_rfl) ?_ _
                gi_wp2
                have hb5 : Below w4.heap.size w4 w5 := (Below.refl _ w4).drew.trans H5.out
                obtain ⟨g1, g2⟩ := HFI.out _ hb5
                exact ⟨g1, _, _, g2, HXS.out, HAB.out, HST.out⟩
              exact AllReadyH.nil
            exact AllReadyH.nil
          exact AllReadyH.nil
        exact AllReadyH.nil
  case done =>
    rintro D Y rfl ⟨st, ed, h1, h2, h3, h4⟩ hD
    have ks := h1.s.cell 0
    have hr := h1.r.cell 0
    have hrf := h1.r.free 0
    have l1 := h1.r.lt
    have hfin := h2 []
    rw [List.append_nil] at hfin
    have HF := Lib.hid (show rdStep rdH full 0 (-1) = st from hfin)
    have HH := Lib.hid h1
    have HDD := Lib.hid hD
    clear h1 h2 hfin hD
    gi_wp2
    have hD2 : (Y.setCell ⟨w.heap.size + 1, 0, none⟩ (.int .i64 (st : Int))).heap[X.heap.size]? = some (.deferred (some [])) := (Below.heap_setCell _ _ _ _ (by dsimp only; omega)).trans HDD.out
    refine ⟨by simp, .inl ⟨_, _, rfl, run_takeDeferred hD2, ?_⟩⟩
    have hrow := HH.out.r.put 0 (.int .i64 (st : Int))
    have hbb := HH.out.b.setCell (p := ⟨w.heap.size + 1, 0, none⟩) (by dsimp only; omega) (.int .i64 (st : Int))
    exact ⟨_, results_int rfl _ _ (w.heap.size + 1) (st : Int) rfl (hrow.grown (grownBy_putObj' _ _ _) (fun r e => by cases e; omega)), by rw [HFULL.out, HF.out], hbb.trans (belowK_b (w := w) (Nat.le_refl _) _ _ _ _ (by omega) hD2 rfl rfl)⟩
  case stop =>
    rintro D c pre Y rfl hpre ⟨rfl, h1, h2, h3, h4⟩ hD
    gi_wp2
    refine ⟨by simp, .inl ⟨_, _, rfl, run_takeDeferred hD, ?_⟩⟩
    exact ⟨_, results_int rfl _ _ (w.heap.size + 1) 0 rfl (h2.grown (grownBy_putObj' _ _ _) (fun r e => by cases e; omega)), by rw [HFULL.out, h1]; rfl, h3.trans (belowK_b (w := w) (Nat.le_refl _) _ _ _ _ (by omega) hD rfl rfl)⟩

set_option maxRecDepth 100000 in
set_option maxHeartbeats 8000000 in
theorem readRunsD (s sep : ByteArray) (hs : s.size < 4294967281) (h0 : sep.data.toList ≠ []) (w : World) (hT : Tabs w)
    (HW : ∀ x : ByteArray, x.size < 4294967281 → ∀ u, Tabs u → Calls Tryd.prog 68 #[.string x] u fun e w' => e = .returned (.tuple #[.int .i64 (rdD x).1, .int .i64 (rdD x).2]) ∧ Below u.heap.size u w') :
    Calls Tryd.prog 67 #[.string s, .string sep, .func (.func 68) #[] #[]] w fun e w' => e = .returned (.int .i64 ((rdStep rdD (ptl sep (s.size + 1) s) 0 (-1) : Nat) : Int)) ∧ Below w.heap.size w w' := by
  have HT := Lib.hid hT
  have HWW := Lib.hid HW
  have hn4 := hT.n
  have HPS := Lib.hid (ptl_size sep (s.size + 1) s)
  clear hT HW
  refine (callsIn_wide (n := 12)).1 ?_
  refine callsIn_of_wp_marks Tryd.func67 rfl trivial ?_ rfl
  simp only [Tryd.ntmps67, List.size_toArray, List.length_cons, List.length_nil, Nat.reduceAdd, Nat.reduceSub, Array.replicate_succ, Array.replicate_zero, List.push_toArray, List.append_toArray, List.nil_append, List.cons_append]
  gi_wp2_with (refine ⟨trivial, ?_⟩; gi_at_call 47; ((with_reducible refine CallsIn.mono (callsIn_wide.2 (parts_any _ _ _)) ?_); rintro e' w3 ⟨rfl, rfl⟩))
  obtain ⟨X, hX⟩ : ∃ X, ((((((w.alloc (.cells #[.func (.func 68) #[] #[]] 78)).alloc (.cells #[.int .i64 0] 3)).alloc (.cells #[.int .i64 0] 3)).alloc (.cells #[.int .i64 (-1)] 3)).alloc (.cells #[.string s] 9)).alloc (.cells #[.string sep] 9)) = X := ⟨_, rfl⟩
  have hsX : X.heap.size = w.heap.size + 1 + 1 + 1 + 1 + 1 + 1 := by rw [← hX]; simp
  have r0 : Row X w.heap.size 78 #[.func (.func 68) #[] #[]] := by rw [← hX]; exact ((((((Row.new w _ _).alloc _).alloc _).alloc _).alloc _).alloc _)
  have r1 : Row X (w.heap.size + 1) 3 #[.int .i64 0] := by
    rw [← hX]
    have := Row.new (w.alloc (.cells #[.func (.func 68) #[] #[]] 78)) 3 #[.int .i64 0]
    simp only [World.size_alloc] at this
    exact (((this.alloc _).alloc _).alloc _).alloc _
  have r2 : Row X (w.heap.size + 1 + 1) 3 #[.int .i64 0] := by
    rw [← hX]
    have := Row.new ((w.alloc (.cells #[.func (.func 68) #[] #[]] 78)).alloc (.cells #[.int .i64 0] 3)) 3 #[.int .i64 0]
    simp only [World.size_alloc] at this
    exact ((this.alloc _).alloc _).alloc _
  have r3 : Row X (w.heap.size + 1 + 1 + 1) 3 #[.int .i64 (-1)] := by
    rw [← hX]
    have := Row.new (((w.alloc (.cells #[.func (.func 68) #[] #[]] 78)).alloc (.cells #[.int .i64 0] 3)).alloc (.cells #[.int .i64 0] 3)) 3 #[.int .i64 (-1)]
    simp only [World.size_alloc] at this
    exact (this.alloc _).alloc _
  have r4 : Row X (w.heap.size + 1 + 1 + 1 + 1) 9 #[.string s] := by
    rw [← hX]
    have := Row.new ((((w.alloc (.cells #[.func (.func 68) #[] #[]] 78)).alloc (.cells #[.int .i64 0] 3)).alloc (.cells #[.int .i64 0] 3)).alloc (.cells #[.int .i64 (-1)] 3)) 9 #[.string s]
    simp only [World.size_alloc] at this
    exact this.alloc _
  have r5 : Row X (w.heap.size + 1 + 1 + 1 + 1 + 1) 9 #[.string sep] := by
    rw [← hX]
    have := Row.new (((((w.alloc (.cells #[.func (.func 68) #[] #[]] 78)).alloc (.cells #[.int .i64 0] 3)).alloc (.cells #[.int .i64 0] 3)).alloc (.cells #[.int .i64 (-1)] 3)).alloc (.cells #[.string s] 9)) 9 #[.string sep]
    simp only [World.size_alloc] at this
    exact this
  have hXL : Below w.heap.size w X := by rw [← hX]; exact ((((((Below.refl _ w).alloc (Nat.le_refl _) _).alloc (by simp) _).alloc (by simp; omega) _).alloc (by simp; omega) _).alloc (by simp; omega) _).alloc (by simp; omega) _
  have hI0 : RInv w (.func (.func 68) #[] #[]) X.heap.size 0 (-1) X := ⟨r0, r1, r2, r3, hXL, Nat.le_refl _⟩
  have HTX := Lib.hid (HT.out.next hXL)
  rw [hX]
  clear hX r0 r1 r2 r3
  obtain ⟨full, hfull⟩ : ∃ f, ptl sep (s.size + 1) s = f := ⟨_, rfl⟩
  have hp := parts_p 11 (by decide) (w.heap.size + 1 + 1 + 1 + 1) (w.heap.size + 1 + 1 + 1 + 1 + 1) s sep hs h0 (fun _ k => (k = w.heap.size + 1 ∨ k = w.heap.size + 1 + 1 ∨ k = w.heap.size + 1 + 1 + 1) ∨ k = X.heap.size + 1) X (cut4 HTX.out) (by omega) (by omega) (r4.cell 0) (r5.cell 0) HTX.out.c
  rw [hfull] at hp HPS
  have HFULL := Lib.hid hfull
  clear hfull
  refine rangeFunc_p (F := Fence.wide) rfl (by decide) (gf := 65) (lb := #[.pointer (some ⟨w.heap.size + 1 + 1 + 1 + 1, 0, none⟩), .pointer (some ⟨w.heap.size + 1 + 1 + 1 + 1 + 1, 0, none⟩)]) rfl trivial (enters_of Tryd.func65 (by kernel_rfl) rfl)
    hp (fun _ => rfl) (fun k hk => by rcases hk with rfl | rfl | rfl <;> first | exact cut4 HTX.out | omega)
    (fun pre Y => ∃ (st : Nat) (ed : Int), RInv w (.func (.func 68) #[] #[]) X.heap.size st ed Y ∧ (∀ xs, rdStep rdD (pre ++ xs) 0 (-1) = rdStep rdD xs st ed) ∧ (-1 ≤ ed ∧ ed ≤ 24) ∧ st ≤ 16777215)
    (fun c _ Y => c = .ret ∧ rdStep rdD full 0 (-1) = 0 ∧ Row Y (w.heap.size + 1) 3 #[.int .i64 0] ∧ Below w.heap.size w Y ∧ X.heap.size ≤ Y.heap.size)
    ?oI ?oIx ⟨0, -1, hI0, fun _ => rfl, ⟨by omega, by omega⟩, by omega⟩ ?hno (fun _ _ _ _ _ _ _ _ hk => hk)
    (fun _ x a' _ => ∃ (z10 z11 z0 z1 z2 z3 z4 z12 z13 z14 z15 z16 z17 z18 z19 z20 z21 z22 z23 z24 z25 z26 z27 z28 z29 z30 z31 z32 z33 z34 z35 z36 : Value), a' = { tmps := #[z0, z1, z2, z3, z4, .pointer (some ⟨w.heap.size, 0, none⟩), .pointer (some ⟨w.heap.size + 1, 0, none⟩), .pointer (some ⟨w.heap.size + 1 + 1, 0, none⟩), .pointer (some ⟨w.heap.size + 1 + 1 + 1, 0, none⟩), .string x, z10, z11, z12, z13, z14, z15, z16, z17, z18, z19, z20, z21, z22, z23, z24, z25, z26, z27, z28, z29, z30, z31, z32, z33, z34, z35, z36], defers := [] }) (fun _ _ _ _ _ _ _ hs _ _ => hs) ?assign ?body ?done ?stop
  case oI =>
    rintro pre Y Z row ⟨st, ed, h1, h2, h3, h4⟩ hg hr
    exact ⟨st, ed, ⟨h1.f.turn hg hr, h1.r.turn hg hr, h1.s.turn hg hr, h1.e.turn hg hr, h1.b.grown hg h1.b.size (fun k e => by have := (hr k e).1; omega), Nat.le_trans h1.n hg.size⟩, h2, h3, h4⟩
  case oIx =>
    rintro c pre Y Z row ⟨rfl, h1, h2, h3, h4⟩ hg hr
    exact ⟨rfl, h1, h2.turn hg hr, h3.grown hg h3.size (fun k e => by have := (hr k e).1; omega), Nat.le_trans h4 hg.size⟩
  case hno =>
    rintro pre Y k ⟨st, ed, h1, h2, h3, h4⟩ hk
    have hc := cut4 HT.out
    have := h1.n
    exact ⟨by omega, fun h => by omega, .inr (by omega)⟩
  case assign =>
    rintro l' pre x Y K hpre hi hK
    gi_wp2
    exact hK _ _ (RoundK.refl _ _) hi ⟨_, _, _, _, _, _, _, _, _, _, _, _, _, _, _, _, _, _, _, _, _, _, _, _, _, _, _, _, _, _, _, _, rfl⟩
  case body =>
    rintro l' pre x a' Y hl hr hpre ⟨st, ed, h1, h2, h3, h4⟩ ⟨z10, z11, z0, z1, z2, z3, z4, z12, z13, z14, z15, z16, z17, z18, z19, z20, z21, z22, z23, z24, z25, z26, z27, z28, z29, z30, z31, z32, z33, z34, z35, z36, rfl⟩
    have hmem : x ∈ full := by obtain ⟨t, ht⟩ := hpre; rw [← ht]; simp
    have hxs : x.size < 4294967281 := Nat.lt_of_le_of_lt (HPS.out x hmem) hs
    have HWC := Lib.hid (HWW.out x hxs Y (HT.out.next h1.b))
    have hbd := rdD_bd x
    obtain ⟨tl, htl⟩ := hpre
    have hst := h2 (x :: tl)
    have HEQ := Lib.hid (show rdStep rdD full 0 (-1) = rdStep rdD (x :: tl) st ed by rw [← htl, List.append_assoc]; exact hst)
    have HBAD := Lib.hid (fun h => rdStep_bad (rd := rdD) (x := x) (xs := tl) (s := st) (e := ed) h)
    have HOK := Lib.hid (fun (xs : List ByteArray) h => rdStep_ok (rd := rdD) (x := x) (xs := xs) (s := st) (e := ed) h)
    have HPRE := Lib.hid h2
    obtain ⟨fa, hfa⟩ : ∃ fa, (rdD x).1 = fa := ⟨_, rfl⟩
    obtain ⟨fb, hfb⟩ : ∃ fb, (rdD x).2 = fb := ⟨_, rfl⟩
    rw [hfa, hfb] at HWC hbd HBAD HOK
    have k0 := h1.f.cell 0
    have ke := h1.e.cell 0
    have l0 := h1.f.lt
    have l3 := h1.e.lt
    have l1 := h1.r.lt
    have H1 := Lib.hid h1
    clear h1 h2 hst htl hmem hxs hfa hfb
    by_cases c1 : fb ≤ fa
    · have t1 : decide (fb ≤ fa) = true := decide_eq_true c1
      have t1' : decide (fa ≥ fb) = true := decide_eq_true c1
      have HB := Lib.hid (HEQ.out.trans (HBAD.out (.inl c1)))
      gi_wp2_with ((try refine ⟨trivial, ?_⟩); gi_at_call 68; ((with_reducible refine CallsIn.mono (CallsIn.inRound l' (callsIn_wide.2 HWC.out)) ?_); rintro e' w4 ⟨rfl, hb4⟩; have r4 := H1.out.r.below hb4 l1; have g4 := r4.cell 0; have g4f := r4.free 0; have g5 := (hb4.cell (p := ⟨w.heap.size + 1 + 1 + 1, 0, none⟩) l3).trans ke; have H4 := Lib.hid hb4; have HR4 := Lib.hid r4; clear hb4 r4))
      exact ⟨((Keeps.of_below H4.out).trans (Keeps.setCell (no := fun k => (k = w.heap.size + 1 ∨ k = w.heap.size + 1 + 1 ∨ k = w.heap.size + 1 + 1 + 1)) (p := ⟨w.heap.size + 1, 0, none⟩) (.inl rfl) _)), (by first | rfl | trivial), HB.out, HR4.out.put 0 _, (below_to H1.out.b H4.out).setCell (p := ⟨w.heap.size + 1, 0, none⟩) (by dsimp only; omega) _, by have h := H1.out.n; have h2 := H4.out.size; simp [World.setCell]; omega⟩
    · have t1 : decide (fb ≤ fa) = false := decide_eq_false c1
      have t1' : decide (fa ≥ fb) = false := decide_eq_false c1
      have c1' : fa < fb := by omega
      by_cases c2 : fa ≤ ed
      · have t2 : decide (fa ≤ ed) = true := decide_eq_true c2
        have HB := Lib.hid (HEQ.out.trans (HBAD.out (.inr c2)))
        gi_wp2_with ((try refine ⟨trivial, ?_⟩); gi_at_call 68; ((with_reducible refine CallsIn.mono (CallsIn.inRound l' (callsIn_wide.2 HWC.out)) ?_); rintro e' w4 ⟨rfl, hb4⟩; have r4 := H1.out.r.below hb4 l1; have g4 := r4.cell 0; have g4f := r4.free 0; have g5 := (hb4.cell (p := ⟨w.heap.size + 1 + 1 + 1, 0, none⟩) l3).trans ke; have H4 := Lib.hid hb4; have HR4 := Lib.hid r4; clear hb4 r4))
        exact ⟨((Keeps.of_below H4.out).trans (Keeps.setCell (no := fun k => (k = w.heap.size + 1 ∨ k = w.heap.size + 1 + 1 ∨ k = w.heap.size + 1 + 1 + 1)) (p := ⟨w.heap.size + 1, 0, none⟩) (.inl rfl) _)), (by first | rfl | trivial), HB.out, HR4.out.put 0 _, (below_to H1.out.b H4.out).setCell (p := ⟨w.heap.size + 1, 0, none⟩) (by dsimp only; omega) _, by have h := H1.out.n; have h2 := H4.out.size; simp [World.setCell]; omega⟩
      · have t2 : decide (fa ≤ ed) = false := decide_eq_false c2
        have c2' : ed < fa := by omega
        obtain ⟨b1, b2⟩ := hbd c1
        obtain ⟨a, rfl⟩ := Int.eq_ofNat_of_zero_le b1
        obtain ⟨b, rfl⟩ := Int.eq_ofNat_of_zero_le (show 0 ≤ fb by omega)
        have HRUN0 := fun u => run_c a b (by omega) (by omega) u
        have hst2 := or_le24 (s := st) (a := a) (b := b) h4 (by omega)
        have hpw : (2 : Nat) ^ b - 2 ^ a < 2 ^ 62 := Nat.lt_of_le_of_lt (Nat.sub_le _ _) (Nat.pow_lt_pow_right (by decide) (by omega))
        have OR := bits_or64 st (2 ^ b - 2 ^ a) (by omega) hpw
        have hok := fun xs => HOK.out xs (by rintro (h | h) <;> omega)
        rw [Int.toNat_natCast, Int.toNat_natCast] at hok
        obtain ⟨m, hm⟩ : ∃ m, (2 : Nat) ^ b - 2 ^ a = m := ⟨_, rfl⟩
        rw [hm] at HRUN0 hst2 OR hok
        have HOK2 := Lib.hid hok
        have HRUN := Lib.hid HRUN0
        obtain ⟨st2, hs2⟩ : ∃ st2, st ||| m = st2 := ⟨_, rfl⟩
        rw [hs2] at OR hst2
        have HS2 := Lib.hid hs2
        have HST := Lib.hid hst2
        have HAB := Lib.hid (show -1 ≤ (b : Int) ∧ (b : Int) ≤ 24 from ⟨by omega, by omega⟩)
        clear hok HRUN0 hm hpw hs2 hst2 hbd b1 b2
        gi_wp2_with ((try refine ⟨trivial, ?_⟩); gi_at_call 68; ((with_reducible refine CallsIn.mono (CallsIn.inRound l' (callsIn_wide.2 HWC.out)) ?_); rintro e' w4 ⟨rfl, hb4⟩; have r4 := H1.out.r.below hb4 l1; have g4 := r4.cell 0; have g4f := r4.free 0; have g5 := (hb4.cell (p := ⟨w.heap.size + 1 + 1 + 1, 0, none⟩) l3).trans ke; have H4 := Lib.hid hb4; have HR4 := Lib.hid r4; clear hb4 r4))
        have HR1 : Hid (RInv w (.func (.func 68) #[] #[]) X.heap.size st ed w4) := Lib.hid ⟨H1.out.f.below H4.out l0, HR4.out, H1.out.s.below H4.out H1.out.s.lt, H1.out.e.below H4.out l3, below_to H1.out.b H4.out, Nat.le_trans H1.out.n H4.out.size⟩
        have HLB := Lib.hid (And.intro HR1.out.s.lt HR1.out.e.lt)
        have ks := HR1.out.s.cell 0
        have gs := HR1.out.s.free 0
        have ge := HR1.out.e.free 0
        have HFI := Lib.hid (fun w5 (hb5 : Below w4.heap.size w4 w5) => read_round (w := w) (n0 := X.heap.size) (st2 := st2) (ed2 := (b : Int)) H1.out H4.out hb5)
        have HXS := Lib.hid (show ∀ xs, rdStep rdD (pre ++ [x] ++ xs) 0 (-1) = rdStep rdD xs st2 (b : Int) from fun xs => by rw [List.append_assoc]; exact (HPRE.out (x :: xs)).trans ((HOK2.out xs).trans (by rw [HS2.out])))
        clear t1 t1' t2 c1 c1' c2 c2' g4 g4f
        refine region_round (S := fun _ => True) (by kernel_rfl) (by kernel_rfl) (fun ⟨_, _, h⟩ => h) trivial (fun hHeld => ?_)
        refine wpAnyH_take (i := 1) (oi := _) (v := ?_) rfl (by kernel_rfl) (by kernel_rfl) (by kernel_rfl) (fun _ _ _ h => h) (Or.inl ⟨by rfl, ?_⟩) (by assumption) ?_
        rotate_left
        · (intro w hSw; (try dsimp only at hSw); go_simp; all_goals (with_reducible rfl))
        (try simp only [Act.put])
        refine wpAnyH_take (i := 2) (oi := _) (v := ?_) rfl (by kernel_rfl) (by kernel_rfl) (by kernel_rfl) (fun _ _ _ h => h) (Or.inl ⟨by rfl, ?_⟩) (by assumption) ?_
        rotate_left
        · (intro w hSw; (try dsimp only at hSw); go_simp; all_goals (with_reducible rfl))
        (try simp only [Act.put])
        refine wpAnyH_take (i := 5) (oi := _) (v := ?_) rfl (by kernel_rfl) (by kernel_rfl) (by kernel_rfl) (fun _ _ _ h => h) (Or.inl ⟨by rfl, ?_⟩) (by assumption) ?_
        rotate_left
        · (intro w hSw; (try dsimp only at hSw); go_simp; all_goals (with_reducible rfl))
        (try simp only [Act.put])
        refine wpAnyH_ready (rs := [0, 3]) (by kernel_rfl) (by simp) ?_
        refine AllReadyH.cons (o := _) rfl (fun K hK => ?_) ?_
        · go_simp
          refine hK.out _ _ ?_ (fun hHeld => ?_)
          · (try dsimp only)
            all_goals trivial
          clear hK K
          (try simp only [Act.put, List.setIfInBounds_toArray, List.set_cons_zero, List.set_cons_succ])
          refine wpAnyH_ready (rs := [3]) (by kernel_rfl) (by simp) ?_
          refine AllReadyH.cons (o := _) rfl (fun K hK => ?_) ?_
          · go_simp
            (go_at_call 56; ((with_reducible refine Calls.mono (HRUN.out _) ?_); rintro e w5 ⟨rfl, hb5⟩))
            have ks5 : w5.cell? ⟨w.heap.size + 1 + 1, 0, none⟩ = some (.int .i64 (st : Int)) := (hb5.cell (p := ⟨w.heap.size + 1 + 1, 0, none⟩) HLB.out.1).trans ks
            have ke5 : w5.cell? ⟨w.heap.size + 1 + 1 + 1, 0, none⟩ = some (.int .i64 ed) := (hb5.cell (p := ⟨w.heap.size + 1 + 1 + 1, 0, none⟩) HLB.out.2).trans g5
            have gs5 := ((show Row w4.drew _ _ _ from HR1.out.s).below hb5 HLB.out.1).free 0
            have ge5 := ((show Row w4.drew _ _ _ from HR1.out.e).below hb5 HLB.out.2).free 0
            have H5 := Lib.hid hb5
            clear hb5
            refine hK.out _ _ ?_ (fun hHeld => ?_)
            · (try dsimp only)
              all_goals trivial
            clear hK K
            (try simp only [Act.put, List.setIfInBounds_toArray, List.set_cons_zero, List.set_cons_succ])
            refine wpAnyH_take (i := 4) (oi := _) (v := ?_) rfl (by kernel_rfl) (by kernel_rfl) (by kernel_rfl) (fun _ _ _ h => h) (Or.inl ⟨by rfl, ?_⟩) (by assumption) ?_
            rotate_left
            · (intro w hSw; (try dsimp only at hSw); go_simp; all_goals (with_reducible rfl))
            (try simp only [Act.put])
            refine wpAnyH_ready (rs := [6]) (by kernel_rfl) (by simp) ?_
            refine AllReadyH.cons (o := _) rfl (fun K hK => ?_) ?_
            · go_simp
              refine hK.out _ _ ?_ (fun hHeld => ?_)
              · (try dsimp only)
                all_goals trivial
              clear hK K
              (try simp only [Act.put, List.setIfInBounds_toArray, List.set_cons_zero, List.set_cons_succ])
              refine wpAnyH_ready (rs := [7]) (by kernel_rfl) (by simp) ?_
              refine AllReadyH.cons (o := _) rfl (fun K hK => ?_) ?_
              · go_simp
                refine hK.out _ _ ?_ (fun hHeld => ?_)
                · (try dsimp only)
                  all_goals trivial
                clear hK K
                (try simp only [Act.put, List.setIfInBounds_toArray, List.set_cons_zero, List.set_cons_succ])
                refine wpAnyH_done (by kernel_rfl) ?_ _
                gi_wp2
                have hb5 : Below w4.heap.size w4 w5 := (Below.refl _ w4).drew.trans H5.out
                obtain ⟨g1, g2⟩ := HFI.out _ hb5
                exact ⟨g1, _, _, g2, HXS.out, HAB.out, HST.out⟩
              exact AllReadyH.nil
            exact AllReadyH.nil
          exact AllReadyH.nil
        refine AllReadyH.cons (o := _) rfl (fun K hK => ?_) ?_
        · go_simp
          (go_at_call 56; ((with_reducible refine Calls.mono (HRUN.out _) ?_); rintro e w5 ⟨rfl, hb5⟩))
          have ks5 : w5.cell? ⟨w.heap.size + 1 + 1, 0, none⟩ = some (.int .i64 (st : Int)) := (hb5.cell (p := ⟨w.heap.size + 1 + 1, 0, none⟩) HLB.out.1).trans ks
          have ke5 : w5.cell? ⟨w.heap.size + 1 + 1 + 1, 0, none⟩ = some (.int .i64 ed) := (hb5.cell (p := ⟨w.heap.size + 1 + 1 + 1, 0, none⟩) HLB.out.2).trans g5
          have gs5 := ((show Row w4.drew _ _ _ from HR1.out.s).below hb5 HLB.out.1).free 0
          have ge5 := ((show Row w4.drew _ _ _ from HR1.out.e).below hb5 HLB.out.2).free 0
          have H5 := Lib.hid hb5
          clear hb5
          refine hK.out _ _ ?_ (fun hHeld => ?_)
          · (try dsimp only)
            all_goals trivial
          clear hK K
          (try simp only [Act.put, List.setIfInBounds_toArray, List.set_cons_zero, List.set_cons_succ])
          refine wpAnyH_ready (rs := [0]) (by kernel_rfl) (by simp) ?_
          refine AllReadyH.cons (o := _) rfl (fun K hK => ?_) ?_
          · go_simp
            refine hK.out _ _ ?_ (fun hHeld => ?_)
            · (try dsimp only)
              all_goals trivial
            clear hK K
            (try simp only [Act.put, List.setIfInBounds_toArray, List.set_cons_zero, List.set_cons_succ])
            refine wpAnyH_take (i := 4) (oi := _) (v := ?_) rfl (by kernel_rfl) (by kernel_rfl) (by kernel_rfl) (fun _ _ _ h => h) (Or.inl ⟨by rfl, ?_⟩) (by assumption) ?_
            rotate_left
            · (intro w hSw; (try dsimp only at hSw); go_simp; all_goals (with_reducible rfl))
            (try simp only [Act.put])
            refine wpAnyH_ready (rs := [6]) (by kernel_rfl) (by simp) ?_
            refine AllReadyH.cons (o := _) rfl (fun K hK => ?_) ?_
            · go_simp
              refine hK.out _ _ ?_ (fun hHeld => ?_)
              · (try dsimp only)
                all_goals trivial
              clear hK K
              (try simp only [Act.put, List.setIfInBounds_toArray, List.set_cons_zero, List.set_cons_succ])
              refine wpAnyH_ready (rs := [7]) (by kernel_rfl) (by simp) ?_
              refine AllReadyH.cons (o := _) rfl (fun K hK => ?_) ?_
              · go_simp
                refine hK.out _ _ ?_ (fun hHeld => ?_)
                · (try dsimp only)
                  all_goals trivial
                clear hK K
                (try simp only [Act.put, List.setIfInBounds_toArray, List.set_cons_zero, List.set_cons_succ])
                refine wpAnyH_done (by kernel_rfl) ?_ _
                gi_wp2
                have hb5 : Below w4.heap.size w4 w5 := (Below.refl _ w4).drew.trans H5.out
                obtain ⟨g1, g2⟩ := HFI.out _ hb5
                exact ⟨g1, _, _, g2, HXS.out, HAB.out, HST.out⟩
              exact AllReadyH.nil
            exact AllReadyH.nil
          exact AllReadyH.nil
        exact AllReadyH.nil
  case done =>
    rintro D Y rfl ⟨st, ed, h1, h2, h3, h4⟩ hD
    have ks := h1.s.cell 0
    have hr := h1.r.cell 0
    have hrf := h1.r.free 0
    have l1 := h1.r.lt
    have hfin := h2 []
    rw [List.append_nil] at hfin
    have HF := Lib.hid (show rdStep rdD full 0 (-1) = st from hfin)
    have HH := Lib.hid h1
    have HDD := Lib.hid hD
    clear h1 h2 hfin hD
    gi_wp2
    have hD2 : (Y.setCell ⟨w.heap.size + 1, 0, none⟩ (.int .i64 (st : Int))).heap[X.heap.size]? = some (.deferred (some [])) := (Below.heap_setCell _ _ _ _ (by dsimp only; omega)).trans HDD.out
    refine ⟨by simp, .inl ⟨_, _, rfl, run_takeDeferred hD2, ?_⟩⟩
    have hrow := HH.out.r.put 0 (.int .i64 (st : Int))
    have hbb := HH.out.b.setCell (p := ⟨w.heap.size + 1, 0, none⟩) (by dsimp only; omega) (.int .i64 (st : Int))
    exact ⟨_, results_int rfl _ _ (w.heap.size + 1) (st : Int) rfl (hrow.grown (grownBy_putObj' _ _ _) (fun r e => by cases e; omega)), by rw [HFULL.out, HF.out], hbb.trans (belowK_b (w := w) (Nat.le_refl _) _ _ _ _ (by omega) hD2 rfl rfl)⟩
  case stop =>
    rintro D c pre Y rfl hpre ⟨rfl, h1, h2, h3, h4⟩ hD
    gi_wp2
    refine ⟨by simp, .inl ⟨_, _, rfl, run_takeDeferred hD, ?_⟩⟩
    exact ⟨_, results_int rfl _ _ (w.heap.size + 1) 0 rfl (h2.grown (grownBy_putObj' _ _ _) (fun r e => by cases e; omega)), by rw [HFULL.out, h1]; rfl, h3.trans (belowK_b (w := w) (Nat.le_refl _) _ _ _ _ (by omega) hD rfl rfl)⟩
end Go.Proofs.YtmfpaankkoaoaaaDoor
