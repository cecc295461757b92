/- Lack. -/
import Derived.Test.YtenojfniknjeiaaHt
namespace Go.Proofs.Ytenojfniknjeiaa
open Go.RowKit Go.Shelf
attribute [local go_sem] Oper.semAt_some
attribute [local go_sem ↓] append_appN

theorem ext_lt {n : Nat} : ∀ (m : Nat) (set : List Nat) (first : Nat), (∀ u ∈ set, u < n) → ∀ x ∈ extL n m set first, ∀ u ∈ x, u < n := by
  intro m
  induction m with
  | zero => intro set first h x hx; rw [List.mem_singleton.1 hx]; exact h
  | succ m ih =>
    intro set first h x hx
    obtain ⟨k, hk, hx⟩ := List.mem_flatMap.1 hx
    rw [List.mem_range'_1] at hk
    refine ih (set ++ [k]) (k + 1) (fun u hu => ?_) x hx
    rcases List.mem_append.1 hu with hu | hu
    · exact h u hu
    · rw [List.mem_singleton.1 hu]; omega
theorem sets_lt {n : Nat} : ∀ x ∈ setsL n, ∀ u ∈ x, u < n := fun x hx => by
  obtain ⟨s, -, hx⟩ := List.mem_flatMap.1 hx
  exact ext_lt s [] 0 (fun u hu => by cases hu) x hx
theorem SetE.down {B B' : Nat} {W : World} {x : List Nat} {vs : Array Value} (h : SetE B W x vs) (hB : B' ≤ B) : SetE B' W x vs := by
  obtain ⟨A, c, h1, h2⟩ := h
  exact ⟨A, c, h1, own_lower h2 hB⟩
theorem sets_e (m n : Nat) (hn9 : n ≤ 1000) (bN : Nat) (no : World → Nat → Prop) (w : World) (hN : Row w bN 3 #[.int .i64 (n : Int)]) :
    GivesE Fence.wide m Try.prog 48 #[.pointer (some ⟨bN, 0, none⟩)] (SetE w.heap.size) no (fun k => k = bN) (setsL n) w :=
  fun l J Jx W hW hJ _ hno hng hY h0 => callsIn_wide.2
    (sets1_e n hn9 l bN no J Jx W hJ hng (fun s X k hs hk => ⟨(hno s X k hs hk).1, (hno s X k hs hk).2.1⟩) (fun pre x vs W1 h1 h2 h3 => hY pre x vs W1 h1 (h2.down hW.size) h3) (hN.below hW hN.lt) h0)
theorem results_lk {fn : Func} {p q : Tmp} (h : fn.results = #[.cell p 26, .cell q 4]) (tmps : Array Value) (w : World) (g g' : Nat) (v u : Value) (hp : tmps.getD p undef = .pointer (some ⟨g, 0, none⟩)) (hq : tmps.getD q undef = .pointer (some ⟨g', 0, none⟩)) (hg : Row w g 26 #[v]) (hg' : Row w g' 4 #[u]) :
    (results fn tmps).run Try.prog w = .ok (.tuple #[v, u]) w := by
  have hp' : tmps[p]?.getD undef = .pointer (some ⟨g, 0, none⟩) := by simpa using hp
  have hq' : tmps[q]?.getD undef = .pointer (some ⟨g', 0, none⟩) := by simpa using hq
  have y0 : w.cell? ⟨g, 0, none⟩ = some v := hg.cell 0
  have y1 : w.cell? ⟨g', 0, none⟩ = some u := hg'.cell 0
  simp [results, h, hp', hq', asAddr, go_sem, y0, y1]
/-- The set that lacks plays. -/
def lackV (l : List Gr) (U : List Us) : Option (List Nat) := if validG l && validU U then (setsL U.length).find? (lackB l U) else none
/-- What the loop of Lack knows. -/
structure LaIn (w : World) (l : List Gr) (U : List Us) (vl vu : Value) (B : Nat) (pre : List (List Nat)) (Y : World) : Prop where
  r0 : Row Y w.heap.size 22 #[vl]
  r1 : Row Y (w.heap.size + 1) 23 #[vu]
  r2 : Row Y (w.heap.size + 1 + 1) 26 #[.slice none 0 0]
  r3 : Row Y (w.heap.size + 1 + 1 + 1) 4 #[.bool false]
  b : Below w.heap.size w Y
  s : B ≤ Y.heap.size
  n : ∀ c ∈ pre, lackB l U c = false
structure LaX (w : World) (l : List Gr) (U : List Us) (B : Nat) (pre : List (List Nat)) (Y : World) : Prop where
  ex : ∃ (p : List (List Nat)) (c : List Nat) (A : Option Addr) (cp : Nat), pre = p ++ [c] ∧ lackB l U c = true ∧ (∀ d ∈ p, lackB l U d = false) ∧ Row Y (w.heap.size + 1 + 1) 26 #[.slice A c.length cp] ∧ OwnN Y B (.slice A c.length cp) c
  r3 : Row Y (w.heap.size + 1 + 1 + 1) 4 #[.bool true]
  b : Below w.heap.size w Y
  s : B ≤ Y.heap.size
abbrev noC (w : World) (_ : World) (k : Nat) : Prop := k = w.heap.size + 1 + 1 ∨ k = w.heap.size + 1 + 1 + 1
theorem find_first {p : List Nat → Bool} : ∀ {l a : List (List Nat)} {c : List Nat} {r : List (List Nat)}, l = a ++ c :: r → (∀ d ∈ a, p d = false) → p c = true → l.find? p = some c
  | _, [], c, r, rfl, _, hc => by simp [hc]
  | _, d :: a, c, r, rfl, ha, hc => by
    have h1 := ha d (by simp)
    rw [List.cons_append, List.find?_cons, h1]
    exact find_first rfl (fun e he => ha e (by simp [he])) hc
set_option maxRecDepth 100000 in
set_option maxHeartbeats 8000000 in
theorem Lack_any (l : List Gr) (U : List Us) (A A2 : Option Addr) (n c n2 c2 : Nat) (w : World) (hl : Recs encG 6 w w.heap.size (.slice A n c) l) (hu : Recs encU 4 w w.heap.size (.slice A2 n2 c2) U) :
    Calls Try.prog 23 #[.slice A n c, .slice A2 n2 c2] w fun e w' => ∃ A' n' c', e = .returned (.tuple #[.slice A' n' c', .bool (lackV l U).isSome]) ∧ Recs enc1 1 w' w'.heap.size (.slice A' n' c') (zi ((lackV l U).getD [])) ∧ Below w.heap.size w w' := by
  obtain ⟨hn2, -, -⟩ := recs_cap hu
  subst hn2
  have HG := Lib.hid (fun u (h : Below w.heap.size w u) => Valid_any l A n c u (hl.next h))
  have HV := Lib.hid (fun u (h : Below w.heap.size w u) => ValidUses_any U A2 U.length c2 u (hu.next h))
  have HCC := Lib.hid (fun u => sets_call U.length u)
  have HCV : Hid (lackV l U = if validG l && validU U then (setsL U.length).find? (lackB l U) else none) := Lib.hid rfl
  have HLL := Lib.hid hl
  have HUU := Lib.hid hu
  have R0 : Hid (Row ((((w.alloc (.cells #[.slice A n c] 22)).alloc (.cells #[.slice A2 U.length c2] 23)).alloc (.cells #[.slice none 0 0] 26)).alloc (.cells #[.bool false] 4)) w.heap.size 22 #[.slice A n c]) := Lib.hid ((((Row.new _ _ _).alloc _).alloc _).alloc _)
  have R1 : Hid (Row ((((w.alloc (.cells #[.slice A n c] 22)).alloc (.cells #[.slice A2 U.length c2] 23)).alloc (.cells #[.slice none 0 0] 26)).alloc (.cells #[.bool false] 4)) (w.heap.size + 1) 23 #[.slice A2 U.length c2]) := Lib.hid (by
    have h := Row.new (w.alloc (.cells #[.slice A n c] 22)) 23 #[.slice A2 U.length c2]
    simp only [World.size_alloc] at h
    exact (h.alloc _).alloc _)
  have R2 : Hid (Row ((((w.alloc (.cells #[.slice A n c] 22)).alloc (.cells #[.slice A2 U.length c2] 23)).alloc (.cells #[.slice none 0 0] 26)).alloc (.cells #[.bool false] 4)) (w.heap.size + 1 + 1) 26 #[.slice none 0 0]) := Lib.hid (by
    have h := Row.new ((w.alloc (.cells #[.slice A n c] 22)).alloc (.cells #[.slice A2 U.length c2] 23)) 26 #[.slice none 0 0]
    simp only [World.size_alloc] at h
    exact h.alloc _)
  have R3 : Hid (Row ((((w.alloc (.cells #[.slice A n c] 22)).alloc (.cells #[.slice A2 U.length c2] 23)).alloc (.cells #[.slice none 0 0] 26)).alloc (.cells #[.bool false] 4)) (w.heap.size + 1 + 1 + 1) 4 #[.bool false]) := Lib.hid (by
    have h := Row.new (((w.alloc (.cells #[.slice A n c] 22)).alloc (.cells #[.slice A2 U.length c2] 23)).alloc (.cells #[.slice none 0 0] 26)) 4 #[.bool false]
    simp only [World.size_alloc] at h
    exact h)
  have HB0 : Hid (Below w.heap.size w ((((w.alloc (.cells #[.slice A n c] 22)).alloc (.cells #[.slice A2 U.length c2] 23)).alloc (.cells #[.slice none 0 0] 26)).alloc (.cells #[.bool false] 4))) := Lib.hid (((((Below.refl _ w).alloc (Nat.le_refl _) _).alloc (by simp) _).alloc (by simp <;> omega) _).alloc (by simp <;> omega) _)
  refine (callsIn_wide (n := 12)).1 ?_
  refine callsIn_of_wp_marks Try.func23 rfl trivial ?_ rfl
  simp only [Try.ntmps23, List.size_toArray, List.length_cons, List.length_nil, Nat.reduceAdd, Nat.reduceSub, Array.replicate_succ, Array.replicate_zero, List.push_toArray, List.append_toArray, List.nil_append, List.cons_append]
  cases hvg : validG l with
  | false =>
    rw [hvg] at HG HCV
    have HE : Hid (lackV l U = none) := Lib.hid (HCV.out.trans (by simp))
    clear HCC HCV hl hu HV hvg
    rw [HE.out]
    gi_wp2_with (first | (refine ⟨trivial, ?_⟩; gi_at_call 13; ((with_reducible refine CallsIn.mono (callsIn_wide.2 (HG.out _ HB0.out)) ?_); rintro e' u1 ⟨rfl, hb1⟩; have HB1 := Lib.hid (below_to HB0.out hb1); have P0 := Lib.hid (R0.out.below hb1 R0.out.lt); have P1 := Lib.hid (R1.out.below hb1 R1.out.lt); have P2 := Lib.hid (R2.out.below hb1 R2.out.lt); have P3 := Lib.hid (R3.out.below hb1 R3.out.lt); have Pq0 := P0.out.cell 0; have Pq1 := P1.out.cell 0; have Pq2 := P2.out.cell 0; have Pq3 := P3.out.cell 0; have Pf2 := P2.out.free 0; have Pf3 := P3.out.free 0; have Pl0 := P0.out.lt; have Pl1 := P1.out.lt; have Pl2 := P2.out.lt; have Pl3 := P3.out.lt; clear hb1)) | (refine ⟨trivial, ?_⟩))
    exact ⟨_, results_lk rfl _ _ (w.heap.size + 1 + 1) (w.heap.size + 1 + 1 + 1) _ _ rfl rfl ((P2.out.put 0 _).far (by simp) _) ((P3.out.far (by simp) _).put 0 _), _, _, _, rfl, recs_nil _ _ _ _, (HB1.out.setCell (p := ⟨w.heap.size + 1 + 1, 0, none⟩) (by dsimp only; omega) _).setCell (p := ⟨w.heap.size + 1 + 1 + 1, 0, none⟩) (by dsimp only; omega) _⟩
  | true =>
    cases hvu : validU U with
    | false =>
      rw [hvg] at HG HCV
      rw [hvu] at HV HCV
      have HE : Hid (lackV l U = none) := Lib.hid (HCV.out.trans (by simp))
      clear HCC HCV hl hu hvg hvu
      rw [HE.out]
      gi_wp2_with (first | (refine ⟨trivial, ?_⟩; gi_at_call 13; ((with_reducible refine CallsIn.mono (callsIn_wide.2 (HG.out _ HB0.out)) ?_); rintro e' u1 ⟨rfl, hb1⟩; have HB1 := Lib.hid (below_to HB0.out hb1); have P0 := Lib.hid (R0.out.below hb1 R0.out.lt); have P1 := Lib.hid (R1.out.below hb1 R1.out.lt); have P2 := Lib.hid (R2.out.below hb1 R2.out.lt); have P3 := Lib.hid (R3.out.below hb1 R3.out.lt); have Pq0 := P0.out.cell 0; have Pq1 := P1.out.cell 0; have Pq2 := P2.out.cell 0; have Pq3 := P3.out.cell 0; have Pf2 := P2.out.free 0; have Pf3 := P3.out.free 0; have Pl0 := P0.out.lt; have Pl1 := P1.out.lt; have Pl2 := P2.out.lt; have Pl3 := P3.out.lt; clear hb1)) | (refine ⟨trivial, ?_⟩; gi_at_call 15; ((with_reducible refine CallsIn.mono (callsIn_wide.2 (HV.out _ HB1.out)) ?_); rintro e' u2 ⟨rfl, hb2⟩; have HB2 := Lib.hid (below_to HB1.out hb2); have S0 := Lib.hid (P0.out.below hb2 P0.out.lt); have S1 := Lib.hid (P1.out.below hb2 P1.out.lt); have S2 := Lib.hid (P2.out.below hb2 P2.out.lt); have S3 := Lib.hid (P3.out.below hb2 P3.out.lt); have Sq0 := S0.out.cell 0; have Sq1 := S1.out.cell 0; have Sq2 := S2.out.cell 0; have Sq3 := S3.out.cell 0; have Sf2 := S2.out.free 0; have Sf3 := S3.out.free 0; have Sl0 := S0.out.lt; have Sl1 := S1.out.lt; have Sl2 := S2.out.lt; have Sl3 := S3.out.lt; clear hb2)))
      exact ⟨_, results_lk rfl _ _ (w.heap.size + 1 + 1) (w.heap.size + 1 + 1 + 1) _ _ rfl rfl ((S2.out.put 0 _).far (by simp) _) ((S3.out.far (by simp) _).put 0 _), _, _, _, rfl, recs_nil _ _ _ _, (HB2.out.setCell (p := ⟨w.heap.size + 1 + 1, 0, none⟩) (by dsimp only; omega) _).setCell (p := ⟨w.heap.size + 1 + 1 + 1, 0, none⟩) (by dsimp only; omega) _⟩
    | true =>
      have hvg2 := hvg; have hvu2 := hvu
      unfold validG at hvg2; unfold validU at hvu2
      simp only [Bool.and_eq_true, decide_eq_true_eq, List.all_eq_true] at hvg2 hvu2
      have h12 := hvg2.1
      have h10 := hvu2.1
      have hP : ∀ g ∈ l, 0 ≤ g.plays ∧ g.plays ≤ 100 := fun g hg => by
        have h := hvg2.2 g hg
        unfold okG at h
        simp only [Bool.and_eq_true, decide_eq_true_eq] at h
        omega
      have hU8 : ∀ u ∈ U, 0 ≤ u.region ∧ u.region ≤ 7 := fun u hu => by
        have h := hvu2.2 u hu
        unfold okU at h
        simp only [Bool.and_eq_true, decide_eq_true_eq] at h
        omega
      have HLK := Lib.hid (fun (x : List Nat) (hx : x ∈ setsL U.length) Ab cp u (hb : Below w.heap.size w u) ho => lacks_any l hP h12 U hU8 x (sets_lt x hx) A A2 Ab n c U.length c2 x.length cp u (hl.next hb) (hu.next hb) ho)
      have H10 := Lib.hid h10
      rw [hvg] at HG HCV
      rw [hvu] at HV HCV
      have HE : Hid (lackV l U = (setsL U.length).find? (lackB l U)) := Lib.hid (HCV.out.trans (by simp))
      obtain ⟨ev, hev⟩ : ∃ ev : Bool, (lackV l U).isSome = ev := ⟨_, rfl⟩
      have HEV := Lib.hid hev
      rw [hev]
      have u0 : (0 : Int) ≤ (U.length : Int) := by omega
      have u9 : (U.length : Int) ≤ 10 := by omega
      clear hl hu hvg hvu HCV hev hvg2 hvu2 h12 h10 hP hU8
      gi_wp2_with (first | (refine ⟨trivial, ?_⟩; gi_at_call 13; ((with_reducible refine CallsIn.mono (callsIn_wide.2 (HG.out _ HB0.out)) ?_); rintro e' u1 ⟨rfl, hb1⟩; have HB1 := Lib.hid (below_to HB0.out hb1); have P0 := Lib.hid (R0.out.below hb1 R0.out.lt); have P1 := Lib.hid (R1.out.below hb1 R1.out.lt); have P2 := Lib.hid (R2.out.below hb1 R2.out.lt); have P3 := Lib.hid (R3.out.below hb1 R3.out.lt); have Pq0 := P0.out.cell 0; have Pq1 := P1.out.cell 0; have Pq2 := P2.out.cell 0; have Pq3 := P3.out.cell 0; have Pf2 := P2.out.free 0; have Pf3 := P3.out.free 0; have Pl0 := P0.out.lt; have Pl1 := P1.out.lt; have Pl2 := P2.out.lt; have Pl3 := P3.out.lt; clear hb1)) | (refine ⟨trivial, ?_⟩; gi_at_call 15; ((with_reducible refine CallsIn.mono (callsIn_wide.2 (HV.out _ HB1.out)) ?_); rintro e' u2 ⟨rfl, hb2⟩; have HB2 := Lib.hid (below_to HB1.out hb2); have S0 := Lib.hid (P0.out.below hb2 P0.out.lt); have S1 := Lib.hid (P1.out.below hb2 P1.out.lt); have S2 := Lib.hid (P2.out.below hb2 P2.out.lt); have S3 := Lib.hid (P3.out.below hb2 P3.out.lt); have Sq0 := S0.out.cell 0; have Sq1 := S1.out.cell 0; have Sq2 := S2.out.cell 0; have Sq3 := S3.out.cell 0; have Sf2 := S2.out.free 0; have Sf3 := S3.out.free 0; have Sl0 := S0.out.lt; have Sl1 := S1.out.lt; have Sl2 := S2.out.lt; have Sl3 := S3.out.lt; clear hb2)) | (refine ⟨trivial, ?_⟩; gi_at_call 40; ((with_reducible refine CallsIn.mono (callsIn_wide.2 (HCC.out _)) ?_); rintro e' w3 ⟨rfl, rfl⟩)))
      obtain ⟨X, hX⟩ : ∃ X, u2.alloc (.cells #[.int .i64 (U.length : Int)] 3) = X := ⟨_, rfl⟩
      have hsX : X.heap.size = u2.heap.size + 1 := by rw [← hX]; simp
      have HXI : Hid (Row X u2.heap.size 3 #[.int .i64 (U.length : Int)]) := Lib.hid (by rw [← hX]; exact Row.new _ _ _)
      have HXL : Hid (Below w.heap.size w X) := Lib.hid (by rw [← hX]; exact HB2.out.alloc HB2.out.size _)
      have X1 : Hid (LaIn w l U (.slice A n c) (.slice A2 U.length c2) X.heap.size [] X) := Lib.hid (by
        have h0 := S0.out.alloc (.cells #[.int .i64 (U.length : Int)] 3); have h1 := S1.out.alloc (.cells #[.int .i64 (U.length : Int)] 3); have h2 := S2.out.alloc (.cells #[.int .i64 (U.length : Int)] 3); have h3 := S3.out.alloc (.cells #[.int .i64 (U.length : Int)] 3)
        rw [hX] at h0 h1 h2 h3
        exact ⟨h0, h1, h2, h3, HXL.out, Nat.le_refl _, fun c hc => by cases hc⟩)
      have hsw := HB2.out.size
      rw [hX]
      clear hX Pq0 Pq1 Pq2 Pq3 Pf2 Pf3 Sq0 Sq1 Sq2 Sq3 Sf2 Sf3 Pl0 Pl1 Pl2 Pl3
      refine rangeFunc_e (F := Fence.wide) rfl (by decide) (gf := 48) (lb := #[.pointer (some ⟨u2.heap.size, 0, none⟩)]) rfl trivial (enters_of Try.func48 (by kernel_rfl) rfl)
        (sets_e 11 U.length (by omega) u2.heap.size (fun Y k => noC w Y k ∨ k = X.heap.size + 1) X HXI.out) (fun _ _ _ ⟨_, _, h, _⟩ => by rw [h]; rfl) (fun k hk => by rw [hk]; omega)
        (fun pre Y => LaIn w l U (.slice A n c) (.slice A2 U.length c2) X.heap.size pre Y) (fun c pre Y => c = .ret ∧ LaX w l U X.heap.size pre Y) ?oI ?oIx X1.out ?hno (fun _ _ _ _ _ _ _ _ hk => hk)
        (fun _ x a' Y => ∃ (Ab : Option Addr) (cp : Nat) (z0 z1 z7 z8 z9 z10 z11 z12 z13 z14 z15 z16 z17 z18 z19 z20 z21 z22 z23 : Value), a' = { tmps := #[z0, z1, .pointer (some ⟨w.heap.size, 0, none⟩), .pointer (some ⟨w.heap.size + 1, 0, none⟩), .pointer (some ⟨w.heap.size + 1 + 1, 0, none⟩), .pointer (some ⟨w.heap.size + 1 + 1 + 1, 0, none⟩), .slice Ab x.length cp, z7, z8, z9, z10, z11, z12, z13, z14, z15, z16, z17, z18, z19, z20, z21, z22, z23], defers := [] } ∧ OwnN Y X.heap.size (.slice Ab x.length cp) x) ?hAx ?assign ?body ?done ?stop
      case oI =>
        rintro pre Y Z row h hg hr
        exact ⟨row_turnN h.r0 hg hr (.inr (by omega)), row_turnN h.r1 hg hr (.inr (by omega)), row_turnN h.r2 hg hr (.inl (.inl rfl)), row_turnN h.r3 hg hr (.inl (.inr rfl)), h.b.grown hg h.b.size (fun r e => by have := (hr r e).1; omega), Nat.le_trans h.s hg.size, h.n⟩
      case oIx =>
        rintro c pre Y Z row ⟨hc, h⟩ hg hr
        obtain ⟨p, d, A, cp, h1, h2, h3, h4, h5⟩ := h.ex
        exact ⟨hc, ⟨p, d, A, cp, h1, h2, h3, row_turn h4 hg hr, own_turn h5 hg hr⟩, row_turn h.r3 hg hr, h.b.grown hg h.b.size (fun r e => by have := (hr r e).1; omega), Nat.le_trans h.s hg.size⟩
      case hno =>
        rintro pre Y k h (rfl | rfl)
        · exact ⟨h.r2.lt, fun e => by omega, .inr (by omega)⟩
        · exact ⟨h.r3.lt, fun e => by omega, .inr (by omega)⟩
      case hAx =>
        rintro pre x a' _ Y Z row ⟨Ab, cp, z0, z1, z7, z8, z9, z10, z11, z12, z13, z14, z15, z16, z17, z18, z19, z20, z21, z22, z23, h1, h2⟩ hg hr
        exact ⟨Ab, cp, z0, z1, z7, z8, z9, z10, z11, z12, z13, z14, z15, z16, z17, z18, z19, z20, z21, z22, z23, h1, own_turn h2 hg hr⟩
      case assign =>
        rintro l' pre x vs Y K hpre ⟨Ab, cp, rfl, ho⟩ hi hK
        have HO := Lib.hid ho
        have HI := Lib.hid hi
        clear ho hi
        have HKK := Lib.hid hK
        clear hK
        gi_wp2
        exact HKK.out _ _ (RoundK.refl _ _) HI.out ⟨Ab, cp, _, _, _, _, _, _, _, _, _, _, _, _, _, _, _, _, _, _, _, rfl, HO.out⟩
      case body =>
        rintro l' pre x a' Y hl hr hpre h ⟨Ab, cp, z0, z1, z7, z8, z9, z10, z11, z12, z13, z14, z15, z16, z17, z18, z19, z20, z21, z22, z23, rfl, ho⟩
        have q0 := h.r0.cell 0
        have q1 := h.r1.cell 0
        have l0 := h.r0.lt
        have l1 := h.r1.lt
        have hmem : x ∈ setsL U.length := by
          obtain ⟨t, ht⟩ := hpre
          rw [← ht]; simp
        obtain ⟨bb, hbb⟩ : ∃ bb, lackB l U x = bb := ⟨_, rfl⟩
        have HLC := Lib.hid (fun u (hb : Below Y.heap.size Y u) => HLK.out x hmem Ab cp u (below_to h.b hb) (ints_own (own_below ho hb) (zi_len _)))
        have HBB := Lib.hid hbb
        simp only [hbb] at HLC
        have HH := Lib.hid h; have HO := Lib.hid ho; have HP := Lib.hid hpre
        clear h ho hpre hr hmem hbb
        cases bb with
        | true =>
          gi_wp2_with ((refine ⟨trivial, ?_⟩; gi_at_call 41; ((with_reducible refine CallsIn.mono (CallsIn.inRound l' (callsIn_wide.2 (HLC.out _ (by first | exact Below.refl _ _ | exact (Below.refl _ Y).drew)))) ?_); rintro e5 u5 ⟨rfl, hb5⟩; have HB5 : Hid (Below Y.heap.size Y u5) := Lib.hid hb5; have T0 := Lib.hid (HH.out.r0.below HB5.out HH.out.r0.lt); have T1 := Lib.hid (HH.out.r1.below HB5.out HH.out.r1.lt); have T2 := Lib.hid (HH.out.r2.below HB5.out HH.out.r2.lt); have T3 := Lib.hid (HH.out.r3.below HB5.out HH.out.r3.lt); have t2 := T2.out.cell 0; have g2 := T2.out.free 0; have t3 := T3.out.cell 0; have g3 := T3.out.free 0; have k2 := T2.out.lt; have k3 := T3.out.lt; clear hb5)))
          refine ⟨(Keeps.of_below HB5.out).trans ((Keeps.setCell (p := ⟨w.heap.size + 1 + 1, 0, none⟩) (.inl rfl) _).trans (Keeps.setCell (p := ⟨w.heap.size + 1 + 1 + 1, 0, none⟩) (.inr rfl) _)), rfl, ⟨pre, x, Ab, cp, rfl, HBB.out, HH.out.n, (T2.out.put 0 _).far (by simp) _, own_keep (own_below HO.out HB5.out) (fun k e => ?_)⟩, (T3.out.far (by simp) _).put 0 _, ((below_to HH.out.b HB5.out).setCell (p := ⟨w.heap.size + 1 + 1, 0, none⟩) (by dsimp only; omega) _).setCell (p := ⟨w.heap.size + 1 + 1 + 1, 0, none⟩) (by dsimp only; omega) _, by have := HB5.out.size; have := HH.out.s; simp [World.setCell]; omega⟩
          have hk := own_ge HO.out k e
          exact (Below.heap_setCell _ ⟨w.heap.size + 1 + 1 + 1, 0, none⟩ _ k (by dsimp only; omega)).trans (Below.heap_setCell _ ⟨w.heap.size + 1 + 1, 0, none⟩ _ k (by dsimp only; omega))
        | false =>
          gi_wp2_with ((refine ⟨trivial, ?_⟩; gi_at_call 41; ((with_reducible refine CallsIn.mono (CallsIn.inRound l' (callsIn_wide.2 (HLC.out _ (by first | exact Below.refl _ _ | exact (Below.refl _ Y).drew)))) ?_); rintro e5 u5 ⟨rfl, hb5⟩; have HB5 : Hid (Below Y.heap.size Y u5) := Lib.hid hb5; have T0 := Lib.hid (HH.out.r0.below HB5.out HH.out.r0.lt); have T1 := Lib.hid (HH.out.r1.below HB5.out HH.out.r1.lt); have T2 := Lib.hid (HH.out.r2.below HB5.out HH.out.r2.lt); have T3 := Lib.hid (HH.out.r3.below HB5.out HH.out.r3.lt); have t2 := T2.out.cell 0; have g2 := T2.out.free 0; have t3 := T3.out.cell 0; have g3 := T3.out.free 0; have k2 := T2.out.lt; have k3 := T3.out.lt; clear hb5)))
          exact ⟨⟨Keeps.of_below HB5.out, fun k h => .inl h⟩, T0.out, T1.out, T2.out, T3.out, below_to HH.out.b HB5.out, Nat.le_trans HH.out.s HB5.out.size, fun c hc => (List.mem_append.1 hc).elim (HH.out.n c) (fun h1 => by rw [List.mem_singleton.1 h1]; exact HBB.out)⟩
      case done =>
        rintro D Y rfl h hD
        have q2 := h.r2.cell 0
        have f2 := h.r2.free 0
        have q3 := h.r3.cell 0
        have f3 := h.r3.free 0
        have l2 := h.r2.lt
        have l3 := h.r3.lt
        have HH := Lib.hid h; have HD := Lib.hid hD
        clear h hD
        gi_wp2
        have hD2 : ((Y.setCell ⟨w.heap.size + 1 + 1, 0, none⟩ (.slice none 0 0)).setCell ⟨w.heap.size + 1 + 1 + 1, 0, none⟩ (.bool false)).heap[X.heap.size]? = some (.deferred (some [])) :=
          ((Below.heap_setCell _ ⟨w.heap.size + 1 + 1 + 1, 0, none⟩ _ X.heap.size (by dsimp only; omega)).trans (Below.heap_setCell _ ⟨w.heap.size + 1 + 1, 0, none⟩ _ X.heap.size (by dsimp only; omega))).trans HD.out
        have hn : lackV l U = none := by
          rw [HE.out, List.find?_eq_none]
          intro c hc
          simp [HH.out.n c hc]
        have he := HEV.out
        rw [hn] at he
        have hA : Row ((Y.setCell ⟨w.heap.size + 1 + 1, 0, none⟩ (.slice none 0 0)).setCell ⟨w.heap.size + 1 + 1 + 1, 0, none⟩ (.bool false)) (w.heap.size + 1 + 1) 26 #[.slice none 0 0] := (HH.out.r2.put 0 _).far (by simp) _
        have hB : Row ((Y.setCell ⟨w.heap.size + 1 + 1, 0, none⟩ (.slice none 0 0)).setCell ⟨w.heap.size + 1 + 1 + 1, 0, none⟩ (.bool false)) (w.heap.size + 1 + 1 + 1) 4 #[.bool false] := (HH.out.r3.far (by simp) _).put 0 _
        have hbb : Below w.heap.size w ((Y.setCell ⟨w.heap.size + 1 + 1, 0, none⟩ (.slice none 0 0)).setCell ⟨w.heap.size + 1 + 1 + 1, 0, none⟩ (.bool false)) := (HH.out.b.setCell (p := ⟨w.heap.size + 1 + 1, 0, none⟩) (by dsimp only; omega) _).setCell (p := ⟨w.heap.size + 1 + 1 + 1, 0, none⟩) (by dsimp only; omega) _
        refine ⟨by simp, .inl ⟨_, _, rfl, run_takeDeferred hD2, ?_⟩⟩
        refine ⟨_, results_lk rfl _ _ (w.heap.size + 1 + 1) (w.heap.size + 1 + 1 + 1) _ _ rfl rfl ((World.putObj_heap_other (by omega)).trans hA) ((World.putObj_heap_other (by omega)).trans hB), none, 0, 0, ?_, ?_, hbb.trans (belowK_b (w := w) (Nat.le_refl _) _ _ _ _ (by omega) hD2 rfl rfl)⟩
        · rw [← he]; rfl
        · rw [hn]; exact recs_nil _ _ _ _
      case stop =>
        rintro D c pre Y rfl hpre ⟨rfl, h⟩ hD
        have HH := Lib.hid h; have HD := Lib.hid hD; have HP := Lib.hid hpre
        clear h hD hpre
        gi_wp2
        have hD2 := HD.out
        obtain ⟨p, d, A, cp, h1, h2, h3, h4, h5⟩ := HH.out.ex
        have hn : lackV l U = some d := by
          rw [HE.out]
          obtain ⟨t, ht⟩ := HP.out
          exact find_first (a := p) (r := t) (by rw [← ht, h1]; simp) h3 h2
        have he := HEV.out
        rw [hn] at he
        have hown := own_keep h5 (w' := Y.putObj X.heap.size (.deferred none)) (fun k e => World.putObj_heap_other (fun e2 => by
          rcases h5.2 with ⟨e1, _⟩ | ⟨g, cap, cur, e1, hB, hh, _⟩
          · rw [e1] at e; cases e
          · rw [e1] at e
            have e3 : g = k := Option.some.inj e
            rw [e3, e2, hD2] at hh; cases hh))
        have hbb := HH.out.b.trans (belowK_b (w := w) (Nat.le_refl _) Y X.heap.size _ (.deferred none) (by omega) hD2 rfl rfl)
        have hA : Row (Y.putObj X.heap.size (.deferred none)) (w.heap.size + 1 + 1) 26 #[.slice A d.length cp] := (World.putObj_heap_other (by omega)).trans h4
        have hB : Row (Y.putObj X.heap.size (.deferred none)) (w.heap.size + 1 + 1 + 1) 4 #[.bool true] := (World.putObj_heap_other (by omega)).trans HH.out.r3
        refine ⟨by simp, .inl ⟨_, _, rfl, run_takeDeferred hD2, ?_⟩⟩
        refine ⟨_, results_lk rfl _ _ (w.heap.size + 1 + 1) (w.heap.size + 1 + 1 + 1) _ _ rfl rfl hA hB, A, d.length, cp, ?_, ?_, hbb⟩
        · rw [← he]; rfl
        · rw [hn]; exact ints_own hown (zi_len _)
end Go.Proofs.Ytenojfniknjeiaa
