/- Cut. -/
import Derived.Test.YtnmhigjannihgaaKf
namespace Go.Proofs.Ytnmhigjannihgaa
open Go.RowKit Go.Shelf
attribute [local go_sem] Oper.semAt_some
attribute [local go_sem ↓] append_appN

theorem own_turn {w w' : World} {B : Nat} {row : Option Nat} {base : Nat} {e : TypeId} {size n : Nat} {v : Value} {xs : List Value} (h : w.ownsRow base e size v n xs) (hg : w.grownBy w' row) (hr : ∀ r, row = some r → B ≤ r ∧ ∃ o : Obj, w.heap[r]? = some o ∧ o.isCells = false) : w'.ownsRow base e size v n xs := by
  refine own_keep h (fun k hk => ?_)
  rcases h.2 with ⟨rfl, _⟩ | ⟨g, cap, cur, rfl, hB, hh, _⟩
  · cases hk
  · cases hk
    refine hg.block _ (Array.getElem?_eq_some_iff.1 hh).1 (fun e => ?_)
    obtain ⟨-, o, h1, h2⟩ := hr _ e.symm
    rw [hh] at h1; cases h1; cases h2
theorem row_turn {w w' : World} {B g : Nat} {row : Option Nat} {t : TypeId} {cs : Array Value} (h : Row w g t cs) (hg : w.grownBy w' row) (hr : ∀ r, row = some r → B ≤ r ∧ ∃ o : Obj, w.heap[r]? = some o ∧ o.isCells = false) : Row w' g t cs :=
  (hg.block _ h.lt (fun e => by
    obtain ⟨-, o, h1, h2⟩ := hr _ e.symm
    rw [show w.heap[g]? = _ from h] at h1; cases h1; cases h2)).trans h
theorem row_turnN {no : World → Nat → Prop} {w w' : World} {B g : Nat} {row : Option Nat} {t : TypeId} {cs : Array Value} (h : Row w g t cs) (hg : w.grownBy w' row) (hr : Turns no B w row) (hn : no w g ∨ g < B) : Row w' g t cs :=
  (turn_block hg hr h rfl hn).trans h
theorem results_ce {fn : Func} {p q : Tmp} (h : fn.results = #[.cell p 26, .cell q 32]) (tmps : Array Value) (w : World) (g g' : Nat) (v u : Value) (hp : tmps.getD p undef = .pointer (some ⟨g, 0, none⟩)) (hq : tmps.getD q undef = .pointer (some ⟨g', 0, none⟩)) (hg : Row w g 26 #[v]) (hg' : Row w g' 32 #[u]) :
    (results fn tmps).run Try.prog w = .ok (.tuple #[v, u]) w := by
  have hp' : tmps[p]?.getD undef = .pointer (some ⟨g, 0, none⟩) := by simpa using hp
  have hq' : tmps[q]?.getD undef = .pointer (some ⟨g', 0, none⟩) := by simpa using hq
  have y0 : w.cell? ⟨g, 0, none⟩ = some v := hg.cell 0
  have y1 : w.cell? ⟨g', 0, none⟩ = some u := hg'.cell 0
  simp [results, h, hp', hq', asAddr, go_sem, y0, y1]
/-- The cut that is found. -/
def cutV (i : ItemP) (length : Int) : Option (List Nat) := if validI i then (cutsL i.trims.length).find? (fun c => decide (lenI i c = length)) else none
/-- What the loop of Cut knows. -/
structure CuIn (w : World) (i : ItemP) (length : Int) (B : Nat) (pre : List (List Nat)) (Y : World) : Prop where
  r1 : Row Y (w.heap.size + 1) 3 #[.int .i64 length]
  r2 : Row Y (w.heap.size + 1 + 1) 26 #[.slice none 0 0]
  r3 : Row Y (w.heap.size + 1 + 1 + 1) 32 #[.int .i64 0]
  b : Below w.heap.size w Y
  s : B ≤ Y.heap.size
  n : ∀ c ∈ pre, lenI i c ≠ length
structure CuX (w : World) (i : ItemP) (length : Int) (B : Nat) (pre : List (List Nat)) (Y : World) : Prop where
  ex : ∃ (p : List (List Nat)) (c : List Nat) (A : Option Addr) (cp : Nat), pre = p ++ [c] ∧ lenI i c = length ∧ (∀ d ∈ p, lenI i d ≠ length) ∧ Row Y (w.heap.size + 1 + 1) 26 #[.slice A c.length cp] ∧ Y.ownsRow B 3 1 (.slice A c.length cp) c.length (iv1 (zi c))
  r3 : Row Y (w.heap.size + 1 + 1 + 1) 32 #[.int .i64 0]
  b : Below w.heap.size w Y
  s : B ≤ Y.heap.size
abbrev noC (w : World) (_ : World) (k : Nat) : Prop := k = w.heap.size + 1 + 1 ∨ k = w.heap.size + 1 + 1 + 1
theorem find_first {p : List Nat → Bool} : ∀ {l a : List (List Nat)} {c : List Nat} {r : List (List Nat)}, l = a ++ c :: r → (∀ d ∈ a, p d = false) → p c = true → l.find? p = some c
  | _, [], c, r, rfl, _, hc => by simp [hc]
  | _, d :: a, c, r, rfl, ha, hc => by
    have h1 := ha d (by simp)
    rw [List.cons_append, List.find?_cons, h1]
    exact find_first rfl (fun e he => ha e (by simp [he])) hc
set_option maxRecDepth 100000 in
set_option maxHeartbeats 8000000 in
theorem cut_any' (i : ItemP) (length : Int) (A1 A2 : Option Addr) (n1 c1 n2 c2 : Nat) (w : World) (hr : ItAt i A1 n1 c1 A2 n2 c2 w.heap.size w) :
    Calls Try.prog 20 #[.agg #[.int .i64 i.id, .int .i64 i.kind, .int .i64 i.len, .slice A1 n1 c1, .slice A2 n2 c2, .int .i64 i.artist, .int .i64 i.tempo, .int .i64 i.lang], .int .i64 length] w fun e w' => ∃ A n c, e = .returned (.tuple #[.slice A n c, .int .i64 (if (cutV i length).isSome then 0 else 70)]) ∧ Recs enc1 1 w' w'.heap.size (.slice A n c) (zi ((cutV i length).getD [])) ∧ Below w.heap.size w w' := by
  have HV := Lib.hid (fun u (hu : Below w.heap.size w u) => valid_any i A1 A2 n1 c1 n2 c2 u (hr.next hu))
  have HCC := Lib.hid (fun u => cuts_call i A1 A2 n1 c1 n2 c2 u)
  have HIT := Lib.hid hr
  have HCV : Hid (cutV i length = if validI i then (cutsL i.trims.length).find? (fun c => decide (lenI i c = length)) else none) := Lib.hid rfl
  have HCE := Lib.hid (fun (hi : validI i = true) (n : Nat) (hn : 2 ≤ n) Bi B0 no u => cuts_e n hn Bi B0 i hi A1 A2 n1 c1 n2 c2 no u)
  have R0 : Hid (Row ((((w.alloc (.cells #[.int .i64 i.id, .int .i64 i.kind, .int .i64 i.len, .slice A1 n1 c1, .slice A2 n2 c2, .int .i64 i.artist, .int .i64 i.tempo, .int .i64 i.lang] 24)).alloc (.cells #[.int .i64 length] 3)).alloc (.cells #[.slice none 0 0] 26)).alloc (.cells #[.int .i64 0] 32)) w.heap.size 24 #[.int .i64 i.id, .int .i64 i.kind, .int .i64 i.len, .slice A1 n1 c1, .slice A2 n2 c2, .int .i64 i.artist, .int .i64 i.tempo, .int .i64 i.lang]) := Lib.hid ((((Row.new _ _ _).alloc _).alloc _).alloc _)
  have R1 : Hid (Row ((((w.alloc (.cells #[.int .i64 i.id, .int .i64 i.kind, .int .i64 i.len, .slice A1 n1 c1, .slice A2 n2 c2, .int .i64 i.artist, .int .i64 i.tempo, .int .i64 i.lang] 24)).alloc (.cells #[.int .i64 length] 3)).alloc (.cells #[.slice none 0 0] 26)).alloc (.cells #[.int .i64 0] 32)) (w.heap.size + 1) 3 #[.int .i64 length]) := Lib.hid (by
    have h := Row.new (w.alloc (.cells #[.int .i64 i.id, .int .i64 i.kind, .int .i64 i.len, .slice A1 n1 c1, .slice A2 n2 c2, .int .i64 i.artist, .int .i64 i.tempo, .int .i64 i.lang] 24)) 3 #[.int .i64 length]
    simp only [World.size_alloc] at h
    exact (h.alloc _).alloc _)
  have R2 : Hid (Row ((((w.alloc (.cells #[.int .i64 i.id, .int .i64 i.kind, .int .i64 i.len, .slice A1 n1 c1, .slice A2 n2 c2, .int .i64 i.artist, .int .i64 i.tempo, .int .i64 i.lang] 24)).alloc (.cells #[.int .i64 length] 3)).alloc (.cells #[.slice none 0 0] 26)).alloc (.cells #[.int .i64 0] 32)) (w.heap.size + 1 + 1) 26 #[.slice none 0 0]) := Lib.hid (by
    have h := Row.new ((w.alloc (.cells #[.int .i64 i.id, .int .i64 i.kind, .int .i64 i.len, .slice A1 n1 c1, .slice A2 n2 c2, .int .i64 i.artist, .int .i64 i.tempo, .int .i64 i.lang] 24)).alloc (.cells #[.int .i64 length] 3)) 26 #[.slice none 0 0]
    simp only [World.size_alloc] at h
    exact h.alloc _)
  have R3 : Hid (Row ((((w.alloc (.cells #[.int .i64 i.id, .int .i64 i.kind, .int .i64 i.len, .slice A1 n1 c1, .slice A2 n2 c2, .int .i64 i.artist, .int .i64 i.tempo, .int .i64 i.lang] 24)).alloc (.cells #[.int .i64 length] 3)).alloc (.cells #[.slice none 0 0] 26)).alloc (.cells #[.int .i64 0] 32)) (w.heap.size + 1 + 1 + 1) 32 #[.int .i64 0]) := Lib.hid (by
    have h := Row.new (((w.alloc (.cells #[.int .i64 i.id, .int .i64 i.kind, .int .i64 i.len, .slice A1 n1 c1, .slice A2 n2 c2, .int .i64 i.artist, .int .i64 i.tempo, .int .i64 i.lang] 24)).alloc (.cells #[.int .i64 length] 3)).alloc (.cells #[.slice none 0 0] 26)) 32 #[.int .i64 0]
    simp only [World.size_alloc] at h
    exact h)
  have HB0 : Hid (Below w.heap.size w ((((w.alloc (.cells #[.int .i64 i.id, .int .i64 i.kind, .int .i64 i.len, .slice A1 n1 c1, .slice A2 n2 c2, .int .i64 i.artist, .int .i64 i.tempo, .int .i64 i.lang] 24)).alloc (.cells #[.int .i64 length] 3)).alloc (.cells #[.slice none 0 0] 26)).alloc (.cells #[.int .i64 0] 32))) := Lib.hid (((((Below.refl _ w).alloc (Nat.le_refl _) _).alloc (by simp) _).alloc (by simp <;> omega) _).alloc (by simp <;> omega) _)
  refine (callsIn_wide (n := 12)).1 ?_
  refine callsIn_of_wp_marks Try.func20 rfl trivial ?_ rfl
  simp only [Try.ntmps20, List.size_toArray, List.length_cons, List.length_nil, Nat.reduceAdd, Nat.reduceSub, Array.replicate_succ, Array.replicate_zero, List.push_toArray, List.append_toArray, List.nil_append, List.cons_append]
  cases hvi : validI i with
  | false =>
    rw [hvi] at HV HCV
    have HE : Hid (cutV i length = none) := Lib.hid (HCV.out.trans (by simp))
    clear HCC HCE hr HCV
    rw [HE.out]
    gi_wp2_with ((refine ⟨trivial, ?_⟩; gi_at_call 12; ((with_reducible refine CallsIn.mono (callsIn_wide.2 (HV.out _ HB0.out)) ?_); rintro e' u1 ⟨rfl, hb1⟩; have HB1 := Lib.hid (below_to HB0.out hb1); have rb := R0.out.below hb1 R0.out.lt; have RB1 := Lib.hid (R1.out.below hb1 R1.out.lt); have RB2 := Lib.hid (R2.out.below hb1 R2.out.lt); have RB3 := Lib.hid (R3.out.below hb1 R3.out.lt); have b_0 := rb.cell 0; have b_1 := rb.cell 1; have b_2 := rb.cell 2; have b_3 := rb.cell 3; have b_4 := rb.cell 4; have b_5 := rb.cell 5; have b_6 := rb.cell 6; have b_7 := rb.cell 7; have lb := rb.lt; have q2 := RB2.out.cell 0; have f2 := RB2.out.free 0; have q3 := RB3.out.cell 0; have f3 := RB3.out.free 0; have l2 := RB2.out.lt; have l3 := RB3.out.lt; clear hb1 rb)))
    exact ⟨_, results_ce rfl _ _ (w.heap.size + 1 + 1) (w.heap.size + 1 + 1 + 1) _ _ rfl rfl ((RB2.out.put 0 _).far (by simp) _) ((RB3.out.far (by simp) _).put 0 _), _, _, _, rfl, recs_nil _ _ _ _, (HB1.out.setCell (p := ⟨w.heap.size + 1 + 1, 0, none⟩) (by dsimp only; omega) _).setCell (p := ⟨w.heap.size + 1 + 1 + 1, 0, none⟩) (by dsimp only; omega) _⟩
  | true =>
    have HVI := Lib.hid hvi
    rw [hvi] at HV HCV
    have HE : Hid (cutV i length = (cutsL i.trims.length).find? (fun c => decide (lenI i c = length))) := Lib.hid (HCV.out.trans (by simp))
    obtain ⟨ev, hev⟩ : ∃ ev : Int, (if (cutV i length).isSome then 0 else 70) = ev := ⟨_, rfl⟩
    have HEV := Lib.hid hev
    rw [hev]
    clear hr hvi HCV hev
    gi_wp2_with (first | (refine ⟨trivial, ?_⟩; gi_at_call 12; ((with_reducible refine CallsIn.mono (callsIn_wide.2 (HV.out _ HB0.out)) ?_); rintro e' u1 ⟨rfl, hb1⟩; have HB1 := Lib.hid (below_to HB0.out hb1); have rb := R0.out.below hb1 R0.out.lt; have RB1 := Lib.hid (R1.out.below hb1 R1.out.lt); have RB2 := Lib.hid (R2.out.below hb1 R2.out.lt); have RB3 := Lib.hid (R3.out.below hb1 R3.out.lt); have b_0 := rb.cell 0; have b_1 := rb.cell 1; have b_2 := rb.cell 2; have b_3 := rb.cell 3; have b_4 := rb.cell 4; have b_5 := rb.cell 5; have b_6 := rb.cell 6; have b_7 := rb.cell 7; have lb := rb.lt; have q2 := RB2.out.cell 0; have f2 := RB2.out.free 0; have q3 := RB3.out.cell 0; have f3 := RB3.out.free 0; have l2 := RB2.out.lt; have l3 := RB3.out.lt; clear hb1 rb)) | (refine ⟨trivial, ?_⟩; gi_at_call 45; ((with_reducible refine CallsIn.mono (callsIn_wide.2 (HCC.out _)) ?_); rintro e' w3 ⟨rfl, rfl⟩)))
    obtain ⟨X, hX⟩ : ∃ X, u1.alloc (.cells #[.int .i64 i.id, .int .i64 i.kind, .int .i64 i.len, .slice A1 n1 c1, .slice A2 n2 c2, .int .i64 i.artist, .int .i64 i.tempo, .int .i64 i.lang] 24) = X := ⟨_, rfl⟩
    have hsX : X.heap.size = u1.heap.size + 1 := by rw [← hX]; simp
    have HXI : Hid (Row X u1.heap.size 24 #[.int .i64 i.id, .int .i64 i.kind, .int .i64 i.len, .slice A1 n1 c1, .slice A2 n2 c2, .int .i64 i.artist, .int .i64 i.tempo, .int .i64 i.lang]) := Lib.hid (by rw [← hX]; exact Row.new _ _ _)
    have HXL : Hid (Below w.heap.size w X) := Lib.hid (by rw [← hX]; exact HB1.out.alloc HB1.out.size _)
    have X1 : Hid (CuIn w i length X.heap.size [] X) := Lib.hid (by
      have h1 := RB1.out.alloc (.cells #[.int .i64 i.id, .int .i64 i.kind, .int .i64 i.len, .slice A1 n1 c1, .slice A2 n2 c2, .int .i64 i.artist, .int .i64 i.tempo, .int .i64 i.lang] 24); have h2 := RB2.out.alloc (.cells #[.int .i64 i.id, .int .i64 i.kind, .int .i64 i.len, .slice A1 n1 c1, .slice A2 n2 c2, .int .i64 i.artist, .int .i64 i.tempo, .int .i64 i.lang] 24); have h3 := RB3.out.alloc (.cells #[.int .i64 i.id, .int .i64 i.kind, .int .i64 i.len, .slice A1 n1 c1, .slice A2 n2 c2, .int .i64 i.artist, .int .i64 i.tempo, .int .i64 i.lang] 24)
      rw [hX] at h1 h2 h3
      exact ⟨h1, h2, h3, HXL.out, Nat.le_refl _, fun c hc => by cases hc⟩)
    have hsw := HB1.out.size
    rw [hX]
    clear hX b_0 b_1 b_2 b_3 b_4 b_5 b_6 b_7 q2 q3 f2 f3
    have HIT2 : Hid (ItAt i A1 n1 c1 A2 n2 c2 w.heap.size X) := Lib.hid ⟨HIT.out.t.below HXL.out, HIT.out.k.below HXL.out⟩
    refine rangeFunc_e (F := Fence.wide) rfl (by decide) (gf := 65) (lb := #[.pointer (some ⟨u1.heap.size, 0, none⟩)]) rfl trivial (enters_of Try.func65 (by kernel_rfl) rfl)
      (HCE.out HVI.out 11 (by decide) u1.heap.size w.heap.size (fun Y k => noC w Y k ∨ k = X.heap.size + 1) X HXI.out HIT2.out (by omega)) (fun _ _ _ ⟨_, _, h, _⟩ => by rw [h]; rfl) (fun k hk => by rcases hk with rfl | hk <;> omega)
      (fun pre Y => CuIn w i length X.heap.size pre Y) (fun c pre Y => c = .ret ∧ CuX w i length X.heap.size pre Y) ?oI ?oIx X1.out ?hno (fun _ _ _ _ _ _ _ _ hk => hk)
      (fun _ x a' Y => ∃ (A : Option Addr) (cp : Nat) (z0 z1 z8 z9 z10 z11 z12 z13 z14 z15 z16 z17 z18 : Value), a' = { tmps := #[z0, z1, .pointer (some ⟨w.heap.size, 0, none⟩), .pointer (some ⟨w.heap.size + 1, 0, none⟩), .pointer (some ⟨w.heap.size + 1 + 1, 0, none⟩), .pointer (some ⟨w.heap.size + 1 + 1 + 1, 0, none⟩), .slice A x.length cp, .int .i64 (lenI i x), z8, z9, z10, z11, z12, z13, z14, z15, z16, z17, z18], defers := [] } ∧ Y.ownsRow X.heap.size 3 1 (.slice A x.length cp) x.length (iv1 (zi x))) ?hAx ?assign ?body ?done ?stop
    case oI =>
      rintro pre Y Z row h hg hr
      exact ⟨row_turnN h.r1 hg hr (.inr (by omega)), row_turnN h.r2 hg hr (.inl (.inl rfl)), row_turnN h.r3 hg hr (.inl (.inr rfl)), h.b.grown hg h.b.size (fun r e => by have := (hr r e).1; omega), Nat.le_trans h.s hg.size, h.n⟩
    case oIx =>
      rintro c pre Y Z row ⟨hc, h⟩ hg hr
      obtain ⟨p, d, A, cp, h1, h2, h3, h4, h5⟩ := h.ex
      exact ⟨hc, ⟨p, d, A, cp, h1, h2, h3, row_turn h4 hg hr, own_turn h5 hg hr⟩, row_turn h.r3 hg hr, h.b.grown hg h.b.size (fun r e => by have := (hr r e).1; omega), Nat.le_trans h.s hg.size⟩
    case hno =>
      rintro pre Y k h (rfl | rfl)
      · exact ⟨h.r2.lt, fun e => by omega, .inr (by omega)⟩
      · exact ⟨h.r3.lt, fun e => by omega, .inr (by omega)⟩
    case hAx =>
      rintro pre x a' _ Y Z row ⟨A, cp, z0, z1, z8, z9, z10, z11, z12, z13, z14, z15, z16, z17, z18, h1, h2⟩ hg hr
      exact ⟨A, cp, z0, z1, z8, z9, z10, z11, z12, z13, z14, z15, z16, z17, z18, h1, own_turn h2 hg hr⟩
    case assign =>
      rintro l' pre x vs Y K hpre ⟨A, cp, rfl, ho⟩ hi hK
      have HO := Lib.hid ho
      have HI := Lib.hid hi
      clear ho hi
      have HKK := Lib.hid hK
      clear hK
      gi_wp2
      exact HKK.out _ _ (RoundK.refl _ _) HI.out ⟨A, cp, _, _, _, _, _, _, _, _, _, _, _, _, _, rfl, HO.out⟩
    case body =>
      rintro l' pre x a' Y hl hr hpre h ⟨A, cp, z0, z1, z8, z9, z10, z11, z12, z13, z14, z15, z16, z17, z18, rfl, ho⟩
      have q1 := h.r1.cell 0
      have q2 := h.r2.cell 0
      have f2 := h.r2.free 0
      have q3 := h.r3.cell 0
      have f3 := h.r3.free 0
      have l1 := h.r1.lt
      have l2 := h.r2.lt
      have l3 := h.r3.lt
      have HH := Lib.hid h; have HO := Lib.hid ho; have HP := Lib.hid hpre
      clear h ho hpre hr
      by_cases hL : lenI i x = length
      · have HL := Lib.hid hL
        have e1 : (lenI i x == length) = true := by simp [hL]
        obtain ⟨L, hLL⟩ : ∃ L, lenI i x = L := ⟨_, rfl⟩
        rw [hLL] at hL e1 ⊢
        clear hLL
        gi_wp2
        refine ⟨(Keeps.setCell (p := ⟨w.heap.size + 1 + 1, 0, none⟩) (.inl rfl) _).trans (Keeps.setCell (p := ⟨w.heap.size + 1 + 1 + 1, 0, none⟩) (.inr rfl) _), rfl, ⟨pre, x, A, cp, rfl, HL.out, HH.out.n, (HH.out.r2.put 0 _).far (by simp) _, own_keep HO.out (fun k e => ?_)⟩, (HH.out.r3.far (by simp) _).put 0 _, (HH.out.b.setCell (p := ⟨w.heap.size + 1 + 1, 0, none⟩) (by dsimp only; omega) _).setCell (p := ⟨w.heap.size + 1 + 1 + 1, 0, none⟩) (by dsimp only; omega) _, by simp [World.setCell]; exact HH.out.s⟩
        have hk := own_ge HO.out k e
        exact (Below.heap_setCell _ ⟨w.heap.size + 1 + 1 + 1, 0, none⟩ _ k (by dsimp only; omega)).trans (Below.heap_setCell _ ⟨w.heap.size + 1 + 1, 0, none⟩ _ k (by dsimp only; omega))
      · have HL := Lib.hid hL
        have e1 : (lenI i x == length) = false := by simp [hL]
        obtain ⟨L, hLL⟩ : ∃ L, lenI i x = L := ⟨_, rfl⟩
        rw [hLL] at hL e1 ⊢
        clear hLL
        gi_wp2
        exact ⟨RoundK.refl _ _, HH.out.r1, HH.out.r2, HH.out.r3, HH.out.b, HH.out.s, fun c hc => (List.mem_append.1 hc).elim (HH.out.n c) (fun h1 => by rw [List.mem_singleton.1 h1]; exact HL.out)⟩
    case done =>
      rintro D Y rfl h hD
      have q2 := h.r2.cell 0
      have f2 := h.r2.free 0
      have q3 := h.r3.cell 0
      have f3 := h.r3.free 0
      have l2 := h.r2.lt
      have l3 := h.r3.lt
      have HH := Lib.hid h; have HD := Lib.hid hD
      clear h hD
      gi_wp2
      have hD2 : ((Y.setCell ⟨w.heap.size + 1 + 1, 0, none⟩ (.slice none 0 0)).setCell ⟨w.heap.size + 1 + 1 + 1, 0, none⟩ (.int .i64 70)).heap[X.heap.size]? = some (.deferred (some [])) :=
        ((Below.heap_setCell _ ⟨w.heap.size + 1 + 1 + 1, 0, none⟩ _ X.heap.size (by dsimp only; omega)).trans (Below.heap_setCell _ ⟨w.heap.size + 1 + 1, 0, none⟩ _ X.heap.size (by dsimp only; omega))).trans HD.out
      have hn : cutV i length = none := by
        rw [HE.out, List.find?_eq_none]
        intro c hc
        simpa using HH.out.n c hc
      have he := HEV.out
      rw [hn] at he
      have hA : Row ((Y.setCell ⟨w.heap.size + 1 + 1, 0, none⟩ (.slice none 0 0)).setCell ⟨w.heap.size + 1 + 1 + 1, 0, none⟩ (.int .i64 70)) (w.heap.size + 1 + 1) 26 #[.slice none 0 0] := (HH.out.r2.put 0 _).far (by simp) _
      have hB : Row ((Y.setCell ⟨w.heap.size + 1 + 1, 0, none⟩ (.slice none 0 0)).setCell ⟨w.heap.size + 1 + 1 + 1, 0, none⟩ (.int .i64 70)) (w.heap.size + 1 + 1 + 1) 32 #[.int .i64 70] := (HH.out.r3.far (by simp) _).put 0 _
      have hbb : Below w.heap.size w ((Y.setCell ⟨w.heap.size + 1 + 1, 0, none⟩ (.slice none 0 0)).setCell ⟨w.heap.size + 1 + 1 + 1, 0, none⟩ (.int .i64 70)) := (HH.out.b.setCell (p := ⟨w.heap.size + 1 + 1, 0, none⟩) (by dsimp only; omega) _).setCell (p := ⟨w.heap.size + 1 + 1 + 1, 0, none⟩) (by dsimp only; omega) _
      refine ⟨by simp, .inl ⟨_, _, rfl, run_takeDeferred hD2, ?_⟩⟩
      refine ⟨_, results_ce rfl _ _ (w.heap.size + 1 + 1) (w.heap.size + 1 + 1 + 1) _ _ rfl rfl ((World.putObj_heap_other (by omega)).trans hA) ((World.putObj_heap_other (by omega)).trans hB), none, 0, 0, ?_, ?_, hbb.trans (belowK_b (w := w) (Nat.le_refl _) _ _ _ _ (by omega) hD2 rfl rfl)⟩
      · rw [← he]; rfl
      · rw [hn]; exact recs_nil _ _ _ _
    case stop =>
      rintro D c pre Y rfl hpre ⟨rfl, h⟩ hD
      have HH := Lib.hid h; have HD := Lib.hid hD; have HP := Lib.hid hpre
      clear h hD hpre
      gi_wp2
      have hD2 := HD.out
      obtain ⟨p, d, A, cp, h1, h2, h3, h4, h5⟩ := HH.out.ex
      have hn : cutV i length = some d := by
        rw [HE.out]
        obtain ⟨t, ht⟩ := HP.out
        refine find_first (a := p) (r := t) (by rw [← ht, h1]; simp) (fun e he => by simpa using h3 e he) (by simpa using h2)
      have he := HEV.out
      rw [hn] at he
      have hown := own_keep h5 (w' := Y.putObj X.heap.size (.deferred none)) (fun k e => World.putObj_heap_other (fun e2 => by
        rcases h5.2 with ⟨e1, _⟩ | ⟨g, cap, cur, e1, hB, hh, _⟩
        · rw [e1] at e; cases e
        · rw [e1] at e
          have e3 : g = k := Option.some.inj e
          rw [e3, e2, hD2] at hh; cases hh))
      have hbb := HH.out.b.trans (belowK_b (w := w) (Nat.le_refl _) Y X.heap.size _ (.deferred none) (by omega) hD2 rfl rfl)
      have hA : Row (Y.putObj X.heap.size (.deferred none)) (w.heap.size + 1 + 1) 26 #[.slice A d.length cp] := (World.putObj_heap_other (by omega)).trans h4
      have hB : Row (Y.putObj X.heap.size (.deferred none)) (w.heap.size + 1 + 1 + 1) 32 #[.int .i64 0] := (World.putObj_heap_other (by omega)).trans HH.out.r3
      refine ⟨by simp, .inl ⟨_, _, rfl, run_takeDeferred hD2, ?_⟩⟩
      refine ⟨_, results_ce rfl _ _ (w.heap.size + 1 + 1) (w.heap.size + 1 + 1 + 1) _ _ rfl rfl hA hB, A, d.length, cp, ?_, ?_, hbb⟩
      · rw [← he]; rfl
      · rw [hn]; exact ints_own hown (by simp [zi])
end Go.Proofs.Ytnmhigjannihgaa
