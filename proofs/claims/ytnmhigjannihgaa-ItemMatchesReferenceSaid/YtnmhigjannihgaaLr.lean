/- The lengths of the cuts by bits, put in order one by one. The reference's Lengths. At most six of a list; few. Both sides of each function of package item give the same named results. -/
import Derived.Test.YtnmhigjannihgaaLn
/- The lengths of the cuts by bits, put in order one by one. -/
namespace Go.Proofs.Ytnmhigjannihgaa

/-- The lengths of the first m cuts. -/
structure LnI (i : ItemP) (m : Nat) (l : List Int) : Prop where
  asc : Asc l
  mem : ∀ x, x ∈ l ↔ ∃ z, z < m ∧ lenI i (bitsL i.trims.length z) = x
  len : l.length ≤ m
theorem LnI.start (i : ItemP) : LnI i 0 [] := ⟨List.Pairwise.nil, fun x => ⟨fun h => (by cases h), fun h => (by obtain ⟨z, h, _⟩ := h; omega)⟩, Nat.le_refl _⟩
theorem LnI.there {i : ItemP} {m : Nat} {l : List Int} (h : LnI i m l) (hm : lenI i (bitsL i.trims.length m) ∈ l) : LnI i (m + 1) l :=
  ⟨h.asc, fun x => by
    rw [h.mem]
    constructor
    · rintro ⟨z, hz, e⟩
      exact ⟨z, by omega, e⟩
    · rintro ⟨z, hz, e⟩
      by_cases h2 : z = m
      · subst h2
        rw [e] at hm
        exact (h.mem x).1 hm
      · exact ⟨z, by omega, e⟩, Nat.le_succ_of_le h.len⟩
theorem LnI.put {i : ItemP} {m : Nat} {l : List Int} (h : LnI i m l) {k : Nat} (h1 : ∀ j x, l[j]? = some x → j < k → x < lenI i (bitsL i.trims.length m)) (h2 : ∀ j x, l[j]? = some x → k ≤ j → lenI i (bitsL i.trims.length m) < x) : LnI i (m + 1) (l.take k ++ (lenI i (bitsL i.trims.length m) :: l.drop k)) := by
  have hlo : ∀ x ∈ l.take k, x < lenI i (bitsL i.trims.length m) := fun x hx => by
    obtain ⟨j, hj, e⟩ := List.getElem_of_mem hx
    rw [List.length_take] at hj
    rw [List.getElem_take] at e
    exact h1 j x (by rw [List.getElem?_eq_getElem (by omega), e]) (by omega)
  have hhi : ∀ x ∈ l.drop k, lenI i (bitsL i.trims.length m) < x := fun x hx => by
    obtain ⟨j, hj, e⟩ := List.getElem_of_mem hx
    rw [List.length_drop] at hj
    rw [List.getElem_drop] at e
    exact h2 (k + j) x (by rw [List.getElem?_eq_getElem (by omega), e]) (by omega)
  refine ⟨?_, fun x => ?_, by have := h.len; rw [List.length_append, List.length_cons, List.length_take, List.length_drop]; omega⟩
  · refine List.pairwise_append.2 ⟨h.asc.sublist (List.take_sublist _ _), List.pairwise_cons.2 ⟨hhi, h.asc.sublist (List.drop_sublist _ _)⟩, fun a ha b hb => ?_⟩
    have h3 := hlo a ha
    rcases List.mem_cons.1 hb with rfl | hb
    · exact h3
    · have := hhi b hb; omega
  · have hml : x ∈ l.take k ++ (lenI i (bitsL i.trims.length m) :: l.drop k) ↔ x = lenI i (bitsL i.trims.length m) ∨ x ∈ l := by
      rw [List.mem_append, List.mem_cons]
      constructor
      · rintro (a | a | a)
        · exact .inr (List.mem_of_mem_take a)
        · exact .inl a
        · exact .inr (List.mem_of_mem_drop a)
      · rintro (a | a)
        · exact .inr (.inl a)
        · rw [← List.take_append_drop k l] at a
          rcases List.mem_append.1 a with a | a
          · exact .inl a
          · exact .inr (.inr a)
    rw [hml, h.mem]
    constructor
    · rintro (e | ⟨z, hz, e⟩)
      · exact ⟨m, by omega, e.symm⟩
      · exact ⟨z, by omega, e⟩
    · rintro ⟨z, hz, e⟩
      by_cases h3 : z = m
      · subst h3; exact .inl e.symm
      · exact .inr ⟨z, by omega, e⟩
theorem LnI.done {i : ItemP} (hi : validI i = true) {l : List Int} (h : LnI i (2 ^ i.trims.length) l) : l = lensV i := by
  have h4 := ((validI_iff i).1 hi).n1
  have hp : 2 ^ i.trims.length ≤ 16 := Nat.pow_le_pow_right (n := 2) (by decide) h4
  have hall := cuts_all ⟨i.trims.length, by omega⟩
  unfold lensV
  rw [if_pos hi]
  refine asc_ext h.asc (sortC_asc _) fun x => ?_
  rw [h.mem, sortC_mem, List.mem_map]
  constructor
  · rintro ⟨z, hz, e⟩
    exact ⟨_, hall.2.1 ⟨z, by omega⟩, e⟩
  · rintro ⟨c, hc, e⟩
    obtain ⟨z, hz, h9⟩ := cuts_bits2 ⟨i.trims.length, by omega⟩ c hc
    exact ⟨z.val, hz, by rw [← e, ← h9]⟩
end Go.Proofs.Ytnmhigjannihgaa

/- The reference's Lengths. -/
namespace Go.Proofs.Ytnmhigjannihgaa
open Go.RowKit Go.Shelf
attribute [local go_sem ↓] append_appN

theorem holdI {u y : World} {g : Nat} {v0 v1 v2 v3 v4 v5 v6 v7 : Value} (hr : Row u g 24 #[v0, v1, v2, v3, v4, v5, v6, v7]) (h : Below u.heap.size u y) : Below u.heap.size u y ∧ y.cell? ⟨g, 0, none⟩ = some v0 ∧ y.cell? ⟨g, 1, none⟩ = some v1 ∧ y.cell? ⟨g, 2, none⟩ = some v2 ∧ y.cell? ⟨g, 3, none⟩ = some v3 ∧ y.cell? ⟨g, 4, none⟩ = some v4 ∧ y.cell? ⟨g, 5, none⟩ = some v5 ∧ y.cell? ⟨g, 6, none⟩ = some v6 ∧ y.cell? ⟨g, 7, none⟩ = some v7 :=
  have k := hr.below h hr.lt
  ⟨h, k.cell 0, k.cell 1, k.cell 2, k.cell 3, k.cell 4, k.cell 5, k.cell 6, k.cell 7⟩
theorem ins_nil (y : World) (N : Int) :
    ∃ A3 c3 w3, Sem.run Try.prog (appN #[26, 26] 26 #[.slice (some ⟨y.heap.size, 0, none⟩) 1 1, .slice none 0 0]) (y.alloc (.cells #[.int .i64 N] 3)).drew = .ok (.slice (some ⟨y.heap.size, 0, none⟩) 1 1) (y.alloc (.cells #[.int .i64 N] 3)).drew ∧
      Sem.run Try.prog (appN #[26, 26] 26 #[.slice none 0 0, .slice (some ⟨y.heap.size, 0, none⟩) 1 1]) (y.alloc (.cells #[.int .i64 N] 3)).drew = .ok (.slice A3 1 c3) w3 ∧
      w3.ownsRow y.heap.size 3 1 (.slice A3 1 c3) 1 (iv1 [N]) ∧ Below y.heap.size y w3 := by
  obtain ⟨i0, hi0, hz0, hz1, hz2⟩ := info_parts infoInt
  have hbW : Below y.heap.size y (y.alloc (.cells #[.int .i64 N] 3)).drew := ((Below.refl _ y).alloc (Nat.le_refl _) _).drew
  have hr : Row (y.alloc (.cells #[.int .i64 N] 3)).drew y.heap.size 3 #[.int .i64 N] := Row.new y 3 _
  obtain ⟨W, hW⟩ : ∃ W, (y.alloc (.cells #[.int .i64 N] 3)).drew = W := ⟨_, rfl⟩
  rw [hW] at hbW hr ⊢
  obtain ⟨v3, w3, run3, own3, g3, -, -⟩ := run_append_own_at (P := Try.prog) (w := W) y.heap.size 26 26 3 i0 (.int .i64 0) 1 8 Try.underlying26 hi0 hz0 hz1 hz2 rfl (by decide)
    (.slice none 0 0) 0 [] (World.ownsRow_nil _ _ _ _) ⟨y.heap.size, 0, none⟩ 1 1 [.int .i64 N] rfl
    (fun j u hj => by
      have hc := hr.cell j
      rw [Addr.add_lit, Nat.zero_add, hc]; simpa using hj)
    (fun u hu => by rw [List.mem_singleton.1 hu]; rfl) (by unfold maxLen; omega) (by omega) hbW.size
  obtain ⟨A3, c3, rfl, -⟩ := own_slice own3
  exact ⟨A3, c3, w3, run_append_nothing (P := Try.prog) W 26 26 26 3 i0 Try.underlying26 hi0 _ 1 1 (Nat.le_refl _) _ (Src.ofNil W Try.underlying26 _), run3, own3, hbW.grown g3 hbW.size (fun r e => by cases e)⟩
theorem own_low {w : World} {B B2 : Nat} {e : TypeId} {size n : Nat} {v : Value} {xs : List Value} (h : w.ownsRow B e size v n xs) (hb : B2 ≤ B) : w.ownsRow B2 e size v n xs :=
  ⟨h.1, h.2.imp id fun ⟨g, cap, cur, h1, h2, h3⟩ => ⟨g, cap, cur, h1, Nat.le_trans hb h2, h3⟩⟩
set_option maxRecDepth 100000 in
theorem ins_run {y : World} {g o n c : Nat} {l : List Int} (hR : Recs enc1 1 y y.heap.size (.slice (some ⟨g, o, none⟩) n c) l) (N : Int) {k c2 : Nat} (a2 : Addr) (hk : k ≤ n) (ha2 : k < n → a2 = ⟨g, o + k, none⟩) (hn : n ≤ 1000) :
    ∃ A1 c1 w1 A3 c3 w3, Sem.run Try.prog (appN #[26, 26] 26 #[.slice (some ⟨y.heap.size, 0, none⟩) 1 1, .slice (some a2) (n - k) c2]) (y.alloc (.cells #[.int .i64 N] 3)).drew = .ok (.slice A1 (1 + (n - k)) c1) w1 ∧
      Sem.run Try.prog (appN #[26, 26] 26 #[.slice (some ⟨g, o, none⟩) k k, .slice A1 (1 + (n - k)) c1]) w1 = .ok (.slice A3 (k + (1 + (n - k))) c3) w3 ∧
      w3.ownsRow y.heap.size 3 1 (.slice A3 (k + (1 + (n - k))) c3) (k + (1 + (n - k))) (iv1 (l.take k ++ N :: l.drop k)) ∧ Below y.heap.size y w3 := by
  obtain ⟨i0, hi0, hz0, hz1, hz2⟩ := info_parts infoInt
  have hl := (recs_cap hR).1
  have h7 : (iv1 (l.take k ++ N :: l.drop k)).length = (k + (1 + (n - k))) * 1 := by
    unfold iv1
    rw [List.length_map, List.length_append, List.length_cons, List.length_take, List.length_drop, ← hl, Nat.min_eq_left hk]
    omega
  obtain ⟨W, hW⟩ : ∃ W, (y.alloc (.cells #[.int .i64 N] 3)).drew = W := ⟨_, rfl⟩
  have hbW : Below y.heap.size y W := by rw [← hW]; exact ((Below.refl _ y).alloc (Nat.le_refl _) _).drew
  have hcell : ∀ {j : Nat} {x : Int}, l[j]? = some x → ∀ {u : World}, Below y.heap.size y u → u.cell? ⟨g, o + j, none⟩ = some (.int .i64 x) := fun {j x} hj {u} hu => by
    obtain ⟨g', o', e, h1, h2⟩ := cell1_at hR hj
    injection e with e
    obtain ⟨rfl, rfl⟩ : g = g' ∧ o = o' := ⟨congrArg Addr.block e, congrArg Addr.off e⟩
    exact (hu.cell (p := ⟨g, o + j, none⟩) h1).trans h2
  have hrow : W.ownsRow y.heap.size 3 1 (.slice (some ⟨y.heap.size, 0, none⟩) 1 1) 1 [.int .i64 N] := by
    rw [← hW]
    exact ⟨rfl, .inr ⟨y.heap.size, 1, _, rfl, Nat.le_refl _, Row.new y 3 _, Nat.le_refl _, by unfold maxLen; omega, rfl, rfl⟩⟩
  have hlen : (iv1 (l.drop k)).length = n - k := by unfold iv1; rw [List.length_map, List.length_drop, hl]
  have hnews : ∀ j u, (iv1 (l.drop k))[j]? = some u → W.cell? (a2.add j) = some u := fun j u hj => by
    have hjl := (List.getElem?_eq_some_iff.1 hj).1
    rw [hlen] at hjl
    rw [ha2 (by omega), Addr.add_lit]
    unfold iv1 at hj
    rw [List.getElem?_map, List.getElem?_drop] at hj
    obtain ⟨x, hx, rfl⟩ := Option.map_eq_some_iff.1 hj
    have := hcell hx hbW
    rwa [← Nat.add_assoc] at this
  have hone : ∀ {l : List Int}, ∀ u ∈ iv1 l, u.oneCell' = true := fun {l} u hu => by
    obtain ⟨x, -, rfl⟩ := List.mem_map.1 hu
    rfl
  have hWs : y.heap.size ≤ W.heap.size := hbW.size
  obtain ⟨v1, w1, run1, own1, g1, -, -⟩ := run_append_own_at (P := Try.prog) (w := W) y.heap.size 26 26 3 i0 (.int .i64 0) 1 8 Try.underlying26 hi0 hz0 hz1 hz2 rfl (by decide)
    _ 1 _ hrow a2 (n - k) c2 (iv1 (l.drop k)) (by rw [hlen, Nat.mul_one]) hnews hone (by unfold maxLen; omega) (by omega) hWs
  obtain ⟨A1, c1, rfl, hc1, -, hA1⟩ := own_slice own1
  have hb1 : Below y.heap.size y w1 := hbW.grown g1 hWs (fun r e => by cases e; exact Nat.le_refl _)
  obtain ⟨g9, rfl, hg9, hg99⟩ : ∃ g, A1 = some ⟨g, 0, none⟩ ∧ y.heap.size ≤ g ∧ g < w1.heap.size := by
    rcases hA1 with ⟨-, h⟩ | h
    · omega
    · exact h
  have hs : Src Try.prog i0.size 26 (.slice (some ⟨g9, 0, none⟩) (1 + (n - k)) c1) (1 + (n - k)) ([.int .i64 N] ++ iv1 (l.drop k)) w1 := by
    refine Src.ofSlice w1 Try.underlying26 _ _ _ _ (by rw [hz1, List.length_append, hlen]; simp) (fun j u hj => ?_) (fun u hu => ?_)
    · rw [Addr.add_lit, Nat.zero_add]
      have := own1.cellAt j (by have := (List.getElem?_eq_some_iff.1 hj).1; rw [List.length_append, hlen] at this; simpa using this)
      rw [this]; exact hj
    · rcases List.mem_append.1 hu with hu | hu
      · rw [List.mem_singleton.1 hu]; rfl
      · exact hone u hu
  have hol : (iv1 (l.take k)).length = k := by unfold iv1; rw [List.length_map, List.length_take]; omega
  have hold : (Builtin.firstCells i0.size k (.slice (some ⟨g, o, none⟩) k k)).run Try.prog w1.drew = .ok (iv1 (l.take k)).toArray w1.drew :=
    run_firstCells_some w1.drew i0.size k _ k k _ (by rw [hz1, hol, Nat.mul_one]) (fun j u hj => by
      rw [Addr.add_lit]
      have hjl := (List.getElem?_eq_some_iff.1 hj).1
      rw [hol] at hjl
      unfold iv1 at hj
      rw [List.getElem?_map, List.getElem?_take, if_pos hjl] at hj
      obtain ⟨x, hx, rfl⟩ := Option.map_eq_some_iff.1 hj
      exact hcell hx hb1.drew)
  have hbb : (k + (1 + (n - k))) * i0.bytes ≤ 140737488355328 := by rw [hz2]; omega
  have hrun := run_append_grow_src (P := Try.prog) w1 26 26 26 3 i0 _ Try.underlying26 hi0 hz0 (some ⟨g, o, none⟩) k k _ hold _ _ _ hs (by omega) (by omega) (growslice_fits (by omega) hbb)
  have hge := grownCap_ge w1 (k + (1 + (n - k))) k 3
  have hle := grownCap_le_maxLen w1 (k + (1 + (n - k))) k 3 (by unfold maxLen; omega)
  obtain ⟨C, hC⟩ : ∃ C, grownCap w1 (k + (1 + (n - k))) k 3 = C := ⟨_, rfl⟩
  rw [hC] at hrun hge hle
  refine ⟨some ⟨g9, 0, none⟩, c1, w1, _, C, _, by rw [hW]; exact run1, hrun, ⟨h7, .inr ⟨w1.heap.size, C, _, rfl, hb1.size, Row.new w1.drew 3 _, hge, hle, ?_, ?_⟩⟩, hb1.drew.alloc hb1.size _⟩
  · rw [Array.size_append, List.size_toArray, size_zeroCells, List.length_append, hol, List.length_append, hlen]
    show k + (1 + (n - k)) + (C - (k + (1 + (n - k)))) * 1 = C * 1
    omega
  · rw [Array.toList_append, List.take_left' (by rw [List.toList_toArray, List.length_append, List.length_append, hol, hlen, Nat.mul_one]; rfl)]
    unfold iv1; simp
set_option maxRecDepth 100000 in
set_option maxHeartbeats 8000000 in
theorem rlengths_any (i : ItemP) (A1 A2 : Option Addr) (n1 c1 n2 c2 : Nat) (w : World) (hr : ItAt i A1 n1 c1 A2 n2 c2 w.heap.size w) :
    Calls Try.prog 15 #[.agg #[.int .i64 i.id, .int .i64 i.kind, .int .i64 i.len, .slice A1 n1 c1, .slice A2 n2 c2, .int .i64 i.artist, .int .i64 i.tempo, .int .i64 i.lang]] w fun e w' => ∃ A n c, e = .returned (.tuple #[.slice A n c, .int .i64 (if validI i then 0 else 70)]) ∧ Recs enc1 1 w' w'.heap.size (.slice A n c) (lensV i) ∧ Below w.heap.size w w' := by
  have l1 := hr.lens.1
  have HVA := Lib.hid (fun u (hu : Below w.heap.size w u) => rvalid_any i A1 A2 n1 c1 n2 c2 u (hr.next hu))
  have HL := Lib.hid l1
  have HLN0 := Lib.hid (fun (z : Nat) (e : lengthV i (zi (bitsL i.trims.length z)) = (lenI i (bitsL i.trims.length z), 0)) u (hu : Below w.heap.size w u) A n c (h3 : Recs enc1 1 u u.heap.size (.slice A n c) (zi (bitsL i.trims.length z))) => e ▸ rlength_any i (zi (bitsL i.trims.length z)) A1 A2 A n1 c1 n2 c2 n c u (hr.next hu) h3)
  have HDN := Lib.hid (fun (hi : validI i = true) l (h : LnI i (2 ^ i.trims.length) l) => h.done hi)
  have HCV : Hid (lensV i = if validI i then sortC ((cutsL i.trims.length).map (lenI i)) else []) := Lib.hid rfl
  have H4 := Lib.hid (fun (hi : validI i = true) => ((validI_iff i).1 hi).n1)
  have HLC := Lib.hid (fun (hi : validI i = true) z (hz : z < 16) => len_cut ((validI_iff i).1 hi) (bits_mem ((validI_iff i).1 hi).n1 hz))
  clear hr
  obtain ⟨id, kind, len, trims, talks, artist, tempo, lang⟩ := i
  dsimp only at *
  have RI := Lib.hid (Row.new w 24 #[.int .i64 id, .int .i64 kind, .int .i64 len, .slice A1 n1 c1, .slice A2 n2 c2, .int .i64 artist, .int .i64 tempo, .int .i64 lang])
  have HB0 := Lib.hid ((Below.refl _ w).alloc (Nat.le_refl _) (.cells #[.int .i64 id, .int .i64 kind, .int .i64 len, .slice A1 n1 c1, .slice A2 n2 c2, .int .i64 artist, .int .i64 tempo, .int .i64 lang] 24))
  obtain ⟨V, hV⟩ : ∃ V, lensV (⟨id, kind, len, trims, talks, artist, tempo, lang⟩ : ItemP) = V := ⟨_, rfl⟩
  rw [hV] at HCV HDN ⊢
  have r0 : (w.alloc (.cells #[.int .i64 id, .int .i64 kind, .int .i64 len, .slice A1 n1 c1, .slice A2 n2 c2, .int .i64 artist, .int .i64 tempo, .int .i64 lang] 24)).cell? ⟨w.heap.size, 0, none⟩ = some (.int .i64 id) := RI.out.cell 0
  have r1 : (w.alloc (.cells #[.int .i64 id, .int .i64 kind, .int .i64 len, .slice A1 n1 c1, .slice A2 n2 c2, .int .i64 artist, .int .i64 tempo, .int .i64 lang] 24)).cell? ⟨w.heap.size, 1, none⟩ = some (.int .i64 kind) := RI.out.cell 1
  have r2 : (w.alloc (.cells #[.int .i64 id, .int .i64 kind, .int .i64 len, .slice A1 n1 c1, .slice A2 n2 c2, .int .i64 artist, .int .i64 tempo, .int .i64 lang] 24)).cell? ⟨w.heap.size, 2, none⟩ = some (.int .i64 len) := RI.out.cell 2
  have r3 : (w.alloc (.cells #[.int .i64 id, .int .i64 kind, .int .i64 len, .slice A1 n1 c1, .slice A2 n2 c2, .int .i64 artist, .int .i64 tempo, .int .i64 lang] 24)).cell? ⟨w.heap.size, 3, none⟩ = some (.slice A1 n1 c1) := RI.out.cell 3
  have r4 : (w.alloc (.cells #[.int .i64 id, .int .i64 kind, .int .i64 len, .slice A1 n1 c1, .slice A2 n2 c2, .int .i64 artist, .int .i64 tempo, .int .i64 lang] 24)).cell? ⟨w.heap.size, 4, none⟩ = some (.slice A2 n2 c2) := RI.out.cell 4
  have r5 : (w.alloc (.cells #[.int .i64 id, .int .i64 kind, .int .i64 len, .slice A1 n1 c1, .slice A2 n2 c2, .int .i64 artist, .int .i64 tempo, .int .i64 lang] 24)).cell? ⟨w.heap.size, 5, none⟩ = some (.int .i64 artist) := RI.out.cell 5
  have r6 : (w.alloc (.cells #[.int .i64 id, .int .i64 kind, .int .i64 len, .slice A1 n1 c1, .slice A2 n2 c2, .int .i64 artist, .int .i64 tempo, .int .i64 lang] 24)).cell? ⟨w.heap.size, 6, none⟩ = some (.int .i64 tempo) := RI.out.cell 6
  have r7 : (w.alloc (.cells #[.int .i64 id, .int .i64 kind, .int .i64 len, .slice A1 n1 c1, .slice A2 n2 c2, .int .i64 artist, .int .i64 tempo, .int .i64 lang] 24)).cell? ⟨w.heap.size, 7, none⟩ = some (.int .i64 lang) := RI.out.cell 7
  have lr := RI.out.lt
  cases hv : validI (⟨id, kind, len, trims, talks, artist, tempo, lang⟩ : ItemP) with
  | false =>
    have HX := Lib.hid (show V = [] by rw [HCV.out, hv]; rfl)
    rw [hv] at HVA
    clear hv HCV hV HDN H4 HLC HLN0 l1 HL
    go_enter Try.func15, Try.ntmps15
    go_wp2_with (first | (go_at_call 13; (with_reducible refine Calls.mono (HVA.out _ HB0.out) ?_); rintro r u1 ⟨rfl, hb⟩; have HB1 := Lib.hid (below_to HB0.out hb); have RI := Lib.hid (RI.out.below hb RI.out.lt); clear r0 r1 r2 r3 r4 r5 r6 r7 lr; have r0 := RI.out.cell 0; have r1 := RI.out.cell 1; have r2 := RI.out.cell 2; have r3 := RI.out.cell 3; have r4 := RI.out.cell 4; have r5 := RI.out.cell 5; have r6 := RI.out.cell 6; have r7 := RI.out.cell 7; have lr := RI.out.lt; clear hb))
    refine bodyPost_ret (results_tmp2 rfl _ _ _) rfl ⟨none, 0, 0, rfl, by rw [HX.out]; exact recs_nil _ _ _ _, HB1.out⟩
  | true =>
    have h4 := H4.out hv
    rw [hv] at HVA
    have HDN := Lib.hid (HDN.out hv)
    have HLC := Lib.hid (HLC.out hv)
    obtain ⟨P, hP⟩ : ∃ P, 2 ^ trims.length = P := ⟨_, rfl⟩
    have hP16 : P ≤ 16 := by rw [← hP]; exact Nat.pow_le_pow_right (n := 2) (by decide) h4
    have hn5 : n1 = 0 ∨ n1 = 1 ∨ n1 = 2 ∨ n1 = 3 ∨ n1 = 4 := by omega
    have hsh : IntKind.i64.wrap ((2 : Int) ^ n1) = (P : Int) := by
      rw [← hP, ← l1]
      rcases hn5 with h | h | h | h | h <;> rw [h] <;> decide
    rw [hP] at HDN
    have h41 : n1 ≤ 4 := by omega
    rw [← l1] at HLN0 HLC
    have HL := Lib.hid l1
    clear hv HCV hV H4 hn5 hP h4 l1
    go_enter Try.func15, Try.ntmps15
    go_wp2_with (first | (go_at_call 13; (with_reducible refine Calls.mono (HVA.out _ HB0.out) ?_); rintro r u1 ⟨rfl, hb⟩; have HB1 := Lib.hid (below_to HB0.out hb); have RI := Lib.hid (RI.out.below hb RI.out.lt); clear r0 r1 r2 r3 r4 r5 r6 r7 lr; have r0 := RI.out.cell 0; have r1 := RI.out.cell 1; have r2 := RI.out.cell 2; have r3 := RI.out.cell 3; have r4 := RI.out.cell 4; have r5 := RI.out.cell 5; have r6 := RI.out.cell 6; have r7 := RI.out.cell 7; have lr := RI.out.lt; clear hb))
    go_loopw [4, 5] (fun v j wr => ∃ (m : Nat) (l : List Int) (A : Option Addr) (c : Nat), j = .int .i64 (m : Int) ∧ m ≤ P ∧ v = .slice A l.length c ∧ Hid (LnI (⟨id, kind, len, trims, talks, artist, tempo, lang⟩ : ItemP) m l) ∧ Hid (wr.ownsRow (w.heap.size + 1) 3 1 (.slice A l.length c) l.length (iv1 l)) ∧ Hid (Row wr w.heap.size 24 #[.int .i64 id, .int .i64 kind, .int .i64 len, .slice A1 n1 c1, .slice A2 n2 c2, .int .i64 artist, .int .i64 tempo, .int .i64 lang]) ∧ Hid (Below w.heap.size w wr)) (fun _ j _ => P - (intOf j).toNat)
    case atStart => exact ⟨0, [], none, 0, rfl, Nat.zero_le _, rfl, Lib.hid (LnI.start _), Lib.hid (World.ownsRow_nil _ _ _ _), RI, HB1⟩
    case round =>
      clear RI r0 r1 r2 r3 r4 r5 r6 r7 lr HVA
      obtain ⟨m, l, A, c, rfl, hm, rfl, HLI, HOW, RI, HB⟩ := hrel
      have m_0 : (0 : Int) ≤ (m : Int) := by omega
      have hll := HLI.out.len
      have r0 : wr.cell? ⟨w.heap.size, 0, none⟩ = some (.int .i64 id) := RI.out.cell 0
      have r1 : wr.cell? ⟨w.heap.size, 1, none⟩ = some (.int .i64 kind) := RI.out.cell 1
      have r2 : wr.cell? ⟨w.heap.size, 2, none⟩ = some (.int .i64 len) := RI.out.cell 2
      have r3 : wr.cell? ⟨w.heap.size, 3, none⟩ = some (.slice A1 n1 c1) := RI.out.cell 3
      have r4 : wr.cell? ⟨w.heap.size, 4, none⟩ = some (.slice A2 n2 c2) := RI.out.cell 4
      have r5 : wr.cell? ⟨w.heap.size, 5, none⟩ = some (.int .i64 artist) := RI.out.cell 5
      have r6 : wr.cell? ⟨w.heap.size, 6, none⟩ = some (.int .i64 tempo) := RI.out.cell 6
      have r7 : wr.cell? ⟨w.heap.size, 7, none⟩ = some (.int .i64 lang) := RI.out.cell 7
      have lr := RI.out.lt
      by_cases hlt : m < P
      · have m_1 : (m : Int) < (P : Int) := by omega
        have hm16 : m < 16 := by omega
        have HBT := Lib.hid (fun u => rbits_any m (by omega) id kind len artist tempo lang A1 A2 n1 c1 n2 c2 (by omega) u)
        have HLN := Lib.hid (HLN0.out m (HLC.out m hm16))
        have hth := HLI.out.there
        have hput := fun (k : Nat) => HLI.out.put (k := k)
        dsimp only at hth hput
        rw [← HL.out] at hth hput
        obtain ⟨N, hN⟩ : ∃ N, lenI (⟨id, kind, len, trims, talks, artist, tempo, lang⟩ : ItemP) (bitsL n1 m) = N := ⟨_, rfl⟩
        rw [hN] at hth hput HLN
        have HTH := Lib.hid hth
        have HPUT := Lib.hid hput
        clear hth hput hN
        go_upto_region 7 with fail
        go_region_held3 (fun y => Below wr.heap.size wr y ∧ y.cell? ⟨w.heap.size, 0, none⟩ = some (.int .i64 id) ∧ y.cell? ⟨w.heap.size, 1, none⟩ = some (.int .i64 kind) ∧ y.cell? ⟨w.heap.size, 2, none⟩ = some (.int .i64 len) ∧ y.cell? ⟨w.heap.size, 3, none⟩ = some (.slice A1 n1 c1) ∧ y.cell? ⟨w.heap.size, 4, none⟩ = some (.slice A2 n2 c2) ∧ y.cell? ⟨w.heap.size, 5, none⟩ = some (.int .i64 artist) ∧ y.cell? ⟨w.heap.size, 6, none⟩ = some (.int .i64 tempo) ∧ y.cell? ⟨w.heap.size, 7, none⟩ = some (.int .i64 lang)) (first | assumption | (exact holdI RI.out (Below.refl _ _).drew)) (first | (go_at_call 48; ((with_reducible refine Calls.mono (HBT.out _) ?_); rintro r w5 ⟨A5, n5, c5, rfl, h5, hb5⟩; have hB5 := below_to (‹Below wr.heap.size wr _ ∧ _›).1 hb5; have hS5 := holdI RI.out hB5)) | (go_at_call 25; ((with_reducible refine Calls.mono (HLN.out _ (below_to HB.out hB5) _ _ _ h5) ?_); rintro r w6 ⟨rfl, hb6⟩; have hB6 := below_to hB5 hb6; have hS6 := holdI RI.out hB6)))
        have HW6 := Lib.hid hB6
        have HO6 := Lib.hid (own_below HOW.out hB6)
        have HR6 := Lib.hid (RI.out.below hB6 RI.out.lt)
        have HL6 := Lib.hid (ints_own (own_below HOW.out hB6) rfl)
        have HB6 := Lib.hid (below_to HB.out hB6)
        have hl16 : l.length ≤ 16 := by omega
        have sz6 := hB6.size
        clear hB5 hS5 hB6 hS6 h5 hb5 hb6 r0 r1 r2 r3 r4 r5 r6 r7 HBT HLN
        go_wp2
        go_loop [8] (fun a => ∃ k : Nat, a = .int .i64 (k : Int) ∧ k ≤ l.length ∧ Hid (∀ j x, l[j]? = some x → j < k → x < N)) (fun a => l.length - (intOf a).toNat)
        case atStart => exact ⟨0, rfl, Nat.zero_le _, Lib.hid (fun j x _ h => by omega)⟩
        case round =>
          obtain ⟨k, rfl, hk, HLO⟩ := hrel
          have k_0 : (0 : Int) ≤ (k : Int) := by omega
          by_cases hkl : k < l.length
          · have k_1 : (k : Int) < (l.length : Int) := by omega
            have HQ := Lib.hid (List.getElem?_eq_getElem hkl)
            obtain ⟨x, hx⟩ : ∃ x, l[k] = x := ⟨_, rfl⟩
            rw [hx] at HQ
            obtain ⟨g, o, hgo, hg, a0⟩ := cell1_at HL6.out HQ.out
            subst hgo
            clear hx
            have e0 : (k == l.length) = false := beq_eq_false_iff_ne.2 (by omega)
            have e9 : ((k : Int) == (l.length : Int)) = false := beq_eq_false_iff_ne.2 (by omega)
            by_cases hxN : x < N
            · have f1 := decide_eq_true hxN
              have HLO2 := Lib.hid (show ∀ j y, l[j]? = some y → j < k + 1 → y < N from fun j y hj h => by
                by_cases e : j = k
                · subst e; rw [HQ.out] at hj; injection hj with hj; omega
                · exact HLO.out j y hj (by omega))
              go_wp2
              go_round
              case rel => exact ⟨k + 1, by go_num, by omega, HLO2⟩
              case measure => simp [intOf]; omega
            · have f1 : decide (x < N) = false := decide_eq_false hxN
              by_cases hxe : x = N
              · have e1 : (x != N) = false := by simp [hxe]
                have HNX := Lib.hid (HTH.out (by rw [← hxe]; exact List.mem_of_getElem? HQ.out))
                clear hxN
                subst hxe
                go_wp2
                go_roundw
                case rel => exact ⟨m + 1, l, _, c, by go_num, by omega, rfl, HNX, HO6, HR6, HB6⟩
                case measure => simp [intOf]; omega
              · have e1 : (x != N) = true := by simp [hxe]
                have HNX := Lib.hid (HPUT.out k HLO.out (fun j y hj h => by
                  by_cases e : j = k
                  · subst e; rw [HQ.out] at hj; injection hj with hj; omega
                  · have h7 := (List.getElem?_eq_some_iff.1 hj).1
                    have h8 := asc_at HLI.out.asc (show k < j by omega) h7
                    have h9 := (List.getElem?_eq_some_iff.1 hj).2
                    have h10 := (List.getElem?_eq_some_iff.1 HQ.out).2
                    omega))
                have hcc : l.length ≤ c ∧ c ≤ maxLen := by obtain ⟨A', c', e, h1, h2, -⟩ := own_slice HO6.out; injection e with e1 e2 e3; subst e3; exact ⟨h1, h2⟩
                have k_2 : k ≤ l.length := by omega
                have k_3 : (k : Int) ≤ (l.length : Int) := by omega
                have k_4 : k ≤ c := by omega
                have k_5 : (k : Int) ≤ (c : Int) := by omega
                have k_6 : (l.length : Int) ≤ (c : Int) := by omega
                obtain ⟨B1, d1, w7, B3, d3, w8, run1, run2, own3, hb3⟩ := ins_run HL6.out N (c2 := c - k) ⟨g, o + k, none⟩ hk (fun _ => rfl) (by omega)
                have hl9 : (l.take k ++ N :: l.drop k).length = k + (1 + (l.length - k)) := by rw [List.length_append, List.length_cons, List.length_take, List.length_drop]; omega
                have HO9 := Lib.hid (own_low own3 (show w.heap.size + 1 ≤ w6.heap.size by have := HR6.out.lt; omega))
                have HR9 := Lib.hid (HR6.out.below hb3 HR6.out.lt)
                have HB9 := Lib.hid (below_to HB6.out hb3)
                have HL9 := Lib.hid hl9
                clear own3 hb3 hl9
                go_wp2
                go_region
                go_wp2
                go_roundw
                case rel => exact ⟨m + 1, _, B3, d3, by go_num, by omega, by rw [HL9.out], HNX, Lib.hid (by rw [HL9.out]; exact HO9.out), HR9, HB9⟩
                case measure => simp [intOf]; omega
          · obtain hkl2 : k = l.length := by omega
            have HNX := Lib.hid (HPUT.out k HLO.out (fun j y hj h => by have := (List.getElem?_eq_some_iff.1 hj).1; omega))
            subst hkl2
            have k_1 : ¬ (l.length : Int) < (l.length : Int) := by omega
            obtain ⟨A', c', hv, hcc, hcc2, hA⟩ := own_slice HO6.out
            injection hv with hv1 hv2 hv3
            subst hv1 hv3
            rcases hA with ⟨rfl, h0⟩ | ⟨g, rfl, hg1, hg2⟩
            · have hl0 : l = [] := List.eq_nil_of_length_eq_zero h0
              subst hl0
              have hc0 : c = 0 := by
                rcases HO6.out.2 with ⟨e, -⟩ | ⟨g, cap, cur, e, -⟩
                · injection e
                · injection e with e; cases e
              subst hc0
              obtain ⟨B3, d3, w8, run1, run2, own3, hb3⟩ := ins_nil w6 N
              have hl9 : (([] : List Int).take ([] : List Int).length ++ N :: ([] : List Int).drop ([] : List Int).length).length = 1 := rfl
              have HO9 := Lib.hid (own_low own3 (show w.heap.size + 1 ≤ w6.heap.size by have := HR6.out.lt; omega))
              have HR9 := Lib.hid (HR6.out.below hb3 HR6.out.lt)
              have HB9 := Lib.hid (below_to HB6.out hb3)
              have HL9 := Lib.hid hl9
              clear own3 hb3 hl9
              go_wp2
              go_region
              go_wp2
              go_roundw
              case rel => exact ⟨m + 1, _, B3, d3, by go_num, by omega, by rw [HL9.out], HNX, Lib.hid (by rw [HL9.out]; exact HO9.out), HR9, HB9⟩
              case measure => simp [intOf]; omega
            · have k_2 : l.length ≤ l.length := Nat.le_refl _
              have k_4 : l.length ≤ c := hcc
              have k_5 : (l.length : Int) ≤ (c : Int) := by omega
              by_cases hce : c = l.length
              · subst hce
                obtain ⟨B1, d1, w7, B3, d3, w8, run1, run2, own3, hb3⟩ := ins_run HL6.out N (c2 := 0) ⟨g, 0, none⟩ (Nat.le_refl _) (fun h => by omega) (by omega)
                have hl9 : (l.take l.length ++ N :: l.drop l.length).length = l.length + 1 := by rw [List.length_append, List.length_cons, List.length_take, List.length_drop]; omega
                simp only [Nat.sub_self, Nat.add_zero] at run1 run2 own3
                have HO9 := Lib.hid (own_low own3 (show w.heap.size + 1 ≤ w6.heap.size by have := HR6.out.lt; omega))
                have HR9 := Lib.hid (HR6.out.below hb3 HR6.out.lt)
                have HB9 := Lib.hid (below_to HB6.out hb3)
                have HL9 := Lib.hid hl9
                clear own3 hb3 hl9
                go_wp2
                go_region
                go_wp2
                go_roundw
                case rel => exact ⟨m + 1, _, B3, d3, by go_num, by omega, by rw [HL9.out], HNX, Lib.hid (by rw [HL9.out]; exact HO9.out), HR9, HB9⟩
                case measure => simp [intOf]; omega
              · have hce2 : ¬ (c : Int) = (l.length : Int) := by omega
                obtain ⟨B1, d1, w7, B3, d3, w8, run1, run2, own3, hb3⟩ := ins_run HL6.out N (c2 := c - l.length) ⟨g, l.length, none⟩ (Nat.le_refl _) (fun h => by omega) (by omega)
                have hl9 : (l.take l.length ++ N :: l.drop l.length).length = l.length + 1 := by rw [List.length_append, List.length_cons, List.length_take, List.length_drop]; omega
                simp only [Nat.sub_self, Nat.add_zero] at run1 run2 own3
                have HO9 := Lib.hid (own_low own3 (show w.heap.size + 1 ≤ w6.heap.size by have := HR6.out.lt; omega))
                have HR9 := Lib.hid (HR6.out.below hb3 HR6.out.lt)
                have HB9 := Lib.hid (below_to HB6.out hb3)
                have HL9 := Lib.hid hl9
                clear own3 hb3 hl9
                go_wp2
                go_region
                go_wp2
                go_roundw
                case rel => exact ⟨m + 1, _, B3, d3, by go_num, by omega, by rw [HL9.out], HNX, Lib.hid (by rw [HL9.out]; exact HO9.out), HR9, HB9⟩
                case measure => simp [intOf]; omega
      · have m_1 : ¬ (m : Int) < (P : Int) := by omega
        obtain rfl : m = P := by omega
        have HX := Lib.hid (HDN.out l HLI.out)
        go_wp2
        refine bodyPost_ret (results_tmp2 rfl _ _ _) rfl ⟨A, _, c, rfl, by rw [← HX.out]; exact ints_own HOW.out rfl, HB.out⟩
end Go.Proofs.Ytnmhigjannihgaa

/- At most six of a list; few. -/
namespace Go.Proofs.Ytnmhigjannihgaa
open Go.RowKit Go.Shelf

theorem recs_take {α : Type} {enc : α → List Value} {k : Nat} {w : World} {B n c : Nat} {A : Option Addr} {l : List α} (h : Recs enc k w B (.slice A n c) l) (m : Nat) (hm : m ≤ n) : Recs enc k w B (.slice A m c) (l.take m) := by
  obtain ⟨A', c', e, h1, h2, h3⟩ := h
  injection e with e1 e2 e3
  subst e1 e2 e3
  have hl : (l.take m).length = m := by rw [List.length_take]; omega
  refine ⟨A, c, by rw [hl], by omega, h2, ?_⟩
  rcases h3 with h3 | ⟨g, off, e, hg, h4⟩
  · subst h3; exact .inl (List.take_nil)
  · refine .inr ⟨g, off, e, hg, fun j x hj => h4 j x ?_⟩
    rw [List.getElem?_take] at hj
    split at hj
    · exact hj
    · cases hj
set_option maxRecDepth 100000 in
set_option maxHeartbeats 2000000 in
theorem few_any (l : List Int) (A : Option Addr) (n c : Nat) (w : World) (hr : Recs enc1 1 w w.heap.size (.slice A n c) l) :
    Calls Try.prog 23 #[.slice A n c] w fun e w' => e = .returned (.slice A (min n 6) c) ∧ w = w' := by
  obtain ⟨hn, hc1, hc2⟩ := recs_cap hr
  have hn9 : n ≤ 9223372036854775807 := by omega
  have hnc : n ≤ c := by omega
  clear hr hn
  by_cases h6 : n ≤ 6
  · have e1 : (n : Int) ≤ 6 := by omega
    have e2 : min (n : Int) 6 = (n : Int) := by omega
    have e3 : min n 6 = n := by omega
    have e4 : (n : Int) ≤ (c : Int) := by omega
    have e5 : (0 : Int) ≤ (n : Int) := by omega
    rw [e3]
    go_enter Try.func23, Try.ntmps23
    go_wp2
    go_ret
    exact ⟨rfl, rfl⟩
  · have e1 : ¬ (n : Int) ≤ 6 := by omega
    have e2 : min (n : Int) 6 = 6 := by omega
    have e3 : min n 6 = 6 := by omega
    have e4 : (6 : Int) ≤ (c : Int) := by omega
    have e5 : 6 ≤ c := by omega
    rw [e3]
    go_enter Try.func23, Try.ntmps23
    go_wp2
    go_ret
    exact ⟨rfl, rfl⟩
end Go.Proofs.Ytnmhigjannihgaa

/- Both sides of each function of package item give the same named results. -/
namespace Go.Proofs.Ytnmhigjannihgaa
open Go.RowKit Go.Shelf

section
variable {i : ItemP} {C : List Int} {s a b : Int} {A1 A2 A3 : Option Addr} {n1 c1 n2 c2 n3 c3 : Nat} {u : World}
theorem rlength_at (h : lengthV i C = (a, b)) (hr : ItAt i A1 n1 c1 A2 n2 c2 u.heap.size u) (h3 : Recs enc1 1 u u.heap.size (.slice A3 n3 c3) C) :
    Calls Try.prog 25 #[.agg #[.int .i64 i.id, .int .i64 i.kind, .int .i64 i.len, .slice A1 n1 c1, .slice A2 n2 c2, .int .i64 i.artist, .int .i64 i.tempo, .int .i64 i.lang], .slice A3 n3 c3] u fun e w' => e = .returned (.tuple #[.int .i64 a, .int .i64 b]) ∧ Below u.heap.size u w' := by
  have k := rlength_any i C A1 A2 A3 n1 c1 n2 c2 n3 c3 u hr h3
  rwa [h] at k
theorem rplace_at (h : placeV i C s = (a, b)) (hr : ItAt i A1 n1 c1 A2 n2 c2 u.heap.size u) (h3 : Recs enc1 1 u u.heap.size (.slice A3 n3 c3) C) :
    Calls Try.prog 30 #[.agg #[.int .i64 i.id, .int .i64 i.kind, .int .i64 i.len, .slice A1 n1 c1, .slice A2 n2 c2, .int .i64 i.artist, .int .i64 i.tempo, .int .i64 i.lang], .slice A3 n3 c3, .int .i64 s] u fun e w' => e = .returned (.tuple #[.int .i64 a, .int .i64 b]) ∧ Below u.heap.size u w' := by
  have k := rplace_any i C s A1 A2 A3 n1 c1 n2 c2 n3 c3 u hr h3
  rwa [h] at k
theorem rheard_at (h : heardV i C s = (a, b)) (hr : ItAt i A1 n1 c1 A2 n2 c2 u.heap.size u) (h3 : Recs enc1 1 u u.heap.size (.slice A3 n3 c3) C) :
    Calls Try.prog 32 #[.agg #[.int .i64 i.id, .int .i64 i.kind, .int .i64 i.len, .slice A1 n1 c1, .slice A2 n2 c2, .int .i64 i.artist, .int .i64 i.tempo, .int .i64 i.lang], .slice A3 n3 c3, .int .i64 s] u fun e w' => e = .returned (.tuple #[.int .i64 a, .int .i64 b]) ∧ Below u.heap.size u w' := by
  have k := rheard_any i C s A1 A2 A3 n1 c1 n2 c2 n3 c3 u hr h3
  rwa [h] at k
theorem rtalk_at {T : List (Int × Int)} (h : talkV i C = (T, b)) (hr : ItAt i A1 n1 c1 A2 n2 c2 u.heap.size u) (h3 : Recs enc1 1 u u.heap.size (.slice A3 n3 c3) C) :
    Calls Try.prog 27 #[.agg #[.int .i64 i.id, .int .i64 i.kind, .int .i64 i.len, .slice A1 n1 c1, .slice A2 n2 c2, .int .i64 i.artist, .int .i64 i.tempo, .int .i64 i.lang], .slice A3 n3 c3] u fun e w' => ∃ A n c, e = .returned (.tuple #[.slice A n c, .int .i64 b]) ∧ Recs enc2 2 w' w'.heap.size (.slice A n c) T ∧ Below u.heap.size u w' := by
  have k := rtalk_any i C A1 A2 A3 n1 c1 n2 c2 n3 c3 u hr h3
  rwa [h] at k
theorem ptalk_at {T : List (Int × Int)} (h : talkV i C = (T, b)) (hr : ItAt i A1 n1 c1 A2 n2 c2 u.heap.size u) (h3 : Recs enc1 1 u u.heap.size (.slice A3 n3 c3) C) :
    Calls Try.prog 26 #[.agg #[.int .i64 i.id, .int .i64 i.kind, .int .i64 i.len, .slice A1 n1 c1, .slice A2 n2 c2, .int .i64 i.artist, .int .i64 i.tempo, .int .i64 i.lang], .slice A3 n3 c3] u fun e w' => ∃ A n c, e = .returned (.tuple #[.slice A n c, .int .i64 b]) ∧ Recs enc2 2 w' w'.heap.size (.slice A n c) T ∧ Below u.heap.size u w' := by
  have k := talk_any i C A1 A2 A3 n1 c1 n2 c2 n3 c3 u hr h3
  rwa [h] at k
theorem rencode_at {S : ByteArray} (h : encodeV i = (S, b)) (hr : ItAt i A1 n1 c1 A2 n2 c2 u.heap.size u) :
    Calls Try.prog 17 #[.agg #[.int .i64 i.id, .int .i64 i.kind, .int .i64 i.len, .slice A1 n1 c1, .slice A2 n2 c2, .int .i64 i.artist, .int .i64 i.tempo, .int .i64 i.lang]] u fun e w' => e = .returned (.tuple #[.string S, .int .i64 b]) ∧ Below u.heap.size u w' := by
  have k := rencode_any i A1 A2 n1 c1 n2 c2 u hr
  rwa [h] at k
theorem rvalid_at {v : Bool} (h : validI i = v) (hr : ItAt i A1 n1 c1 A2 n2 c2 u.heap.size u) :
    Calls Try.prog 13 #[.agg #[.int .i64 i.id, .int .i64 i.kind, .int .i64 i.len, .slice A1 n1 c1, .slice A2 n2 c2, .int .i64 i.artist, .int .i64 i.tempo, .int .i64 i.lang]] u fun e w' => e = .returned (.bool v) ∧ Below u.heap.size u w' := by
  rw [← h]; exact rvalid_any i A1 A2 n1 c1 n2 c2 u hr
theorem plens_at {L : List Int} (h : lensV i = L) (he : (if validI i then (0 : Int) else 70) = b) (hr : ItAt i A1 n1 c1 A2 n2 c2 u.heap.size u) :
    Calls Try.prog 14 #[.agg #[.int .i64 i.id, .int .i64 i.kind, .int .i64 i.len, .slice A1 n1 c1, .slice A2 n2 c2, .int .i64 i.artist, .int .i64 i.tempo, .int .i64 i.lang]] u fun e w' => ∃ A n c, e = .returned (.tuple #[.slice A n c, .int .i64 b]) ∧ Recs enc1 1 w' w'.heap.size (.slice A n c) L ∧ Below u.heap.size u w' := by
  have k := lengths_any i A1 A2 n1 c1 n2 c2 u hr
  rwa [h, he] at k
theorem rlens_at {L : List Int} (h : lensV i = L) (he : (if validI i then (0 : Int) else 70) = b) (hr : ItAt i A1 n1 c1 A2 n2 c2 u.heap.size u) :
    Calls Try.prog 15 #[.agg #[.int .i64 i.id, .int .i64 i.kind, .int .i64 i.len, .slice A1 n1 c1, .slice A2 n2 c2, .int .i64 i.artist, .int .i64 i.tempo, .int .i64 i.lang]] u fun e w' => ∃ A n c, e = .returned (.tuple #[.slice A n c, .int .i64 b]) ∧ Recs enc1 1 w' w'.heap.size (.slice A n c) L ∧ Below u.heap.size u w' := by
  have k := rlengths_any i A1 A2 n1 c1 n2 c2 u hr
  rwa [h, he] at k
theorem pcut_at {L : List Int} (h : zi ((cutV i s).getD []) = L) (he : (if (cutV i s).isSome then (0 : Int) else 70) = b) (hr : ItAt i A1 n1 c1 A2 n2 c2 u.heap.size u) :
    Calls Try.prog 20 #[.agg #[.int .i64 i.id, .int .i64 i.kind, .int .i64 i.len, .slice A1 n1 c1, .slice A2 n2 c2, .int .i64 i.artist, .int .i64 i.tempo, .int .i64 i.lang], .int .i64 s] u fun e w' => ∃ A n c, e = .returned (.tuple #[.slice A n c, .int .i64 b]) ∧ Recs enc1 1 w' w'.heap.size (.slice A n c) L ∧ Below u.heap.size u w' := by
  have k := cut_any' i s A1 A2 n1 c1 n2 c2 u hr
  rwa [h, he] at k
theorem rcutv_at {L : List Int} (h : zi ((cutV i s).getD []) = L) (he : (if (cutV i s).isSome then (0 : Int) else 70) = b) (hr : ItAt i A1 n1 c1 A2 n2 c2 u.heap.size u) :
    Calls Try.prog 21 #[.agg #[.int .i64 i.id, .int .i64 i.kind, .int .i64 i.len, .slice A1 n1 c1, .slice A2 n2 c2, .int .i64 i.artist, .int .i64 i.tempo, .int .i64 i.lang], .int .i64 s] u fun e w' => ∃ A n c, e = .returned (.tuple #[.slice A n c, .int .i64 b]) ∧ Recs enc1 1 w' w'.heap.size (.slice A n c) L ∧ Below u.heap.size u w' := by
  have k := rcutv_any i s A1 A2 n1 c1 n2 c2 u hr
  rwa [h, he] at k
end
end Go.Proofs.Ytnmhigjannihgaa
