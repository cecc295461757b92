/- Lengths. -/
import Derived.Test.YtnmhigjannihgaaKe
import Derived.Sort.OwnSortedInts
namespace Go.Proofs.Ytnmhigjannihgaa
open Go.RowKit Go.Shelf Go.Sort
attribute [local go_sem] Oper.semAt_some
attribute [local go_sem ↓] append_appN

/-- A row of one's own, of ints, sorted and without doubles. -/
theorem sort_own {w : World} {B n : Nat} {v : Value} {l : List Int} (h : w.ownsRow B 3 1 v n (iv1 l)) (hl : l.length = n) (hn : 0 < n) (hn2 : n ≤ 1000) :
    ∃ A c, v = .slice A n c ∧ Calls Try.prog 46 #[.slice A n c] w fun e w1 => e = .returned (.tuple #[]) ∧ w.grownBy w1 v.ownBlock ∧
      Calls Try.prog 47 #[.slice A n c] w1 fun e w2 => e = .returned (.slice A (sortC l).length c) ∧ w1.grownBy w2 v.ownBlock ∧ Recs enc1 1 w2 w2.heap.size (.slice A (sortC l).length c) (sortC l) ∧ w2.ownsRow B 3 1 (.slice A (sortC l).length c) (sortC l).length (iv1 (sortC l)) := by
  rcases h.2 with ⟨_, h0⟩ | ⟨g, cap, cur, rfl, hB, hg, h1, h2, h3, h4⟩
  · omega
  · have hg1 := (Array.getElem?_eq_some_iff.1 hg).1
    rw [Nat.mul_one] at h4
    have hH : Holds (Value.int .i64) w g 0 l.toArray := holds_of_blockI hg (by rw [hl, h4])
    have hs := Try.slices_Sort_int g 0 cap l w hH hg1 (by omega)
    rw [hl] at hs
    refine ⟨_, _, rfl, hs.mono ?_⟩
    rintro e w1 ⟨rfl, q, os, rfl⟩
    refine ⟨rfl, grownBy_sortedI _, ?_⟩
    obtain ⟨S, hS⟩ : ∃ S, (l.mergeSort fun x y => decide (x ≤ y)) = S := ⟨_, rfl⟩
    have hSl : S.length = n := by rw [← hS, List.length_mergeSort, hl]
    rw [hS]
    have hb2 := heap_sortedI (n := q) (os := os) S.toArray hg
    have hcs : cur.size = cap := by omega
    have hown2 := ownsRow_sortedI (base := B) (cap := cap) (n := q) (os := os) (cur := cur) (ss := l) (ts := S) (by omega) hB hg (by omega) h2 (by omega)
    have ht2 : (putCells (Value.int .i64) 0 S.toArray cur).toList.take S.length = S.map (Value.int .i64) := take_putCellsI cur S (by omega)
    obtain ⟨W1, hW1⟩ : ∃ W1, grow (putRow (Value.int .i64) (Sort.ahead w q) g 0 S.toArray) os = W1 := ⟨_, rfl⟩
    rw [hW1] at hb2 hown2 ⊢
    obtain ⟨cu2, hcu2⟩ : ∃ cu2, putCells (Value.int .i64) 0 S.toArray cur = cu2 := ⟨_, rfl⟩
    have hcz : cu2.size = cap := by rw [← hcu2]; simp [putCells, hcs]
    rw [hcu2] at hb2 ht2
    have hH2 : Holds (Value.int .i64) W1 g 0 S.toArray := holds_of_blockI hb2 ht2
    have hc := Try.slices_Compact_int g 0 cap S W1 hH2 (by omega) (by omega)
    rw [hSl] at hc
    have hSC : Lib.compact S = sortC l := by rw [← hS]; rfl
    rw [hSC] at hc
    have hle : (sortC l).length ≤ n := by
      rw [← hSC, ← hSl]
      unfold Lib.compact Lib.compactUpTo
      rw [List.length_map]
      exact Nat.le_trans (List.length_filter_le _ _) (by simp)
    refine hc.mono ?_
    rintro e w2 ⟨rfl, q2, rfl⟩
    have hT : (sortC l ++ List.replicate (n - (sortC l).length) (0 : Int)).length = S.length := by rw [List.length_append, List.length_replicate]; omega
    have hg2 := grownBy_sortedI (w := W1) (g := g) (n := q2) (os := #[]) (sortC l ++ List.replicate (n - (sortC l).length) (0 : Int)).toArray
    have hown3 := ownsRow_sortedI (base := B) (cap := cap) (n := q2) (os := #[]) (cur := cu2) (ss := S) hT hB hb2 (by omega) h2 (by omega)
    rw [grow_empty] at hg2 hown3
    have hown4 : (putRow (Value.int .i64) (Sort.ahead W1 q2) g 0 (sortC l ++ List.replicate (n - (sortC l).length) (0 : Int)).toArray).ownsRow B 3 1 (.slice (some ⟨g, 0, none⟩) (sortC l).length cap) (sortC l).length (iv1 (sortC l)) := by
      rcases hown3.2 with ⟨_, k0⟩ | ⟨g', cap', cur', hv, k1, k2, k3, k4, k5, k6⟩
      · omega
      · cases hv
        refine ⟨by simp, .inr ⟨g, cap, cur', rfl, k1, k2, by omega, k4, k5, ?_⟩⟩
        rw [Nat.mul_one] at k6 ⊢
        have e := congrArg (List.take (sortC l).length) k6
        rw [List.take_take, Nat.min_eq_left (by omega)] at e
        rw [e, List.map_append, List.take_left' (by simp)]
    exact ⟨rfl, hg2, ints_own hown4 rfl, hown4⟩
theorem grown_trans {w w1 w2 : World} {row : Option Nat} (h : w.grownBy w1 row) (k : w1.grownBy w2 row) : w.grownBy w2 row :=
  ⟨k.os.trans h.os, k.tape.trans h.tape, k.output.trans h.output, Nat.le_trans h.size k.size, fun j hj hn => (k.block j (Nat.lt_of_lt_of_le hj h.size) hn).trans (h.block j hj hn)⟩
/-- What the loop of Lengths knows. -/
structure LsIn (w : World) (i : ItemP) (Bo B : Nat) (pre : List (List Nat)) (v : Value) (Y : World) : Prop where
  box : Row Y Bo 26 #[v]
  own : Y.ownsRow B 3 1 v pre.length (iv1 (pre.map (lenI i)))
  b : Below w.heap.size w Y
  s : B ≤ Y.heap.size
def noL (Bo : Nat) (Y : World) (k : Nat) : Prop := k = Bo ∨ ∃ v, Y.cell? ⟨Bo, 0, none⟩ = some v ∧ v.ownBlock = some k
theorem LsIn.turn {w : World} {i : ItemP} {Bo B B2 : Nat} {pre : List (List Nat)} {v : Value} {Y Z : World} {row : Option Nat} (h : LsIn w i Bo B pre v Y) (hw : w.heap.size ≤ B2) (hg : Y.grownBy Z row) (hr : Turns (noL Bo) B2 Y row) :
    LsIn w i Bo B pre v Z ∧ ∀ k, noL Bo Z k → noL Bo Y k := by
  have hbox : Z.heap[Bo]? = Y.heap[Bo]? := turn_block hg hr h.box rfl (.inl (.inl rfl))
  have hc : Z.cell? ⟨Bo, 0, none⟩ = Y.cell? ⟨Bo, 0, none⟩ := World.cell?_of_block (a := ⟨Bo, 0, none⟩) hbox
  refine ⟨⟨hbox.trans h.box, ?_, h.b.grown hg h.b.size (fun r e => by have := (hr r e).1; omega), Nat.le_trans h.s hg.size⟩, fun k hk => hk.imp id fun ⟨v', h1, h2⟩ => ⟨v', hc ▸ h1, h2⟩⟩
  refine own_keep h.own (fun k e => ?_)
  rcases h.own.2 with ⟨rfl, _⟩ | ⟨g, cap, cur, rfl, hB, hh, _⟩
  · cases e
  · cases e
    exact turn_block hg hr hh rfl (.inl (.inr ⟨_, h.box.cell 0, rfl⟩))
theorem LsIn.push {w : World} {i : ItemP} {Bo B : Nat} {pre : List (List Nat)} {v : Value} {Y : World} (h : LsIn w i Bo B pre v Y) (hBo : Bo < B) (hw : w.heap.size ≤ Bo) (hn : pre.length ≤ 100) (x : List Nat) :
    ∃ A c w', Sem.run Try.prog (appN #[26, 26] 26 #[v, .slice (some ⟨Y.heap.size, 0, none⟩) 1 1]) (Y.alloc (.cells #[.int .i64 (lenI i x)] 3)) = .ok (.slice A (pre.length + 1) c) w' ∧
      w'.cell? ⟨Bo, 0, none⟩ = some v ∧ w'.frozen? ⟨Bo, 0, none⟩ = false ∧ Bo < w'.heap.size ∧
      LsIn w i Bo B (pre ++ [x]) (.slice A (pre.length + 1) c) (w'.setCell ⟨Bo, 0, none⟩ (.slice A (pre.length + 1) c)) ∧ RoundK (noL Bo) Y (w'.setCell ⟨Bo, 0, none⟩ (.slice A (pre.length + 1) c)) := by
  obtain ⟨A, c, w', hrun, hown, hg, hloc⟩ := push_one (x := .int .i64 (lenI i x)) (B := B) Try.underlying26 infoInt rfl rfl (by omega) h.own (by omega) h.s
  have hvB : ∀ r, v.ownBlock = some r → B ≤ r := fun r e => own_ge h.own r e
  have hs := hg.size
  rw [World.size_alloc] at hs
  have hl := h.box.lt
  have hbox : Row w' Bo 26 #[v] := (hg.block Bo (by simp; omega) (fun e => by have := hvB Bo e.symm; omega)).trans (h.box.alloc _)
  have hsz : (w'.setCell ⟨Bo, 0, none⟩ (.slice A (pre.length + 1) c)).heap.size = w'.heap.size := by simp [World.setCell]
  refine ⟨A, c, w', hrun, hbox.cell 0, hbox.free 0, hbox.lt, ⟨hbox.put 0 _, ?_, ?_, ?_⟩, ⟨?_, fun k hk => ?_⟩⟩
  · rw [List.length_append, List.map_append]
    have e : iv1 (pre.map (lenI i) ++ [x].map (lenI i)) = iv1 (pre.map (lenI i)) ++ [.int .i64 (lenI i x)] := by simp [iv1]
    rw [e]
    exact own_keep hown (fun k e => Below.heap_setCell w' ⟨Bo, 0, none⟩ _ k (fun e2 => by have := own_ge hown k e; dsimp only at e2; omega))
  · have h1 : Below w.heap.size w w' := (h.b.alloc h.b.size _).grown hg (by have := h.b.size; simp; omega) (fun r e => by have := hvB r e; omega)
    exact h1.setCell (p := ⟨Bo, 0, none⟩) (by dsimp only; omega) _
  · rw [hsz]; have := h.s; omega
  · exact ((Keeps.of_below ((Below.refl _ Y).alloc (Nat.le_refl _) _)).trans (Keeps.of_grown hg (fun r e => .inr ⟨v, h.box.cell 0, e⟩))).trans (Keeps.setCell (p := ⟨Bo, 0, none⟩) (.inl rfl) _)
  · rcases hk with rfl | ⟨v', h1, h2⟩
    · exact .inl (.inl rfl)
    · have hc : (w'.setCell ⟨Bo, 0, none⟩ (.slice A (pre.length + 1) c)).cell? ⟨Bo, 0, none⟩ = some (.slice A (pre.length + 1) c) := (hbox.put 0 _).cell 0
      rw [hc] at h1
      cases h1
      rcases hloc with e | e
      · rw [e] at h2; exact .inl (.inr ⟨v, h.box.cell 0, h2⟩)
      · rw [e] at h2; cases h2; exact .inr (by omega)
set_option maxRecDepth 100000 in
set_option maxHeartbeats 8000000 in
theorem lengths_any (i : ItemP) (A1 A2 : Option Addr) (n1 c1 n2 c2 : Nat) (w : World) (hr : ItAt i A1 n1 c1 A2 n2 c2 w.heap.size w) :
    Calls Try.prog 14 #[.agg #[.int .i64 i.id, .int .i64 i.kind, .int .i64 i.len, .slice A1 n1 c1, .slice A2 n2 c2, .int .i64 i.artist, .int .i64 i.tempo, .int .i64 i.lang]] w fun e w' => ∃ A n c, e = .returned (.tuple #[.slice A n c, .int .i64 (if validI i then 0 else 70)]) ∧ Recs enc1 1 w' w'.heap.size (.slice A n c) (lensV i) ∧ Below w.heap.size w w' := by
  have HV := Lib.hid (fun u (hu : Below w.heap.size w u) => valid_any i A1 A2 n1 c1 n2 c2 u (hr.next hu))
  have HCC := Lib.hid (fun u => cuts_call i A1 A2 n1 c1 n2 c2 u)
  have HIT := Lib.hid hr
  have HLV : Hid (lensV i = if validI i then sortC ((cutsL i.trims.length).map (lenI i)) else []) := Lib.hid rfl
  have HCE := Lib.hid (fun (hi : validI i = true) (n : Nat) (hn : 2 ≤ n) Bi B0 no u => cuts_e n hn Bi B0 i hi A1 A2 n1 c1 n2 c2 no u)
  have HLEN : Hid (validI i = true → 0 < (cutsL i.trims.length).length ∧ (cutsL i.trims.length).length ≤ 16) := Lib.hid (fun hi => by
    have h4 := ((validI_iff i).1 hi).n1
    have := (cuts_all ⟨i.trims.length, by omega⟩).2.2.2
    dsimp only at this
    rw [this]
    have hle : 2 ^ i.trims.length ≤ 2 ^ 4 := Nat.pow_le_pow_right (by omega) h4
    have := Nat.two_pow_pos i.trims.length
    omega)
  refine (callsIn_wide (n := 12)).1 ?_
  refine callsIn_of_wp_marks Try.func14 rfl trivial ?_ rfl
  simp only [Try.ntmps14, List.size_toArray, List.length_cons, List.length_nil, Nat.reduceAdd, Nat.reduceSub, Array.replicate_succ, Array.replicate_zero, List.push_toArray, List.append_toArray, List.nil_append, List.cons_append]
  cases hvi : validI i with
  | false =>
    rw [hvi] at HV HLV
    clear HCC HCE HLEN hr
    gi_wp2_with ((refine ⟨trivial, ?_⟩; gi_at_call 12; ((with_reducible refine CallsIn.mono (callsIn_wide.2 (HV.out _ (((Below.refl _ w).alloc (Nat.le_refl _) _)))) ?_); rintro e' u1 ⟨rfl, hb1⟩; have HB1 := Lib.hid (below_to ((Below.refl _ w).alloc (Nat.le_refl _) _) hb1); have rb := (Row.new w 24 #[.int .i64 i.id, .int .i64 i.kind, .int .i64 i.len, .slice A1 n1 c1, .slice A2 n2 c2, .int .i64 i.artist, .int .i64 i.tempo, .int .i64 i.lang]).below hb1 (Row.new w 24 #[.int .i64 i.id, .int .i64 i.kind, .int .i64 i.len, .slice A1 n1 c1, .slice A2 n2 c2, .int .i64 i.artist, .int .i64 i.tempo, .int .i64 i.lang]).lt; have b_0 := rb.cell 0; have b_1 := rb.cell 1; have b_2 := rb.cell 2; have b_3 := rb.cell 3; have b_4 := rb.cell 4; have b_5 := rb.cell 5; have b_6 := rb.cell 6; have b_7 := rb.cell 7; have lb := rb.lt; clear hb1 rb)))
    exact ⟨_, results_tmp2 rfl _ _ _, _, _, _, rfl, by rw [HLV.out]; exact recs_nil _ _ _ _, HB1.out⟩
  | true =>
    have HVI := Lib.hid hvi
    rw [hvi] at HV HLV
    clear hr hvi
    gi_wp2_with (first | (refine ⟨trivial, ?_⟩; gi_at_call 12; ((with_reducible refine CallsIn.mono (callsIn_wide.2 (HV.out _ (((Below.refl _ w).alloc (Nat.le_refl _) _)))) ?_); rintro e' u1 ⟨rfl, hb1⟩; have HB1 := Lib.hid (below_to ((Below.refl _ w).alloc (Nat.le_refl _) _) hb1); have rb := (Row.new w 24 #[.int .i64 i.id, .int .i64 i.kind, .int .i64 i.len, .slice A1 n1 c1, .slice A2 n2 c2, .int .i64 i.artist, .int .i64 i.tempo, .int .i64 i.lang]).below hb1 (Row.new w 24 #[.int .i64 i.id, .int .i64 i.kind, .int .i64 i.len, .slice A1 n1 c1, .slice A2 n2 c2, .int .i64 i.artist, .int .i64 i.tempo, .int .i64 i.lang]).lt; have b_0 := rb.cell 0; have b_1 := rb.cell 1; have b_2 := rb.cell 2; have b_3 := rb.cell 3; have b_4 := rb.cell 4; have b_5 := rb.cell 5; have b_6 := rb.cell 6; have b_7 := rb.cell 7; have lb := rb.lt; clear hb1 rb)) | (refine ⟨trivial, ?_⟩; gi_at_call 45; ((with_reducible refine CallsIn.mono (callsIn_wide.2 (HCC.out _)) ?_); rintro e' w3 ⟨rfl, rfl⟩)))
    obtain ⟨X, hX⟩ : ∃ X, (u1.alloc (.cells #[.slice none 0 0] 26)).alloc (.cells #[.int .i64 i.id, .int .i64 i.kind, .int .i64 i.len, .slice A1 n1 c1, .slice A2 n2 c2, .int .i64 i.artist, .int .i64 i.tempo, .int .i64 i.lang] 24) = X := ⟨_, rfl⟩
    have hsX : X.heap.size = u1.heap.size + 1 + 1 := by rw [← hX]; simp
    have HXB : Hid (Row X u1.heap.size 26 #[.slice none 0 0]) := Lib.hid (by rw [← hX]; exact (Row.new _ _ _).alloc _)
    have HXI : Hid (Row X (u1.heap.size + 1) 24 #[.int .i64 i.id, .int .i64 i.kind, .int .i64 i.len, .slice A1 n1 c1, .slice A2 n2 c2, .int .i64 i.artist, .int .i64 i.tempo, .int .i64 i.lang]) := Lib.hid (by
      rw [← hX]
      have := Row.new (u1.alloc (.cells #[.slice none 0 0] 26)) 24 #[.int .i64 i.id, .int .i64 i.kind, .int .i64 i.len, .slice A1 n1 c1, .slice A2 n2 c2, .int .i64 i.artist, .int .i64 i.tempo, .int .i64 i.lang]
      rw [World.size_alloc] at this
      exact this)
    have HXL : Hid (Below w.heap.size w X) := Lib.hid (by rw [← hX]; exact (HB1.out.alloc HB1.out.size _).alloc (by have := HB1.out.size; simp; omega) _)
    have hsw := HB1.out.size
    rw [hX]
    clear hX b_0 b_1 b_2 b_3 b_4 b_5 b_6 b_7
    have HIT2 : Hid (ItAt i A1 n1 c1 A2 n2 c2 w.heap.size X) := Lib.hid ⟨HIT.out.t.below HXL.out, HIT.out.k.below HXL.out⟩
    refine rangeFunc_e (F := Fence.wide) rfl (by decide) (gf := 65) (lb := #[.pointer (some ⟨u1.heap.size + 1, 0, none⟩)]) rfl trivial (enters_of Try.func65 (by kernel_rfl) rfl)
      (HCE.out HVI.out 11 (by decide) (u1.heap.size + 1) w.heap.size (fun Y k => noL u1.heap.size Y k ∨ k = X.heap.size + 1) X HXI.out HIT2.out (by omega)) (fun _ _ _ ⟨_, _, h, _⟩ => by rw [h]; rfl) (fun k hk => by rcases hk with rfl | hk <;> omega)
      (fun pre Y => ∃ v, LsIn w i u1.heap.size X.heap.size pre v Y) (fun _ _ _ => False) ?oI (fun _ _ _ _ _ hs _ _ => hs) ⟨_, HXB.out, World.ownsRow_nil _ _ _ _, HXL.out, Nat.le_refl _⟩ ?hno ?hng
      (fun _ x a' _ => ∃ z0 z1 z2 z3 z5 z7 z8 z9 z10 z11 z12 z13 z14 z15 z16 z17 z18 z19 z20 z21 : Value, a' = { tmps := #[z0, z1, z2, z3, .pointer (some ⟨u1.heap.size, 0, none⟩), z5, .int .i64 (lenI i x), z7, z8, z9, z10, z11, z12, z13, z14, z15, z16, z17, z18, z19, z20, z21], defers := [] }) (fun _ _ _ _ _ _ _ hs _ _ => hs) ?assign ?body ?done (fun _ _ _ _ _ _ h _ => h.elim)
    case oI =>
      rintro pre Y Z row ⟨v, h⟩ hg hr
      exact ⟨v, (h.turn (by omega) hg hr).1⟩
    case hno =>
      rintro pre Y k ⟨v, h⟩ (rfl | ⟨v', h1, h2⟩)
      · exact ⟨h.box.lt, fun e => by omega, .inr (by omega)⟩
      · rw [h.box.cell 0] at h1
        cases h1
        have k1 := own_ge h.own k h2
        refine ⟨own_lt h.own k h2, fun e => by omega, .inl ?_⟩
        rcases h.own.2 with ⟨rfl, _⟩ | ⟨g, cap, cur, rfl, hB, hh, _⟩
        · cases h2
        · cases h2; exact ⟨_, hh, rfl⟩
    case hng =>
      rintro pre Y Z row k ⟨v, h⟩ hg hr hk
      exact (h.turn (by omega) hg hr).2 k hk
    case assign =>
      rintro l' pre x vs Y K hpre ⟨A, cp, rfl, -⟩ hi hK
      gi_wp2
      exact hK _ _ (RoundK.refl _ _) hi ⟨_, _, _, _, _, _, _, _, _, _, _, _, _, _, _, _, _, _, _, _, rfl⟩
    case body =>
      rintro l' pre x a' Y hl hr hpre ⟨v, h⟩ ⟨z0, z1, z2, z3, z5, z7, z8, z9, z10, z11, z12, z13, z14, z15, z16, z17, z18, z19, z20, z21, rfl⟩
      have hpl : pre.length ≤ 100 := by
        have h1 := hpre.length_le
        have h2 := (HLEN.out HVI.out).2
        simp at h1; omega
      have c0 := h.box.cell 0
      obtain ⟨A3, cp3, rfl, -⟩ := own_slice h.own
      obtain ⟨A4, c4, w4, hrun, k0, k1, k2, k3, k4⟩ := h.push (by omega) (by omega) hpl x
      have lbo := h.box.lt
      have HK3 := Lib.hid k3; have HK4 := Lib.hid k4
      obtain ⟨L, hL⟩ : ∃ L, lenI i x = L := ⟨_, rfl⟩
      rw [hL] at hrun ⊢
      clear k3 k4 h hr hpre hL
      gi_wp2
      exact ⟨HK4.out, _, HK3.out⟩
    case done =>
      rintro D Y rfl ⟨v, h⟩ hD
      have hn := HLEN.out HVI.out
      obtain ⟨A5, c5, rfl, hsort⟩ := sort_own h.own (by simp) hn.1 (by omega)
      have c0 := h.box.cell 0
      have lbo := h.box.lt
      have HSO := Lib.hid hsort
      have HH := Lib.hid h; have HD := Lib.hid hD
      have hnb : ∀ r, (Value.slice A5 (cutsL i.trims.length).length c5).ownBlock = some r → X.heap.size ≤ r := fun r e => own_ge h.own r e
      have HNB := Lib.hid hnb
      have HND : Hid (some X.heap.size ≠ (Value.slice A5 (cutsL i.trims.length).length c5).ownBlock) := Lib.hid (fun e => by
        rcases h.own.2 with ⟨e1, _⟩ | ⟨g, cap, cur, e1, hB, hh, _⟩
        · rw [e1] at e; cases e
        · rw [e1] at e
          have e2 : X.heap.size = g := Option.some.inj e
          rw [← e2, hD] at hh; cases hh)
      clear hsort h hD hnb hn
      gi_wp2_with (first | (refine ⟨trivial, ?_⟩; gi_at_call 46; ((with_reducible refine CallsIn.mono (callsIn_wide.2 (HSO.out)) ?_); rintro e' w5 ⟨rfl, g5, hcomp⟩; have HG5 := Lib.hid g5; have HCO := Lib.hid hcomp; have c1 : w5.cell? ⟨u1.heap.size, 0, none⟩ = some _ := (World.cell?_of_block (a := ⟨u1.heap.size, 0, none⟩) (g5.block u1.heap.size lbo (fun e => by have := HNB.out _ e.symm; omega))).trans c0; clear g5 hcomp)) | (refine ⟨trivial, ?_⟩; gi_at_call 47; ((with_reducible refine CallsIn.mono (callsIn_wide.2 (HCO.out)) ?_); rintro e' w6 ⟨rfl, g6, hrec, hown⟩; have HG6 := Lib.hid (grown_trans HG5.out g6); have HOW := Lib.hid hown; clear g6 hrec hown)))
      have hD6 := (HG6.out.block X.heap.size (Array.getElem?_eq_some_iff.1 HD.out).1 HND.out).trans HD.out
      have hD7 := hD6
      rw [hsX] at hD7
      refine ⟨by simp, .inl ⟨_, _, rfl, run_takeDeferred hD7, ?_⟩⟩
      have hb6 : Below w.heap.size w w6 := HH.out.b.grown HG6.out HH.out.b.size (fun r e => by have := HNB.out r e; omega)
      have hrow := own_keep HOW.out (w' := w6.putObj X.heap.size (.deferred none)) (fun k e => World.putObj_heap_other (fun e2 => HND.out (by rw [← e2]; cases A5 <;> exact e.symm)))
      rw [hsX] at hrow
      have hlv : lensV i = sortC ((cutsL i.trims.length).map (lenI i)) := HLV.out.trans (by simp)
      exact ⟨_, results_tmp2 rfl _ _ _, _, _, _, rfl, by rw [hlv]; exact ints_own hrow rfl, hb6.trans (belowK_b (w := w) (Nat.le_refl _) w6 _ _ _ (by omega) hD7 rfl rfl)⟩
end Go.Proofs.Ytnmhigjannihgaa
