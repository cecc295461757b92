/- The long walk of RationalMatchesReference. -/
import Derived.Test.YtabkodpjhpjgnaaGreatDoorRs4
import Derived.Test.YtabkodpjhpjgnaaGreatDoorX8
import Derived.Test.YtabkodpjhpjgnaaGreatDoorRn4
namespace Go.Proofs.YtabkodpjhpjgnaaGreatDoor
open Go.RowKit Go.Shelf

theorem cellz {W u : World} {g k : Nat} {t : TypeId} {cs : Array Value} {v : Value} (h : Row W g t cs) (hc : cs[k]? = some v) (hb : Below W.heap.size W u) : u.cell? ⟨g, k, none⟩ = some v := ((h.below hb h.lt).cell k).trans hc
theorem kept2r {wr w2 : World} {t : TypeId} {p q : Value} (hb : Below (wr.alloc (.cells #[p, q] t)).heap.size (wr.alloc (.cells #[p, q] t)) w2) :
    w2.cell? ⟨wr.heap.size, 0, none⟩ = some p ∧ w2.cell? ⟨wr.heap.size, 1, none⟩ = some q ∧ Below wr.heap.size wr w2 ∧ wr.heap.size + 1 ≤ w2.heap.size ∧ Row w2 wr.heap.size t #[p, q] := by
  have h := (Row.new wr t #[p, q]).below hb (by simp)
  have hs := hb.size
  rw [World.size_alloc] at hs
  exact ⟨h.cell 0, h.cell 1, ((Below.refl _ wr).alloc (Nat.le_refl _) _).trans (hb.mono (by simp)), hs, h⟩
theorem Rws.far3 {u : World} {l : List (Nat × TypeId × Array Value)} (h : Rws u l) (B : Nat) (hs : ∀ x ∈ l, x.1 < B) {p q r : Addr} (hp : B ≤ p.block) (hq : B ≤ q.block) (hr : B ≤ r.block) (a b c : Value) : Rws (((u.setCell p a).setCell q b).setCell r c) l := fun x hx => by
  have := hs x hx
  exact (((h x hx).far (by omega) _).far (by omega) _).far (by omega) _

set_option maxRecDepth 100000 in
set_option maxHeartbeats 32000000 in
theorem match_core (s1 t1 s2 t2 L1 R1 L2 R2 NA DA NB DB NC DC : ByteArray) (a0 a1 a2 a3 b0 b1 b2 b3 c0 c1 n d pl : Int) (pp : Nat)
    (C1 : CallT 12 #[rvB s1 t1] (rvB L1 R1)) (C2 : CallT 12 #[rvB s2 t2] (rvB L2 R2))
    (C3 : CallT 13 #[.agg #[.int .i64 a0, .int .i64 a1, .int .i64 a2, .int .i64 a3]] (rvB NA DA)) (C4 : CallT 13 #[.agg #[.int .i64 b0, .int .i64 b1, .int .i64 b2, .int .i64 b3]] (rvB NB DB)) (C5 : CallT 14 #[.agg #[.int .i64 c0, .int .i64 c1]] (rvB NC DC))
    (H1 : Short L1 R1) (H2 : Short L2 R2) (H3 : Short NA DA) (H4 : Short NB DB) (H5 : Short NC DC)
    (C6 : ∀ w, Calls Tryz.prog 22 #[.int .i64 pl, .int .i64 32] w fun e w' => e = .returned (.int .i64 (pp : Int)) ∧ w = w')
    (C7 : SameQ 31 32 #[.int .i64 n, .int .i64 d]) (w : World) (ht : TabP w) :
    Calls Tryz.prog 3 #[rvB s1 t1, rvB s2 t2, .agg #[.int .i64 a0, .int .i64 a1, .int .i64 a2, .int .i64 a3], .agg #[.int .i64 b0, .int .i64 b1, .int .i64 b2, .int .i64 b3], .agg #[.int .i64 c0, .int .i64 c1], .int .i64 n, .int .i64 d, .int .i64 pl] w fun e w' => e = .returned (.bool true) ∧ Below w.heap.size w w' := by
  have K1 := Lib.hid C1
  have K2 := Lib.hid C2
  have K3 := Lib.hid C3
  have K4 := Lib.hid C4
  have K5 := Lib.hid C5
  have K6 := Lib.hid C6
  have K7 := Lib.hid C7
  have HS1 := Lib.hid H1
  have HS2 := Lib.hid H2
  have HS3 := Lib.hid H3
  have HS4 := Lib.hid H4
  have HS5 := Lib.hid H5
  have SA := Lib.hid sane_c
  have HT := Lib.hid ht
  clear C1 C2 C3 C4 C5 C6 C7 H1 H2 H3 H4 H5 ht
  unfold rvB at *
  obtain ⟨W0, hW0⟩ : ∃ W0, ((((w.alloc (.cells #[.string s1, .string t1] 23)).alloc (.cells #[.string s2, .string t2] 23)).alloc (.cells #[.int .i64 a0, .int .i64 a1, .int .i64 a2, .int .i64 a3] 24)).alloc (.cells #[.int .i64 b0, .int .i64 b1, .int .i64 b2, .int .i64 b3] 24)).alloc (.cells #[.int .i64 c0, .int .i64 c1] 25) = W0 := ⟨_, rfl⟩
  have hr : Rws W0 [(w.heap.size + 1 + 1 + 1 + 1, 25, #[.int .i64 c0, .int .i64 c1]), (w.heap.size + 1 + 1 + 1, 24, #[.int .i64 b0, .int .i64 b1, .int .i64 b2, .int .i64 b3]), (w.heap.size + 1 + 1, 24, #[.int .i64 a0, .int .i64 a1, .int .i64 a2, .int .i64 a3]), (w.heap.size + 1, 23, #[.string s2, .string t2]), (w.heap.size, 23, #[.string s1, .string t1])] := by
    rw [← hW0]
    have h := (((((Rws.nil w).cons 23 #[.string s1, .string t1]).cons 23 #[.string s2, .string t2]).cons 24 #[.int .i64 a0, .int .i64 a1, .int .i64 a2, .int .i64 a3]).cons 24 #[.int .i64 b0, .int .i64 b1, .int .i64 b2, .int .i64 b3]).cons 25 #[.int .i64 c0, .int .i64 c1]
    simp only [World.size_alloc] at h
    exact h
  have hb : Below w.heap.size w W0 := by rw [← hW0]; exact (((((Below.refl _ _).alloc (Nat.le_refl _) _).alloc (by simp) _).alloc (by simp; omega) _).alloc (by simp; omega) _).alloc (by simp; omega) _
  have HW0 := Lib.hid hW0; have HR := Lib.hid hr; have HB := Lib.hid hb
  clear hW0 hr hb
  go_enter Tryz.func3, Tryz.ntmps3
  go_upto_region 1 with (fail)
  rw [HW0.out]
  clear HW0
  go_upto_region 2 with (first | (go_at_call 11; (with_reducible refine Calls.mono (SA.out _ (HT.out.next HB.out)) ?_); rintro e w1 ⟨rfl, hb⟩; have hq := HR.out.below hb; have x3_0 : w1.cell? ⟨w.heap.size + 1, 0, none⟩ = some (.string s2) := (hq.at (x := (w.heap.size + 1, 23, #[.string s2, .string t2])) 3 rfl).cell 0; have x3_1 : w1.cell? ⟨w.heap.size + 1, 1, none⟩ = some (.string t2) := (hq.at (x := (w.heap.size + 1, 23, #[.string s2, .string t2])) 3 rfl).cell 1; have y3 : w.heap.size + 1 < w1.heap.size := (hq.at (x := (w.heap.size + 1, 23, #[.string s2, .string t2])) 3 rfl).lt; have x4_0 : w1.cell? ⟨w.heap.size, 0, none⟩ = some (.string s1) := (hq.at (x := (w.heap.size, 23, #[.string s1, .string t1])) 4 rfl).cell 0; have x4_1 : w1.cell? ⟨w.heap.size, 1, none⟩ = some (.string t1) := (hq.at (x := (w.heap.size, 23, #[.string s1, .string t1])) 4 rfl).cell 1; have y4 : w.heap.size < w1.heap.size := (hq.at (x := (w.heap.size, 23, #[.string s1, .string t1])) 4 rfl).lt; replace HR := Lib.hid hq; replace HB := Lib.hid (below_to HB.out hb); clear hb hq))
  go_upto_region 3 with (first | (go_at_call 12; (with_reducible refine Calls.mono (K1.out _ (HT.out.next HB.out)) ?_); rintro e w2 ⟨rfl, hb⟩; have hq := HR.out.below hb; have hrow : Row _ (w.heap.size) 23 #[.string s1, .string t1] := hq.at (x := (w.heap.size, 23, #[.string s1, .string t1])) 4 rfl; obtain ⟨z0, z1, z2, z3⟩ := rat_facts hrow; replace HR := Lib.hid (hq.over (S := L1) (T := R1) (l' := [(w.heap.size + 1 + 1 + 1 + 1, 25, #[.int .i64 c0, .int .i64 c1]), (w.heap.size + 1 + 1 + 1, 24, #[.int .i64 b0, .int .i64 b1, .int .i64 b2, .int .i64 b3]), (w.heap.size + 1 + 1, 24, #[.int .i64 a0, .int .i64 a1, .int .i64 a2, .int .i64 a3]), (w.heap.size + 1, 23, #[.string s2, .string t2])]) hrow (fun x hx => by (simp only [List.mem_cons, List.not_mem_nil, or_false] at hx; rcases hx with rfl | rfl | rfl | rfl <;> exact ⟨by simp, by dsimp only; omega⟩))); replace HB := Lib.hid (((below_to HB.out hb).setCell (p := ⟨w.heap.size, 0, none⟩) (by dsimp only; omega) (.string L1)).setCell (p := ⟨w.heap.size, 1, none⟩) (by dsimp only; omega) (.string R1)); clear hb hq hrow))
  obtain ⟨V2, hV2⟩ : ∃ W', (w2.setCell ⟨w.heap.size, 0, none⟩ (.string L1)).setCell ⟨w.heap.size, 1, none⟩ (.string R1) = W' := ⟨_, rfl⟩
  rw [hV2] at HR HB ⊢
  clear hV2 z0 z1 z2 z3
  clear x3_0 x3_1 y3 x4_0 x4_1 y4
  have x4_0 : V2.cell? ⟨w.heap.size + 1, 0, none⟩ = some (.string s2) := (HR.out.at (x := (w.heap.size + 1, 23, #[.string s2, .string t2])) 4 rfl).cell 0
  have x4_1 : V2.cell? ⟨w.heap.size + 1, 1, none⟩ = some (.string t2) := (HR.out.at (x := (w.heap.size + 1, 23, #[.string s2, .string t2])) 4 rfl).cell 1
  have y4 : w.heap.size + 1 < V2.heap.size := (HR.out.at (x := (w.heap.size + 1, 23, #[.string s2, .string t2])) 4 rfl).lt
  go_upto_region 4 with (first | (go_at_call 12; (with_reducible refine Calls.mono (K2.out _ (HT.out.next HB.out)) ?_); rintro e w3 ⟨rfl, hb⟩; have hq := HR.out.below hb; have hrow : Row _ (w.heap.size + 1) 23 #[.string s2, .string t2] := hq.at (x := (w.heap.size + 1, 23, #[.string s2, .string t2])) 4 rfl; obtain ⟨z0, z1, z2, z3⟩ := rat_facts hrow; replace HR := Lib.hid (hq.over (S := L2) (T := R2) (l' := [(w.heap.size, 23, #[.string L1, .string R1]), (w.heap.size + 1 + 1 + 1 + 1, 25, #[.int .i64 c0, .int .i64 c1]), (w.heap.size + 1 + 1 + 1, 24, #[.int .i64 b0, .int .i64 b1, .int .i64 b2, .int .i64 b3]), (w.heap.size + 1 + 1, 24, #[.int .i64 a0, .int .i64 a1, .int .i64 a2, .int .i64 a3])]) hrow (fun x hx => by (simp only [List.mem_cons, List.not_mem_nil, or_false] at hx; rcases hx with rfl | rfl | rfl | rfl <;> exact ⟨by simp, by dsimp only; omega⟩))); replace HB := Lib.hid (((below_to HB.out hb).setCell (p := ⟨w.heap.size + 1, 0, none⟩) (by dsimp only; omega) (.string L2)).setCell (p := ⟨w.heap.size + 1, 1, none⟩) (by dsimp only; omega) (.string R2)); clear hb hq hrow))
  obtain ⟨V3, hV3⟩ : ∃ W', (w3.setCell ⟨w.heap.size + 1, 0, none⟩ (.string L2)).setCell ⟨w.heap.size + 1, 1, none⟩ (.string R2) = W' := ⟨_, rfl⟩
  rw [hV3] at HR HB ⊢
  clear hV3 z0 z1 z2 z3
  clear x4_0 x4_1 y4
  go_cut [18] (fun sb wx => ∃ g, sb = .slice (some ⟨g, 0, none⟩) 5 5 ∧ Hid (Rws wx [(g, 23, #[.string L1, .string R1, .string L2, .string R2, .string NA, .string DA, .string NB, .string DB, .string NC, .string DC])]) ∧ Hid (Below w.heap.size w wx))
  case first =>
    have mkS : Hid (∀ u, Below w.heap.size w u → Rws u [(w.heap.size + 1, 23, #[.string L2, .string R2]), (w.heap.size, 23, #[.string L1, .string R1]), (w.heap.size + 1 + 1 + 1 + 1, 25, #[.int .i64 c0, .int .i64 c1]), (w.heap.size + 1 + 1 + 1, 24, #[.int .i64 b0, .int .i64 b1, .int .i64 b2, .int .i64 b3]), (w.heap.size + 1 + 1, 24, #[.int .i64 a0, .int .i64 a1, .int .i64 a2, .int .i64 a3])] → Below w.heap.size w u ∧ Rws u [(w.heap.size + 1, 23, #[.string L2, .string R2]), (w.heap.size, 23, #[.string L1, .string R1]), (w.heap.size + 1 + 1 + 1 + 1, 25, #[.int .i64 c0, .int .i64 c1]), (w.heap.size + 1 + 1 + 1, 24, #[.int .i64 b0, .int .i64 b1, .int .i64 b2, .int .i64 b3]), (w.heap.size + 1 + 1, 24, #[.int .i64 a0, .int .i64 a1, .int .i64 a2, .int .i64 a3])] ∧ u.cell? ⟨w.heap.size + 1, 0, none⟩ = some (.string L2) ∧ u.cell? ⟨w.heap.size + 1, 1, none⟩ = some (.string R2) ∧ u.cell? ⟨w.heap.size, 0, none⟩ = some (.string L1) ∧ u.cell? ⟨w.heap.size, 1, none⟩ = some (.string R1) ∧ u.cell? ⟨w.heap.size + 1 + 1 + 1 + 1, 0, none⟩ = some (.int .i64 c0) ∧ u.cell? ⟨w.heap.size + 1 + 1 + 1 + 1, 1, none⟩ = some (.int .i64 c1) ∧ u.cell? ⟨w.heap.size + 1 + 1 + 1, 0, none⟩ = some (.int .i64 b0) ∧ u.cell? ⟨w.heap.size + 1 + 1 + 1, 1, none⟩ = some (.int .i64 b1) ∧ u.cell? ⟨w.heap.size + 1 + 1 + 1, 2, none⟩ = some (.int .i64 b2) ∧ u.cell? ⟨w.heap.size + 1 + 1 + 1, 3, none⟩ = some (.int .i64 b3) ∧ u.cell? ⟨w.heap.size + 1 + 1, 0, none⟩ = some (.int .i64 a0) ∧ u.cell? ⟨w.heap.size + 1 + 1, 1, none⟩ = some (.int .i64 a1) ∧ u.cell? ⟨w.heap.size + 1 + 1, 2, none⟩ = some (.int .i64 a2) ∧ u.cell? ⟨w.heap.size + 1 + 1, 3, none⟩ = some (.int .i64 a3)) := Lib.hid (fun u h1 h2 => ⟨h1, h2, (h2.at (x := (w.heap.size + 1, 23, #[.string L2, .string R2])) 0 rfl).cell 0, (h2.at (x := (w.heap.size + 1, 23, #[.string L2, .string R2])) 0 rfl).cell 1, (h2.at (x := (w.heap.size, 23, #[.string L1, .string R1])) 1 rfl).cell 0, (h2.at (x := (w.heap.size, 23, #[.string L1, .string R1])) 1 rfl).cell 1, (h2.at (x := (w.heap.size + 1 + 1 + 1 + 1, 25, #[.int .i64 c0, .int .i64 c1])) 2 rfl).cell 0, (h2.at (x := (w.heap.size + 1 + 1 + 1 + 1, 25, #[.int .i64 c0, .int .i64 c1])) 2 rfl).cell 1, (h2.at (x := (w.heap.size + 1 + 1 + 1, 24, #[.int .i64 b0, .int .i64 b1, .int .i64 b2, .int .i64 b3])) 3 rfl).cell 0, (h2.at (x := (w.heap.size + 1 + 1 + 1, 24, #[.int .i64 b0, .int .i64 b1, .int .i64 b2, .int .i64 b3])) 3 rfl).cell 1, (h2.at (x := (w.heap.size + 1 + 1 + 1, 24, #[.int .i64 b0, .int .i64 b1, .int .i64 b2, .int .i64 b3])) 3 rfl).cell 2, (h2.at (x := (w.heap.size + 1 + 1 + 1, 24, #[.int .i64 b0, .int .i64 b1, .int .i64 b2, .int .i64 b3])) 3 rfl).cell 3, (h2.at (x := (w.heap.size + 1 + 1, 24, #[.int .i64 a0, .int .i64 a1, .int .i64 a2, .int .i64 a3])) 4 rfl).cell 0, (h2.at (x := (w.heap.size + 1 + 1, 24, #[.int .i64 a0, .int .i64 a1, .int .i64 a2, .int .i64 a3])) 4 rfl).cell 1, (h2.at (x := (w.heap.size + 1 + 1, 24, #[.int .i64 a0, .int .i64 a1, .int .i64 a2, .int .i64 a3])) 4 rfl).cell 2, (h2.at (x := (w.heap.size + 1 + 1, 24, #[.int .i64 a0, .int .i64 a1, .int .i64 a2, .int .i64 a3])) 4 rfl).cell 3⟩)
    go_region_held3 (fun u => Below w.heap.size w u ∧ Rws u [(w.heap.size + 1, 23, #[.string L2, .string R2]), (w.heap.size, 23, #[.string L1, .string R1]), (w.heap.size + 1 + 1 + 1 + 1, 25, #[.int .i64 c0, .int .i64 c1]), (w.heap.size + 1 + 1 + 1, 24, #[.int .i64 b0, .int .i64 b1, .int .i64 b2, .int .i64 b3]), (w.heap.size + 1 + 1, 24, #[.int .i64 a0, .int .i64 a1, .int .i64 a2, .int .i64 a3])] ∧ u.cell? ⟨w.heap.size + 1, 0, none⟩ = some (.string L2) ∧ u.cell? ⟨w.heap.size + 1, 1, none⟩ = some (.string R2) ∧ u.cell? ⟨w.heap.size, 0, none⟩ = some (.string L1) ∧ u.cell? ⟨w.heap.size, 1, none⟩ = some (.string R1) ∧ u.cell? ⟨w.heap.size + 1 + 1 + 1 + 1, 0, none⟩ = some (.int .i64 c0) ∧ u.cell? ⟨w.heap.size + 1 + 1 + 1 + 1, 1, none⟩ = some (.int .i64 c1) ∧ u.cell? ⟨w.heap.size + 1 + 1 + 1, 0, none⟩ = some (.int .i64 b0) ∧ u.cell? ⟨w.heap.size + 1 + 1 + 1, 1, none⟩ = some (.int .i64 b1) ∧ u.cell? ⟨w.heap.size + 1 + 1 + 1, 2, none⟩ = some (.int .i64 b2) ∧ u.cell? ⟨w.heap.size + 1 + 1 + 1, 3, none⟩ = some (.int .i64 b3) ∧ u.cell? ⟨w.heap.size + 1 + 1, 0, none⟩ = some (.int .i64 a0) ∧ u.cell? ⟨w.heap.size + 1 + 1, 1, none⟩ = some (.int .i64 a1) ∧ u.cell? ⟨w.heap.size + 1 + 1, 2, none⟩ = some (.int .i64 a2) ∧ u.cell? ⟨w.heap.size + 1 + 1, 3, none⟩ = some (.int .i64 a3)) (first | assumption | (exact mkS.out _ HB.out.drew HR.out.drew) | (exact mkS.out _ (below_to (‹Below w.heap.size w _ ∧ Rws _ _ ∧ _ ∧ _ ∧ _ ∧ _ ∧ _ ∧ _ ∧ _ ∧ _ ∧ _ ∧ _ ∧ _ ∧ _ ∧ _ ∧ _›).1 b5) ((‹Below w.heap.size w _ ∧ Rws _ _ ∧ _ ∧ _ ∧ _ ∧ _ ∧ _ ∧ _ ∧ _ ∧ _ ∧ _ ∧ _ ∧ _ ∧ _ ∧ _ ∧ _›).2.1.below b5)) | (exact mkS.out _ (below_to (‹Below w.heap.size w _ ∧ Rws _ _ ∧ _ ∧ _ ∧ _ ∧ _ ∧ _ ∧ _ ∧ _ ∧ _ ∧ _ ∧ _ ∧ _ ∧ _ ∧ _ ∧ _›).1 (new_below _ _)) ((‹Below w.heap.size w _ ∧ Rws _ _ ∧ _ ∧ _ ∧ _ ∧ _ ∧ _ ∧ _ ∧ _ ∧ _ ∧ _ ∧ _ ∧ _ ∧ _ ∧ _ ∧ _›).2.1.below (new_below _ _)))) (first | (go_at_call 13; ((with_reducible refine Calls.mono (K3.out _ ?hu) ?_); (case hu => exact HT.out.next (‹Below w.heap.size w _ ∧ Rws _ _ ∧ _ ∧ _ ∧ _ ∧ _ ∧ _ ∧ _ ∧ _ ∧ _ ∧ _ ∧ _ ∧ _ ∧ _ ∧ _ ∧ _›).1); rintro e v1 ⟨rfl, b5⟩)) | (go_at_call 13; ((with_reducible refine Calls.mono (K4.out _ ?hu) ?_); (case hu => exact HT.out.next (‹Below w.heap.size w _ ∧ Rws _ _ ∧ _ ∧ _ ∧ _ ∧ _ ∧ _ ∧ _ ∧ _ ∧ _ ∧ _ ∧ _ ∧ _ ∧ _ ∧ _ ∧ _›).1); rintro e v1 ⟨rfl, b5⟩)) | (go_at_call 14; ((with_reducible refine Calls.mono (K5.out _ ?hu) ?_); (case hu => exact HT.out.next (‹Below w.heap.size w _ ∧ Rws _ _ ∧ _ ∧ _ ∧ _ ∧ _ ∧ _ ∧ _ ∧ _ ∧ _ ∧ _ ∧ _ ∧ _ ∧ _ ∧ _ ∧ _›).1); rintro e v1 ⟨rfl, b5⟩)))
    all_goals
      have HX := Lib.hid (‹Below w.heap.size w _ ∧ Rws _ _ ∧ _ ∧ _ ∧ _ ∧ _ ∧ _ ∧ _ ∧ _ ∧ _ ∧ _ ∧ _ ∧ _ ∧ _ ∧ _ ∧ _›)
      go_wp2_with fail
      go_meet
      exact ⟨_, rfl, Lib.hid ((Rws.nil _).put (Row.new _ _ _)), Lib.hid HX.out.1⟩
  case rest =>
    as_aux_lemma =>
      obtain ⟨g, rfl, HR6, HB6⟩ := hcut
      replace HR := HR6
      replace HB := HB6
      clear HR6 HB6 SA K1 K2 K3 K4 K5
      have HEL : Hid (∀ i, i < 5 → ∃ E F, (#[.string L1, .string R1, .string L2, .string R2, .string NA, .string DA, .string NB, .string DB, .string NC, .string DC] : Array Value)[i * 2]? = some (.string E) ∧ (#[.string L1, .string R1, .string L2, .string R2, .string NA, .string DA, .string NB, .string DB, .string NC, .string DC] : Array Value)[i * 2 + 1]? = some (.string F) ∧ Short E F) := Lib.hid (fun i hi => by
        rcases (by omega : i = 0 ∨ i = 1 ∨ i = 2 ∨ i = 3 ∨ i = 4) with rfl | rfl | rfl | rfl | rfl
        · exact ⟨_, _, rfl, rfl, HS1.out⟩
        · exact ⟨_, _, rfl, rfl, HS2.out⟩
        · exact ⟨_, _, rfl, rfl, HS3.out⟩
        · exact ⟨_, _, rfl, rfl, HS4.out⟩
        · exact ⟨_, _, rfl, rfl, HS5.out⟩)
      obtain ⟨CS, hcs⟩ : ∃ CS : Array Value, #[.string L1, .string R1, .string L2, .string R2, .string NA, .string DA, .string NB, .string DB, .string NC, .string DC] = CS := ⟨_, rfl⟩
      obtain ⟨D0, hd0⟩ : ∃ D0, CS[1]? = some (.string D0) ∧ ∃ E0, Short E0 D0 := ⟨R1, by rw [← hcs]; rfl, L1, HS1.out⟩
      have HD0 := Lib.hid hd0
      rw [hcs] at HEL HR
      clear hcs hd0 HS1 HS2 HS3 HS4 HS5
      go_upto_region 6 with (fail)
      go_loopw [19] (fun i wr => ∃ k : Nat, k ≤ 5 ∧ i = .int .i64 (k : Int) ∧ Hid (Rws wr [(g, 23, CS)]) ∧ Hid (Below w.heap.size w wr)) (fun i _ => 5 - (intOf i).toNat)
      case atStart => exact ⟨0, by omega, by go_num, HR, HB⟩
      case round =>
        as_aux_lemma =>
          clear HR HB
          obtain ⟨i, hi, rfl, HR, HB⟩ := hrel
          by_cases hlt : i < 5
          · obtain ⟨E, F, d0, d1, HE⟩ := HEL.out i hlt
            go_upto_region 9 with (fail)
            go_loopw [20] (fun kv wq => ∃ k : Nat, k ≤ 5 ∧ kv = .int .i64 (k : Int) ∧ Hid (Rws wq [(g, 23, CS)]) ∧ Hid (Below w.heap.size w wq)) (fun kv _ => 5 - (intOf kv).toNat)
            case atStart => exact ⟨0, by omega, by go_num, HR, HB⟩
            case round =>
              as_aux_lemma =>
                clear HR HB
                obtain ⟨k, hk, rfl, HR, HB⟩ := hrel
                by_cases hlk : k < 5
                · obtain ⟨U, V, d2, d3, HU⟩ := HEL.out k hlk
                  obtain ⟨S0, T0, S1, T1, S2, T2, S3, T3, e0, e1, e2, e3, kk, q1, q2, q3, q4, q5, q6, q7⟩ := HE.pair HU
                  have F4 := Lib.hid q1; have P0 := Lib.hid q2; have P1 := Lib.hid q3; have P2 := Lib.hid q4; have P3 := Lib.hid q5; have PC := Lib.hid q6; have QC := Lib.hid q7
                  clear q1 q2 q3 q4 q5 q6 q7
                  unfold rvB fourR fourE at *
                  have hrow := HR.out.at (x := (g, 23, CS)) 0 rfl
                  have z0 : wr.cell? ⟨g, i * 2, none⟩ = some (.string E) := (hrow.cell _).trans d0
                  have z1 : wr.cell? ⟨g, i * 2 + 1, none⟩ = some (.string F) := (hrow.cell _).trans d1
                  have z2 : wr.cell? ⟨g, k * 2, none⟩ = some (.string U) := (hrow.cell _).trans d2
                  have z3 : wr.cell? ⟨g, k * 2 + 1, none⟩ = some (.string V) := (hrow.cell _).trans d3
                  have zg := hrow.lt
                  clear hrow
                  have HD := Lib.hid (And.intro d0 d1)
                  clear d0 d1 d2 d3
                  go_upto_region 13 with (fail)
                  replace HR := Lib.hid ((HR.out.cons 23 #[.string E, .string F]).cons 23 #[.string U, .string V])
                  replace HB := Lib.hid (below_to (below_to HB.out (new_below _ (.cells #[.string E, .string F] 23))) (new_below _ (.cells #[.string U, .string V] 23)))
                  simp only [World.size_alloc] at HR
                  obtain ⟨V12, hV12⟩ : ∃ W0, (wr.alloc (.cells #[.string E, .string F] 23)).alloc (.cells #[.string U, .string V] 23) = W0 := ⟨_, rfl⟩
                  rw [hV12] at HR HB ⊢
                  clear hV12
                  clear z0 z1 z2 z3 zg
                  have x0_0 : V12.cell? ⟨wr.heap.size + 1, 0, none⟩ = some (.string U) := (HR.out.at (x := (wr.heap.size + 1, 23, #[.string U, .string V])) 0 rfl).cell 0
                  have x0_1 : V12.cell? ⟨wr.heap.size + 1, 1, none⟩ = some (.string V) := (HR.out.at (x := (wr.heap.size + 1, 23, #[.string U, .string V])) 0 rfl).cell 1
                  have y0 : wr.heap.size + 1 < V12.heap.size := (HR.out.at (x := (wr.heap.size + 1, 23, #[.string U, .string V])) 0 rfl).lt
                  have x1_0 : V12.cell? ⟨wr.heap.size, 0, none⟩ = some (.string E) := (HR.out.at (x := (wr.heap.size, 23, #[.string E, .string F])) 1 rfl).cell 0
                  have x1_1 : V12.cell? ⟨wr.heap.size, 1, none⟩ = some (.string F) := (HR.out.at (x := (wr.heap.size, 23, #[.string E, .string F])) 1 rfl).cell 1
                  have y1 : wr.heap.size < V12.heap.size := (HR.out.at (x := (wr.heap.size, 23, #[.string E, .string F])) 1 rfl).lt
                  go_upto_region 16 with (first | (go_at_call 15; (with_reducible refine Calls.mono (F4.out _ (HT.out.next HB.out)) ?_); rintro e w4 ⟨rfl, hb⟩; have hq := HR.out.below hb; clear x0_0 x0_1 y0 x1_0 x1_1 y1; have x0_0 : w4.cell? ⟨wr.heap.size + 1, 0, none⟩ = some (.string U) := (hq.at (x := (wr.heap.size + 1, 23, #[.string U, .string V])) 0 rfl).cell 0; have x0_1 : w4.cell? ⟨wr.heap.size + 1, 1, none⟩ = some (.string V) := (hq.at (x := (wr.heap.size + 1, 23, #[.string U, .string V])) 0 rfl).cell 1; have y0 : wr.heap.size + 1 < w4.heap.size := (hq.at (x := (wr.heap.size + 1, 23, #[.string U, .string V])) 0 rfl).lt; have x1_0 : w4.cell? ⟨wr.heap.size, 0, none⟩ = some (.string E) := (hq.at (x := (wr.heap.size, 23, #[.string E, .string F])) 1 rfl).cell 0; have x1_1 : w4.cell? ⟨wr.heap.size, 1, none⟩ = some (.string F) := (hq.at (x := (wr.heap.size, 23, #[.string E, .string F])) 1 rfl).cell 1; have y1 : wr.heap.size < w4.heap.size := (hq.at (x := (wr.heap.size, 23, #[.string E, .string F])) 1 rfl).lt; replace hq := hq.cons 31 #[.string S0, .string T0, .string S1, .string T1, .string S2, .string T2, .string S3, .string T3]; replace hq := hq.cons 33 #[.int .i64 e0, .int .i64 e1, .int .i64 e2, .int .i64 e3]; (try simp only [World.size_alloc] at hq); have lw4 : w.heap.size ≤ w4.heap.size := (below_to HB.out hb).size; have LSZ : Hid (∀ x ∈ ([(w4.heap.size + 1, 33, #[.int .i64 e0, .int .i64 e1, .int .i64 e2, .int .i64 e3]), (w4.heap.size, 31, #[.string S0, .string T0, .string S1, .string T1, .string S2, .string T2, .string S3, .string T3]), (wr.heap.size + 1, 23, #[.string U, .string V]), (wr.heap.size, 23, #[.string E, .string F]), (g, 23, CS)] : List (Nat × TypeId × Array Value)), x.1 < w4.heap.size + 1 + 1) := Lib.hid (fun x hx => by have h := (hq x hx).lt; simp only [World.size_alloc] at h; exact h); replace HR := Lib.hid ((hq.cons 31 #[.string ⟨#[]⟩, .string ⟨#[]⟩, .string ⟨#[]⟩, .string ⟨#[]⟩, .string ⟨#[]⟩, .string ⟨#[]⟩, .string ⟨#[]⟩, .string ⟨#[]⟩]).cons 33 #[.int .i64 0, .int .i64 0, .int .i64 0, .int .i64 0]); replace HB := Lib.hid (below_to (below_to (below_to (below_to (below_to HB.out hb) (new_below _ (.cells #[.string S0, .string T0, .string S1, .string T1, .string S2, .string T2, .string S3, .string T3] 31))) (new_below _ (.cells #[.int .i64 e0, .int .i64 e1, .int .i64 e2, .int .i64 e3] 33))) (new_below _ (.cells #[.string ⟨#[]⟩, .string ⟨#[]⟩, .string ⟨#[]⟩, .string ⟨#[]⟩, .string ⟨#[]⟩, .string ⟨#[]⟩, .string ⟨#[]⟩, .string ⟨#[]⟩] 31))) (new_below _ (.cells #[.int .i64 0, .int .i64 0, .int .i64 0, .int .i64 0] 33))); clear hb hq))
                  (try simp only [World.size_alloc] at HR)
                  obtain ⟨V15, hV15⟩ : ∃ W0, (((w4.alloc (.cells #[.string S0, .string T0, .string S1, .string T1, .string S2, .string T2, .string S3, .string T3] 31)).alloc (.cells #[.int .i64 e0, .int .i64 e1, .int .i64 e2, .int .i64 e3] 33)).alloc (.cells #[.string ⟨#[]⟩, .string ⟨#[]⟩, .string ⟨#[]⟩, .string ⟨#[]⟩, .string ⟨#[]⟩, .string ⟨#[]⟩, .string ⟨#[]⟩, .string ⟨#[]⟩] 31)).alloc (.cells #[.int .i64 0, .int .i64 0, .int .i64 0, .int .i64 0] 33) = W0 := ⟨_, rfl⟩
                  rw [hV15] at HR HB ⊢
                  clear hV15
                  clear x0_0 x0_1 y0 x1_0 x1_1 y1
                  have x4_0 : V15.cell? ⟨wr.heap.size + 1, 0, none⟩ = some (.string U) := (HR.out.at (x := (wr.heap.size + 1, 23, #[.string U, .string V])) 4 rfl).cell 0
                  have x4_1 : V15.cell? ⟨wr.heap.size + 1, 1, none⟩ = some (.string V) := (HR.out.at (x := (wr.heap.size + 1, 23, #[.string U, .string V])) 4 rfl).cell 1
                  have y4 : wr.heap.size + 1 < V15.heap.size := (HR.out.at (x := (wr.heap.size + 1, 23, #[.string U, .string V])) 4 rfl).lt
                  have x5_0 : V15.cell? ⟨wr.heap.size, 0, none⟩ = some (.string E) := (HR.out.at (x := (wr.heap.size, 23, #[.string E, .string F])) 5 rfl).cell 0
                  have x5_1 : V15.cell? ⟨wr.heap.size, 1, none⟩ = some (.string F) := (HR.out.at (x := (wr.heap.size, 23, #[.string E, .string F])) 5 rfl).cell 1
                  have y5 : wr.heap.size < V15.heap.size := (HR.out.at (x := (wr.heap.size, 23, #[.string E, .string F])) 5 rfl).lt
                  have HA : Hid (Row V15 (w4.heap.size + 1 + 1) 31 #[.string ⟨#[]⟩, .string ⟨#[]⟩, .string ⟨#[]⟩, .string ⟨#[]⟩, .string ⟨#[]⟩, .string ⟨#[]⟩, .string ⟨#[]⟩, .string ⟨#[]⟩]) := Lib.hid (HR.out.at (x := (w4.heap.size + 1 + 1, 31, #[.string ⟨#[]⟩, .string ⟨#[]⟩, .string ⟨#[]⟩, .string ⟨#[]⟩, .string ⟨#[]⟩, .string ⟨#[]⟩, .string ⟨#[]⟩, .string ⟨#[]⟩])) 1 rfl)
                  have HE2 : Hid (Row V15 (w4.heap.size + 1 + 1 + 1) 33 #[.int .i64 0, .int .i64 0, .int .i64 0, .int .i64 0]) := Lib.hid (HR.out.at (x := (w4.heap.size + 1 + 1 + 1, 33, #[.int .i64 0, .int .i64 0, .int .i64 0, .int .i64 0])) 0 rfl)
                  replace HR : Hid (Rws V15 [(w4.heap.size + 1, 33, #[.int .i64 e0, .int .i64 e1, .int .i64 e2, .int .i64 e3]), (w4.heap.size, 31, #[.string S0, .string T0, .string S1, .string T1, .string S2, .string T2, .string S3, .string T3]), (wr.heap.size + 1, 23, #[.string U, .string V]), (wr.heap.size, 23, #[.string E, .string F]), (g, 23, CS)]) := Lib.hid (fun z hz => HR.out z (List.mem_cons_of_mem _ (List.mem_cons_of_mem _ hz)))
                  clear x4_0 x4_1 x5_0 x5_1 y4 y5
                  have x2_0 : V15.cell? ⟨wr.heap.size + 1, 0, none⟩ = some (.string U) := (HR.out.at (x := (wr.heap.size + 1, 23, #[.string U, .string V])) 2 rfl).cell 0
                  have x2_1 : V15.cell? ⟨wr.heap.size + 1, 1, none⟩ = some (.string V) := (HR.out.at (x := (wr.heap.size + 1, 23, #[.string U, .string V])) 2 rfl).cell 1
                  have y2 : wr.heap.size + 1 < V15.heap.size := (HR.out.at (x := (wr.heap.size + 1, 23, #[.string U, .string V])) 2 rfl).lt
                  have x3_0 : V15.cell? ⟨wr.heap.size, 0, none⟩ = some (.string E) := (HR.out.at (x := (wr.heap.size, 23, #[.string E, .string F])) 3 rfl).cell 0
                  have x3_1 : V15.cell? ⟨wr.heap.size, 1, none⟩ = some (.string F) := (HR.out.at (x := (wr.heap.size, 23, #[.string E, .string F])) 3 rfl).cell 1
                  have y3 : wr.heap.size < V15.heap.size := (HR.out.at (x := (wr.heap.size, 23, #[.string E, .string F])) 3 rfl).lt
                  go_upto_region 17 with (first | (go_at_call 16; (with_reducible refine Calls.mono (P0.out _ (HT.out.next HB.out)) ?_); rintro e w5 ⟨rfl, hb⟩; have hq := HR.out.below hb; clear x2_0 x2_1 y2 x3_0 x3_1 y3; have x2_0 : w5.cell? ⟨wr.heap.size + 1, 0, none⟩ = some (.string U) := (hq.at (x := (wr.heap.size + 1, 23, #[.string U, .string V])) 2 rfl).cell 0; have x2_1 : w5.cell? ⟨wr.heap.size + 1, 1, none⟩ = some (.string V) := (hq.at (x := (wr.heap.size + 1, 23, #[.string U, .string V])) 2 rfl).cell 1; have y2 : wr.heap.size + 1 < w5.heap.size := (hq.at (x := (wr.heap.size + 1, 23, #[.string U, .string V])) 2 rfl).lt; have x3_0 : w5.cell? ⟨wr.heap.size, 0, none⟩ = some (.string E) := (hq.at (x := (wr.heap.size, 23, #[.string E, .string F])) 3 rfl).cell 0; have x3_1 : w5.cell? ⟨wr.heap.size, 1, none⟩ = some (.string F) := (hq.at (x := (wr.heap.size, 23, #[.string E, .string F])) 3 rfl).cell 1; have y3 : wr.heap.size < w5.heap.size := (hq.at (x := (wr.heap.size, 23, #[.string E, .string F])) 3 rfl).lt; have ha := HA.out.below hb HA.out.lt; have he := HE2.out.below hb HE2.out.lt; have o0 : w5.cell? ⟨w4.heap.size + 1 + 1, 0, none⟩ = some (.string ⟨#[]⟩) := ha.cell 0; have o1 : w5.cell? ⟨w4.heap.size + 1 + 1, 1, none⟩ = some (.string ⟨#[]⟩) := ha.cell 1; have o2 : w5.cell? ⟨w4.heap.size + 1 + 1 + 1, 0, none⟩ = some (.int .i64 0) := he.cell 0; have f0 := ha.free 0; have f1 := ha.free 1; have f2 := he.free 0; replace HA := Lib.hid (((ha.put 0 (.string S0)).put 1 (.string T0)).far (p := ⟨w4.heap.size + 1 + 1 + 1, 0, none⟩) (by dsimp only; omega) (.int .i64 e0)); replace HE2 := Lib.hid (((he.far (p := ⟨w4.heap.size + 1 + 1, 0, none⟩) (by dsimp only; omega) (.string S0)).far (p := ⟨w4.heap.size + 1 + 1, 1, none⟩) (by dsimp only; omega) (.string T0)).put 0 (.int .i64 e0)); replace HR := Lib.hid (hq.far3 (w4.heap.size + 1 + 1) LSZ.out (p := ⟨w4.heap.size + 1 + 1, 0, none⟩) (q := ⟨w4.heap.size + 1 + 1, 1, none⟩) (r := ⟨w4.heap.size + 1 + 1 + 1, 0, none⟩) (by dsimp only; omega) (by dsimp only; omega) (by dsimp only; omega) (.string S0) (.string T0) (.int .i64 e0)); replace HB := Lib.hid ((((below_to HB.out hb).setCell (p := ⟨w4.heap.size + 1 + 1, 0, none⟩) (by dsimp only; omega) (.string S0)).setCell (p := ⟨w4.heap.size + 1 + 1, 1, none⟩) (by dsimp only; omega) (.string T0)).setCell (p := ⟨w4.heap.size + 1 + 1 + 1, 0, none⟩) (by dsimp only; omega) (.int .i64 e0)); clear hb hq ha he))
                  obtain ⟨U1, hU1⟩ : ∃ W', ((w5.setCell ⟨w4.heap.size + 1 + 1, 0, none⟩ (.string S0)).setCell ⟨w4.heap.size + 1 + 1, 1, none⟩ (.string T0)).setCell ⟨w4.heap.size + 1 + 1 + 1, 0, none⟩ (.int .i64 e0) = W' := ⟨_, rfl⟩
                  rw [hU1] at HR HB HA HE2 ⊢
                  clear hU1 o0 o1 o2 f0 f1 f2
                  clear x2_0 x2_1 y2 x3_0 x3_1 y3
                  have x2_0 : U1.cell? ⟨wr.heap.size + 1, 0, none⟩ = some (.string U) := (HR.out.at (x := (wr.heap.size + 1, 23, #[.string U, .string V])) 2 rfl).cell 0
                  have x2_1 : U1.cell? ⟨wr.heap.size + 1, 1, none⟩ = some (.string V) := (HR.out.at (x := (wr.heap.size + 1, 23, #[.string U, .string V])) 2 rfl).cell 1
                  have y2 : wr.heap.size + 1 < U1.heap.size := (HR.out.at (x := (wr.heap.size + 1, 23, #[.string U, .string V])) 2 rfl).lt
                  have x3_0 : U1.cell? ⟨wr.heap.size, 0, none⟩ = some (.string E) := (HR.out.at (x := (wr.heap.size, 23, #[.string E, .string F])) 3 rfl).cell 0
                  have x3_1 : U1.cell? ⟨wr.heap.size, 1, none⟩ = some (.string F) := (HR.out.at (x := (wr.heap.size, 23, #[.string E, .string F])) 3 rfl).cell 1
                  have y3 : wr.heap.size < U1.heap.size := (HR.out.at (x := (wr.heap.size, 23, #[.string E, .string F])) 3 rfl).lt
                  clear w5
                  go_upto_region 18 with (first | (go_at_call 17; (with_reducible refine Calls.mono (P1.out _ (HT.out.next HB.out)) ?_); rintro e w5 ⟨rfl, hb⟩; have hq := HR.out.below hb; clear x2_0 x2_1 y2 x3_0 x3_1 y3; have x2_0 : w5.cell? ⟨wr.heap.size + 1, 0, none⟩ = some (.string U) := (hq.at (x := (wr.heap.size + 1, 23, #[.string U, .string V])) 2 rfl).cell 0; have x2_1 : w5.cell? ⟨wr.heap.size + 1, 1, none⟩ = some (.string V) := (hq.at (x := (wr.heap.size + 1, 23, #[.string U, .string V])) 2 rfl).cell 1; have y2 : wr.heap.size + 1 < w5.heap.size := (hq.at (x := (wr.heap.size + 1, 23, #[.string U, .string V])) 2 rfl).lt; have x3_0 : w5.cell? ⟨wr.heap.size, 0, none⟩ = some (.string E) := (hq.at (x := (wr.heap.size, 23, #[.string E, .string F])) 3 rfl).cell 0; have x3_1 : w5.cell? ⟨wr.heap.size, 1, none⟩ = some (.string F) := (hq.at (x := (wr.heap.size, 23, #[.string E, .string F])) 3 rfl).cell 1; have y3 : wr.heap.size < w5.heap.size := (hq.at (x := (wr.heap.size, 23, #[.string E, .string F])) 3 rfl).lt; have ha := HA.out.below hb HA.out.lt; have he := HE2.out.below hb HE2.out.lt; have o0 : w5.cell? ⟨w4.heap.size + 1 + 1, 2, none⟩ = some (.string ⟨#[]⟩) := ha.cell 2; have o1 : w5.cell? ⟨w4.heap.size + 1 + 1, 3, none⟩ = some (.string ⟨#[]⟩) := ha.cell 3; have o2 : w5.cell? ⟨w4.heap.size + 1 + 1 + 1, 1, none⟩ = some (.int .i64 0) := he.cell 1; have f0 := ha.free 2; have f1 := ha.free 3; have f2 := he.free 1; replace HA := Lib.hid (((ha.put 2 (.string S1)).put 3 (.string T1)).far (p := ⟨w4.heap.size + 1 + 1 + 1, 1, none⟩) (by dsimp only; omega) (.int .i64 e1)); replace HE2 := Lib.hid (((he.far (p := ⟨w4.heap.size + 1 + 1, 2, none⟩) (by dsimp only; omega) (.string S1)).far (p := ⟨w4.heap.size + 1 + 1, 3, none⟩) (by dsimp only; omega) (.string T1)).put 1 (.int .i64 e1)); replace HR := Lib.hid (hq.far3 (w4.heap.size + 1 + 1) LSZ.out (p := ⟨w4.heap.size + 1 + 1, 2, none⟩) (q := ⟨w4.heap.size + 1 + 1, 3, none⟩) (r := ⟨w4.heap.size + 1 + 1 + 1, 1, none⟩) (by dsimp only; omega) (by dsimp only; omega) (by dsimp only; omega) (.string S1) (.string T1) (.int .i64 e1)); replace HB := Lib.hid ((((below_to HB.out hb).setCell (p := ⟨w4.heap.size + 1 + 1, 2, none⟩) (by dsimp only; omega) (.string S1)).setCell (p := ⟨w4.heap.size + 1 + 1, 3, none⟩) (by dsimp only; omega) (.string T1)).setCell (p := ⟨w4.heap.size + 1 + 1 + 1, 1, none⟩) (by dsimp only; omega) (.int .i64 e1)); clear hb hq ha he))
                  obtain ⟨U2, hU2⟩ : ∃ W', ((w5.setCell ⟨w4.heap.size + 1 + 1, 2, none⟩ (.string S1)).setCell ⟨w4.heap.size + 1 + 1, 3, none⟩ (.string T1)).setCell ⟨w4.heap.size + 1 + 1 + 1, 1, none⟩ (.int .i64 e1) = W' := ⟨_, rfl⟩
                  rw [hU2] at HR HB HA HE2 ⊢
                  clear hU2 o0 o1 o2 f0 f1 f2
                  clear x2_0 x2_1 y2 x3_0 x3_1 y3
                  have x2_0 : U2.cell? ⟨wr.heap.size + 1, 0, none⟩ = some (.string U) := (HR.out.at (x := (wr.heap.size + 1, 23, #[.string U, .string V])) 2 rfl).cell 0
                  have x2_1 : U2.cell? ⟨wr.heap.size + 1, 1, none⟩ = some (.string V) := (HR.out.at (x := (wr.heap.size + 1, 23, #[.string U, .string V])) 2 rfl).cell 1
                  have y2 : wr.heap.size + 1 < U2.heap.size := (HR.out.at (x := (wr.heap.size + 1, 23, #[.string U, .string V])) 2 rfl).lt
                  have x3_0 : U2.cell? ⟨wr.heap.size, 0, none⟩ = some (.string E) := (HR.out.at (x := (wr.heap.size, 23, #[.string E, .string F])) 3 rfl).cell 0
                  have x3_1 : U2.cell? ⟨wr.heap.size, 1, none⟩ = some (.string F) := (HR.out.at (x := (wr.heap.size, 23, #[.string E, .string F])) 3 rfl).cell 1
                  have y3 : wr.heap.size < U2.heap.size := (HR.out.at (x := (wr.heap.size, 23, #[.string E, .string F])) 3 rfl).lt
                  clear w5
                  go_upto_region 19 with (first | (go_at_call 18; (with_reducible refine Calls.mono (P2.out _ (HT.out.next HB.out)) ?_); rintro e w5 ⟨rfl, hb⟩; have hq := HR.out.below hb; clear x2_0 x2_1 y2 x3_0 x3_1 y3; have x2_0 : w5.cell? ⟨wr.heap.size + 1, 0, none⟩ = some (.string U) := (hq.at (x := (wr.heap.size + 1, 23, #[.string U, .string V])) 2 rfl).cell 0; have x2_1 : w5.cell? ⟨wr.heap.size + 1, 1, none⟩ = some (.string V) := (hq.at (x := (wr.heap.size + 1, 23, #[.string U, .string V])) 2 rfl).cell 1; have y2 : wr.heap.size + 1 < w5.heap.size := (hq.at (x := (wr.heap.size + 1, 23, #[.string U, .string V])) 2 rfl).lt; have x3_0 : w5.cell? ⟨wr.heap.size, 0, none⟩ = some (.string E) := (hq.at (x := (wr.heap.size, 23, #[.string E, .string F])) 3 rfl).cell 0; have x3_1 : w5.cell? ⟨wr.heap.size, 1, none⟩ = some (.string F) := (hq.at (x := (wr.heap.size, 23, #[.string E, .string F])) 3 rfl).cell 1; have y3 : wr.heap.size < w5.heap.size := (hq.at (x := (wr.heap.size, 23, #[.string E, .string F])) 3 rfl).lt; have ha := HA.out.below hb HA.out.lt; have he := HE2.out.below hb HE2.out.lt; have o0 : w5.cell? ⟨w4.heap.size + 1 + 1, 4, none⟩ = some (.string ⟨#[]⟩) := ha.cell 4; have o1 : w5.cell? ⟨w4.heap.size + 1 + 1, 5, none⟩ = some (.string ⟨#[]⟩) := ha.cell 5; have o2 : w5.cell? ⟨w4.heap.size + 1 + 1 + 1, 2, none⟩ = some (.int .i64 0) := he.cell 2; have f0 := ha.free 4; have f1 := ha.free 5; have f2 := he.free 2; replace HA := Lib.hid (((ha.put 4 (.string S2)).put 5 (.string T2)).far (p := ⟨w4.heap.size + 1 + 1 + 1, 2, none⟩) (by dsimp only; omega) (.int .i64 e2)); replace HE2 := Lib.hid (((he.far (p := ⟨w4.heap.size + 1 + 1, 4, none⟩) (by dsimp only; omega) (.string S2)).far (p := ⟨w4.heap.size + 1 + 1, 5, none⟩) (by dsimp only; omega) (.string T2)).put 2 (.int .i64 e2)); replace HR := Lib.hid (hq.far3 (w4.heap.size + 1 + 1) LSZ.out (p := ⟨w4.heap.size + 1 + 1, 4, none⟩) (q := ⟨w4.heap.size + 1 + 1, 5, none⟩) (r := ⟨w4.heap.size + 1 + 1 + 1, 2, none⟩) (by dsimp only; omega) (by dsimp only; omega) (by dsimp only; omega) (.string S2) (.string T2) (.int .i64 e2)); replace HB := Lib.hid ((((below_to HB.out hb).setCell (p := ⟨w4.heap.size + 1 + 1, 4, none⟩) (by dsimp only; omega) (.string S2)).setCell (p := ⟨w4.heap.size + 1 + 1, 5, none⟩) (by dsimp only; omega) (.string T2)).setCell (p := ⟨w4.heap.size + 1 + 1 + 1, 2, none⟩) (by dsimp only; omega) (.int .i64 e2)); clear hb hq ha he))
                  obtain ⟨U3, hU3⟩ : ∃ W', ((w5.setCell ⟨w4.heap.size + 1 + 1, 4, none⟩ (.string S2)).setCell ⟨w4.heap.size + 1 + 1, 5, none⟩ (.string T2)).setCell ⟨w4.heap.size + 1 + 1 + 1, 2, none⟩ (.int .i64 e2) = W' := ⟨_, rfl⟩
                  rw [hU3] at HR HB HA HE2 ⊢
                  clear hU3 o0 o1 o2 f0 f1 f2
                  clear x2_0 x2_1 y2 x3_0 x3_1 y3
                  have x2_0 : U3.cell? ⟨wr.heap.size + 1, 0, none⟩ = some (.string U) := (HR.out.at (x := (wr.heap.size + 1, 23, #[.string U, .string V])) 2 rfl).cell 0
                  have x2_1 : U3.cell? ⟨wr.heap.size + 1, 1, none⟩ = some (.string V) := (HR.out.at (x := (wr.heap.size + 1, 23, #[.string U, .string V])) 2 rfl).cell 1
                  have y2 : wr.heap.size + 1 < U3.heap.size := (HR.out.at (x := (wr.heap.size + 1, 23, #[.string U, .string V])) 2 rfl).lt
                  have x3_0 : U3.cell? ⟨wr.heap.size, 0, none⟩ = some (.string E) := (HR.out.at (x := (wr.heap.size, 23, #[.string E, .string F])) 3 rfl).cell 0
                  have x3_1 : U3.cell? ⟨wr.heap.size, 1, none⟩ = some (.string F) := (HR.out.at (x := (wr.heap.size, 23, #[.string E, .string F])) 3 rfl).cell 1
                  have y3 : wr.heap.size < U3.heap.size := (HR.out.at (x := (wr.heap.size, 23, #[.string E, .string F])) 3 rfl).lt
                  clear w5
                  go_upto_region 20 with (first | (go_at_call 19; (with_reducible refine Calls.mono (P3.out _ (HT.out.next HB.out)) ?_); rintro e w5 ⟨rfl, hb⟩; have hq := HR.out.below hb; clear x2_0 x2_1 y2 x3_0 x3_1 y3; have x2_0 : w5.cell? ⟨wr.heap.size + 1, 0, none⟩ = some (.string U) := (hq.at (x := (wr.heap.size + 1, 23, #[.string U, .string V])) 2 rfl).cell 0; have x2_1 : w5.cell? ⟨wr.heap.size + 1, 1, none⟩ = some (.string V) := (hq.at (x := (wr.heap.size + 1, 23, #[.string U, .string V])) 2 rfl).cell 1; have y2 : wr.heap.size + 1 < w5.heap.size := (hq.at (x := (wr.heap.size + 1, 23, #[.string U, .string V])) 2 rfl).lt; have x3_0 : w5.cell? ⟨wr.heap.size, 0, none⟩ = some (.string E) := (hq.at (x := (wr.heap.size, 23, #[.string E, .string F])) 3 rfl).cell 0; have x3_1 : w5.cell? ⟨wr.heap.size, 1, none⟩ = some (.string F) := (hq.at (x := (wr.heap.size, 23, #[.string E, .string F])) 3 rfl).cell 1; have y3 : wr.heap.size < w5.heap.size := (hq.at (x := (wr.heap.size, 23, #[.string E, .string F])) 3 rfl).lt; have ha := HA.out.below hb HA.out.lt; have he := HE2.out.below hb HE2.out.lt; have o0 : w5.cell? ⟨w4.heap.size + 1 + 1, 6, none⟩ = some (.string ⟨#[]⟩) := ha.cell 6; have o1 : w5.cell? ⟨w4.heap.size + 1 + 1, 7, none⟩ = some (.string ⟨#[]⟩) := ha.cell 7; have o2 : w5.cell? ⟨w4.heap.size + 1 + 1 + 1, 3, none⟩ = some (.int .i64 0) := he.cell 3; have f0 := ha.free 6; have f1 := ha.free 7; have f2 := he.free 3; replace HA := Lib.hid (((ha.put 6 (.string S3)).put 7 (.string T3)).far (p := ⟨w4.heap.size + 1 + 1 + 1, 3, none⟩) (by dsimp only; omega) (.int .i64 e3)); replace HE2 := Lib.hid (((he.far (p := ⟨w4.heap.size + 1 + 1, 6, none⟩) (by dsimp only; omega) (.string S3)).far (p := ⟨w4.heap.size + 1 + 1, 7, none⟩) (by dsimp only; omega) (.string T3)).put 3 (.int .i64 e3)); replace HR := Lib.hid (hq.far3 (w4.heap.size + 1 + 1) LSZ.out (p := ⟨w4.heap.size + 1 + 1, 6, none⟩) (q := ⟨w4.heap.size + 1 + 1, 7, none⟩) (r := ⟨w4.heap.size + 1 + 1 + 1, 3, none⟩) (by dsimp only; omega) (by dsimp only; omega) (by dsimp only; omega) (.string S3) (.string T3) (.int .i64 e3)); replace HB := Lib.hid ((((below_to HB.out hb).setCell (p := ⟨w4.heap.size + 1 + 1, 6, none⟩) (by dsimp only; omega) (.string S3)).setCell (p := ⟨w4.heap.size + 1 + 1, 7, none⟩) (by dsimp only; omega) (.string T3)).setCell (p := ⟨w4.heap.size + 1 + 1 + 1, 3, none⟩) (by dsimp only; omega) (.int .i64 e3)); clear hb hq ha he))
                  obtain ⟨U4, hU4⟩ : ∃ W', ((w5.setCell ⟨w4.heap.size + 1 + 1, 6, none⟩ (.string S3)).setCell ⟨w4.heap.size + 1 + 1, 7, none⟩ (.string T3)).setCell ⟨w4.heap.size + 1 + 1 + 1, 3, none⟩ (.int .i64 e3) = W' := ⟨_, rfl⟩
                  rw [hU4] at HR HB HA HE2 ⊢
                  clear hU4 o0 o1 o2 f0 f1 f2
                  clear x2_0 x2_1 y2 x3_0 x3_1 y3
                  have x2_0 : U4.cell? ⟨wr.heap.size + 1, 0, none⟩ = some (.string U) := (HR.out.at (x := (wr.heap.size + 1, 23, #[.string U, .string V])) 2 rfl).cell 0
                  have x2_1 : U4.cell? ⟨wr.heap.size + 1, 1, none⟩ = some (.string V) := (HR.out.at (x := (wr.heap.size + 1, 23, #[.string U, .string V])) 2 rfl).cell 1
                  have y2 : wr.heap.size + 1 < U4.heap.size := (HR.out.at (x := (wr.heap.size + 1, 23, #[.string U, .string V])) 2 rfl).lt
                  have x3_0 : U4.cell? ⟨wr.heap.size, 0, none⟩ = some (.string E) := (HR.out.at (x := (wr.heap.size, 23, #[.string E, .string F])) 3 rfl).cell 0
                  have x3_1 : U4.cell? ⟨wr.heap.size, 1, none⟩ = some (.string F) := (HR.out.at (x := (wr.heap.size, 23, #[.string E, .string F])) 3 rfl).cell 1
                  have y3 : wr.heap.size < U4.heap.size := (HR.out.at (x := (wr.heap.size, 23, #[.string E, .string F])) 3 rfl).lt
                  clear w5
                  have HRZ : Hid (Rws U4 [(w4.heap.size + 1 + 1 + 1, 33, #[.int .i64 e0, .int .i64 e1, .int .i64 e2, .int .i64 e3]), (w4.heap.size + 1 + 1, 31, #[.string S0, .string T0, .string S1, .string T1, .string S2, .string T2, .string S3, .string T3]), (w4.heap.size + 1, 33, #[.int .i64 e0, .int .i64 e1, .int .i64 e2, .int .i64 e3]), (w4.heap.size, 31, #[.string S0, .string T0, .string S1, .string T1, .string S2, .string T2, .string S3, .string T3]), (wr.heap.size + 1, 23, #[.string U, .string V]), (wr.heap.size, 23, #[.string E, .string F]), (g, 23, CS)]) := Lib.hid ((HR.out.put HA.out).put HE2.out)
                  clear HR HA HE2 x2_0 x2_1 y2 x3_0 x3_1 y3
                  have HR := Lib.hid HRZ.out
                  clear HRZ
                  go_cut [133] from 65 to 133 (fun s wx => s = .bool false ∧ Hid (Rws wx [(g, 23, CS)]) ∧ Hid (Below w.heap.size w wx))
                  case first =>
                    as_aux_lemma =>
                      have mkS : Hid (∀ u, Below w.heap.size w u → Rws u [(w4.heap.size + 1 + 1 + 1, 33, #[.int .i64 e0, .int .i64 e1, .int .i64 e2, .int .i64 e3]), (w4.heap.size + 1 + 1, 31, #[.string S0, .string T0, .string S1, .string T1, .string S2, .string T2, .string S3, .string T3]), (w4.heap.size + 1, 33, #[.int .i64 e0, .int .i64 e1, .int .i64 e2, .int .i64 e3]), (w4.heap.size, 31, #[.string S0, .string T0, .string S1, .string T1, .string S2, .string T2, .string S3, .string T3]), (wr.heap.size + 1, 23, #[.string U, .string V]), (wr.heap.size, 23, #[.string E, .string F]), (g, 23, CS)] → Below w.heap.size w u ∧ Rws u [(w4.heap.size + 1 + 1 + 1, 33, #[.int .i64 e0, .int .i64 e1, .int .i64 e2, .int .i64 e3]), (w4.heap.size + 1 + 1, 31, #[.string S0, .string T0, .string S1, .string T1, .string S2, .string T2, .string S3, .string T3]), (w4.heap.size + 1, 33, #[.int .i64 e0, .int .i64 e1, .int .i64 e2, .int .i64 e3]), (w4.heap.size, 31, #[.string S0, .string T0, .string S1, .string T1, .string S2, .string T2, .string S3, .string T3]), (wr.heap.size + 1, 23, #[.string U, .string V]), (wr.heap.size, 23, #[.string E, .string F]), (g, 23, CS)] ∧ u.cell? ⟨w4.heap.size + 1 + 1 + 1, 0, none⟩ = some (.int .i64 e0) ∧ u.cell? ⟨w4.heap.size + 1 + 1 + 1, 1, none⟩ = some (.int .i64 e1) ∧ u.cell? ⟨w4.heap.size + 1 + 1 + 1, 2, none⟩ = some (.int .i64 e2) ∧ u.cell? ⟨w4.heap.size + 1 + 1 + 1, 3, none⟩ = some (.int .i64 e3) ∧ u.cell? ⟨w4.heap.size + 1 + 1, 0, none⟩ = some (.string S0) ∧ u.cell? ⟨w4.heap.size + 1 + 1, 1, none⟩ = some (.string T0) ∧ u.cell? ⟨w4.heap.size + 1 + 1, 2, none⟩ = some (.string S1) ∧ u.cell? ⟨w4.heap.size + 1 + 1, 3, none⟩ = some (.string T1) ∧ u.cell? ⟨w4.heap.size + 1 + 1, 4, none⟩ = some (.string S2) ∧ u.cell? ⟨w4.heap.size + 1 + 1, 5, none⟩ = some (.string T2) ∧ u.cell? ⟨w4.heap.size + 1 + 1, 6, none⟩ = some (.string S3) ∧ u.cell? ⟨w4.heap.size + 1 + 1, 7, none⟩ = some (.string T3) ∧ u.cell? ⟨w4.heap.size + 1, 0, none⟩ = some (.int .i64 e0) ∧ u.cell? ⟨w4.heap.size + 1, 1, none⟩ = some (.int .i64 e1) ∧ u.cell? ⟨w4.heap.size + 1, 2, none⟩ = some (.int .i64 e2) ∧ u.cell? ⟨w4.heap.size + 1, 3, none⟩ = some (.int .i64 e3) ∧ u.cell? ⟨w4.heap.size, 0, none⟩ = some (.string S0) ∧ u.cell? ⟨w4.heap.size, 1, none⟩ = some (.string T0) ∧ u.cell? ⟨w4.heap.size, 2, none⟩ = some (.string S1) ∧ u.cell? ⟨w4.heap.size, 3, none⟩ = some (.string T1) ∧ u.cell? ⟨w4.heap.size, 4, none⟩ = some (.string S2) ∧ u.cell? ⟨w4.heap.size, 5, none⟩ = some (.string T2) ∧ u.cell? ⟨w4.heap.size, 6, none⟩ = some (.string S3) ∧ u.cell? ⟨w4.heap.size, 7, none⟩ = some (.string T3) ∧ u.cell? ⟨wr.heap.size + 1, 0, none⟩ = some (.string U) ∧ u.cell? ⟨wr.heap.size + 1, 1, none⟩ = some (.string V) ∧ u.cell? ⟨wr.heap.size, 0, none⟩ = some (.string E) ∧ u.cell? ⟨wr.heap.size, 1, none⟩ = some (.string F)) := Lib.hid (fun u h1 h2 => ⟨h1, h2, (h2.at (x := (w4.heap.size + 1 + 1 + 1, 33, #[.int .i64 e0, .int .i64 e1, .int .i64 e2, .int .i64 e3])) 0 rfl).cell 0, (h2.at (x := (w4.heap.size + 1 + 1 + 1, 33, #[.int .i64 e0, .int .i64 e1, .int .i64 e2, .int .i64 e3])) 0 rfl).cell 1, (h2.at (x := (w4.heap.size + 1 + 1 + 1, 33, #[.int .i64 e0, .int .i64 e1, .int .i64 e2, .int .i64 e3])) 0 rfl).cell 2, (h2.at (x := (w4.heap.size + 1 + 1 + 1, 33, #[.int .i64 e0, .int .i64 e1, .int .i64 e2, .int .i64 e3])) 0 rfl).cell 3, (h2.at (x := (w4.heap.size + 1 + 1, 31, #[.string S0, .string T0, .string S1, .string T1, .string S2, .string T2, .string S3, .string T3])) 1 rfl).cell 0, (h2.at (x := (w4.heap.size + 1 + 1, 31, #[.string S0, .string T0, .string S1, .string T1, .string S2, .string T2, .string S3, .string T3])) 1 rfl).cell 1, (h2.at (x := (w4.heap.size + 1 + 1, 31, #[.string S0, .string T0, .string S1, .string T1, .string S2, .string T2, .string S3, .string T3])) 1 rfl).cell 2, (h2.at (x := (w4.heap.size + 1 + 1, 31, #[.string S0, .string T0, .string S1, .string T1, .string S2, .string T2, .string S3, .string T3])) 1 rfl).cell 3, (h2.at (x := (w4.heap.size + 1 + 1, 31, #[.string S0, .string T0, .string S1, .string T1, .string S2, .string T2, .string S3, .string T3])) 1 rfl).cell 4, (h2.at (x := (w4.heap.size + 1 + 1, 31, #[.string S0, .string T0, .string S1, .string T1, .string S2, .string T2, .string S3, .string T3])) 1 rfl).cell 5, (h2.at (x := (w4.heap.size + 1 + 1, 31, #[.string S0, .string T0, .string S1, .string T1, .string S2, .string T2, .string S3, .string T3])) 1 rfl).cell 6, (h2.at (x := (w4.heap.size + 1 + 1, 31, #[.string S0, .string T0, .string S1, .string T1, .string S2, .string T2, .string S3, .string T3])) 1 rfl).cell 7, (h2.at (x := (w4.heap.size + 1, 33, #[.int .i64 e0, .int .i64 e1, .int .i64 e2, .int .i64 e3])) 2 rfl).cell 0, (h2.at (x := (w4.heap.size + 1, 33, #[.int .i64 e0, .int .i64 e1, .int .i64 e2, .int .i64 e3])) 2 rfl).cell 1, (h2.at (x := (w4.heap.size + 1, 33, #[.int .i64 e0, .int .i64 e1, .int .i64 e2, .int .i64 e3])) 2 rfl).cell 2, (h2.at (x := (w4.heap.size + 1, 33, #[.int .i64 e0, .int .i64 e1, .int .i64 e2, .int .i64 e3])) 2 rfl).cell 3, (h2.at (x := (w4.heap.size, 31, #[.string S0, .string T0, .string S1, .string T1, .string S2, .string T2, .string S3, .string T3])) 3 rfl).cell 0, (h2.at (x := (w4.heap.size, 31, #[.string S0, .string T0, .string S1, .string T1, .string S2, .string T2, .string S3, .string T3])) 3 rfl).cell 1, (h2.at (x := (w4.heap.size, 31, #[.string S0, .string T0, .string S1, .string T1, .string S2, .string T2, .string S3, .string T3])) 3 rfl).cell 2, (h2.at (x := (w4.heap.size, 31, #[.string S0, .string T0, .string S1, .string T1, .string S2, .string T2, .string S3, .string T3])) 3 rfl).cell 3, (h2.at (x := (w4.heap.size, 31, #[.string S0, .string T0, .string S1, .string T1, .string S2, .string T2, .string S3, .string T3])) 3 rfl).cell 4, (h2.at (x := (w4.heap.size, 31, #[.string S0, .string T0, .string S1, .string T1, .string S2, .string T2, .string S3, .string T3])) 3 rfl).cell 5, (h2.at (x := (w4.heap.size, 31, #[.string S0, .string T0, .string S1, .string T1, .string S2, .string T2, .string S3, .string T3])) 3 rfl).cell 6, (h2.at (x := (w4.heap.size, 31, #[.string S0, .string T0, .string S1, .string T1, .string S2, .string T2, .string S3, .string T3])) 3 rfl).cell 7, (h2.at (x := (wr.heap.size + 1, 23, #[.string U, .string V])) 4 rfl).cell 0, (h2.at (x := (wr.heap.size + 1, 23, #[.string U, .string V])) 4 rfl).cell 1, (h2.at (x := (wr.heap.size, 23, #[.string E, .string F])) 5 rfl).cell 0, (h2.at (x := (wr.heap.size, 23, #[.string E, .string F])) 5 rfl).cell 1⟩)
                      have nq1 := fun w => neq_ratios S0 T0 S1 T1 S2 T2 S3 T3 w
                      have nq2 := fun w => neq_errnos e0 e1 e2 e3 w
                      go_region_held3 (fun u => Below w.heap.size w u ∧ Rws u [(w4.heap.size + 1 + 1 + 1, 33, #[.int .i64 e0, .int .i64 e1, .int .i64 e2, .int .i64 e3]), (w4.heap.size + 1 + 1, 31, #[.string S0, .string T0, .string S1, .string T1, .string S2, .string T2, .string S3, .string T3]), (w4.heap.size + 1, 33, #[.int .i64 e0, .int .i64 e1, .int .i64 e2, .int .i64 e3]), (w4.heap.size, 31, #[.string S0, .string T0, .string S1, .string T1, .string S2, .string T2, .string S3, .string T3]), (wr.heap.size + 1, 23, #[.string U, .string V]), (wr.heap.size, 23, #[.string E, .string F]), (g, 23, CS)] ∧ u.cell? ⟨w4.heap.size + 1 + 1 + 1, 0, none⟩ = some (.int .i64 e0) ∧ u.cell? ⟨w4.heap.size + 1 + 1 + 1, 1, none⟩ = some (.int .i64 e1) ∧ u.cell? ⟨w4.heap.size + 1 + 1 + 1, 2, none⟩ = some (.int .i64 e2) ∧ u.cell? ⟨w4.heap.size + 1 + 1 + 1, 3, none⟩ = some (.int .i64 e3) ∧ u.cell? ⟨w4.heap.size + 1 + 1, 0, none⟩ = some (.string S0) ∧ u.cell? ⟨w4.heap.size + 1 + 1, 1, none⟩ = some (.string T0) ∧ u.cell? ⟨w4.heap.size + 1 + 1, 2, none⟩ = some (.string S1) ∧ u.cell? ⟨w4.heap.size + 1 + 1, 3, none⟩ = some (.string T1) ∧ u.cell? ⟨w4.heap.size + 1 + 1, 4, none⟩ = some (.string S2) ∧ u.cell? ⟨w4.heap.size + 1 + 1, 5, none⟩ = some (.string T2) ∧ u.cell? ⟨w4.heap.size + 1 + 1, 6, none⟩ = some (.string S3) ∧ u.cell? ⟨w4.heap.size + 1 + 1, 7, none⟩ = some (.string T3) ∧ u.cell? ⟨w4.heap.size + 1, 0, none⟩ = some (.int .i64 e0) ∧ u.cell? ⟨w4.heap.size + 1, 1, none⟩ = some (.int .i64 e1) ∧ u.cell? ⟨w4.heap.size + 1, 2, none⟩ = some (.int .i64 e2) ∧ u.cell? ⟨w4.heap.size + 1, 3, none⟩ = some (.int .i64 e3) ∧ u.cell? ⟨w4.heap.size, 0, none⟩ = some (.string S0) ∧ u.cell? ⟨w4.heap.size, 1, none⟩ = some (.string T0) ∧ u.cell? ⟨w4.heap.size, 2, none⟩ = some (.string S1) ∧ u.cell? ⟨w4.heap.size, 3, none⟩ = some (.string T1) ∧ u.cell? ⟨w4.heap.size, 4, none⟩ = some (.string S2) ∧ u.cell? ⟨w4.heap.size, 5, none⟩ = some (.string T2) ∧ u.cell? ⟨w4.heap.size, 6, none⟩ = some (.string S3) ∧ u.cell? ⟨w4.heap.size, 7, none⟩ = some (.string T3) ∧ u.cell? ⟨wr.heap.size + 1, 0, none⟩ = some (.string U) ∧ u.cell? ⟨wr.heap.size + 1, 1, none⟩ = some (.string V) ∧ u.cell? ⟨wr.heap.size, 0, none⟩ = some (.string E) ∧ u.cell? ⟨wr.heap.size, 1, none⟩ = some (.string F)) (first | assumption | (exact mkS.out _ HB.out.drew HR.out.drew) | (exact mkS.out _ (below_to (‹Below w.heap.size w _ ∧ Rws _ _ ∧ _ ∧ _ ∧ _ ∧ _ ∧ _ ∧ _ ∧ _ ∧ _ ∧ _ ∧ _ ∧ _ ∧ _ ∧ _ ∧ _ ∧ _ ∧ _ ∧ _ ∧ _ ∧ _ ∧ _ ∧ _ ∧ _ ∧ _ ∧ _ ∧ _ ∧ _ ∧ _ ∧ _›).1 b5) ((‹Below w.heap.size w _ ∧ Rws _ _ ∧ _ ∧ _ ∧ _ ∧ _ ∧ _ ∧ _ ∧ _ ∧ _ ∧ _ ∧ _ ∧ _ ∧ _ ∧ _ ∧ _ ∧ _ ∧ _ ∧ _ ∧ _ ∧ _ ∧ _ ∧ _ ∧ _ ∧ _ ∧ _ ∧ _ ∧ _ ∧ _ ∧ _›).2.1.below b5))) (first | (go_at_call 20; ((with_reducible refine Calls.mono (PC.out _ ?hu) ?_); (case hu => exact HT.out.next (‹Below w.heap.size w _ ∧ Rws _ _ ∧ _ ∧ _ ∧ _ ∧ _ ∧ _ ∧ _ ∧ _ ∧ _ ∧ _ ∧ _ ∧ _ ∧ _ ∧ _ ∧ _ ∧ _ ∧ _ ∧ _ ∧ _ ∧ _ ∧ _ ∧ _ ∧ _ ∧ _ ∧ _ ∧ _ ∧ _ ∧ _ ∧ _›).1); rintro e v1 ⟨rfl, b5⟩)) | (go_at_call 21; ((with_reducible refine Calls.mono (QC.out _ ?hu) ?_); (case hu => exact HT.out.next (‹Below w.heap.size w _ ∧ Rws _ _ ∧ _ ∧ _ ∧ _ ∧ _ ∧ _ ∧ _ ∧ _ ∧ _ ∧ _ ∧ _ ∧ _ ∧ _ ∧ _ ∧ _ ∧ _ ∧ _ ∧ _ ∧ _ ∧ _ ∧ _ ∧ _ ∧ _ ∧ _ ∧ _ ∧ _ ∧ _ ∧ _ ∧ _›).1); rintro e v1 ⟨rfl, b5⟩)))
                      all_goals
                        have HX := Lib.hid (‹Below w.heap.size w _ ∧ Rws _ _ ∧ _ ∧ _ ∧ _ ∧ _ ∧ _ ∧ _ ∧ _ ∧ _ ∧ _ ∧ _ ∧ _ ∧ _ ∧ _ ∧ _ ∧ _ ∧ _ ∧ _ ∧ _ ∧ _ ∧ _ ∧ _ ∧ _ ∧ _ ∧ _ ∧ _ ∧ _ ∧ _ ∧ _›)
                        go_wp2_with fail
                        go_meet
                        exact ⟨rfl, Lib.hid (HX.out.2.1.pick [6]), Lib.hid HX.out.1⟩
                  case rest =>
                    as_aux_lemma =>
                      obtain ⟨rfl, HR6, HB6⟩ := hcut
                      replace HR := HR6
                      replace HB := HB6
                      clear HR6 HB6
                      go_wp2_with fail
                      go_roundw
                      case rel => have e5 : decide ((i : Int) < 5) = true := decide_eq_true (by omega); (repeat apply Exists.intro); rw [e5]; refine ⟨?_, rfl⟩; exact ⟨k + 1, by omega, by go_num, HR, HB⟩
                      case measure => simp [intOf]; omega
                · obtain rfl : k = 5 := by omega
                  have HD := Lib.hid (And.intro d0 d1)
                  clear d0 d1
                  have HRW := Lib.hid (HR.out.at (x := (g, 23, CS)) 0 rfl)
                  have HBW := HB
                  have hgl := HRW.out.lt
                  clear HR HB
                  go_wp2_with (go_at_call 22; (with_reducible refine Calls.mono (K6.out _) ?_); rintro e w' ⟨rfl, rfl⟩)
                  have HRW0 := Lib.hid (HRW.out.alloc (.cells #[.int .i64 pl, .int .i64 (pp : Int)] 3))
                  have HBL0 := Lib.hid (Row.new wr 3 #[.int .i64 pl, .int .i64 (pp : Int)])
                  have HBW0 := Lib.hid (HBW.out.alloc HBW.out.size (.cells #[.int .i64 pl, .int .i64 (pp : Int)] 3))
                  obtain ⟨BL, hBL⟩ : ∃ B, wr.heap.size = B := ⟨_, rfl⟩
                  rw [hBL] at HBL0 ⊢
                  clear HRW HBW hgl hBL
                  go_loopw [28, 29, 30, 31, 32, 33, 34, 35, 36, 139] (fun _ _ _ _ _ _ _ _ _ m wr => ∃ n : Nat, n ≤ 2 ∧ m = .int .i64 (n : Int) ∧ Hid (Row wr g 23 CS) ∧ Hid (Row wr BL 3 #[.int .i64 pl, .int .i64 (pp : Int)]) ∧ Hid (Below w.heap.size w wr)) (fun _ _ _ _ _ _ _ _ _ m _ => 2 - (intOf m).toNat)
                  case atStart => exact ⟨0, by omega, rfl, HRW0, HBL0, HBW0⟩
                  case round =>
                    as_aux_lemma =>
                      obtain ⟨m, hm, rfl, HRW, HBL, HBW⟩ := hrel
                      by_cases hlm : m < 2
                      · obtain ⟨z, hz⟩ : ∃ z : Int, wr.cell? ⟨BL, m, none⟩ = some (.int .i64 z) := by
                          have : m = 0 ∨ m = 1 := by omega
                          rcases this with rfl | rfl
                          · exact ⟨_, HBL.out.cell 0⟩
                          · exact ⟨_, HBL.out.cell 1⟩
                        obtain ⟨DS, DT, de, hd1, hd2⟩ := HE.down z
                        obtain ⟨US, UT, ue, hu1, hu2⟩ := HE.up z
                        unfold rvB at hd1 hd2 hu1 hu2
                        have GD1 := Lib.hid hd1; have GD2 := Lib.hid hd2; have GU1 := Lib.hid hu1; have GU2 := Lib.hid hu2
                        clear hd1 hd2 hu1 hu2
                        have u8 := (HRW.out.cell (i * 2)).trans HD.out.1
                        have u9 := (HRW.out.cell (i * 2 + 1)).trans HD.out.2
                        have hgl := HRW.out.lt
                        have m1 : (0 : Int) ≤ (m : Int) := by omega
                        have m2 : (m : Int) < 2 := by omega
                        have i1 : (0 : Int) ≤ (i : Int) := by omega
                        have i2 : (i : Int) < 5 := by omega
                        go_wp2_with (first | (go_at_call 23; (with_reducible refine Calls.mono (GD1.out _ (HT.out.next HBW.out)) ?_); rintro e w5 ⟨rfl, hb⟩; have H5 := Lib.hid hb; have u0 := cellz HRW.out HD.out.1 hb; have u1 := cellz HRW.out HD.out.2 hb; have g5 := (HRW.out.below hb HRW.out.lt).lt; clear hb) | (go_at_call 24; (with_reducible refine Calls.mono (GD2.out _ (HT.out.next ((below_to HBW.out H5.out).alloc (below_to HBW.out H5.out).size _))) ?_); rintro e w6 ⟨rfl, hb⟩; obtain ⟨a0, a1, hk, hs, hra⟩ := kept2r hb; have hs6 := Nat.lt_of_succ_le hs; have H6 := Lib.hid (below_to H5.out hk); have RA := Lib.hid hra; have u2 := cellz HRW.out HD.out.1 H6.out; have u3 := cellz HRW.out HD.out.2 H6.out; have g6 := (HRW.out.below H6.out HRW.out.lt).lt; clear hb hk hs hra) | (go_at_call 25; (with_reducible refine Calls.mono (GU1.out _ (HT.out.next ((below_to HBW.out H6.out).alloc (below_to HBW.out H6.out).size _))) ?_); rintro e w7 ⟨rfl, hb⟩; obtain ⟨b0, b1, hk, hs, hrb⟩ := kept2r hb; have hs7 := Nat.lt_of_succ_le hs; have H7 := Lib.hid (below_to H6.out hk); have RB := Lib.hid hrb; have ra := RA.out.below hk RA.out.lt; have a2 := ra.cell 0; have a3 := ra.cell 1; have RA7 := Lib.hid ra; have u4 := cellz HRW.out HD.out.1 H7.out; have u5 := cellz HRW.out HD.out.2 H7.out; have g7 := (HRW.out.below H7.out HRW.out.lt).lt; have l7 := ra.lt; clear hb hk hs hrb ra) | (go_at_call 26; (with_reducible refine Calls.mono (GU2.out _ (HT.out.next ((below_to HBW.out H7.out).alloc (below_to HBW.out H7.out).size _))) ?_); rintro e w8 ⟨rfl, hb⟩; obtain ⟨c0, c1, hk, hs, hrc⟩ := kept2r hb; have hs8 := Nat.lt_of_succ_le hs; have H8 := Lib.hid (below_to H7.out hk); have ra := RA7.out.below hk RA7.out.lt; have a4 : w8.cell? ⟨w5.heap.size, 0, none⟩ = some (.string DS) := ra.cell 0; have a5 : w8.cell? ⟨w5.heap.size, 1, none⟩ = some (.string DT) := ra.cell 1; have rb := RB.out.below hk RB.out.lt; have b4 : w8.cell? ⟨w6.heap.size, 0, none⟩ = some (.string DS) := rb.cell 0; have b5 : w8.cell? ⟨w6.heap.size, 1, none⟩ = some (.string DT) := rb.cell 1; have l8 := ra.lt; have m8 := rb.lt; clear hb hk hs hrc ra rb))
                        go_roundw
                        case rel => exact ⟨m + 1, by omega, by go_num, Lib.hid ((HRW.out.below H8.out HRW.out.lt).alloc _), Lib.hid ((HBL.out.below H8.out HBL.out.lt).alloc _), Lib.hid ((below_to HBW.out H8.out).alloc (below_to HBW.out H8.out).size _)⟩
                        case measure => simp [intOf]; omega
                      · obtain rfl : m = 2 := by omega
                        clear HBL
                        obtain ⟨MS, MT, me, hm1, hm2⟩ := HE.make HD0.out.2.choose_spec
                        obtain ⟨vv, hv1, hv2⟩ := HE.valid
                        unfold rvB at hm1 hm2 hv1 hv2
                        have GM1 := Lib.hid hm1; have GM2 := Lib.hid hm2; have GV1 := Lib.hid hv1; have GV2 := Lib.hid hv2
                        clear hm1 hm2 hv1 hv2
                        have u8 := (HRW.out.cell (i * 2)).trans HD.out.1
                        have u9 := (HRW.out.cell (i * 2 + 1)).trans HD.out.2
                        have u7 := (HRW.out.cell 1).trans HD0.out.1
                        have hgl := HRW.out.lt
                        have i1 : (0 : Int) ≤ (i : Int) := by omega
                        have i2 : (i : Int) < 5 := by omega
                        have hsz0 := HBW.out.size
                        have hgB : g ≠ wr.heap.size := by omega
                        have mk1 : Hid (∀ u, Below w.heap.size w u → Row u g 23 CS → Below w.heap.size w u ∧ Row u g 23 CS ∧ u.cell? ⟨g, i * 2, none⟩ = some (.string E) ∧ u.cell? ⟨g, 1, none⟩ = some (.string D0)) := Lib.hid (fun u h1 h2 => ⟨h1, h2, (h2.cell _).trans HD.out.1, (h2.cell _).trans HD0.out.1⟩)
                        have mkA : Hid (∀ u o, (Below w.heap.size w u ∧ Row u g 23 CS ∧ u.cell? ⟨g, i * 2, none⟩ = some (.string E) ∧ u.cell? ⟨g, 1, none⟩ = some (.string D0)) → Below w.heap.size w (u.alloc o) ∧ Row (u.alloc o) g 23 CS ∧ (u.alloc o).cell? ⟨g, i * 2, none⟩ = some (.string E) ∧ (u.alloc o).cell? ⟨g, 1, none⟩ = some (.string D0)) := Lib.hid (fun u o h => mk1.out _ (below_to h.1 (new_below _ _)) (h.2.1.alloc _))
                        have mkC : Hid (∀ u v, (Below w.heap.size w u ∧ Row u g 23 CS ∧ u.cell? ⟨g, i * 2, none⟩ = some (.string E) ∧ u.cell? ⟨g, 1, none⟩ = some (.string D0)) → Below u.heap.size u v → Below w.heap.size w v ∧ Row v g 23 CS ∧ v.cell? ⟨g, i * 2, none⟩ = some (.string E) ∧ v.cell? ⟨g, 1, none⟩ = some (.string D0)) := Lib.hid (fun u v h b => mk1.out _ (below_to h.1 b) (h.2.1.below b h.2.1.lt))
                        have mkP : Hid (∀ u p q, (Below w.heap.size w u ∧ Row u g 23 CS ∧ u.cell? ⟨g, i * 2, none⟩ = some (.string E) ∧ u.cell? ⟨g, 1, none⟩ = some (.string D0)) → Below w.heap.size w ((u.setCell ⟨wr.heap.size, 0, none⟩ p).setCell ⟨wr.heap.size, 1, none⟩ q) ∧ Row ((u.setCell ⟨wr.heap.size, 0, none⟩ p).setCell ⟨wr.heap.size, 1, none⟩ q) g 23 CS ∧ ((u.setCell ⟨wr.heap.size, 0, none⟩ p).setCell ⟨wr.heap.size, 1, none⟩ q).cell? ⟨g, i * 2, none⟩ = some (.string E) ∧ ((u.setCell ⟨wr.heap.size, 0, none⟩ p).setCell ⟨wr.heap.size, 1, none⟩ q).cell? ⟨g, 1, none⟩ = some (.string D0)) := Lib.hid (fun u p q h => mk1.out _ ((h.1.setCell (p := ⟨wr.heap.size, 0, none⟩) hsz0 _).setCell (p := ⟨wr.heap.size, 1, none⟩) hsz0 _) ((h.2.1.far (p := ⟨wr.heap.size, 0, none⟩) hgB _).far (p := ⟨wr.heap.size, 1, none⟩) hgB _))
                        clear u8 u9 u7
                        have u8 := (HRW.out.cell (i * 2)).trans HD.out.1
                        have u7 := (HRW.out.cell 1).trans HD0.out.1
                        go_upto_region 32 with (fail)
                        go_cut [37, 38] from 59 to 244 (fun sp er wx => ∃ B, sp = .pointer (some ⟨B, 0, none⟩) ∧ er = .int .i64 me ∧ Hid (Row wx B 23 #[.string MS, .string MT]) ∧ Hid (Row wx g 23 CS) ∧ Hid (Below w.heap.size w wx))
                        case first =>
                          as_aux_lemma =>
                            go_region_held3 (fun u => Below w.heap.size w u ∧ Row u g 23 CS ∧ u.cell? ⟨g, i * 2, none⟩ = some (.string E) ∧ u.cell? ⟨g, 1, none⟩ = some (.string D0)) (first | assumption | (exact mk1.out _ HBW.out.drew HRW.out) | (exact mkC.out _ _ (by assumption) b5) | (exact mkA.out _ _ (by assumption)) | (exact mkP.out _ _ _ (by assumption)) | (exact mkA.out v1 _ (mk1.out _ (below_to HBW.out.drew b5) ((show Row wr.drew g 23 CS from HRW.out).below b5 HRW.out.lt)))) (first | (go_at_call 27; ((with_reducible refine Calls.mono (GM1.out _ ?hu) ?_); (case hu => exact HT.out.next (‹Below w.heap.size w _ ∧ Row _ g _ CS ∧ _ ∧ _›).1); rintro e v1 ⟨rfl, b5⟩; (try (have hbx := (fun h => Row.below (g := wr.heap.size) (t := 23) (cs := #[.string ⟨#[]⟩, .string ⟨#[]⟩]) h b5 (by simp)) (Row.new wr 23 #[.string ⟨#[]⟩, .string ⟨#[]⟩]); have q0 := hbx.cell 0; have q1 := hbx.cell 1; have q2 := hbx.free 0; have q3 := hbx.free 1)))))
                            all_goals
                              have HX := Lib.hid (‹Below w.heap.size w _ ∧ Row _ g _ CS ∧ _ ∧ _›)
                              go_wp2_with fail
                              go_meet
                              first | exact ⟨_, rfl, rfl, Lib.hid (Row.new _ _ _), Lib.hid HX.out.2.1, Lib.hid HX.out.1⟩ | exact ⟨_, rfl, rfl, Lib.hid ((hbx.put 0 _).put 1 _), Lib.hid HX.out.2.1, Lib.hid HX.out.1⟩
                        case rest =>
                          as_aux_lemma =>
                            obtain ⟨B1, rfl, rfl, HC1, HCW, HCB⟩ := hcut
                            have hgl2 := HCW.out.lt
                            have hsz1 := HCB.out.size
                            have hgB2 : g ≠ wc.heap.size := by omega
                            have hb1l := HC1.out.lt
                            have hB12 : B1 ≠ wc.heap.size := by omega
                            clear hsz0 hgB mk1 mkA mkC mkP u8 u7 hgl HRW HBW
                            have mk1 : Hid (∀ u, Below w.heap.size w u → Row u g 23 CS → Row u B1 23 #[.string MS, .string MT] → Below w.heap.size w u ∧ Row u g 23 CS ∧ Row u B1 23 #[.string MS, .string MT] ∧ u.cell? ⟨g, i * 2, none⟩ = some (.string E) ∧ u.cell? ⟨g, 1, none⟩ = some (.string D0)) := Lib.hid (fun u h1 h2 h3 => ⟨h1, h2, h3, (h2.cell _).trans HD.out.1, (h2.cell _).trans HD0.out.1⟩)
                            have mkA : Hid (∀ u o, (Below w.heap.size w u ∧ Row u g 23 CS ∧ Row u B1 23 #[.string MS, .string MT] ∧ u.cell? ⟨g, i * 2, none⟩ = some (.string E) ∧ u.cell? ⟨g, 1, none⟩ = some (.string D0)) → Below w.heap.size w (u.alloc o) ∧ Row (u.alloc o) g 23 CS ∧ Row (u.alloc o) B1 23 #[.string MS, .string MT] ∧ (u.alloc o).cell? ⟨g, i * 2, none⟩ = some (.string E) ∧ (u.alloc o).cell? ⟨g, 1, none⟩ = some (.string D0)) := Lib.hid (fun u o h => mk1.out _ (below_to h.1 (new_below _ _)) (h.2.1.alloc _) (h.2.2.1.alloc _))
                            have mkC : Hid (∀ u v, (Below w.heap.size w u ∧ Row u g 23 CS ∧ Row u B1 23 #[.string MS, .string MT] ∧ u.cell? ⟨g, i * 2, none⟩ = some (.string E) ∧ u.cell? ⟨g, 1, none⟩ = some (.string D0)) → Below u.heap.size u v → Below w.heap.size w v ∧ Row v g 23 CS ∧ Row v B1 23 #[.string MS, .string MT] ∧ v.cell? ⟨g, i * 2, none⟩ = some (.string E) ∧ v.cell? ⟨g, 1, none⟩ = some (.string D0)) := Lib.hid (fun u v h b => mk1.out _ (below_to h.1 b) (h.2.1.below b h.2.1.lt) (h.2.2.1.below b h.2.2.1.lt))
                            have mkP : Hid (∀ u p q, (Below w.heap.size w u ∧ Row u g 23 CS ∧ Row u B1 23 #[.string MS, .string MT] ∧ u.cell? ⟨g, i * 2, none⟩ = some (.string E) ∧ u.cell? ⟨g, 1, none⟩ = some (.string D0)) → Below w.heap.size w ((u.setCell ⟨wc.heap.size, 0, none⟩ p).setCell ⟨wc.heap.size, 1, none⟩ q) ∧ Row ((u.setCell ⟨wc.heap.size, 0, none⟩ p).setCell ⟨wc.heap.size, 1, none⟩ q) g 23 CS ∧ Row ((u.setCell ⟨wc.heap.size, 0, none⟩ p).setCell ⟨wc.heap.size, 1, none⟩ q) B1 23 #[.string MS, .string MT] ∧ ((u.setCell ⟨wc.heap.size, 0, none⟩ p).setCell ⟨wc.heap.size, 1, none⟩ q).cell? ⟨g, i * 2, none⟩ = some (.string E) ∧ ((u.setCell ⟨wc.heap.size, 0, none⟩ p).setCell ⟨wc.heap.size, 1, none⟩ q).cell? ⟨g, 1, none⟩ = some (.string D0)) := Lib.hid (fun u p q h => mk1.out _ ((h.1.setCell (p := ⟨wc.heap.size, 0, none⟩) hsz1 _).setCell (p := ⟨wc.heap.size, 1, none⟩) hsz1 _) ((h.2.1.far (p := ⟨wc.heap.size, 0, none⟩) hgB2 _).far (p := ⟨wc.heap.size, 1, none⟩) hgB2 _) ((h.2.2.1.far (p := ⟨wc.heap.size, 0, none⟩) hB12 _).far (p := ⟨wc.heap.size, 1, none⟩) hB12 _))
                            have u8 := (HCW.out.cell (i * 2)).trans HD.out.1
                            have u7 := (HCW.out.cell 1).trans HD0.out.1
                            go_upto_region 33 with (fail)
                            go_cut [39, 40] from 59 to 244 (fun sp er wx => ∃ B, sp = .pointer (some ⟨B, 0, none⟩) ∧ er = .int .i64 me ∧ Hid (Row wx B 23 #[.string MS, .string MT]) ∧ Hid (Row wx B1 23 #[.string MS, .string MT]) ∧ Hid (Row wx g 23 CS) ∧ Hid (Below w.heap.size w wx))
                            case first =>
                              as_aux_lemma =>
                                go_region_held3 (fun u => Below w.heap.size w u ∧ Row u g 23 CS ∧ Row u B1 23 #[.string MS, .string MT] ∧ u.cell? ⟨g, i * 2, none⟩ = some (.string E) ∧ u.cell? ⟨g, 1, none⟩ = some (.string D0)) (first | assumption | (exact mk1.out _ HCB.out.drew HCW.out HC1.out) | (exact mkC.out _ _ (by assumption) b5) | (exact mkA.out _ _ (by assumption)) | (exact mkP.out _ _ _ (by assumption)) | (exact mkA.out v1 _ (mk1.out _ (below_to HCB.out.drew b5) ((show Row wc.drew g 23 CS from HCW.out).below b5 HCW.out.lt) ((show Row wc.drew B1 23 #[.string MS, .string MT] from HC1.out).below b5 HC1.out.lt)))) (first | (go_at_call 28; ((with_reducible refine Calls.mono (GM2.out _ ?hu) ?_); (case hu => exact HT.out.next (‹Below w.heap.size w _ ∧ Row _ g _ CS ∧ _ ∧ _ ∧ _›).1); rintro e v1 ⟨rfl, b5⟩; (try (have hbx := (fun h => Row.below (g := wc.heap.size) (t := 23) (cs := #[.string ⟨#[]⟩, .string ⟨#[]⟩]) h b5 (by simp)) (Row.new wc 23 #[.string ⟨#[]⟩, .string ⟨#[]⟩]); have q0 := hbx.cell 0; have q1 := hbx.cell 1; have q2 := hbx.free 0; have q3 := hbx.free 1)))))
                                all_goals
                                  have HX := Lib.hid (‹Below w.heap.size w _ ∧ Row _ g _ CS ∧ _ ∧ _ ∧ _›)
                                  go_wp2_with fail
                                  go_meet
                                  first | exact ⟨_, rfl, rfl, Lib.hid (Row.new _ _ _), Lib.hid HX.out.2.2.1, Lib.hid HX.out.2.1, Lib.hid HX.out.1⟩ | exact ⟨_, rfl, rfl, Lib.hid ((hbx.put 0 _).put 1 _), Lib.hid HX.out.2.2.1, Lib.hid HX.out.2.1, Lib.hid HX.out.1⟩
                            case rest =>
                              as_aux_lemma =>
                                obtain ⟨B2, rfl, rfl, HE2, HE1, HEW, HEB⟩ := hcut
                                clear hgl2 hsz1 hgB2 hb1l hB12 mk1 mkA mkC mkP u8 u7 HC1 HCW HCB
                                have mk1 : Hid (∀ u, Below w.heap.size w u → Row u g 23 CS → Row u B1 23 #[.string MS, .string MT] → Row u B2 23 #[.string MS, .string MT] → Below w.heap.size w u ∧ Row u g 23 CS ∧ Row u B1 23 #[.string MS, .string MT] ∧ Row u B2 23 #[.string MS, .string MT] ∧ u.cell? ⟨g, i * 2, none⟩ = some (.string E) ∧ u.cell? ⟨g, i * 2 + 1, none⟩ = some (.string F) ∧ u.cell? ⟨B1, 0, none⟩ = some (.string MS) ∧ u.cell? ⟨B1, 1, none⟩ = some (.string MT) ∧ u.cell? ⟨B2, 0, none⟩ = some (.string MS) ∧ u.cell? ⟨B2, 1, none⟩ = some (.string MT)) := Lib.hid (fun u h1 h2 h3 h4 => ⟨h1, h2, h3, h4, (h2.cell _).trans HD.out.1, (h2.cell _).trans HD.out.2, h3.cell 0, h3.cell 1, h4.cell 0, h4.cell 1⟩)
                                have mkC : Hid (∀ u v, (Below w.heap.size w u ∧ Row u g 23 CS ∧ Row u B1 23 #[.string MS, .string MT] ∧ Row u B2 23 #[.string MS, .string MT] ∧ u.cell? ⟨g, i * 2, none⟩ = some (.string E) ∧ u.cell? ⟨g, i * 2 + 1, none⟩ = some (.string F) ∧ u.cell? ⟨B1, 0, none⟩ = some (.string MS) ∧ u.cell? ⟨B1, 1, none⟩ = some (.string MT) ∧ u.cell? ⟨B2, 0, none⟩ = some (.string MS) ∧ u.cell? ⟨B2, 1, none⟩ = some (.string MT)) → Below u.heap.size u v → Below w.heap.size w v ∧ Row v g 23 CS ∧ Row v B1 23 #[.string MS, .string MT] ∧ Row v B2 23 #[.string MS, .string MT] ∧ v.cell? ⟨g, i * 2, none⟩ = some (.string E) ∧ v.cell? ⟨g, i * 2 + 1, none⟩ = some (.string F) ∧ v.cell? ⟨B1, 0, none⟩ = some (.string MS) ∧ v.cell? ⟨B1, 1, none⟩ = some (.string MT) ∧ v.cell? ⟨B2, 0, none⟩ = some (.string MS) ∧ v.cell? ⟨B2, 1, none⟩ = some (.string MT)) := Lib.hid (fun u v h b => mk1.out _ (below_to h.1 b) (h.2.1.below b h.2.1.lt) (h.2.2.1.below b h.2.2.1.lt) (h.2.2.2.1.below b h.2.2.2.1.lt))
                                have u8 := (HEW.out.cell (i * 2)).trans HD.out.1
                                have u9 := (HEW.out.cell (i * 2 + 1)).trans HD.out.2
                                go_upto_region 34 with (fail)
                                go_cut [244] from 59 to 244 (fun s wx => s = .bool false ∧ Hid (Rws wx [(g, 23, CS)]) ∧ Hid (Below w.heap.size w wx))
                                case first =>
                                  as_aux_lemma =>
                                    go_region_held3 (fun u => Below w.heap.size w u ∧ Row u g 23 CS ∧ Row u B1 23 #[.string MS, .string MT] ∧ Row u B2 23 #[.string MS, .string MT] ∧ u.cell? ⟨g, i * 2, none⟩ = some (.string E) ∧ u.cell? ⟨g, i * 2 + 1, none⟩ = some (.string F) ∧ u.cell? ⟨B1, 0, none⟩ = some (.string MS) ∧ u.cell? ⟨B1, 1, none⟩ = some (.string MT) ∧ u.cell? ⟨B2, 0, none⟩ = some (.string MS) ∧ u.cell? ⟨B2, 1, none⟩ = some (.string MT)) (first | assumption | (exact mk1.out _ HEB.out.drew HEW.out HE1.out HE2.out) | (exact mkC.out _ _ (by assumption) b5)) (first | (go_at_call 29; ((with_reducible refine Calls.mono (GV1.out _ ?hu) ?_); (case hu => exact HT.out.next (‹Below w.heap.size w _ ∧ Row _ g _ CS ∧ _ ∧ _ ∧ _ ∧ _ ∧ _ ∧ _ ∧ _ ∧ _›).1); rintro e v1 ⟨rfl, b5⟩)) | (go_at_call 30; ((with_reducible refine Calls.mono (GV2.out _ ?hu) ?_); (case hu => exact HT.out.next (‹Below w.heap.size w _ ∧ Row _ g _ CS ∧ _ ∧ _ ∧ _ ∧ _ ∧ _ ∧ _ ∧ _ ∧ _›).1); rintro e v1 ⟨rfl, b5⟩)))
                                    all_goals
                                      have HX := Lib.hid (‹Below w.heap.size w _ ∧ Row _ g _ CS ∧ _ ∧ _ ∧ _ ∧ _ ∧ _ ∧ _ ∧ _ ∧ _›)
                                      go_wp2_with fail
                                      go_meet
                                      exact ⟨(by first | rfl | trivial | simp), Lib.hid ((Rws.nil _).put HX.out.2.1), Lib.hid HX.out.1⟩
                                case rest =>
                                  as_aux_lemma =>
                                    obtain ⟨rfl, HR6, HB6⟩ := hcut
                                    replace HR := HR6
                                    replace HB := HB6
                                    clear HR6 HB6
                                    go_wp2_with fail
                                    go_roundw
                                    case rel => have e5 : decide ((i : Int) < 5) = true := decide_eq_true (by omega); (repeat apply Exists.intro); first | exact (show i + 1 ≤ 5 ∧ _ from ⟨by omega, by go_num, HR, HB⟩) | (rw [e5]; refine ⟨?_, rfl⟩; exact (show i + 1 ≤ 5 ∧ _ from ⟨by omega, by go_num, HR, HB⟩))
                                    case measure => simp [intOf]; omega
          · obtain rfl : i = 5 := by omega
            obtain ⟨OS, OT, oe, ho1, ho2⟩ := K7.out
            unfold rvB at ho1 ho2
            have GO1 := Lib.hid ho1; have GO2 := Lib.hid ho2
            clear ho1 ho2
            go_wp2_with (first | (go_at_call 31; (with_reducible refine Calls.mono (GO1.out _ (HT.out.next HB.out)) ?_); rintro e w5 ⟨rfl, hb⟩; have H5 := Lib.hid (below_to HB.out hb); clear hb) | (go_at_call 32; (with_reducible refine Calls.mono (GO2.out _ (HT.out.next (H5.out.alloc H5.out.size _))) ?_); rintro e w6 ⟨rfl, hb⟩; obtain ⟨a0, a1, hk, hs, hra⟩ := kept2r hb; have hs6 := Nat.lt_of_succ_le hs; have H6 := Lib.hid (below_to H5.out hk); clear hb hk hs hra))
            go_ret
            exact ⟨rfl, H6.out.alloc H6.out.size _⟩
end Go.Proofs.YtabkodpjhpjgnaaGreatDoor
