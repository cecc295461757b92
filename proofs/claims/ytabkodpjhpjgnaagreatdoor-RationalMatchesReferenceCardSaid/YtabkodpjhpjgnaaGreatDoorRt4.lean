/- The reference's Down and Up; the program answers alike. -/
import Derived.Test.YtabkodpjhpjgnaaGreatDoorRu4
import Derived.Test.YtabkodpjhpjgnaaGreatDoorX4w
namespace Go.Proofs.YtabkodpjhpjgnaaGreatDoor
open Go.RowKit Go.Shelf

set_option maxRecDepth 100000 in
set_option maxHeartbeats 8000000 in
theorem rdown_walk (A1 A2 X Y Z S T RS RTT : ByteArray) (P : Int) (ok : Bool) (er RE : Int) (GR : CallT 56 #[rvB A1 A2, .int .i64 P] (.tuple #[.string X, .string Y, .string Z, .bool ok])) (MK : ok = true → CallT 28 #[.string X, .string Z] (.tuple #[rvB S T, .int .i64 er]))
    (h1 : ok = false → RS = ⟨#[]⟩ ∧ RTT = ⟨#[]⟩ ∧ RE = 40) (h2 : ok = true → RS = S ∧ RTT = T ∧ RE = er) : CallT 24 #[rvB A1 A2, .int .i64 P] (.tuple #[rvB RS RTT, .int .i64 RE]) := fun w ht => by
  have HGR := Lib.hid GR; have HMK := Lib.hid MK
  have HT := Lib.hid ht
  clear GR MK ht
  unfold rvB at *
  obtain ⟨W0, hW0⟩ : ∃ W0, (w.alloc (.cells #[.string A1, .string A2] 23)).alloc (.cells #[.string ⟨#[]⟩, .string ⟨#[]⟩] 23) = W0 := ⟨_, rfl⟩
  have hr : Rws W0 [(w.heap.size + 1, 23, #[.string ⟨#[]⟩, .string ⟨#[]⟩]), (w.heap.size, 23, #[.string A1, .string A2])] := by
    rw [← hW0]
    have h := ((Rws.nil w).cons 23 #[.string A1, .string A2]).cons 23 #[.string ⟨#[]⟩, .string ⟨#[]⟩]
    simp only [World.size_alloc] at h
    exact h
  have hb : Below w.heap.size w W0 := by rw [← hW0]; exact ((Below.refl _ _).alloc (Nat.le_refl _) _).alloc (by simp) _
  have HW0 := Lib.hid hW0; have HR := Lib.hid hr; have HB := Lib.hid hb
  clear hW0 hr hb
  go_enter Tryz.func24, Tryz.ntmps24
  go_upto_region 1 with (fail)
  rw [HW0.out]
  clear HW0
  have x0_0 : W0.cell? ⟨w.heap.size + 1, 0, none⟩ = some (.string ⟨#[]⟩) := (HR.out.at (x := (w.heap.size + 1, 23, #[.string ⟨#[]⟩, .string ⟨#[]⟩])) 0 rfl).cell 0
  have x0_1 : W0.cell? ⟨w.heap.size + 1, 1, none⟩ = some (.string ⟨#[]⟩) := (HR.out.at (x := (w.heap.size + 1, 23, #[.string ⟨#[]⟩, .string ⟨#[]⟩])) 0 rfl).cell 1
  have y0 : w.heap.size + 1 < W0.heap.size := (HR.out.at (x := (w.heap.size + 1, 23, #[.string ⟨#[]⟩, .string ⟨#[]⟩])) 0 rfl).lt
  have x1_0 : W0.cell? ⟨w.heap.size, 0, none⟩ = some (.string A1) := (HR.out.at (x := (w.heap.size, 23, #[.string A1, .string A2])) 1 rfl).cell 0
  have x1_1 : W0.cell? ⟨w.heap.size, 1, none⟩ = some (.string A2) := (HR.out.at (x := (w.heap.size, 23, #[.string A1, .string A2])) 1 rfl).cell 1
  have y1 : w.heap.size < W0.heap.size := (HR.out.at (x := (w.heap.size, 23, #[.string A1, .string A2])) 1 rfl).lt
  go_upto_region 2 with (first | (go_at_call 56; (with_reducible refine Calls.mono (HGR.out _ (HT.out.next HB.out)) ?_); rintro e w1 ⟨rfl, hb⟩; have hq := HR.out.below hb; clear x0_0 x0_1 y0 x1_0 x1_1 y1; have x0_0 : w1.cell? ⟨w.heap.size + 1, 0, none⟩ = some (.string ⟨#[]⟩) := (hq.at (x := (w.heap.size + 1, 23, #[.string ⟨#[]⟩, .string ⟨#[]⟩])) 0 rfl).cell 0; have x0_1 : w1.cell? ⟨w.heap.size + 1, 1, none⟩ = some (.string ⟨#[]⟩) := (hq.at (x := (w.heap.size + 1, 23, #[.string ⟨#[]⟩, .string ⟨#[]⟩])) 0 rfl).cell 1; have y0 : w.heap.size + 1 < w1.heap.size := (hq.at (x := (w.heap.size + 1, 23, #[.string ⟨#[]⟩, .string ⟨#[]⟩])) 0 rfl).lt; have x1_0 : w1.cell? ⟨w.heap.size, 0, none⟩ = some (.string A1) := (hq.at (x := (w.heap.size, 23, #[.string A1, .string A2])) 1 rfl).cell 0; have x1_1 : w1.cell? ⟨w.heap.size, 1, none⟩ = some (.string A2) := (hq.at (x := (w.heap.size, 23, #[.string A1, .string A2])) 1 rfl).cell 1; have y1 : w.heap.size < w1.heap.size := (hq.at (x := (w.heap.size, 23, #[.string A1, .string A2])) 1 rfl).lt; (try clear z2 z3); obtain ⟨-, -, z2, z3⟩ := rat_facts (hq.at (x := (w.heap.size + 1, 23, #[.string ⟨#[]⟩, .string ⟨#[]⟩])) 0 rfl); replace HR := Lib.hid hq; replace HB := Lib.hid (below_to HB.out hb); clear hb hq))
  cases ok with
  | false =>
    obtain ⟨rfl, rfl, rfl⟩ := h1 rfl
    go_wp2_with fail
    refine bodyPost_ret (results_rat_tmp rfl _ _ (w.heap.size + 1) _ _ rfl (rat_row (HR.out.at (x := (w.heap.size + 1, 23, #[.string ⟨#[]⟩, .string ⟨#[]⟩])) 0 rfl))) rfl ?_
    exact ⟨rfl, (HB.out.setCell (by dsimp only; omega) _).setCell (by dsimp only; omega) _⟩
  | true =>
    obtain ⟨rfl, rfl, rfl⟩ := h2 rfl
    have MA := Lib.hid (HMK.out rfl)
    go_wp2_with (first | (go_at_call 28; (with_reducible refine Calls.mono (MA.out _ (HT.out.next HB.out)) ?_); rintro e w2 ⟨rfl, hb⟩; have hq := HR.out.below hb; clear x0_0 x0_1 y0 x1_0 x1_1 y1; have x0_0 : w2.cell? ⟨w.heap.size + 1, 0, none⟩ = some (.string ⟨#[]⟩) := (hq.at (x := (w.heap.size + 1, 23, #[.string ⟨#[]⟩, .string ⟨#[]⟩])) 0 rfl).cell 0; have x0_1 : w2.cell? ⟨w.heap.size + 1, 1, none⟩ = some (.string ⟨#[]⟩) := (hq.at (x := (w.heap.size + 1, 23, #[.string ⟨#[]⟩, .string ⟨#[]⟩])) 0 rfl).cell 1; have y0 : w.heap.size + 1 < w2.heap.size := (hq.at (x := (w.heap.size + 1, 23, #[.string ⟨#[]⟩, .string ⟨#[]⟩])) 0 rfl).lt; have x1_0 : w2.cell? ⟨w.heap.size, 0, none⟩ = some (.string A1) := (hq.at (x := (w.heap.size, 23, #[.string A1, .string A2])) 1 rfl).cell 0; have x1_1 : w2.cell? ⟨w.heap.size, 1, none⟩ = some (.string A2) := (hq.at (x := (w.heap.size, 23, #[.string A1, .string A2])) 1 rfl).cell 1; have y1 : w.heap.size < w2.heap.size := (hq.at (x := (w.heap.size, 23, #[.string A1, .string A2])) 1 rfl).lt; (try clear z2 z3); obtain ⟨-, -, z2, z3⟩ := rat_facts (hq.at (x := (w.heap.size + 1, 23, #[.string ⟨#[]⟩, .string ⟨#[]⟩])) 0 rfl); replace HR := Lib.hid hq; replace HB := Lib.hid (below_to HB.out hb); clear hb hq))
    refine bodyPost_ret (results_rat_tmp rfl _ _ (w.heap.size + 1) _ _ rfl (rat_row (HR.out.at (x := (w.heap.size + 1, 23, #[.string ⟨#[]⟩, .string ⟨#[]⟩])) 0 rfl))) rfl ?_
    exact ⟨rfl, (HB.out.setCell (by dsimp only; omega) _).setCell (by dsimp only; omega) _⟩
set_option maxRecDepth 100000 in
set_option maxHeartbeats 8000000 in
theorem rup_walk (A1 A2 X Y Z N S T RS RTT : ByteArray) (P : Int) (ok z : Bool) (er RE : Int) (GR : CallT 56 #[rvB A1 A2, .int .i64 P] (.tuple #[.string X, .string Y, .string Z, .bool ok])) (hz : ok = true → (Y.toList == [48]) = z) (AD : ok = true → z = false → CallT 48 #[.string X, .string ⟨#[49]⟩] (.tuple #[.string N, .int .i64 0]))
    (MK : ok = true → CallT 28 #[.string (if z then X else N), .string Z] (.tuple #[rvB S T, .int .i64 er]))
    (h1 : ok = false → RS = ⟨#[]⟩ ∧ RTT = ⟨#[]⟩ ∧ RE = 40) (h2 : ok = true → RS = S ∧ RTT = T ∧ RE = er) : CallT 26 #[rvB A1 A2, .int .i64 P] (.tuple #[rvB RS RTT, .int .i64 RE]) := fun w ht => by
  have HGR := Lib.hid GR; have HMK := Lib.hid MK; have HAD := Lib.hid AD; have HZ := Lib.hid hz
  have HT := Lib.hid ht
  clear GR MK AD hz ht
  unfold rvB at *
  obtain ⟨W0, hW0⟩ : ∃ W0, (w.alloc (.cells #[.string A1, .string A2] 23)).alloc (.cells #[.string ⟨#[]⟩, .string ⟨#[]⟩] 23) = W0 := ⟨_, rfl⟩
  have hr : Rws W0 [(w.heap.size + 1, 23, #[.string ⟨#[]⟩, .string ⟨#[]⟩]), (w.heap.size, 23, #[.string A1, .string A2])] := by
    rw [← hW0]
    have h := ((Rws.nil w).cons 23 #[.string A1, .string A2]).cons 23 #[.string ⟨#[]⟩, .string ⟨#[]⟩]
    simp only [World.size_alloc] at h
    exact h
  have hb : Below w.heap.size w W0 := by rw [← hW0]; exact ((Below.refl _ _).alloc (Nat.le_refl _) _).alloc (by simp) _
  have HW0 := Lib.hid hW0; have HR := Lib.hid hr; have HB := Lib.hid hb
  clear hW0 hr hb
  go_enter Tryz.func26, Tryz.ntmps26
  go_upto_region 1 with (fail)
  rw [HW0.out]
  clear HW0
  have x0_0 : W0.cell? ⟨w.heap.size + 1, 0, none⟩ = some (.string ⟨#[]⟩) := (HR.out.at (x := (w.heap.size + 1, 23, #[.string ⟨#[]⟩, .string ⟨#[]⟩])) 0 rfl).cell 0
  have x0_1 : W0.cell? ⟨w.heap.size + 1, 1, none⟩ = some (.string ⟨#[]⟩) := (HR.out.at (x := (w.heap.size + 1, 23, #[.string ⟨#[]⟩, .string ⟨#[]⟩])) 0 rfl).cell 1
  have y0 : w.heap.size + 1 < W0.heap.size := (HR.out.at (x := (w.heap.size + 1, 23, #[.string ⟨#[]⟩, .string ⟨#[]⟩])) 0 rfl).lt
  have x1_0 : W0.cell? ⟨w.heap.size, 0, none⟩ = some (.string A1) := (HR.out.at (x := (w.heap.size, 23, #[.string A1, .string A2])) 1 rfl).cell 0
  have x1_1 : W0.cell? ⟨w.heap.size, 1, none⟩ = some (.string A2) := (HR.out.at (x := (w.heap.size, 23, #[.string A1, .string A2])) 1 rfl).cell 1
  have y1 : w.heap.size < W0.heap.size := (HR.out.at (x := (w.heap.size, 23, #[.string A1, .string A2])) 1 rfl).lt
  go_upto_region 2 with (first | (go_at_call 56; (with_reducible refine Calls.mono (HGR.out _ (HT.out.next HB.out)) ?_); rintro e w1 ⟨rfl, hb⟩; have hq := HR.out.below hb; clear x0_0 x0_1 y0 x1_0 x1_1 y1; have x0_0 : w1.cell? ⟨w.heap.size + 1, 0, none⟩ = some (.string ⟨#[]⟩) := (hq.at (x := (w.heap.size + 1, 23, #[.string ⟨#[]⟩, .string ⟨#[]⟩])) 0 rfl).cell 0; have x0_1 : w1.cell? ⟨w.heap.size + 1, 1, none⟩ = some (.string ⟨#[]⟩) := (hq.at (x := (w.heap.size + 1, 23, #[.string ⟨#[]⟩, .string ⟨#[]⟩])) 0 rfl).cell 1; have y0 : w.heap.size + 1 < w1.heap.size := (hq.at (x := (w.heap.size + 1, 23, #[.string ⟨#[]⟩, .string ⟨#[]⟩])) 0 rfl).lt; have x1_0 : w1.cell? ⟨w.heap.size, 0, none⟩ = some (.string A1) := (hq.at (x := (w.heap.size, 23, #[.string A1, .string A2])) 1 rfl).cell 0; have x1_1 : w1.cell? ⟨w.heap.size, 1, none⟩ = some (.string A2) := (hq.at (x := (w.heap.size, 23, #[.string A1, .string A2])) 1 rfl).cell 1; have y1 : w.heap.size < w1.heap.size := (hq.at (x := (w.heap.size, 23, #[.string A1, .string A2])) 1 rfl).lt; (try clear z2 z3); obtain ⟨-, -, z2, z3⟩ := rat_facts (hq.at (x := (w.heap.size + 1, 23, #[.string ⟨#[]⟩, .string ⟨#[]⟩])) 0 rfl); replace HR := Lib.hid hq; replace HB := Lib.hid (below_to HB.out hb); clear hb hq))
  cases ok with
  | false =>
    obtain ⟨rfl, rfl, rfl⟩ := h1 rfl
    go_wp2_with fail
    refine bodyPost_ret (results_rat_tmp rfl _ _ (w.heap.size + 1) _ _ rfl (rat_row (HR.out.at (x := (w.heap.size + 1, 23, #[.string ⟨#[]⟩, .string ⟨#[]⟩])) 0 rfl))) rfl ?_
    exact ⟨rfl, (HB.out.setCell (by dsimp only; omega) _).setCell (by dsimp only; omega) _⟩
  | true =>
    obtain ⟨rfl, rfl, rfl⟩ := h2 rfl
    have MA := Lib.hid (HMK.out rfl)
    have hz := HZ.out rfl
    have AA := HAD.out rfl
    clear HMK HZ HAD h1 h2
    cases z with
    | true =>
      clear AA
      replace MA : Hid (CallT 28 #[.string X, .string Z] (.tuple #[.agg #[.string RS, .string RTT], .int .i64 RE])) := Lib.hid MA.out
      go_wp2_with (first | (go_at_call 28; (with_reducible refine Calls.mono (MA.out _ (HT.out.next HB.out)) ?_); rintro e w2 ⟨rfl, hb⟩; have hq := HR.out.below hb; clear x0_0 x0_1 y0 x1_0 x1_1 y1; have x0_0 : w2.cell? ⟨w.heap.size + 1, 0, none⟩ = some (.string ⟨#[]⟩) := (hq.at (x := (w.heap.size + 1, 23, #[.string ⟨#[]⟩, .string ⟨#[]⟩])) 0 rfl).cell 0; have x0_1 : w2.cell? ⟨w.heap.size + 1, 1, none⟩ = some (.string ⟨#[]⟩) := (hq.at (x := (w.heap.size + 1, 23, #[.string ⟨#[]⟩, .string ⟨#[]⟩])) 0 rfl).cell 1; have y0 : w.heap.size + 1 < w2.heap.size := (hq.at (x := (w.heap.size + 1, 23, #[.string ⟨#[]⟩, .string ⟨#[]⟩])) 0 rfl).lt; have x1_0 : w2.cell? ⟨w.heap.size, 0, none⟩ = some (.string A1) := (hq.at (x := (w.heap.size, 23, #[.string A1, .string A2])) 1 rfl).cell 0; have x1_1 : w2.cell? ⟨w.heap.size, 1, none⟩ = some (.string A2) := (hq.at (x := (w.heap.size, 23, #[.string A1, .string A2])) 1 rfl).cell 1; have y1 : w.heap.size < w2.heap.size := (hq.at (x := (w.heap.size, 23, #[.string A1, .string A2])) 1 rfl).lt; (try clear z2 z3); obtain ⟨-, -, z2, z3⟩ := rat_facts (hq.at (x := (w.heap.size + 1, 23, #[.string ⟨#[]⟩, .string ⟨#[]⟩])) 0 rfl); replace HR := Lib.hid hq; replace HB := Lib.hid (below_to HB.out hb); clear hb hq))
      refine bodyPost_ret (results_rat_tmp rfl _ _ (w.heap.size + 1) _ _ rfl (rat_row (HR.out.at (x := (w.heap.size + 1, 23, #[.string ⟨#[]⟩, .string ⟨#[]⟩])) 0 rfl))) rfl ?_
      exact ⟨rfl, (HB.out.setCell (by dsimp only; omega) _).setCell (by dsimp only; omega) _⟩
    | false =>
      replace MA : Hid (CallT 28 #[.string N, .string Z] (.tuple #[.agg #[.string RS, .string RTT], .int .i64 RE])) := Lib.hid MA.out
      replace AA := Lib.hid (AA rfl)
      go_wp2_with (first | (go_at_call 48; (with_reducible refine Calls.mono (AA.out _ (HT.out.next HB.out)) ?_); rintro e w2 ⟨rfl, hb⟩; have hq := HR.out.below hb; clear x0_0 x0_1 y0 x1_0 x1_1 y1; have x0_0 : w2.cell? ⟨w.heap.size + 1, 0, none⟩ = some (.string ⟨#[]⟩) := (hq.at (x := (w.heap.size + 1, 23, #[.string ⟨#[]⟩, .string ⟨#[]⟩])) 0 rfl).cell 0; have x0_1 : w2.cell? ⟨w.heap.size + 1, 1, none⟩ = some (.string ⟨#[]⟩) := (hq.at (x := (w.heap.size + 1, 23, #[.string ⟨#[]⟩, .string ⟨#[]⟩])) 0 rfl).cell 1; have y0 : w.heap.size + 1 < w2.heap.size := (hq.at (x := (w.heap.size + 1, 23, #[.string ⟨#[]⟩, .string ⟨#[]⟩])) 0 rfl).lt; have x1_0 : w2.cell? ⟨w.heap.size, 0, none⟩ = some (.string A1) := (hq.at (x := (w.heap.size, 23, #[.string A1, .string A2])) 1 rfl).cell 0; have x1_1 : w2.cell? ⟨w.heap.size, 1, none⟩ = some (.string A2) := (hq.at (x := (w.heap.size, 23, #[.string A1, .string A2])) 1 rfl).cell 1; have y1 : w.heap.size < w2.heap.size := (hq.at (x := (w.heap.size, 23, #[.string A1, .string A2])) 1 rfl).lt; (try clear z2 z3); obtain ⟨-, -, z2, z3⟩ := rat_facts (hq.at (x := (w.heap.size + 1, 23, #[.string ⟨#[]⟩, .string ⟨#[]⟩])) 0 rfl); replace HR := Lib.hid hq; replace HB := Lib.hid (below_to HB.out hb); clear hb hq) | (go_at_call 28; (with_reducible refine Calls.mono (MA.out _ (HT.out.next HB.out)) ?_); rintro e w3 ⟨rfl, hb⟩; have hq := HR.out.below hb; clear x0_0 x0_1 y0 x1_0 x1_1 y1; have x0_0 : w3.cell? ⟨w.heap.size + 1, 0, none⟩ = some (.string ⟨#[]⟩) := (hq.at (x := (w.heap.size + 1, 23, #[.string ⟨#[]⟩, .string ⟨#[]⟩])) 0 rfl).cell 0; have x0_1 : w3.cell? ⟨w.heap.size + 1, 1, none⟩ = some (.string ⟨#[]⟩) := (hq.at (x := (w.heap.size + 1, 23, #[.string ⟨#[]⟩, .string ⟨#[]⟩])) 0 rfl).cell 1; have y0 : w.heap.size + 1 < w3.heap.size := (hq.at (x := (w.heap.size + 1, 23, #[.string ⟨#[]⟩, .string ⟨#[]⟩])) 0 rfl).lt; have x1_0 : w3.cell? ⟨w.heap.size, 0, none⟩ = some (.string A1) := (hq.at (x := (w.heap.size, 23, #[.string A1, .string A2])) 1 rfl).cell 0; have x1_1 : w3.cell? ⟨w.heap.size, 1, none⟩ = some (.string A2) := (hq.at (x := (w.heap.size, 23, #[.string A1, .string A2])) 1 rfl).cell 1; have y1 : w.heap.size < w3.heap.size := (hq.at (x := (w.heap.size, 23, #[.string A1, .string A2])) 1 rfl).lt; (try clear z2 z3); obtain ⟨-, -, z2, z3⟩ := rat_facts (hq.at (x := (w.heap.size + 1, 23, #[.string ⟨#[]⟩, .string ⟨#[]⟩])) 0 rfl); replace HR := Lib.hid hq; replace HB := Lib.hid (below_to HB.out hb); clear hb hq))
      refine bodyPost_ret (results_rat_tmp rfl _ _ (w.heap.size + 1) _ _ rfl (rat_row (HR.out.at (x := (w.heap.size + 1, 23, #[.string ⟨#[]⟩, .string ⟨#[]⟩])) 0 rfl))) rfl ?_
      exact ⟨rfl, (HB.out.setCell (by dsimp only; omega) _).setCell (by dsimp only; omega) _⟩
theorem same_down (l r : List UInt8) (hl : l.length ≤ 1000000) (hr : r.length ≤ 1000000) (P : Int) : SameQ 23 24 #[rv l r, .int .i64 P] := by
  by_cases h : vldR l r = false ∨ P < 0 ∨ 30 < P
  · exact ⟨⟨#[]⟩, ⟨#[]⟩, 40, failed _ _ (qv 0) fun u hu => down_no l r P h 0 u hu, rdown_walk _ _ _ _ _ ⟨#[]⟩ ⟨#[]⟩ _ _ P false 0 40 (rgrid_bad l r P hl hr h) (fun h => by cases h) (fun _ => ⟨rfl, rfl, rfl⟩) (fun h => by cases h)⟩
  · have hv : vldR l r = true := by cases hv : vldR l r with | true => rfl | false => exact absurd (.inl hv) h
    obtain ⟨q, hq, rfl, rfl⟩ := vldR_of hv
    obtain ⟨p, rfl⟩ : ∃ p : Nat, P = (p : Int) := ⟨P.toNat, by omega⟩
    have hp : p ≤ 30 := by omega
    have G := rgrid_q q p hq hp
    obtain ⟨q1, q2⟩ := okq_iff.1 hq
    have d0 := Qm.den_pos q
    have hten : ((10 ^ p : Nat) : Int) ≠ 0 := by have : 0 < 10 ^ p := Nat.pow_pos (by decide); omega
    cases hz : okz (q.num * ((10 ^ p : Nat) : Int)) with
    | false =>
      rw [hz] at G
      exact ⟨⟨#[]⟩, ⟨#[]⟩, 40, failed _ _ (qv 0) fun u hu => by
        have h := down_q q p hq hp u hu
        rw [hz] at h
        exact h.mono fun e w' ⟨s, t, er, h1, h2, h3⟩ => ⟨s, t, er, h1, h2.elim (fun x => by cases x.1) .inr, h3⟩, rdown_walk _ _ _ _ _ ⟨#[]⟩ ⟨#[]⟩ _ _ _ false 0 40 G (fun h => by cases h) (fun _ => ⟨rfl, rfl, rfl⟩) (fun h => by cases h)⟩
    | true =>
      rw [hz] at G
      have MK := rmake_ok _ _ (ok_div d0 hz) (ok_ten (p := p) (by omega)) hten
      exact ⟨_, _, 0, built _ _ _ fun u hu => by
        have h := down_q q p hq hp u hu
        rw [hz] at h; exact h, rdown_walk _ _ _ _ _ _ _ _ _ _ true 0 0 G (fun _ => MK) (fun h => by cases h) (fun _ => ⟨rfl, rfl, rfl⟩)⟩
theorem same_up (l r : List UInt8) (hl : l.length ≤ 1000000) (hr : r.length ≤ 1000000) (P : Int) : SameQ 25 26 #[rv l r, .int .i64 P] := by
  by_cases h : vldR l r = false ∨ P < 0 ∨ 30 < P
  · exact ⟨⟨#[]⟩, ⟨#[]⟩, 40, failed _ _ (qv 0) fun u hu => up_no l r P h 0 u hu, rup_walk _ _ _ _ _ ⟨#[]⟩ ⟨#[]⟩ ⟨#[]⟩ _ _ P false true 0 40 (rgrid_bad l r P hl hr h) (fun h => by cases h) (fun h => by cases h) (fun h => by cases h) (fun _ => ⟨rfl, rfl, rfl⟩) (fun h => by cases h)⟩
  · have hv : vldR l r = true := by cases hv : vldR l r with | true => rfl | false => exact absurd (.inl hv) h
    obtain ⟨q, hq, rfl, rfl⟩ := vldR_of hv
    obtain ⟨p, rfl⟩ : ∃ p : Nat, P = (p : Int) := ⟨P.toNat, by omega⟩
    have hp : p ≤ 30 := by omega
    have G := rgrid_q q p hq hp
    obtain ⟨q1, q2⟩ := okq_iff.1 hq
    have d0 := Qm.den_pos q
    have hten : ((10 ^ p : Nat) : Int) ≠ 0 := by have : 0 < 10 ^ p := Nat.pow_pos (by decide); omega
    cases hz : okz (q.num * ((10 ^ p : Nat) : Int)) with
    | false =>
      rw [hz] at G
      exact ⟨⟨#[]⟩, ⟨#[]⟩, 40, failed _ _ (qv 0) fun u hu => by
        have h := up_q q p hq hp u hu
        rw [hz] at h
        exact h.mono fun e w' ⟨s, t, er, h1, h2, h3⟩ => ⟨s, t, er, h1, h2.elim (fun x => by cases x.1) .inr, h3⟩, rup_walk _ _ _ _ _ ⟨#[]⟩ ⟨#[]⟩ ⟨#[]⟩ _ _ _ false true 0 40 G (fun h => by cases h) (fun h => by cases h) (fun h => by cases h) (fun _ => ⟨rfl, rfl, rfl⟩) (fun h => by cases h)⟩
    | true =>
      rw [hz] at G
      have hcl := cl_ok d0 hz
      have MK := rmake_ok _ _ hcl (ok_ten (p := p) (by omega)) hten
      have tz := txt_zero (q.num * ((10 ^ p : Nat) : Int) % ((q.den : Nat) : Int))
      have hup : CallT 25 #[qv q, .int .i64 (p : Int)] (.tuple #[qv (Rat.divInt (cl (q.num * ((10 ^ p : Nat) : Int)) ((q.den : Nat) : Int)) ((10 ^ p : Nat) : Int)), .int .i64 0]) := built _ _ _ fun u hu => by
        have h := up_q q p hq hp u hu
        rw [hz] at h; exact h
      by_cases hm : q.num * ((10 ^ p : Nat) : Int) % ((q.den : Nat) : Int) = 0
      · rw [decide_eq_true hm] at tz
        have hc : cl (q.num * ((10 ^ p : Nat) : Int)) ((q.den : Nat) : Int) = q.num * ((10 ^ p : Nat) : Int) / ((q.den : Nat) : Int) := by unfold cl; rw [if_pos hm]
        rw [hc] at MK hup
        exact ⟨_, _, 0, hup, rup_walk _ _ _ _ _ ⟨#[]⟩ _ _ _ _ _ true true 0 0 G (fun _ => tz) (fun _ h => by cases h) (fun _ => MK) (fun h => by cases h) (fun _ => ⟨rfl, rfl, rfl⟩)⟩
      · rw [decide_eq_false hm] at tz
        have hc : cl (q.num * ((10 ^ p : Nat) : Int)) ((q.den : Nat) : Int) = q.num * ((10 ^ p : Nat) : Int) / ((q.den : Nat) : Int) + 1 := by unfold cl; rw [if_neg hm]
        rw [hc] at MK hup hcl
        have AD := raddX (q.num * ((10 ^ p : Nat) : Int) / ((q.den : Nat) : Int)) 1 (ok_div d0 hz) ok1
        rw [outT_ok hcl, errT_ok hcl, lit1] at AD
        exact ⟨_, _, 0, hup, rup_walk _ _ _ _ _ _ _ _ _ _ _ true false 0 0 G (fun _ => tz) (fun _ _ => AD) (fun _ => MK) (fun h => by cases h) (fun _ => ⟨rfl, rfl, rfl⟩)⟩
end Go.Proofs.YtabkodpjhpjgnaaGreatDoor
