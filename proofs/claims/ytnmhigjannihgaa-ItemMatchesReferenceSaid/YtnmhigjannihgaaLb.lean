/- The reference's Bent. -/
import Derived.Test.YtnmhigjannihgaaLa
namespace Go.Proofs.Ytnmhigjannihgaa
open Go.RowKit Go.Shelf
attribute [local go_sem ↓] append_appN

theorem rpick_at {c m k : Int} (h : pickI c m = k) (hm : 0 < m) (hm2 : m ≤ 9223372036854775807) (hc : I64 c) (u : World) : Calls Try.prog 39 #[.int .i64 c, .int .i64 m] u fun e w' => e = .returned (.int .i64 k) ∧ u = w' := by
  rw [← h]; exact rpick_any c m hm hm2 hc.1 hc.2 u
set_option maxRecDepth 100000 in
set_option maxHeartbeats 8000000 in
theorem rbent_x (i : ItemP) (how n at_ : Int) (hh : I64 how) (ha : I64 at_) (A1 A2 : Option Addr) (n1 c1 n2 c2 : Nat) (h1000 : n1 ≤ 1000 ∧ n2 ≤ 1000) (w : World) (hr : ItAt i A1 n1 c1 A2 n2 c2 w.heap.size w) :
    Calls Try.prog 11 #[.agg #[.int .i64 i.id, .int .i64 i.kind, .int .i64 i.len, .slice A1 n1 c1, .slice A2 n2 c2, .int .i64 i.artist, .int .i64 i.tempo, .int .i64 i.lang], .int .i64 how, .int .i64 n, .int .i64 at_] w fun e w' => ∃ (k : ItemP) (A5 A6 : Option Addr) (n5 c5 n6 c6 : Nat), e = .returned (.agg #[.int .i64 k.id, .int .i64 k.kind, .int .i64 k.len, .slice A5 n5 c5, .slice A6 n6 c6, .int .i64 k.artist, .int .i64 k.tempo, .int .i64 k.lang]) ∧ ItAt k A5 n5 c5 A6 n6 c6 w'.heap.size w' ∧ Below w.heap.size w w' ∧ n5 ≤ n1 + 1 := by
  have HN1 := Lib.hid hr.lens.1
  have HN2 := Lib.hid hr.lens.2
  obtain ⟨t, ht⟩ : ∃ t, pickI how 10 = t := ⟨_, rfl⟩
  have htb := pickI_lt how 10 (by decide)
  rw [ht] at htb
  have HT := Lib.hid (fun u => rpick_at ht (by decide) (by decide) hh u)
  obtain ⟨W, hW⟩ : ∃ W, (w.alloc (.cells #[.int .i64 i.id, .int .i64 i.kind, .int .i64 i.len, .slice A1 n1 c1, .slice A2 n2 c2, .int .i64 i.artist, .int .i64 i.tempo, .int .i64 i.lang] 24)).alloc (.cells #[.int .i64 0, .int .i64 0, .int .i64 0, .slice none 0 0, .slice none 0 0, .int .i64 0, .int .i64 0, .int .i64 0] 24) = W := ⟨_, rfl⟩
  have hB : Below w.heap.size w W := by rw [← hW]; exact ((Below.refl _ w).alloc (Nat.le_refl _) _).alloc (by simp) _
  have R0 : Row W w.heap.size 24 #[.int .i64 i.id, .int .i64 i.kind, .int .i64 i.len, .slice A1 n1 c1, .slice A2 n2 c2, .int .i64 i.artist, .int .i64 i.tempo, .int .i64 i.lang] := by rw [← hW]; exact (Row.new _ _ _).alloc _
  have Z0 : Row W (w.heap.size + 1) 24 #[.int .i64 0, .int .i64 0, .int .i64 0, .slice none 0 0, .slice none 0 0, .int .i64 0, .int .i64 0, .int .i64 0] := by
    rw [← hW]
    have h := Row.new (w.alloc (.cells #[.int .i64 i.id, .int .i64 i.kind, .int .i64 i.len, .slice A1 n1 c1, .slice A2 n2 c2, .int .i64 i.artist, .int .i64 i.tempo, .int .i64 i.lang] 24)) 24 #[.int .i64 0, .int .i64 0, .int .i64 0, .slice none 0 0, .slice none 0 0, .int .i64 0, .int .i64 0, .int .i64 0]
    rwa [World.size_alloc] at h
  have hsW : W.heap.size = w.heap.size + 2 := by rw [← hW]; simp
  have HW := Lib.hid hW
  -- the copy of the trims
  obtain ⟨A3, c3, w1, run1, own1, b1⟩ := copy_spells (hr.t.next hB) h1000.1
  have Rw1 := R0.below b1 R0.lt
  have Zw1 := Z0.below b1 Z0.lt
  have x1 : w1.cell? ⟨w.heap.size, 3, none⟩ = some (.slice A1 n1 c1) := Rw1.cell 3
  have y1 := Rw1.free 3
  have l1 := Rw1.lt
  have Rw2 := Rw1.put 3 (.slice A3 n1 c3)
  have Zw2 := Zw1.far (p := ⟨w.heap.size, 3, none⟩) (by dsimp only; omega) (.slice A3 n1 c3)
  have Bw2 : Below w.heap.size w (w1.setCell ⟨w.heap.size, 3, none⟩ (.slice A3 n1 c3)) := (below_to hB b1).setCell (p := ⟨w.heap.size, 3, none⟩) (by dsimp only; omega) _
  have sb1 := b1.size
  have own2 := own_stay own1 (w' := w1.setCell ⟨w.heap.size, 3, none⟩ (.slice A3 n1 c3)) fun j h1 h2 => Below.heap_setCell w1 ⟨w.heap.size, 3, none⟩ _ j (by dsimp only; omega)
  have sz2 : (w1.setCell ⟨w.heap.size, 3, none⟩ (.slice A3 n1 c3)).heap.size = w1.heap.size := by simp [World.setCell]
  obtain ⟨w2, hw2⟩ : ∃ w2, w1.setCell ⟨w.heap.size, 3, none⟩ (.slice A3 n1 c3) = w2 := ⟨_, rfl⟩
  rw [hw2] at Rw2 Zw2 Bw2 own2 sz2
  -- the copy of the talks
  obtain ⟨A4, c4, w3, run2, own3, b2⟩ := copy_spells (hr.k.next Bw2) h1000.2
  have Rw3 := Rw2.below b2 Rw2.lt
  have Zw3 := Zw2.below b2 Zw2.lt
  have own4 := own_below own2 b2
  have x2 : w2.cell? ⟨w.heap.size, 4, none⟩ = some (.slice A2 n2 c2) := Rw2.cell 4
  have x3 : w3.cell? ⟨w.heap.size, 4, none⟩ = some (.slice A2 n2 c2) := Rw3.cell 4
  have y3 := Rw3.free 4
  have l3 := Rw3.lt
  have l2 := Rw2.lt
  have sb2 := b2.size
  have R4 := Lib.hid (Rw3.put 4 (.slice A4 n2 c4))
  have Z4 := Lib.hid (Zw3.far (p := ⟨w.heap.size, 4, none⟩) (by dsimp only; omega) (.slice A4 n2 c4))
  have B4 := Lib.hid ((below_to Bw2 b2).setCell (p := ⟨w.heap.size, 4, none⟩) (by dsimp only; omega) (.slice A4 n2 c4))
  have O1 := Lib.hid (own_stay own4 (w' := w3.setCell ⟨w.heap.size, 4, none⟩ (.slice A4 n2 c4)) fun j h1 h2 => Below.heap_setCell w3 ⟨w.heap.size, 4, none⟩ _ j (by dsimp only; omega))
  have O2 := Lib.hid (own_stay own3 (w' := w3.setCell ⟨w.heap.size, 4, none⟩ (.slice A4 n2 c4)) fun j h1 h2 => Below.heap_setCell w3 ⟨w.heap.size, 4, none⟩ _ j (by dsimp only; omega))
  have r0 := R0.cell 0; have r1 := R0.cell 1; have r2 := R0.cell 2; have r3 := R0.cell 3; have r4 := R0.cell 4; have r5 := R0.cell 5; have r6 := R0.cell 6; have r7 := R0.cell 7
  have l0 := R0.lt
  have lz0 := Z0.lt
  have OL := Lib.hid (own_lt own2)
  rw [hsW] at run1
  rw [sz2] at run2
  have sz2s := Lib.hid (show W.heap.size ≤ w2.heap.size by omega)
  have Bs4 := Lib.hid (show W.heap.size ≤ (w3.setCell ⟨w.heap.size, 4, none⟩ (.slice A4 n2 c4)).heap.size by simp [World.setCell]; omega)
  clear own1 own2 own3 own4 Rw1 Zw1 Rw2 Zw2 Rw3 Zw3 Bw2 R0 Z0 hB b1 b2 hW
  go_enter Try.func11, Try.ntmps11
  go_upto_region 1 with (fail)
  try rw [HW.out]
  go_upto_region 2 with (fail)
  try rw [hw2]
  clear x1 y1 run1 r0 r1 r2 r3 r4 r5 r6 r7
  go_upto_region 3 with (fail)
  obtain ⟨w4, hw4⟩ : ∃ w4, w3.setCell ⟨w.heap.size, 4, none⟩ (.slice A4 n2 c4) = w4 := ⟨_, rfl⟩
  rw [hw4] at R4 Z4 B4 O1 O2 Bs4 ⊢
  clear x2 x3 y3 run2 hw4
  have h10 : t = 0 ∨ t = 1 ∨ t = 2 ∨ t = 3 ∨ t = 4 ∨ t = 5 ∨ t = 6 ∨ t = 7 ∨ t = 8 ∨ t = 9 := by omega
  clear ht htb
  rcases h10 with rfl | rfl | rfl | rfl | rfl | rfl | rfl | rfl | rfl | rfl
  · skip
    have q1 := R4.out.cell 0
    have q2 := R4.out.free 0
    have lq := R4.out.lt
    have RX := Lib.hid (R4.out.put 0 (.int .i64 n))
    have ZX := Lib.hid (Z4.out.far (p := ⟨w.heap.size, 0, none⟩) (by dsimp only; omega) (.int .i64 n))
    have BX := Lib.hid (B4.out.setCell (p := ⟨w.heap.size, 0, none⟩) (by dsimp only; omega) (.int .i64 n))
    have P1 := Lib.hid (own_stay O1.out (w' := (w4.setCell ⟨w.heap.size, 0, none⟩ (.int .i64 n))) fun j h1 h2 => Below.heap_setCell w4 ⟨w.heap.size, 0, none⟩ _ j (by dsimp only; omega))
    have P2 := Lib.hid (own_stay O2.out (w' := (w4.setCell ⟨w.heap.size, 0, none⟩ (.int .i64 n))) fun j h1 h2 => Below.heap_setCell w4 ⟨w.heap.size, 0, none⟩ _ j (by dsimp only; omega))
    have r0 : (w4.setCell ⟨w.heap.size, 0, none⟩ (.int .i64 n)).cell? ⟨w.heap.size, 0, none⟩ = some (.int .i64 n) := RX.out.cell 0
    have r1 : (w4.setCell ⟨w.heap.size, 0, none⟩ (.int .i64 n)).cell? ⟨w.heap.size, 1, none⟩ = some (.int .i64 i.kind) := RX.out.cell 1
    have r2 : (w4.setCell ⟨w.heap.size, 0, none⟩ (.int .i64 n)).cell? ⟨w.heap.size, 2, none⟩ = some (.int .i64 i.len) := RX.out.cell 2
    have r3 : (w4.setCell ⟨w.heap.size, 0, none⟩ (.int .i64 n)).cell? ⟨w.heap.size, 3, none⟩ = some (.slice A3 n1 c3) := RX.out.cell 3
    have r4 : (w4.setCell ⟨w.heap.size, 0, none⟩ (.int .i64 n)).cell? ⟨w.heap.size, 4, none⟩ = some (.slice A4 n2 c4) := RX.out.cell 4
    have r5 : (w4.setCell ⟨w.heap.size, 0, none⟩ (.int .i64 n)).cell? ⟨w.heap.size, 5, none⟩ = some (.int .i64 i.artist) := RX.out.cell 5
    have r6 : (w4.setCell ⟨w.heap.size, 0, none⟩ (.int .i64 n)).cell? ⟨w.heap.size, 6, none⟩ = some (.int .i64 i.tempo) := RX.out.cell 6
    have r7 : (w4.setCell ⟨w.heap.size, 0, none⟩ (.int .i64 n)).cell? ⟨w.heap.size, 7, none⟩ = some (.int .i64 i.lang) := RX.out.cell 7
    have v0 : (w4.setCell ⟨w.heap.size, 0, none⟩ (.int .i64 n)).cell? ⟨w.heap.size + 1, 0, none⟩ = some (.int .i64 0) := ZX.out.cell 0
    have z0 := ZX.out.free 0
    have v1 : (w4.setCell ⟨w.heap.size, 0, none⟩ (.int .i64 n)).cell? ⟨w.heap.size + 1, 1, none⟩ = some (.int .i64 0) := ZX.out.cell 1
    have z1 := ZX.out.free 1
    have v2 : (w4.setCell ⟨w.heap.size, 0, none⟩ (.int .i64 n)).cell? ⟨w.heap.size + 1, 2, none⟩ = some (.int .i64 0) := ZX.out.cell 2
    have z2 := ZX.out.free 2
    have v3 : (w4.setCell ⟨w.heap.size, 0, none⟩ (.int .i64 n)).cell? ⟨w.heap.size + 1, 3, none⟩ = some (.slice none 0 0) := ZX.out.cell 3
    have z3 := ZX.out.free 3
    have v4 : (w4.setCell ⟨w.heap.size, 0, none⟩ (.int .i64 n)).cell? ⟨w.heap.size + 1, 4, none⟩ = some (.slice none 0 0) := ZX.out.cell 4
    have z4 := ZX.out.free 4
    have v5 : (w4.setCell ⟨w.heap.size, 0, none⟩ (.int .i64 n)).cell? ⟨w.heap.size + 1, 5, none⟩ = some (.int .i64 0) := ZX.out.cell 5
    have z5 := ZX.out.free 5
    have v6 : (w4.setCell ⟨w.heap.size, 0, none⟩ (.int .i64 n)).cell? ⟨w.heap.size + 1, 6, none⟩ = some (.int .i64 0) := ZX.out.cell 6
    have z6 := ZX.out.free 6
    have v7 : (w4.setCell ⟨w.heap.size, 0, none⟩ (.int .i64 n)).cell? ⟨w.heap.size + 1, 7, none⟩ = some (.int .i64 0) := ZX.out.cell 7
    have z7 := ZX.out.free 7
    have lr := RX.out.lt
    have lz := ZX.out.lt
    go_wp2_with (go_at_call 39; (with_reducible refine Calls.mono (HT.out _) ?_); rintro r w9 ⟨rfl, rfl⟩)
    refine bodyPost_ret (results_i rfl _ _ (w.heap.size + 1) _ _ _ _ _ _ _ _ rfl (put8_row ZX.out _ _ _ _ _ _ _ _)) rfl ⟨⟨n, i.kind, i.len, i.trims, i.talks, i.artist, i.tempo, i.lang⟩, A3, A4, n1, c3, n2, c4, rfl, ⟨?_, ?_⟩, put8_below BX.out (by omega) _ _ _ _ _ _ _ _, by omega⟩
    · exact recs_of_own (own_stay P1.out fun j h1 h2 => put8_stay _ (w.heap.size + 1) _ _ _ _ _ _ _ _ j (by omega)) (by simp [HN1.out])
    · exact recs_of_own (own_stay P2.out fun j h1 h2 => put8_stay _ (w.heap.size + 1) _ _ _ _ _ _ _ _ j (by omega)) (by simp [HN2.out])
  · skip
    have q1 := R4.out.cell 1
    have q2 := R4.out.free 1
    have lq := R4.out.lt
    have RX := Lib.hid (R4.out.put 1 (.int .i64 n))
    have ZX := Lib.hid (Z4.out.far (p := ⟨w.heap.size, 1, none⟩) (by dsimp only; omega) (.int .i64 n))
    have BX := Lib.hid (B4.out.setCell (p := ⟨w.heap.size, 1, none⟩) (by dsimp only; omega) (.int .i64 n))
    have P1 := Lib.hid (own_stay O1.out (w' := (w4.setCell ⟨w.heap.size, 1, none⟩ (.int .i64 n))) fun j h1 h2 => Below.heap_setCell w4 ⟨w.heap.size, 1, none⟩ _ j (by dsimp only; omega))
    have P2 := Lib.hid (own_stay O2.out (w' := (w4.setCell ⟨w.heap.size, 1, none⟩ (.int .i64 n))) fun j h1 h2 => Below.heap_setCell w4 ⟨w.heap.size, 1, none⟩ _ j (by dsimp only; omega))
    have r0 : (w4.setCell ⟨w.heap.size, 1, none⟩ (.int .i64 n)).cell? ⟨w.heap.size, 0, none⟩ = some (.int .i64 i.id) := RX.out.cell 0
    have r1 : (w4.setCell ⟨w.heap.size, 1, none⟩ (.int .i64 n)).cell? ⟨w.heap.size, 1, none⟩ = some (.int .i64 n) := RX.out.cell 1
    have r2 : (w4.setCell ⟨w.heap.size, 1, none⟩ (.int .i64 n)).cell? ⟨w.heap.size, 2, none⟩ = some (.int .i64 i.len) := RX.out.cell 2
    have r3 : (w4.setCell ⟨w.heap.size, 1, none⟩ (.int .i64 n)).cell? ⟨w.heap.size, 3, none⟩ = some (.slice A3 n1 c3) := RX.out.cell 3
    have r4 : (w4.setCell ⟨w.heap.size, 1, none⟩ (.int .i64 n)).cell? ⟨w.heap.size, 4, none⟩ = some (.slice A4 n2 c4) := RX.out.cell 4
    have r5 : (w4.setCell ⟨w.heap.size, 1, none⟩ (.int .i64 n)).cell? ⟨w.heap.size, 5, none⟩ = some (.int .i64 i.artist) := RX.out.cell 5
    have r6 : (w4.setCell ⟨w.heap.size, 1, none⟩ (.int .i64 n)).cell? ⟨w.heap.size, 6, none⟩ = some (.int .i64 i.tempo) := RX.out.cell 6
    have r7 : (w4.setCell ⟨w.heap.size, 1, none⟩ (.int .i64 n)).cell? ⟨w.heap.size, 7, none⟩ = some (.int .i64 i.lang) := RX.out.cell 7
    have v0 : (w4.setCell ⟨w.heap.size, 1, none⟩ (.int .i64 n)).cell? ⟨w.heap.size + 1, 0, none⟩ = some (.int .i64 0) := ZX.out.cell 0
    have z0 := ZX.out.free 0
    have v1 : (w4.setCell ⟨w.heap.size, 1, none⟩ (.int .i64 n)).cell? ⟨w.heap.size + 1, 1, none⟩ = some (.int .i64 0) := ZX.out.cell 1
    have z1 := ZX.out.free 1
    have v2 : (w4.setCell ⟨w.heap.size, 1, none⟩ (.int .i64 n)).cell? ⟨w.heap.size + 1, 2, none⟩ = some (.int .i64 0) := ZX.out.cell 2
    have z2 := ZX.out.free 2
    have v3 : (w4.setCell ⟨w.heap.size, 1, none⟩ (.int .i64 n)).cell? ⟨w.heap.size + 1, 3, none⟩ = some (.slice none 0 0) := ZX.out.cell 3
    have z3 := ZX.out.free 3
    have v4 : (w4.setCell ⟨w.heap.size, 1, none⟩ (.int .i64 n)).cell? ⟨w.heap.size + 1, 4, none⟩ = some (.slice none 0 0) := ZX.out.cell 4
    have z4 := ZX.out.free 4
    have v5 : (w4.setCell ⟨w.heap.size, 1, none⟩ (.int .i64 n)).cell? ⟨w.heap.size + 1, 5, none⟩ = some (.int .i64 0) := ZX.out.cell 5
    have z5 := ZX.out.free 5
    have v6 : (w4.setCell ⟨w.heap.size, 1, none⟩ (.int .i64 n)).cell? ⟨w.heap.size + 1, 6, none⟩ = some (.int .i64 0) := ZX.out.cell 6
    have z6 := ZX.out.free 6
    have v7 : (w4.setCell ⟨w.heap.size, 1, none⟩ (.int .i64 n)).cell? ⟨w.heap.size + 1, 7, none⟩ = some (.int .i64 0) := ZX.out.cell 7
    have z7 := ZX.out.free 7
    have lr := RX.out.lt
    have lz := ZX.out.lt
    go_wp2_with (go_at_call 39; (with_reducible refine Calls.mono (HT.out _) ?_); rintro r w9 ⟨rfl, rfl⟩)
    refine bodyPost_ret (results_i rfl _ _ (w.heap.size + 1) _ _ _ _ _ _ _ _ rfl (put8_row ZX.out _ _ _ _ _ _ _ _)) rfl ⟨⟨i.id, n, i.len, i.trims, i.talks, i.artist, i.tempo, i.lang⟩, A3, A4, n1, c3, n2, c4, rfl, ⟨?_, ?_⟩, put8_below BX.out (by omega) _ _ _ _ _ _ _ _, by omega⟩
    · exact recs_of_own (own_stay P1.out fun j h1 h2 => put8_stay _ (w.heap.size + 1) _ _ _ _ _ _ _ _ j (by omega)) (by simp [HN1.out])
    · exact recs_of_own (own_stay P2.out fun j h1 h2 => put8_stay _ (w.heap.size + 1) _ _ _ _ _ _ _ _ j (by omega)) (by simp [HN2.out])
  · skip
    have q1 := R4.out.cell 2
    have q2 := R4.out.free 2
    have lq := R4.out.lt
    have RX := Lib.hid (R4.out.put 2 (.int .i64 n))
    have ZX := Lib.hid (Z4.out.far (p := ⟨w.heap.size, 2, none⟩) (by dsimp only; omega) (.int .i64 n))
    have BX := Lib.hid (B4.out.setCell (p := ⟨w.heap.size, 2, none⟩) (by dsimp only; omega) (.int .i64 n))
    have P1 := Lib.hid (own_stay O1.out (w' := (w4.setCell ⟨w.heap.size, 2, none⟩ (.int .i64 n))) fun j h1 h2 => Below.heap_setCell w4 ⟨w.heap.size, 2, none⟩ _ j (by dsimp only; omega))
    have P2 := Lib.hid (own_stay O2.out (w' := (w4.setCell ⟨w.heap.size, 2, none⟩ (.int .i64 n))) fun j h1 h2 => Below.heap_setCell w4 ⟨w.heap.size, 2, none⟩ _ j (by dsimp only; omega))
    have r0 : (w4.setCell ⟨w.heap.size, 2, none⟩ (.int .i64 n)).cell? ⟨w.heap.size, 0, none⟩ = some (.int .i64 i.id) := RX.out.cell 0
    have r1 : (w4.setCell ⟨w.heap.size, 2, none⟩ (.int .i64 n)).cell? ⟨w.heap.size, 1, none⟩ = some (.int .i64 i.kind) := RX.out.cell 1
    have r2 : (w4.setCell ⟨w.heap.size, 2, none⟩ (.int .i64 n)).cell? ⟨w.heap.size, 2, none⟩ = some (.int .i64 n) := RX.out.cell 2
    have r3 : (w4.setCell ⟨w.heap.size, 2, none⟩ (.int .i64 n)).cell? ⟨w.heap.size, 3, none⟩ = some (.slice A3 n1 c3) := RX.out.cell 3
    have r4 : (w4.setCell ⟨w.heap.size, 2, none⟩ (.int .i64 n)).cell? ⟨w.heap.size, 4, none⟩ = some (.slice A4 n2 c4) := RX.out.cell 4
    have r5 : (w4.setCell ⟨w.heap.size, 2, none⟩ (.int .i64 n)).cell? ⟨w.heap.size, 5, none⟩ = some (.int .i64 i.artist) := RX.out.cell 5
    have r6 : (w4.setCell ⟨w.heap.size, 2, none⟩ (.int .i64 n)).cell? ⟨w.heap.size, 6, none⟩ = some (.int .i64 i.tempo) := RX.out.cell 6
    have r7 : (w4.setCell ⟨w.heap.size, 2, none⟩ (.int .i64 n)).cell? ⟨w.heap.size, 7, none⟩ = some (.int .i64 i.lang) := RX.out.cell 7
    have v0 : (w4.setCell ⟨w.heap.size, 2, none⟩ (.int .i64 n)).cell? ⟨w.heap.size + 1, 0, none⟩ = some (.int .i64 0) := ZX.out.cell 0
    have z0 := ZX.out.free 0
    have v1 : (w4.setCell ⟨w.heap.size, 2, none⟩ (.int .i64 n)).cell? ⟨w.heap.size + 1, 1, none⟩ = some (.int .i64 0) := ZX.out.cell 1
    have z1 := ZX.out.free 1
    have v2 : (w4.setCell ⟨w.heap.size, 2, none⟩ (.int .i64 n)).cell? ⟨w.heap.size + 1, 2, none⟩ = some (.int .i64 0) := ZX.out.cell 2
    have z2 := ZX.out.free 2
    have v3 : (w4.setCell ⟨w.heap.size, 2, none⟩ (.int .i64 n)).cell? ⟨w.heap.size + 1, 3, none⟩ = some (.slice none 0 0) := ZX.out.cell 3
    have z3 := ZX.out.free 3
    have v4 : (w4.setCell ⟨w.heap.size, 2, none⟩ (.int .i64 n)).cell? ⟨w.heap.size + 1, 4, none⟩ = some (.slice none 0 0) := ZX.out.cell 4
    have z4 := ZX.out.free 4
    have v5 : (w4.setCell ⟨w.heap.size, 2, none⟩ (.int .i64 n)).cell? ⟨w.heap.size + 1, 5, none⟩ = some (.int .i64 0) := ZX.out.cell 5
    have z5 := ZX.out.free 5
    have v6 : (w4.setCell ⟨w.heap.size, 2, none⟩ (.int .i64 n)).cell? ⟨w.heap.size + 1, 6, none⟩ = some (.int .i64 0) := ZX.out.cell 6
    have z6 := ZX.out.free 6
    have v7 : (w4.setCell ⟨w.heap.size, 2, none⟩ (.int .i64 n)).cell? ⟨w.heap.size + 1, 7, none⟩ = some (.int .i64 0) := ZX.out.cell 7
    have z7 := ZX.out.free 7
    have lr := RX.out.lt
    have lz := ZX.out.lt
    go_wp2_with (go_at_call 39; (with_reducible refine Calls.mono (HT.out _) ?_); rintro r w9 ⟨rfl, rfl⟩)
    refine bodyPost_ret (results_i rfl _ _ (w.heap.size + 1) _ _ _ _ _ _ _ _ rfl (put8_row ZX.out _ _ _ _ _ _ _ _)) rfl ⟨⟨i.id, i.kind, n, i.trims, i.talks, i.artist, i.tempo, i.lang⟩, A3, A4, n1, c3, n2, c4, rfl, ⟨?_, ?_⟩, put8_below BX.out (by omega) _ _ _ _ _ _ _ _, by omega⟩
    · exact recs_of_own (own_stay P1.out fun j h1 h2 => put8_stay _ (w.heap.size + 1) _ _ _ _ _ _ _ _ j (by omega)) (by simp [HN1.out])
    · exact recs_of_own (own_stay P2.out fun j h1 h2 => put8_stay _ (w.heap.size + 1) _ _ _ _ _ _ _ _ j (by omega)) (by simp [HN2.out])
  · skip
    have q1 := R4.out.cell 5
    have q2 := R4.out.free 5
    have lq := R4.out.lt
    have RX := Lib.hid (R4.out.put 5 (.int .i64 n))
    have ZX := Lib.hid (Z4.out.far (p := ⟨w.heap.size, 5, none⟩) (by dsimp only; omega) (.int .i64 n))
    have BX := Lib.hid (B4.out.setCell (p := ⟨w.heap.size, 5, none⟩) (by dsimp only; omega) (.int .i64 n))
    have P1 := Lib.hid (own_stay O1.out (w' := (w4.setCell ⟨w.heap.size, 5, none⟩ (.int .i64 n))) fun j h1 h2 => Below.heap_setCell w4 ⟨w.heap.size, 5, none⟩ _ j (by dsimp only; omega))
    have P2 := Lib.hid (own_stay O2.out (w' := (w4.setCell ⟨w.heap.size, 5, none⟩ (.int .i64 n))) fun j h1 h2 => Below.heap_setCell w4 ⟨w.heap.size, 5, none⟩ _ j (by dsimp only; omega))
    have r0 : (w4.setCell ⟨w.heap.size, 5, none⟩ (.int .i64 n)).cell? ⟨w.heap.size, 0, none⟩ = some (.int .i64 i.id) := RX.out.cell 0
    have r1 : (w4.setCell ⟨w.heap.size, 5, none⟩ (.int .i64 n)).cell? ⟨w.heap.size, 1, none⟩ = some (.int .i64 i.kind) := RX.out.cell 1
    have r2 : (w4.setCell ⟨w.heap.size, 5, none⟩ (.int .i64 n)).cell? ⟨w.heap.size, 2, none⟩ = some (.int .i64 i.len) := RX.out.cell 2
    have r3 : (w4.setCell ⟨w.heap.size, 5, none⟩ (.int .i64 n)).cell? ⟨w.heap.size, 3, none⟩ = some (.slice A3 n1 c3) := RX.out.cell 3
    have r4 : (w4.setCell ⟨w.heap.size, 5, none⟩ (.int .i64 n)).cell? ⟨w.heap.size, 4, none⟩ = some (.slice A4 n2 c4) := RX.out.cell 4
    have r5 : (w4.setCell ⟨w.heap.size, 5, none⟩ (.int .i64 n)).cell? ⟨w.heap.size, 5, none⟩ = some (.int .i64 n) := RX.out.cell 5
    have r6 : (w4.setCell ⟨w.heap.size, 5, none⟩ (.int .i64 n)).cell? ⟨w.heap.size, 6, none⟩ = some (.int .i64 i.tempo) := RX.out.cell 6
    have r7 : (w4.setCell ⟨w.heap.size, 5, none⟩ (.int .i64 n)).cell? ⟨w.heap.size, 7, none⟩ = some (.int .i64 i.lang) := RX.out.cell 7
    have v0 : (w4.setCell ⟨w.heap.size, 5, none⟩ (.int .i64 n)).cell? ⟨w.heap.size + 1, 0, none⟩ = some (.int .i64 0) := ZX.out.cell 0
    have z0 := ZX.out.free 0
    have v1 : (w4.setCell ⟨w.heap.size, 5, none⟩ (.int .i64 n)).cell? ⟨w.heap.size + 1, 1, none⟩ = some (.int .i64 0) := ZX.out.cell 1
    have z1 := ZX.out.free 1
    have v2 : (w4.setCell ⟨w.heap.size, 5, none⟩ (.int .i64 n)).cell? ⟨w.heap.size + 1, 2, none⟩ = some (.int .i64 0) := ZX.out.cell 2
    have z2 := ZX.out.free 2
    have v3 : (w4.setCell ⟨w.heap.size, 5, none⟩ (.int .i64 n)).cell? ⟨w.heap.size + 1, 3, none⟩ = some (.slice none 0 0) := ZX.out.cell 3
    have z3 := ZX.out.free 3
    have v4 : (w4.setCell ⟨w.heap.size, 5, none⟩ (.int .i64 n)).cell? ⟨w.heap.size + 1, 4, none⟩ = some (.slice none 0 0) := ZX.out.cell 4
    have z4 := ZX.out.free 4
    have v5 : (w4.setCell ⟨w.heap.size, 5, none⟩ (.int .i64 n)).cell? ⟨w.heap.size + 1, 5, none⟩ = some (.int .i64 0) := ZX.out.cell 5
    have z5 := ZX.out.free 5
    have v6 : (w4.setCell ⟨w.heap.size, 5, none⟩ (.int .i64 n)).cell? ⟨w.heap.size + 1, 6, none⟩ = some (.int .i64 0) := ZX.out.cell 6
    have z6 := ZX.out.free 6
    have v7 : (w4.setCell ⟨w.heap.size, 5, none⟩ (.int .i64 n)).cell? ⟨w.heap.size + 1, 7, none⟩ = some (.int .i64 0) := ZX.out.cell 7
    have z7 := ZX.out.free 7
    have lr := RX.out.lt
    have lz := ZX.out.lt
    go_wp2_with (go_at_call 39; (with_reducible refine Calls.mono (HT.out _) ?_); rintro r w9 ⟨rfl, rfl⟩)
    refine bodyPost_ret (results_i rfl _ _ (w.heap.size + 1) _ _ _ _ _ _ _ _ rfl (put8_row ZX.out _ _ _ _ _ _ _ _)) rfl ⟨⟨i.id, i.kind, i.len, i.trims, i.talks, n, i.tempo, i.lang⟩, A3, A4, n1, c3, n2, c4, rfl, ⟨?_, ?_⟩, put8_below BX.out (by omega) _ _ _ _ _ _ _ _, by omega⟩
    · exact recs_of_own (own_stay P1.out fun j h1 h2 => put8_stay _ (w.heap.size + 1) _ _ _ _ _ _ _ _ j (by omega)) (by simp [HN1.out])
    · exact recs_of_own (own_stay P2.out fun j h1 h2 => put8_stay _ (w.heap.size + 1) _ _ _ _ _ _ _ _ j (by omega)) (by simp [HN2.out])
  · skip
    have q1 := R4.out.cell 6
    have q2 := R4.out.free 6
    have lq := R4.out.lt
    have RX := Lib.hid (R4.out.put 6 (.int .i64 n))
    have ZX := Lib.hid (Z4.out.far (p := ⟨w.heap.size, 6, none⟩) (by dsimp only; omega) (.int .i64 n))
    have BX := Lib.hid (B4.out.setCell (p := ⟨w.heap.size, 6, none⟩) (by dsimp only; omega) (.int .i64 n))
    have P1 := Lib.hid (own_stay O1.out (w' := (w4.setCell ⟨w.heap.size, 6, none⟩ (.int .i64 n))) fun j h1 h2 => Below.heap_setCell w4 ⟨w.heap.size, 6, none⟩ _ j (by dsimp only; omega))
    have P2 := Lib.hid (own_stay O2.out (w' := (w4.setCell ⟨w.heap.size, 6, none⟩ (.int .i64 n))) fun j h1 h2 => Below.heap_setCell w4 ⟨w.heap.size, 6, none⟩ _ j (by dsimp only; omega))
    have r0 : (w4.setCell ⟨w.heap.size, 6, none⟩ (.int .i64 n)).cell? ⟨w.heap.size, 0, none⟩ = some (.int .i64 i.id) := RX.out.cell 0
    have r1 : (w4.setCell ⟨w.heap.size, 6, none⟩ (.int .i64 n)).cell? ⟨w.heap.size, 1, none⟩ = some (.int .i64 i.kind) := RX.out.cell 1
    have r2 : (w4.setCell ⟨w.heap.size, 6, none⟩ (.int .i64 n)).cell? ⟨w.heap.size, 2, none⟩ = some (.int .i64 i.len) := RX.out.cell 2
    have r3 : (w4.setCell ⟨w.heap.size, 6, none⟩ (.int .i64 n)).cell? ⟨w.heap.size, 3, none⟩ = some (.slice A3 n1 c3) := RX.out.cell 3
    have r4 : (w4.setCell ⟨w.heap.size, 6, none⟩ (.int .i64 n)).cell? ⟨w.heap.size, 4, none⟩ = some (.slice A4 n2 c4) := RX.out.cell 4
    have r5 : (w4.setCell ⟨w.heap.size, 6, none⟩ (.int .i64 n)).cell? ⟨w.heap.size, 5, none⟩ = some (.int .i64 i.artist) := RX.out.cell 5
    have r6 : (w4.setCell ⟨w.heap.size, 6, none⟩ (.int .i64 n)).cell? ⟨w.heap.size, 6, none⟩ = some (.int .i64 n) := RX.out.cell 6
    have r7 : (w4.setCell ⟨w.heap.size, 6, none⟩ (.int .i64 n)).cell? ⟨w.heap.size, 7, none⟩ = some (.int .i64 i.lang) := RX.out.cell 7
    have v0 : (w4.setCell ⟨w.heap.size, 6, none⟩ (.int .i64 n)).cell? ⟨w.heap.size + 1, 0, none⟩ = some (.int .i64 0) := ZX.out.cell 0
    have z0 := ZX.out.free 0
    have v1 : (w4.setCell ⟨w.heap.size, 6, none⟩ (.int .i64 n)).cell? ⟨w.heap.size + 1, 1, none⟩ = some (.int .i64 0) := ZX.out.cell 1
    have z1 := ZX.out.free 1
    have v2 : (w4.setCell ⟨w.heap.size, 6, none⟩ (.int .i64 n)).cell? ⟨w.heap.size + 1, 2, none⟩ = some (.int .i64 0) := ZX.out.cell 2
    have z2 := ZX.out.free 2
    have v3 : (w4.setCell ⟨w.heap.size, 6, none⟩ (.int .i64 n)).cell? ⟨w.heap.size + 1, 3, none⟩ = some (.slice none 0 0) := ZX.out.cell 3
    have z3 := ZX.out.free 3
    have v4 : (w4.setCell ⟨w.heap.size, 6, none⟩ (.int .i64 n)).cell? ⟨w.heap.size + 1, 4, none⟩ = some (.slice none 0 0) := ZX.out.cell 4
    have z4 := ZX.out.free 4
    have v5 : (w4.setCell ⟨w.heap.size, 6, none⟩ (.int .i64 n)).cell? ⟨w.heap.size + 1, 5, none⟩ = some (.int .i64 0) := ZX.out.cell 5
    have z5 := ZX.out.free 5
    have v6 : (w4.setCell ⟨w.heap.size, 6, none⟩ (.int .i64 n)).cell? ⟨w.heap.size + 1, 6, none⟩ = some (.int .i64 0) := ZX.out.cell 6
    have z6 := ZX.out.free 6
    have v7 : (w4.setCell ⟨w.heap.size, 6, none⟩ (.int .i64 n)).cell? ⟨w.heap.size + 1, 7, none⟩ = some (.int .i64 0) := ZX.out.cell 7
    have z7 := ZX.out.free 7
    have lr := RX.out.lt
    have lz := ZX.out.lt
    go_wp2_with (go_at_call 39; (with_reducible refine Calls.mono (HT.out _) ?_); rintro r w9 ⟨rfl, rfl⟩)
    refine bodyPost_ret (results_i rfl _ _ (w.heap.size + 1) _ _ _ _ _ _ _ _ rfl (put8_row ZX.out _ _ _ _ _ _ _ _)) rfl ⟨⟨i.id, i.kind, i.len, i.trims, i.talks, i.artist, n, i.lang⟩, A3, A4, n1, c3, n2, c4, rfl, ⟨?_, ?_⟩, put8_below BX.out (by omega) _ _ _ _ _ _ _ _, by omega⟩
    · exact recs_of_own (own_stay P1.out fun j h1 h2 => put8_stay _ (w.heap.size + 1) _ _ _ _ _ _ _ _ j (by omega)) (by simp [HN1.out])
    · exact recs_of_own (own_stay P2.out fun j h1 h2 => put8_stay _ (w.heap.size + 1) _ _ _ _ _ _ _ _ j (by omega)) (by simp [HN2.out])
  · skip
    have q1 := R4.out.cell 7
    have q2 := R4.out.free 7
    have lq := R4.out.lt
    have RX := Lib.hid (R4.out.put 7 (.int .i64 n))
    have ZX := Lib.hid (Z4.out.far (p := ⟨w.heap.size, 7, none⟩) (by dsimp only; omega) (.int .i64 n))
    have BX := Lib.hid (B4.out.setCell (p := ⟨w.heap.size, 7, none⟩) (by dsimp only; omega) (.int .i64 n))
    have P1 := Lib.hid (own_stay O1.out (w' := (w4.setCell ⟨w.heap.size, 7, none⟩ (.int .i64 n))) fun j h1 h2 => Below.heap_setCell w4 ⟨w.heap.size, 7, none⟩ _ j (by dsimp only; omega))
    have P2 := Lib.hid (own_stay O2.out (w' := (w4.setCell ⟨w.heap.size, 7, none⟩ (.int .i64 n))) fun j h1 h2 => Below.heap_setCell w4 ⟨w.heap.size, 7, none⟩ _ j (by dsimp only; omega))
    have r0 : (w4.setCell ⟨w.heap.size, 7, none⟩ (.int .i64 n)).cell? ⟨w.heap.size, 0, none⟩ = some (.int .i64 i.id) := RX.out.cell 0
    have r1 : (w4.setCell ⟨w.heap.size, 7, none⟩ (.int .i64 n)).cell? ⟨w.heap.size, 1, none⟩ = some (.int .i64 i.kind) := RX.out.cell 1
    have r2 : (w4.setCell ⟨w.heap.size, 7, none⟩ (.int .i64 n)).cell? ⟨w.heap.size, 2, none⟩ = some (.int .i64 i.len) := RX.out.cell 2
    have r3 : (w4.setCell ⟨w.heap.size, 7, none⟩ (.int .i64 n)).cell? ⟨w.heap.size, 3, none⟩ = some (.slice A3 n1 c3) := RX.out.cell 3
    have r4 : (w4.setCell ⟨w.heap.size, 7, none⟩ (.int .i64 n)).cell? ⟨w.heap.size, 4, none⟩ = some (.slice A4 n2 c4) := RX.out.cell 4
    have r5 : (w4.setCell ⟨w.heap.size, 7, none⟩ (.int .i64 n)).cell? ⟨w.heap.size, 5, none⟩ = some (.int .i64 i.artist) := RX.out.cell 5
    have r6 : (w4.setCell ⟨w.heap.size, 7, none⟩ (.int .i64 n)).cell? ⟨w.heap.size, 6, none⟩ = some (.int .i64 i.tempo) := RX.out.cell 6
    have r7 : (w4.setCell ⟨w.heap.size, 7, none⟩ (.int .i64 n)).cell? ⟨w.heap.size, 7, none⟩ = some (.int .i64 n) := RX.out.cell 7
    have v0 : (w4.setCell ⟨w.heap.size, 7, none⟩ (.int .i64 n)).cell? ⟨w.heap.size + 1, 0, none⟩ = some (.int .i64 0) := ZX.out.cell 0
    have z0 := ZX.out.free 0
    have v1 : (w4.setCell ⟨w.heap.size, 7, none⟩ (.int .i64 n)).cell? ⟨w.heap.size + 1, 1, none⟩ = some (.int .i64 0) := ZX.out.cell 1
    have z1 := ZX.out.free 1
    have v2 : (w4.setCell ⟨w.heap.size, 7, none⟩ (.int .i64 n)).cell? ⟨w.heap.size + 1, 2, none⟩ = some (.int .i64 0) := ZX.out.cell 2
    have z2 := ZX.out.free 2
    have v3 : (w4.setCell ⟨w.heap.size, 7, none⟩ (.int .i64 n)).cell? ⟨w.heap.size + 1, 3, none⟩ = some (.slice none 0 0) := ZX.out.cell 3
    have z3 := ZX.out.free 3
    have v4 : (w4.setCell ⟨w.heap.size, 7, none⟩ (.int .i64 n)).cell? ⟨w.heap.size + 1, 4, none⟩ = some (.slice none 0 0) := ZX.out.cell 4
    have z4 := ZX.out.free 4
    have v5 : (w4.setCell ⟨w.heap.size, 7, none⟩ (.int .i64 n)).cell? ⟨w.heap.size + 1, 5, none⟩ = some (.int .i64 0) := ZX.out.cell 5
    have z5 := ZX.out.free 5
    have v6 : (w4.setCell ⟨w.heap.size, 7, none⟩ (.int .i64 n)).cell? ⟨w.heap.size + 1, 6, none⟩ = some (.int .i64 0) := ZX.out.cell 6
    have z6 := ZX.out.free 6
    have v7 : (w4.setCell ⟨w.heap.size, 7, none⟩ (.int .i64 n)).cell? ⟨w.heap.size + 1, 7, none⟩ = some (.int .i64 0) := ZX.out.cell 7
    have z7 := ZX.out.free 7
    have lr := RX.out.lt
    have lz := ZX.out.lt
    go_wp2_with (go_at_call 39; (with_reducible refine Calls.mono (HT.out _) ?_); rintro r w9 ⟨rfl, rfl⟩)
    refine bodyPost_ret (results_i rfl _ _ (w.heap.size + 1) _ _ _ _ _ _ _ _ rfl (put8_row ZX.out _ _ _ _ _ _ _ _)) rfl ⟨⟨i.id, i.kind, i.len, i.trims, i.talks, i.artist, i.tempo, n⟩, A3, A4, n1, c3, n2, c4, rfl, ⟨?_, ?_⟩, put8_below BX.out (by omega) _ _ _ _ _ _ _ _, by omega⟩
    · exact recs_of_own (own_stay P1.out fun j h1 h2 => put8_stay _ (w.heap.size + 1) _ _ _ _ _ _ _ _ j (by omega)) (by simp [HN1.out])
    · exact recs_of_own (own_stay P2.out fun j h1 h2 => put8_stay _ (w.heap.size + 1) _ _ _ _ _ _ _ _ j (by omega)) (by simp [HN2.out])
  · skip
    by_cases h0 : n1 = 0
    · have e1 : decide ((0 : Int) < (n1 : Int)) = false := decide_eq_false (by omega)
      have e2 : ¬ (0 : Int) < (n1 : Int) := by omega
      clear h0
      have r0 : w4.cell? ⟨w.heap.size, 0, none⟩ = some (.int .i64 i.id) := R4.out.cell 0
      have r1 : w4.cell? ⟨w.heap.size, 1, none⟩ = some (.int .i64 i.kind) := R4.out.cell 1
      have r2 : w4.cell? ⟨w.heap.size, 2, none⟩ = some (.int .i64 i.len) := R4.out.cell 2
      have r3 : w4.cell? ⟨w.heap.size, 3, none⟩ = some (.slice A3 n1 c3) := R4.out.cell 3
      have r4 : w4.cell? ⟨w.heap.size, 4, none⟩ = some (.slice A4 n2 c4) := R4.out.cell 4
      have r5 : w4.cell? ⟨w.heap.size, 5, none⟩ = some (.int .i64 i.artist) := R4.out.cell 5
      have r6 : w4.cell? ⟨w.heap.size, 6, none⟩ = some (.int .i64 i.tempo) := R4.out.cell 6
      have r7 : w4.cell? ⟨w.heap.size, 7, none⟩ = some (.int .i64 i.lang) := R4.out.cell 7
      have v0 : w4.cell? ⟨w.heap.size + 1, 0, none⟩ = some (.int .i64 0) := Z4.out.cell 0
      have z0 := Z4.out.free 0
      have v1 : w4.cell? ⟨w.heap.size + 1, 1, none⟩ = some (.int .i64 0) := Z4.out.cell 1
      have z1 := Z4.out.free 1
      have v2 : w4.cell? ⟨w.heap.size + 1, 2, none⟩ = some (.int .i64 0) := Z4.out.cell 2
      have z2 := Z4.out.free 2
      have v3 : w4.cell? ⟨w.heap.size + 1, 3, none⟩ = some (.slice none 0 0) := Z4.out.cell 3
      have z3 := Z4.out.free 3
      have v4 : w4.cell? ⟨w.heap.size + 1, 4, none⟩ = some (.slice none 0 0) := Z4.out.cell 4
      have z4 := Z4.out.free 4
      have v5 : w4.cell? ⟨w.heap.size + 1, 5, none⟩ = some (.int .i64 0) := Z4.out.cell 5
      have z5 := Z4.out.free 5
      have v6 : w4.cell? ⟨w.heap.size + 1, 6, none⟩ = some (.int .i64 0) := Z4.out.cell 6
      have z6 := Z4.out.free 6
      have v7 : w4.cell? ⟨w.heap.size + 1, 7, none⟩ = some (.int .i64 0) := Z4.out.cell 7
      have z7 := Z4.out.free 7
      have lr := R4.out.lt
      have lz := Z4.out.lt
      go_wp2_with (go_at_call 39; (with_reducible refine Calls.mono (HT.out _) ?_); rintro r w9 ⟨rfl, rfl⟩)
      refine bodyPost_ret (results_i rfl _ _ (w.heap.size + 1) _ _ _ _ _ _ _ _ rfl (put8_row Z4.out _ _ _ _ _ _ _ _)) rfl ⟨i, A3, A4, n1, c3, n2, c4, rfl, ⟨?_, ?_⟩, put8_below B4.out (by omega) _ _ _ _ _ _ _ _, by omega⟩
      · exact recs_of_own (own_stay O1.out fun j h1 h2 => put8_stay _ (w.heap.size + 1) _ _ _ _ _ _ _ _ j (by omega)) (by simp [HN1.out])
      · exact recs_of_own (own_stay O2.out fun j h1 h2 => put8_stay _ (w.heap.size + 1) _ _ _ _ _ _ _ _ j (by omega)) (by simp [HN2.out])
    · have e2 : (0 : Int) < (n1 : Int) := by omega
      have e1 : decide ((0 : Int) < (n1 : Int)) = true := decide_eq_true e2
      have hpk := pickI_lt at_ n1 e2
      obtain ⟨k, hk⟩ : ∃ k : Nat, pickI at_ n1 = (k : Int) := ⟨(pickI at_ n1).toNat, by omega⟩
      rw [hk] at hpk
      have HP := Lib.hid (fun u => rpick_at hk e2 (by have := h1000; omega) ha u)
      have k_0 : (0 : Int) ≤ (k : Int) := by omega
      have k_1 : (k : Int) < (n1 : Int) := hpk.2
      have k_2 : k < n1 := by omega
      obtain ⟨q, hq⟩ : ∃ q, i.trims[k]? = some q := ⟨_, List.getElem?_eq_getElem (by rw [← HN1.out]; exact k_2)⟩
      obtain ⟨g, cc, xx, hv, hgB, hgl, hgc, hgf, l', hl', hset⟩ := own_pair O1.out (by rw [HN1.out]) hq (show 0 < 2 by decide) n
      simp only [Nat.add_zero] at hgc hgf hset
      injection hv with hv1 hv2 hv3
      subst hv1 hv3
      have q3 : w4.cell? ⟨w.heap.size, 3, none⟩ = some (.slice (some ⟨g, 0, none⟩) n1 c3) := R4.out.cell 3
      have lr4 := R4.out.lt
      have RX := Lib.hid (R4.out.far (p := ⟨g, k * 2, none⟩) (by dsimp only; omega) (.int .i64 n))
      have ZX := Lib.hid (Z4.out.far (p := ⟨g, k * 2, none⟩) (by dsimp only; omega) (.int .i64 n))
      have BX := Lib.hid (B4.out.setCell (p := ⟨g, k * 2, none⟩) (by dsimp only; omega) (.int .i64 n))
      have PX := Lib.hid (hset w4 rfl)
      have PY := Lib.hid (own_keep O2.out (w' := (w4.setCell ⟨g, k * 2, none⟩ (.int .i64 n))) fun j e => Below.heap_setCell w4 ⟨g, k * 2, none⟩ _ j (by dsimp only; have := own_ge O2.out j e; have := OL.out g rfl; omega))
      have HL := Lib.hid hl'
      clear hset hl' hq hpk hk
      go_wp2_with (go_at_call 39; (with_reducible refine Calls.mono (HT.out _) ?_); rintro r w9 ⟨rfl, rfl⟩)
      go_region_held3 (fun y => y.cell? ⟨w.heap.size, 3, none⟩ = some (.slice (some ⟨g, 0, none⟩) n1 c3) ∧ y.cell? ⟨g, k * 2, none⟩ = some (.int .i64 (cInt y g (k * 2))) ∧ y.frozen? ⟨g, k * 2, none⟩ = false ∧ g < y.heap.size ∧ w.heap.size < y.heap.size) (first | assumption | (exact ⟨q3, cInt_at hgc, hgf, hgl, lr4⟩) | (exact bn_put (by omega) (by assumption) n)) (first | (go_at_call 39; ((with_reducible refine Calls.mono (HP.out _) ?_); rintro r w9 ⟨rfl, rfl⟩)))
      obtain ⟨wf, hwf⟩ : ∃ wf, (w4.setCell ⟨g, k * 2, none⟩ (.int .i64 n)).drew = wf := ⟨_, rfl⟩
      rw [hwf]
      have RF : Hid (Row wf w.heap.size 24 #[.int .i64 i.id, .int .i64 i.kind, .int .i64 i.len, .slice (some ⟨g, 0, none⟩) n1 c3, .slice A4 n2 c4, .int .i64 i.artist, .int .i64 i.tempo, .int .i64 i.lang]) := Lib.hid (by rw [← hwf]; exact RX.out)
      have ZF : Hid (Row wf (w.heap.size + 1) 24 #[.int .i64 0, .int .i64 0, .int .i64 0, .slice none 0 0, .slice none 0 0, .int .i64 0, .int .i64 0, .int .i64 0]) := Lib.hid (by rw [← hwf]; exact ZX.out)
      have BF : Hid (Below w.heap.size w wf) := Lib.hid (by rw [← hwf]; exact BX.out.drew)
      have PF : Hid (wf.ownsRow _ _ _ _ _ _) := Lib.hid (by rw [← hwf]; exact PX.out)
      have PG : Hid (wf.ownsRow _ _ _ _ _ _) := Lib.hid (by rw [← hwf]; exact PY.out)
      clear hwf q3 hgc hgf
      have r0 : wf.cell? ⟨w.heap.size, 0, none⟩ = some (.int .i64 i.id) := RF.out.cell 0
      have r1 : wf.cell? ⟨w.heap.size, 1, none⟩ = some (.int .i64 i.kind) := RF.out.cell 1
      have r2 : wf.cell? ⟨w.heap.size, 2, none⟩ = some (.int .i64 i.len) := RF.out.cell 2
      have r3 : wf.cell? ⟨w.heap.size, 3, none⟩ = some (.slice (some ⟨g, 0, none⟩) n1 c3) := RF.out.cell 3
      have r4 : wf.cell? ⟨w.heap.size, 4, none⟩ = some (.slice A4 n2 c4) := RF.out.cell 4
      have r5 : wf.cell? ⟨w.heap.size, 5, none⟩ = some (.int .i64 i.artist) := RF.out.cell 5
      have r6 : wf.cell? ⟨w.heap.size, 6, none⟩ = some (.int .i64 i.tempo) := RF.out.cell 6
      have r7 : wf.cell? ⟨w.heap.size, 7, none⟩ = some (.int .i64 i.lang) := RF.out.cell 7
      have v0 : wf.cell? ⟨w.heap.size + 1, 0, none⟩ = some (.int .i64 0) := ZF.out.cell 0
      have z0 := ZF.out.free 0
      have v1 : wf.cell? ⟨w.heap.size + 1, 1, none⟩ = some (.int .i64 0) := ZF.out.cell 1
      have z1 := ZF.out.free 1
      have v2 : wf.cell? ⟨w.heap.size + 1, 2, none⟩ = some (.int .i64 0) := ZF.out.cell 2
      have z2 := ZF.out.free 2
      have v3 : wf.cell? ⟨w.heap.size + 1, 3, none⟩ = some (.slice none 0 0) := ZF.out.cell 3
      have z3 := ZF.out.free 3
      have v4 : wf.cell? ⟨w.heap.size + 1, 4, none⟩ = some (.slice none 0 0) := ZF.out.cell 4
      have z4 := ZF.out.free 4
      have v5 : wf.cell? ⟨w.heap.size + 1, 5, none⟩ = some (.int .i64 0) := ZF.out.cell 5
      have z5 := ZF.out.free 5
      have v6 : wf.cell? ⟨w.heap.size + 1, 6, none⟩ = some (.int .i64 0) := ZF.out.cell 6
      have z6 := ZF.out.free 6
      have v7 : wf.cell? ⟨w.heap.size + 1, 7, none⟩ = some (.int .i64 0) := ZF.out.cell 7
      have z7 := ZF.out.free 7
      have lr := RF.out.lt
      have lz := ZF.out.lt
      go_wp2_with fail
      refine bodyPost_ret (results_i rfl _ _ (w.heap.size + 1) _ _ _ _ _ _ _ _ rfl (put8_row ZF.out _ _ _ _ _ _ _ _)) rfl ⟨⟨i.id, i.kind, i.len, l', i.talks, i.artist, i.tempo, i.lang⟩, some ⟨g, 0, none⟩, A4, n1, c3, n2, c4, rfl, ⟨?_, ?_⟩, put8_below BF.out (by omega) _ _ _ _ _ _ _ _, by omega⟩
      · exact recs_of_own (own_stay PF.out fun j h1 h2 => put8_stay _ (w.heap.size + 1) _ _ _ _ _ _ _ _ j (by omega)) (by simp [HL.out])
      · exact recs_of_own (own_stay PG.out fun j h1 h2 => put8_stay _ (w.heap.size + 1) _ _ _ _ _ _ _ _ j (by omega)) (by simp [HN2.out])
  · skip
    by_cases h0 : n1 = 0
    · have e1 : decide ((0 : Int) < (n1 : Int)) = false := decide_eq_false (by omega)
      have e2 : ¬ (0 : Int) < (n1 : Int) := by omega
      clear h0
      have r0 : w4.cell? ⟨w.heap.size, 0, none⟩ = some (.int .i64 i.id) := R4.out.cell 0
      have r1 : w4.cell? ⟨w.heap.size, 1, none⟩ = some (.int .i64 i.kind) := R4.out.cell 1
      have r2 : w4.cell? ⟨w.heap.size, 2, none⟩ = some (.int .i64 i.len) := R4.out.cell 2
      have r3 : w4.cell? ⟨w.heap.size, 3, none⟩ = some (.slice A3 n1 c3) := R4.out.cell 3
      have r4 : w4.cell? ⟨w.heap.size, 4, none⟩ = some (.slice A4 n2 c4) := R4.out.cell 4
      have r5 : w4.cell? ⟨w.heap.size, 5, none⟩ = some (.int .i64 i.artist) := R4.out.cell 5
      have r6 : w4.cell? ⟨w.heap.size, 6, none⟩ = some (.int .i64 i.tempo) := R4.out.cell 6
      have r7 : w4.cell? ⟨w.heap.size, 7, none⟩ = some (.int .i64 i.lang) := R4.out.cell 7
      have v0 : w4.cell? ⟨w.heap.size + 1, 0, none⟩ = some (.int .i64 0) := Z4.out.cell 0
      have z0 := Z4.out.free 0
      have v1 : w4.cell? ⟨w.heap.size + 1, 1, none⟩ = some (.int .i64 0) := Z4.out.cell 1
      have z1 := Z4.out.free 1
      have v2 : w4.cell? ⟨w.heap.size + 1, 2, none⟩ = some (.int .i64 0) := Z4.out.cell 2
      have z2 := Z4.out.free 2
      have v3 : w4.cell? ⟨w.heap.size + 1, 3, none⟩ = some (.slice none 0 0) := Z4.out.cell 3
      have z3 := Z4.out.free 3
      have v4 : w4.cell? ⟨w.heap.size + 1, 4, none⟩ = some (.slice none 0 0) := Z4.out.cell 4
      have z4 := Z4.out.free 4
      have v5 : w4.cell? ⟨w.heap.size + 1, 5, none⟩ = some (.int .i64 0) := Z4.out.cell 5
      have z5 := Z4.out.free 5
      have v6 : w4.cell? ⟨w.heap.size + 1, 6, none⟩ = some (.int .i64 0) := Z4.out.cell 6
      have z6 := Z4.out.free 6
      have v7 : w4.cell? ⟨w.heap.size + 1, 7, none⟩ = some (.int .i64 0) := Z4.out.cell 7
      have z7 := Z4.out.free 7
      have lr := R4.out.lt
      have lz := Z4.out.lt
      go_wp2_with (go_at_call 39; (with_reducible refine Calls.mono (HT.out _) ?_); rintro r w9 ⟨rfl, rfl⟩)
      refine bodyPost_ret (results_i rfl _ _ (w.heap.size + 1) _ _ _ _ _ _ _ _ rfl (put8_row Z4.out _ _ _ _ _ _ _ _)) rfl ⟨i, A3, A4, n1, c3, n2, c4, rfl, ⟨?_, ?_⟩, put8_below B4.out (by omega) _ _ _ _ _ _ _ _, by omega⟩
      · exact recs_of_own (own_stay O1.out fun j h1 h2 => put8_stay _ (w.heap.size + 1) _ _ _ _ _ _ _ _ j (by omega)) (by simp [HN1.out])
      · exact recs_of_own (own_stay O2.out fun j h1 h2 => put8_stay _ (w.heap.size + 1) _ _ _ _ _ _ _ _ j (by omega)) (by simp [HN2.out])
    · have e2 : (0 : Int) < (n1 : Int) := by omega
      have e1 : decide ((0 : Int) < (n1 : Int)) = true := decide_eq_true e2
      have hpk := pickI_lt at_ n1 e2
      obtain ⟨k, hk⟩ : ∃ k : Nat, pickI at_ n1 = (k : Int) := ⟨(pickI at_ n1).toNat, by omega⟩
      rw [hk] at hpk
      have HP := Lib.hid (fun u => rpick_at hk e2 (by have := h1000; omega) ha u)
      have k_0 : (0 : Int) ≤ (k : Int) := by omega
      have k_1 : (k : Int) < (n1 : Int) := hpk.2
      have k_2 : k < n1 := by omega
      obtain ⟨q, hq⟩ : ∃ q, i.trims[k]? = some q := ⟨_, List.getElem?_eq_getElem (by rw [← HN1.out]; exact k_2)⟩
      obtain ⟨g, cc, xx, hv, hgB, hgl, hgc, hgf, l', hl', hset⟩ := own_pair O1.out (by rw [HN1.out]) hq (show 1 < 2 by decide) n
      skip
      injection hv with hv1 hv2 hv3
      subst hv1 hv3
      have q3 : w4.cell? ⟨w.heap.size, 3, none⟩ = some (.slice (some ⟨g, 0, none⟩) n1 c3) := R4.out.cell 3
      have lr4 := R4.out.lt
      have RX := Lib.hid (R4.out.far (p := ⟨g, k * 2 + 1, none⟩) (by dsimp only; omega) (.int .i64 n))
      have ZX := Lib.hid (Z4.out.far (p := ⟨g, k * 2 + 1, none⟩) (by dsimp only; omega) (.int .i64 n))
      have BX := Lib.hid (B4.out.setCell (p := ⟨g, k * 2 + 1, none⟩) (by dsimp only; omega) (.int .i64 n))
      have PX := Lib.hid (hset w4 rfl)
      have PY := Lib.hid (own_keep O2.out (w' := (w4.setCell ⟨g, k * 2 + 1, none⟩ (.int .i64 n))) fun j e => Below.heap_setCell w4 ⟨g, k * 2 + 1, none⟩ _ j (by dsimp only; have := own_ge O2.out j e; have := OL.out g rfl; omega))
      have HL := Lib.hid hl'
      clear hset hl' hq hpk hk
      go_wp2_with (go_at_call 39; (with_reducible refine Calls.mono (HT.out _) ?_); rintro r w9 ⟨rfl, rfl⟩)
      go_region_held3 (fun y => y.cell? ⟨w.heap.size, 3, none⟩ = some (.slice (some ⟨g, 0, none⟩) n1 c3) ∧ y.cell? ⟨g, k * 2 + 1, none⟩ = some (.int .i64 (cInt y g (k * 2 + 1))) ∧ y.frozen? ⟨g, k * 2 + 1, none⟩ = false ∧ g < y.heap.size ∧ w.heap.size < y.heap.size) (first | assumption | (exact ⟨q3, cInt_at hgc, hgf, hgl, lr4⟩) | (exact bn_put (by omega) (by assumption) n)) (first | (go_at_call 39; ((with_reducible refine Calls.mono (HP.out _) ?_); rintro r w9 ⟨rfl, rfl⟩)))
      obtain ⟨wf, hwf⟩ : ∃ wf, (w4.setCell ⟨g, k * 2 + 1, none⟩ (.int .i64 n)).drew = wf := ⟨_, rfl⟩
      rw [hwf]
      have RF : Hid (Row wf w.heap.size 24 #[.int .i64 i.id, .int .i64 i.kind, .int .i64 i.len, .slice (some ⟨g, 0, none⟩) n1 c3, .slice A4 n2 c4, .int .i64 i.artist, .int .i64 i.tempo, .int .i64 i.lang]) := Lib.hid (by rw [← hwf]; exact RX.out)
      have ZF : Hid (Row wf (w.heap.size + 1) 24 #[.int .i64 0, .int .i64 0, .int .i64 0, .slice none 0 0, .slice none 0 0, .int .i64 0, .int .i64 0, .int .i64 0]) := Lib.hid (by rw [← hwf]; exact ZX.out)
      have BF : Hid (Below w.heap.size w wf) := Lib.hid (by rw [← hwf]; exact BX.out.drew)
      have PF : Hid (wf.ownsRow _ _ _ _ _ _) := Lib.hid (by rw [← hwf]; exact PX.out)
      have PG : Hid (wf.ownsRow _ _ _ _ _ _) := Lib.hid (by rw [← hwf]; exact PY.out)
      clear hwf q3 hgc hgf
      have r0 : wf.cell? ⟨w.heap.size, 0, none⟩ = some (.int .i64 i.id) := RF.out.cell 0
      have r1 : wf.cell? ⟨w.heap.size, 1, none⟩ = some (.int .i64 i.kind) := RF.out.cell 1
      have r2 : wf.cell? ⟨w.heap.size, 2, none⟩ = some (.int .i64 i.len) := RF.out.cell 2
      have r3 : wf.cell? ⟨w.heap.size, 3, none⟩ = some (.slice (some ⟨g, 0, none⟩) n1 c3) := RF.out.cell 3
      have r4 : wf.cell? ⟨w.heap.size, 4, none⟩ = some (.slice A4 n2 c4) := RF.out.cell 4
      have r5 : wf.cell? ⟨w.heap.size, 5, none⟩ = some (.int .i64 i.artist) := RF.out.cell 5
      have r6 : wf.cell? ⟨w.heap.size, 6, none⟩ = some (.int .i64 i.tempo) := RF.out.cell 6
      have r7 : wf.cell? ⟨w.heap.size, 7, none⟩ = some (.int .i64 i.lang) := RF.out.cell 7
      have v0 : wf.cell? ⟨w.heap.size + 1, 0, none⟩ = some (.int .i64 0) := ZF.out.cell 0
      have z0 := ZF.out.free 0
      have v1 : wf.cell? ⟨w.heap.size + 1, 1, none⟩ = some (.int .i64 0) := ZF.out.cell 1
      have z1 := ZF.out.free 1
      have v2 : wf.cell? ⟨w.heap.size + 1, 2, none⟩ = some (.int .i64 0) := ZF.out.cell 2
      have z2 := ZF.out.free 2
      have v3 : wf.cell? ⟨w.heap.size + 1, 3, none⟩ = some (.slice none 0 0) := ZF.out.cell 3
      have z3 := ZF.out.free 3
      have v4 : wf.cell? ⟨w.heap.size + 1, 4, none⟩ = some (.slice none 0 0) := ZF.out.cell 4
      have z4 := ZF.out.free 4
      have v5 : wf.cell? ⟨w.heap.size + 1, 5, none⟩ = some (.int .i64 0) := ZF.out.cell 5
      have z5 := ZF.out.free 5
      have v6 : wf.cell? ⟨w.heap.size + 1, 6, none⟩ = some (.int .i64 0) := ZF.out.cell 6
      have z6 := ZF.out.free 6
      have v7 : wf.cell? ⟨w.heap.size + 1, 7, none⟩ = some (.int .i64 0) := ZF.out.cell 7
      have z7 := ZF.out.free 7
      have lr := RF.out.lt
      have lz := ZF.out.lt
      go_wp2_with fail
      refine bodyPost_ret (results_i rfl _ _ (w.heap.size + 1) _ _ _ _ _ _ _ _ rfl (put8_row ZF.out _ _ _ _ _ _ _ _)) rfl ⟨⟨i.id, i.kind, i.len, l', i.talks, i.artist, i.tempo, i.lang⟩, some ⟨g, 0, none⟩, A4, n1, c3, n2, c4, rfl, ⟨?_, ?_⟩, put8_below BF.out (by omega) _ _ _ _ _ _ _ _, by omega⟩
      · exact recs_of_own (own_stay PF.out fun j h1 h2 => put8_stay _ (w.heap.size + 1) _ _ _ _ _ _ _ _ j (by omega)) (by simp [HL.out])
      · exact recs_of_own (own_stay PG.out fun j h1 h2 => put8_stay _ (w.heap.size + 1) _ _ _ _ _ _ _ _ j (by omega)) (by simp [HN2.out])
  · skip
    by_cases h0 : n2 = 0
    · have e1 : decide ((0 : Int) < (n2 : Int)) = false := decide_eq_false (by omega)
      have e2 : ¬ (0 : Int) < (n2 : Int) := by omega
      clear h0
      have r0 : w4.cell? ⟨w.heap.size, 0, none⟩ = some (.int .i64 i.id) := R4.out.cell 0
      have r1 : w4.cell? ⟨w.heap.size, 1, none⟩ = some (.int .i64 i.kind) := R4.out.cell 1
      have r2 : w4.cell? ⟨w.heap.size, 2, none⟩ = some (.int .i64 i.len) := R4.out.cell 2
      have r3 : w4.cell? ⟨w.heap.size, 3, none⟩ = some (.slice A3 n1 c3) := R4.out.cell 3
      have r4 : w4.cell? ⟨w.heap.size, 4, none⟩ = some (.slice A4 n2 c4) := R4.out.cell 4
      have r5 : w4.cell? ⟨w.heap.size, 5, none⟩ = some (.int .i64 i.artist) := R4.out.cell 5
      have r6 : w4.cell? ⟨w.heap.size, 6, none⟩ = some (.int .i64 i.tempo) := R4.out.cell 6
      have r7 : w4.cell? ⟨w.heap.size, 7, none⟩ = some (.int .i64 i.lang) := R4.out.cell 7
      have v0 : w4.cell? ⟨w.heap.size + 1, 0, none⟩ = some (.int .i64 0) := Z4.out.cell 0
      have z0 := Z4.out.free 0
      have v1 : w4.cell? ⟨w.heap.size + 1, 1, none⟩ = some (.int .i64 0) := Z4.out.cell 1
      have z1 := Z4.out.free 1
      have v2 : w4.cell? ⟨w.heap.size + 1, 2, none⟩ = some (.int .i64 0) := Z4.out.cell 2
      have z2 := Z4.out.free 2
      have v3 : w4.cell? ⟨w.heap.size + 1, 3, none⟩ = some (.slice none 0 0) := Z4.out.cell 3
      have z3 := Z4.out.free 3
      have v4 : w4.cell? ⟨w.heap.size + 1, 4, none⟩ = some (.slice none 0 0) := Z4.out.cell 4
      have z4 := Z4.out.free 4
      have v5 : w4.cell? ⟨w.heap.size + 1, 5, none⟩ = some (.int .i64 0) := Z4.out.cell 5
      have z5 := Z4.out.free 5
      have v6 : w4.cell? ⟨w.heap.size + 1, 6, none⟩ = some (.int .i64 0) := Z4.out.cell 6
      have z6 := Z4.out.free 6
      have v7 : w4.cell? ⟨w.heap.size + 1, 7, none⟩ = some (.int .i64 0) := Z4.out.cell 7
      have z7 := Z4.out.free 7
      have lr := R4.out.lt
      have lz := Z4.out.lt
      go_wp2_with (go_at_call 39; (with_reducible refine Calls.mono (HT.out _) ?_); rintro r w9 ⟨rfl, rfl⟩)
      refine bodyPost_ret (results_i rfl _ _ (w.heap.size + 1) _ _ _ _ _ _ _ _ rfl (put8_row Z4.out _ _ _ _ _ _ _ _)) rfl ⟨i, A3, A4, n1, c3, n2, c4, rfl, ⟨?_, ?_⟩, put8_below B4.out (by omega) _ _ _ _ _ _ _ _, by omega⟩
      · exact recs_of_own (own_stay O1.out fun j h1 h2 => put8_stay _ (w.heap.size + 1) _ _ _ _ _ _ _ _ j (by omega)) (by simp [HN1.out])
      · exact recs_of_own (own_stay O2.out fun j h1 h2 => put8_stay _ (w.heap.size + 1) _ _ _ _ _ _ _ _ j (by omega)) (by simp [HN2.out])
    · have e2 : (0 : Int) < (n2 : Int) := by omega
      have e1 : decide ((0 : Int) < (n2 : Int)) = true := decide_eq_true e2
      have hpk := pickI_lt at_ n2 e2
      obtain ⟨k, hk⟩ : ∃ k : Nat, pickI at_ n2 = (k : Int) := ⟨(pickI at_ n2).toNat, by omega⟩
      rw [hk] at hpk
      have HP := Lib.hid (fun u => rpick_at hk e2 (by have := h1000; omega) ha u)
      have k_0 : (0 : Int) ≤ (k : Int) := by omega
      have k_1 : (k : Int) < (n2 : Int) := hpk.2
      have k_2 : k < n2 := by omega
      obtain ⟨q, hq⟩ : ∃ q, i.talks[k]? = some q := ⟨_, List.getElem?_eq_getElem (by rw [← HN2.out]; exact k_2)⟩
      obtain ⟨g, cc, xx, hv, hgB, hgl, hgc, hgf, l', hl', hset⟩ := own_pair O2.out (by rw [HN2.out]) hq (show 1 < 2 by decide) n
      skip
      injection hv with hv1 hv2 hv3
      subst hv1 hv3
      have q3 : w4.cell? ⟨w.heap.size, 4, none⟩ = some (.slice (some ⟨g, 0, none⟩) n2 c4) := R4.out.cell 4
      have lr4 := R4.out.lt
      have RX := Lib.hid (R4.out.far (p := ⟨g, k * 2 + 1, none⟩) (by dsimp only; omega) (.int .i64 n))
      have ZX := Lib.hid (Z4.out.far (p := ⟨g, k * 2 + 1, none⟩) (by dsimp only; omega) (.int .i64 n))
      have BX := Lib.hid (B4.out.setCell (p := ⟨g, k * 2 + 1, none⟩) (by dsimp only; omega) (.int .i64 n))
      have PX := Lib.hid (hset w4 rfl)
      have PY := Lib.hid (own_keep O1.out (w' := (w4.setCell ⟨g, k * 2 + 1, none⟩ (.int .i64 n))) fun j e => Below.heap_setCell w4 ⟨g, k * 2 + 1, none⟩ _ j (by dsimp only; have := OL.out j e; omega))
      have HL := Lib.hid hl'
      clear hset hl' hq hpk hk
      go_wp2_with (go_at_call 39; (with_reducible refine Calls.mono (HT.out _) ?_); rintro r w9 ⟨rfl, rfl⟩)
      go_region_held3 (fun y => y.cell? ⟨w.heap.size, 4, none⟩ = some (.slice (some ⟨g, 0, none⟩) n2 c4) ∧ y.cell? ⟨g, k * 2 + 1, none⟩ = some (.int .i64 (cInt y g (k * 2 + 1))) ∧ y.frozen? ⟨g, k * 2 + 1, none⟩ = false ∧ g < y.heap.size ∧ w.heap.size < y.heap.size) (first | assumption | (exact ⟨q3, cInt_at hgc, hgf, hgl, lr4⟩) | (exact bn_put (by omega) (by assumption) n)) (first | (go_at_call 39; ((with_reducible refine Calls.mono (HP.out _) ?_); rintro r w9 ⟨rfl, rfl⟩)))
      obtain ⟨wf, hwf⟩ : ∃ wf, (w4.setCell ⟨g, k * 2 + 1, none⟩ (.int .i64 n)).drew = wf := ⟨_, rfl⟩
      rw [hwf]
      have RF : Hid (Row wf w.heap.size 24 #[.int .i64 i.id, .int .i64 i.kind, .int .i64 i.len, .slice A3 n1 c3, .slice (some ⟨g, 0, none⟩) n2 c4, .int .i64 i.artist, .int .i64 i.tempo, .int .i64 i.lang]) := Lib.hid (by rw [← hwf]; exact RX.out)
      have ZF : Hid (Row wf (w.heap.size + 1) 24 #[.int .i64 0, .int .i64 0, .int .i64 0, .slice none 0 0, .slice none 0 0, .int .i64 0, .int .i64 0, .int .i64 0]) := Lib.hid (by rw [← hwf]; exact ZX.out)
      have BF : Hid (Below w.heap.size w wf) := Lib.hid (by rw [← hwf]; exact BX.out.drew)
      have PF : Hid (wf.ownsRow _ _ _ _ _ _) := Lib.hid (by rw [← hwf]; exact PX.out)
      have PG : Hid (wf.ownsRow _ _ _ _ _ _) := Lib.hid (by rw [← hwf]; exact PY.out)
      clear hwf q3 hgc hgf
      have r0 : wf.cell? ⟨w.heap.size, 0, none⟩ = some (.int .i64 i.id) := RF.out.cell 0
      have r1 : wf.cell? ⟨w.heap.size, 1, none⟩ = some (.int .i64 i.kind) := RF.out.cell 1
      have r2 : wf.cell? ⟨w.heap.size, 2, none⟩ = some (.int .i64 i.len) := RF.out.cell 2
      have r3 : wf.cell? ⟨w.heap.size, 3, none⟩ = some (.slice A3 n1 c3) := RF.out.cell 3
      have r4 : wf.cell? ⟨w.heap.size, 4, none⟩ = some (.slice (some ⟨g, 0, none⟩) n2 c4) := RF.out.cell 4
      have r5 : wf.cell? ⟨w.heap.size, 5, none⟩ = some (.int .i64 i.artist) := RF.out.cell 5
      have r6 : wf.cell? ⟨w.heap.size, 6, none⟩ = some (.int .i64 i.tempo) := RF.out.cell 6
      have r7 : wf.cell? ⟨w.heap.size, 7, none⟩ = some (.int .i64 i.lang) := RF.out.cell 7
      have v0 : wf.cell? ⟨w.heap.size + 1, 0, none⟩ = some (.int .i64 0) := ZF.out.cell 0
      have z0 := ZF.out.free 0
      have v1 : wf.cell? ⟨w.heap.size + 1, 1, none⟩ = some (.int .i64 0) := ZF.out.cell 1
      have z1 := ZF.out.free 1
      have v2 : wf.cell? ⟨w.heap.size + 1, 2, none⟩ = some (.int .i64 0) := ZF.out.cell 2
      have z2 := ZF.out.free 2
      have v3 : wf.cell? ⟨w.heap.size + 1, 3, none⟩ = some (.slice none 0 0) := ZF.out.cell 3
      have z3 := ZF.out.free 3
      have v4 : wf.cell? ⟨w.heap.size + 1, 4, none⟩ = some (.slice none 0 0) := ZF.out.cell 4
      have z4 := ZF.out.free 4
      have v5 : wf.cell? ⟨w.heap.size + 1, 5, none⟩ = some (.int .i64 0) := ZF.out.cell 5
      have z5 := ZF.out.free 5
      have v6 : wf.cell? ⟨w.heap.size + 1, 6, none⟩ = some (.int .i64 0) := ZF.out.cell 6
      have z6 := ZF.out.free 6
      have v7 : wf.cell? ⟨w.heap.size + 1, 7, none⟩ = some (.int .i64 0) := ZF.out.cell 7
      have z7 := ZF.out.free 7
      have lr := RF.out.lt
      have lz := ZF.out.lt
      go_wp2_with fail
      refine bodyPost_ret (results_i rfl _ _ (w.heap.size + 1) _ _ _ _ _ _ _ _ rfl (put8_row ZF.out _ _ _ _ _ _ _ _)) rfl ⟨⟨i.id, i.kind, i.len, i.trims, l', i.artist, i.tempo, i.lang⟩, A3, some ⟨g, 0, none⟩, n1, c3, n2, c4, rfl, ⟨?_, ?_⟩, put8_below BF.out (by omega) _ _ _ _ _ _ _ _, by omega⟩
      · exact recs_of_own (own_stay PG.out fun j h1 h2 => put8_stay _ (w.heap.size + 1) _ _ _ _ _ _ _ _ j (by omega)) (by simp [HN1.out])
      · exact recs_of_own (own_stay PF.out fun j h1 h2 => put8_stay _ (w.heap.size + 1) _ _ _ _ _ _ _ _ j (by omega)) (by simp [HL.out])
  · skip
    obtain ⟨A5, c5, w5, run5, own5, g5, -⟩ := push_pair (B := W.heap.size) n (wrap64 (n + 1)) O1.out (by omega) (by have := Bs4.out; omega)
    have hlow := own_ge O1.out
    have hs5 := g5.size
    rw [World.size_alloc] at hs5
    have far : ∀ j, j < W.heap.size → w5.heap[j]? = w4.heap[j]? := fun j hj => (g5.block j (by simp; have := Bs4.out; omega) (fun e => by have := hlow j e.symm; omega)).trans (Below.heap_alloc w4 _ j (by have := Bs4.out; omega))
    have R5 : Row w5 w.heap.size 24 #[.int .i64 i.id, .int .i64 i.kind, .int .i64 i.len, .slice A3 n1 c3, .slice A4 n2 c4, .int .i64 i.artist, .int .i64 i.tempo, .int .i64 i.lang] := (far _ (by omega)).trans R4.out
    have Z5 : Row w5 (w.heap.size + 1) 24 #[.int .i64 0, .int .i64 0, .int .i64 0, .slice none 0 0, .slice none 0 0, .int .i64 0, .int .i64 0, .int .i64 0] := (far _ (by omega)).trans Z4.out
    have B5 : Below w.heap.size w w5 := (B4.out.alloc B4.out.size _).grown g5 (by have := B4.out.size; simp; omega) (fun r e => by have := hlow r e; omega)
    have O5 : w5.ownsRow w2.heap.size 53 2 (.slice A4 n2 c4) n2 (flat2 i.talks) := own_keep O2.out (fun j e => (g5.block j (by have := own_lt O2.out j e; simp; omega) (fun e2 => by have h1 := OL.out j e2.symm; have h2 := own_ge O2.out j e; omega)).trans (Below.heap_alloc w4 _ j (own_lt O2.out j e)))
    have q3 : w4.cell? ⟨w.heap.size, 3, none⟩ = some (.slice A3 n1 c3) := R4.out.cell 3
    have q5 : w5.cell? ⟨w.heap.size, 3, none⟩ = some (.slice A3 n1 c3) := R5.cell 3
    have f5 := R5.free 3
    have l5 := R5.lt
    have l4 := R4.out.lt
    have RX := Lib.hid (R5.put 3 (.slice A5 (n1 + 1) c5))
    have ZX := Lib.hid (Z5.far (p := ⟨w.heap.size, 3, none⟩) (by dsimp only; omega) (.slice A5 (n1 + 1) c5))
    have BX := Lib.hid (B5.setCell (p := ⟨w.heap.size, 3, none⟩) (by dsimp only; omega) (.slice A5 (n1 + 1) c5))
    have PX := Lib.hid (own_stay own5 (w' := w5.setCell ⟨w.heap.size, 3, none⟩ (.slice A5 (n1 + 1) c5)) fun j h1 h2 => Below.heap_setCell w5 ⟨w.heap.size, 3, none⟩ _ j (by dsimp only; omega))
    have PY := Lib.hid (own_stay O5 (w' := w5.setCell ⟨w.heap.size, 3, none⟩ (.slice A5 (n1 + 1) c5)) fun j h1 h2 => Below.heap_setCell w5 ⟨w.heap.size, 3, none⟩ _ j (by dsimp only; have := sz2s.out; omega))
    clear own5 g5 hlow hs5 far R5 Z5 B5 O5
    go_upto_region 26 with (go_at_call 39; (with_reducible refine Calls.mono (HT.out _) ?_); rintro r w9 ⟨rfl, rfl⟩)
    obtain ⟨wf, hwf⟩ : ∃ wf, w5.setCell ⟨w.heap.size, 3, none⟩ (.slice A5 (n1 + 1) c5) = wf := ⟨_, rfl⟩
    rw [hwf] at RX ZX BX PX PY ⊢
    clear hwf q3 q5 f5 run5
    have r0 : wf.cell? ⟨w.heap.size, 0, none⟩ = some (.int .i64 i.id) := RX.out.cell 0
    have r1 : wf.cell? ⟨w.heap.size, 1, none⟩ = some (.int .i64 i.kind) := RX.out.cell 1
    have r2 : wf.cell? ⟨w.heap.size, 2, none⟩ = some (.int .i64 i.len) := RX.out.cell 2
    have r3 : wf.cell? ⟨w.heap.size, 3, none⟩ = some (.slice A5 (n1 + 1) c5) := RX.out.cell 3
    have r4 : wf.cell? ⟨w.heap.size, 4, none⟩ = some (.slice A4 n2 c4) := RX.out.cell 4
    have r5 : wf.cell? ⟨w.heap.size, 5, none⟩ = some (.int .i64 i.artist) := RX.out.cell 5
    have r6 : wf.cell? ⟨w.heap.size, 6, none⟩ = some (.int .i64 i.tempo) := RX.out.cell 6
    have r7 : wf.cell? ⟨w.heap.size, 7, none⟩ = some (.int .i64 i.lang) := RX.out.cell 7
    have v0 : wf.cell? ⟨w.heap.size + 1, 0, none⟩ = some (.int .i64 0) := ZX.out.cell 0
    have z0 := ZX.out.free 0
    have v1 : wf.cell? ⟨w.heap.size + 1, 1, none⟩ = some (.int .i64 0) := ZX.out.cell 1
    have z1 := ZX.out.free 1
    have v2 : wf.cell? ⟨w.heap.size + 1, 2, none⟩ = some (.int .i64 0) := ZX.out.cell 2
    have z2 := ZX.out.free 2
    have v3 : wf.cell? ⟨w.heap.size + 1, 3, none⟩ = some (.slice none 0 0) := ZX.out.cell 3
    have z3 := ZX.out.free 3
    have v4 : wf.cell? ⟨w.heap.size + 1, 4, none⟩ = some (.slice none 0 0) := ZX.out.cell 4
    have z4 := ZX.out.free 4
    have v5 : wf.cell? ⟨w.heap.size + 1, 5, none⟩ = some (.int .i64 0) := ZX.out.cell 5
    have z5 := ZX.out.free 5
    have v6 : wf.cell? ⟨w.heap.size + 1, 6, none⟩ = some (.int .i64 0) := ZX.out.cell 6
    have z6 := ZX.out.free 6
    have v7 : wf.cell? ⟨w.heap.size + 1, 7, none⟩ = some (.int .i64 0) := ZX.out.cell 7
    have z7 := ZX.out.free 7
    have lr := RX.out.lt
    have lz := ZX.out.lt
    go_wp2_with fail
    refine bodyPost_ret (results_i rfl _ _ (w.heap.size + 1) _ _ _ _ _ _ _ _ rfl (put8_row ZX.out _ _ _ _ _ _ _ _)) rfl ⟨⟨i.id, i.kind, i.len, i.trims ++ [(n, wrap64 (n + 1))], i.talks, i.artist, i.tempo, i.lang⟩, A5, A4, n1 + 1, c5, n2, c4, rfl, ⟨?_, ?_⟩, put8_below BX.out (by omega) _ _ _ _ _ _ _ _, by omega⟩
    · exact recs_of_own (own_stay PX.out fun j h1 h2 => put8_stay _ (w.heap.size + 1) _ _ _ _ _ _ _ _ j (by omega)) (by simp [HN1.out])
    · exact recs_of_own (own_stay PY.out fun j h1 h2 => put8_stay _ (w.heap.size + 1) _ _ _ _ _ _ _ _ j (by omega)) (by simp [HN2.out])
theorem rbent_any (i : ItemP) (how n at_ : Int) (hh : I64 how) (ha : I64 at_) (A1 A2 : Option Addr) (n1 c1 n2 c2 : Nat) (h1000 : n1 ≤ 1000 ∧ n2 ≤ 1000) (w : World) (hr : ItAt i A1 n1 c1 A2 n2 c2 w.heap.size w) :
    Calls Try.prog 11 #[.agg #[.int .i64 i.id, .int .i64 i.kind, .int .i64 i.len, .slice A1 n1 c1, .slice A2 n2 c2, .int .i64 i.artist, .int .i64 i.tempo, .int .i64 i.lang], .int .i64 how, .int .i64 n, .int .i64 at_] w fun e w' => ∃ (k : ItemP) (A5 A6 : Option Addr) (n5 c5 n6 c6 : Nat), e = .returned (.agg #[.int .i64 k.id, .int .i64 k.kind, .int .i64 k.len, .slice A5 n5 c5, .slice A6 n6 c6, .int .i64 k.artist, .int .i64 k.tempo, .int .i64 k.lang]) ∧ ItAt k A5 n5 c5 A6 n6 c6 w'.heap.size w' ∧ Below w.heap.size w w' := by
  refine (rbent_x i how n at_ hh ha A1 A2 n1 c1 n2 c2 h1000 w hr).mono ?_
  rintro e w' ⟨k, A5, A6, n5, c5, n6, c6, h1, h2, h3, -⟩
  exact ⟨k, A5, A6, n5, c5, n6, c6, h1, h2, h3⟩
end Go.Proofs.Ytnmhigjannihgaa
