/- The walk of WeekMatchesReference. -/
import Derived.Test.YtmfpaankkoaoaaaDoorZw
import Derived.Deep.CutBlock
namespace Go.Proofs.YtmfpaankkoaoaaaDoor
open Go.RowKit Go.Shelf
attribute [local go_sem] equal_weeks
set_option maxRecDepth 100000 in
set_option maxHeartbeats 32000000 in
theorem match_walk (x0 x1 x2 x3 x4 x5 x6 v0 v1 v2 v3 v4 v5 v6 r0 r1 r2 r3 r4 r5 r6 fr tw p q t pos cc : Int) (s : ByteArray) (hx : ∀ x ∈ [x0, x1, x2, x3, x4, x5, x6], -9223372036854775808 ≤ x ∧ x ≤ 9223372036854775807) (hv : ∀ x ∈ [v0, v1, v2, v3, v4, v5, v6], -9223372036854775808 ≤ x ∧ x ≤ 9223372036854775807) (hfr : I64 fr) (hto : I64 tw) (ht : I64 t) (hpos : I64 pos) (hcc : 0 ≤ cc ∧ cc ≤ 255) (w : World) (hT : Tabs w) : Calls Tryd.prog 3 #[.agg #[.int .i64 x0, .int .i64 x1, .int .i64 x2, .int .i64 x3, .int .i64 x4, .int .i64 x5, .int .i64 x6], .agg #[.int .i64 v0, .int .i64 v1, .int .i64 v2, .int .i64 v3, .int .i64 v4, .int .i64 v5, .int .i64 v6], .agg #[.int .i64 r0, .int .i64 r1, .int .i64 r2, .int .i64 r3, .int .i64 r4, .int .i64 r5, .int .i64 r6], .int .i64 fr, .int .i64 tw, .agg #[.int .i64 p, .int .i64 q], .int .i64 t, .string s, .int .i64 pos, .int .u8 cc] w fun e w' => e = .returned (.bool true) ∧ Below w.heap.size w w' := by
  have MX := Lib.hid (fun u => made_k x0 x1 x2 x3 x4 x5 x6 hx u)
  have MV := Lib.hid (fun u => made_k v0 v1 v2 v3 v4 v5 v6 hv u)
  have HT := Lib.hid hT
  have SA := Lib.hid (fun u hu => sane_any u hu)
  have SPL := Lib.hid (fun u => rspell_any fr tw hfr hto u)
  obtain ⟨ma, hma⟩ : ∃ ma, mkFrom fr = ma := ⟨_, rfl⟩
  obtain ⟨mb, hmb⟩ : ∃ mb, mkTo fr tw = mb := ⟨_, rfl⟩
  rw [hma, hmb] at SPL
  have P1 := Lib.hid (fun u => pick_any t 10000000 (by decide) (by decide) ht.1 ht.2 u)
  have P2 := Lib.hid (fun u => pick_any t 14400 (by decide) (by decide) ht.1 ht.2 u)
  have l2 := pickI_lt t 14400 (by decide)
  obtain ⟨p1, hp1⟩ : ∃ p1, pickI t 10000000 = p1 := ⟨_, rfl⟩
  obtain ⟨p2, hp2⟩ : ∃ p2, pickI t 14400 = p2 := ⟨_, rfl⟩
  rw [hp1] at P1
  rw [hp2] at P2 l2
  have HP2 := Lib.hid l2
  have PK3 := Lib.hid (fun (n : Int) (h1 : 0 < n) (h2 : n ≤ 9223372036854775807) u => pick_any pos n h1 h2 hpos.1 hpos.2 u)
  obtain ⟨kr, hkr1, hkr2⟩ : ∃ kr : Nat, min (s.size : Int) 400 = (kr : Int) ∧ kr ≤ 400 ∧ kr ≤ s.size := ⟨min s.size 400, by omega, by omega, by omega⟩
  obtain ⟨ks, hks1, hks2⟩ : ∃ ks : Nat, min (s.size : Int) 40 = (ks : Int) ∧ ks ≤ 40 ∧ ks ≤ s.size := ⟨min s.size 40, by omega, by omega, by omega⟩
  obtain ⟨CU, hCU⟩ : ∃ CU, s.extract 0 kr = CU := ⟨_, rfl⟩
  obtain ⟨CV, hCV⟩ : ∃ CV, s.extract 0 ks = CV := ⟨_, rfl⟩
  have HCZ : Hid (CU.size ≤ 400 ∧ CV.size ≤ 40) := Lib.hid (by rw [← hCU, ← hCV, ByteArray.size_extract, ByteArray.size_extract]; omega)
  have KM := Lib.hid (fun (w : World) => run_min2 (P := Tryd.prog) (w := w) #[3, 3] 3 .i64 .i64 (s.size : Int) 400 (kr : Int) hkr1)
  have KN := Lib.hid (fun (w : World) => run_min2 (P := Tryd.prog) (w := w) #[3, 3] 3 .i64 .i64 (s.size : Int) 40 (ks : Int) hks1)
  have KS := Lib.hid (show ∀ w : World, (Instr.slice 9 (.string s) none (some (.int .i64 (kr : Int))) none).run Tryd.prog w = .ok (.string CU) w from fun w => by
    rw [run_slice_string_h (P := Tryd.prog) w 9 s Tryd.underlying9 .i64 (kr : Int) (by omega) (by omega), Int.toNat_natCast, hCU])
  have KT := Lib.hid (show ∀ w : World, (Instr.slice 9 (.string s) none (some (.int .i64 (ks : Int))) none).run Tryd.prog w = .ok (.string CV) w from fun w => by
    rw [run_slice_string_h (P := Tryd.prog) w 9 s Tryd.underlying9 .i64 (ks : Int) (by omega) (by omega), Int.toNat_natCast, hCV])
  obtain ⟨d, rfl⟩ : ∃ d : Nat, cc = (d : Int) := ⟨cc.toNat, by omega⟩
  have HD : Hid (((UInt8.ofNat d).toNat : Int) = (d : Int)) := Lib.hid (by rw [UInt8.toNat_ofNat']; omega)
  clear hx hv hT hfr hto ht hpos hma hmb hp1 hp2 l2 hkr1 hkr2 hks1 hks2 hCU hCV hcc
  go_enter Tryd.func3, Tryd.ntmps3
  go_upto_region 7 with (first | (go_at_call 4; (with_reducible refine Calls.mono (SA.out _ (HT.out.next (((((Below.refl _ w).alloc (Nat.le_refl _) _).alloc (by simp <;> omega) _).alloc (by simp <;> omega) _).alloc (by simp <;> omega) _))) ?_); rintro r u1 ⟨rfl, hb⟩; have Bc := Lib.hid (below_to (((((Below.refl _ w).alloc (Nat.le_refl _) _).alloc (by simp <;> omega) _).alloc (by simp <;> omega) _).alloc (by simp <;> omega) _) hb); have sz := Bc.out.size; have RX := Lib.hid (((((Row.new w 22 #[.int .i64 x0, .int .i64 x1, .int .i64 x2, .int .i64 x3, .int .i64 x4, .int .i64 x5, .int .i64 x6]).alloc _).alloc _).alloc _).below hb ((((Row.new w 22 #[.int .i64 x0, .int .i64 x1, .int .i64 x2, .int .i64 x3, .int .i64 x4, .int .i64 x5, .int .i64 x6]).alloc _).alloc _).alloc _).lt); have X_0 := RX.out.cell 0; have X_1 := RX.out.cell 1; have X_2 := RX.out.cell 2; have X_3 := RX.out.cell 3; have X_4 := RX.out.cell 4; have X_5 := RX.out.cell 5; have X_6 := RX.out.cell 6; have lX := RX.out.lt; have RV := Lib.hid ((((Row.new (w.alloc (.cells #[.int .i64 x0, .int .i64 x1, .int .i64 x2, .int .i64 x3, .int .i64 x4, .int .i64 x5, .int .i64 x6] 22)) 22 #[.int .i64 v0, .int .i64 v1, .int .i64 v2, .int .i64 v3, .int .i64 v4, .int .i64 v5, .int .i64 v6]).alloc _).alloc _).below hb (((Row.new (w.alloc (.cells #[.int .i64 x0, .int .i64 x1, .int .i64 x2, .int .i64 x3, .int .i64 x4, .int .i64 x5, .int .i64 x6] 22)) 22 #[.int .i64 v0, .int .i64 v1, .int .i64 v2, .int .i64 v3, .int .i64 v4, .int .i64 v5, .int .i64 v6]).alloc _).alloc _).lt); simp only [World.size_alloc] at RV; have V_0 := RV.out.cell 0; have V_1 := RV.out.cell 1; have V_2 := RV.out.cell 2; have V_3 := RV.out.cell 3; have V_4 := RV.out.cell 4; have V_5 := RV.out.cell 5; have V_6 := RV.out.cell 6; have lV := RV.out.lt; have RR := Lib.hid (((Row.new ((w.alloc (.cells #[.int .i64 x0, .int .i64 x1, .int .i64 x2, .int .i64 x3, .int .i64 x4, .int .i64 x5, .int .i64 x6] 22)).alloc (.cells #[.int .i64 v0, .int .i64 v1, .int .i64 v2, .int .i64 v3, .int .i64 v4, .int .i64 v5, .int .i64 v6] 22)) 23 #[.int .i64 r0, .int .i64 r1, .int .i64 r2, .int .i64 r3, .int .i64 r4, .int .i64 r5, .int .i64 r6]).alloc _).below hb ((Row.new ((w.alloc (.cells #[.int .i64 x0, .int .i64 x1, .int .i64 x2, .int .i64 x3, .int .i64 x4, .int .i64 x5, .int .i64 x6] 22)).alloc (.cells #[.int .i64 v0, .int .i64 v1, .int .i64 v2, .int .i64 v3, .int .i64 v4, .int .i64 v5, .int .i64 v6] 22)) 23 #[.int .i64 r0, .int .i64 r1, .int .i64 r2, .int .i64 r3, .int .i64 r4, .int .i64 r5, .int .i64 r6]).alloc _).lt); simp only [World.size_alloc] at RR; have R_0 := RR.out.cell 0; have R_1 := RR.out.cell 1; have R_2 := RR.out.cell 2; have R_3 := RR.out.cell 3; have R_4 := RR.out.cell 4; have R_5 := RR.out.cell 5; have R_6 := RR.out.cell 6; have lR := RR.out.lt; have RS := Lib.hid ((Row.new (((w.alloc (.cells #[.int .i64 x0, .int .i64 x1, .int .i64 x2, .int .i64 x3, .int .i64 x4, .int .i64 x5, .int .i64 x6] 22)).alloc (.cells #[.int .i64 v0, .int .i64 v1, .int .i64 v2, .int .i64 v3, .int .i64 v4, .int .i64 v5, .int .i64 v6] 22)).alloc (.cells #[.int .i64 r0, .int .i64 r1, .int .i64 r2, .int .i64 r3, .int .i64 r4, .int .i64 r5, .int .i64 r6] 23)) 25 #[.int .i64 p, .int .i64 q]).below hb (Row.new (((w.alloc (.cells #[.int .i64 x0, .int .i64 x1, .int .i64 x2, .int .i64 x3, .int .i64 x4, .int .i64 x5, .int .i64 x6] 22)).alloc (.cells #[.int .i64 v0, .int .i64 v1, .int .i64 v2, .int .i64 v3, .int .i64 v4, .int .i64 v5, .int .i64 v6] 22)).alloc (.cells #[.int .i64 r0, .int .i64 r1, .int .i64 r2, .int .i64 r3, .int .i64 r4, .int .i64 r5, .int .i64 r6] 23)) 25 #[.int .i64 p, .int .i64 q]).lt); simp only [World.size_alloc] at RS; have S_0 := RS.out.cell 0; have S_1 := RS.out.cell 1; have lS := RS.out.lt; clear hb) | (go_at_call 5; (with_reducible refine Calls.mono (MX.out _) ?_); rintro r u2 ⟨lo, o0, o1, o2, o3, o4, o5, o6, -, rfl, hb⟩; have Bc := Lib.hid (below_to Bc.out hb); have sz := Bc.out.size; have RV := Lib.hid (RV.out.below hb RV.out.lt); clear V_0 V_1 V_2 V_3 V_4 V_5 V_6 lV; have V_0 := RV.out.cell 0; have V_1 := RV.out.cell 1; have V_2 := RV.out.cell 2; have V_3 := RV.out.cell 3; have V_4 := RV.out.cell 4; have V_5 := RV.out.cell 5; have V_6 := RV.out.cell 6; have lV := RV.out.lt; have RR := Lib.hid (RR.out.below hb RR.out.lt); clear R_0 R_1 R_2 R_3 R_4 R_5 R_6 lR; have R_0 := RR.out.cell 0; have R_1 := RR.out.cell 1; have R_2 := RR.out.cell 2; have R_3 := RR.out.cell 3; have R_4 := RR.out.cell 4; have R_5 := RR.out.cell 5; have R_6 := RR.out.cell 6; have lR := RR.out.lt; have RS := Lib.hid (RS.out.below hb RS.out.lt); clear S_0 S_1 lS; have S_0 := RS.out.cell 0; have S_1 := RS.out.cell 1; have lS := RS.out.lt; clear hb) | (go_at_call 5; (with_reducible refine Calls.mono (MV.out _) ?_); rintro r u3 ⟨lm, m0, m1, m2, m3, m4, m5, m6, -, rfl, hb⟩; have Bc := Lib.hid (below_to (Bc.out.alloc Bc.out.size _) hb); have sz := Bc.out.size; have RR := Lib.hid ((RR.out.alloc _).below hb (RR.out.alloc _).lt); clear R_0 R_1 R_2 R_3 R_4 R_5 R_6 lR; have R_0 := RR.out.cell 0; have R_1 := RR.out.cell 1; have R_2 := RR.out.cell 2; have R_3 := RR.out.cell 3; have R_4 := RR.out.cell 4; have R_5 := RR.out.cell 5; have R_6 := RR.out.cell 6; have lR := RR.out.lt; have RS := Lib.hid ((RS.out.alloc _).below hb (RS.out.alloc _).lt); clear S_0 S_1 lS; have S_0 := RS.out.cell 0; have S_1 := RS.out.cell 1; have lS := RS.out.lt; have RO := Lib.hid ((Row.new u2 23 #[.int .i64 o0, .int .i64 o1, .int .i64 o2, .int .i64 o3, .int .i64 o4, .int .i64 o5, .int .i64 o6]).below hb (Row.new u2 23 #[.int .i64 o0, .int .i64 o1, .int .i64 o2, .int .i64 o3, .int .i64 o4, .int .i64 o5, .int .i64 o6]).lt); have O_0 := RO.out.cell 0; have O_1 := RO.out.cell 1; have O_2 := RO.out.cell 2; have O_3 := RO.out.cell 3; have O_4 := RO.out.cell 4; have O_5 := RO.out.cell 5; have O_6 := RO.out.cell 6; have lO := RO.out.lt; clear hb))
  obtain ⟨V0, hV0⟩ : ∃ V0, (u3.alloc (.cells #[.int .i64 m0, .int .i64 m1, .int .i64 m2, .int .i64 m3, .int .i64 m4, .int .i64 m5, .int .i64 m6] 23)).alloc (.cells #[.int .i64 o0, .int .i64 o1, .int .i64 o2, .int .i64 o3, .int .i64 o4, .int .i64 o5, .int .i64 o6, .int .i64 m0, .int .i64 m1, .int .i64 m2, .int .i64 m3, .int .i64 m4, .int .i64 m5, .int .i64 m6, .int .i64 r0, .int .i64 r1, .int .i64 r2, .int .i64 r3, .int .i64 r4, .int .i64 r5, .int .i64 r6] 23) = V0 := ⟨_, rfl⟩
  have RR := Lib.hid (show Row V0 (w.heap.size + 1 + 1) 23 #[.int .i64 r0, .int .i64 r1, .int .i64 r2, .int .i64 r3, .int .i64 r4, .int .i64 r5, .int .i64 r6] by rw [← hV0]; exact (RR.out.alloc _).alloc _)
  have RS := Lib.hid (show Row V0 (w.heap.size + 1 + 1 + 1) 25 #[.int .i64 p, .int .i64 q] by rw [← hV0]; exact (RS.out.alloc _).alloc _)
  have RO := Lib.hid (show Row V0 u2.heap.size 23 #[.int .i64 o0, .int .i64 o1, .int .i64 o2, .int .i64 o3, .int .i64 o4, .int .i64 o5, .int .i64 o6] by rw [← hV0]; exact (RO.out.alloc _).alloc _)
  have RL := Lib.hid (show Row V0 (u3.heap.size + 1) 23 #[.int .i64 o0, .int .i64 o1, .int .i64 o2, .int .i64 o3, .int .i64 o4, .int .i64 o5, .int .i64 o6, .int .i64 m0, .int .i64 m1, .int .i64 m2, .int .i64 m3, .int .i64 m4, .int .i64 m5, .int .i64 m6, .int .i64 r0, .int .i64 r1, .int .i64 r2, .int .i64 r3, .int .i64 r4, .int .i64 r5, .int .i64 r6] by rw [← hV0]; have h := Row.new (u3.alloc (.cells #[.int .i64 m0, .int .i64 m1, .int .i64 m2, .int .i64 m3, .int .i64 m4, .int .i64 m5, .int .i64 m6] 23)) 23 #[.int .i64 o0, .int .i64 o1, .int .i64 o2, .int .i64 o3, .int .i64 o4, .int .i64 o5, .int .i64 o6, .int .i64 m0, .int .i64 m1, .int .i64 m2, .int .i64 m3, .int .i64 m4, .int .i64 m5, .int .i64 m6, .int .i64 r0, .int .i64 r1, .int .i64 r2, .int .i64 r3, .int .i64 r4, .int .i64 r5, .int .i64 r6]; rw [World.size_alloc] at h; exact h)
  have BV := Lib.hid (show Below w.heap.size w V0 by rw [← hV0]; exact (Bc.out.alloc Bc.out.size _).alloc (by simp; omega) _)
  rw [hV0]
  clear hV0 R_0 R_1 R_2 R_3 R_4 R_5 R_6 S_0 S_1 O_0 O_1 O_2 O_3 O_4 O_5 O_6 lR lS lO
  have HT := Lib.hid (HT.out.next BV.out)
  have HY : Hid (∀ k, k < 3 → ∃ y0 y1 y2 y3 y4 y5 y6 : Int, V0.cell? ⟨u3.heap.size + 1, k * 7, none⟩ = some (.int .i64 y0) ∧ V0.cell? ⟨u3.heap.size + 1, k * 7 + 1, none⟩ = some (.int .i64 y1) ∧ V0.cell? ⟨u3.heap.size + 1, k * 7 + 2, none⟩ = some (.int .i64 y2) ∧ V0.cell? ⟨u3.heap.size + 1, k * 7 + 3, none⟩ = some (.int .i64 y3) ∧ V0.cell? ⟨u3.heap.size + 1, k * 7 + 4, none⟩ = some (.int .i64 y4) ∧ V0.cell? ⟨u3.heap.size + 1, k * 7 + 5, none⟩ = some (.int .i64 y5) ∧ V0.cell? ⟨u3.heap.size + 1, k * 7 + 6, none⟩ = some (.int .i64 y6)) := Lib.hid (fun k hk => by
    rcases (by omega : k = 0 ∨ k = 1 ∨ k = 2) with rfl | rfl | rfl
    · exact ⟨_, _, _, _, _, _, _, RL.out.cell 0, RL.out.cell 1, RL.out.cell 2, RL.out.cell 3, RL.out.cell 4, RL.out.cell 5, RL.out.cell 6⟩
    · exact ⟨_, _, _, _, _, _, _, RL.out.cell 7, RL.out.cell 8, RL.out.cell 9, RL.out.cell 10, RL.out.cell 11, RL.out.cell 12, RL.out.cell 13⟩
    · exact ⟨_, _, _, _, _, _, _, RL.out.cell 14, RL.out.cell 15, RL.out.cell 16, RL.out.cell 17, RL.out.cell 18, RL.out.cell 19, RL.out.cell 20⟩)
  have LL := Lib.hid RL.out.lt
  clear RL
  go_wp2
  go_loopw [81] (fun i wr => ∃ k : Nat, i = .int .i64 (k : Int) ∧ k ≤ 3 ∧ Hid (Below V0.heap.size V0 wr)) (fun i _ => 3 - (intOf i).toNat)
  case atStart => exact ⟨0, rfl, by omega, Lib.hid (Below.refl _ _)⟩
  case round =>
    obtain ⟨k, rfl, hk, HB⟩ := hrel
    by_cases hlt : k < 3
    · obtain ⟨y0, y1, y2, y3, y4, y5, y6, c0, c1, c2, c3, c4, c5, c6⟩ := HY.out k hlt
      have lg : u3.heap.size + 1 < wr.heap.size := Nat.lt_of_lt_of_le LL.out HB.out.size
      replace c0 := (HB.out.cell (p := ⟨u3.heap.size + 1, k * 7, none⟩) LL.out).trans c0
      replace c1 := (HB.out.cell (p := ⟨u3.heap.size + 1, k * 7 + 1, none⟩) LL.out).trans c1
      replace c2 := (HB.out.cell (p := ⟨u3.heap.size + 1, k * 7 + 2, none⟩) LL.out).trans c2
      replace c3 := (HB.out.cell (p := ⟨u3.heap.size + 1, k * 7 + 3, none⟩) LL.out).trans c3
      replace c4 := (HB.out.cell (p := ⟨u3.heap.size + 1, k * 7 + 4, none⟩) LL.out).trans c4
      replace c5 := (HB.out.cell (p := ⟨u3.heap.size + 1, k * 7 + 5, none⟩) LL.out).trans c5
      replace c6 := (HB.out.cell (p := ⟨u3.heap.size + 1, k * 7 + 6, none⟩) LL.out).trans c6
      have q1 : (0 : Int) ≤ (k : Int) := by omega
      have q2 : (k : Int) < 3 := by omega
      go_upto_region 9 with (fail)
      obtain ⟨V1, hV1⟩ : ∃ V1, wr.alloc (.cells #[.int .i64 y0, .int .i64 y1, .int .i64 y2, .int .i64 y3, .int .i64 y4, .int .i64 y5, .int .i64 y6] 23) = V1 := ⟨_, rfl⟩
      have RW := Lib.hid (show Row V1 wr.heap.size 23 #[.int .i64 y0, .int .i64 y1, .int .i64 y2, .int .i64 y3, .int .i64 y4, .int .i64 y5, .int .i64 y6] by rw [← hV1]; exact Row.new _ _ _)
      have B1 := Lib.hid (show Below V0.heap.size V0 V1 by rw [← hV1]; exact HB.out.alloc HB.out.size _)
      rw [hV1]
      obtain ⟨g, hg⟩ : ∃ g, wr.heap.size = g := ⟨_, rfl⟩
      rw [hg] at RW ⊢
      obtain ⟨bv, va, vb⟩ := b_valid y0 y1 y2 y3 y4 y5 y6
      have VA := Lib.hid va; have VB := Lib.hid vb
      clear hV1 hg c0 c1 c2 c3 c4 c5 c6 lg va vb HB
      go_cut [89] from 85 to 89 (fun b wx => b = .bool false ∧ Hid (Below V1.heap.size V1 wx))
      case first =>
        as_aux_lemma =>
          have hb0 : Below V1.heap.size V1 V1 := Below.refl _ _
          have W_0 : V1.cell? ⟨g, 0, none⟩ = some (.int .i64 y0) := RW.out.cell 0; have W_1 : V1.cell? ⟨g, 1, none⟩ = some (.int .i64 y1) := RW.out.cell 1; have W_2 : V1.cell? ⟨g, 2, none⟩ = some (.int .i64 y2) := RW.out.cell 2; have W_3 : V1.cell? ⟨g, 3, none⟩ = some (.int .i64 y3) := RW.out.cell 3; have W_4 : V1.cell? ⟨g, 4, none⟩ = some (.int .i64 y4) := RW.out.cell 4; have W_5 : V1.cell? ⟨g, 5, none⟩ = some (.int .i64 y5) := RW.out.cell 5; have W_6 : V1.cell? ⟨g, 6, none⟩ = some (.int .i64 y6) := RW.out.cell 6; have lW := RW.out.lt
          go_region_held3 (fun u => Below V1.heap.size V1 u ∧ u.cell? ⟨g, 0, none⟩ = some (.int .i64 y0) ∧ u.cell? ⟨g, 1, none⟩ = some (.int .i64 y1) ∧ u.cell? ⟨g, 2, none⟩ = some (.int .i64 y2) ∧ u.cell? ⟨g, 3, none⟩ = some (.int .i64 y3) ∧ u.cell? ⟨g, 4, none⟩ = some (.int .i64 y4) ∧ u.cell? ⟨g, 5, none⟩ = some (.int .i64 y5) ∧ u.cell? ⟨g, 6, none⟩ = some (.int .i64 y6)) (first | assumption | (exact ⟨Below.drew (by assumption), by assumption, by assumption, by assumption, by assumption, by assumption, by assumption, by assumption⟩) | (exact ⟨by assumption, by assumption, by assumption, by assumption, by assumption, by assumption, by assumption, by assumption⟩) | (exact hold7 (‹Below V1.heap.size V1 _ ∧ _ ∧ _ ∧ _ ∧ _ ∧ _ ∧ _ ∧ _›) b5 lW)) (first | (go_at_call 6; ((with_reducible refine Calls.mono (VA.out _) ?_); rintro r u8 ⟨rfl, b5⟩)) | (go_at_call 7; ((with_reducible refine Calls.mono (VB.out _) ?_); rintro r u8 ⟨rfl, b5⟩)))
          all_goals
            have HX := Lib.hid (‹Below V1.heap.size V1 _ ∧ _ ∧ _ ∧ _ ∧ _ ∧ _ ∧ _ ∧ _›).1
            go_wp2_with fail
            go_meet
            exact ⟨by simp, HX⟩
      case rest =>
        obtain ⟨rfl, HX⟩ := hcut
        have RW := Lib.hid (RW.out.below HX.out RW.out.lt)
        have B1 := Lib.hid (below_to B1.out HX.out)
        clear HX
        have l2a := HP2.out.1
        have l2b := HP2.out.2
        go_upto_block 2 with (go_at_call 8; (first | (with_reducible refine Calls.mono (P1.out _) ?_) | (with_reducible refine Calls.mono (P2.out _) ?_)); rintro r u' ⟨rfl, rfl⟩)
        obtain ⟨V2, hV2⟩ : ∃ V2, wc.alloc (.cells #[.int .i64 t, .int .i64 p1, .int .i64 (9999999 - p2)] 3) = V2 := ⟨_, rfl⟩
        have RU := Lib.hid (show Row V2 wc.heap.size 3 #[.int .i64 t, .int .i64 p1, .int .i64 (9999999 - p2)] by rw [← hV2]; exact Row.new _ _ _)
        have RW := Lib.hid (show Row V2 g 23 #[.int .i64 y0, .int .i64 y1, .int .i64 y2, .int .i64 y3, .int .i64 y4, .int .i64 y5, .int .i64 y6] by rw [← hV2]; exact RW.out.alloc _)
        have B2 := Lib.hid (show Below V0.heap.size V0 V2 by rw [← hV2]; exact B1.out.alloc B1.out.size _)
        rw [hV2]
        obtain ⟨gu, hgu⟩ : ∃ gu, wc.heap.size = gu := ⟨_, rfl⟩
        rw [hgu] at RU ⊢
        have HU : Hid (∀ j, j < 3 → ∃ u : Int, V2.cell? ⟨gu, j, none⟩ = some (.int .i64 u)) := Lib.hid (fun j hj => by
          rcases (by omega : j = 0 ∨ j = 1 ∨ j = 2) with rfl | rfl | rfl
          · exact ⟨_, RU.out.cell 0⟩
          · exact ⟨_, RU.out.cell 1⟩
          · exact ⟨_, RU.out.cell 2⟩)
        have LU := Lib.hid RU.out.lt
        clear hV2 hgu RU l2a l2b B1
        have HT2 := Lib.hid (HT.out.next B2.out)
        go_cut [98] from 98 to 131 (fun _ wx => Hid (Below V2.heap.size V2 wx))
        case first =>
          as_aux_lemma =>
            go_wp2_with fail
            go_loopw [98] (fun i wr => ∃ j : Nat, i = .int .i64 (j : Int) ∧ j ≤ 3 ∧ Hid (Below V2.heap.size V2 wr)) (fun i _ => 3 - (intOf i).toNat)
            case atStart => exact ⟨0, rfl, by omega, Lib.hid (Below.refl _ _)⟩
            case round =>
              obtain ⟨j, rfl, hj, HB⟩ := hrel
              have RW := Lib.hid (RW.out.below HB.out RW.out.lt)
              by_cases hj3 : j < 3
              · obtain ⟨u, cu⟩ := HU.out j hj3
                replace cu := (HB.out.cell (p := ⟨gu, j, none⟩) LU.out).trans cu
                have lgu := Nat.lt_of_lt_of_le LU.out HB.out.size
                have HTr := Lib.hid (HT2.out.next HB.out)
                have W_0 : wr.cell? ⟨g, 0, none⟩ = some (.int .i64 y0) := RW.out.cell 0; have W_1 : wr.cell? ⟨g, 1, none⟩ = some (.int .i64 y1) := RW.out.cell 1; have W_2 : wr.cell? ⟨g, 2, none⟩ = some (.int .i64 y2) := RW.out.cell 2; have W_3 : wr.cell? ⟨g, 3, none⟩ = some (.int .i64 y3) := RW.out.cell 3; have W_4 : wr.cell? ⟨g, 4, none⟩ = some (.int .i64 y4) := RW.out.cell 4; have W_5 : wr.cell? ⟨g, 5, none⟩ = some (.int .i64 y5) := RW.out.cell 5; have W_6 : wr.cell? ⟨g, 6, none⟩ = some (.int .i64 y6) := RW.out.cell 6; have lW := RW.out.lt
                obtain ⟨n, b, nx, ny⟩ := b_next y0 y1 y2 y3 y4 y5 y6 u
                obtain ⟨bi, ix, iy⟩ := b_in y0 y1 y2 y3 y4 y5 y6 u
                have NX := Lib.hid nx; have NY := Lib.hid ny; have IX := Lib.hid ix; have IY := Lib.hid iy
                clear nx ny ix iy
                have j1 : (0 : Int) ≤ (j : Int) := by omega
                have j2 : (j : Int) < 3 := by omega
                go_upto_region 16 with (first | (go_at_call 9; (with_reducible refine Calls.mono (NX.out _ (HTr.out.next (Below.refl _ wr))) ?_); rintro r u21 ⟨rfl, hb⟩; have Bc := Lib.hid (below_to (Below.refl _ wr) hb); have sz := Bc.out.size; have RW := Lib.hid (RW.out.below hb RW.out.lt); clear W_0 W_1 W_2 W_3 W_4 W_5 W_6 lW; have W_0 := RW.out.cell 0; have W_1 := RW.out.cell 1; have W_2 := RW.out.cell 2; have W_3 := RW.out.cell 3; have W_4 := RW.out.cell 4; have W_5 := RW.out.cell 5; have W_6 := RW.out.cell 6; have lW := RW.out.lt; clear hb) | (go_at_call 10; (with_reducible refine Calls.mono (NY.out _) ?_); rintro r u22 ⟨rfl, hb⟩; have Bc := Lib.hid (below_to Bc.out hb); have sz := Bc.out.size; have RW := Lib.hid (RW.out.below hb RW.out.lt); clear W_0 W_1 W_2 W_3 W_4 W_5 W_6 lW; have W_0 := RW.out.cell 0; have W_1 := RW.out.cell 1; have W_2 := RW.out.cell 2; have W_3 := RW.out.cell 3; have W_4 := RW.out.cell 4; have W_5 := RW.out.cell 5; have W_6 := RW.out.cell 6; have lW := RW.out.lt; clear hb))
                clear W_0 W_1 W_2 W_3 W_4 W_5 W_6 lW cu lgu
                go_cut [130] from 114 to 130 (fun b wx => b = .bool false ∧ Hid (Below u22.heap.size u22 wx))
                case first =>
                  as_aux_lemma =>
                    have hb0 : Below u22.heap.size u22 u22 := Below.refl _ _
                    have W_0 : u22.cell? ⟨g, 0, none⟩ = some (.int .i64 y0) := RW.out.cell 0; have W_1 : u22.cell? ⟨g, 1, none⟩ = some (.int .i64 y1) := RW.out.cell 1; have W_2 : u22.cell? ⟨g, 2, none⟩ = some (.int .i64 y2) := RW.out.cell 2; have W_3 : u22.cell? ⟨g, 3, none⟩ = some (.int .i64 y3) := RW.out.cell 3; have W_4 : u22.cell? ⟨g, 4, none⟩ = some (.int .i64 y4) := RW.out.cell 4; have W_5 : u22.cell? ⟨g, 5, none⟩ = some (.int .i64 y5) := RW.out.cell 5; have W_6 : u22.cell? ⟨g, 6, none⟩ = some (.int .i64 y6) := RW.out.cell 6; have lW := RW.out.lt
                    go_region_held3 (fun u => Below u22.heap.size u22 u ∧ u.cell? ⟨g, 0, none⟩ = some (.int .i64 y0) ∧ u.cell? ⟨g, 1, none⟩ = some (.int .i64 y1) ∧ u.cell? ⟨g, 2, none⟩ = some (.int .i64 y2) ∧ u.cell? ⟨g, 3, none⟩ = some (.int .i64 y3) ∧ u.cell? ⟨g, 4, none⟩ = some (.int .i64 y4) ∧ u.cell? ⟨g, 5, none⟩ = some (.int .i64 y5) ∧ u.cell? ⟨g, 6, none⟩ = some (.int .i64 y6)) (first | assumption | (exact ⟨Below.drew (by assumption), by assumption, by assumption, by assumption, by assumption, by assumption, by assumption, by assumption⟩) | (exact ⟨by assumption, by assumption, by assumption, by assumption, by assumption, by assumption, by assumption, by assumption⟩) | (exact hold7 (‹Below u22.heap.size u22 _ ∧ _ ∧ _ ∧ _ ∧ _ ∧ _ ∧ _ ∧ _›) b5 lW)) (first | (go_at_call 11; ((with_reducible refine Calls.mono (IX.out _) ?_); rintro r u8 ⟨rfl, b5⟩)) | (go_at_call 12; ((with_reducible refine Calls.mono (IY.out _) ?_); rintro r u8 ⟨rfl, b5⟩)))
                    all_goals
                      have HX := Lib.hid (‹Below u22.heap.size u22 _ ∧ _ ∧ _ ∧ _ ∧ _ ∧ _ ∧ _ ∧ _›).1
                      go_wp2_with fail
                      go_meet
                      exact ⟨by simp, HX⟩
                case rest =>
                  obtain ⟨rfl, HX⟩ := hcut
                  go_wp2_with fail
                  go_roundw
                  case rel => exact ⟨j + 1, by go_num, by omega, Lib.hid (below_to HB.out (below_to Bc.out HX.out))⟩
                  case measure => simp [intOf]; omega
              · have jx : ¬ (j : Int) < 3 := by omega
                go_wp2_with fail
                go_meet
                exact HB
        case rest =>
          obtain ⟨V3, rfl⟩ : ∃ V, V = wc := ⟨_, rfl⟩
          have B2 := Lib.hid (below_to B2.out hcut.out)
          have RW := Lib.hid (RW.out.below hcut.out RW.out.lt)
          clear hcut HU LU HT2
          have RS := Lib.hid (RS.out.below B2.out RS.out.lt)
          go_upto_region 19 with (fail)
          go_cut [136, 137, 138] from 132 to 138 (fun sl n i wx => ∃ g', sl = .slice (some ⟨g', 0, none⟩) 2 2 ∧ n = .int .i64 2 ∧ i = .int .i64 0 ∧ Hid (Row wx g' 25 #[.int .i64 ma, .int .i64 mb, .int .i64 p, .int .i64 q]) ∧ Hid (Below V3.heap.size V3 wx))
          case first =>
            as_aux_lemma =>
              have hb0 : Below V3.heap.size V3 V3 := Below.refl _ _
              have s0 : V3.cell? ⟨w.heap.size + 1 + 1 + 1, 0, none⟩ = some (.int .i64 p) := RS.out.cell 0
              have s1 : V3.cell? ⟨w.heap.size + 1 + 1 + 1, 1, none⟩ = some (.int .i64 q) := RS.out.cell 1
              have ls := RS.out.lt
              refine wp_region_noPanic ?_
              refine wp_region_held_drew (S := fun u => Below V3.heap.size V3 u ∧ u.cell? ⟨w.heap.size + 1 + 1 + 1, 0, none⟩ = some (.int .i64 p) ∧ u.cell? ⟨w.heap.size + 1 + 1 + 1, 1, none⟩ = some (.int .i64 q)) (by kernel_rfl) ?_ (fun hHeld => ?_)
              · exact ⟨Below.drew hb0, s0, s1⟩
              refine wpAnyH_take (i := 0) (oi := _) (v := ?_) rfl (by kernel_rfl) (by kernel_rfl) (by kernel_rfl) (fun _ _ _ h => h) (Or.inl ⟨by rfl, ?_⟩) (by assumption) ?_
              rotate_left
              · (intro w hSw; (try dsimp only at hSw); go_simp; all_goals (with_reducible rfl))
              simp only [Act.put, List.getElem_toArray, List.getElem_cons_zero, List.setIfInBounds_toArray, List.set_cons_zero, List.set_cons_succ]
              refine wpAnyH_take (i := 1) (oi := _) (v := ?_) rfl (by kernel_rfl) (by kernel_rfl) (by kernel_rfl) (fun _ _ _ h => h) (Or.inl ⟨by rfl, ?_⟩) (by assumption) ?_
              rotate_left
              · (intro w hSw; (try dsimp only at hSw); go_simp; all_goals (with_reducible rfl))
              simp only [Act.put, List.getElem_toArray, List.getElem_cons_succ, List.getElem_cons_zero, List.setIfInBounds_toArray, List.set_cons_zero, List.set_cons_succ]
              refine wpAnyH_take (i := 3) (oi := _) (v := ?_) rfl (by kernel_rfl) (by kernel_rfl) (by kernel_rfl) (fun _ _ _ h => h) (Or.inl ⟨by rfl, ?_⟩) (by assumption) ?_
              rotate_left
              · (intro w hSw; (try dsimp only at hSw); go_simp; all_goals (with_reducible rfl))
              simp only [Act.put, List.getElem_toArray, List.getElem_cons_succ, List.getElem_cons_zero, List.setIfInBounds_toArray, List.set_cons_zero, List.set_cons_succ]
              refine wpAnyH_take (i := 6) (oi := _) (v := ?_) rfl (by kernel_rfl) (by kernel_rfl) (by kernel_rfl) (fun _ _ _ h => h) (Or.inl ⟨by rfl, ?_⟩) (by assumption) ?_
              rotate_left
              · (intro w hSw; (try dsimp only at hSw); go_simp; all_goals (with_reducible rfl))
              simp only [Act.put, List.getElem_toArray, List.getElem_cons_succ, List.getElem_cons_zero, List.setIfInBounds_toArray, List.set_cons_zero, List.set_cons_succ]
              refine wpAnyH_ready (rs := [2]) (by kernel_rfl) (by simp) ?_
              refine AllReadyH.cons (o := _) rfl (fun K hK => ?_) ?_
              · go_simp
                (go_at_call 13; ((with_reducible refine Calls.mono (SPL.out _) ?_); rintro r u9 ⟨rfl, b5⟩))
                refine hK.out _ _ ?_ (fun hHeld => ?_)
                · (try dsimp only)
                  exact hold2 hHeld b5 ls
                clear hK K
                (try simp only [Act.put, List.setIfInBounds_toArray, List.set_cons_zero, List.set_cons_succ])
                refine wpAnyH_ready (rs := [4]) (by kernel_rfl) (by simp) ?_
                refine AllReadyH.cons (o := _) rfl (fun K hK => ?_) ?_
                · go_simp
                  refine hK.out _ _ ?_ (fun hHeld => ?_)
                  · (try dsimp only)
                    exact hold2a hHeld _ ls
                  clear hK K
                  (try simp only [Act.put, List.setIfInBounds_toArray, List.set_cons_zero, List.set_cons_succ])
                  refine wpAnyH_take (i := 5) (oi := _) (v := ?_) rfl (by kernel_rfl) (by kernel_rfl) (by kernel_rfl) (fun _ _ _ h => h) (Or.inl ⟨by rfl, ?_⟩) (by assumption) ?_
                  rotate_left
                  · (intro w hSw; (try dsimp only at hSw); go_simp; all_goals (with_reducible rfl))
                  simp only [Act.put, List.getElem_toArray, List.getElem_cons_succ, List.getElem_cons_zero, List.setIfInBounds_toArray, List.set_cons_zero, List.set_cons_succ]
                  refine wpAnyH_done (by kernel_rfl) ?_ _
                  refine NoPanic.normal ?_
                  go_wp2_with fail
                  go_meet
                  exact ⟨_, rfl, rfl, rfl, Lib.hid (Row.new _ _ _), Lib.hid hHeld.1⟩
                exact AllReadyH.nil
              exact AllReadyH.nil
          case rest =>
            obtain ⟨V4, rfl⟩ : ∃ V, V = wc := ⟨_, rfl⟩
            obtain ⟨g', rfl, rfl, rfl, RZ, HX⟩ := hcut
            have RW := Lib.hid (RW.out.below HX.out RW.out.lt)
            have B3 := Lib.hid (below_to B2.out HX.out)
            have HZ : Hid (∀ j, j < 2 → ∃ a b : Int, V4.cell? ⟨g', j * 2, none⟩ = some (.int .i64 a) ∧ V4.cell? ⟨g', j * 2 + 1, none⟩ = some (.int .i64 b)) := Lib.hid (fun j hj => by
              rcases (by omega : j = 0 ∨ j = 1) with rfl | rfl
              · exact ⟨_, _, RZ.out.cell 0, RZ.out.cell 1⟩
              · exact ⟨_, _, RZ.out.cell 2, RZ.out.cell 3⟩)
            have LZ := Lib.hid RZ.out.lt
            have HT3 := Lib.hid (HT.out.next B3.out)
            clear RZ HX B2
            go_upto_block 4 with (fail)
            go_cut [138] from 138 to 185 (fun _ wx => Hid (Below V4.heap.size V4 wx))
            case first =>
              as_aux_lemma =>
                go_wp2_with fail
                go_loopw [138] (fun i wr => ∃ j : Nat, i = .int .i64 (j : Int) ∧ j ≤ 2 ∧ Hid (Below V4.heap.size V4 wr)) (fun i _ => 2 - (intOf i).toNat)
                case atStart => exact ⟨0, by go_num, by omega, Lib.hid (Below.refl _ _)⟩
                case round =>
                  obtain ⟨j, rfl, hj, HB⟩ := hrel
                  have RW := Lib.hid (RW.out.below HB.out RW.out.lt)
                  by_cases hj2 : j < 2
                  · obtain ⟨a, b, ca, cb⟩ := HZ.out j hj2
                    replace ca := (HB.out.cell (p := ⟨g', j * 2, none⟩) LZ.out).trans ca
                    replace cb := (HB.out.cell (p := ⟨g', j * 2 + 1, none⟩) LZ.out).trans cb
                    have lgz := Nat.lt_of_lt_of_le LZ.out HB.out.size
                    have HTr := Lib.hid (HT3.out.next HB.out)
                    have W_0 : wr.cell? ⟨g, 0, none⟩ = some (.int .i64 y0) := RW.out.cell 0; have W_1 : wr.cell? ⟨g, 1, none⟩ = some (.int .i64 y1) := RW.out.cell 1; have W_2 : wr.cell? ⟨g, 2, none⟩ = some (.int .i64 y2) := RW.out.cell 2; have W_3 : wr.cell? ⟨g, 3, none⟩ = some (.int .i64 y3) := RW.out.cell 3; have W_4 : wr.cell? ⟨g, 4, none⟩ = some (.int .i64 y4) := RW.out.cell 4; have W_5 : wr.cell? ⟨g, 5, none⟩ = some (.int .i64 y5) := RW.out.cell 5; have W_6 : wr.cell? ⟨g, 6, none⟩ = some (.int .i64 y6) := RW.out.cell 6; have lW := RW.out.lt
                    obtain ⟨LS, e, sa, sb⟩ := b_spells y0 y1 y2 y3 y4 y5 y6 a b
                    obtain ⟨n, e2, na, nb⟩ := b_secs y0 y1 y2 y3 y4 y5 y6 a b
                    have SA1 := Lib.hid sa; have SB1 := Lib.hid sb; have NA := Lib.hid na; have NB := Lib.hid nb
                    clear sa sb na nb
                    have j1 : (0 : Int) ≤ (j : Int) := by omega
                    have j2 : (j : Int) < 2 := by omega
                    go_wp2_with (first | (go_at_call 14; (with_reducible refine Calls.mono (SA1.out _ (HTr.out.next ((Below.refl _ wr).alloc (Nat.le_refl _) _))) ?_); rintro r u31 ⟨A, cp, rfl, hr1, h11, h12, hb⟩; have Bc := Lib.hid (below_to ((Below.refl _ wr).alloc (Nat.le_refl _) _) hb); have sz := Bc.out.size; have RW := Lib.hid ((RW.out.alloc _).below hb (RW.out.alloc _).lt); clear W_0 W_1 W_2 W_3 W_4 W_5 W_6 lW; have W_0 := RW.out.cell 0; have W_1 := RW.out.cell 1; have W_2 := RW.out.cell 2; have W_3 := RW.out.cell 3; have W_4 := RW.out.cell 4; have W_5 := RW.out.cell 5; have W_6 := RW.out.cell 6; have lW := RW.out.lt; have RZ := Lib.hid ((Row.new wr 25 #[.int .i64 a, .int .i64 b]).below hb (Row.new wr 25 #[.int .i64 a, .int .i64 b]).lt); have Z_0 := RZ.out.cell 0; have Z_1 := RZ.out.cell 1; have lZ := RZ.out.lt; have HRA := Lib.hid hr1; clear hr1; clear hb) | (go_at_call 15; (with_reducible refine Calls.mono (SB1.out _) ?_); rintro r u32 ⟨A2, cp2, rfl, hr2, h21, h22, hb⟩; have Bc := Lib.hid (below_to Bc.out hb); have sz := Bc.out.size; have RW := Lib.hid (RW.out.below hb RW.out.lt); clear W_0 W_1 W_2 W_3 W_4 W_5 W_6 lW; have W_0 := RW.out.cell 0; have W_1 := RW.out.cell 1; have W_2 := RW.out.cell 2; have W_3 := RW.out.cell 3; have W_4 := RW.out.cell 4; have W_5 := RW.out.cell 5; have W_6 := RW.out.cell 6; have lW := RW.out.lt; have RZ := Lib.hid (RZ.out.below hb RZ.out.lt); clear Z_0 Z_1 lZ; have Z_0 := RZ.out.cell 0; have Z_1 := RZ.out.cell 1; have lZ := RZ.out.lt; have HRA := Lib.hid (HRA.out.next hb); have HRB := Lib.hid hr2; clear hr2; clear hb) | (go_at_call 16; (with_reducible refine Calls.mono (NA.out _ (HTr.out.next Bc.out)) ?_); rintro r u33 ⟨rfl, hb⟩; have Bc := Lib.hid (below_to Bc.out hb); have sz := Bc.out.size; have RW := Lib.hid (RW.out.below hb RW.out.lt); clear W_0 W_1 W_2 W_3 W_4 W_5 W_6 lW; have W_0 := RW.out.cell 0; have W_1 := RW.out.cell 1; have W_2 := RW.out.cell 2; have W_3 := RW.out.cell 3; have W_4 := RW.out.cell 4; have W_5 := RW.out.cell 5; have W_6 := RW.out.cell 6; have lW := RW.out.lt; have RZ := Lib.hid (RZ.out.below hb RZ.out.lt); clear Z_0 Z_1 lZ; have Z_0 := RZ.out.cell 0; have Z_1 := RZ.out.cell 1; have lZ := RZ.out.lt; have HRA := Lib.hid (HRA.out.next hb); have HRB := Lib.hid (HRB.out.next hb); clear hb) | (go_at_call 17; (with_reducible refine Calls.mono (NB.out _) ?_); rintro r u34 ⟨rfl, hb⟩; have Bc := Lib.hid (below_to Bc.out hb); have sz := Bc.out.size; have RW := Lib.hid (RW.out.below hb RW.out.lt); clear W_0 W_1 W_2 W_3 W_4 W_5 W_6 lW; have W_0 := RW.out.cell 0; have W_1 := RW.out.cell 1; have W_2 := RW.out.cell 2; have W_3 := RW.out.cell 3; have W_4 := RW.out.cell 4; have W_5 := RW.out.cell 5; have W_6 := RW.out.cell 6; have lW := RW.out.lt; have RZ := Lib.hid (RZ.out.below hb RZ.out.lt); clear Z_0 Z_1 lZ; have Z_0 := RZ.out.cell 0; have Z_1 := RZ.out.cell 1; have lZ := RZ.out.lt; have HRA := Lib.hid (HRA.out.next hb); have HRB := Lib.hid (HRB.out.next hb); clear hb) | (go_at_call 18; (with_reducible refine Calls.mono (same_eq _ _ _ _ HRA.out HRB.out) ?_); rintro r u35 ⟨rfl, hb⟩; have Bc := Lib.hid (below_to Bc.out hb); have sz := Bc.out.size; have RW := Lib.hid (RW.out.below hb RW.out.lt); clear W_0 W_1 W_2 W_3 W_4 W_5 W_6 lW; have W_0 := RW.out.cell 0; have W_1 := RW.out.cell 1; have W_2 := RW.out.cell 2; have W_3 := RW.out.cell 3; have W_4 := RW.out.cell 4; have W_5 := RW.out.cell 5; have W_6 := RW.out.cell 6; have lW := RW.out.lt; have RZ := Lib.hid (RZ.out.below hb RZ.out.lt); clear Z_0 Z_1 lZ; have Z_0 := RZ.out.cell 0; have Z_1 := RZ.out.cell 1; have lZ := RZ.out.lt; clear hb))
                    go_roundw
                    case rel => exact ⟨j + 1, by go_num, by omega, Lib.hid (below_to HB.out Bc.out)⟩
                    case measure => simp [intOf]; omega
                  · have jx : ¬ (j : Int) < 2 := by omega
                    go_wp2_with fail
                    go_meet
                    exact HB
            case rest =>
              obtain ⟨V5, rfl⟩ : ∃ V, V = wc := ⟨_, rfl⟩
              have B3 := Lib.hid (below_to B3.out hcut.out)
              have RW := Lib.hid (RW.out.below hcut.out RW.out.lt)
              clear hcut HZ LZ HT3
              have RO := Lib.hid (RO.out.below B3.out RO.out.lt)
              have RR := Lib.hid (RR.out.below B3.out RR.out.lt)
              have O_0 : V5.cell? ⟨u2.heap.size, 0, none⟩ = some (.int .i64 o0) := RO.out.cell 0; have O_1 : V5.cell? ⟨u2.heap.size, 1, none⟩ = some (.int .i64 o1) := RO.out.cell 1; have O_2 : V5.cell? ⟨u2.heap.size, 2, none⟩ = some (.int .i64 o2) := RO.out.cell 2; have O_3 : V5.cell? ⟨u2.heap.size, 3, none⟩ = some (.int .i64 o3) := RO.out.cell 3; have O_4 : V5.cell? ⟨u2.heap.size, 4, none⟩ = some (.int .i64 o4) := RO.out.cell 4; have O_5 : V5.cell? ⟨u2.heap.size, 5, none⟩ = some (.int .i64 o5) := RO.out.cell 5; have O_6 : V5.cell? ⟨u2.heap.size, 6, none⟩ = some (.int .i64 o6) := RO.out.cell 6; have lO := RO.out.lt
              have R_0 : V5.cell? ⟨w.heap.size + 1 + 1, 0, none⟩ = some (.int .i64 r0) := RR.out.cell 0; have R_1 : V5.cell? ⟨w.heap.size + 1 + 1, 1, none⟩ = some (.int .i64 r1) := RR.out.cell 1; have R_2 : V5.cell? ⟨w.heap.size + 1 + 1, 2, none⟩ = some (.int .i64 r2) := RR.out.cell 2; have R_3 : V5.cell? ⟨w.heap.size + 1 + 1, 3, none⟩ = some (.int .i64 r3) := RR.out.cell 3; have R_4 : V5.cell? ⟨w.heap.size + 1 + 1, 4, none⟩ = some (.int .i64 r4) := RR.out.cell 4; have R_5 : V5.cell? ⟨w.heap.size + 1 + 1, 5, none⟩ = some (.int .i64 r5) := RR.out.cell 5; have R_6 : V5.cell? ⟨w.heap.size + 1 + 1, 6, none⟩ = some (.int .i64 r6) := RR.out.cell 6; have lR := RR.out.lt
              go_upto_block 6 with (fail)
              obtain ⟨V6, hV6⟩ : ∃ V6, V5.alloc (.cells #[.int .i64 o0, .int .i64 o1, .int .i64 o2, .int .i64 o3, .int .i64 o4, .int .i64 o5, .int .i64 o6, .int .i64 r0, .int .i64 r1, .int .i64 r2, .int .i64 r3, .int .i64 r4, .int .i64 r5, .int .i64 r6] 23) = V6 := ⟨_, rfl⟩
              have RZ := Lib.hid (show Row V6 V5.heap.size 23 #[.int .i64 o0, .int .i64 o1, .int .i64 o2, .int .i64 o3, .int .i64 o4, .int .i64 o5, .int .i64 o6, .int .i64 r0, .int .i64 r1, .int .i64 r2, .int .i64 r3, .int .i64 r4, .int .i64 r5, .int .i64 r6] by rw [← hV6]; exact Row.new _ _ _)
              have RW := Lib.hid (show Row V6 g 23 #[.int .i64 y0, .int .i64 y1, .int .i64 y2, .int .i64 y3, .int .i64 y4, .int .i64 y5, .int .i64 y6] by rw [← hV6]; exact RW.out.alloc _)
              have B4 := Lib.hid (show Below V0.heap.size V0 V6 by rw [← hV6]; exact B3.out.alloc B3.out.size _)
              rw [hV6]
              obtain ⟨gz, hgz⟩ : ∃ gz, V5.heap.size = gz := ⟨_, rfl⟩
              rw [hgz] at RZ ⊢
              have HZ : Hid (∀ j, j < 2 → ∃ z0 z1 z2 z3 z4 z5 z6 : Int, V6.cell? ⟨gz, j * 7, none⟩ = some (.int .i64 z0) ∧ V6.cell? ⟨gz, j * 7 + 1, none⟩ = some (.int .i64 z1) ∧ V6.cell? ⟨gz, j * 7 + 2, none⟩ = some (.int .i64 z2) ∧ V6.cell? ⟨gz, j * 7 + 3, none⟩ = some (.int .i64 z3) ∧ V6.cell? ⟨gz, j * 7 + 4, none⟩ = some (.int .i64 z4) ∧ V6.cell? ⟨gz, j * 7 + 5, none⟩ = some (.int .i64 z5) ∧ V6.cell? ⟨gz, j * 7 + 6, none⟩ = some (.int .i64 z6)) := Lib.hid (fun j hj => by
                rcases (by omega : j = 0 ∨ j = 1) with rfl | rfl
                · exact ⟨_, _, _, _, _, _, _, RZ.out.cell 0, RZ.out.cell 1, RZ.out.cell 2, RZ.out.cell 3, RZ.out.cell 4, RZ.out.cell 5, RZ.out.cell 6⟩
                · exact ⟨_, _, _, _, _, _, _, RZ.out.cell 7, RZ.out.cell 8, RZ.out.cell 9, RZ.out.cell 10, RZ.out.cell 11, RZ.out.cell 12, RZ.out.cell 13⟩)
              have LZ := Lib.hid RZ.out.lt
              clear hV6 hgz RZ B3 O_0 O_1 O_2 O_3 O_4 O_5 O_6 R_0 R_1 R_2 R_3 R_4 R_5 R_6 lO lR
              go_cut [190] from 190 to 236 (fun _ wx => Hid (Below V6.heap.size V6 wx))
              case first =>
                as_aux_lemma =>
                  go_wp2_with fail
                  go_loopw [190] (fun i wr => ∃ j : Nat, i = .int .i64 (j : Int) ∧ j ≤ 2 ∧ Hid (Below V6.heap.size V6 wr)) (fun i _ => 2 - (intOf i).toNat)
                  case atStart => exact ⟨0, rfl, by omega, Lib.hid (Below.refl _ _)⟩
                  case round =>
                    obtain ⟨j, rfl, hj, HB⟩ := hrel
                    have RW := Lib.hid (RW.out.below HB.out RW.out.lt)
                    by_cases hj2 : j < 2
                    · obtain ⟨z0, z1, z2, z3, z4, z5, z6, c0, c1, c2, c3, c4, c5, c6⟩ := HZ.out j hj2
                      replace c0 := (HB.out.cell (p := ⟨gz, j * 7, none⟩) LZ.out).trans c0
                      replace c1 := (HB.out.cell (p := ⟨gz, j * 7 + 1, none⟩) LZ.out).trans c1
                      replace c2 := (HB.out.cell (p := ⟨gz, j * 7 + 2, none⟩) LZ.out).trans c2
                      replace c3 := (HB.out.cell (p := ⟨gz, j * 7 + 3, none⟩) LZ.out).trans c3
                      replace c4 := (HB.out.cell (p := ⟨gz, j * 7 + 4, none⟩) LZ.out).trans c4
                      replace c5 := (HB.out.cell (p := ⟨gz, j * 7 + 5, none⟩) LZ.out).trans c5
                      replace c6 := (HB.out.cell (p := ⟨gz, j * 7 + 6, none⟩) LZ.out).trans c6
                      have lgz := Nat.lt_of_lt_of_le LZ.out HB.out.size
                      have W_0 : wr.cell? ⟨g, 0, none⟩ = some (.int .i64 y0) := RW.out.cell 0; have W_1 : wr.cell? ⟨g, 1, none⟩ = some (.int .i64 y1) := RW.out.cell 1; have W_2 : wr.cell? ⟨g, 2, none⟩ = some (.int .i64 y2) := RW.out.cell 2; have W_3 : wr.cell? ⟨g, 3, none⟩ = some (.int .i64 y3) := RW.out.cell 3; have W_4 : wr.cell? ⟨g, 4, none⟩ = some (.int .i64 y4) := RW.out.cell 4; have W_5 : wr.cell? ⟨g, 5, none⟩ = some (.int .i64 y5) := RW.out.cell 5; have W_6 : wr.cell? ⟨g, 6, none⟩ = some (.int .i64 y6) := RW.out.cell 6; have lW := RW.out.lt
                      obtain ⟨aa0, aa1, aa2, aa3, aa4, aa5, aa6, ea, ka, kb⟩ := b_and y0 y1 y2 y3 y4 y5 y6 z0 z1 z2 z3 z4 z5 z6
                      have AX := Lib.hid ka; have AY := Lib.hid kb
                      obtain ⟨cc0, cc1, cc2, cc3, cc4, cc5, cc6, ec, kc, kd⟩ := b_or y0 y1 y2 y3 y4 y5 y6 z0 z1 z2 z3 z4 z5 z6
                      have CX := Lib.hid kc; have CY := Lib.hid kd
                      clear ka kb kc kd
                      have j1 : (0 : Int) ≤ (j : Int) := by omega
                      have j2 : (j : Int) < 2 := by omega
                      go_wp2_with (first | (go_at_call 19; (with_reducible refine Calls.mono (AX.out _) ?_); rintro r u41 ⟨rfl, hb⟩; have Bc := Lib.hid (below_to ((Below.refl _ wr).alloc (Nat.le_refl _) _) hb); have sz := Bc.out.size; have RW := Lib.hid ((RW.out.alloc _).below hb (RW.out.alloc _).lt); clear W_0 W_1 W_2 W_3 W_4 W_5 W_6 lW; have W_0 := RW.out.cell 0; have W_1 := RW.out.cell 1; have W_2 := RW.out.cell 2; have W_3 := RW.out.cell 3; have W_4 := RW.out.cell 4; have W_5 := RW.out.cell 5; have W_6 := RW.out.cell 6; have lW := RW.out.lt; have RZ := Lib.hid ((Row.new wr 23 #[.int .i64 z0, .int .i64 z1, .int .i64 z2, .int .i64 z3, .int .i64 z4, .int .i64 z5, .int .i64 z6]).below hb (Row.new wr 23 #[.int .i64 z0, .int .i64 z1, .int .i64 z2, .int .i64 z3, .int .i64 z4, .int .i64 z5, .int .i64 z6]).lt); have Z_0 := RZ.out.cell 0; have Z_1 := RZ.out.cell 1; have Z_2 := RZ.out.cell 2; have Z_3 := RZ.out.cell 3; have Z_4 := RZ.out.cell 4; have Z_5 := RZ.out.cell 5; have Z_6 := RZ.out.cell 6; have lZ := RZ.out.lt; clear hb) | (go_at_call 20; (with_reducible refine Calls.mono (AY.out _) ?_); rintro r u42 ⟨rfl, hb⟩; have Bc := Lib.hid (below_to (Bc.out.alloc Bc.out.size _) hb); have sz := Bc.out.size; have RW := Lib.hid ((RW.out.alloc _).below hb (RW.out.alloc _).lt); clear W_0 W_1 W_2 W_3 W_4 W_5 W_6 lW; have W_0 := RW.out.cell 0; have W_1 := RW.out.cell 1; have W_2 := RW.out.cell 2; have W_3 := RW.out.cell 3; have W_4 := RW.out.cell 4; have W_5 := RW.out.cell 5; have W_6 := RW.out.cell 6; have lW := RW.out.lt; have RZ := Lib.hid ((RZ.out.alloc _).below hb (RZ.out.alloc _).lt); clear Z_0 Z_1 Z_2 Z_3 Z_4 Z_5 Z_6 lZ; have Z_0 := RZ.out.cell 0; have Z_1 := RZ.out.cell 1; have Z_2 := RZ.out.cell 2; have Z_3 := RZ.out.cell 3; have Z_4 := RZ.out.cell 4; have Z_5 := RZ.out.cell 5; have Z_6 := RZ.out.cell 6; have lZ := RZ.out.lt; have RA := Lib.hid ((Row.new u41 23 #[.int .i64 aa0, .int .i64 aa1, .int .i64 aa2, .int .i64 aa3, .int .i64 aa4, .int .i64 aa5, .int .i64 aa6]).below hb (Row.new u41 23 #[.int .i64 aa0, .int .i64 aa1, .int .i64 aa2, .int .i64 aa3, .int .i64 aa4, .int .i64 aa5, .int .i64 aa6]).lt); have A_0 := RA.out.cell 0; have A_1 := RA.out.cell 1; have A_2 := RA.out.cell 2; have A_3 := RA.out.cell 3; have A_4 := RA.out.cell 4; have A_5 := RA.out.cell 5; have A_6 := RA.out.cell 6; have lA := RA.out.lt; clear hb) | (go_at_call 21; (with_reducible refine Calls.mono (CX.out _) ?_); rintro r u43 ⟨rfl, hb⟩; have Bc := Lib.hid (below_to (Bc.out.alloc Bc.out.size _) hb); have sz := Bc.out.size; have RW := Lib.hid ((RW.out.alloc _).below hb (RW.out.alloc _).lt); clear W_0 W_1 W_2 W_3 W_4 W_5 W_6 lW; have W_0 := RW.out.cell 0; have W_1 := RW.out.cell 1; have W_2 := RW.out.cell 2; have W_3 := RW.out.cell 3; have W_4 := RW.out.cell 4; have W_5 := RW.out.cell 5; have W_6 := RW.out.cell 6; have lW := RW.out.lt; have RZ := Lib.hid ((RZ.out.alloc _).below hb (RZ.out.alloc _).lt); clear Z_0 Z_1 Z_2 Z_3 Z_4 Z_5 Z_6 lZ; have Z_0 := RZ.out.cell 0; have Z_1 := RZ.out.cell 1; have Z_2 := RZ.out.cell 2; have Z_3 := RZ.out.cell 3; have Z_4 := RZ.out.cell 4; have Z_5 := RZ.out.cell 5; have Z_6 := RZ.out.cell 6; have lZ := RZ.out.lt; have RA := Lib.hid ((RA.out.alloc _).below hb (RA.out.alloc _).lt); clear A_0 A_1 A_2 A_3 A_4 A_5 A_6 lA; have A_0 := RA.out.cell 0; have A_1 := RA.out.cell 1; have A_2 := RA.out.cell 2; have A_3 := RA.out.cell 3; have A_4 := RA.out.cell 4; have A_5 := RA.out.cell 5; have A_6 := RA.out.cell 6; have lA := RA.out.lt; have RB := Lib.hid ((Row.new u42 23 #[.int .i64 aa0, .int .i64 aa1, .int .i64 aa2, .int .i64 aa3, .int .i64 aa4, .int .i64 aa5, .int .i64 aa6]).below hb (Row.new u42 23 #[.int .i64 aa0, .int .i64 aa1, .int .i64 aa2, .int .i64 aa3, .int .i64 aa4, .int .i64 aa5, .int .i64 aa6]).lt); have B_0 := RB.out.cell 0; have B_1 := RB.out.cell 1; have B_2 := RB.out.cell 2; have B_3 := RB.out.cell 3; have B_4 := RB.out.cell 4; have B_5 := RB.out.cell 5; have B_6 := RB.out.cell 6; have lB := RB.out.lt; clear hb) | (go_at_call 22; (with_reducible refine Calls.mono (CY.out _) ?_); rintro r u44 ⟨rfl, hb⟩; have Bc := Lib.hid (below_to (Bc.out.alloc Bc.out.size _) hb); have sz := Bc.out.size; have RW := Lib.hid ((RW.out.alloc _).below hb (RW.out.alloc _).lt); clear W_0 W_1 W_2 W_3 W_4 W_5 W_6 lW; have W_0 := RW.out.cell 0; have W_1 := RW.out.cell 1; have W_2 := RW.out.cell 2; have W_3 := RW.out.cell 3; have W_4 := RW.out.cell 4; have W_5 := RW.out.cell 5; have W_6 := RW.out.cell 6; have lW := RW.out.lt; have RZ := Lib.hid ((RZ.out.alloc _).below hb (RZ.out.alloc _).lt); clear Z_0 Z_1 Z_2 Z_3 Z_4 Z_5 Z_6 lZ; have Z_0 := RZ.out.cell 0; have Z_1 := RZ.out.cell 1; have Z_2 := RZ.out.cell 2; have Z_3 := RZ.out.cell 3; have Z_4 := RZ.out.cell 4; have Z_5 := RZ.out.cell 5; have Z_6 := RZ.out.cell 6; have lZ := RZ.out.lt; have RA := Lib.hid ((RA.out.alloc _).below hb (RA.out.alloc _).lt); clear A_0 A_1 A_2 A_3 A_4 A_5 A_6 lA; have A_0 := RA.out.cell 0; have A_1 := RA.out.cell 1; have A_2 := RA.out.cell 2; have A_3 := RA.out.cell 3; have A_4 := RA.out.cell 4; have A_5 := RA.out.cell 5; have A_6 := RA.out.cell 6; have lA := RA.out.lt; have RB := Lib.hid ((RB.out.alloc _).below hb (RB.out.alloc _).lt); clear B_0 B_1 B_2 B_3 B_4 B_5 B_6 lB; have B_0 := RB.out.cell 0; have B_1 := RB.out.cell 1; have B_2 := RB.out.cell 2; have B_3 := RB.out.cell 3; have B_4 := RB.out.cell 4; have B_5 := RB.out.cell 5; have B_6 := RB.out.cell 6; have lB := RB.out.lt; have RC := Lib.hid ((Row.new u43 23 #[.int .i64 cc0, .int .i64 cc1, .int .i64 cc2, .int .i64 cc3, .int .i64 cc4, .int .i64 cc5, .int .i64 cc6]).below hb (Row.new u43 23 #[.int .i64 cc0, .int .i64 cc1, .int .i64 cc2, .int .i64 cc3, .int .i64 cc4, .int .i64 cc5, .int .i64 cc6]).lt); have C_0 := RC.out.cell 0; have C_1 := RC.out.cell 1; have C_2 := RC.out.cell 2; have C_3 := RC.out.cell 3; have C_4 := RC.out.cell 4; have C_5 := RC.out.cell 5; have C_6 := RC.out.cell 6; have lC := RC.out.lt; clear hb))
                      go_roundw
                      case rel => exact ⟨j + 1, by go_num, by omega, Lib.hid (below_to HB.out (Bc.out.alloc Bc.out.size _))⟩
                      case measure => simp [intOf]; omega
                    · have jx : ¬ (j : Int) < 2 := by omega
                      go_wp2_with fail
                      go_meet
                      exact HB
              case rest =>
                obtain ⟨V7, rfl⟩ : ∃ V, V = wc := ⟨_, rfl⟩
                have B4 := Lib.hid (below_to B4.out hcut.out)
                have RW := Lib.hid (RW.out.below hcut.out RW.out.lt)
                clear hcut HZ LZ
                have HTr := Lib.hid (HT.out.next B4.out)
                have W_0 : V7.cell? ⟨g, 0, none⟩ = some (.int .i64 y0) := RW.out.cell 0; have W_1 : V7.cell? ⟨g, 1, none⟩ = some (.int .i64 y1) := RW.out.cell 1; have W_2 : V7.cell? ⟨g, 2, none⟩ = some (.int .i64 y2) := RW.out.cell 2; have W_3 : V7.cell? ⟨g, 3, none⟩ = some (.int .i64 y3) := RW.out.cell 3; have W_4 : V7.cell? ⟨g, 4, none⟩ = some (.int .i64 y4) := RW.out.cell 4; have W_5 : V7.cell? ⟨g, 5, none⟩ = some (.int .i64 y5) := RW.out.cell 5; have W_6 : V7.cell? ⟨g, 6, none⟩ = some (.int .i64 y6) := RW.out.cell 6; have lW := RW.out.lt
                obtain ⟨nn0, nn1, nn2, nn3, nn4, nn5, nn6, en, ka, kb⟩ := b_not y0 y1 y2 y3 y4 y5 y6
                obtain ⟨T, et, hTz, pa, pb⟩ := b_print y0 y1 y2 y3 y4 y5 y6
                have NA := Lib.hid ka; have NB := Lib.hid kb; have PA := Lib.hid pa; have PB := Lib.hid pb; have HTZ := Lib.hid hTz
                have hcv0 : ∀ w, Sem.run Tryd.prog (Go.convert 9 48 (.string T)) w = .ok (.slice (some ⟨w.heap.size, 0, none⟩) T.size (grownCap w T.size 0 5)) (w.drew.alloc (.cells (bytesRow T (grownCap w T.size 0 5)) 5 ((bytesRow T (grownCap w T.size 0 5)).size, (bytesRow T (grownCap w T.size 0 5)).size + 1))) := fun w => run_bytes_of_string w 9 48 5 T Tryd.underlying9 Tryd.underlying48 Tryd.underlying5
                obtain ⟨gc, hgc⟩ : ∃ gc : World → Nat, (fun w => grownCap w T.size 0 5) = gc := ⟨_, rfl⟩
                replace hcv0 : ∀ w, Sem.run Tryd.prog (Go.convert 9 48 (.string T)) w = .ok (.slice (some ⟨w.heap.size, 0, none⟩) T.size (gc w)) (w.drew.alloc (.cells (bytesRow T (gc w)) 5 ((bytesRow T (gc w)).size, (bytesRow T (gc w)).size + 1))) := fun w => by rw [← hgc]; exact hcv0 w
                have HCV := Lib.hid hcv0
                clear hgc hcv0 ka kb pa pb hTz
                go_upto_region 45 with (first | (go_at_call 23; (with_reducible refine Calls.mono (NA.out _) ?_); rintro r u51 ⟨rfl, hb⟩; have Bc := Lib.hid (below_to (Below.refl _ V7) hb); have sz := Bc.out.size; have RW := Lib.hid (RW.out.below hb RW.out.lt); clear W_0 W_1 W_2 W_3 W_4 W_5 W_6 lW; have W_0 := RW.out.cell 0; have W_1 := RW.out.cell 1; have W_2 := RW.out.cell 2; have W_3 := RW.out.cell 3; have W_4 := RW.out.cell 4; have W_5 := RW.out.cell 5; have W_6 := RW.out.cell 6; have lW := RW.out.lt; clear hb) | (go_at_call 24; (with_reducible refine Calls.mono (NB.out _) ?_); rintro r u52 ⟨rfl, hb⟩; have Bc := Lib.hid (below_to (Bc.out.alloc Bc.out.size _) hb); have sz := Bc.out.size; have RW := Lib.hid ((RW.out.alloc _).below hb (RW.out.alloc _).lt); clear W_0 W_1 W_2 W_3 W_4 W_5 W_6 lW; have W_0 := RW.out.cell 0; have W_1 := RW.out.cell 1; have W_2 := RW.out.cell 2; have W_3 := RW.out.cell 3; have W_4 := RW.out.cell 4; have W_5 := RW.out.cell 5; have W_6 := RW.out.cell 6; have lW := RW.out.lt; have RA := Lib.hid ((Row.new u51 23 #[.int .i64 nn0, .int .i64 nn1, .int .i64 nn2, .int .i64 nn3, .int .i64 nn4, .int .i64 nn5, .int .i64 nn6]).below hb (Row.new u51 23 #[.int .i64 nn0, .int .i64 nn1, .int .i64 nn2, .int .i64 nn3, .int .i64 nn4, .int .i64 nn5, .int .i64 nn6]).lt); have A_0 := RA.out.cell 0; have A_1 := RA.out.cell 1; have A_2 := RA.out.cell 2; have A_3 := RA.out.cell 3; have A_4 := RA.out.cell 4; have A_5 := RA.out.cell 5; have A_6 := RA.out.cell 6; have lA := RA.out.lt; clear hb) | (go_at_call 25; (with_reducible refine Calls.mono (PA.out _ (HTr.out.next (Bc.out.alloc Bc.out.size _))) ?_); rintro r u53 ⟨rfl, hb⟩; have Bc := Lib.hid (below_to (Bc.out.alloc Bc.out.size _) hb); have sz := Bc.out.size; have RW := Lib.hid ((RW.out.alloc _).below hb (RW.out.alloc _).lt); clear W_0 W_1 W_2 W_3 W_4 W_5 W_6 lW; have W_0 := RW.out.cell 0; have W_1 := RW.out.cell 1; have W_2 := RW.out.cell 2; have W_3 := RW.out.cell 3; have W_4 := RW.out.cell 4; have W_5 := RW.out.cell 5; have W_6 := RW.out.cell 6; have lW := RW.out.lt; have RA := Lib.hid ((RA.out.alloc _).below hb (RA.out.alloc _).lt); clear A_0 A_1 A_2 A_3 A_4 A_5 A_6 lA; have A_0 := RA.out.cell 0; have A_1 := RA.out.cell 1; have A_2 := RA.out.cell 2; have A_3 := RA.out.cell 3; have A_4 := RA.out.cell 4; have A_5 := RA.out.cell 5; have A_6 := RA.out.cell 6; have lA := RA.out.lt; have RB := Lib.hid ((Row.new u52 23 #[.int .i64 nn0, .int .i64 nn1, .int .i64 nn2, .int .i64 nn3, .int .i64 nn4, .int .i64 nn5, .int .i64 nn6]).below hb (Row.new u52 23 #[.int .i64 nn0, .int .i64 nn1, .int .i64 nn2, .int .i64 nn3, .int .i64 nn4, .int .i64 nn5, .int .i64 nn6]).lt); have B_0 := RB.out.cell 0; have B_1 := RB.out.cell 1; have B_2 := RB.out.cell 2; have B_3 := RB.out.cell 3; have B_4 := RB.out.cell 4; have B_5 := RB.out.cell 5; have B_6 := RB.out.cell 6; have lB := RB.out.lt; clear hb) | (go_at_call 26; (with_reducible refine Calls.mono (PB.out _) ?_); rintro r u54 ⟨rfl, hb⟩; have Bc := Lib.hid (below_to Bc.out hb); have sz := Bc.out.size; have RW := Lib.hid (RW.out.below hb RW.out.lt); clear W_0 W_1 W_2 W_3 W_4 W_5 W_6 lW; have W_0 := RW.out.cell 0; have W_1 := RW.out.cell 1; have W_2 := RW.out.cell 2; have W_3 := RW.out.cell 3; have W_4 := RW.out.cell 4; have W_5 := RW.out.cell 5; have W_6 := RW.out.cell 6; have lW := RW.out.lt; have RA := Lib.hid (RA.out.below hb RA.out.lt); clear A_0 A_1 A_2 A_3 A_4 A_5 A_6 lA; have A_0 := RA.out.cell 0; have A_1 := RA.out.cell 1; have A_2 := RA.out.cell 2; have A_3 := RA.out.cell 3; have A_4 := RA.out.cell 4; have A_5 := RA.out.cell 5; have A_6 := RA.out.cell 6; have lA := RA.out.lt; have RB := Lib.hid (RB.out.below hb RB.out.lt); clear B_0 B_1 B_2 B_3 B_4 B_5 B_6 lB; have B_0 := RB.out.cell 0; have B_1 := RB.out.cell 1; have B_2 := RB.out.cell 2; have B_3 := RB.out.cell 3; have B_4 := RB.out.cell 4; have B_5 := RB.out.cell 5; have B_6 := RB.out.cell 6; have lB := RB.out.lt; clear hb))
                have B5 := Lib.hid (below_to B4.out Bc.out)
                have hcv0 := HCV.out
                clear B4 RW RA RB W_0 W_1 W_2 W_3 W_4 W_5 W_6 lW A_0 A_1 A_2 A_3 A_4 A_5 A_6 lA B_0 B_1 B_2 B_3 B_4 B_5 B_6 lB
                go_upto_if 279 with (fail)
                have hR0 := RowB.made u54 T (gc u54)
                obtain ⟨Vc, hVc⟩ : ∃ Vc, u54.alloc (.cells (bytesRow T (gc u54)) 5 ((bytesRow T (gc u54)).size, (bytesRow T (gc u54)).size + 1)) = Vc := ⟨_, rfl⟩
                replace hR0 : RowB Vc u54.heap.size T.data.toList := by rw [← hVc]; exact hR0
                have BV5 := Lib.hid (show Below V0.heap.size V0 Vc by rw [← hVc]; exact B5.out.alloc B5.out.size _)
                have lB : u54.heap.size < Vc.heap.size := by rw [← hVc]; simp
                have hwB := B5.out.size
                rw [hVc]
                have hTl : T.data.toList.length = T.size := by simp
                obtain ⟨gk, hgk⟩ : ∃ gk, gc u54 = gk := ⟨_, rfl⟩
                obtain ⟨BB, hBB⟩ : ∃ BB, u54.heap.size = BB := ⟨_, rfl⟩
                rw [hBB] at lB hwB hR0
                rw [hBB, hgk]
                have HRB := Lib.hid hR0; have HTL := Lib.hid hTl
                have HWB := Lib.hid hwB
                clear hR0 hTl hVc hgk hBB hcv0 HCV hwB B5
                go_cut [60] from 279 to 286 (fun sl wx => sl = .slice (some ⟨BB, 0, none⟩) T.size gk ∧ Hid (∃ l : List UInt8, l.length = T.size ∧ RowB wx BB l ∧ BB < wx.heap.size) ∧ Hid (Below V0.heap.size V0 wx))
                case first =>
                  as_aux_lemma =>
                    have HLB := Lib.hid lB
                    by_cases hz : T.size = 0
                    · have z0 : ¬ 0 < T.size := by omega
                      go_wp2_with fail
                      go_meet
                      exact ⟨rfl, Lib.hid ⟨_, HTL.out, HRB.out, HLB.out⟩, Lib.hid BV5.out.drew⟩
                    · have htz := HTZ.out
                      obtain ⟨kn, hk, hk2⟩ := pick_nat pos (T.size : Int) (by omega)
                      have PK := Lib.hid (fun u => PK3.out (T.size : Int) (by omega) (by omega) u)
                      rw [hk] at PK
                      have hkn : kn < T.size := by omega
                      obtain ⟨c0, f0⟩ := HRB.out kn (by rw [HTL.out]; exact hkn)
                      have HS1 : Hid (RowB (Vc.setCell ⟨BB, kn, none⟩ (.int .u8 (d : Int))) BB (T.data.toList.set kn (UInt8.ofNat d))) := Lib.hid (by
                        have h := HRB.out.set (k := kn) (b := UInt8.ofNat d) (by rw [HTL.out]; exact hkn)
                        rw [HD.out] at h
                        exact h)
                      have HS2 : Hid (Below V0.heap.size V0 (Vc.setCell ⟨BB, kn, none⟩ (.int .u8 (d : Int)))) := Lib.hid (BV5.out.setCell (by dsimp only; exact HWB.out) _)
                      have HS3 : Hid (BB < (Vc.setCell ⟨BB, kn, none⟩ (.int .u8 (d : Int))).heap.size) := Lib.hid (by simpa [World.setCell] using HLB.out)
                      have j1 : (0 : Int) ≤ (kn : Int) := by omega
                      have j2 : (kn : Int) < (T.size : Int) := by omega
                      have z0 : 0 < T.size := by omega
                      clear hz htz hk hk2 hkn
                      go_wp2_with (go_at_call 8; (with_reducible refine Calls.mono (PK.out _) ?_); rintro r u' ⟨rfl, rfl⟩)
                      go_meet
                      exact ⟨rfl, Lib.hid ⟨_, by rw [List.length_set]; exact HTL.out, HS1.out, HS3.out⟩, Lib.hid HS2.out.drew⟩
                case rest =>
                  obtain ⟨rfl, HRL, HBL⟩ := hcut
                  obtain ⟨bl, hbl, hrb, hlb⟩ := HRL.out
                  obtain ⟨M1, hM1⟩ : ∃ M1 : ByteArray, (⟨bl.toArray⟩ : ByteArray) = M1 := ⟨_, rfl⟩
                  have z1 : M1.size ≤ 100000 := by
                    rw [← hM1]; show (List.toArray _).size ≤ _
                    rw [List.size_toArray, hbl]; exact HTZ.out
                  have HZ1 := Lib.hid z1
                  clear HRL BV5 lB HRB
                  go_upto_region 48 with (fail)
                  go_cut [303, 304, 305] from 287 to 305 (fun sb sn si wx => ∃ g', sb = .slice (some ⟨g', 0, none⟩) 4 4 ∧ sn = .int .i64 4 ∧ si = .int .i64 0 ∧ Hid (Row wx g' 9 #[.string T, .string M1, .string CU, .string (T ++ ⟨#[59, 32]⟩ ++ CV)]) ∧ Hid (Below V0.heap.size V0 wx))
                  case first =>
                    as_aux_lemma =>
                      have hmn := KM.out; have hmm := KN.out; have hs1 := KS.out; have hs2 := KT.out
                      have hz1 := HTZ.out; have hz2 := HCZ.out
                      have k1 : ¬ (T.size + 2 > 9223372036854775807) := by omega
                      have k2 : ¬ (9223372036854775807 < T.size + 2) := by omega
                      have k3 : ¬ (T.size + 2 + CV.size > 9223372036854775807) := by omega
                      have k4 : ¬ (9223372036854775807 < T.size + 2 + CV.size) := by omega
                      have hcv : Sem.run Tryd.prog (Go.convert 48 9 (.slice (some ⟨BB, 0, none⟩) T.size gk)) wc.drew = .ok (.string M1) wc.drew := by
                        rw [← hM1]
                        exact RowB.string (w := wc.drew) (B := BB) hrb gk T.size hbl
                      have HB3 := Lib.hid ((HBL.out.drew.alloc HBL.out.size (.cells #[.string T, .string M1, .string CU, .string (T ++ ⟨#[59, 32]⟩ ++ CV)] 9)))
                      have HR3 : Hid (Row (wc.drew.alloc (.cells #[.string T, .string M1, .string CU, .string (T ++ ⟨#[59, 32]⟩ ++ CV)] 9)) wc.heap.size 9 #[.string T, .string M1, .string CU, .string (T ++ ⟨#[59, 32]⟩ ++ CV)]) := Lib.hid (Row.new wc.drew _ _)
                      clear hz1 hz2 z1 hM1 hrb hbl
                      go_region
                      all_goals go_wp2_with fail
                      all_goals go_meet
                      all_goals exact ⟨_, rfl, rfl, rfl, HR3, HB3⟩
                  case rest =>
                    clear hbl hrb hlb hM1 z1 HBL
                    obtain ⟨V8, rfl⟩ : ∃ V, V = wc := ⟨_, rfl⟩
                    obtain ⟨g', rfl, rfl, rfl, HR6, HB6⟩ := hcut
                    have HU4 : Hid (∀ j, j < 4 → ∃ U : ByteArray, V8.cell? ⟨g', j, none⟩ = some (.string U) ∧ U.size ≤ 200000) := Lib.hid (fun j hj => by
                      have hz1 := HTZ.out; have hz2 := HCZ.out; have hz3 := HZ1.out
                      rw [HR6.out.cell]
                      rcases (by omega : j = 0 ∨ j = 1 ∨ j = 2 ∨ j = 3) with rfl | rfl | rfl | rfl
                      · exact ⟨_, rfl, by omega⟩
                      · exact ⟨_, rfl, by omega⟩
                      · exact ⟨_, rfl, by omega⟩
                      · exact ⟨_, rfl, by rw [ByteArray.size_append, ByteArray.size_append]; have : (⟨#[59, 32]⟩ : ByteArray).size = 2 := rfl; omega⟩)
                    have LU4 := Lib.hid HR6.out.lt
                    have HT6 := Lib.hid (HT.out.next HB6.out)
                    clear HR6
                    go_wp2_with fail
                    go_loopw [305] (fun i wr => ∃ j : Nat, i = .int .i64 (j : Int) ∧ j ≤ 4 ∧ Hid (Below V8.heap.size V8 wr)) (fun i _ => 4 - (intOf i).toNat)
                    case atStart => exact ⟨0, by go_num, by omega, Lib.hid (Below.refl _ _)⟩
                    case round =>
                      obtain ⟨j, rfl, hj, HB⟩ := hrel
                      by_cases hj4 : j < 4
                      · obtain ⟨U, cu, hU⟩ := HU4.out j hj4
                        replace cu := (HB.out.cell (p := ⟨g', j, none⟩) LU4.out).trans cu
                        have lgu := Nat.lt_of_lt_of_le LU4.out HB.out.size
                        have HTr := Lib.hid (HT6.out.next HB.out)
                        obtain ⟨z0, z1, z2, z3, z4, z5, z6, n, e, ka, kb⟩ := b_parse U hU
                        have QA := Lib.hid ka; have QB := Lib.hid kb
                        have j1 : (0 : Int) ≤ (j : Int) := by omega
                        have j2 : (j : Int) < 4 := by omega
                        clear ka kb hU
                        go_wp2_with (first | (go_at_call 27; (with_reducible refine Calls.mono (QA.out _ (HTr.out.next (Below.refl _ wr))) ?_); rintro r u61 ⟨rfl, hb⟩; have Bc := Lib.hid (below_to (Below.refl _ wr) hb); have sz := Bc.out.size; clear hb) | (go_at_call 28; (with_reducible refine Calls.mono (QB.out _) ?_); rintro r u62 ⟨rfl, hb⟩; have Bc := Lib.hid (below_to (Bc.out.alloc Bc.out.size _) hb); have sz := Bc.out.size; have RA := Lib.hid ((Row.new u61 23 #[.int .i64 z0, .int .i64 z1, .int .i64 z2, .int .i64 z3, .int .i64 z4, .int .i64 z5, .int .i64 z6]).below hb (Row.new u61 23 #[.int .i64 z0, .int .i64 z1, .int .i64 z2, .int .i64 z3, .int .i64 z4, .int .i64 z5, .int .i64 z6]).lt); have A_0 := RA.out.cell 0; have A_1 := RA.out.cell 1; have A_2 := RA.out.cell 2; have A_3 := RA.out.cell 3; have A_4 := RA.out.cell 4; have A_5 := RA.out.cell 5; have A_6 := RA.out.cell 6; have lA := RA.out.lt; clear hb))
                        go_roundw
                        case rel => exact ⟨j + 1, by go_num, by omega, Lib.hid (below_to HB.out (Bc.out.alloc Bc.out.size _))⟩
                        case measure => simp [intOf]; omega
                      · have jx : ¬ (j : Int) < 4 := by omega
                        have HBE := Lib.hid (below_to HB6.out HB.out)
                        clear HB
                        go_wp2_with fail
                        go_roundw
                        case rel => exact ⟨k + 1, by go_num, by omega, HBE⟩
                        case measure => simp [intOf]; omega
    · obtain rfl : k = 3 := by omega
      go_wp2_with fail
      go_ret
      exact ⟨rfl, below_to BV.out HB.out⟩
end Go.Proofs.YtmfpaankkoaoaaaDoor
