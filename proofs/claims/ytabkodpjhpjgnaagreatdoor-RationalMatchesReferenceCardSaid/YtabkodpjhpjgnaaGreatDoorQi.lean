/- Products and quotients; Add, Sub and Of. -/
import Derived.Test.YtabkodpjhpjgnaaGreatDoorQh
namespace Go.Proofs.YtabkodpjhpjgnaaGreatDoor
open Go.RowKit Go.Shelf

set_option maxRecDepth 100000 in
set_option maxHeartbeats 4000000 in
theorem mulR_any (a1 a2 b1 b2 : List UInt8) (v f : Bool) (hv : (vldR a1 a2 && vldR b1 b2) = v) (s1 s2 t4 t2 : ByteArray) (e1 e2 : Int) (w : World) (ht : TabP w)
    (m1 : v = true → CallT 93 #[strOf a1, strOf b1] (.tuple #[.string s1, .int .i64 e1])) (m2 : v = true → CallT 93 #[strOf a2, strOf b2] (.tuple #[.string s2, .int .i64 e2]))
    (m5 : v = true → (decide (e1 = 0) && decide (e2 = 0)) = true → ∀ u, StepQ u 59 #[] (rvB s1 s2) (rvB t4 t2) f) :
    Calls Tryz.prog 39 #[rv a1 a2, rv b1 b2] w (BuildP (v && (decide (e1 = 0) && decide (e2 = 0)) && f) (rvB t4 t2) w) := by
  have AV : Hid (∀ (v : Value), (∃ A n c, v = .slice A n c) → ∀ w, Calls Tryz.prog 68 #[v] w fun e w' => ∃ gb, e = .returned (.func (.func 91) #[] #[.pointer (some ⟨gb, 0, none⟩)]) ∧ Row w' gb 30 #[v] ∧ Below w.heap.size w w') := Lib.hid areValid_any
  have MU := Lib.hid (multiply_any b1 b2)
  have H0 := Lib.hid (fun (u w1 : World) g gb hr hb h => are2 a1 a2 b1 b2 a1 a2 u w1 g gb hr hb h)
  rw [hv] at H0
  have H1 := Lib.hid (fun (hv : v = true) (u : World) g1 g2 h1 h2 => mul1_step a1 a2 b1 b2 s1 s2 e1 e2 u g1 g2 h1 h2 (m1 hv) (m2 hv))
  have H3 := Lib.hid m5
  have HT := Lib.hid ht
  have E0 : Hid (∀ args w, (callFunc 91 args).run Tryz.prog w = .ok (.enter 91 args) w) := Lib.hid (enters_of Tryz.func91 (by kernel_rfl) rfl)
  have E1 : Hid (∀ args w, (callFunc 92 args).run Tryz.prog w = .ok (.enter 92 args) w) := Lib.hid (enters_of Tryz.func92 (by kernel_rfl) rfl)
  have E3 : Hid (∀ args w, (callFunc 59 args).run Tryz.prog w = .ok (.enter 59 args) w) := Lib.hid (enters_of Tryz.func59 (by kernel_rfl) rfl)
  obtain ⟨F, hF⟩ : ∃ F, (v && (decide (e1 = 0) && decide (e2 = 0)) && f) = F := ⟨_, rfl⟩
  have BU := Lib.hid (fun (u : World) hu t b0 b1 b2 k0 k1 k2 => build3 91 92 59 b0 b1 b2 (bs a1) (bs a2) (bs a1) (bs a2) s1 s2 t4 t2 v (decide (e1 = 0) && decide (e2 = 0)) f u hu t u.heap.size rfl E0.out E1.out E3.out k0 k1 k2)
  rw [hF] at BU ⊢
  clear hv m1 m2 m5 ht hF E0 E1 E3
  unfold rv strOf at *
  generalize bs a1 = A1 at *
  generalize bs a2 = A2 at *
  generalize bs b1 = B1 at *
  generalize bs b2 = B2 at *
  obtain ⟨W, hW, hbw, hx, hy, ho⟩ := boxes3 w A1 A2 B1 B2
  obtain ⟨p0, p1, -, -⟩ := rat_facts hx
  obtain ⟨q0, q1, -, -⟩ := rat_facts hy
  have HL := Lib.hid ho.lt
  have HW := Lib.hid hW; have HB := Lib.hid hbw; have HO := Lib.hid ho
  clear hW hbw hx hy ho
  go_enter Tryz.func39, Tryz.ntmps39
  go_wp2
  rw [HW.out]
  go_region_held3 (fun u => Below w.heap.size w u ∧ w.heap.size + 1 + 1 < u.heap.size ∧ (∃ a b, Row u (w.heap.size + 1 + 1) 23 #[a, b]) ∧ u.cell? ⟨w.heap.size, 0, none⟩ = some (.string A1) ∧ u.cell? ⟨w.heap.size, 1, none⟩ = some (.string A2) ∧ u.cell? ⟨w.heap.size + 1, 0, none⟩ = some (.string B1) ∧ u.cell? ⟨w.heap.size + 1, 1, none⟩ = some (.string B2)) (first | assumption | (exact ⟨HB.out.drew, HL.out, ⟨_, _, HO.out.drew⟩, p0, p1, q0, q1⟩) | (exact hold4 (by assumption) b5) | (exact hold4 (by assumption) (new_below _ _)) | (exact put4 (by assumption))) (first | (go_at_call 68; ((with_reducible refine Calls.mono (AV.out _ ⟨_, _, _, rfl⟩ _) ?_); rintro e w1 ⟨gb, rfl, hr0, b5⟩); have bA := Lib.hid b5; have bW1 := Lib.hid (below_to (below_to HB.out.drew (new_below _ _)) b5); have R0 := Lib.hid hr0; clear hr0) | (go_at_call 69; ((with_reducible refine Calls.mono (MU.out _) ?_); rintro e w2 ⟨g1, g2, rfl, hr1, hr2, b5⟩); have bB := Lib.hid b5; have bW2 := Lib.hid (below_to bW1.out b5); have R1 := Lib.hid hr1; have R2 := Lib.hid hr2; clear hr1 hr2) | (go_at_call 58; ((with_reducible refine Calls.mono (BU.out w2 ?hu _ _ _ _ ?c0 ?c1 ?c2) ?_); (case hu => exact HT.out.next bW2.out); (case c0 => exact (H0.out _ w1 _ gb (Row.new W.drew _ _) bA.out R0.out).next bB.out); (case c1 => exact fun hv => H1.out hv w2 g1 g2 R1.out R2.out); (case c2 => exact fun hv h1 => H3.out hv h1 w2); unfold BuildP; rintro e w5 ⟨S, T, er, rfl, hq, b5⟩); have HQ := Lib.hid hq; have HS5 := Lib.hid (hold4 ‹Below w.heap.size w _ ∧ _ ∧ _ ∧ _ ∧ _ ∧ _ ∧ _› b5); obtain ⟨x5, y5, hr5⟩ := HS5.out.2.2.1; have HO5 := Lib.hid hr5; obtain ⟨o0, o1, f0, f1⟩ := rat_facts HO5.out; clear hq hr5))
  all_goals
    go_wp2
    refine bodyPost_ret (results_rat_tmp rfl _ _ (w.heap.size + 1 + 1) _ _ rfl (rat_row HO5.out)) rfl ?_
    exact ⟨S, T, er, rfl, HQ.out, (HS5.out.1.setCell (by dsimp only; omega) _).setCell (by dsimp only; omega) _⟩
set_option maxRecDepth 100000 in
set_option maxHeartbeats 4000000 in
theorem divR_any (a1 a2 b1 b2 : List UInt8) (v f : Bool) (hv : (vldR a1 a2 && vldR b1 b2) = v) (s1 s2 t4 t2 : ByteArray) (e1 e2 : Int) (w : World) (ht : TabP w)
    (m1 : v = true → CallT 93 #[strOf a1, strOf b2] (.tuple #[.string s1, .int .i64 e1])) (m2 : v = true → CallT 93 #[strOf a2, strOf b1] (.tuple #[.string s2, .int .i64 e2]))
    (m5 : v = true → (decide (e1 = 0) && decide (e2 = 0)) = true → ∀ u, StepQ u 59 #[] (rvB s1 s2) (rvB t4 t2) f) :
    Calls Tryz.prog 45 #[rv a1 a2, rv b1 b2] w (BuildP (v && (decide (e1 = 0) && decide (e2 = 0)) && f) (rvB t4 t2) w) := by
  have AV : Hid (∀ (v : Value), (∃ A n c, v = .slice A n c) → ∀ w, Calls Tryz.prog 68 #[v] w fun e w' => ∃ gb, e = .returned (.func (.func 91) #[] #[.pointer (some ⟨gb, 0, none⟩)]) ∧ Row w' gb 30 #[v] ∧ Below w.heap.size w w') := Lib.hid areValid_any
  have MU := Lib.hid (multiply_any b2 b1)
  have H0 := Lib.hid (fun (u w1 : World) g gb hr hb h => are2 a1 a2 b1 b2 a1 a2 u w1 g gb hr hb h)
  rw [hv] at H0
  have H1 := Lib.hid (fun (hv : v = true) (u : World) g1 g2 h1 h2 => mul1_step a1 a2 b2 b1 s1 s2 e1 e2 u g1 g2 h1 h2 (m1 hv) (m2 hv))
  have H3 := Lib.hid m5
  have HT := Lib.hid ht
  have E0 : Hid (∀ args w, (callFunc 91 args).run Tryz.prog w = .ok (.enter 91 args) w) := Lib.hid (enters_of Tryz.func91 (by kernel_rfl) rfl)
  have E1 : Hid (∀ args w, (callFunc 92 args).run Tryz.prog w = .ok (.enter 92 args) w) := Lib.hid (enters_of Tryz.func92 (by kernel_rfl) rfl)
  have E3 : Hid (∀ args w, (callFunc 59 args).run Tryz.prog w = .ok (.enter 59 args) w) := Lib.hid (enters_of Tryz.func59 (by kernel_rfl) rfl)
  obtain ⟨F, hF⟩ : ∃ F, (v && (decide (e1 = 0) && decide (e2 = 0)) && f) = F := ⟨_, rfl⟩
  have BU := Lib.hid (fun (u : World) hu t b0 b1 b2 k0 k1 k2 => build3 91 92 59 b0 b1 b2 (bs a1) (bs a2) (bs a1) (bs a2) s1 s2 t4 t2 v (decide (e1 = 0) && decide (e2 = 0)) f u hu t u.heap.size rfl E0.out E1.out E3.out k0 k1 k2)
  rw [hF] at BU ⊢
  clear hv m1 m2 m5 ht hF E0 E1 E3
  unfold rv strOf at *
  generalize bs a1 = A1 at *
  generalize bs a2 = A2 at *
  generalize bs b1 = B1 at *
  generalize bs b2 = B2 at *
  obtain ⟨W, hW, hbw, hx, hy, ho⟩ := boxes3 w A1 A2 B1 B2
  obtain ⟨p0, p1, -, -⟩ := rat_facts hx
  obtain ⟨q0, q1, -, -⟩ := rat_facts hy
  have HL := Lib.hid ho.lt
  have HW := Lib.hid hW; have HB := Lib.hid hbw; have HO := Lib.hid ho
  clear hW hbw hx hy ho
  go_enter Tryz.func45, Tryz.ntmps45
  go_wp2
  rw [HW.out]
  go_region_held3 (fun u => Below w.heap.size w u ∧ w.heap.size + 1 + 1 < u.heap.size ∧ (∃ a b, Row u (w.heap.size + 1 + 1) 23 #[a, b]) ∧ u.cell? ⟨w.heap.size, 0, none⟩ = some (.string A1) ∧ u.cell? ⟨w.heap.size, 1, none⟩ = some (.string A2) ∧ u.cell? ⟨w.heap.size + 1, 0, none⟩ = some (.string B1) ∧ u.cell? ⟨w.heap.size + 1, 1, none⟩ = some (.string B2)) (first | assumption | (exact ⟨HB.out.drew, HL.out, ⟨_, _, HO.out.drew⟩, p0, p1, q0, q1⟩) | (exact hold4 (by assumption) b5) | (exact hold4 (by assumption) (new_below _ _)) | (exact put4 (by assumption))) (first | (go_at_call 68; ((with_reducible refine Calls.mono (AV.out _ ⟨_, _, _, rfl⟩ _) ?_); rintro e w1 ⟨gb, rfl, hr0, b5⟩); have bA := Lib.hid b5; have bW1 := Lib.hid (below_to (below_to HB.out.drew (new_below _ _)) b5); have R0 := Lib.hid hr0; clear hr0) | (go_at_call 69; ((with_reducible refine Calls.mono (MU.out _) ?_); rintro e w2 ⟨g1, g2, rfl, hr1, hr2, b5⟩); have bB := Lib.hid b5; have bW2 := Lib.hid (below_to bW1.out b5); have R1 := Lib.hid hr1; have R2 := Lib.hid hr2; clear hr1 hr2) | (go_at_call 58; ((with_reducible refine Calls.mono (BU.out w2 ?hu _ _ _ _ ?c0 ?c1 ?c2) ?_); (case hu => exact HT.out.next bW2.out); (case c0 => exact (H0.out _ w1 _ gb (Row.new W.drew _ _) bA.out R0.out).next bB.out); (case c1 => exact fun hv => H1.out hv w2 g1 g2 R1.out R2.out); (case c2 => exact fun hv h1 => H3.out hv h1 w2); unfold BuildP; rintro e w5 ⟨S, T, er, rfl, hq, b5⟩); have HQ := Lib.hid hq; have HS5 := Lib.hid (hold4 ‹Below w.heap.size w _ ∧ _ ∧ _ ∧ _ ∧ _ ∧ _ ∧ _› b5); obtain ⟨x5, y5, hr5⟩ := HS5.out.2.2.1; have HO5 := Lib.hid hr5; obtain ⟨o0, o1, f0, f1⟩ := rat_facts HO5.out; clear hq hr5))
  all_goals
    go_wp2
    refine bodyPost_ret (results_rat_tmp rfl _ _ (w.heap.size + 1 + 1) _ _ rfl (rat_row HO5.out)) rfl ?_
    exact ⟨S, T, er, rfl, HQ.out, (HS5.out.1.setCell (by dsimp only; omega) _).setCell (by dsimp only; omega) _⟩
set_option maxRecDepth 100000 in
set_option maxHeartbeats 1000000 in
theorem add_of (a1 a2 b1 b2 : List UInt8) (F : Bool) (Y : Value) (w : World) (ht : TabP w)
    (h : ∀ u, TabP u → Calls Tryz.prog 66 #[rv a1 a2, rv b1 b2, .func (.func 67) #[] #[]] u (BuildP F Y u)) :
    Calls Tryz.prog 38 #[rv a1 a2, rv b1 b2] w (BuildP F Y w) := by
  have H := Lib.hid h; have HT := Lib.hid ht
  clear h ht
  unfold rv strOf at *
  generalize bs a1 = A1 at *
  generalize bs a2 = A2 at *
  generalize bs b1 = B1 at *
  generalize bs b2 = B2 at *
  obtain ⟨W, hW, hbw, -, -, ho⟩ := boxes3 w A1 A2 B1 B2
  have HW := Lib.hid hW; have HB := Lib.hid hbw; have HO := Lib.hid ho
  clear hW hbw ho
  go_enter Tryz.func38, Tryz.ntmps38
  go_wp2_with (go_at_call 66; rw [HW.out]; (with_reducible refine Calls.mono (H.out _ (HT.out.next HB.out)) ?_); unfold BuildP; rintro e w1 ⟨S, T, er, rfl, hq, hb1⟩; have HO1 := Lib.hid (HO.out.below hb1 HO.out.lt); have HB1 := Lib.hid (below_to HB.out hb1); have HQ := Lib.hid hq; obtain ⟨o0, o1, f0, f1⟩ := rat_facts HO1.out; clear hb1 hq)
  refine bodyPost_ret (results_rat_tmp rfl _ _ (w.heap.size + 1 + 1) _ _ rfl (rat_row HO1.out)) rfl ?_
  exact ⟨S, T, er, rfl, HQ.out, (HB1.out.setCell (by dsimp only; omega) _).setCell (by dsimp only; omega) _⟩
set_option maxRecDepth 100000 in
set_option maxHeartbeats 1000000 in
theorem sub_of (a1 a2 b1 b2 : List UInt8) (F : Bool) (Y : Value) (w : World) (ht : TabP w)
    (h : ∀ u, TabP u → Calls Tryz.prog 66 #[rv a1 a2, rv b1 b2, .func (.func 70) #[] #[]] u (BuildP F Y u)) :
    Calls Tryz.prog 40 #[rv a1 a2, rv b1 b2] w (BuildP F Y w) := by
  have H := Lib.hid h; have HT := Lib.hid ht
  clear h ht
  unfold rv strOf at *
  generalize bs a1 = A1 at *
  generalize bs a2 = A2 at *
  generalize bs b1 = B1 at *
  generalize bs b2 = B2 at *
  obtain ⟨W, hW, hbw, -, -, ho⟩ := boxes3 w A1 A2 B1 B2
  have HW := Lib.hid hW; have HB := Lib.hid hbw; have HO := Lib.hid ho
  clear hW hbw ho
  go_enter Tryz.func40, Tryz.ntmps40
  go_wp2_with (go_at_call 66; rw [HW.out]; (with_reducible refine Calls.mono (H.out _ (HT.out.next HB.out)) ?_); unfold BuildP; rintro e w1 ⟨S, T, er, rfl, hq, hb1⟩; have HO1 := Lib.hid (HO.out.below hb1 HO.out.lt); have HB1 := Lib.hid (below_to HB.out hb1); have HQ := Lib.hid hq; obtain ⟨o0, o1, f0, f1⟩ := rat_facts HO1.out; clear hb1 hq)
  refine bodyPost_ret (results_rat_tmp rfl _ _ (w.heap.size + 1 + 1) _ _ rfl (rat_row HO1.out)) rfl ?_
  exact ⟨S, T, er, rfl, HQ.out, (HB1.out.setCell (by dsimp only; omega) _).setCell (by dsimp only; omega) _⟩
theorem of_of (n d : Int) (F : Bool) (Y : Value) (w : World) (ht : TabP w) (h0 : -9223372036854775808 ≤ n) (h1 : n ≤ 9223372036854775807) (d0 : -9223372036854775808 ≤ d) (d1 : d ≤ 9223372036854775807)
    (h : ∀ u, TabP u → Calls Tryz.prog 27 #[strOf (Lib.itoa n), strOf (Lib.itoa d)] u (BuildP F Y u)) :
    Calls Tryz.prog 31 #[.int .i64 n, .int .i64 d] w (BuildP F Y w) := by
  have H := Lib.hid h; have HT := Lib.hid ht
  have F1 := Lib.hid (fun u hu => fromInt_ok n u hu h0 h1)
  have F2 := Lib.hid (fun u hu => fromInt_ok d u hu d0 d1)
  clear h ht h0 h1 d0 d1
  have ho := Row.new w 23 #[.string ⟨#[]⟩, .string ⟨#[]⟩]
  have HO := Lib.hid ho
  have HB := Lib.hid (new_below w (.cells #[.string ⟨#[]⟩, .string ⟨#[]⟩] 23))
  clear ho
  unfold strOf at *
  generalize bs (Lib.itoa n) = P at *
  generalize bs (Lib.itoa d) = Q at *
  go_enter Tryz.func31, Tryz.ntmps31
  go_wp2_with (first | (go_at_call 64; (with_reducible refine Calls.mono (F1.out _ (HT.out.next HB.out)) ?_); rintro e w1 ⟨rfl, hb1⟩; replace HO := Lib.hid (HO.out.below hb1 HO.out.lt); replace HB := Lib.hid (below_to HB.out hb1); clear hb1) | (go_at_call 64; (with_reducible refine Calls.mono (F2.out _ (HT.out.next HB.out)) ?_); rintro e w2 ⟨rfl, hb1⟩; replace HO := Lib.hid (HO.out.below hb1 HO.out.lt); replace HB := Lib.hid (below_to HB.out hb1); clear hb1) | (go_at_call 27; (with_reducible refine Calls.mono (H.out _ (HT.out.next HB.out)) ?_); unfold BuildP; rintro e w3 ⟨S, T, er, rfl, hq, hb1⟩; replace HO := Lib.hid (HO.out.below hb1 HO.out.lt); replace HB := Lib.hid (below_to HB.out hb1); have HQ := Lib.hid hq; obtain ⟨o0, o1, f0, f1⟩ := rat_facts HO.out; clear hb1 hq))
  refine bodyPost_ret (results_rat_tmp rfl _ _ w.heap.size _ _ rfl (rat_row HO.out)) rfl ?_
  exact ⟨S, T, er, rfl, HQ.out, (HB.out.setCell (by dsimp only; omega) _).setCell (by dsimp only; omega) _⟩
end Go.Proofs.YtabkodpjhpjgnaaGreatDoor
