/- The long walk of RationalTextMatchesReference. -/
import Derived.Test.YtabkodpjhpjgnaaGreatDoorX8a
namespace Go.Proofs.YtabkodpjhpjgnaaGreatDoor
open Go.RowKit Go.Shelf

/-- What both sides say of one fraction, and of one text. -/
def AlikeF (E F : ByteArray) : Prop := ∃ (P S T : ByteArray) (er : Int) (v : Bool), CallT 33 #[rvB E F] (.string P) ∧ CallT 34 #[.string P] (.tuple #[rvB S T, .int .i64 er]) ∧ CallT 35 #[rvB E F] (.string P) ∧ CallT 29 #[rvB E F] (.bool v) ∧
  ((v = true ∧ er = 0 ∧ E = S ∧ F = T ∧ (P.toList == []) = false ∧ ¬ P.toList = []) ∨ (v = false ∧ er = 40 ∧ P = ⟨#[]⟩ ∧ S = ⟨#[]⟩ ∧ T = ⟨#[]⟩))
def AlikeT (U : ByteArray) : Prop := ∃ (S T : ByteArray) (er : Int), CallT 34 #[.string U] (.tuple #[rvB S T, .int .i64 er]) ∧ CallT 36 #[.string U] (.tuple #[rvB S T, .int .i64 er]) ∧ ((er = 0 ∧ CallT 33 #[rvB S T] (.string U)) ∨ er = 40)
theorem Rws.put {u : World} {l : List (Nat × TypeId × Array Value)} {g : Nat} {t : TypeId} {cs : Array Value} (h : Rws u l) (hr : Row u g t cs) : Rws u ((g, t, cs) :: l) := fun x hx => by
  rcases List.mem_cons.1 hx with rfl | hx
  · exact hr
  · exact h x hx
set_option maxRecDepth 100000 in
set_option maxHeartbeats 16000000 in
theorem text_core (s t raw L R NM DM TX CU M2 A1 B1 Z1 : ByteArray) (a0 a1 a2 a3 pos cc : Int) (kn kr : Nat)
    (C1 : CallT 12 #[rvB s t] (rvB L R))
    (C2 : CallT 13 #[.agg #[.int .i64 a0, .int .i64 a1, .int .i64 a2, .int .i64 a3]] (rvB NM DM))
    (C3 : AlikeF L R) (C4 : AlikeF NM DM)
    (C5 : CallT 35 #[rvB NM DM] (.string TX)) (hTX : (TX.toList == []) = false ∧ ¬ TX.toList = [])
    (C6 : ∀ w, Calls Tryz.prog 22 #[.int .i64 pos, .int .i64 (TX.size : Int)] w fun e w' => e = .returned (.int .i64 (kn : Int)) ∧ w = w')
    (C7 : AlikeT CU) (C8 : AlikeT M2)
    (C9 : ∀ w, (Builtin.min_ #[3, 3] 3 #[.int .i64 (raw.size : Int), .int .i64 420]).run Tryz.prog w = .ok (.int .i64 (kr : Int)) w)
    (C10 : ∀ w, (Instr.slice 9 (.string raw) none (some (.int .i64 (kr : Int))) none).run Tryz.prog w = .ok (.string CU) w)
    (C11 : ∀ w, (Instr.slice 9 (.string TX) none (some (.int .i64 (kn : Int))) none).run Tryz.prog w = .ok (.string A1) w)
    (C12 : ∀ w, (Instr.slice 9 (.string TX) (some (.int .i64 ((kn : Int) + 1))) none none).run Tryz.prog w = .ok (.string B1) w)
    (C13 : ∀ w : World, Sem.run Tryz.prog (Go.convert 48 9 (.slice (some ⟨w.heap.size, 0, none⟩) 1 1)) (w.alloc (.cells #[.int .u8 cc] 5)) = .ok (.string Z1) (w.alloc (.cells #[.int .u8 cc] 5)))
    (C14 : A1 ++ Z1 ++ B1 = M2) (hs : A1.size ≤ 1000000 ∧ Z1.size = 1 ∧ B1.size ≤ 1000000) (hkn : kn ≤ 1000000) (w : World) (ht : TabP w) :
    Calls Tryz.prog 4 #[rvB s t, .agg #[.int .i64 a0, .int .i64 a1, .int .i64 a2, .int .i64 a3], .int .i64 pos, .int .u8 cc, .string raw] w fun e w' => e = .returned (.bool true) ∧ Below w.heap.size w w' := by
  have K1 := Lib.hid C1
  have K2 := Lib.hid C2
  have K3 := Lib.hid C3
  have K4 := Lib.hid C4
  have K5 := Lib.hid C5
  have K6 := Lib.hid C6
  have K7 := Lib.hid C7
  have K8 := Lib.hid C8
  have K9 := Lib.hid C9
  have K10 := Lib.hid C10
  have K11 := Lib.hid C11
  have K12 := Lib.hid C12
  have K13 := Lib.hid C13
  have K14 := Lib.hid C14
  have HTX := Lib.hid hTX
  have SA := Lib.hid sane_c
  have HT := Lib.hid ht
  clear C1 C2 C3 C4 C5 C6 C7 C8 C9 C10 C11 C12 C13 C14 ht hTX
  obtain ⟨W0, hW0⟩ : ∃ W0, (w.alloc (.cells #[.string s, .string t] 23)).alloc (.cells #[.int .i64 a0, .int .i64 a1, .int .i64 a2, .int .i64 a3] 24) = W0 := ⟨_, rfl⟩
  have hr : Rws W0 [(w.heap.size + 1, 24, #[.int .i64 a0, .int .i64 a1, .int .i64 a2, .int .i64 a3]), (w.heap.size, 23, #[.string s, .string t])] := by
    rw [← hW0]
    have h := ((Rws.nil w).cons 23 #[.string s, .string t]).cons 24 #[.int .i64 a0, .int .i64 a1, .int .i64 a2, .int .i64 a3]
    simp only [World.size_alloc] at h
    exact h
  have hb : Below w.heap.size w W0 := by rw [← hW0]; exact ((Below.refl _ _).alloc (Nat.le_refl _) _).alloc (by simp) _
  have HW0 := Lib.hid hW0; have HR := Lib.hid hr; have HB := Lib.hid hb
  clear hW0 hr hb
  unfold rvB at *
  go_enter Tryz.func4, Tryz.ntmps4
  go_upto_region 3 with (first | (go_at_call 11; rw [HW0.out]; (with_reducible refine Calls.mono (SA.out _ (HT.out.next HB.out)) ?_); rintro e w1 ⟨rfl, hb⟩; have hq := HR.out.below hb; have x0_0 : w1.cell? ⟨w.heap.size + 1, 0, none⟩ = some (.int .i64 a0) := (hq.at (x := (w.heap.size + 1, 24, #[.int .i64 a0, .int .i64 a1, .int .i64 a2, .int .i64 a3])) 0 rfl).cell 0; have x0_1 : w1.cell? ⟨w.heap.size + 1, 1, none⟩ = some (.int .i64 a1) := (hq.at (x := (w.heap.size + 1, 24, #[.int .i64 a0, .int .i64 a1, .int .i64 a2, .int .i64 a3])) 0 rfl).cell 1; have x0_2 : w1.cell? ⟨w.heap.size + 1, 2, none⟩ = some (.int .i64 a2) := (hq.at (x := (w.heap.size + 1, 24, #[.int .i64 a0, .int .i64 a1, .int .i64 a2, .int .i64 a3])) 0 rfl).cell 2; have x0_3 : w1.cell? ⟨w.heap.size + 1, 3, none⟩ = some (.int .i64 a3) := (hq.at (x := (w.heap.size + 1, 24, #[.int .i64 a0, .int .i64 a1, .int .i64 a2, .int .i64 a3])) 0 rfl).cell 3; have y0 : w.heap.size + 1 < w1.heap.size := (hq.at (x := (w.heap.size + 1, 24, #[.int .i64 a0, .int .i64 a1, .int .i64 a2, .int .i64 a3])) 0 rfl).lt; have x1_0 : w1.cell? ⟨w.heap.size, 0, none⟩ = some (.string s) := (hq.at (x := (w.heap.size, 23, #[.string s, .string t])) 1 rfl).cell 0; have x1_1 : w1.cell? ⟨w.heap.size, 1, none⟩ = some (.string t) := (hq.at (x := (w.heap.size, 23, #[.string s, .string t])) 1 rfl).cell 1; have y1 : w.heap.size < w1.heap.size := (hq.at (x := (w.heap.size, 23, #[.string s, .string t])) 1 rfl).lt; replace HR := Lib.hid hq; replace HB := Lib.hid (below_to HB.out hb); clear hb hq) | (go_at_call 13; (with_reducible refine Calls.mono (K2.out _ (HT.out.next HB.out)) ?_); rintro e w2 ⟨rfl, hb⟩; have hq := HR.out.below hb; clear x0_0 x0_1 x0_2 x0_3 y0 x1_0 x1_1 y1; have x0_0 : w2.cell? ⟨w.heap.size + 1, 0, none⟩ = some (.int .i64 a0) := (hq.at (x := (w.heap.size + 1, 24, #[.int .i64 a0, .int .i64 a1, .int .i64 a2, .int .i64 a3])) 0 rfl).cell 0; have x0_1 : w2.cell? ⟨w.heap.size + 1, 1, none⟩ = some (.int .i64 a1) := (hq.at (x := (w.heap.size + 1, 24, #[.int .i64 a0, .int .i64 a1, .int .i64 a2, .int .i64 a3])) 0 rfl).cell 1; have x0_2 : w2.cell? ⟨w.heap.size + 1, 2, none⟩ = some (.int .i64 a2) := (hq.at (x := (w.heap.size + 1, 24, #[.int .i64 a0, .int .i64 a1, .int .i64 a2, .int .i64 a3])) 0 rfl).cell 2; have x0_3 : w2.cell? ⟨w.heap.size + 1, 3, none⟩ = some (.int .i64 a3) := (hq.at (x := (w.heap.size + 1, 24, #[.int .i64 a0, .int .i64 a1, .int .i64 a2, .int .i64 a3])) 0 rfl).cell 3; have y0 : w.heap.size + 1 < w2.heap.size := (hq.at (x := (w.heap.size + 1, 24, #[.int .i64 a0, .int .i64 a1, .int .i64 a2, .int .i64 a3])) 0 rfl).lt; have x1_0 : w2.cell? ⟨w.heap.size, 0, none⟩ = some (.string s) := (hq.at (x := (w.heap.size, 23, #[.string s, .string t])) 1 rfl).cell 0; have x1_1 : w2.cell? ⟨w.heap.size, 1, none⟩ = some (.string t) := (hq.at (x := (w.heap.size, 23, #[.string s, .string t])) 1 rfl).cell 1; have y1 : w.heap.size < w2.heap.size := (hq.at (x := (w.heap.size, 23, #[.string s, .string t])) 1 rfl).lt; replace hq := hq.cons 23 #[.string NM, .string DM]; (try simp only [World.size_alloc] at hq); replace HR := Lib.hid hq; replace HB := Lib.hid (below_to (below_to HB.out hb) (new_below _ (.cells #[.string NM, .string DM] 23))); clear hb hq))
  obtain ⟨V2, hV2⟩ : ∃ W0, w2.alloc (.cells #[.string NM, .string DM] 23) = W0 := ⟨_, rfl⟩
  rw [hV2] at HR HB ⊢
  clear hV2
  go_cut [32, 33, 34] (fun sb sn si wx => ∃ g, sb = .slice (some ⟨g, 0, none⟩) 2 2 ∧ sn = .int .i64 2 ∧ si = .int .i64 0 ∧ Hid (Rws wx [(g, 23, #[.string L, .string R, .string NM, .string DM]), (w2.heap.size, 23, #[.string NM, .string DM]), (w.heap.size + 1, 24, #[.int .i64 a0, .int .i64 a1, .int .i64 a2, .int .i64 a3]), (w.heap.size, 23, #[.string s, .string t])]) ∧ Hid (Below w.heap.size w wx))
  case first =>
    have mkS : Hid (∀ u, Below w.heap.size w u → Rws u [(w2.heap.size, 23, #[.string NM, .string DM]), (w.heap.size + 1, 24, #[.int .i64 a0, .int .i64 a1, .int .i64 a2, .int .i64 a3]), (w.heap.size, 23, #[.string s, .string t])] → Below w.heap.size w u ∧ Rws u [(w2.heap.size, 23, #[.string NM, .string DM]), (w.heap.size + 1, 24, #[.int .i64 a0, .int .i64 a1, .int .i64 a2, .int .i64 a3]), (w.heap.size, 23, #[.string s, .string t])] ∧ u.cell? ⟨w.heap.size, 0, none⟩ = some (.string s) ∧ u.cell? ⟨w.heap.size, 1, none⟩ = some (.string t) ∧ u.cell? ⟨w2.heap.size, 0, none⟩ = some (.string NM) ∧ u.cell? ⟨w2.heap.size, 1, none⟩ = some (.string DM)) := Lib.hid (fun u h1 h2 => ⟨h1, h2, (h2.at (x := (w.heap.size, 23, #[.string s, .string t])) 2 rfl).cell 0, (h2.at (x := (w.heap.size, 23, #[.string s, .string t])) 2 rfl).cell 1, (h2.at (x := (w2.heap.size, 23, #[.string NM, .string DM])) 0 rfl).cell 0, (h2.at (x := (w2.heap.size, 23, #[.string NM, .string DM])) 0 rfl).cell 1⟩)
    go_region_held3 (fun u => Below w.heap.size w u ∧ Rws u [(w2.heap.size, 23, #[.string NM, .string DM]), (w.heap.size + 1, 24, #[.int .i64 a0, .int .i64 a1, .int .i64 a2, .int .i64 a3]), (w.heap.size, 23, #[.string s, .string t])] ∧ u.cell? ⟨w.heap.size, 0, none⟩ = some (.string s) ∧ u.cell? ⟨w.heap.size, 1, none⟩ = some (.string t) ∧ u.cell? ⟨w2.heap.size, 0, none⟩ = some (.string NM) ∧ u.cell? ⟨w2.heap.size, 1, none⟩ = some (.string DM)) (first | assumption | (exact mkS.out _ HB.out.drew HR.out.drew) | (exact mkS.out _ (below_to (‹Below w.heap.size w _ ∧ Rws _ _ ∧ _ ∧ _ ∧ _ ∧ _›).1 b5) ((‹Below w.heap.size w _ ∧ Rws _ _ ∧ _ ∧ _ ∧ _ ∧ _›).2.1.below b5)) | (exact mkS.out _ (below_to (‹Below w.heap.size w _ ∧ Rws _ _ ∧ _ ∧ _ ∧ _ ∧ _›).1 (new_below _ _)) ((‹Below w.heap.size w _ ∧ Rws _ _ ∧ _ ∧ _ ∧ _ ∧ _›).2.1.below (new_below _ _)))) (first | (go_at_call 12; ((with_reducible refine Calls.mono (K1.out _ ?hu) ?_); (case hu => exact HT.out.next (‹Below w.heap.size w _ ∧ Rws _ _ ∧ _ ∧ _ ∧ _ ∧ _›).1); rintro e v1 ⟨rfl, b5⟩)))
    all_goals
      have HX := Lib.hid (‹Below w.heap.size w _ ∧ Rws _ _ ∧ _ ∧ _ ∧ _ ∧ _›)
      go_wp2_with fail
      go_meet
      exact ⟨_, rfl, rfl, rfl, Lib.hid (Rws.put HX.out.2.1 (Row.new v1 _ _)), Lib.hid HX.out.1⟩
  case rest =>
    obtain ⟨g, rfl, rfl, rfl, HR6, HB6⟩ := hcut
    replace HR := HR6
    replace HB := HB6
    clear HR6 HB6 HW0 SA K1 K2
    go_wp2_with fail
    go_loopw [34] (fun i wr => ∃ k : Nat, k ≤ 2 ∧ i = .int .i64 (k : Int) ∧ Hid (Rws wr [(g, 23, #[.string L, .string R, .string NM, .string DM]), (w2.heap.size, 23, #[.string NM, .string DM]), (w.heap.size + 1, 24, #[.int .i64 a0, .int .i64 a1, .int .i64 a2, .int .i64 a3]), (w.heap.size, 23, #[.string s, .string t])]) ∧ Hid (Below w.heap.size w wr)) (fun i _ => 2 - (intOf i).toNat)
    case atStart => exact ⟨0, by omega, by go_num, HR, HB⟩
    case round =>
      clear HR HB
      obtain ⟨k, hk, rfl, HR, HB⟩ := hrel
      by_cases hlt : k < 2
      · obtain ⟨E, F, d0, d1, HA⟩ : ∃ E F, wr.cell? ⟨g, k * 2, none⟩ = some (.string E) ∧ wr.cell? ⟨g, k * 2 + 1, none⟩ = some (.string F) ∧ AlikeF E F := by
          have hrow := HR.out.at (x := (g, 23, #[.string L, .string R, .string NM, .string DM])) 0 rfl
          rw [hrow.cell, hrow.cell]
          rcases (by omega : k = 0 ∨ k = 1) with rfl | rfl
          · exact ⟨_, _, rfl, rfl, K3.out⟩
          · exact ⟨_, _, rfl, rfl, K4.out⟩
        obtain ⟨P, S, T, er, v, p1, p2, p3, p4, hv⟩ := HA
        have PA := Lib.hid p1; have QA := Lib.hid p2; have RA := Lib.hid p3; have VA := Lib.hid p4
        clear p1 p2 p3 p4
        unfold rvB at *
        go_upto_region 6 with (fail)
        replace HR := Lib.hid (HR.out.cons 23 #[.string E, .string F])
        replace HB := Lib.hid (below_to HB.out (new_below _ (.cells #[.string E, .string F] 23)))
        obtain ⟨V5, hV5⟩ : ∃ W0, wr.alloc (.cells #[.string E, .string F] 23) = W0 := ⟨_, rfl⟩
        rw [hV5] at HR HB ⊢
        clear hV5
        clear d0 d1
        have x0_0 : V5.cell? ⟨wr.heap.size, 0, none⟩ = some (.string E) := (HR.out.at (x := (wr.heap.size, 23, #[.string E, .string F])) 0 rfl).cell 0
        have x0_1 : V5.cell? ⟨wr.heap.size, 1, none⟩ = some (.string F) := (HR.out.at (x := (wr.heap.size, 23, #[.string E, .string F])) 0 rfl).cell 1
        have y0 : wr.heap.size < V5.heap.size := (HR.out.at (x := (wr.heap.size, 23, #[.string E, .string F])) 0 rfl).lt
        go_upto_region 8 with (first | (go_at_call 33; (with_reducible refine Calls.mono (PA.out _ (HT.out.next HB.out)) ?_); rintro e wa ⟨rfl, hb⟩; have hq := HR.out.below hb; clear x0_0 x0_1 y0; have x0_0 : wa.cell? ⟨wr.heap.size, 0, none⟩ = some (.string E) := (hq.at (x := (wr.heap.size, 23, #[.string E, .string F])) 0 rfl).cell 0; have x0_1 : wa.cell? ⟨wr.heap.size, 1, none⟩ = some (.string F) := (hq.at (x := (wr.heap.size, 23, #[.string E, .string F])) 0 rfl).cell 1; have y0 : wr.heap.size < wa.heap.size := (hq.at (x := (wr.heap.size, 23, #[.string E, .string F])) 0 rfl).lt; replace HR := Lib.hid hq; replace HB := Lib.hid (below_to HB.out hb); clear hb hq) | (go_at_call 34; (with_reducible refine Calls.mono (QA.out _ (HT.out.next HB.out)) ?_); rintro e wb ⟨rfl, hb⟩; have hq := HR.out.below hb; clear x0_0 x0_1 y0; have x0_0 : wb.cell? ⟨wr.heap.size, 0, none⟩ = some (.string E) := (hq.at (x := (wr.heap.size, 23, #[.string E, .string F])) 0 rfl).cell 0; have x0_1 : wb.cell? ⟨wr.heap.size, 1, none⟩ = some (.string F) := (hq.at (x := (wr.heap.size, 23, #[.string E, .string F])) 0 rfl).cell 1; have y0 : wr.heap.size < wb.heap.size := (hq.at (x := (wr.heap.size, 23, #[.string E, .string F])) 0 rfl).lt; replace hq := hq.cons 23 #[.string S, .string T]; (try simp only [World.size_alloc] at hq); replace HR := Lib.hid hq; replace HB := Lib.hid (below_to (below_to HB.out hb) (new_below _ (.cells #[.string S, .string T] 23))); clear hb hq))
        obtain ⟨V7, hV7⟩ : ∃ W0, wb.alloc (.cells #[.string S, .string T] 23) = W0 := ⟨_, rfl⟩
        rw [hV7] at HR HB ⊢
        clear hV7
        clear x0_0 x0_1 y0
        have x0_0 : V7.cell? ⟨wb.heap.size, 0, none⟩ = some (.string S) := (HR.out.at (x := (wb.heap.size, 23, #[.string S, .string T])) 0 rfl).cell 0
        have x0_1 : V7.cell? ⟨wb.heap.size, 1, none⟩ = some (.string T) := (HR.out.at (x := (wb.heap.size, 23, #[.string S, .string T])) 0 rfl).cell 1
        have y0 : wb.heap.size < V7.heap.size := (HR.out.at (x := (wb.heap.size, 23, #[.string S, .string T])) 0 rfl).lt
        have x1_0 : V7.cell? ⟨wr.heap.size, 0, none⟩ = some (.string E) := (HR.out.at (x := (wr.heap.size, 23, #[.string E, .string F])) 1 rfl).cell 0
        have x1_1 : V7.cell? ⟨wr.heap.size, 1, none⟩ = some (.string F) := (HR.out.at (x := (wr.heap.size, 23, #[.string E, .string F])) 1 rfl).cell 1
        have y1 : wr.heap.size < V7.heap.size := (HR.out.at (x := (wr.heap.size, 23, #[.string E, .string F])) 1 rfl).lt
        rcases hv with ⟨rfl, rfl, rfl, rfl, hp, hp2⟩ | ⟨rfl, rfl, rfl, rfl, rfl⟩
        · go_wp2_with (first | (go_at_call 35; (with_reducible refine Calls.mono (RA.out _ (HT.out.next HB.out)) ?_); rintro e wd ⟨rfl, hb⟩; have hq := HR.out.below hb; clear x0_0 x0_1 y0 x1_0 x1_1 y1; have x0_0 : wd.cell? ⟨wb.heap.size, 0, none⟩ = some (.string E) := (hq.at (x := (wb.heap.size, 23, #[.string E, .string F])) 0 rfl).cell 0; have x0_1 : wd.cell? ⟨wb.heap.size, 1, none⟩ = some (.string F) := (hq.at (x := (wb.heap.size, 23, #[.string E, .string F])) 0 rfl).cell 1; have y0 : wb.heap.size < wd.heap.size := (hq.at (x := (wb.heap.size, 23, #[.string E, .string F])) 0 rfl).lt; have x1_0 : wd.cell? ⟨wr.heap.size, 0, none⟩ = some (.string E) := (hq.at (x := (wr.heap.size, 23, #[.string E, .string F])) 1 rfl).cell 0; have x1_1 : wd.cell? ⟨wr.heap.size, 1, none⟩ = some (.string F) := (hq.at (x := (wr.heap.size, 23, #[.string E, .string F])) 1 rfl).cell 1; have y1 : wr.heap.size < wd.heap.size := (hq.at (x := (wr.heap.size, 23, #[.string E, .string F])) 1 rfl).lt; replace HR := Lib.hid hq; replace HB := Lib.hid (below_to HB.out hb); clear hb hq) | (go_at_call 29; (with_reducible refine Calls.mono (VA.out _ (HT.out.next HB.out)) ?_); rintro e we ⟨rfl, hb⟩; have hq := HR.out.below hb; clear x0_0 x0_1 y0 x1_0 x1_1 y1; have x0_0 : we.cell? ⟨wb.heap.size, 0, none⟩ = some (.string E) := (hq.at (x := (wb.heap.size, 23, #[.string E, .string F])) 0 rfl).cell 0; have x0_1 : we.cell? ⟨wb.heap.size, 1, none⟩ = some (.string F) := (hq.at (x := (wb.heap.size, 23, #[.string E, .string F])) 0 rfl).cell 1; have y0 : wb.heap.size < we.heap.size := (hq.at (x := (wb.heap.size, 23, #[.string E, .string F])) 0 rfl).lt; have x1_0 : we.cell? ⟨wr.heap.size, 0, none⟩ = some (.string E) := (hq.at (x := (wr.heap.size, 23, #[.string E, .string F])) 1 rfl).cell 0; have x1_1 : we.cell? ⟨wr.heap.size, 1, none⟩ = some (.string F) := (hq.at (x := (wr.heap.size, 23, #[.string E, .string F])) 1 rfl).cell 1; have y1 : wr.heap.size < we.heap.size := (hq.at (x := (wr.heap.size, 23, #[.string E, .string F])) 1 rfl).lt; replace HR := Lib.hid hq; replace HB := Lib.hid (below_to HB.out hb); clear hb hq))
          go_roundw
          case rel => exact ⟨k + 1, by omega, by go_num, Lib.hid (HR.out.pick [2, 3, 4, 5]), HB⟩
          case measure => simp [intOf]; omega
        · go_wp2_with (first | (go_at_call 35; (with_reducible refine Calls.mono (RA.out _ (HT.out.next HB.out)) ?_); rintro e wd ⟨rfl, hb⟩; have hq := HR.out.below hb; clear x0_0 x0_1 y0 x1_0 x1_1 y1; have x0_0 : wd.cell? ⟨wb.heap.size, 0, none⟩ = some (.string ⟨#[]⟩) := (hq.at (x := (wb.heap.size, 23, #[.string ⟨#[]⟩, .string ⟨#[]⟩])) 0 rfl).cell 0; have x0_1 : wd.cell? ⟨wb.heap.size, 1, none⟩ = some (.string ⟨#[]⟩) := (hq.at (x := (wb.heap.size, 23, #[.string ⟨#[]⟩, .string ⟨#[]⟩])) 0 rfl).cell 1; have y0 : wb.heap.size < wd.heap.size := (hq.at (x := (wb.heap.size, 23, #[.string ⟨#[]⟩, .string ⟨#[]⟩])) 0 rfl).lt; have x1_0 : wd.cell? ⟨wr.heap.size, 0, none⟩ = some (.string E) := (hq.at (x := (wr.heap.size, 23, #[.string E, .string F])) 1 rfl).cell 0; have x1_1 : wd.cell? ⟨wr.heap.size, 1, none⟩ = some (.string F) := (hq.at (x := (wr.heap.size, 23, #[.string E, .string F])) 1 rfl).cell 1; have y1 : wr.heap.size < wd.heap.size := (hq.at (x := (wr.heap.size, 23, #[.string E, .string F])) 1 rfl).lt; replace HR := Lib.hid hq; replace HB := Lib.hid (below_to HB.out hb); clear hb hq) | (go_at_call 29; (with_reducible refine Calls.mono (VA.out _ (HT.out.next HB.out)) ?_); rintro e we ⟨rfl, hb⟩; have hq := HR.out.below hb; clear x0_0 x0_1 y0 x1_0 x1_1 y1; have x0_0 : we.cell? ⟨wb.heap.size, 0, none⟩ = some (.string ⟨#[]⟩) := (hq.at (x := (wb.heap.size, 23, #[.string ⟨#[]⟩, .string ⟨#[]⟩])) 0 rfl).cell 0; have x0_1 : we.cell? ⟨wb.heap.size, 1, none⟩ = some (.string ⟨#[]⟩) := (hq.at (x := (wb.heap.size, 23, #[.string ⟨#[]⟩, .string ⟨#[]⟩])) 0 rfl).cell 1; have y0 : wb.heap.size < we.heap.size := (hq.at (x := (wb.heap.size, 23, #[.string ⟨#[]⟩, .string ⟨#[]⟩])) 0 rfl).lt; have x1_0 : we.cell? ⟨wr.heap.size, 0, none⟩ = some (.string E) := (hq.at (x := (wr.heap.size, 23, #[.string E, .string F])) 1 rfl).cell 0; have x1_1 : we.cell? ⟨wr.heap.size, 1, none⟩ = some (.string F) := (hq.at (x := (wr.heap.size, 23, #[.string E, .string F])) 1 rfl).cell 1; have y1 : wr.heap.size < we.heap.size := (hq.at (x := (wr.heap.size, 23, #[.string E, .string F])) 1 rfl).lt; replace HR := Lib.hid hq; replace HB := Lib.hid (below_to HB.out hb); clear hb hq))
          go_roundw
          case rel => exact ⟨k + 1, by omega, by go_num, Lib.hid (HR.out.pick [2, 3, 4, 5]), HB⟩
          case measure => simp [intOf]; omega
      · obtain rfl : k = 2 := by omega
        clear hlt hk
        have x1_0 : wr.cell? ⟨w2.heap.size, 0, none⟩ = some (.string NM) := (HR.out.at (x := (w2.heap.size, 23, #[.string NM, .string DM])) 1 rfl).cell 0
        have x1_1 : wr.cell? ⟨w2.heap.size, 1, none⟩ = some (.string DM) := (HR.out.at (x := (w2.heap.size, 23, #[.string NM, .string DM])) 1 rfl).cell 1
        have y1 : w2.heap.size < wr.heap.size := (HR.out.at (x := (w2.heap.size, 23, #[.string NM, .string DM])) 1 rfl).lt
        obtain ⟨t1, t2⟩ := HTX.out
        go_upto_region 15 with (first | (go_at_call 35; (with_reducible refine Calls.mono (K5.out _ (HT.out.next HB.out)) ?_); rintro e w3 ⟨rfl, hb⟩; have hq := HR.out.below hb; clear x1_0 x1_1 y1; have x1_0 : w3.cell? ⟨w2.heap.size, 0, none⟩ = some (.string NM) := (hq.at (x := (w2.heap.size, 23, #[.string NM, .string DM])) 1 rfl).cell 0; have x1_1 : w3.cell? ⟨w2.heap.size, 1, none⟩ = some (.string DM) := (hq.at (x := (w2.heap.size, 23, #[.string NM, .string DM])) 1 rfl).cell 1; have y1 : w2.heap.size < w3.heap.size := (hq.at (x := (w2.heap.size, 23, #[.string NM, .string DM])) 1 rfl).lt; replace HR := Lib.hid hq; replace HB := Lib.hid (below_to HB.out hb); clear hb hq) | (go_at_call 22; ((with_reducible refine Calls.mono (K6.out _) ?_); rintro e w4 ⟨rfl, rfl⟩)))
        clear t1 t2
        go_cut [94, 95, 96] (fun sb sn si wx => ∃ g', sb = .slice (some ⟨g', 0, none⟩) 2 2 ∧ sn = .int .i64 2 ∧ si = .int .i64 0 ∧ Hid (Row wx g' 9 #[.string CU, .string M2]) ∧ Hid (Below w.heap.size w wx))
        case first =>
          obtain ⟨h1, h2, h3⟩ := hs
          have i0 : (0 : Int) ≤ (kn : Int) := by omega
          have s1 : IntKind.i64.wrap ((kn : Int) + 1) = (kn : Int) + 1 := IntWalk.i64_in _ (by omega)
          have k1 : ¬ (A1.size + Z1.size > 9223372036854775807) := by omega
          have k2 : ¬ (9223372036854775807 < A1.size + Z1.size) := by omega
          have k3 : (A1 ++ Z1).size = A1.size + Z1.size := ByteArray.size_append
          have k4 : ¬ ((A1 ++ Z1).size + B1.size > 9223372036854775807) := by omega
          have k5 : ¬ (9223372036854775807 < A1.size + Z1.size + B1.size) := by omega
          clear h1 h2 h3 k3
          have hmn := K9.out; have hs1 := K10.out; have hs2 := K11.out; have hs3 := K12.out
          have hcv : Sem.run Tryz.prog (Go.convert 48 9 (.slice (some ⟨w3.heap.size, 0, none⟩) 1 1)) (w3.alloc (.cells #[.int .u8 cc] 5)).drew = .ok (.string Z1) (w3.alloc (.cells #[.int .u8 cc] 5)).drew := K13.out w3.drew
          have HB3 := Lib.hid (((HB.out.alloc (by have := HB.out.size; omega) (.cells #[.int .u8 cc] 5)).alloc (by have := HB.out.size; simp; omega) (.cells #[.string CU, .string (A1 ++ Z1 ++ B1)] 9)).drew)
          have HR3 : Hid (Row ((w3.alloc (.cells #[.int .u8 cc] 5)).alloc (.cells #[.string CU, .string (A1 ++ Z1 ++ B1)] 9)) (w3.heap.size + 1) 9 #[.string CU, .string (A1 ++ Z1 ++ B1)]) := Lib.hid (by
            have h := Row.new (w3.alloc (.cells #[.int .u8 cc] 5)) 9 #[.string CU, .string (A1 ++ Z1 ++ B1)]
            simp only [World.size_alloc] at h
            exact h)
          go_region
          all_goals
            go_wp2_with fail
            go_meet
            exact ⟨_, rfl, rfl, rfl, Lib.hid (by rw [← K14.out]; exact HR3.out), Lib.hid HB3.out⟩
        case rest =>
          obtain ⟨g', rfl, rfl, rfl, HR6, HB6⟩ := hcut
          clear HR HB
          replace HR := HR6
          replace HB := HB6
          clear HR6 HB6 K9 K10 K11 K12 K13 K14 hs K5 K6 K3 K4
          go_wp2_with fail
          go_loopw [96] (fun i wr => ∃ k : Nat, k ≤ 2 ∧ i = .int .i64 (k : Int) ∧ Hid (Row wr g' 9 #[.string CU, .string M2]) ∧ Hid (Below w.heap.size w wr)) (fun i _ => 2 - (intOf i).toNat)
          case atStart => exact ⟨0, by omega, by go_num, HR, HB⟩
          case round =>
            clear HR HB
            obtain ⟨k, hk, rfl, HR, HB⟩ := hrel
            by_cases hlt : k < 2
            · obtain ⟨U, d0, HA⟩ : ∃ U, wr.cell? ⟨g', k, none⟩ = some (.string U) ∧ AlikeT U := by
                rw [HR.out.cell]
                rcases (by omega : k = 0 ∨ k = 1) with rfl | rfl
                · exact ⟨_, rfl, K7.out⟩
                · exact ⟨_, rfl, K8.out⟩
              obtain ⟨S, T, er, p1, p2, hv⟩ := HA
              have PA := Lib.hid p1; have RA := Lib.hid p2
              clear p1 p2
              unfold rvB at *
              replace HR : Hid (Rws wr [(g', 9, #[.string CU, .string M2])]) := Lib.hid ((Rws.nil wr).put HR.out)
              go_upto_region 20 with (first | (go_at_call 34; (with_reducible refine Calls.mono (PA.out _ (HT.out.next HB.out)) ?_); rintro e wb ⟨rfl, hb⟩; have hq := HR.out.below hb; replace hq := hq.cons 23 #[.string S, .string T]; (try simp only [World.size_alloc] at hq); replace HR := Lib.hid hq; replace HB := Lib.hid (below_to (below_to HB.out hb) (new_below _ (.cells #[.string S, .string T] 23))); clear hb hq) | (go_at_call 36; (with_reducible refine Calls.mono (RA.out _ (HT.out.next HB.out)) ?_); rintro e wd ⟨rfl, hb⟩; have hq := HR.out.below hb; have x0_0 : wd.cell? ⟨wb.heap.size, 0, none⟩ = some (.string S) := (hq.at (x := (wb.heap.size, 23, #[.string S, .string T])) 0 rfl).cell 0; have x0_1 : wd.cell? ⟨wb.heap.size, 1, none⟩ = some (.string T) := (hq.at (x := (wb.heap.size, 23, #[.string S, .string T])) 0 rfl).cell 1; have y0 : wb.heap.size < wd.heap.size := (hq.at (x := (wb.heap.size, 23, #[.string S, .string T])) 0 rfl).lt; replace hq := hq.cons 23 #[.string S, .string T]; (try simp only [World.size_alloc] at hq); replace HR := Lib.hid hq; replace HB := Lib.hid (below_to (below_to HB.out hb) (new_below _ (.cells #[.string S, .string T] 23))); clear hb hq))
              obtain ⟨V9, hV9⟩ : ∃ W0, wd.alloc (.cells #[.string S, .string T] 23) = W0 := ⟨_, rfl⟩
              rw [hV9] at HR HB ⊢
              clear hV9
              clear x0_0 x0_1 y0
              have x0_0 : V9.cell? ⟨wd.heap.size, 0, none⟩ = some (.string S) := (HR.out.at (x := (wd.heap.size, 23, #[.string S, .string T])) 0 rfl).cell 0
              have x0_1 : V9.cell? ⟨wd.heap.size, 1, none⟩ = some (.string T) := (HR.out.at (x := (wd.heap.size, 23, #[.string S, .string T])) 0 rfl).cell 1
              have y0 : wd.heap.size < V9.heap.size := (HR.out.at (x := (wd.heap.size, 23, #[.string S, .string T])) 0 rfl).lt
              have x1_0 : V9.cell? ⟨wb.heap.size, 0, none⟩ = some (.string S) := (HR.out.at (x := (wb.heap.size, 23, #[.string S, .string T])) 1 rfl).cell 0
              have x1_1 : V9.cell? ⟨wb.heap.size, 1, none⟩ = some (.string T) := (HR.out.at (x := (wb.heap.size, 23, #[.string S, .string T])) 1 rfl).cell 1
              have y1 : wb.heap.size < V9.heap.size := (HR.out.at (x := (wb.heap.size, 23, #[.string S, .string T])) 1 rfl).lt
              rcases hv with ⟨rfl, hp⟩ | rfl
              · have PP := Lib.hid hp
                clear hp
                go_wp2_with (first | (go_at_call 33; (with_reducible refine Calls.mono (PP.out _ (HT.out.next HB.out)) ?_); rintro e we ⟨rfl, hb⟩; have hq := HR.out.below hb; clear x0_0 x0_1 y0 x1_0 x1_1 y1; replace HR := Lib.hid hq; replace HB := Lib.hid (below_to HB.out hb); clear hb hq))
                go_roundw
                case rel => exact ⟨k + 1, by omega, by go_num, Lib.hid (HR.out.at (x := (g', 9, #[.string CU, .string M2])) 2 rfl), HB⟩
                case measure => simp [intOf]; omega
              · go_wp2_with fail
                go_roundw
                case rel => exact ⟨k + 1, by omega, by go_num, Lib.hid (HR.out.at (x := (g', 9, #[.string CU, .string M2])) 2 rfl), HB⟩
                case measure => simp [intOf]; omega
            · obtain rfl : k = 2 := by omega
              go_wp2_with fail
              go_ret
              exact ⟨rfl, HB.out⟩
end Go.Proofs.YtabkodpjhpjgnaaGreatDoor
