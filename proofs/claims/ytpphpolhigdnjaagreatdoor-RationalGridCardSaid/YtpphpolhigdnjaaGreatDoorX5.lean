/- The long walk of RationalGrid. -/
import Derived.Test.YtpphpolhigdnjaaGreatDoorX6
import Derived.Test.YtpphpolhigdnjaaGreatDoorQy
namespace Go.Proofs.YtpphpolhigdnjaaGreatDoor
open Go.RowKit Go.Shelf

set_option maxRecDepth 100000 in
set_option maxHeartbeats 4000000 in
theorem minusL_any (A B S T : ByteArray) (er : Int) (C : CallT 40 #[rvB ⟨#[48]⟩ ⟨#[49]⟩, rvB A B] (.tuple #[rvB S T, .int .i64 er])) : CallT 42 #[rvB A B] (rvB S T) := fun w ht => by
  have SB := Lib.hid C
  have IS := Lib.hid is_any
  have HT := Lib.hid ht
  clear C ht
  unfold rvB at *
  have hr : Bxs ((w.alloc (.cells #[.string A, .string B] 23)).alloc (.cells #[.string ⟨#[]⟩, .string ⟨#[]⟩] 23)) [(w.heap.size + 1, ⟨#[]⟩, ⟨#[]⟩), (w.heap.size, A, B)] := by
    have h := ((Bxs.nil w).cons A B).cons ⟨#[]⟩ ⟨#[]⟩
    simp only [World.size_alloc] at h
    exact h
  have hb : Below w.heap.size w ((w.alloc (.cells #[.string A, .string B] 23)).alloc (.cells #[.string ⟨#[]⟩, .string ⟨#[]⟩] 23)) := ((Below.refl _ _).alloc (Nat.le_refl _) _).alloc (by simp) _
  obtain ⟨E1, hE1⟩ : ∃ E : ByteArray, ⟨#[]⟩ = E := ⟨_, rfl⟩
  rw [hE1] at hr hb
  obtain ⟨W0, hW0⟩ : ∃ W0, (w.alloc (.cells #[.string A, .string B] 23)).alloc (.cells #[.string E1, .string E1] 23) = W0 := ⟨_, rfl⟩
  rw [hW0] at hr hb
  have HW0 := Lib.hid hW0; have HE1 := Lib.hid hE1
  have HR := Lib.hid hr; have HB := Lib.hid hb
  clear hr hb hW0 hE1
  go_enter Tryz.func42, Tryz.ntmps42
  go_upto_region 1 with (fail)
  rw [HE1.out, HW0.out]
  go_cut [3, 4] (fun sb se wx => ∃ g, sb = .pointer (some ⟨g, 0, none⟩) ∧ se = .int .i64 er ∧ Hid (Bxs wx ((g, S, T) :: [(w.heap.size + 1, E1, E1), (w.heap.size, A, B)])) ∧ Hid (Below w.heap.size w wx))
  case first =>
    have HRd : Hid (Bxs W0.drew [(w.heap.size + 1, E1, E1), (w.heap.size, A, B)]) := Lib.hid (fun x hx => (HR.out x hx).drew)
    have HBd : Hid (Below w.heap.size w W0.drew) := Lib.hid HB.out.drew
    have mkS : Hid (∀ u, Below w.heap.size w u → Bxs u [(w.heap.size + 1, E1, E1), (w.heap.size, A, B)] → Below w.heap.size w u ∧ Bxs u [(w.heap.size + 1, E1, E1), (w.heap.size, A, B)] ∧ u.cell? ⟨w.heap.size, 0, none⟩ = some (.string A) ∧ u.cell? ⟨w.heap.size, 1, none⟩ = some (.string B)) := Lib.hid (fun u h1 h2 => ⟨h1, h2, (h2 (w.heap.size, A, B) (by simp)).cell 0, (h2 (w.heap.size, A, B) (by simp)).cell 1⟩)
    go_region_held3 (fun u => Below w.heap.size w u ∧ Bxs u [(w.heap.size + 1, E1, E1), (w.heap.size, A, B)] ∧ u.cell? ⟨w.heap.size, 0, none⟩ = some (.string A) ∧ u.cell? ⟨w.heap.size, 1, none⟩ = some (.string B)) (first | assumption | (exact mkS.out _ HBd.out HRd.out) | (exact mkS.out _ (below_to (‹Below w.heap.size w _ ∧ Bxs _ _ ∧ _ ∧ _›).1 b5) ((‹Below w.heap.size w _ ∧ Bxs _ _ ∧ _ ∧ _›).2.1.below b5)) | (exact mkS.out _ (below_to (‹Below w.heap.size w _ ∧ Bxs _ _ ∧ _ ∧ _›).1 (new_below _ _)) ((‹Below w.heap.size w _ ∧ Bxs _ _ ∧ _ ∧ _›).2.1.below (new_below _ _))) | (exact mkS.out _ (below_to HBv2.out (new_below _ _)) (HRv2.out.below (new_below _ _))) | (exact mkS.out _ (put_below HB.out HBv2.out) (HRv2.out.far HR.out)) | (exact mkS.out _ (put_below HBv1.out HBv2.out) (HRv2.out.far HRv1.out))) (first | (go_at_call 41; ((with_reducible refine Calls.mono (IS.out _ _ _ ?hu) ?_); (case hu => exact HT.out.next (‹Below w.heap.size w _ ∧ Bxs _ _ ∧ _ ∧ _›).1); rintro e v1 ⟨rfl, b5⟩); have bb1 := Lib.hid b5; have HBv1 := Lib.hid (below_to (‹Below w.heap.size w _ ∧ Bxs _ _ ∧ _ ∧ _›).1 b5); have HRv1 := Lib.hid ((‹Below w.heap.size w _ ∧ Bxs _ _ ∧ _ ∧ _›).2.1.below b5); (try (have hrb : Row v1 W0.heap.size 23 #[.string ⟨#[]⟩, .string ⟨#[]⟩] := new_row (u := W0.drew) b5; have RB0_1 := Lib.hid hrb; clear hrb))) | (go_at_call 40; ((with_reducible refine Calls.mono (SB.out _ ?hu) ?_); (case hu => exact HT.out.next (‹Below w.heap.size w _ ∧ Bxs _ _ ∧ _ ∧ _›).1); rintro e v2 ⟨rfl, b5⟩); have bb2 := Lib.hid b5; have HBv2 := Lib.hid (below_to (‹Below w.heap.size w _ ∧ Bxs _ _ ∧ _ ∧ _›).1 b5); have HRv2 := Lib.hid ((‹Below w.heap.size w _ ∧ Bxs _ _ ∧ _ ∧ _›).2.1.below b5); (try (have hrb : Row v2 W0.heap.size 23 #[.string ⟨#[]⟩, .string ⟨#[]⟩] := RB0_1.out.below b5 RB0_1.out.lt; have RB0_2 := Lib.hid hrb; obtain ⟨z0, z1, z2, z3⟩ := rat_facts hrb; clear hrb)); (try (have hrb : Row v2 v1.heap.size 23 #[.string ⟨#[]⟩, .string ⟨#[]⟩] := new_row (u := v1) b5; have RB1_2 := Lib.hid hrb; obtain ⟨z0, z1, z2, z3⟩ := rat_facts hrb; clear hrb))))
    all_goals
      have HX := Lib.hid (‹Below w.heap.size w _ ∧ Bxs _ _ ∧ _ ∧ _›)
      go_wp2_with fail
      go_meet
      first | (exact ⟨_, rfl, rfl, Lib.hid (Bxs.put HX.out.2.1 (Row.new v2 _ _)), Lib.hid HX.out.1⟩) | (exact ⟨_, rfl, rfl, Lib.hid (Bxs.put HX.out.2.1 (rat_row RB0_2.out)), Lib.hid HX.out.1⟩) | (exact ⟨_, rfl, rfl, Lib.hid (Bxs.put HX.out.2.1 (rat_row RB1_2.out)), Lib.hid HX.out.1⟩)
  case rest =>
    obtain ⟨g, rfl, rfl, HR6, HB6⟩ := hcut
    have x0_0 : wc.cell? ⟨g, 0, none⟩ = some (.string S) := (HR6.out.at (x := (g, S, T)) 0 rfl).cell 0
    have x0_1 : wc.cell? ⟨g, 1, none⟩ = some (.string T) := (HR6.out.at (x := (g, S, T)) 0 rfl).cell 1
    have hrow := HR6.out.at (x := (w.heap.size + 1, E1, E1)) 1 rfl
    obtain ⟨z0, z1, z2, z3⟩ := rat_facts hrow
    have HROW := Lib.hid hrow
    clear hrow
    go_wp2
    refine bodyPost_ret (results_rat1 rfl _ _ (w.heap.size + 1) _ _ rfl (rat_row HROW.out)) rfl ?_
    exact ⟨rfl, (HB6.out.setCell (by dsimp only; omega) _).setCell (by dsimp only; omega) _⟩
set_option maxRecDepth 100000 in
set_option maxHeartbeats 8000000 in
theorem grid_core (a0 a1 a2 a3 places : Int) (p : Nat) (hp : p < 31) (ka kb : Int) (ha : ka ≤ 0) (hb : 0 ≤ kb) (NR DR NA DA NB DB NC DC NM DM NV WN WD BT : ByteArray) (hBT : bs (49 :: zer p) = BT)
    (hW : (ka = 0 ∧ kb = 0 ∧ WN = ⟨#[48]⟩ ∧ WD = ⟨#[49]⟩) ∨ (¬ ka = 0 ∧ ¬ kb = 0 ∧ WN = ⟨#[49]⟩ ∧ WD = BT))
    (C1 : CallT 13 #[.agg #[.int .i64 a0, .int .i64 a1, .int .i64 a2, .int .i64 a3]] (rvB NR DR))
    (C2 : ∀ w, Calls Tryz.prog 22 #[.int .i64 places, .int .i64 31] w fun e w' => e = .returned (.int .i64 (p : Int)) ∧ w = w')
    (C3 : CallT 23 #[rvB NR DR, .int .i64 (p : Int)] (.tuple #[rvB NA DA, .int .i64 0]))
    (C4 : CallT 25 #[rvB NR DR, .int .i64 (p : Int)] (.tuple #[rvB NB DB, .int .i64 0]))
    (C5 : CallT 42 #[rvB NR DR] (rvB NM DM))
    (C6 : CallT 23 #[rvB NM DM, .int .i64 (p : Int)] (.tuple #[rvB NC DC, .int .i64 0]))
    (C7 : CallT 42 #[rvB NC DC] (rvB NB DB))
    (C8 : CallT 20 #[rvB NA DA, rvB NR DR] (.int .i64 ka))
    (C9 : CallT 20 #[rvB NB DB, rvB NR DR] (.int .i64 kb))
    (C10 : CallT 23 #[rvB NB DB, .int .i64 (p : Int)] (.tuple #[rvB NB DB, .int .i64 0]))
    (C11 : CallT 25 #[rvB NA DA, .int .i64 (p : Int)] (.tuple #[rvB NA DA, .int .i64 0]))
    (C12 : CallT 39 #[rvB NA DA, rvB BT ⟨#[49]⟩] (.tuple #[rvB NV ⟨#[49]⟩, .int .i64 0]))
    (C13 : CallT 40 #[rvB NB DB, rvB NA DA] (.tuple #[rvB WN WD, .int .i64 0])) (w : World) (ht : TabP w) :
    Calls Tryz.prog 8 #[.agg #[.int .i64 a0, .int .i64 a1, .int .i64 a2, .int .i64 a3], .int .i64 places] w fun e w' => e = .returned (.bool true) ∧ Below w.heap.size w w' := by
  have KL := Lib.hid C1; have KP := Lib.hid C2; have KD1 := Lib.hid C3; have KU1 := Lib.hid C4; have KM1 := Lib.hid C5; have KD2 := Lib.hid C6; have KM2 := Lib.hid C7; have KA := Lib.hid C8; have KB := Lib.hid C9; have KD3 := Lib.hid C10; have KU2 := Lib.hid C11; have KML := Lib.hid C12; have KS := Lib.hid C13
  have SA := Lib.hid sane_c
  have IS := Lib.hid is_any
  have HT := Lib.hid ht
  have HWX := Lib.hid hW
  have HBT := Lib.hid hBT
  clear C1 C2 C3 C4 C5 C6 C7 C8 C9 C10 C11 C12 C13 ht hW hBT
  obtain ⟨W0, hW0⟩ : ∃ W0, w.alloc (.cells #[.int .i64 a0, .int .i64 a1, .int .i64 a2, .int .i64 a3] 24) = W0 := ⟨_, rfl⟩
  have hbw : Below w.heap.size w W0 := by
    rw [← hW0]
    exact (Below.refl _ _).alloc (Nat.le_refl _) _
  have HP : Hid (Row W0 (w.heap.size) 24 #[.int .i64 a0, .int .i64 a1, .int .i64 a2, .int .i64 a3]) := Lib.hid (by
    rw [← hW0]
    have h := Row.new w 24 #[.int .i64 a0, .int .i64 a1, .int .i64 a2, .int .i64 a3]
    exact h)
  have HW0 := Lib.hid hW0
  have HB := Lib.hid hbw
  have HR := Lib.hid (Bxs.nil W0)
  clear hW0 hbw
  unfold rvB at *
  go_enter Tryz.func8, Tryz.ntmps8
  go_wp2_with (first | (go_at_call 11; rw [HW0.out]; (with_reducible refine Calls.mono (SA.out _ (HT.out.next HB.out)) ?_); rintro e w1 ⟨rfl, hb⟩; have hq := HR.out.below hb; have hpHP := HP.out.below hb HP.out.lt; have pHP0 : w1.cell? ⟨w.heap.size, 0, none⟩ = some (.int .i64 a0) := hpHP.cell 0; have pHP1 : w1.cell? ⟨w.heap.size, 1, none⟩ = some (.int .i64 a1) := hpHP.cell 1; have pHP2 : w1.cell? ⟨w.heap.size, 2, none⟩ = some (.int .i64 a2) := hpHP.cell 2; have pHP3 : w1.cell? ⟨w.heap.size, 3, none⟩ = some (.int .i64 a3) := hpHP.cell 3; have lHP : w.heap.size < w1.heap.size := hpHP.lt; replace HP := Lib.hid (hpHP); clear hpHP; replace HR := Lib.hid hq; replace HB := Lib.hid (below_to HB.out hb); clear hb hq) | (go_at_call 13; (with_reducible refine Calls.mono (KL.out _ (HT.out.next HB.out)) ?_); rintro e w2 ⟨rfl, hb⟩; have hq := HR.out.below hb; replace HR := Lib.hid (hq.cons NR DR); replace HB := Lib.hid (below_to (below_to HB.out hb) (new_below _ (.cells #[.string NR, .string DR] 23))); clear hb hq) | (go_at_call 22; ((with_reducible refine Calls.mono (KP.out _) ?_); rintro e w3 ⟨rfl, rfl⟩)))
  go_loop [7, 8] (fun s i => ∃ k : Nat, k ≤ p ∧ s = .string (bs (49 :: zer k)) ∧ i = .int .i64 (k : Int)) (fun _ i => p - (intOf i).toNat)
  case atStart => exact ⟨0, Nat.zero_le _, rfl, rfl⟩
  case round =>
    obtain ⟨k, hk, rfl, rfl⟩ := hrel
    by_cases hlt : k < p
    · have hz := zer_size k
      have HN := Lib.hid (zer_next k)
      have k1 : ¬ ((bs (49 :: zer k)).size + (⟨#[48]⟩ : ByteArray).size > 9223372036854775807) := by rw [hz]; show ¬ (k + 1 + 1 > _); omega
      have k2 : ¬ (9223372036854775807 < (bs (49 :: zer k)).size + 1) := by omega
      clear hz
      generalize bs (49 :: zer k) = S at *
      go_wp2
      go_round
      case rel => exact ⟨k + 1, by omega, by rw [HN.out], by go_num⟩
      case measure => simp [intOf]; omega
    · obtain rfl : p = k := by omega
      clear hk
      rw [HBT.out]
      clear HP KL KP SA HW0
      obtain ⟨V2, hV2⟩ : ∃ W0, w2.alloc (.cells #[.string NR, .string DR] 23) = W0 := ⟨_, rfl⟩
      rw [hV2] at HR HB ⊢
      clear hV2
      have x0_0 : V2.cell? ⟨w2.heap.size, 0, none⟩ = some (.string NR) := (HR.out.at (x := (w2.heap.size, NR, DR)) 0 rfl).cell 0
      have x0_1 : V2.cell? ⟨w2.heap.size, 1, none⟩ = some (.string DR) := (HR.out.at (x := (w2.heap.size, NR, DR)) 0 rfl).cell 1
      have y0 : w2.heap.size < V2.heap.size := (HR.out.at (x := (w2.heap.size, NR, DR)) 0 rfl).lt
      go_upto_region 12 with (first | (go_at_call 23; (with_reducible refine Calls.mono (KD1.out _ (HT.out.next HB.out)) ?_); rintro e w4 ⟨rfl, hb⟩; have hq := HR.out.below hb; have x0_0 : w4.cell? ⟨w2.heap.size, 0, none⟩ = some (.string NR) := (hq.at (x := (w2.heap.size, NR, DR)) 0 rfl).cell 0; have x0_1 : w4.cell? ⟨w2.heap.size, 1, none⟩ = some (.string DR) := (hq.at (x := (w2.heap.size, NR, DR)) 0 rfl).cell 1; have y0 : w2.heap.size < w4.heap.size := (hq.at (x := (w2.heap.size, NR, DR)) 0 rfl).lt; replace HR := Lib.hid (hq.cons NA DA); replace HB := Lib.hid (below_to (below_to HB.out hb) (new_below _ (.cells #[.string NA, .string DA] 23))); clear hb hq) | (go_at_call 25; (with_reducible refine Calls.mono (KU1.out _ (HT.out.next HB.out)) ?_); rintro e w5 ⟨rfl, hb⟩; have hq := HR.out.below hb; have x0_0 : w5.cell? ⟨w4.heap.size, 0, none⟩ = some (.string NA) := (hq.at (x := (w4.heap.size, NA, DA)) 0 rfl).cell 0; have x0_1 : w5.cell? ⟨w4.heap.size, 1, none⟩ = some (.string DA) := (hq.at (x := (w4.heap.size, NA, DA)) 0 rfl).cell 1; have y0 : w4.heap.size < w5.heap.size := (hq.at (x := (w4.heap.size, NA, DA)) 0 rfl).lt; have x1_0 : w5.cell? ⟨w2.heap.size, 0, none⟩ = some (.string NR) := (hq.at (x := (w2.heap.size, NR, DR)) 1 rfl).cell 0; have x1_1 : w5.cell? ⟨w2.heap.size, 1, none⟩ = some (.string DR) := (hq.at (x := (w2.heap.size, NR, DR)) 1 rfl).cell 1; have y1 : w2.heap.size < w5.heap.size := (hq.at (x := (w2.heap.size, NR, DR)) 1 rfl).lt; replace HR := Lib.hid (hq.cons NB DB); replace HB := Lib.hid (below_to (below_to HB.out hb) (new_below _ (.cells #[.string NB, .string DB] 23))); clear hb hq) | (go_at_call 42; (with_reducible refine Calls.mono (KM1.out _ (HT.out.next HB.out)) ?_); rintro e w6 ⟨rfl, hb⟩; have hq := HR.out.below hb; have x0_0 : w6.cell? ⟨w5.heap.size, 0, none⟩ = some (.string NB) := (hq.at (x := (w5.heap.size, NB, DB)) 0 rfl).cell 0; have x0_1 : w6.cell? ⟨w5.heap.size, 1, none⟩ = some (.string DB) := (hq.at (x := (w5.heap.size, NB, DB)) 0 rfl).cell 1; have y0 : w5.heap.size < w6.heap.size := (hq.at (x := (w5.heap.size, NB, DB)) 0 rfl).lt; have x1_0 : w6.cell? ⟨w4.heap.size, 0, none⟩ = some (.string NA) := (hq.at (x := (w4.heap.size, NA, DA)) 1 rfl).cell 0; have x1_1 : w6.cell? ⟨w4.heap.size, 1, none⟩ = some (.string DA) := (hq.at (x := (w4.heap.size, NA, DA)) 1 rfl).cell 1; have y1 : w4.heap.size < w6.heap.size := (hq.at (x := (w4.heap.size, NA, DA)) 1 rfl).lt; have x2_0 : w6.cell? ⟨w2.heap.size, 0, none⟩ = some (.string NR) := (hq.at (x := (w2.heap.size, NR, DR)) 2 rfl).cell 0; have x2_1 : w6.cell? ⟨w2.heap.size, 1, none⟩ = some (.string DR) := (hq.at (x := (w2.heap.size, NR, DR)) 2 rfl).cell 1; have y2 : w2.heap.size < w6.heap.size := (hq.at (x := (w2.heap.size, NR, DR)) 2 rfl).lt; replace HR := Lib.hid hq; replace HB := Lib.hid (below_to HB.out hb); clear hb hq) | (go_at_call 23; (with_reducible refine Calls.mono (KD2.out _ (HT.out.next HB.out)) ?_); rintro e w7 ⟨rfl, hb⟩; have hq := HR.out.below hb; have x0_0 : w7.cell? ⟨w5.heap.size, 0, none⟩ = some (.string NB) := (hq.at (x := (w5.heap.size, NB, DB)) 0 rfl).cell 0; have x0_1 : w7.cell? ⟨w5.heap.size, 1, none⟩ = some (.string DB) := (hq.at (x := (w5.heap.size, NB, DB)) 0 rfl).cell 1; have y0 : w5.heap.size < w7.heap.size := (hq.at (x := (w5.heap.size, NB, DB)) 0 rfl).lt; have x1_0 : w7.cell? ⟨w4.heap.size, 0, none⟩ = some (.string NA) := (hq.at (x := (w4.heap.size, NA, DA)) 1 rfl).cell 0; have x1_1 : w7.cell? ⟨w4.heap.size, 1, none⟩ = some (.string DA) := (hq.at (x := (w4.heap.size, NA, DA)) 1 rfl).cell 1; have y1 : w4.heap.size < w7.heap.size := (hq.at (x := (w4.heap.size, NA, DA)) 1 rfl).lt; have x2_0 : w7.cell? ⟨w2.heap.size, 0, none⟩ = some (.string NR) := (hq.at (x := (w2.heap.size, NR, DR)) 2 rfl).cell 0; have x2_1 : w7.cell? ⟨w2.heap.size, 1, none⟩ = some (.string DR) := (hq.at (x := (w2.heap.size, NR, DR)) 2 rfl).cell 1; have y2 : w2.heap.size < w7.heap.size := (hq.at (x := (w2.heap.size, NR, DR)) 2 rfl).lt; replace HR := Lib.hid (hq.cons NC DC); replace HB := Lib.hid (below_to (below_to HB.out hb) (new_below _ (.cells #[.string NC, .string DC] 23))); clear hb hq))
      obtain ⟨W7, hW7⟩ : ∃ W0, w7.alloc (.cells #[.string NC, .string DC] 23) = W0 := ⟨_, rfl⟩
      rw [hW7] at HR HB ⊢
      clear hW7
      go_cut [83] (fun s83 wx => s83 = .bool false ∧ Hid (Bxs wx [(w7.heap.size, NC, DC), (w5.heap.size, NB, DB), (w4.heap.size, NA, DA), (w2.heap.size, NR, DR)]) ∧ Hid (Below w.heap.size w wx))
      case first =>
        have t1 : decide (0 < ka) = false := decide_eq_false (by omega)
        have t2 : decide (kb < 0) = false := decide_eq_false (by omega)
        have t3 : decide (ka > 0) = false := decide_eq_false (by omega)
        have mkS : Hid (∀ u, Below w.heap.size w u → Bxs u [(w7.heap.size, NC, DC), (w5.heap.size, NB, DB), (w4.heap.size, NA, DA), (w2.heap.size, NR, DR)] → Below w.heap.size w u ∧ Bxs u [(w7.heap.size, NC, DC), (w5.heap.size, NB, DB), (w4.heap.size, NA, DA), (w2.heap.size, NR, DR)] ∧ u.cell? ⟨w7.heap.size, 0, none⟩ = some (.string NC) ∧ u.cell? ⟨w7.heap.size, 1, none⟩ = some (.string DC) ∧ u.cell? ⟨w5.heap.size, 0, none⟩ = some (.string NB) ∧ u.cell? ⟨w5.heap.size, 1, none⟩ = some (.string DB) ∧ u.cell? ⟨w4.heap.size, 0, none⟩ = some (.string NA) ∧ u.cell? ⟨w4.heap.size, 1, none⟩ = some (.string DA) ∧ u.cell? ⟨w2.heap.size, 0, none⟩ = some (.string NR) ∧ u.cell? ⟨w2.heap.size, 1, none⟩ = some (.string DR)) := Lib.hid (fun u h1 h2 => ⟨h1, h2, (h2 (w7.heap.size, NC, DC) (by simp)).cell 0, (h2 (w7.heap.size, NC, DC) (by simp)).cell 1, (h2 (w5.heap.size, NB, DB) (by simp)).cell 0, (h2 (w5.heap.size, NB, DB) (by simp)).cell 1, (h2 (w4.heap.size, NA, DA) (by simp)).cell 0, (h2 (w4.heap.size, NA, DA) (by simp)).cell 1, (h2 (w2.heap.size, NR, DR) (by simp)).cell 0, (h2 (w2.heap.size, NR, DR) (by simp)).cell 1⟩)
        go_region_held3 (fun u => Below w.heap.size w u ∧ Bxs u [(w7.heap.size, NC, DC), (w5.heap.size, NB, DB), (w4.heap.size, NA, DA), (w2.heap.size, NR, DR)] ∧ u.cell? ⟨w7.heap.size, 0, none⟩ = some (.string NC) ∧ u.cell? ⟨w7.heap.size, 1, none⟩ = some (.string DC) ∧ u.cell? ⟨w5.heap.size, 0, none⟩ = some (.string NB) ∧ u.cell? ⟨w5.heap.size, 1, none⟩ = some (.string DB) ∧ u.cell? ⟨w4.heap.size, 0, none⟩ = some (.string NA) ∧ u.cell? ⟨w4.heap.size, 1, none⟩ = some (.string DA) ∧ u.cell? ⟨w2.heap.size, 0, none⟩ = some (.string NR) ∧ u.cell? ⟨w2.heap.size, 1, none⟩ = some (.string DR)) (first | assumption | (exact mkS.out _ HB.out.drew (fun x hx => (HR.out x hx).drew)) | (exact mkS.out _ (below_to (‹Below w.heap.size w _ ∧ Bxs _ _ ∧ _ ∧ _ ∧ _ ∧ _ ∧ _ ∧ _ ∧ _ ∧ _›).1 b5) ((‹Below w.heap.size w _ ∧ Bxs _ _ ∧ _ ∧ _ ∧ _ ∧ _ ∧ _ ∧ _ ∧ _ ∧ _›).2.1.below b5))) (first | (go_at_call 42; ((with_reducible refine Calls.mono (KM2.out _ ?hu) ?_); (case hu => exact HT.out.next (‹Below w.heap.size w _ ∧ Bxs _ _ ∧ _ ∧ _ ∧ _ ∧ _ ∧ _ ∧ _ ∧ _ ∧ _›).1); rintro e v1 ⟨rfl, b5⟩)) | (go_at_call 20; ((with_reducible refine Calls.mono (KA.out _ ?hu) ?_); (case hu => exact HT.out.next (‹Below w.heap.size w _ ∧ Bxs _ _ ∧ _ ∧ _ ∧ _ ∧ _ ∧ _ ∧ _ ∧ _ ∧ _›).1); rintro e v1 ⟨rfl, b5⟩)) | (go_at_call 20; ((with_reducible refine Calls.mono (KB.out _ ?hu) ?_); (case hu => exact HT.out.next (‹Below w.heap.size w _ ∧ Bxs _ _ ∧ _ ∧ _ ∧ _ ∧ _ ∧ _ ∧ _ ∧ _ ∧ _›).1); rintro e v1 ⟨rfl, b5⟩)))
        all_goals
          have HX := Lib.hid (‹Below w.heap.size w _ ∧ Bxs _ _ ∧ _ ∧ _ ∧ _ ∧ _ ∧ _ ∧ _ ∧ _ ∧ _›)
          go_wp2_with fail
          go_meet
          exact ⟨rfl, Lib.hid HX.out.2.1, Lib.hid HX.out.1⟩
      case rest =>
        obtain ⟨rfl, HR6, HB6⟩ := hcut
        replace HR := HR6
        replace HB := HB6
        clear HR6 HB6 KD1 KU1 KM1 KD2 KM2
        have x1_0 : wc.cell? ⟨w5.heap.size, 0, none⟩ = some (.string NB) := (HR.out.at (x := (w5.heap.size, NB, DB)) 1 rfl).cell 0
        have x1_1 : wc.cell? ⟨w5.heap.size, 1, none⟩ = some (.string DB) := (HR.out.at (x := (w5.heap.size, NB, DB)) 1 rfl).cell 1
        have y1 : w5.heap.size < wc.heap.size := (HR.out.at (x := (w5.heap.size, NB, DB)) 1 rfl).lt
        have x2_0 : wc.cell? ⟨w4.heap.size, 0, none⟩ = some (.string NA) := (HR.out.at (x := (w4.heap.size, NA, DA)) 2 rfl).cell 0
        have x2_1 : wc.cell? ⟨w4.heap.size, 1, none⟩ = some (.string DA) := (HR.out.at (x := (w4.heap.size, NA, DA)) 2 rfl).cell 1
        have y2 : w4.heap.size < wc.heap.size := (HR.out.at (x := (w4.heap.size, NA, DA)) 2 rfl).lt
        have x3_0 : wc.cell? ⟨w2.heap.size, 0, none⟩ = some (.string NR) := (HR.out.at (x := (w2.heap.size, NR, DR)) 3 rfl).cell 0
        have x3_1 : wc.cell? ⟨w2.heap.size, 1, none⟩ = some (.string DR) := (HR.out.at (x := (w2.heap.size, NR, DR)) 3 rfl).cell 1
        have y3 : w2.heap.size < wc.heap.size := (HR.out.at (x := (w2.heap.size, NR, DR)) 3 rfl).lt
        go_upto_region 16 with (first | (go_at_call 23; (with_reducible refine Calls.mono (KD3.out _ (HT.out.next HB.out)) ?_); rintro e w9 ⟨rfl, hb⟩; have hq := HR.out.below hb; have x1_0 : w9.cell? ⟨w5.heap.size, 0, none⟩ = some (.string NB) := (hq.at (x := (w5.heap.size, NB, DB)) 1 rfl).cell 0; have x1_1 : w9.cell? ⟨w5.heap.size, 1, none⟩ = some (.string DB) := (hq.at (x := (w5.heap.size, NB, DB)) 1 rfl).cell 1; have y1 : w5.heap.size < w9.heap.size := (hq.at (x := (w5.heap.size, NB, DB)) 1 rfl).lt; have x2_0 : w9.cell? ⟨w4.heap.size, 0, none⟩ = some (.string NA) := (hq.at (x := (w4.heap.size, NA, DA)) 2 rfl).cell 0; have x2_1 : w9.cell? ⟨w4.heap.size, 1, none⟩ = some (.string DA) := (hq.at (x := (w4.heap.size, NA, DA)) 2 rfl).cell 1; have y2 : w4.heap.size < w9.heap.size := (hq.at (x := (w4.heap.size, NA, DA)) 2 rfl).lt; have x3_0 : w9.cell? ⟨w2.heap.size, 0, none⟩ = some (.string NR) := (hq.at (x := (w2.heap.size, NR, DR)) 3 rfl).cell 0; have x3_1 : w9.cell? ⟨w2.heap.size, 1, none⟩ = some (.string DR) := (hq.at (x := (w2.heap.size, NR, DR)) 3 rfl).cell 1; have y3 : w2.heap.size < w9.heap.size := (hq.at (x := (w2.heap.size, NR, DR)) 3 rfl).lt; replace HR := Lib.hid (hq.cons NB DB); replace HB := Lib.hid (below_to (below_to HB.out hb) (new_below _ (.cells #[.string NB, .string DB] 23))); clear hb hq) | (go_at_call 25; (with_reducible refine Calls.mono (KU2.out _ (HT.out.next HB.out)) ?_); rintro e w10 ⟨rfl, hb⟩; have hq := HR.out.below hb; have x0_0 : w10.cell? ⟨w9.heap.size, 0, none⟩ = some (.string NB) := (hq.at (x := (w9.heap.size, NB, DB)) 0 rfl).cell 0; have x0_1 : w10.cell? ⟨w9.heap.size, 1, none⟩ = some (.string DB) := (hq.at (x := (w9.heap.size, NB, DB)) 0 rfl).cell 1; have y0 : w9.heap.size < w10.heap.size := (hq.at (x := (w9.heap.size, NB, DB)) 0 rfl).lt; have x1_0 : w10.cell? ⟨w7.heap.size, 0, none⟩ = some (.string NC) := (hq.at (x := (w7.heap.size, NC, DC)) 1 rfl).cell 0; have x1_1 : w10.cell? ⟨w7.heap.size, 1, none⟩ = some (.string DC) := (hq.at (x := (w7.heap.size, NC, DC)) 1 rfl).cell 1; have y1 : w7.heap.size < w10.heap.size := (hq.at (x := (w7.heap.size, NC, DC)) 1 rfl).lt; have x2_0 : w10.cell? ⟨w5.heap.size, 0, none⟩ = some (.string NB) := (hq.at (x := (w5.heap.size, NB, DB)) 2 rfl).cell 0; have x2_1 : w10.cell? ⟨w5.heap.size, 1, none⟩ = some (.string DB) := (hq.at (x := (w5.heap.size, NB, DB)) 2 rfl).cell 1; have y2 : w5.heap.size < w10.heap.size := (hq.at (x := (w5.heap.size, NB, DB)) 2 rfl).lt; have x3_0 : w10.cell? ⟨w4.heap.size, 0, none⟩ = some (.string NA) := (hq.at (x := (w4.heap.size, NA, DA)) 3 rfl).cell 0; have x3_1 : w10.cell? ⟨w4.heap.size, 1, none⟩ = some (.string DA) := (hq.at (x := (w4.heap.size, NA, DA)) 3 rfl).cell 1; have y3 : w4.heap.size < w10.heap.size := (hq.at (x := (w4.heap.size, NA, DA)) 3 rfl).lt; have x4_0 : w10.cell? ⟨w2.heap.size, 0, none⟩ = some (.string NR) := (hq.at (x := (w2.heap.size, NR, DR)) 4 rfl).cell 0; have x4_1 : w10.cell? ⟨w2.heap.size, 1, none⟩ = some (.string DR) := (hq.at (x := (w2.heap.size, NR, DR)) 4 rfl).cell 1; have y4 : w2.heap.size < w10.heap.size := (hq.at (x := (w2.heap.size, NR, DR)) 4 rfl).lt; replace HR := Lib.hid (hq.cons NA DA); replace HB := Lib.hid (below_to (below_to HB.out hb) (new_below _ (.cells #[.string NA, .string DA] 23))); clear hb hq))
        obtain ⟨W10, hW10⟩ : ∃ W0, w10.alloc (.cells #[.string NA, .string DA] 23) = W0 := ⟨_, rfl⟩
        rw [hW10] at HR HB ⊢
        clear hW10
        go_cut [19, 20] (fun sb se wx => ∃ g, sb = .pointer (some ⟨g, 0, none⟩) ∧ se = .int .i64 0 ∧ Hid (Bxs wx ((g, NV, ⟨#[49]⟩) :: [(w10.heap.size, NA, DA), (w9.heap.size, NB, DB), (w7.heap.size, NC, DC), (w5.heap.size, NB, DB), (w4.heap.size, NA, DA), (w2.heap.size, NR, DR)])) ∧ Hid (Below w.heap.size w wx))
        case first =>
          have HRd : Hid (Bxs W10.drew [(w10.heap.size, NA, DA), (w9.heap.size, NB, DB), (w7.heap.size, NC, DC), (w5.heap.size, NB, DB), (w4.heap.size, NA, DA), (w2.heap.size, NR, DR)]) := Lib.hid (fun x hx => (HR.out x hx).drew)
          have HBd : Hid (Below w.heap.size w W10.drew) := Lib.hid HB.out.drew
          have mkS : Hid (∀ u, Below w.heap.size w u → Bxs u [(w10.heap.size, NA, DA), (w9.heap.size, NB, DB), (w7.heap.size, NC, DC), (w5.heap.size, NB, DB), (w4.heap.size, NA, DA), (w2.heap.size, NR, DR)] → Below w.heap.size w u ∧ Bxs u [(w10.heap.size, NA, DA), (w9.heap.size, NB, DB), (w7.heap.size, NC, DC), (w5.heap.size, NB, DB), (w4.heap.size, NA, DA), (w2.heap.size, NR, DR)] ∧ u.cell? ⟨w4.heap.size, 0, none⟩ = some (.string NA) ∧ u.cell? ⟨w4.heap.size, 1, none⟩ = some (.string DA)) := Lib.hid (fun u h1 h2 => ⟨h1, h2, (h2 (w4.heap.size, NA, DA) (by simp)).cell 0, (h2 (w4.heap.size, NA, DA) (by simp)).cell 1⟩)
          go_region_held3 (fun u => Below w.heap.size w u ∧ Bxs u [(w10.heap.size, NA, DA), (w9.heap.size, NB, DB), (w7.heap.size, NC, DC), (w5.heap.size, NB, DB), (w4.heap.size, NA, DA), (w2.heap.size, NR, DR)] ∧ u.cell? ⟨w4.heap.size, 0, none⟩ = some (.string NA) ∧ u.cell? ⟨w4.heap.size, 1, none⟩ = some (.string DA)) (first | assumption | (exact mkS.out _ HBd.out HRd.out) | (exact mkS.out _ (below_to (‹Below w.heap.size w _ ∧ Bxs _ _ ∧ _ ∧ _›).1 b5) ((‹Below w.heap.size w _ ∧ Bxs _ _ ∧ _ ∧ _›).2.1.below b5)) | (exact mkS.out _ (below_to (‹Below w.heap.size w _ ∧ Bxs _ _ ∧ _ ∧ _›).1 (new_below _ _)) ((‹Below w.heap.size w _ ∧ Bxs _ _ ∧ _ ∧ _›).2.1.below (new_below _ _))) | (exact mkS.out _ (below_to HBv2.out (new_below _ _)) (HRv2.out.below (new_below _ _))) | (exact mkS.out _ (put_below HB.out HBv2.out) (HRv2.out.far HR.out)) | (exact mkS.out _ (put_below HBv1.out HBv2.out) (HRv2.out.far HRv1.out))) (first | (go_at_call 41; ((with_reducible refine Calls.mono (IS.out _ _ _ ?hu) ?_); (case hu => exact HT.out.next (‹Below w.heap.size w _ ∧ Bxs _ _ ∧ _ ∧ _›).1); rintro e v1 ⟨rfl, b5⟩); have bb1 := Lib.hid b5; have HBv1 := Lib.hid (below_to (‹Below w.heap.size w _ ∧ Bxs _ _ ∧ _ ∧ _›).1 b5); have HRv1 := Lib.hid ((‹Below w.heap.size w _ ∧ Bxs _ _ ∧ _ ∧ _›).2.1.below b5); (try (have hrb : Row v1 W10.heap.size 23 #[.string ⟨#[]⟩, .string ⟨#[]⟩] := new_row (u := W10.drew) b5; have RB0_1 := Lib.hid hrb; clear hrb))) | (go_at_call 39; ((with_reducible refine Calls.mono (KML.out _ ?hu) ?_); (case hu => exact HT.out.next (‹Below w.heap.size w _ ∧ Bxs _ _ ∧ _ ∧ _›).1); rintro e v2 ⟨rfl, b5⟩); have bb2 := Lib.hid b5; have HBv2 := Lib.hid (below_to (‹Below w.heap.size w _ ∧ Bxs _ _ ∧ _ ∧ _›).1 b5); have HRv2 := Lib.hid ((‹Below w.heap.size w _ ∧ Bxs _ _ ∧ _ ∧ _›).2.1.below b5); (try (have hrb : Row v2 W10.heap.size 23 #[.string ⟨#[]⟩, .string ⟨#[]⟩] := RB0_1.out.below b5 RB0_1.out.lt; have RB0_2 := Lib.hid hrb; obtain ⟨z0, z1, z2, z3⟩ := rat_facts hrb; clear hrb)); (try (have hrb : Row v2 v1.heap.size 23 #[.string ⟨#[]⟩, .string ⟨#[]⟩] := new_row (u := v1) b5; have RB1_2 := Lib.hid hrb; obtain ⟨z0, z1, z2, z3⟩ := rat_facts hrb; clear hrb))))
          all_goals
            have HX := Lib.hid (‹Below w.heap.size w _ ∧ Bxs _ _ ∧ _ ∧ _›)
            go_wp2_with fail
            go_meet
            first | (exact ⟨_, rfl, rfl, Lib.hid (Bxs.put HX.out.2.1 (Row.new v2 _ _)), Lib.hid HX.out.1⟩) | (exact ⟨_, rfl, rfl, Lib.hid (Bxs.put HX.out.2.1 (rat_row RB0_2.out)), Lib.hid HX.out.1⟩) | (exact ⟨_, rfl, rfl, Lib.hid (Bxs.put HX.out.2.1 (rat_row RB1_2.out)), Lib.hid HX.out.1⟩)
        case rest =>
          obtain ⟨g, rfl, rfl, HR6, HB6⟩ := hcut
          replace HR := HR6
          replace HB := HB6
          clear HR6 HB6 KD3 KU2 KML
          have x4_0 : wc.cell? ⟨w5.heap.size, 0, none⟩ = some (.string NB) := (HR.out.at (x := (w5.heap.size, NB, DB)) 4 rfl).cell 0
          have x4_1 : wc.cell? ⟨w5.heap.size, 1, none⟩ = some (.string DB) := (HR.out.at (x := (w5.heap.size, NB, DB)) 4 rfl).cell 1
          have y4 : w5.heap.size < wc.heap.size := (HR.out.at (x := (w5.heap.size, NB, DB)) 4 rfl).lt
          have x5_0 : wc.cell? ⟨w4.heap.size, 0, none⟩ = some (.string NA) := (HR.out.at (x := (w4.heap.size, NA, DA)) 5 rfl).cell 0
          have x5_1 : wc.cell? ⟨w4.heap.size, 1, none⟩ = some (.string DA) := (HR.out.at (x := (w4.heap.size, NA, DA)) 5 rfl).cell 1
          have y5 : w4.heap.size < wc.heap.size := (HR.out.at (x := (w4.heap.size, NA, DA)) 5 rfl).lt
          have x6_0 : wc.cell? ⟨w2.heap.size, 0, none⟩ = some (.string NR) := (HR.out.at (x := (w2.heap.size, NR, DR)) 6 rfl).cell 0
          have x6_1 : wc.cell? ⟨w2.heap.size, 1, none⟩ = some (.string DR) := (HR.out.at (x := (w2.heap.size, NR, DR)) 6 rfl).cell 1
          have y6 : w2.heap.size < wc.heap.size := (HR.out.at (x := (w2.heap.size, NR, DR)) 6 rfl).lt
          go_upto_if 116 with (first | (go_at_call 40; (with_reducible refine Calls.mono (KS.out _ (HT.out.next HB.out)) ?_); rintro e w12 ⟨rfl, hb⟩; have hq := HR.out.below hb; have x4_0 : w12.cell? ⟨w5.heap.size, 0, none⟩ = some (.string NB) := (hq.at (x := (w5.heap.size, NB, DB)) 4 rfl).cell 0; have x4_1 : w12.cell? ⟨w5.heap.size, 1, none⟩ = some (.string DB) := (hq.at (x := (w5.heap.size, NB, DB)) 4 rfl).cell 1; have y4 : w5.heap.size < w12.heap.size := (hq.at (x := (w5.heap.size, NB, DB)) 4 rfl).lt; have x5_0 : w12.cell? ⟨w4.heap.size, 0, none⟩ = some (.string NA) := (hq.at (x := (w4.heap.size, NA, DA)) 5 rfl).cell 0; have x5_1 : w12.cell? ⟨w4.heap.size, 1, none⟩ = some (.string DA) := (hq.at (x := (w4.heap.size, NA, DA)) 5 rfl).cell 1; have y5 : w4.heap.size < w12.heap.size := (hq.at (x := (w4.heap.size, NA, DA)) 5 rfl).lt; have x6_0 : w12.cell? ⟨w2.heap.size, 0, none⟩ = some (.string NR) := (hq.at (x := (w2.heap.size, NR, DR)) 6 rfl).cell 0; have x6_1 : w12.cell? ⟨w2.heap.size, 1, none⟩ = some (.string DR) := (hq.at (x := (w2.heap.size, NR, DR)) 6 rfl).cell 1; have y6 : w2.heap.size < w12.heap.size := (hq.at (x := (w2.heap.size, NR, DR)) 6 rfl).lt; replace HR := Lib.hid (hq.cons WN WD); replace HB := Lib.hid (below_to (below_to HB.out hb) (new_below _ (.cells #[.string WN, .string WD] 23))); clear hb hq) | (go_at_call 20; (with_reducible refine Calls.mono (KA.out _ (HT.out.next HB.out)) ?_); rintro e w13 ⟨rfl, hb⟩; have hq := HR.out.below hb; have x0_0 : w13.cell? ⟨w12.heap.size, 0, none⟩ = some (.string WN) := (hq.at (x := (w12.heap.size, WN, WD)) 0 rfl).cell 0; have x0_1 : w13.cell? ⟨w12.heap.size, 1, none⟩ = some (.string WD) := (hq.at (x := (w12.heap.size, WN, WD)) 0 rfl).cell 1; have y0 : w12.heap.size < w13.heap.size := (hq.at (x := (w12.heap.size, WN, WD)) 0 rfl).lt; have x5_0 : w13.cell? ⟨w5.heap.size, 0, none⟩ = some (.string NB) := (hq.at (x := (w5.heap.size, NB, DB)) 5 rfl).cell 0; have x5_1 : w13.cell? ⟨w5.heap.size, 1, none⟩ = some (.string DB) := (hq.at (x := (w5.heap.size, NB, DB)) 5 rfl).cell 1; have y5 : w5.heap.size < w13.heap.size := (hq.at (x := (w5.heap.size, NB, DB)) 5 rfl).lt; replace HR := Lib.hid hq; replace HB := Lib.hid (below_to HB.out hb); clear hb hq) | (go_at_call 41; (with_reducible refine Calls.mono (IS.out _ BT _ (HT.out.next HB.out)) ?_); rintro e w14 ⟨rfl, hb⟩; have hq := HR.out.below hb; have lw14 : w.heap.size ≤ w14.heap.size := (below_to HB.out hb).size; have LSZ : Hid (∀ x ∈ ([(w12.heap.size, WN, WD), (g, NV, ⟨#[49]⟩), (w10.heap.size, NA, DA), (w9.heap.size, NB, DB), (w7.heap.size, NC, DC), (w5.heap.size, NB, DB), (w4.heap.size, NA, DA), (w2.heap.size, NR, DR)] : List (Nat × ByteArray × ByteArray)), x.1 ≠ w14.heap.size) := Lib.hid (fun x hx => Nat.ne_of_lt (hq x hx).lt); have x0_0 : w14.cell? ⟨w12.heap.size, 0, none⟩ = some (.string WN) := (hq.at (x := (w12.heap.size, WN, WD)) 0 rfl).cell 0; have x0_1 : w14.cell? ⟨w12.heap.size, 1, none⟩ = some (.string WD) := (hq.at (x := (w12.heap.size, WN, WD)) 0 rfl).cell 1; have y0 : w12.heap.size < w14.heap.size := (hq.at (x := (w12.heap.size, WN, WD)) 0 rfl).lt; replace HR := Lib.hid (hq.cons ⟨#[49]⟩ BT); replace HB := Lib.hid (below_to (below_to HB.out hb) (new_below _ (.cells #[.string ⟨#[49]⟩, .string BT] 23))); clear hb hq))
          obtain ⟨W14, hW14⟩ : ∃ W0, w14.alloc (.cells #[.string ⟨#[49]⟩, .string BT] 23) = W0 := ⟨_, rfl⟩
          rw [hW14] at HR HB ⊢
          clear hW14
          obtain ⟨xb, hxb⟩ : ∃ xb, (ka == 0) = xb := ⟨_, rfl⟩
          rw [hxb]
          have HXB : Hid ((xb = true ∧ kb = 0 ∧ WN = ⟨#[48]⟩ ∧ WD = ⟨#[49]⟩) ∨ (xb = false ∧ (kb == 0) = false ∧ WN = ⟨#[49]⟩ ∧ WD = BT)) := Lib.hid (by
            rcases HWX.out with ⟨h1, h2, h3, h4⟩ | ⟨h1, h2, h3, h4⟩
            · exact .inl ⟨by rw [← hxb, h1]; rfl, h2, h3, h4⟩
            · exact .inr ⟨by rw [← hxb]; exact beq_eq_false_iff_ne.2 h1, beq_eq_false_iff_ne.2 h2, h3, h4⟩)
          clear hxb HWX ha hb
          go_cut [] (fun wx => Hid (Bxs wx [(w14.heap.size, ⟨#[49]⟩, BT), (w12.heap.size, WN, WD), (g, NV, ⟨#[49]⟩), (w10.heap.size, NA, DA), (w9.heap.size, NB, DB), (w7.heap.size, NC, DC), (w5.heap.size, NB, DB), (w4.heap.size, NA, DA), (w2.heap.size, NR, DR)]) ∧ Hid (Below w.heap.size w wx))
          case first =>
            by_cases hP : p = 0
            · have h6 : ((p : Int) == 0) = true := by rw [hP]; rfl
              have HE : Hid (BT = ⟨#[49]⟩) := Lib.hid (by rw [← HBT.out, hP]; rfl)
              clear hP
              go_wp2_with (first | (go_at_call 41; go_loud ((with_reducible refine Calls.mono (IS.out ⟨#[49]⟩ ⟨#[49]⟩ _ (HT.out.next HB.out)) ?_); rintro e w15 ⟨rfl, hb⟩; have hq := HR.out.below hb; have hrow := hq.at (x := (w14.heap.size, ⟨#[49]⟩, BT)) 0 rfl; obtain ⟨z0, z1, z2, z3⟩ := rat_facts hrow; have hl := HB.out.size; have hl2 := hb.size; replace HR := Lib.hid (hq.over (S := ⟨#[49]⟩) (T := ⟨#[49]⟩) (l' := [(w12.heap.size, WN, WD), (g, NV, ⟨#[49]⟩), (w10.heap.size, NA, DA), (w9.heap.size, NB, DB), (w7.heap.size, NC, DC), (w5.heap.size, NB, DB), (w4.heap.size, NA, DA), (w2.heap.size, NR, DR)]) hrow (fun x hx => ⟨List.mem_cons_of_mem _ hx, LSZ.out x hx⟩)); replace HB := Lib.hid (((below_to HB.out hb).setCell (p := ⟨w14.heap.size, 0, none⟩) (by dsimp only; omega) (.string ⟨#[49]⟩)).setCell (p := ⟨w14.heap.size, 1, none⟩) (by dsimp only; omega) (.string ⟨#[49]⟩)); clear hb hq hrow hl hl2)))
              go_meet
              exact ⟨by rw [HE.out]; exact HR, HB⟩
            · have h6 : ((p : Int) == 0) = false := beq_eq_false_iff_ne.2 (by omega)
              go_wp2_with fail
              go_meet
              exact ⟨HR, HB⟩
          case rest =>
            obtain ⟨HR6, HB6⟩ := hcut
            replace HR := HR6
            replace HB := HB6
            clear HR6 HB6
            go_upto_if 118 with (fail)
            go_cut [] (fun wx => Hid (Bxs wx [(w14.heap.size, WN, WD), (w12.heap.size, WN, WD), (g, NV, ⟨#[49]⟩), (w10.heap.size, NA, DA), (w9.heap.size, NB, DB), (w7.heap.size, NC, DC), (w5.heap.size, NB, DB), (w4.heap.size, NA, DA), (w2.heap.size, NR, DR)]) ∧ Hid (Below w.heap.size w wx))
            case first =>
              rcases HXB.out with ⟨rfl, rfl, rfl, rfl⟩ | ⟨rfl, h2, rfl, rfl⟩
              · go_wp2_with (first | (go_at_call 41; go_loud ((with_reducible refine Calls.mono (IS.out ⟨#[48]⟩ ⟨#[49]⟩ _ (HT.out.next HB.out)) ?_); rintro e w16 ⟨rfl, hb⟩; have hq := HR.out.below hb; have hrow := hq.at (x := (w14.heap.size, ⟨#[49]⟩, BT)) 0 rfl; obtain ⟨z0, z1, z2, z3⟩ := rat_facts hrow; have hl := HB.out.size; have hl2 := hb.size; replace HR := Lib.hid (hq.over (S := ⟨#[48]⟩) (T := ⟨#[49]⟩) (l' := [(w12.heap.size, ⟨#[48]⟩, ⟨#[49]⟩), (g, NV, ⟨#[49]⟩), (w10.heap.size, NA, DA), (w9.heap.size, NB, DB), (w7.heap.size, NC, DC), (w5.heap.size, NB, DB), (w4.heap.size, NA, DA), (w2.heap.size, NR, DR)]) hrow (fun x hx => ⟨List.mem_cons_of_mem _ hx, LSZ.out x hx⟩)); replace HB := Lib.hid (((below_to HB.out hb).setCell (p := ⟨w14.heap.size, 0, none⟩) (by dsimp only; omega) (.string ⟨#[48]⟩)).setCell (p := ⟨w14.heap.size, 1, none⟩) (by dsimp only; omega) (.string ⟨#[49]⟩)); clear hb hq hrow hl hl2)))
                go_meet
                exact ⟨HR, HB⟩
              · clear h2
                go_wp2_with fail
                go_meet
                exact ⟨HR, HB⟩
            case rest =>
              obtain ⟨HR6, HB6⟩ := hcut
              replace HR := HR6
              replace HB := HB6
              clear HR6 HB6
              have x0_0 : wc.cell? ⟨w14.heap.size, 0, none⟩ = some (.string WN) := (HR.out.at (x := (w14.heap.size, WN, WD)) 0 rfl).cell 0
              have x0_1 : wc.cell? ⟨w14.heap.size, 1, none⟩ = some (.string WD) := (HR.out.at (x := (w14.heap.size, WN, WD)) 0 rfl).cell 1
              have y0 : w14.heap.size < wc.heap.size := (HR.out.at (x := (w14.heap.size, WN, WD)) 0 rfl).lt
              have x1_0 : wc.cell? ⟨w12.heap.size, 0, none⟩ = some (.string WN) := (HR.out.at (x := (w12.heap.size, WN, WD)) 1 rfl).cell 0
              have x1_1 : wc.cell? ⟨w12.heap.size, 1, none⟩ = some (.string WD) := (HR.out.at (x := (w12.heap.size, WN, WD)) 1 rfl).cell 1
              have y1 : w12.heap.size < wc.heap.size := (HR.out.at (x := (w12.heap.size, WN, WD)) 1 rfl).lt
              have x2_0 : wc.cell? ⟨g, 0, none⟩ = some (.string NV) := (HR.out.at (x := (g, NV, ⟨#[49]⟩)) 2 rfl).cell 0
              have x2_1 : wc.cell? ⟨g, 1, none⟩ = some (.string ⟨#[49]⟩) := (HR.out.at (x := (g, NV, ⟨#[49]⟩)) 2 rfl).cell 1
              have y2 : g < wc.heap.size := (HR.out.at (x := (g, NV, ⟨#[49]⟩)) 2 rfl).lt
              have x3_0 : wc.cell? ⟨w10.heap.size, 0, none⟩ = some (.string NA) := (HR.out.at (x := (w10.heap.size, NA, DA)) 3 rfl).cell 0
              have x3_1 : wc.cell? ⟨w10.heap.size, 1, none⟩ = some (.string DA) := (HR.out.at (x := (w10.heap.size, NA, DA)) 3 rfl).cell 1
              have y3 : w10.heap.size < wc.heap.size := (HR.out.at (x := (w10.heap.size, NA, DA)) 3 rfl).lt
              have x4_0 : wc.cell? ⟨w9.heap.size, 0, none⟩ = some (.string NB) := (HR.out.at (x := (w9.heap.size, NB, DB)) 4 rfl).cell 0
              have x4_1 : wc.cell? ⟨w9.heap.size, 1, none⟩ = some (.string DB) := (HR.out.at (x := (w9.heap.size, NB, DB)) 4 rfl).cell 1
              have y4 : w9.heap.size < wc.heap.size := (HR.out.at (x := (w9.heap.size, NB, DB)) 4 rfl).lt
              have x5_0 : wc.cell? ⟨w7.heap.size, 0, none⟩ = some (.string NC) := (HR.out.at (x := (w7.heap.size, NC, DC)) 5 rfl).cell 0
              have x5_1 : wc.cell? ⟨w7.heap.size, 1, none⟩ = some (.string DC) := (HR.out.at (x := (w7.heap.size, NC, DC)) 5 rfl).cell 1
              have y5 : w7.heap.size < wc.heap.size := (HR.out.at (x := (w7.heap.size, NC, DC)) 5 rfl).lt
              have x6_0 : wc.cell? ⟨w5.heap.size, 0, none⟩ = some (.string NB) := (HR.out.at (x := (w5.heap.size, NB, DB)) 6 rfl).cell 0
              have x6_1 : wc.cell? ⟨w5.heap.size, 1, none⟩ = some (.string DB) := (HR.out.at (x := (w5.heap.size, NB, DB)) 6 rfl).cell 1
              have y6 : w5.heap.size < wc.heap.size := (HR.out.at (x := (w5.heap.size, NB, DB)) 6 rfl).lt
              have x7_0 : wc.cell? ⟨w4.heap.size, 0, none⟩ = some (.string NA) := (HR.out.at (x := (w4.heap.size, NA, DA)) 7 rfl).cell 0
              have x7_1 : wc.cell? ⟨w4.heap.size, 1, none⟩ = some (.string DA) := (HR.out.at (x := (w4.heap.size, NA, DA)) 7 rfl).cell 1
              have y7 : w4.heap.size < wc.heap.size := (HR.out.at (x := (w4.heap.size, NA, DA)) 7 rfl).lt
              have x8_0 : wc.cell? ⟨w2.heap.size, 0, none⟩ = some (.string NR) := (HR.out.at (x := (w2.heap.size, NR, DR)) 8 rfl).cell 0
              have x8_1 : wc.cell? ⟨w2.heap.size, 1, none⟩ = some (.string DR) := (HR.out.at (x := (w2.heap.size, NR, DR)) 8 rfl).cell 1
              have y8 : w2.heap.size < wc.heap.size := (HR.out.at (x := (w2.heap.size, NR, DR)) 8 rfl).lt
              rcases HXB.out with ⟨rfl, rfl, rfl, rfl⟩ | ⟨rfl, h4, rfl, rfl⟩
              · go_wp2_with (first | (go_at_call 20; (with_reducible refine Calls.mono (KB.out _ (HT.out.next HB.out)) ?_); rintro e w16 ⟨rfl, hb⟩; have hq := HR.out.below hb; replace HR := Lib.hid hq; replace HB := Lib.hid (below_to HB.out hb); clear hb hq))
                go_ret
                exact ⟨rfl, HB.out⟩
              · go_wp2_with (first | (go_at_call 20; (with_reducible refine Calls.mono (KB.out _ (HT.out.next HB.out)) ?_); rintro e w16 ⟨rfl, hb⟩; have hq := HR.out.below hb; replace HR := Lib.hid hq; replace HB := Lib.hid (below_to HB.out hb); clear hb hq))
                go_ret
                exact ⟨rfl, HB.out⟩
end Go.Proofs.YtpphpolhigdnjaaGreatDoor
