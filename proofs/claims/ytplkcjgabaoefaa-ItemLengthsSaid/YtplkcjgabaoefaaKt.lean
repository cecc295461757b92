/- ItemLengths: its walk. -/
import Derived.Test.YtplkcjgabaoefaaKs
import Derived.Test.YtplkcjgabaoefaaKp
namespace Go.Proofs.Ytplkcjgabaoefaa
open Go.RowKit Go.Shelf

theorem lens_few {i : ItemP} (h : OkItem i) : (lensV i).length ≤ 16 := by
  unfold lensV
  rw [(validI_iff i).2 h, if_pos rfl]
  have h1 : (sortC ((cutsL i.trims.length).map (lenI i))).length ≤ (cutsL i.trims.length).length := by
    unfold sortC Lib.compact Lib.compactUpTo
    rw [List.length_map]
    exact Nat.le_trans (List.length_filter_le _ _) (by simp)
  have h2 := (cuts_all ⟨i.trims.length, by have := h.n1; omega⟩).2.2.2
  dsimp only at h2
  have hle : 2 ^ i.trims.length ≤ 2 ^ 4 := Nat.pow_le_pow_right (by omega) h.n1
  omega
set_option maxRecDepth 100000 in
set_option maxHeartbeats 16000000 in
theorem lengths_true (id x0 x1 x2 x3 x4 x5 set : Int) (hid : I64 id) (hx6 : ∀ x ∈ [x0, x1, x2, x3, x4, x5], I64 x) (hset : I64 set) (w : World) :
    Calls Try.prog 4 #[.int .i64 id, .agg #[.int .i64 x0, .int .i64 x1, .int .i64 x2, .int .i64 x3, .int .i64 x4, .int .i64 x5], .int .i64 set] w fun e w' => e = .returned (.bool true) ∧ Below w.heap.size w w' := by
  obtain ⟨z, hzz⟩ : ∃ z, (pickI set 16).toNat = z := ⟨_, rfl⟩
  have hpk := pickI_lt set 16 (by decide)
  have hz : z < 16 := by omega
  obtain ⟨zc, hy⟩ : ∃ zc, 15 - z = zc := ⟨_, rfl⟩
  have HY := Lib.hid hy
  have HZ2 := Lib.hid (show (pickI (zc : Int) 16).toNat = zc by rw [pick_small (by omega) (by omega)]; omega)
  have HZ3 := Lib.hid (show (pickI (15 : Int) 16).toNat = 15 from rfl)
  have z_0 : (0 : Int) ≤ (z : Int) := by omega
  have z_1 : (z : Int) < 16 := by omega
  have z_2 : IntKind.i64.wrap ((15 : Int) - (z : Int)) = (zc : Int) := by rw [show (15 : Int) - (z : Int) = (zc : Int) by omega]; exact IntWalk.i64_in _ (by omega)
  have y_0 : zc < 16 := by omega
  have z_3 : (0 : Int) ≤ (zc : Int) := by omega
  have z_4 : (zc : Int) < 16 := by omega
  clear hy
  go_enter Try.func4, Try.ntmps4
  go_upto_region 5 with (first | (go_at_call 9; (with_reducible refine Calls.mono (sane_any _) ?_); rintro r u1 ⟨rfl, hb⟩; have HBz := Lib.hid (below_to ((Below.refl _ w).alloc (Nat.le_refl _) _) hb); have Bc := Lib.hid (HBz.out); have sz := Bc.out.size; have sc1 := Nat.le_trans (Nat.le_refl w.heap.size) (HBz.out).size; have RX := Lib.hid ((Row.new w 25 #[.int .i64 x0, .int .i64 x1, .int .i64 x2, .int .i64 x3, .int .i64 x4, .int .i64 x5]).below hb (Row.new w 25 #[.int .i64 x0, .int .i64 x1, .int .i64 x2, .int .i64 x3, .int .i64 x4, .int .i64 x5]).lt); have X_0 := RX.out.cell 0; have X_1 := RX.out.cell 1; have X_2 := RX.out.cell 2; have X_3 := RX.out.cell 3; have X_4 := RX.out.cell 4; have X_5 := RX.out.cell 5; have lX := RX.out.lt; clear hb) | (go_at_call 10; (with_reducible refine Calls.mono (rmade_any id x0 x1 x2 x3 x4 x5 hid hx6 _) ?_); rintro r u2 ⟨i, A1, A2, n1, c1, n2, c2, rfl, hok, hit, hb⟩; have Bc := Lib.hid (below_to Bc.out hb); have sz := Bc.out.size; have sc2 := Nat.le_trans (Nat.le_refl u1.heap.size) (hb).size; have RX := Lib.hid (RX.out.below hb RX.out.lt); clear X_0 X_1 X_2 X_3 X_4 X_5 lX; have X_0 := RX.out.cell 0; have X_1 := RX.out.cell 1; have X_2 := RX.out.cell 2; have X_3 := RX.out.cell 3; have X_4 := RX.out.cell 4; have X_5 := RX.out.cell 5; have lX := RX.out.lt; have HIT := Lib.hid hit; have HN1 := Lib.hid hit.lens.1; have HN2 := Lib.hid hit.lens.2; have HOK := Lib.hid hok; obtain ⟨G, n, hf⟩ := cutF_of hok hz; obtain ⟨G2, rest, hf2⟩ := cutF_of hok (show 15 - z < 16 by omega); obtain ⟨G3, least, hf3⟩ := cutF_of hok (show 15 < 16 by omega); have hlf := lenF_of hok hz hf hf2 hf3; rw [HY.out] at hf2; have HL1 := Lib.hid hf.length; have HL2 := Lib.hid hf2.length; have HL3 := Lib.hid hf3.length; have n_0 := hf.lo; have n_1 := hf.hi; have n_2 := hf.len; have r_0 := hf2.lo; have r_1 := hf2.hi; have l_0 := hf3.lo; have l_1 := hf3.hi; obtain ⟨L, hL⟩ : ∃ L, lensV i = L := ⟨_, rfl⟩; rw [hL] at hlf; have HLF := Lib.hid hlf; have HLV := Lib.hid hL; have HPK := Lib.hid (fun u => pick_at (show pickI set 16 = (z : Int) by omega) (by decide) (by decide) hset u); clear hf hf2 hf3 hlf hL; clear hit hok; clear hb) | (go_at_call 14; (with_reducible refine Calls.mono (lens_at HOK.out HLV.out (HIT.out.next ((Below.refl _ u2).alloc (Nat.le_refl _) _))) ?_); rintro r u3 ⟨A5, n5, c5, rfl, h5, hb⟩; have HBz := Lib.hid (below_to ((Below.refl _ u2).alloc (Nat.le_refl _) _) hb); have Bc := Lib.hid (below_to Bc.out HBz.out); have sz := Bc.out.size; have sc3 := Nat.le_trans (Nat.le_refl u2.heap.size) (HBz.out).size; have RX := Lib.hid (RX.out.below HBz.out RX.out.lt); have RI := Lib.hid ((Row.new u2 24 #[.int .i64 i.id, .int .i64 i.kind, .int .i64 i.len, .slice A1 n1 c1, .slice A2 n2 c2, .int .i64 i.artist, .int .i64 i.tempo, .int .i64 i.lang]).below hb (Row.new u2 24 #[.int .i64 i.id, .int .i64 i.kind, .int .i64 i.len, .slice A1 n1 c1, .slice A2 n2 c2, .int .i64 i.artist, .int .i64 i.tempo, .int .i64 i.lang]).lt); clear X_0 X_1 X_2 X_3 X_4 X_5 lX; have X_0 := RX.out.cell 0; have X_1 := RX.out.cell 1; have X_2 := RX.out.cell 2; have X_3 := RX.out.cell 3; have X_4 := RX.out.cell 4; have X_5 := RX.out.cell 5; have lX := RX.out.lt; have I_0 := RI.out.cell 0; have I_1 := RI.out.cell 1; have I_2 := RI.out.cell 2; have I_3 := RI.out.cell 3; have I_4 := RI.out.cell 4; have I_5 := RI.out.cell 5; have I_6 := RI.out.cell 6; have I_7 := RI.out.cell 7; have lI := RI.out.lt; have HIT := Lib.hid (HIT.out.next HBz.out); have HL5 := Lib.hid h5; clear h5; clear hb))
  have HS := Lib.hid (show StL w i A1 n1 c1 A2 n2 c2 u2.heap.size [] none 0 0 u3 from ⟨HIT.out, recs_nil _ _ _ _, RI.out, Bc.out⟩)
  go_region_held3 (fun y => Below u3.heap.size u3 y ∧ y.cell? ⟨u2.heap.size, 0, none⟩ = some (.int .i64 i.id) ∧ y.cell? ⟨u2.heap.size, 1, none⟩ = some (.int .i64 i.kind) ∧ y.cell? ⟨u2.heap.size, 2, none⟩ = some (.int .i64 i.len) ∧ y.cell? ⟨u2.heap.size, 3, none⟩ = some (.slice A1 n1 c1) ∧ y.cell? ⟨u2.heap.size, 4, none⟩ = some (.slice A2 n2 c2) ∧ y.cell? ⟨u2.heap.size, 5, none⟩ = some (.int .i64 i.artist) ∧ y.cell? ⟨u2.heap.size, 6, none⟩ = some (.int .i64 i.tempo) ∧ y.cell? ⟨u2.heap.size, 7, none⟩ = some (.int .i64 i.lang)) (first | assumption | (exact hold8 HS.out.box (Below.drew (Below.refl _ _)))) (first | (go_at_call 22; ((with_reducible refine Calls.mono (cutOf_any set hset i.id i.kind i.len i.artist i.tempo i.lang A1 A2 n1 c1 n2 c2 (by have := HN1.out; have := HOK.out.n1; omega) _) ?_); rintro r w10 ⟨A6, n6, c6, rfl, h6, hb6⟩; rw [HN1.out, hzz] at h6; have HC6 := Lib.hid h6; have hb7 := below_to (‹Below u3.heap.size u3 _ ∧ _›).1 hb6; have hS6 := hold8 HS.out.box hb7; have HB7 := Lib.hid hb7; clear h6 hb6 hb7)) | (go_at_call 24; ((with_reducible refine Calls.mono (length_at HL1.out (HS.out.next HB7.out).it HC6.out) ?_); rintro r w11 ⟨rfl, hb8⟩; have hb9 := below_to HB7.out hb8; have hS7 := hold8 HS.out.box hb9; have HB9 := Lib.hid hb9; clear hb8 hb9)))
  have HS := Lib.hid (HS.out.next HB9.out)
  have HL5 := Lib.hid (HL5.out.next HB9.out)
  have Bc := Lib.hid HS.out.b
  clear I_0 I_1 I_2 I_3 I_4 I_5 I_6 I_7 lI; have I_0 := HS.out.box.cell 0; have I_1 := HS.out.box.cell 1; have I_2 := HS.out.box.cell 2; have I_3 := HS.out.box.cell 3; have I_4 := HS.out.box.cell 4; have I_5 := HS.out.box.cell 5; have I_6 := HS.out.box.cell 6; have I_7 := HS.out.box.cell 7; have lI := HS.out.box.lt
  clear hS6 hS7
  go_upto_region 6 with (fail)
  go_region_held3 (fun y => Below w11.heap.size w11 y ∧ y.cell? ⟨u2.heap.size, 0, none⟩ = some (.int .i64 i.id) ∧ y.cell? ⟨u2.heap.size, 1, none⟩ = some (.int .i64 i.kind) ∧ y.cell? ⟨u2.heap.size, 2, none⟩ = some (.int .i64 i.len) ∧ y.cell? ⟨u2.heap.size, 3, none⟩ = some (.slice A1 n1 c1) ∧ y.cell? ⟨u2.heap.size, 4, none⟩ = some (.slice A2 n2 c2) ∧ y.cell? ⟨u2.heap.size, 5, none⟩ = some (.int .i64 i.artist) ∧ y.cell? ⟨u2.heap.size, 6, none⟩ = some (.int .i64 i.tempo) ∧ y.cell? ⟨u2.heap.size, 7, none⟩ = some (.int .i64 i.lang)) (first | assumption | (exact hold8 HS.out.box (Below.drew (Below.refl _ _)))) (first | (go_at_call 19; ((with_reducible refine Calls.mono (HPK.out _) ?_); rintro r w9 ⟨rfl, rfl⟩)) | (go_at_call 22; ((with_reducible refine Calls.mono (cutOf_any (zc : Int) (by unfold I64; omega) i.id i.kind i.len i.artist i.tempo i.lang A1 A2 n1 c1 n2 c2 (by have := HN1.out; have := HOK.out.n1; omega) _) ?_); rintro r w12 ⟨A6, n6, c6, rfl, h6, hb6⟩; rw [HN1.out, HZ2.out] at h6; have HC6 := Lib.hid h6; have hb7 := below_to (‹Below w11.heap.size w11 _ ∧ _›).1 hb6; have hS6 := hold8 HS.out.box hb7; have HB7 := Lib.hid hb7; clear h6 hb6 hb7)) | (go_at_call 24; ((with_reducible refine Calls.mono (length_at HL2.out (HS.out.next HB7.out).it HC6.out) ?_); rintro r w13 ⟨rfl, hb8⟩; have hb9 := below_to HB7.out hb8; have hS7 := hold8 HS.out.box hb9; have HB9 := Lib.hid hb9; clear hb8 hb9)))
  have HS := Lib.hid (HS.out.next HB9.out)
  have HL5 := Lib.hid (HL5.out.next HB9.out)
  have Bc := Lib.hid HS.out.b
  clear I_0 I_1 I_2 I_3 I_4 I_5 I_6 I_7 lI; have I_0 := HS.out.box.cell 0; have I_1 := HS.out.box.cell 1; have I_2 := HS.out.box.cell 2; have I_3 := HS.out.box.cell 3; have I_4 := HS.out.box.cell 4; have I_5 := HS.out.box.cell 5; have I_6 := HS.out.box.cell 6; have I_7 := HS.out.box.cell 7; have lI := HS.out.box.lt
  clear hS6 hS7
  go_upto_region 7 with (fail)
  go_region_held3 (fun y => Below w13.heap.size w13 y ∧ y.cell? ⟨u2.heap.size, 0, none⟩ = some (.int .i64 i.id) ∧ y.cell? ⟨u2.heap.size, 1, none⟩ = some (.int .i64 i.kind) ∧ y.cell? ⟨u2.heap.size, 2, none⟩ = some (.int .i64 i.len) ∧ y.cell? ⟨u2.heap.size, 3, none⟩ = some (.slice A1 n1 c1) ∧ y.cell? ⟨u2.heap.size, 4, none⟩ = some (.slice A2 n2 c2) ∧ y.cell? ⟨u2.heap.size, 5, none⟩ = some (.int .i64 i.artist) ∧ y.cell? ⟨u2.heap.size, 6, none⟩ = some (.int .i64 i.tempo) ∧ y.cell? ⟨u2.heap.size, 7, none⟩ = some (.int .i64 i.lang)) (first | assumption | (exact hold8 HS.out.box (Below.drew (Below.refl _ _)))) (first | (go_at_call 22; ((with_reducible refine Calls.mono (cutOf_any 15 (by unfold I64; omega) i.id i.kind i.len i.artist i.tempo i.lang A1 A2 n1 c1 n2 c2 (by have := HN1.out; have := HOK.out.n1; omega) _) ?_); rintro r w14 ⟨A6, n6, c6, rfl, h6, hb6⟩; rw [HN1.out, HZ3.out] at h6; have HC6 := Lib.hid h6; have hb7 := below_to (‹Below w13.heap.size w13 _ ∧ _›).1 hb6; have hS6 := hold8 HS.out.box hb7; have HB7 := Lib.hid hb7; clear h6 hb6 hb7)) | (go_at_call 24; ((with_reducible refine Calls.mono (length_at HL3.out (HS.out.next HB7.out).it HC6.out) ?_); rintro r w15 ⟨rfl, hb8⟩; have hb9 := below_to HB7.out hb8; have hS7 := hold8 HS.out.box hb9; have HB9 := Lib.hid hb9; clear hb8 hb9)))
  have HS := Lib.hid (HS.out.next HB9.out)
  have HL5 := Lib.hid (HL5.out.next HB9.out)
  have Bc := Lib.hid HS.out.b
  clear I_0 I_1 I_2 I_3 I_4 I_5 I_6 I_7 lI; have I_0 := HS.out.box.cell 0; have I_1 := HS.out.box.cell 1; have I_2 := HS.out.box.cell 2; have I_3 := HS.out.box.cell 3; have I_4 := HS.out.box.cell 4; have I_5 := HS.out.box.cell 5; have I_6 := HS.out.box.cell 6; have I_7 := HS.out.box.cell 7; have lI := HS.out.box.lt
  clear hS6 hS7
  have hN5 := recs_cap HL5.out
  have HN5 := Lib.hid hN5.1
  obtain ⟨N, hN⟩ : ∃ N, n5 = N + 1 := ⟨n5 - 1, by have := HLF.out.ne; omega⟩
  have hn9 : N ≤ 15 := by have := lens_few HOK.out; rw [HLV.out] at this; omega
  subst hN
  obtain ⟨g5, o5, rfl, hg5, a0⟩ := cell1_at HL5.out HLF.out.first
  rw [Nat.add_zero] at a0
  have hlast := HLF.out.last
  rw [← HN5.out, Nat.add_sub_cancel] at hlast
  obtain ⟨g6, o6, hgo, -, a1⟩ := cell1_at HL5.out hlast
  injection hgo with hgo
  obtain ⟨rfl, rfl⟩ : g5 = g6 ∧ o5 = o6 := ⟨congrArg Addr.block hgo, congrArg Addr.off hgo⟩
  have t_0 := HLF.out.two
  have e1 : (n + rest != least + i.len) = false := by rw [t_0]; simp
  have e2 : decide (least < 1) = false := decide_eq_false (by omega)
  have N_0 : (0 : Int) ≤ (N : Int) := by omega
  have N_1 : (N : Int) ≤ 15 := by omega
  have N_2 : N < N + 1 := by omega
  have e3 : ((N : Int) + 1 == 0) = false := beq_eq_false_iff_ne.2 (by omega)
  have l_2 : least ≤ 3600 := by omega
  clear hN5 hlast hgo
  go_upto_region 8 with (fail)
  go_quiet (fail)
  go_wp2
  go_loopw [16, 17] (fun f k wr => ∃ (K F : Nat), f = .int .i64 (F : Int) ∧ k = .int .i64 (K : Int) ∧ K ≤ N + 1 ∧ Hid (F = cnt2 n rest (L.take K)) ∧ Hid (StL w i A1 n1 c1 A2 n2 c2 u2.heap.size [] none 0 0 wr) ∧ Hid (Recs enc1 1 wr wr.heap.size (.slice (some ⟨g5, o5, none⟩) (N + 1) c5) L)) (fun _ k _ => N + 1 - (intOf k).toNat)
  case atStart => exact ⟨0, 0, rfl, rfl, Nat.zero_le _, Lib.hid rfl, Lib.hid (HS.out.next (belowN (Below.refl _ _) _)), Lib.hid (HL5.out.next (belowN (Below.refl _ _) _))⟩
  case round =>
    clear HS HL5 I_0 I_1 I_2 I_3 I_4 I_5 I_6 I_7 lI a0 a1
    obtain ⟨K, F, rfl, rfl, hK, HFF, HS, HL5⟩ := hrel
    have I_0 := HS.out.box.cell 0; have I_1 := HS.out.box.cell 1; have I_2 := HS.out.box.cell 2; have I_3 := HS.out.box.cell 3; have I_4 := HS.out.box.cell 4; have I_5 := HS.out.box.cell 5; have I_6 := HS.out.box.cell 6; have I_7 := HS.out.box.cell 7; have lI := HS.out.box.lt
    have Bc := Lib.hid HS.out.b
    have k_0 : (0 : Int) ≤ (K : Int) := by omega
    have F_0 : (0 : Int) ≤ (F : Int) := by omega
    have F_1 : (F : Int) ≤ 16 := by
      have h1 := cnt2_le n rest (L.take K); have h2 := lens_few HOK.out
      rw [HLV.out] at h2; rw [List.length_take, ← HFF.out] at h1
      omega
    by_cases hlt : K < N + 1
    · have k_1 : (K : Int) < (N : Int) + 1 := by omega
      obtain ⟨x, hx⟩ : ∃ x, L[K]? = some x := ⟨_, List.getElem?_eq_getElem (by rw [← HN5.out]; exact hlt)⟩
      obtain ⟨M, hM⟩ : ∃ M, N - K = M := ⟨_, rfl⟩
      obtain ⟨v, hv⟩ : ∃ v, L[M]? = some v := ⟨_, List.getElem?_eq_getElem (by rw [← HN5.out]; omega)⟩
      have hmir := HLF.out.mir K x v hx (by rw [← HN5.out, Nat.add_sub_cancel, hM]; exact hv)
      have hxb := HLF.out.bd x (List.mem_of_getElem? hx)
      have hvb := HLF.out.bd v (List.mem_of_getElem? hv)
      have HNX := Lib.hid (cnt2_snoc n rest hx)
      obtain ⟨g6, o6, hgo, hg6, b0⟩ := cell1_at HL5.out hx
      injection hgo with hgo
      obtain ⟨rfl, rfl⟩ : g5 = g6 ∧ o5 = o6 := ⟨congrArg Addr.block hgo, congrArg Addr.off hgo⟩
      obtain ⟨g6, o6, hgo2, -, b1⟩ := cell1_at HL5.out hv
      injection hgo2 with hgo2
      obtain ⟨rfl, rfl⟩ : g5 = g6 ∧ o5 = o6 := ⟨congrArg Addr.block hgo2, congrArg Addr.off hgo2⟩
      have k_M : (N : Int) - (K : Int) = (M : Int) := by omega
      have k_W : IntKind.i64.wrap ((N : Int) - (K : Int)) = (M : Int) := by rw [k_M]; exact IntWalk.i64_in _ (by omega)
      have M_0 : (0 : Int) ≤ (M : Int) := by omega
      have M_1 : (M : Int) < (N : Int) + 1 := by omega
      have M_2 : M < N + 1 := by omega
      have e4 : (x + v != least + i.len) = false := by rw [hmir]; simp
      have x_0 := hxb.1
      have x_1 : x ≤ 3600 := by omega
      have v_0 := hvb.1
      have v_1 : v ≤ 3600 := by omega
      clear hmir hxb hvb hgo hgo2 hM hv
      cases K with
      | zero =>
        obtain rfl : M = N := by omega
        rw [Nat.add_zero] at b0
        clear hx k_M k_W k_0 k_1
        go_wp2
        go_quiet (fail)
        by_cases hxn : x = n
        · have f1 : (x == n) = true := by simp [hxn]
          have HN := Lib.hid (show cnt2 n rest (L.take (1)) = F + 1 by rw [HNX.out, if_pos (.inl hxn), ← HFF.out])
          clear hxn
          go_wp2
          go_roundw
          case rel => exact ⟨1, F + 1, by go_num, by go_num, by omega, Lib.hid HN.out.symm, Lib.hid (HS.out.next (belowN (Below.refl _ _) _)), Lib.hid (HL5.out.next (belowN (Below.refl _ _) _))⟩
          case measure => simp [intOf] <;> omega
        · have f1 : (x == n) = false := beq_eq_false_iff_ne.2 hxn
          by_cases hxr : x = rest
          · have f2 : (x == rest) = true := by simp [hxr]
            have HN := Lib.hid (show cnt2 n rest (L.take (1)) = F + 1 by rw [HNX.out, if_pos (.inr hxr), ← HFF.out])
            clear hxn hxr
            go_wp2
            go_roundw
            case rel => exact ⟨1, F + 1, by go_num, by go_num, by omega, Lib.hid HN.out.symm, Lib.hid (HS.out.next (belowN (Below.refl _ _) _)), Lib.hid (HL5.out.next (belowN (Below.refl _ _) _))⟩
            case measure => simp [intOf] <;> omega
          · have f2 : (x == rest) = false := beq_eq_false_iff_ne.2 hxr
            have HN := Lib.hid (show cnt2 n rest (L.take (1)) = F by rw [HNX.out, if_neg (fun h => h.elim hxn hxr), ← HFF.out]; rfl)
            clear hxn hxr
            go_wp2
            go_roundw
            case rel => exact ⟨1, F, by go_num, by go_num, by omega, Lib.hid HN.out.symm, Lib.hid (HS.out.next (belowN (Below.refl _ _) _)), Lib.hid (HL5.out.next (belowN (Below.refl _ _) _))⟩
            case measure => simp [intOf] <;> omega
      | succ K =>
        obtain ⟨p, hp⟩ : ∃ p, L[K]? = some p := ⟨_, List.getElem?_eq_getElem (by rw [← HN5.out]; omega)⟩
        have hasc : p < x := by
          obtain ⟨h1, h2⟩ := List.getElem?_eq_some_iff.1 hp
          obtain ⟨h3, h4⟩ := List.getElem?_eq_some_iff.1 hx
          have := asc_at HLF.out.asc (show K < K + 1 by omega) h3
          rw [h2, h4] at this; exact this
        obtain ⟨g6, o6, hgo, -, b2⟩ := cell1_at HL5.out hp
        injection hgo with hgo
        obtain ⟨rfl, rfl⟩ : g5 = g6 ∧ o5 = o6 := ⟨congrArg Addr.block hgo, congrArg Addr.off hgo⟩
        have e5 : decide (x ≤ p) = false := decide_eq_false (by omega)
        have k_2 : (0 : Int) ≤ (K : Int) := by omega
        have k_3 : K < N + 1 := by omega
        have k_M2 : (N : Int) - ((K : Int) + 1) = (M : Int) := by omega
        have k_W2 : IntKind.i64.wrap ((N : Int) - ((K : Int) + 1)) = (M : Int) := by rw [k_M2]; exact IntWalk.i64_in _ (by omega)
        clear hx hp hasc hgo k_M k_W
        go_wp2
        go_quiet (fail)
        by_cases hxn : x = n
        · have f1 : (x == n) = true := by simp [hxn]
          have HN := Lib.hid (show cnt2 n rest (L.take (K + 1 + 1)) = F + 1 by rw [HNX.out, if_pos (.inl hxn), ← HFF.out])
          clear hxn
          go_wp2
          go_roundw
          case rel => exact ⟨K + 1 + 1, F + 1, by go_num, by go_num, by omega, Lib.hid HN.out.symm, Lib.hid (HS.out.next (belowN (Below.refl _ _) _)), Lib.hid (HL5.out.next (belowN (Below.refl _ _) _))⟩
          case measure => simp [intOf] <;> omega
        · have f1 : (x == n) = false := beq_eq_false_iff_ne.2 hxn
          by_cases hxr : x = rest
          · have f2 : (x == rest) = true := by simp [hxr]
            have HN := Lib.hid (show cnt2 n rest (L.take (K + 1 + 1)) = F + 1 by rw [HNX.out, if_pos (.inr hxr), ← HFF.out])
            clear hxn hxr
            go_wp2
            go_roundw
            case rel => exact ⟨K + 1 + 1, F + 1, by go_num, by go_num, by omega, Lib.hid HN.out.symm, Lib.hid (HS.out.next (belowN (Below.refl _ _) _)), Lib.hid (HL5.out.next (belowN (Below.refl _ _) _))⟩
            case measure => simp [intOf] <;> omega
          · have f2 : (x == rest) = false := beq_eq_false_iff_ne.2 hxr
            have HN := Lib.hid (show cnt2 n rest (L.take (K + 1 + 1)) = F by rw [HNX.out, if_neg (fun h => h.elim hxn hxr), ← HFF.out]; rfl)
            clear hxn hxr
            go_wp2
            go_roundw
            case rel => exact ⟨K + 1 + 1, F, by go_num, by go_num, by omega, Lib.hid HN.out.symm, Lib.hid (HS.out.next (belowN (Below.refl _ _) _)), Lib.hid (HL5.out.next (belowN (Below.refl _ _) _))⟩
            case measure => simp [intOf] <;> omega
    · have k_1 : ¬ (K : Int) < (N : Int) + 1 := by omega
      have hF := HFF.out
      rw [List.take_of_length_le (by rw [← HN5.out]; omega)] at hF
      by_cases hnr : n = rest
      · have h1 := HLF.out.c.1 hnr
        have f1 : (n == rest) = true := by simp [hnr]
        rw [h1] at hF
        subst hF
        clear hnr
        go_wp2
        go_ret
        exact ⟨rfl, Bc.out⟩
      · have h1 := HLF.out.c.2 hnr
        have f1 : (n == rest) = false := beq_eq_false_iff_ne.2 hnr
        rw [h1] at hF
        subst hF
        clear hnr
        go_wp2
        go_ret
        exact ⟨rfl, Bc.out⟩
end Go.Proofs.Ytplkcjgabaoefaa
