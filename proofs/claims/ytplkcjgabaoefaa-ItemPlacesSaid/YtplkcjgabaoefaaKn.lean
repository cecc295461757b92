/- ItemPlaces: its walk. -/
import Derived.Test.YtplkcjgabaoefaaKm
namespace Go.Proofs.Ytplkcjgabaoefaa
open Go.RowKit Go.Shelf

set_option maxRecDepth 100000 in
set_option maxHeartbeats 16000000 in
theorem places_true (id x0 x1 x2 x3 x4 x5 set second : Int) (hid : I64 id) (hx6 : ∀ x ∈ [x0, x1, x2, x3, x4, x5], I64 x) (hset : I64 set) (hsec : I64 second) (w : World) :
    Calls Try.prog 6 #[.int .i64 id, .agg #[.int .i64 x0, .int .i64 x1, .int .i64 x2, .int .i64 x3, .int .i64 x4, .int .i64 x5], .int .i64 set, .int .i64 second] w fun e w' => e = .returned (.bool true) ∧ Below w.heap.size w w' := by
  obtain ⟨z, hzz⟩ : ∃ z, (pickI set 16).toNat = z := ⟨_, rfl⟩
  have hz : z < 16 := by have := pickI_lt set 16 (by decide); omega
  go_enter Try.func6, Try.ntmps6
  go_upto_if 92 with (first | (go_at_call 9; (with_reducible refine Calls.mono (sane_any _) ?_); rintro r u1 ⟨rfl, hb⟩; have HBz := Lib.hid (below_to ((Below.refl _ w).alloc (Nat.le_refl _) _) hb); have Bc := Lib.hid (HBz.out); have sz := Bc.out.size; have sc1 := Nat.le_trans (Nat.le_refl w.heap.size) (HBz.out).size; have RX := Lib.hid ((Row.new w 25 #[.int .i64 x0, .int .i64 x1, .int .i64 x2, .int .i64 x3, .int .i64 x4, .int .i64 x5]).below hb (Row.new w 25 #[.int .i64 x0, .int .i64 x1, .int .i64 x2, .int .i64 x3, .int .i64 x4, .int .i64 x5]).lt); have X_0 := RX.out.cell 0; have X_1 := RX.out.cell 1; have X_2 := RX.out.cell 2; have X_3 := RX.out.cell 3; have X_4 := RX.out.cell 4; have X_5 := RX.out.cell 5; have lX := RX.out.lt; clear hb) | (go_at_call 10; (with_reducible refine Calls.mono (rmade_any id x0 x1 x2 x3 x4 x5 hid hx6 _) ?_); rintro r u2 ⟨i, A1, A2, n1, c1, n2, c2, rfl, hok, hit, hb⟩; have Bc := Lib.hid (below_to Bc.out hb); have sz := Bc.out.size; have sc2 := Nat.le_trans (Nat.le_refl u1.heap.size) (hb).size; have RX := Lib.hid (RX.out.below hb RX.out.lt); clear X_0 X_1 X_2 X_3 X_4 X_5 lX; have X_0 := RX.out.cell 0; have X_1 := RX.out.cell 1; have X_2 := RX.out.cell 2; have X_3 := RX.out.cell 3; have X_4 := RX.out.cell 4; have X_5 := RX.out.cell 5; have lX := RX.out.lt; have HIT := Lib.hid hit; have HN1 := Lib.hid hit.lens.1; have HN2 := Lib.hid hit.lens.2; have HOK := Lib.hid hok; obtain ⟨G, n, hcf⟩ := cutF_of hok hz; have HF := Lib.hid hcf; have n_0 := hcf.lo; have n_1 := hcf.hi; have n_2 := hcf.len; have HLEN := Lib.hid hcf.length; have HFAR := Lib.hid hcf.far; have hat := pickI_lt second n (by omega); obtain ⟨at_, hat2⟩ : ∃ a, pickI second n = a := ⟨_, rfl⟩; rw [hat2] at hat; have a_0 := hat.1; have a_1 := hat.2; have HPN := Lib.hid (fun u => pick_at hat2 (by omega) (by omega) hsec u); have hpl := hcf.pl_lt a_0 a_1; have HP1 := Lib.hid (hcf.place a_0 a_1); have HB1 := Lib.hid (hcf.back a_0 a_1); obtain ⟨p, hp⟩ : ∃ p, pl G at_ = p := ⟨_, rfl⟩; rw [hp] at hpl HP1 HB1; have HPL := Lib.hid hp; have p_0 := hpl.1; have p_1 := hpl.2.1; obtain ⟨C, hC⟩ : ∃ C, zi (bitsL i.trims.length z) = C := ⟨_, rfl⟩; rw [hC] at HLEN HFAR HP1 HB1; have HCC := Lib.hid hC; have v0 : ¬ n < 1 := (by omega); have v1 : ¬ i.len < n := (by omega); have v2 : ¬ p < at_ := (by omega); clear hcf hat hat2 hpl hp hC; clear hit hok; clear hb) | (go_at_call 22; (with_reducible refine Calls.mono (cutOf_any set hset i.id i.kind i.len i.artist i.tempo i.lang A1 A2 n1 c1 n2 c2 (by have := HN1.out; have := HOK.out.n1; omega) _) ?_); rintro r u3 ⟨A3, n3, c3, rfl, h3, hb⟩; have HBz := Lib.hid (below_to ((Below.refl _ u2).alloc (Nat.le_refl _) _) hb); have Bc := Lib.hid (below_to Bc.out HBz.out); have sz := Bc.out.size; have sc3 := Nat.le_trans (Nat.le_refl u2.heap.size) (HBz.out).size; have RX := Lib.hid (RX.out.below HBz.out RX.out.lt); have RI := Lib.hid ((Row.new u2 24 #[.int .i64 i.id, .int .i64 i.kind, .int .i64 i.len, .slice A1 n1 c1, .slice A2 n2 c2, .int .i64 i.artist, .int .i64 i.tempo, .int .i64 i.lang]).below hb (Row.new u2 24 #[.int .i64 i.id, .int .i64 i.kind, .int .i64 i.len, .slice A1 n1 c1, .slice A2 n2 c2, .int .i64 i.artist, .int .i64 i.tempo, .int .i64 i.lang]).lt); clear X_0 X_1 X_2 X_3 X_4 X_5 lX; have X_0 := RX.out.cell 0; have X_1 := RX.out.cell 1; have X_2 := RX.out.cell 2; have X_3 := RX.out.cell 3; have X_4 := RX.out.cell 4; have X_5 := RX.out.cell 5; have lX := RX.out.lt; have I_0 := RI.out.cell 0; have I_1 := RI.out.cell 1; have I_2 := RI.out.cell 2; have I_3 := RI.out.cell 3; have I_4 := RI.out.cell 4; have I_5 := RI.out.cell 5; have I_6 := RI.out.cell 6; have I_7 := RI.out.cell 7; have lI := RI.out.lt; have HIT := Lib.hid (HIT.out.next HBz.out); rw [HN1.out, hzz, HCC.out] at h3; have HS := Lib.hid (StL.mk HIT.out h3 RI.out Bc.out); clear h3; clear hb) | (go_at_call 24; (with_reducible refine Calls.mono (length_at HLEN.out HS.out.it HS.out.c) ?_); rintro r u4 ⟨rfl, hb⟩; have Bc := Lib.hid (below_to Bc.out hb); have sz := Bc.out.size; have sc4 := Nat.le_trans (Nat.le_refl u3.heap.size) (hb).size; have HS := Lib.hid (HS.out.next hb); clear I_0 I_1 I_2 I_3 I_4 I_5 I_6 I_7 lI; have I_0 := HS.out.box.cell 0; have I_1 := HS.out.box.cell 1; have I_2 := HS.out.box.cell 2; have I_3 := HS.out.box.cell 3; have I_4 := HS.out.box.cell 4; have I_5 := HS.out.box.cell 5; have I_6 := HS.out.box.cell 6; have I_7 := HS.out.box.cell 7; have lI := HS.out.box.lt; clear hb) | (go_at_call 19; (with_reducible refine Calls.mono (HPN.out _) ?_); rintro r w9 ⟨rfl, rfl⟩) | (go_at_call 29; (with_reducible refine Calls.mono (place_at HP1.out HS.out.it HS.out.c) ?_); rintro r u5 ⟨rfl, hb⟩; have Bc := Lib.hid (below_to Bc.out hb); have sz := Bc.out.size; have sc5 := Nat.le_trans (Nat.le_refl u4.heap.size) (hb).size; have HS := Lib.hid (HS.out.next hb); clear I_0 I_1 I_2 I_3 I_4 I_5 I_6 I_7 lI; have I_0 := HS.out.box.cell 0; have I_1 := HS.out.box.cell 1; have I_2 := HS.out.box.cell 2; have I_3 := HS.out.box.cell 3; have I_4 := HS.out.box.cell 4; have I_5 := HS.out.box.cell 5; have I_6 := HS.out.box.cell 6; have I_7 := HS.out.box.cell 7; have lI := HS.out.box.lt; clear hb) | (go_at_call 31; (with_reducible refine Calls.mono (heard_at HB1.out HS.out.it HS.out.c) ?_); rintro r u6 ⟨rfl, hb⟩; have Bc := Lib.hid (below_to Bc.out hb); have sz := Bc.out.size; have sc6 := Nat.le_trans (Nat.le_refl u5.heap.size) (hb).size; have HS := Lib.hid (HS.out.next hb); clear I_0 I_1 I_2 I_3 I_4 I_5 I_6 I_7 lI; have I_0 := HS.out.box.cell 0; have I_1 := HS.out.box.cell 1; have I_2 := HS.out.box.cell 2; have I_3 := HS.out.box.cell 3; have I_4 := HS.out.box.cell 4; have I_5 := HS.out.box.cell 5; have I_6 := HS.out.box.cell 6; have I_7 := HS.out.box.cell 7; have lI := HS.out.box.lt; clear hb))
  go_cut [18] from 19 to 133 (fun _ wx => Hid (StL w i A1 n1 c1 A2 n2 c2 u2.heap.size C A3 n3 c3 wx))
  case first =>
    have a_2 : at_ < 4000 := by omega
    by_cases hlt : at_ + 1 < n
    · have hp2 := HF.out.pl_lt (show 0 ≤ at_ + 1 by omega) hlt
      have has := HF.out.ascends a_0 hlt
      have HP2 := Lib.hid (HF.out.place (show 0 ≤ at_ + 1 by omega) hlt)
      have HSKP := Lib.hid (fun k (h1 : p < k) (h2 : k < pl G (at_ + 1)) => HF.out.skipped a_0 hlt (by rw [HPL.out]; exact h1) h2)
      obtain ⟨q, hq⟩ : ∃ q, pl G (at_ + 1) = q := ⟨_, rfl⟩
      rw [hq] at hp2 has HSKP HP2
      rw [HPL.out] at has
      rw [HCC.out] at HP2 HSKP
      have q_0 := hp2.2.1
      have q_1 : ¬ q ≤ p := by omega
      have p_2 : p < 4000 := by omega
      clear hp2 hq
      go_wp2_with (first | (go_at_call 29; (with_reducible refine Calls.mono (place_at HP2.out HS.out.it HS.out.c) ?_); rintro r u7 ⟨rfl, hb⟩; have Bc := Lib.hid (below_to Bc.out hb); have sz := Bc.out.size; have sc7 := Nat.le_trans (Nat.le_refl u6.heap.size) (hb).size; have HS := Lib.hid (HS.out.next hb); clear I_0 I_1 I_2 I_3 I_4 I_5 I_6 I_7 lI; have I_0 := HS.out.box.cell 0; have I_1 := HS.out.box.cell 1; have I_2 := HS.out.box.cell 2; have I_3 := HS.out.box.cell 3; have I_4 := HS.out.box.cell 4; have I_5 := HS.out.box.cell 5; have I_6 := HS.out.box.cell 6; have I_7 := HS.out.box.cell 7; have lI := HS.out.box.lt; clear hb))
      go_loopw [20] (fun k wr => ∃ K : Int, k = .int .i64 K ∧ p + 1 ≤ K ∧ K ≤ q ∧ Hid (StL w i A1 n1 c1 A2 n2 c2 u2.heap.size C A3 n3 c3 wr)) (fun k _ => (q - intOf k).toNat)
      case atStart => exact ⟨p + 1, rfl, by omega, by omega, HS⟩
      case round =>
        clear HS I_0 I_1 I_2 I_3 I_4 I_5 I_6 I_7 lI
        obtain ⟨K, rfl, k_0, k_1, HS⟩ := hrel
        have I_0 := HS.out.box.cell 0; have I_1 := HS.out.box.cell 1; have I_2 := HS.out.box.cell 2; have I_3 := HS.out.box.cell 3; have I_4 := HS.out.box.cell 4; have I_5 := HS.out.box.cell 5; have I_6 := HS.out.box.cell 6; have I_7 := HS.out.box.cell 7; have lI := HS.out.box.lt
        have Bc := Lib.hid HS.out.b
        by_cases hK : K < q
        · have HSK := Lib.hid (HSKP.out K (by omega) hK)
          have k_2 : K < i.len := by omega
          have k_3 : 0 ≤ K := by omega
          have k_4 : K < 4000 := by omega
          go_wp2_with (first | (go_at_call 31; (with_reducible refine Calls.mono (heard_at HSK.out HS.out.it HS.out.c) ?_); rintro r u8 ⟨rfl, hb⟩; have Bc := Lib.hid (below_to Bc.out hb); have sz := Bc.out.size; have sc8 := Nat.le_trans (Nat.le_refl wr.heap.size) (hb).size; have HS := Lib.hid (HS.out.next hb); clear I_0 I_1 I_2 I_3 I_4 I_5 I_6 I_7 lI; have I_0 := HS.out.box.cell 0; have I_1 := HS.out.box.cell 1; have I_2 := HS.out.box.cell 2; have I_3 := HS.out.box.cell 3; have I_4 := HS.out.box.cell 4; have I_5 := HS.out.box.cell 5; have I_6 := HS.out.box.cell 6; have I_7 := HS.out.box.cell 7; have lI := HS.out.box.lt; clear hb))
          go_roundw
          case rel => exact ⟨K + 1, rfl, by omega, by omega, HS⟩
          case measure => simp [intOf]; omega
        · have k_2 : K = q := by omega
          go_wp2
          go_meet
          exact HS
    · go_wp2_with fail
      go_meet
      exact HS
  case rest =>
    clear HS I_0 I_1 I_2 I_3 I_4 I_5 I_6 I_7 lI
    have HS := hcut
    clear hcut
    have I_0 := HS.out.box.cell 0; have I_1 := HS.out.box.cell 1; have I_2 := HS.out.box.cell 2; have I_3 := HS.out.box.cell 3; have I_4 := HS.out.box.cell 4; have I_5 := HS.out.box.cell 5; have I_6 := HS.out.box.cell 6; have I_7 := HS.out.box.cell 7; have lI := HS.out.box.lt
    have Bc := Lib.hid HS.out.b
    have hs := pickI_lt second i.len (by omega)
    obtain ⟨s, hs2⟩ : ∃ s, pickI second i.len = s := ⟨_, rfl⟩
    rw [hs2] at hs
    have s_0 := hs.1
    have s_1 := hs.2
    have HPS := Lib.hid (fun u => pick_at hs2 (by omega) (by omega) hsec u)
    obtain ⟨m, hm1, hm2, hm3⟩ := HF.out.second s_0 s_1
    rw [HCC.out] at hm1
    have HM1 := Lib.hid hm1; have HM2 := Lib.hid hm2
    have HDL := Lib.hid (show n3 = (bitsL i.trims.length z).length by rw [(recs_cap HS.out.c).1, ← HCC.out]; simp [zi])
    have hn9 : n3 ≤ 4 := by have := bitsL_len i.trims.length z; have := HDL.out; have := HOK.out.n1; omega
    have HBC := Lib.hid (bits_cut HOK.out.n1 hz)
    clear hm1 hm2 hs hs2
    go_wp2_with (go_at_call 19; (with_reducible refine Calls.mono (HPS.out _) ?_); rintro r w9 ⟨rfl, rfl⟩)
    go_loopw [24, 25] (fun lf k wr => ∃ (K : Nat) (b : Bool), lf = .bool b ∧ k = .int .i64 (K : Int) ∧ K ≤ n3 ∧ Hid (b = inP (goneL i.trims ((bitsL i.trims.length z).take K)) s) ∧ Hid (StL w i A1 n1 c1 A2 n2 c2 u2.heap.size C A3 n3 c3 wr)) (fun _ k _ => n3 - (intOf k).toNat)
    case atStart => exact ⟨0, false, rfl, rfl, Nat.zero_le _, Lib.hid rfl, HS⟩
    case round =>
      clear HS I_0 I_1 I_2 I_3 I_4 I_5 I_6 I_7 lI
      obtain ⟨K, b, rfl, rfl, hK, HBB, HS⟩ := hrel
      have I_0 := HS.out.box.cell 0; have I_1 := HS.out.box.cell 1; have I_2 := HS.out.box.cell 2; have I_3 := HS.out.box.cell 3; have I_4 := HS.out.box.cell 4; have I_5 := HS.out.box.cell 5; have I_6 := HS.out.box.cell 6; have I_7 := HS.out.box.cell 7; have lI := HS.out.box.lt
      have Bc := Lib.hid HS.out.b
      have k_0 : (0 : Int) ≤ (K : Int) := by omega
      by_cases hlt : K < n3
      · have k_1 : (K : Int) < (n3 : Int) := by omega
        obtain ⟨d, hd⟩ : ∃ d, (bitsL i.trims.length z)[K]? = some d := ⟨_, List.getElem?_eq_getElem (by rw [← HDL.out]; exact hlt)⟩
        have hdl : d < i.trims.length := by
          obtain ⟨h1, h2⟩ := List.getElem?_eq_some_iff.1 hd
          rw [← h2]; exact isCut_at HBC.out h1
        obtain ⟨q, hq⟩ : ∃ q, i.trims[d]? = some q := ⟨_, List.getElem?_eq_getElem hdl⟩
        have HNX := Lib.hid (gone_snoc i.trims (bitsL i.trims.length z) hd hq s)
        obtain ⟨g3, o3, hA3, hg3, a0⟩ := cell1_at HS.out.c (show C[K]? = some (d : Int) by rw [← HCC.out]; exact zi_get hd)
        obtain ⟨g1, o1, hA1, hg1, t0, t1⟩ := cell2_at HS.out.it.t hq
        obtain ⟨q1, q2⟩ := q
        dsimp only at t0 t1 HNX
        rw [← HBB.out] at HNX
        have d_0 : (0 : Int) ≤ (d : Int) := by omega
        have d_1 : (d : Int) < (n1 : Int) := by rw [HN1.out]; omega
        have d_2 : d < n1 := by rw [HN1.out]; omega
        clear hq hd hdl
        subst hA1 hA3
        cases b with
        | true =>
          have HNX2 := Lib.hid (HNX.out.trans (Bool.true_or _))
          go_wp2
          go_quiet (fail)
          all_goals (
            go_wp2
            go_roundw
            case rel => exact ⟨K + 1, true, rfl, by go_num, by omega, Lib.hid HNX2.out.symm, Lib.hid (HS.out.next (belowN (Below.refl _ _) _))⟩
            case measure => simp [intOf]; omega)
        | false =>
          by_cases h1 : q1 ≤ s
          · by_cases h2 : s < q2
            · have HNX2 := Lib.hid (HNX.out.trans (by rw [decide_eq_true h1, decide_eq_true h2]; rfl) : _ = true)
              have e1 := decide_eq_true h1
              have e2 := decide_eq_true h2
              clear h1 h2
              go_wp2
              go_quiet (fail)
              all_goals (
                go_wp2
                go_roundw
                case rel => exact ⟨K + 1, true, rfl, by go_num, by omega, Lib.hid HNX2.out.symm, Lib.hid (HS.out.next (belowN (Below.refl _ _) _))⟩
                case measure => simp [intOf]; omega)
            · have HNX2 := Lib.hid (HNX.out.trans (by rw [decide_eq_false h2]; simp) : _ = false)
              have e1 := decide_eq_true h1
              have e2 := decide_eq_false h2
              clear h1 h2
              go_wp2
              go_quiet (fail)
              all_goals (
                go_wp2
                go_roundw
                case rel => exact ⟨K + 1, false, rfl, by go_num, by omega, Lib.hid HNX2.out.symm, Lib.hid (HS.out.next (belowN (Below.refl _ _) _))⟩
                case measure => simp [intOf]; omega)
          · have HNX2 := Lib.hid (HNX.out.trans (by rw [decide_eq_false h1]; rfl) : _ = false)
            have e1 := decide_eq_false h1
            clear h1
            go_wp2
            go_quiet (fail)
            all_goals (
              go_wp2
              go_roundw
              case rel => exact ⟨K + 1, false, rfl, by go_num, by omega, Lib.hid HNX2.out.symm, Lib.hid (HS.out.next (belowN (Below.refl _ _) _))⟩
              case measure => simp [intOf]; omega)
      · have k_1 : ¬ (K : Int) < (n3 : Int) := by omega
        have HBE := Lib.hid (show b = inP G s by
          rw [HBB.out, List.take_of_length_le (by rw [← HDL.out]; omega), HF.out.gl])
        cases b with
        | true =>
          have hm : m = -1 := HM2.out.2 HBE.out.symm
          subst hm
          go_wp2_with (first | (go_at_call 31; (with_reducible refine Calls.mono (heard_at HM1.out HS.out.it HS.out.c) ?_); rintro r u9 ⟨rfl, hb⟩; have Bc := Lib.hid (below_to Bc.out hb); have sz := Bc.out.size; have sc9 := Nat.le_trans (Nat.le_refl wr.heap.size) (hb).size; have HS := Lib.hid (HS.out.next hb); clear I_0 I_1 I_2 I_3 I_4 I_5 I_6 I_7 lI; have I_0 := HS.out.box.cell 0; have I_1 := HS.out.box.cell 1; have I_2 := HS.out.box.cell 2; have I_3 := HS.out.box.cell 3; have I_4 := HS.out.box.cell 4; have I_5 := HS.out.box.cell 5; have I_6 := HS.out.box.cell 6; have I_7 := HS.out.box.cell 7; have lI := HS.out.box.lt; clear hb) | (go_at_call 29; (with_reducible refine Calls.mono (place_at HFAR.out HS.out.it HS.out.c) ?_); rintro r u10 ⟨rfl, hb⟩; have Bc := Lib.hid (below_to Bc.out hb); have sz := Bc.out.size; have sc10 := Nat.le_trans (Nat.le_refl u9.heap.size) (hb).size; have HS := Lib.hid (HS.out.next hb); clear I_0 I_1 I_2 I_3 I_4 I_5 I_6 I_7 lI; have I_0 := HS.out.box.cell 0; have I_1 := HS.out.box.cell 1; have I_2 := HS.out.box.cell 2; have I_3 := HS.out.box.cell 3; have I_4 := HS.out.box.cell 4; have I_5 := HS.out.box.cell 5; have I_6 := HS.out.box.cell 6; have I_7 := HS.out.box.cell 7; have lI := HS.out.box.lt; clear hb))
          go_ret
          exact ⟨rfl, Bc.out⟩
        | false =>
          have hm : ¬ m = -1 := fun e => by have := HM2.out.1 e; rw [← HBE.out] at this; cases this
          have hmb : (m == -1) = false := beq_eq_false_iff_ne.2 hm
          go_wp2_with (first | (go_at_call 31; (with_reducible refine Calls.mono (heard_at HM1.out HS.out.it HS.out.c) ?_); rintro r u9 ⟨rfl, hb⟩; have Bc := Lib.hid (below_to Bc.out hb); have sz := Bc.out.size; have sc9 := Nat.le_trans (Nat.le_refl wr.heap.size) (hb).size; have HS := Lib.hid (HS.out.next hb); clear I_0 I_1 I_2 I_3 I_4 I_5 I_6 I_7 lI; have I_0 := HS.out.box.cell 0; have I_1 := HS.out.box.cell 1; have I_2 := HS.out.box.cell 2; have I_3 := HS.out.box.cell 3; have I_4 := HS.out.box.cell 4; have I_5 := HS.out.box.cell 5; have I_6 := HS.out.box.cell 6; have I_7 := HS.out.box.cell 7; have lI := HS.out.box.lt; clear hb) | (go_at_call 29; (with_reducible refine Calls.mono (place_at HFAR.out HS.out.it HS.out.c) ?_); rintro r u10 ⟨rfl, hb⟩; have Bc := Lib.hid (below_to Bc.out hb); have sz := Bc.out.size; have sc10 := Nat.le_trans (Nat.le_refl u9.heap.size) (hb).size; have HS := Lib.hid (HS.out.next hb); clear I_0 I_1 I_2 I_3 I_4 I_5 I_6 I_7 lI; have I_0 := HS.out.box.cell 0; have I_1 := HS.out.box.cell 1; have I_2 := HS.out.box.cell 2; have I_3 := HS.out.box.cell 3; have I_4 := HS.out.box.cell 4; have I_5 := HS.out.box.cell 5; have I_6 := HS.out.box.cell 6; have I_7 := HS.out.box.cell 7; have lI := HS.out.box.lt; clear hb))
          go_ret
          exact ⟨rfl, Bc.out⟩
end Go.Proofs.Ytplkcjgabaoefaa
