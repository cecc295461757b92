/- ItemTalk: its walk. -/
import Derived.Test.YtplkcjgabaoefaaKo
namespace Go.Proofs.Ytplkcjgabaoefaa
open Go.RowKit Go.Shelf

theorem rin_at {l : List (Int × Int)} {s : Int} {b : Bool} (h : inP l s = b) {A : Option Addr} {n c : Nat} {w : World} (hr : Recs enc2 2 w w.heap.size (.slice A n c) l) : Calls Try.prog 34 #[.slice A n c, .int .i64 s] w fun e w' => e = .returned (.bool b) ∧ w = w' := by
  rw [← h]; exact rin_any l s A n c w hr
theorem rsec_at {l : List (Int × Int)} {S m : Int} (h : tot l = S) (ht : TI l m) (hm : 0 ≤ m) (hm2 : m ≤ 3600) {A : Option Addr} {n c : Nat} {w : World} (hr : Recs enc2 2 w w.heap.size (.slice A n c) l) : Calls Try.prog 35 #[.slice A n c] w fun e w' => e = .returned (.tuple #[.int .i64 S, .bool true]) ∧ Below w.heap.size w w' := by
  rw [← h]; exact rsec_any l ht hm hm2 A n c w hr
theorem pow_small {k : Nat} (h : k < 4) : IntKind.i64.wrap ((2 : Int) ^ k) = (2 : Int) ^ k := by
  have : k = 0 ∨ k = 1 ∨ k = 2 ∨ k = 3 := by omega
  rcases this with rfl | rfl | rfl | rfl <;> decide
theorem hold8 {u y : World} {g : Nat} {v0 v1 v2 v3 v4 v5 v6 v7 : Value} (hr : Row u g 24 #[v0, v1, v2, v3, v4, v5, v6, v7]) (h : Below u.heap.size u y) : Below u.heap.size u y ∧ y.cell? ⟨g, 0, none⟩ = some v0 ∧ y.cell? ⟨g, 1, none⟩ = some v1 ∧ y.cell? ⟨g, 2, none⟩ = some v2 ∧ y.cell? ⟨g, 3, none⟩ = some v3 ∧ y.cell? ⟨g, 4, none⟩ = some v4 ∧ y.cell? ⟨g, 5, none⟩ = some v5 ∧ y.cell? ⟨g, 6, none⟩ = some v6 ∧ y.cell? ⟨g, 7, none⟩ = some v7 :=
  have k := hr.below h hr.lt
  ⟨h, k.cell 0, k.cell 1, k.cell 2, k.cell 3, k.cell 4, k.cell 5, k.cell 6, k.cell 7⟩
theorem pick_small {c n : Int} (h0 : 0 ≤ c) (h1 : c < n) : pickI c n = c := by
  unfold pickI
  rw [if_neg (by omega), Int.emod_eq_of_lt h0 h1]
set_option maxRecDepth 100000 in
set_option maxHeartbeats 16000000 in
theorem talk_true (id x0 x1 x2 x3 x4 x5 set more second : Int) (hid : I64 id) (hx6 : ∀ x ∈ [x0, x1, x2, x3, x4, x5], I64 x) (hset : I64 set) (hmore : I64 more) (hsec : I64 second) (w : World) :
    Calls Try.prog 7 #[.int .i64 id, .agg #[.int .i64 x0, .int .i64 x1, .int .i64 x2, .int .i64 x3, .int .i64 x4, .int .i64 x5], .int .i64 set, .int .i64 more, .int .i64 second] w fun e w' => e = .returned (.bool true) ∧ Below w.heap.size w w' := by
  obtain ⟨z, hzz⟩ : ∃ z, (pickI set 16).toNat = z := ⟨_, rfl⟩
  have hz : z < 16 := by have := pickI_lt set 16 (by decide); omega
  go_enter Try.func7, Try.ntmps7
  go_upto_region 14 with (first | (go_at_call 9; (with_reducible refine Calls.mono (sane_any _) ?_); rintro r u1 ⟨rfl, hb⟩; have HBz := Lib.hid (below_to ((Below.refl _ w).alloc (Nat.le_refl _) _) hb); have Bc := Lib.hid (HBz.out); have sz := Bc.out.size; have sc1 := Nat.le_trans (Nat.le_refl w.heap.size) (HBz.out).size; have RX := Lib.hid ((Row.new w 25 #[.int .i64 x0, .int .i64 x1, .int .i64 x2, .int .i64 x3, .int .i64 x4, .int .i64 x5]).below hb (Row.new w 25 #[.int .i64 x0, .int .i64 x1, .int .i64 x2, .int .i64 x3, .int .i64 x4, .int .i64 x5]).lt); have X_0 := RX.out.cell 0; have X_1 := RX.out.cell 1; have X_2 := RX.out.cell 2; have X_3 := RX.out.cell 3; have X_4 := RX.out.cell 4; have X_5 := RX.out.cell 5; have lX := RX.out.lt; clear hb) | (go_at_call 10; (with_reducible refine Calls.mono (rmade_any id x0 x1 x2 x3 x4 x5 hid hx6 _) ?_); rintro r u2 ⟨i, A1, A2, n1, c1, n2, c2, rfl, hok, hit, hb⟩; have Bc := Lib.hid (below_to Bc.out hb); have sz := Bc.out.size; have sc2 := Nat.le_trans (Nat.le_refl u1.heap.size) (hb).size; have RX := Lib.hid (RX.out.below hb RX.out.lt); clear X_0 X_1 X_2 X_3 X_4 X_5 lX; have X_0 := RX.out.cell 0; have X_1 := RX.out.cell 1; have X_2 := RX.out.cell 2; have X_3 := RX.out.cell 3; have X_4 := RX.out.cell 4; have X_5 := RX.out.cell 5; have lX := RX.out.lt; have HIT := Lib.hid hit; have HN1 := Lib.hid hit.lens.1; have HN2 := Lib.hid hit.lens.2; have HOK := Lib.hid hok; obtain ⟨G, n, hcf⟩ := cutF_of hok hz; have HF := Lib.hid hcf; have n_0 := hcf.lo; have n_1 := hcf.hi; have n_2 := hcf.len; have HLEN := Lib.hid hcf.length; have hat := pickI_lt second n (by omega); obtain ⟨at_, hat2⟩ : ∃ a, pickI second n = a := ⟨_, rfl⟩; rw [hat2] at hat; have a_0 := hat.1; have a_1 := hat.2; have HPN := Lib.hid (fun u => pick_at hat2 (by omega) (by omega) hsec u); have HP1 := Lib.hid (hcf.place a_0 a_1); have hin := hcf.in_talk hok a_0; have hti := hcf.ti hok; have htk := hcf.talk; obtain ⟨p, hp⟩ : ∃ p, pl G at_ = p := ⟨_, rfl⟩; rw [hp] at HP1 hin; obtain ⟨T, hT⟩ : ∃ T, talkL G i.talks = T := ⟨_, rfl⟩; rw [hT] at hin hti htk; have HTD := Lib.hid hT; obtain ⟨tb, htb⟩ : ∃ b, inP i.talks p = b := ⟨_, rfl⟩; rw [htb] at hin; have HIN := Lib.hid hin; have HIN2 := Lib.hid htb; have HTI := Lib.hid hti; have HTK := Lib.hid htk; have htt := hti.tot (by omega); obtain ⟨S, hS⟩ : ∃ S, tot T = S := ⟨_, rfl⟩; rw [hS] at htt; have HSD := Lib.hid hS; have s_0 := htt.1; have s_1 := htt.2; obtain ⟨N, hN⟩ : ∃ N, T.length = N := ⟨_, rfl⟩; have HN := Lib.hid hN; obtain ⟨C, hC⟩ : ∃ C, zi (bitsL i.trims.length z) = C := ⟨_, rfl⟩; rw [hC] at HLEN HP1 HTK; have HCC := Lib.hid hC; have v0 : ¬ n < 1 := (by omega); have tbb : (tb != tb) = false := (by simp); clear hcf hat hat2 hp hC hin hti htk hT htb htt hS hN; clear hit hok; clear hb) | (go_at_call 22; (with_reducible refine Calls.mono (cutOf_any set hset i.id i.kind i.len i.artist i.tempo i.lang A1 A2 n1 c1 n2 c2 (by have := HN1.out; have := HOK.out.n1; omega) _) ?_); rintro r u3 ⟨A3, n3, c3, rfl, h3, hb⟩; have HBz := Lib.hid (below_to ((Below.refl _ u2).alloc (Nat.le_refl _) _) hb); have Bc := Lib.hid (below_to Bc.out HBz.out); have sz := Bc.out.size; have sc3 := Nat.le_trans (Nat.le_refl u2.heap.size) (HBz.out).size; have RX := Lib.hid (RX.out.below HBz.out RX.out.lt); have RI := Lib.hid ((Row.new u2 24 #[.int .i64 i.id, .int .i64 i.kind, .int .i64 i.len, .slice A1 n1 c1, .slice A2 n2 c2, .int .i64 i.artist, .int .i64 i.tempo, .int .i64 i.lang]).below hb (Row.new u2 24 #[.int .i64 i.id, .int .i64 i.kind, .int .i64 i.len, .slice A1 n1 c1, .slice A2 n2 c2, .int .i64 i.artist, .int .i64 i.tempo, .int .i64 i.lang]).lt); clear X_0 X_1 X_2 X_3 X_4 X_5 lX; have X_0 := RX.out.cell 0; have X_1 := RX.out.cell 1; have X_2 := RX.out.cell 2; have X_3 := RX.out.cell 3; have X_4 := RX.out.cell 4; have X_5 := RX.out.cell 5; have lX := RX.out.lt; have I_0 := RI.out.cell 0; have I_1 := RI.out.cell 1; have I_2 := RI.out.cell 2; have I_3 := RI.out.cell 3; have I_4 := RI.out.cell 4; have I_5 := RI.out.cell 5; have I_6 := RI.out.cell 6; have I_7 := RI.out.cell 7; have lI := RI.out.lt; have HIT := Lib.hid (HIT.out.next HBz.out); rw [HN1.out, hzz, HCC.out] at h3; have HS := Lib.hid (StL.mk HIT.out h3 RI.out Bc.out); clear h3; clear hb) | (go_at_call 24; (with_reducible refine Calls.mono (length_at HLEN.out HS.out.it HS.out.c) ?_); rintro r u4 ⟨rfl, hb⟩; have Bc := Lib.hid (below_to Bc.out hb); have sz := Bc.out.size; have sc4 := Nat.le_trans (Nat.le_refl u3.heap.size) (hb).size; have HS := Lib.hid (HS.out.next hb); clear I_0 I_1 I_2 I_3 I_4 I_5 I_6 I_7 lI; have I_0 := HS.out.box.cell 0; have I_1 := HS.out.box.cell 1; have I_2 := HS.out.box.cell 2; have I_3 := HS.out.box.cell 3; have I_4 := HS.out.box.cell 4; have I_5 := HS.out.box.cell 5; have I_6 := HS.out.box.cell 6; have I_7 := HS.out.box.cell 7; have lI := HS.out.box.lt; clear hb) | (go_at_call 26; (with_reducible refine Calls.mono (talk_at HTK.out HS.out.it HS.out.c) ?_); rintro r u5 ⟨A4, c4, rfl, h4, hb⟩; have Bc := Lib.hid (below_to Bc.out hb); have sz := Bc.out.size; have sc5 := Nat.le_trans (Nat.le_refl u4.heap.size) (hb).size; have HS := Lib.hid (HS.out.next hb); rw [HN.out] at h4 ⊢; have HT4 := Lib.hid h4; clear h4; clear I_0 I_1 I_2 I_3 I_4 I_5 I_6 I_7 lI; have I_0 := HS.out.box.cell 0; have I_1 := HS.out.box.cell 1; have I_2 := HS.out.box.cell 2; have I_3 := HS.out.box.cell 3; have I_4 := HS.out.box.cell 4; have I_5 := HS.out.box.cell 5; have I_6 := HS.out.box.cell 6; have I_7 := HS.out.box.cell 7; have lI := HS.out.box.lt; clear hb) | (go_at_call 19; (with_reducible refine Calls.mono (HPN.out _) ?_); rintro r w9 ⟨rfl, rfl⟩) | (go_at_call 29; (with_reducible refine Calls.mono (place_at HP1.out HS.out.it HS.out.c) ?_); rintro r u6 ⟨rfl, hb⟩; have Bc := Lib.hid (below_to Bc.out hb); have sz := Bc.out.size; have sc6 := Nat.le_trans (Nat.le_refl u5.heap.size) (hb).size; have HS := Lib.hid (HS.out.next hb); have HT4 := Lib.hid (HT4.out.next hb); clear I_0 I_1 I_2 I_3 I_4 I_5 I_6 I_7 lI; have I_0 := HS.out.box.cell 0; have I_1 := HS.out.box.cell 1; have I_2 := HS.out.box.cell 2; have I_3 := HS.out.box.cell 3; have I_4 := HS.out.box.cell 4; have I_5 := HS.out.box.cell 5; have I_6 := HS.out.box.cell 6; have I_7 := HS.out.box.cell 7; have lI := HS.out.box.lt; clear hb) | (go_at_call 34; (with_reducible refine Calls.mono (rin_at HIN.out HT4.out) ?_); rintro r w9 ⟨rfl, rfl⟩) | (go_at_call 34; (with_reducible refine Calls.mono (rin_at HIN2.out HS.out.it.k) ?_); rintro r w9 ⟨rfl, rfl⟩) | (go_at_call 35; (with_reducible refine Calls.mono (rsec_at HSD.out HTI.out (by omega) (by omega) HT4.out) ?_); rintro r u7 ⟨rfl, hb⟩; have Bc := Lib.hid (below_to Bc.out hb); have sz := Bc.out.size; have sc7 := Nat.le_trans (Nat.le_refl u6.heap.size) (hb).size; have HS := Lib.hid (HS.out.next hb); have HT4 := Lib.hid (HT4.out.next hb); clear I_0 I_1 I_2 I_3 I_4 I_5 I_6 I_7 lI; have I_0 := HS.out.box.cell 0; have I_1 := HS.out.box.cell 1; have I_2 := HS.out.box.cell 2; have I_3 := HS.out.box.cell 3; have I_4 := HS.out.box.cell 4; have I_5 := HS.out.box.cell 5; have I_6 := HS.out.box.cell 6; have I_7 := HS.out.box.cell 7; have lI := HS.out.box.lt; clear hb))
  cases N with
  | zero =>
    by_cases hn1 : n1 = 0
    · have e1 : ((n1 : Int) == 0) = true := by simp [hn1]
      have e2 : (n1 : Int) = 0 := by omega
      go_wp2_with fail
      go_ret
      exact ⟨rfl, Bc.out⟩
    · have e1 : ((n1 : Int) == 0) = false := beq_eq_false_iff_ne.2 (by omega)
      have e2 : ¬ (n1 : Int) = 0 := by omega
      have hk := pickI_lt more n1 (by omega)
      obtain ⟨k, hk2⟩ : ∃ k : Nat, pickI more n1 = (k : Int) := ⟨(pickI more n1).toNat, by omega⟩
      rw [hk2] at hk
      have HPK := Lib.hid (fun u => pick_at hk2 (by omega) (by have := HN1.out; have := HOK.out.n1; omega) hmore u)
      have hkn : k < i.trims.length := by rw [← HN1.out]; omega
      have hb := bits_more ⟨i.trims.length, by have := HOK.out.n1; omega⟩ ⟨z, hz⟩ ⟨k, by have := HOK.out.n1; omega⟩ hkn
      obtain ⟨G2, m2, hcf2⟩ := cutF_of HOK.out hb.1.1
      obtain ⟨q, hq⟩ : ∃ q, i.trims[k]? = some q := ⟨_, List.getElem?_eq_getElem hkn⟩
      have hmo := talk_more HOK.out hz hkn HF.out hcf2 hq
      have hql := part_at HOK.out.p1 hq
      have hti2 := hcf2.ti HOK.out
      have htk2 := hcf2.talk
      have m_0 := hcf2.lo
      have m_1 := hcf2.hi
      obtain ⟨T2, hT2⟩ : ∃ T2, talkL G2 i.talks = T2 := ⟨_, rfl⟩
      rw [hT2] at hmo hti2 htk2
      have htt2 := hti2.tot (by omega)
      obtain ⟨S2, hS2⟩ : ∃ S2, tot T2 = S2 := ⟨_, rfl⟩
      rw [hS2] at htt2
      rw [HTD.out, HSD.out, hS2] at hmo
      have HSD2 := Lib.hid hS2
      have HTI2 := Lib.hid hti2
      obtain ⟨z2, hz2⟩ : ∃ z2, z ||| 2 ^ k = z2 := ⟨_, rfl⟩
      obtain ⟨D, hD⟩ : ∃ D, zi (bitsL i.trims.length z2) = D := ⟨_, rfl⟩
      have hor := hb.1.2
      have hz16 := hb.1.1
      dsimp only at hor hz16
      rw [hz2] at hor hz16 htk2
      have hor2 : bits .or .i64 (z : Int) (IntKind.i64.wrap ((2 : Int) ^ k)) = (z2 : Int) := by
        rw [show IntKind.i64.wrap ((2 : Int) ^ k) = (2 : Int) ^ k from pow_small (by have := HN1.out; have := HOK.out.n1; omega)]
        exact hor
      clear hor
      rw [hD] at htk2
      have HTK2 := Lib.hid htk2
      have HDD := Lib.hid hD
      have HPS := Lib.hid (fun u => pick_at (show pickI set 16 = (z : Int) by have := pickI_lt set 16 (by decide); omega) (by decide) (by decide) hset u)
      have HPZ := Lib.hid (show (pickI (z2 : Int) 16).toNat = z2 by rw [pick_small (by omega) (by omega)]; omega)
      obtain ⟨q1, q2⟩ := q
      dsimp only at hmo hql
      have k_0 : (0 : Int) ≤ (k : Int) := by omega
      have k_1 : (k : Int) < (n1 : Int) := hk.2
      have k_2 : (k : Int) < 4 := by have := HN1.out; have := HOK.out.n1; omega
      have k_3 : k < n1 := by omega
      have s_2 := htt2.1
      have s_3 := htt2.2
      have s_4 := hmo.1
      have s_5 := hmo.2
      have q_0 := hql.1
      have q_1 := hql.2.1
      have q_2 := hql.2.2.1
      have HQ := Lib.hid hq
      clear hk hk2 hb hcf2 hmo hql hti2 htk2 hT2 htt2 hS2 hz2 hD hq hkn
      go_upto_region 19 with (first | (go_at_call 19; (with_reducible refine Calls.mono (HPK.out _) ?_); rintro r w9 ⟨rfl, rfl⟩))
      go_region_held3 (fun y => Below u7.heap.size u7 y ∧ y.cell? ⟨u2.heap.size, 0, none⟩ = some (.int .i64 i.id) ∧ y.cell? ⟨u2.heap.size, 1, none⟩ = some (.int .i64 i.kind) ∧ y.cell? ⟨u2.heap.size, 2, none⟩ = some (.int .i64 i.len) ∧ y.cell? ⟨u2.heap.size, 3, none⟩ = some (.slice A1 n1 c1) ∧ y.cell? ⟨u2.heap.size, 4, none⟩ = some (.slice A2 n2 c2) ∧ y.cell? ⟨u2.heap.size, 5, none⟩ = some (.int .i64 i.artist) ∧ y.cell? ⟨u2.heap.size, 6, none⟩ = some (.int .i64 i.tempo) ∧ y.cell? ⟨u2.heap.size, 7, none⟩ = some (.int .i64 i.lang)) (first | assumption | (exact hold8 HS.out.box (Below.drew (Below.refl _ _)))) (first | (go_at_call 19; ((with_reducible refine Calls.mono (HPS.out _) ?_); rintro r w9 ⟨rfl, rfl⟩)) | (go_at_call 22; ((with_reducible refine Calls.mono (cutOf_any (z2 : Int) (by unfold I64; omega) i.id i.kind i.len i.artist i.tempo i.lang _ A2 n1 c1 n2 c2 (by have := HN1.out; have := HOK.out.n1; omega) _) ?_); rintro r w5 ⟨A5, n5, c5, rfl, h5, hb5⟩; rw [HN1.out, HPZ.out, HDD.out] at h5; have HC5 := Lib.hid h5; have hb6 := below_to (‹Below u7.heap.size u7 _ ∧ _›).1 hb5; have hS5 := hold8 HS.out.box hb6; have HB6 := Lib.hid hb6; clear h5 hb5 hb6)))
      have HS := Lib.hid (HS.out.next HB6.out)
      have Bc := Lib.hid HS.out.b
      clear I_0 I_1 I_2 I_3 I_4 I_5 I_6 I_7 lI; have I_0 := HS.out.box.cell 0; have I_1 := HS.out.box.cell 1; have I_2 := HS.out.box.cell 2; have I_3 := HS.out.box.cell 3; have I_4 := HS.out.box.cell 4; have I_5 := HS.out.box.cell 5; have I_6 := HS.out.box.cell 6; have I_7 := HS.out.box.cell 7; have lI := HS.out.box.lt
      clear hS5
      go_upto_region 22 with (first | (go_at_call 26; (with_reducible refine Calls.mono (talk_at HTK2.out HS.out.it HC5.out) ?_); rintro r u9 ⟨A6, c6, rfl, h6, hb⟩; have Bc := Lib.hid (below_to Bc.out hb); have sz := Bc.out.size; have sc9 := Nat.le_trans (Nat.le_refl w5.heap.size) (hb).size; have HS := Lib.hid (HS.out.next hb); have HC5 := Lib.hid (HC5.out.next hb); have HT6 := Lib.hid h6; clear h6; clear I_0 I_1 I_2 I_3 I_4 I_5 I_6 I_7 lI; have I_0 := HS.out.box.cell 0; have I_1 := HS.out.box.cell 1; have I_2 := HS.out.box.cell 2; have I_3 := HS.out.box.cell 3; have I_4 := HS.out.box.cell 4; have I_5 := HS.out.box.cell 5; have I_6 := HS.out.box.cell 6; have I_7 := HS.out.box.cell 7; have lI := HS.out.box.lt; clear hb) | (go_at_call 35; (with_reducible refine Calls.mono (rsec_at HSD2.out HTI2.out (by omega) (by omega) HT6.out) ?_); rintro r u10 ⟨rfl, hb⟩; have Bc := Lib.hid (below_to Bc.out hb); have sz := Bc.out.size; have sc10 := Nat.le_trans (Nat.le_refl u9.heap.size) (hb).size; have HS := Lib.hid (HS.out.next hb); have HC5 := Lib.hid (HC5.out.next hb); have HT6 := Lib.hid (HT6.out.next hb); clear I_0 I_1 I_2 I_3 I_4 I_5 I_6 I_7 lI; have I_0 := HS.out.box.cell 0; have I_1 := HS.out.box.cell 1; have I_2 := HS.out.box.cell 2; have I_3 := HS.out.box.cell 3; have I_4 := HS.out.box.cell 4; have I_5 := HS.out.box.cell 5; have I_6 := HS.out.box.cell 6; have I_7 := HS.out.box.cell 7; have lI := HS.out.box.lt; clear hb))
      obtain ⟨g9, o9, rfl, hg9, t0, t1⟩ := cell2_at HS.out.it.t HQ.out
      dsimp only at t0 t1
      have e5 : decide (S2 ≤ S) = true := decide_eq_true s_4
      have e6 : decide (S - S2 ≤ q2 - q1) = true := decide_eq_true s_5
      have S_0 : S ≤ 3600 := by omega
      have q_3 : q2 ≤ 3600 := by omega
      clear s_4 s_5
      go_quiet (fail)
      go_wp2
      go_ret
      exact ⟨rfl, belowN Bc.out _⟩
  | succ L =>
    obtain ⟨q0, hq0⟩ : ∃ q, T[0]? = some q := ⟨_, List.getElem?_eq_getElem (by rw [HN.out]; omega)⟩
    obtain ⟨qL, hqL⟩ : ∃ q, T[L]? = some q := ⟨_, List.getElem?_eq_getElem (by rw [HN.out]; omega)⟩
    have r0 := HTI.out.a q0 (List.mem_of_getElem? hq0)
    have rL := HTI.out.a qL (List.mem_of_getElem? hqL)
    obtain ⟨gT, oT, rfl, hgT, y0, y1⟩ := cell2_at HT4.out hq0
    obtain ⟨gU, oU, hgo, -, y2, y3⟩ := cell2_at HT4.out hqL
    injection hgo with hgo
    obtain ⟨rfl, rfl⟩ : gT = gU ∧ oT = oU := ⟨congrArg Addr.block hgo, congrArg Addr.off hgo⟩
    obtain ⟨q01, q02⟩ := q0
    obtain ⟨qL1, qL2⟩ := qL
    dsimp only at y0 y1 y2 y3 r0 rL
    rw [show oT + 0 * 2 = oT by omega] at y0 y1
    have r_0 : ¬ q01 < 0 := by omega
    have r_1 : ¬ n < qL2 := by omega
    have l_0 : (0 : Int) ≤ (L : Int) := by omega
    have l_1 : (L : Int) + 1 ≤ 9223372036854775807 := by have h := recs_cap HT4.out; have := HN.out; omega
    have l_2 : L < L + 1 := by omega
    clear r0 rL hgo hq0 hqL
    by_cases hn1 : n1 = 0
    · have e1 : ((n1 : Int) == 0) = true := by simp [hn1]
      have e2 : (n1 : Int) = 0 := by omega
      go_wp2_with fail
      go_ret
      exact ⟨rfl, Bc.out⟩
    · have e1 : ((n1 : Int) == 0) = false := beq_eq_false_iff_ne.2 (by omega)
      have e2 : ¬ (n1 : Int) = 0 := by omega
      have hk := pickI_lt more n1 (by omega)
      obtain ⟨k, hk2⟩ : ∃ k : Nat, pickI more n1 = (k : Int) := ⟨(pickI more n1).toNat, by omega⟩
      rw [hk2] at hk
      have HPK := Lib.hid (fun u => pick_at hk2 (by omega) (by have := HN1.out; have := HOK.out.n1; omega) hmore u)
      have hkn : k < i.trims.length := by rw [← HN1.out]; omega
      have hb := bits_more ⟨i.trims.length, by have := HOK.out.n1; omega⟩ ⟨z, hz⟩ ⟨k, by have := HOK.out.n1; omega⟩ hkn
      obtain ⟨G2, m2, hcf2⟩ := cutF_of HOK.out hb.1.1
      obtain ⟨q, hq⟩ : ∃ q, i.trims[k]? = some q := ⟨_, List.getElem?_eq_getElem hkn⟩
      have hmo := talk_more HOK.out hz hkn HF.out hcf2 hq
      have hql := part_at HOK.out.p1 hq
      have hti2 := hcf2.ti HOK.out
      have htk2 := hcf2.talk
      have m_0 := hcf2.lo
      have m_1 := hcf2.hi
      obtain ⟨T2, hT2⟩ : ∃ T2, talkL G2 i.talks = T2 := ⟨_, rfl⟩
      rw [hT2] at hmo hti2 htk2
      have htt2 := hti2.tot (by omega)
      obtain ⟨S2, hS2⟩ : ∃ S2, tot T2 = S2 := ⟨_, rfl⟩
      rw [hS2] at htt2
      rw [HTD.out, HSD.out, hS2] at hmo
      have HSD2 := Lib.hid hS2
      have HTI2 := Lib.hid hti2
      obtain ⟨z2, hz2⟩ : ∃ z2, z ||| 2 ^ k = z2 := ⟨_, rfl⟩
      obtain ⟨D, hD⟩ : ∃ D, zi (bitsL i.trims.length z2) = D := ⟨_, rfl⟩
      have hor := hb.1.2
      have hz16 := hb.1.1
      dsimp only at hor hz16
      rw [hz2] at hor hz16 htk2
      have hor2 : bits .or .i64 (z : Int) (IntKind.i64.wrap ((2 : Int) ^ k)) = (z2 : Int) := by
        rw [show IntKind.i64.wrap ((2 : Int) ^ k) = (2 : Int) ^ k from pow_small (by have := HN1.out; have := HOK.out.n1; omega)]
        exact hor
      clear hor
      rw [hD] at htk2
      have HTK2 := Lib.hid htk2
      have HDD := Lib.hid hD
      have HPS := Lib.hid (fun u => pick_at (show pickI set 16 = (z : Int) by have := pickI_lt set 16 (by decide); omega) (by decide) (by decide) hset u)
      have HPZ := Lib.hid (show (pickI (z2 : Int) 16).toNat = z2 by rw [pick_small (by omega) (by omega)]; omega)
      obtain ⟨q1, q2⟩ := q
      dsimp only at hmo hql
      have k_0 : (0 : Int) ≤ (k : Int) := by omega
      have k_1 : (k : Int) < (n1 : Int) := hk.2
      have k_2 : (k : Int) < 4 := by have := HN1.out; have := HOK.out.n1; omega
      have k_3 : k < n1 := by omega
      have s_2 := htt2.1
      have s_3 := htt2.2
      have s_4 := hmo.1
      have s_5 := hmo.2
      have q_0 := hql.1
      have q_1 := hql.2.1
      have q_2 := hql.2.2.1
      have HQ := Lib.hid hq
      clear hk hk2 hb hcf2 hmo hql hti2 htk2 hT2 htt2 hS2 hz2 hD hq hkn
      go_upto_region 19 with (first | (go_at_call 19; (with_reducible refine Calls.mono (HPK.out _) ?_); rintro r w9 ⟨rfl, rfl⟩))
      go_region_held3 (fun y => Below u7.heap.size u7 y ∧ y.cell? ⟨u2.heap.size, 0, none⟩ = some (.int .i64 i.id) ∧ y.cell? ⟨u2.heap.size, 1, none⟩ = some (.int .i64 i.kind) ∧ y.cell? ⟨u2.heap.size, 2, none⟩ = some (.int .i64 i.len) ∧ y.cell? ⟨u2.heap.size, 3, none⟩ = some (.slice A1 n1 c1) ∧ y.cell? ⟨u2.heap.size, 4, none⟩ = some (.slice A2 n2 c2) ∧ y.cell? ⟨u2.heap.size, 5, none⟩ = some (.int .i64 i.artist) ∧ y.cell? ⟨u2.heap.size, 6, none⟩ = some (.int .i64 i.tempo) ∧ y.cell? ⟨u2.heap.size, 7, none⟩ = some (.int .i64 i.lang)) (first | assumption | (exact hold8 HS.out.box (Below.drew (Below.refl _ _)))) (first | (go_at_call 19; ((with_reducible refine Calls.mono (HPS.out _) ?_); rintro r w9 ⟨rfl, rfl⟩)) | (go_at_call 22; ((with_reducible refine Calls.mono (cutOf_any (z2 : Int) (by unfold I64; omega) i.id i.kind i.len i.artist i.tempo i.lang _ A2 n1 c1 n2 c2 (by have := HN1.out; have := HOK.out.n1; omega) _) ?_); rintro r w5 ⟨A5, n5, c5, rfl, h5, hb5⟩; rw [HN1.out, HPZ.out, HDD.out] at h5; have HC5 := Lib.hid h5; have hb6 := below_to (‹Below u7.heap.size u7 _ ∧ _›).1 hb5; have hS5 := hold8 HS.out.box hb6; have HB6 := Lib.hid hb6; clear h5 hb5 hb6)))
      have HS := Lib.hid (HS.out.next HB6.out)
      have Bc := Lib.hid HS.out.b
      clear I_0 I_1 I_2 I_3 I_4 I_5 I_6 I_7 lI; have I_0 := HS.out.box.cell 0; have I_1 := HS.out.box.cell 1; have I_2 := HS.out.box.cell 2; have I_3 := HS.out.box.cell 3; have I_4 := HS.out.box.cell 4; have I_5 := HS.out.box.cell 5; have I_6 := HS.out.box.cell 6; have I_7 := HS.out.box.cell 7; have lI := HS.out.box.lt
      clear hS5
      go_upto_region 22 with (first | (go_at_call 26; (with_reducible refine Calls.mono (talk_at HTK2.out HS.out.it HC5.out) ?_); rintro r u9 ⟨A6, c6, rfl, h6, hb⟩; have Bc := Lib.hid (below_to Bc.out hb); have sz := Bc.out.size; have sc9 := Nat.le_trans (Nat.le_refl w5.heap.size) (hb).size; have HS := Lib.hid (HS.out.next hb); have HC5 := Lib.hid (HC5.out.next hb); have HT6 := Lib.hid h6; clear h6; clear I_0 I_1 I_2 I_3 I_4 I_5 I_6 I_7 lI; have I_0 := HS.out.box.cell 0; have I_1 := HS.out.box.cell 1; have I_2 := HS.out.box.cell 2; have I_3 := HS.out.box.cell 3; have I_4 := HS.out.box.cell 4; have I_5 := HS.out.box.cell 5; have I_6 := HS.out.box.cell 6; have I_7 := HS.out.box.cell 7; have lI := HS.out.box.lt; clear hb) | (go_at_call 35; (with_reducible refine Calls.mono (rsec_at HSD2.out HTI2.out (by omega) (by omega) HT6.out) ?_); rintro r u10 ⟨rfl, hb⟩; have Bc := Lib.hid (below_to Bc.out hb); have sz := Bc.out.size; have sc10 := Nat.le_trans (Nat.le_refl u9.heap.size) (hb).size; have HS := Lib.hid (HS.out.next hb); have HC5 := Lib.hid (HC5.out.next hb); have HT6 := Lib.hid (HT6.out.next hb); clear I_0 I_1 I_2 I_3 I_4 I_5 I_6 I_7 lI; have I_0 := HS.out.box.cell 0; have I_1 := HS.out.box.cell 1; have I_2 := HS.out.box.cell 2; have I_3 := HS.out.box.cell 3; have I_4 := HS.out.box.cell 4; have I_5 := HS.out.box.cell 5; have I_6 := HS.out.box.cell 6; have I_7 := HS.out.box.cell 7; have lI := HS.out.box.lt; clear hb))
      obtain ⟨g9, o9, rfl, hg9, t0, t1⟩ := cell2_at HS.out.it.t HQ.out
      dsimp only at t0 t1
      have e5 : decide (S2 ≤ S) = true := decide_eq_true s_4
      have e6 : decide (S - S2 ≤ q2 - q1) = true := decide_eq_true s_5
      have S_0 : S ≤ 3600 := by omega
      have q_3 : q2 ≤ 3600 := by omega
      clear s_4 s_5
      go_quiet (fail)
      go_wp2
      go_ret
      exact ⟨rfl, belowN Bc.out _⟩
end Go.Proofs.Ytplkcjgabaoefaa
