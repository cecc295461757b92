/- The reference: lacks, enough. -/
import Derived.Test.YtenojfniknjeiaaRc
import Derived.Deep.RegionHeld3
namespace Go.Proofs.Ytenojfniknjeiaa
open Go.RowKit Go.Shelf

theorem bits_take {n s j : Nat} (f : Nat → Bool) (_ : j < n) : ((List.range (j + 1)).filter s.testBit).any f = (((List.range j).filter s.testBit).any f || (s.testBit j && f j)) := by
  rw [List.range_succ, List.filter_append, List.any_append]
  congr 1
  cases h : s.testBit j with
  | true => simp [h]
  | false => simp [h]
theorem okG_of {l : List Gr} (h : validG l = true) {q : Gr} (hq : q ∈ l) : okG q = true := by
  unfold validG at h
  rw [Bool.and_eq_true, List.all_eq_true] at h
  exact h.2 q hq
theorem Calls.quiet_of_same' {P : Program} {f : FuncId} {args : Array Value} {w : World} {n : Nat} {v : Value} (h : Calls P f args (w.drewN n) fun e w' => e = .returned v ∧ w.drewN n = w') : Calls P f args (w.drewN n) fun e w'' => e = .returned v ∧ ∃ m, w'' = w.drewN m := h.mono fun _ _ ⟨he, hm⟩ => ⟨he, n, hm.symm⟩
set_option maxRecDepth 100000 in
set_option maxHeartbeats 16000000 in
theorem rlacks_any (l : List Gr) (P : List Nat) (U : List Us) (s : Nat) (hl : validG l = true) (hu : validU U = true) (hP : P.length = l.length) (hP100 : ∀ x ∈ P, x ≤ 100) (hs : s < 4096) (A A2 A3 : Option Addr) (n c n2 c2 n3 c3 : Nat) (w : World) (hr : Recs encG 6 w w.heap.size (.slice A n c) l) (hr2 : Recs enc1 1 w w.heap.size (.slice A2 n2 c2) (zi P)) (hr3 : Recs encU 4 w w.heap.size (.slice A3 n3 c3) U) :
    Calls Try.prog 42 #[.slice A n c, .slice A2 n2 c2, .slice A3 n3 c3, .int .i64 (s : Int)] w fun e w' => e = .returned (.bool (rlackB l P U s)) ∧ Below w.heap.size w w' := by
  obtain ⟨hn, -, -⟩ := recs_cap hr
  obtain ⟨hn2, -, -⟩ := recs_cap hr2
  obtain ⟨hn3, -, -⟩ := recs_cap hr3
  have HR := Lib.hid hr
  have HR2 := Lib.hid hr2
  have HR3 := Lib.hid hr3
  have HN := Lib.hid hn
  have HN2 := Lib.hid (show n2 = l.length by rw [hn2, zi_len, hP])
  have HN3 := Lib.hid hn3
  have HPL := Lib.hid hP
  have h12 : n ≤ 12 := by rw [hn]; exact validG_len hl
  have h10 : n3 ≤ 10 := by rw [hn3]; exact validU_len hu
  have HP100 := Lib.hid hP100
  have HVL := Lib.hid hl
  have HVU := Lib.hid hu
  have HBT := Lib.hid (fun k (hk : k ≤ 10) y => bit_any s k hk hs y)
  have HSZ := Lib.hid (fun y => size_any s hs y)
  have HLB := Lib.hid (show rlackB l P U s = decide (rsum l P U s n < pc s) by rw [hn]; rfl)
  have hpc : pc s ≤ 12 := pc_le 12 s hs
  obtain ⟨rv, hrv⟩ : ∃ rv, rlackB l P U s = rv := ⟨_, rfl⟩
  rw [hrv] at HLB ⊢
  clear hr hr2 hr3 hn hn2 hn3 hl hu hP hP100 hs hrv
  go_enter Try.func42, Try.ntmps42
  go_wp2
  go_loopw [9, 10, 11, 12] (fun m z _ _ wr => ∃ i : Nat, z = .int .i64 (i : Int) ∧ i ≤ n ∧ m = .int .i64 ((rsum l P U s i : Nat) : Int) ∧ Hid (Below w.heap.size w wr)) (fun _ z _ _ _ => n - (intOf z).toNat)
  case atStart => exact ⟨0, rfl, Nat.zero_le _, rfl, Lib.hid (Below.refl _ _)⟩
  case round =>
    obtain ⟨i, rfl, hi, rfl, HB⟩ := hrel
    have i0 : (0 : Int) ≤ (i : Int) := by omega
    have HSU := Lib.hid (rsum_succ l P U s i)
    have hsm := rsum_le (l := l) (U := U) (s := s) HP100.out i
    have hsm : rsum l P U s i ≤ 1200 := by omega
    obtain ⟨sm, hsme⟩ : ∃ sm, rsum l P U s i = sm := ⟨_, rfl⟩
    have HSM := Lib.hid hsme
    rw [hsme] at HSU hsm ⊢
    clear hsme
    have e7 : IntKind.i64.wrap ((i : Int) + 1) = (i : Int) + 1 := IntWalk.i64_in _ (by omega)
    by_cases hil : i < n
    · have i1 : (i : Int) < (n : Int) := by omega
      have hia : i < l.length := by have := HN.out; omega
      obtain ⟨q, hq⟩ : ∃ q, l[i]? = some q := ⟨_, List.getElem?_eq_getElem hia⟩
      have HQ := Lib.hid hq
      have HQD := Lib.hid (show l.getD i g0 = q by rw [List.getD_eq_getElem?_getD, hq]; rfl)
      rw [HQD.out] at HSU
      clear hq
      go_wp2
      go_loopw [11, 12] (fun b z wi => ∃ j : Nat, z = .int .i64 (j : Int) ∧ j ≤ n3 ∧ b = .bool (((List.range j).filter s.testBit).any (pG q U)) ∧ Hid (Below w.heap.size w wi)) (fun _ z _ => n3 - (intOf z).toNat)
      case atStart => exact ⟨0, rfl, Nat.zero_le _, rfl, HB⟩
      case round =>
        obtain ⟨j, rfl, hj, rfl, HB⟩ := hrel
        have j0 : (0 : Int) ≤ (j : Int) := by omega
        have e8 : IntKind.i64.wrap ((j : Int) + 1) = (j : Int) + 1 := IntWalk.i64_in _ (by omega)
        by_cases hjl : j < n3
        · have j1 : (j : Int) < (n3 : Int) := by omega
          have hja : j < U.length := by have := HN3.out; omega
          obtain ⟨v, hv⟩ : ∃ v, U[j]? = some v := ⟨_, List.getElem?_eq_getElem hja⟩
          have hvd : U.getD j u0 = v := by rw [List.getD_eq_getElem?_getD, hv]; rfl
          have HAN := Lib.hid (bits_take (s := s) (pG q U) hjl)
          rw [show pG q U j = perB q v by unfold pG; rw [hvd]] at HAN
          have hpm := fun y => Permitted_any q v (okG_of HVL.out (List.mem_of_getElem? HQ.out)) (okU_of HVU.out (List.mem_of_getElem? hv)) y
          obtain ⟨pb, hpb⟩ : ∃ pb, perB q v = pb := ⟨_, rfl⟩
          obtain ⟨ab, hab⟩ : ∃ ab, ((List.range j).filter s.testBit).any (pG q U) = ab := ⟨_, rfl⟩
          obtain ⟨tb, htb⟩ : ∃ tb, s.testBit j = tb := ⟨_, rfl⟩
          have hbt := HBT.out j (by omega)
          rw [hpb] at HAN hpm
          rw [hab] at HAN ⊢
          rw [htb] at HAN hbt
          have HPM := Lib.hid hpm
          have HBTJ := Lib.hid hbt
          obtain ⟨bg, og, rfl, hbg, hcg⟩ := recs_at (HR.out.below HB.out) i hia
          obtain ⟨bu, ou, rfl, hbu, hcu⟩ := recs_at (HR3.out.below HB.out) j hja
          have lw := HB.out.size
          have x0 : wr.cell? ⟨bg, og + i * 6, none⟩ = some (.int .i64 q.item) := hcg i q HQ.out 0 _ rfl
          have x1 : wr.cell? ⟨bg, og + i * 6 + 1, none⟩ = some (.int .i64 q.acts) := hcg i q HQ.out 1 _ rfl
          have x2 : wr.cell? ⟨bg, og + i * 6 + 2, none⟩ = some (.int .i64 q.regions) := hcg i q HQ.out 2 _ rfl
          have x3 : wr.cell? ⟨bg, og + i * 6 + 3, none⟩ = some (.int .i64 q.plays) := hcg i q HQ.out 3 _ rfl
          have x4 : wr.cell? ⟨bg, og + i * 6 + 4, none⟩ = some (.int .i64 q.fr) := hcg i q HQ.out 4 _ rfl
          have x5 : wr.cell? ⟨bg, og + i * 6 + 5, none⟩ = some (.int .i64 q.tw) := hcg i q HQ.out 5 _ rfl
          have y0 : wr.cell? ⟨bu, ou + j * 4, none⟩ = some (.int .i64 v.item) := hcu j v hv 0 _ rfl
          have y1 : wr.cell? ⟨bu, ou + j * 4 + 1, none⟩ = some (.int .i64 v.acts) := hcu j v hv 1 _ rfl
          have y2 : wr.cell? ⟨bu, ou + j * 4 + 2, none⟩ = some (.int .i64 v.region) := hcu j v hv 2 _ rfl
          have y3 : wr.cell? ⟨bu, ou + j * 4 + 3, none⟩ = some (.int .i64 v.at_) := hcu j v hv 3 _ rfl
          have g1 : bg < wr.heap.size := by omega
          have g2 : bu < wr.heap.size := by omega
          have i0' := i0
          clear hpm hbt hpb hab htb hcg hcu hvd hv
          cases ab with
          | true =>
            have HN9 := Lib.hid (HAN.out.trans (by rfl) : _ = true)
            go_upto_region 9 with fail
            go_quiet (fail)
            all_goals (
              go_wp2
              go_roundw
              case rel => exact ⟨j + 1, by go_num, by omega, by rw [HN9.out], Lib.hid (belowN HB.out _)⟩
              case measure => simp [intOf]; omega)
          | false =>
            cases tb with
            | false =>
              have HN9 := Lib.hid (HAN.out.trans (by rfl) : _ = false)
              go_upto_region 9 with fail
              go_quiet (first | (go_at_call 45; (with_reducible refine Calls.quiet_of_same' (HBTJ.out _))))
              all_goals (
                go_wp2
                go_roundw
                case rel => exact ⟨j + 1, by go_num, by omega, by rw [HN9.out], Lib.hid (belowN HB.out _)⟩
                case measure => simp [intOf]; omega)
            | true =>
              have HN9 := Lib.hid (HAN.out.trans (by rw [Bool.true_and, Bool.false_or]) : _ = pb)
              have HSK : Hid (∀ y, Below wr.heap.size wr y → Below wr.heap.size wr y ∧ y.cell? ⟨bg, og + i * 6, none⟩ = some (.int .i64 q.item) ∧ y.cell? ⟨bg, og + i * 6 + 1, none⟩ = some (.int .i64 q.acts) ∧ y.cell? ⟨bg, og + i * 6 + 2, none⟩ = some (.int .i64 q.regions) ∧ y.cell? ⟨bg, og + i * 6 + 3, none⟩ = some (.int .i64 q.plays) ∧ y.cell? ⟨bg, og + i * 6 + 4, none⟩ = some (.int .i64 q.fr) ∧ y.cell? ⟨bg, og + i * 6 + 5, none⟩ = some (.int .i64 q.tw) ∧ y.cell? ⟨bu, ou + j * 4, none⟩ = some (.int .i64 v.item) ∧ y.cell? ⟨bu, ou + j * 4 + 1, none⟩ = some (.int .i64 v.acts) ∧ y.cell? ⟨bu, ou + j * 4 + 2, none⟩ = some (.int .i64 v.region) ∧ y.cell? ⟨bu, ou + j * 4 + 3, none⟩ = some (.int .i64 v.at_)) := Lib.hid (fun y hy => ⟨hy, (hy.cell (p := ⟨bg, og + i * 6, none⟩) (by exact g1)).trans x0, (hy.cell (p := ⟨bg, og + i * 6 + 1, none⟩) (by exact g1)).trans x1, (hy.cell (p := ⟨bg, og + i * 6 + 2, none⟩) (by exact g1)).trans x2, (hy.cell (p := ⟨bg, og + i * 6 + 3, none⟩) (by exact g1)).trans x3, (hy.cell (p := ⟨bg, og + i * 6 + 4, none⟩) (by exact g1)).trans x4, (hy.cell (p := ⟨bg, og + i * 6 + 5, none⟩) (by exact g1)).trans x5, (hy.cell (p := ⟨bu, ou + j * 4, none⟩) (by exact g2)).trans y0, (hy.cell (p := ⟨bu, ou + j * 4 + 1, none⟩) (by exact g2)).trans y1, (hy.cell (p := ⟨bu, ou + j * 4 + 2, none⟩) (by exact g2)).trans y2, (hy.cell (p := ⟨bu, ou + j * 4 + 3, none⟩) (by exact g2)).trans y3⟩)
              go_upto_region 9 with fail
              go_region_held3 (fun y => Below wr.heap.size wr y ∧ y.cell? ⟨bg, og + i * 6, none⟩ = some (.int .i64 q.item) ∧ y.cell? ⟨bg, og + i * 6 + 1, none⟩ = some (.int .i64 q.acts) ∧ y.cell? ⟨bg, og + i * 6 + 2, none⟩ = some (.int .i64 q.regions) ∧ y.cell? ⟨bg, og + i * 6 + 3, none⟩ = some (.int .i64 q.plays) ∧ y.cell? ⟨bg, og + i * 6 + 4, none⟩ = some (.int .i64 q.fr) ∧ y.cell? ⟨bg, og + i * 6 + 5, none⟩ = some (.int .i64 q.tw) ∧ y.cell? ⟨bu, ou + j * 4, none⟩ = some (.int .i64 v.item) ∧ y.cell? ⟨bu, ou + j * 4 + 1, none⟩ = some (.int .i64 v.acts) ∧ y.cell? ⟨bu, ou + j * 4 + 2, none⟩ = some (.int .i64 v.region) ∧ y.cell? ⟨bu, ou + j * 4 + 3, none⟩ = some (.int .i64 v.at_)) (first | assumption | (exact HSK.out _ (Below.refl _ _).drew)) (first | (go_at_call 45; ((with_reducible refine Calls.mono (HBTJ.out _) ?_); rintro r w5 ⟨rfl, rfl⟩)) | (go_at_call 39; ((with_reducible refine Calls.mono (HPM.out _) ?_); rintro r w5 ⟨rfl, hb5⟩; have hB5 := below_to (‹Below wr.heap.size wr _ ∧ _›).1 hb5; have hS5 := HSK.out _ hB5)))
              all_goals (
                have HX := Lib.hid (below_to HB.out (‹Below wr.heap.size wr _ ∧ _›).1)
                go_wp2
                go_roundw
                case rel => exact ⟨j + 1, by go_num, by omega, by rw [HN9.out], HX⟩
                case measure => simp [intOf]; omega)
        · have j1 : ¬ (j : Int) < (n3 : Int) := by omega
          have HJE := Lib.hid (show (List.range j).filter s.testBit = bitsS U.length s by rw [show j = U.length by have := HN3.out; omega]; rfl)
          rw [HJE.out]
          obtain ⟨ab, hab⟩ : ∃ ab, (bitsS U.length s).any (pG q U) = ab := ⟨_, rfl⟩
          rw [hab] at HSU ⊢
          obtain ⟨x, hx⟩ : ∃ x, P[i]? = some x := ⟨_, List.getElem?_eq_getElem (by rw [HPL.out]; exact hia)⟩
          have HXD := Lib.hid (show P.getD i 0 = x by rw [List.getD_eq_getElem?_getD, hx]; rfl)
          have hx100 : x ≤ 100 := HP100.out x (List.mem_of_getElem? hx)
          obtain ⟨bp, op, rfl, hbp, hcp⟩ := recs_at (HR2.out.below HB.out) i (by rw [zi_len, HPL.out]; exact hia)
          have p0 : wr.cell? ⟨bp, op + i, none⟩ = some (.int .i64 (x : Int)) := by
            have h := hcp i (x : Int) (by simp [zi, hx]) 0 _ rfl
            rwa [Nat.mul_one, Nat.add_zero] at h
          have lw := HB.out.size
          have g1 : bp < wr.heap.size := by omega
          have i2 : (i : Int) < (n2 : Int) := by rw [HN2.out]; omega
          clear hab hcp hx
          cases ab with
          | true =>
            have HSN := Lib.hid (show ((rsum l P U s (i + 1) : Nat) : Int) = (sm : Int) + (x : Int) by rw [HSU.out, HXD.out]; simp)
            go_wp2
            go_roundw
            case rel => exact ⟨i + 1, by go_num, by omega, by rw [HSN.out], HB⟩
            case measure => simp [intOf]; omega
          | false =>
            have HSN := Lib.hid (show ((rsum l P U s (i + 1) : Nat) : Int) = (sm : Int) by rw [HSU.out]; simp)
            go_wp2
            go_roundw
            case rel => exact ⟨i + 1, by go_num, by omega, by rw [HSN.out], HB⟩
            case measure => simp [intOf]; omega
    · have i1 : ¬ (i : Int) < (n : Int) := by omega
      have hin : i = n := by omega
      have hlb := HLB.out
      rw [← hin, HSM.out] at hlb
      obtain ⟨p, hp⟩ : ∃ p, pc s = p := ⟨_, rfl⟩
      rw [hp] at hlb hpc
      have hsz := HSZ.out
      rw [hp] at hsz
      have HSZ2 := Lib.hid hsz
      have HRV := Lib.hid hlb
      clear hin hp hlb hsz
      by_cases hlt : sm < p
      · have f1 : (sm : Int) < (p : Int) := by omega
        have f2 : decide ((sm : Int) < (p : Int)) = true := decide_eq_true f1
        have HV := Lib.hid (show rv = true by rw [HRV.out]; exact decide_eq_true hlt)
        go_wp2_with (go_at_call 43; (with_reducible refine Calls.mono (HSZ2.out _) ?_); rintro r y1 ⟨rfl, rfl⟩)
        go_ret
        exact ⟨by rw [HV.out]; rfl, HB.out⟩
      · have f1 : ¬ (sm : Int) < (p : Int) := by omega
        have f2 : decide ((sm : Int) < (p : Int)) = false := decide_eq_false f1
        have HV := Lib.hid (show rv = false by rw [HRV.out]; exact decide_eq_false hlt)
        go_wp2_with (go_at_call 43; (with_reducible refine Calls.mono (HSZ2.out _) ?_); rintro r y1 ⟨rfl, rfl⟩)
        go_ret
        exact ⟨by rw [HV.out]; rfl, HB.out⟩
theorem pow_le {n : Nat} (h : n ≤ 10) : 2 ^ n ≤ 1024 := Nat.le_trans (Nat.pow_le_pow_right (by decide) h) (by decide)
set_option maxRecDepth 100000 in
set_option maxHeartbeats 8000000 in
theorem enough_any (l : List Gr) (P : List Nat) (U : List Us) (hl : validG l = true) (hu : validU U = true) (hP : P.length = l.length) (hP100 : ∀ x ∈ P, x ≤ 100) (A A2 A3 : Option Addr) (n c n2 c2 n3 c3 : Nat) (w : World) (hr : Recs encG 6 w w.heap.size (.slice A n c) l) (hr2 : Recs enc1 1 w w.heap.size (.slice A2 n2 c2) (zi P)) (hr3 : Recs encU 4 w w.heap.size (.slice A3 n3 c3) U) :
    Calls Try.prog 38 #[.slice A n c, .slice A2 n2 c2, .slice A3 n3 c3] w fun e w' => e = .returned (.bool (enB l P U (2 ^ U.length))) ∧ Below w.heap.size w w' := by
  obtain ⟨hn3, -, -⟩ := recs_cap hr3
  have h10 : n3 ≤ 10 := by rw [hn3]; exact validU_len hu
  obtain ⟨M, hM⟩ : ∃ M : Nat, 2 ^ U.length = M := ⟨_, rfl⟩
  have hM9 : M ≤ 1024 := by rw [← hM, ← hn3]; exact pow_le h10
  have HLK := Lib.hid (fun s (hs : s < M) u (h : Below w.heap.size w u) => rlacks_any l P U s hl hu hP hP100 (by omega) A A2 A3 n c n2 c2 n3 c3 u (hr.next h) (hr2.next h) (hr3.next h))
  have hsh : IntKind.i64.wrap (2 ^ n3) = (M : Int) := by
    rw [hn3]
    have e : ((2 ^ U.length : Nat) : Int) = (M : Int) := by rw [hM]
    rw [← e]
    push_cast
    exact IntWalk.i64_in _ (by have : ((2 ^ U.length : Nat) : Int) = (M : Int) := by rw [hM]
                               push_cast at this
                               omega)
  have hpw : (2 : Int) ^ n3 = (M : Int) := by
    rw [hn3, ← hM]; push_cast; rfl
  have n30 : (0 : Int) ≤ (n3 : Int) := by omega
  have n364 : (n3 : Int) < 64 := by omega
  have t3 : ((n3 : Int)).toNat = n3 := by omega
  obtain ⟨rv, hrv⟩ : ∃ rv, enB l P U M = rv := ⟨_, rfl⟩
  have HRV := Lib.hid hrv
  rw [hM, hrv]
  clear hr hr2 hr3 hn3 hl hu hP hP100 hM hrv
  go_enter Try.func38, Try.ntmps38
  go_wp2
  go_loopw [7] (fun z wr => ∃ k : Nat, z = .int .i64 (k : Int) ∧ k ≤ M ∧ Hid (enB l P U k = true) ∧ Hid (Below w.heap.size w wr)) (fun z _ => M - (intOf z).toNat)
  case atStart => exact ⟨0, rfl, Nat.zero_le _, Lib.hid rfl, Lib.hid (Below.refl _ _)⟩
  case round =>
    obtain ⟨k, rfl, hk, HE, HB⟩ := hrel
    have k0 : (0 : Int) ≤ (k : Int) := by omega
    have e7 : IntKind.i64.wrap ((k : Int) + 1) = (k : Int) + 1 := IntWalk.i64_in _ (by omega)
    by_cases hkl : k < M
    · have k1 : (k : Int) < (M : Int) := by omega
      have HSU := Lib.hid (enB_succ l P U k)
      have HNO := Lib.hid (fun h => enB_no (l := l) (P := P) (U := U) (k := k) h hkl)
      have hlk := HLK.out k hkl wr HB.out
      obtain ⟨b, hb⟩ : ∃ b, rlackB l P U k = b := ⟨_, rfl⟩
      rw [hb] at hlk HSU HNO
      have HLK2 := Lib.hid hlk
      clear hb hlk
      cases b with
      | true =>
        have HV := Lib.hid (show rv = false by rw [← HRV.out]; exact HNO.out rfl)
        go_wp2_with (go_at_call 42; (with_reducible refine Calls.mono (HLK2.out) ?_); rintro r u1 ⟨rfl, hb⟩; have B1 := Lib.hid (below_to HB.out hb); clear hb)
        go_ret
        exact ⟨by rw [HV.out]; rfl, B1.out⟩
      | false =>
        have HN9 := Lib.hid (show enB l P U (k + 1) = true by rw [HSU.out, HE.out]; rfl)
        go_wp2_with (go_at_call 42; (with_reducible refine Calls.mono (HLK2.out) ?_); rintro r u1 ⟨rfl, hb⟩; have B1 := Lib.hid (below_to HB.out hb); clear hb)
        go_roundw
        case rel => exact ⟨k + 1, by go_num, by omega, HN9, B1⟩
        case measure => simp [intOf]; omega
    · have k1 : ¬ (k : Int) < (M : Int) := by omega
      have HV := Lib.hid (show rv = true by rw [← HRV.out, ← HE.out, show k = M by omega])
      go_wp2
      go_ret
      exact ⟨by rw [HV.out]; rfl, HB.out⟩
end Go.Proofs.Ytenojfniknjeiaa
