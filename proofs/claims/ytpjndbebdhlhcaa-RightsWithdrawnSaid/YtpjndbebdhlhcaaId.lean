/- RightsWithdrawn. -/
import Derived.Test.YtpjndbebdhlhcaaIa
namespace Go.Proofs.Ytpjndbebdhlhcaa
open Go.RowKit Go.Shelf

theorem wd_wd (it s t : Int) (x : Gr) : wdG it s (wdG it t x) = wdG it (min s t) x := by
  unfold wdG
  by_cases h : x.item = it
  · simp [h]; omega
  · simp [h]
theorem wd_lt {it s t : Int} {x : Gr} (h : ¬ (wdG it t x).fr < (wdG it t x).tw) : ¬ (wdG it (min s t) x).fr < (wdG it (min s t) x).tw := by
  unfold wdG at h ⊢
  split at h
  · rename_i e
    rw [if_pos e]
    dsimp only at h ⊢
    omega
  · rename_i e
    rw [if_neg e]; exact h
theorem twice (it s t : Int) : ∀ l : List Gr, withL (withL l it t) it s = withL l it (min s t)
  | [] => rfl
  | x :: l => by
    have ih := twice it s t l
    unfold withL at ih ⊢
    rw [List.map_cons, List.map_cons, List.filter_cons, List.filter_cons]
    by_cases h : (wdG it t x).fr < (wdG it t x).tw
    · rw [if_pos (by simpa using h), List.map_cons, List.filter_cons, wd_wd, ih]
    · rw [if_neg (by simpa using h), ih, if_neg (by simpa using wd_lt h)]
theorem okG_wd {it t : Int} {x : Gr} (h : okG x = true) (hx : (wdG it t x).fr < (wdG it t x).tw) : okG (wdG it t x) = true := by
  unfold wdG at hx ⊢
  split
  · rename_i e
    rw [if_pos e] at hx
    unfold okG at h ⊢
    simp only [Bool.and_eq_true, decide_eq_true_eq] at h ⊢
    dsimp only at hx
    omega
  · exact h
theorem withOk_of {l : List Gr} (hl : validG l = true) {it t : Int} (h0 : 0 ≤ it) (h1 : it < 200) (h2 : 0 ≤ t) (h3 : t ≤ 10000000) : withOk l it t = true := by
  unfold withOk
  simp [hl, h0, h1, h2, h3]
theorem withL_valid {l : List Gr} (hl : validG l = true) (it t : Int) : validG (withL l it t) = true := by
  have hll := withL_len l it t
  unfold validG at hl ⊢
  rw [Bool.and_eq_true, decide_eq_true_eq, List.all_eq_true] at hl ⊢
  refine ⟨Nat.le_trans hll hl.1, fun g hg => ?_⟩
  unfold withL at hg
  obtain ⟨h1, h2⟩ := List.mem_filter.1 hg
  obtain ⟨x, hx, rfl⟩ := List.mem_map.1 h1
  exact okG_wd (hl.2 x hx) (by simpa using h2)
theorem permL_len (l : List Gr) (u : Us) : (permL l u).length = l.countP fun g => perB g u := by
  unfold permL permK
  rw [← List.countP_eq_length_filter]
  have e3 : (List.range l.length).map (fun i => l.getD i g0) = l := by
    apply List.ext_getElem
    · simp
    · intro i h1 h2; simp at h1; simp [h1]
  have e4 := List.countP_map (p := fun g => perB g u) (f := fun i => l.getD i g0) (l := List.range l.length)
  rw [e3] at e4
  rw [e4]; rfl
theorem perB_item2 {g : Gr} {u : Us} (h : perB g u = true) : g.item = u.item := by
  unfold perB at h
  simp only [Bool.and_eq_true, beq_iff_eq] at h
  exact h.1.1.1.1
theorem perB_wd (it t : Int) (g : Gr) (u : Us) : perB (wdG it t g) u = if u.item = it ∧ t ≤ u.at_ then false else perB g u := by
  unfold wdG
  by_cases h : g.item = it
  · rw [if_pos h]
    unfold perB
    dsimp only
    by_cases h2 : g.item = u.item
    · have h3 : u.item = it := by omega
      by_cases h4 : t ≤ u.at_
      · rw [if_pos ⟨h3, h4⟩]
        have : ¬ u.at_ < min g.tw t := by omega
        simp [this]
      · rw [if_neg (fun e => h4 e.2)]
        have : (u.at_ < min g.tw t) = (u.at_ < g.tw) := by apply propext; constructor <;> intro <;> omega
        simp [this]
    · have : (g.item == u.item) = false := by simp [h2]
      simp [this]
  · rw [if_neg h]
    by_cases hp : perB g u = true
    · have := perB_item2 hp
      rw [if_neg (fun e => h (by omega))]
    · rw [Bool.not_eq_true] at hp
      rw [hp]; split <;> rfl
theorem perB_lt {g : Gr} {u : Us} (h : perB g u = true) : g.fr < g.tw := by
  unfold perB at h
  simp only [Bool.and_eq_true, decide_eq_true_eq] at h
  omega
theorem count_wd (it t : Int) (u : Us) : ∀ l : List Gr, (withL l it t).countP (fun g => perB g u) = if u.item = it ∧ t ≤ u.at_ then 0 else l.countP fun g => perB g u
  | [] => by simp [withL]
  | x :: l => by
    have ih := count_wd it t u l
    have hp := perB_wd it t x u
    unfold withL at ih ⊢
    rw [List.map_cons, List.filter_cons]
    by_cases h : (wdG it t x).fr < (wdG it t x).tw
    · rw [if_pos (by simpa using h), List.countP_cons, ih, List.countP_cons, hp]
      split <;> simp
    · have hn : perB (wdG it t x) u = false := by
        rw [← Bool.not_eq_true]; exact fun e => h (perB_lt e)
      rw [if_neg (by simpa using h), ih, List.countP_cons]
      rw [hn] at hp
      split
      · rfl
      · rename_i hc
        rw [if_neg hc] at hp
        rw [← hp]; simp
theorem perm_count {l : List Gr} {u : Us} (hl : validG l = true) (hu : okU u = true) : (permV l u).length = l.countP fun g => perB g u := by
  unfold permV
  rw [hl, hu]
  exact permL_len l u
theorem wd_at (l : List Gr) (it t : Int) (V : List Gr) (hV : withV l it t = V) (A : Option Addr) (n c : Nat) (w : World) (hr : Recs encG 6 w w.heap.size (.slice A n c) l) :
    Calls Try.prog 18 #[.slice A n c, .int .i64 it, .int .i64 t] w fun e w' => ∃ A c, e = .returned (.slice A V.length c) ∧ Recs encG 6 w' w'.heap.size (.slice A V.length c) V ∧ Below w.heap.size w w' := by
  subst hV
  exact Withdraw_any l it t A n c w hr
theorem val_at (l : List Gr) (hl : validG l = true) (A : Option Addr) (n c : Nat) (w : World) (hr : Recs encG 6 w w.heap.size (.slice A n c) l) :
    Calls Try.prog 13 #[.slice A n c] w fun e w' => e = .returned (.bool true) ∧ Below w.heap.size w w' := by
  have h := Valid_any l A n c w hr
  rwa [hl] at h
theorem perm_at (l : List Gr) (u : Us) (m : Nat) (hm : (permV l u).length = m) (A : Option Addr) (n c : Nat) (w : World) (hr : Recs encG 6 w w.heap.size (.slice A n c) l) :
    Calls Try.prog 28 #[.slice A n c, .agg #[.int .i64 u.item, .int .i64 u.acts, .int .i64 u.region, .int .i64 u.at_]] w fun e w' => ∃ A' c', e = .returned (.slice A' m c') ∧ Below w.heap.size w w' := by
  refine (Permits_any l u A n c w hr).mono ?_
  rintro e w' ⟨A', n', c', rfl, h1, h2⟩
  have hn := (recs_cap h1).1
  rw [zi_len, hm] at hn
  subst hn
  exact ⟨A', c', rfl, h2⟩
theorem same_at (a b : List Gr) (h : a = b) (A A2 : Option Addr) (n c n2 c2 : Nat) (w : World) (hr : Recs encG 6 w w.heap.size (.slice A n c) a) (hr2 : Recs encG 6 w w.heap.size (.slice A2 n2 c2) b) :
    Calls Try.prog 17 #[.slice A n c, .slice A2 n2 c2] w fun e w' => e = .returned (.bool true) ∧ Below w.heap.size w w' := by
  have h3 := rsame_any a b A A2 n c n2 c2 w hr hr2
  rwa [decide_eq_true h] at h3
set_option maxRecDepth 100000 in
set_option maxHeartbeats 16000000 in
theorem withdrawn_true (v0 : Value) (xs : List I5) (v1 : Value) (ys : List I4) (x2 x3 x4 : Int) (w : World) (hr0 : Recs enc5 5 w w.heap.size v0 xs) (hx : ∀ x ∈ xs, OkI5 x) (hr1 : Recs enc4 4 w w.heap.size v1 ys) (hy : ∀ y ∈ ys, OkI4 y) (h2 : -9223372036854775808 ≤ x2 ∧ x2 ≤ 9223372036854775807) (h3 : -9223372036854775808 ≤ x3 ∧ x3 ≤ 9223372036854775807) (h4 : -9223372036854775808 ≤ x4 ∧ x4 ≤ 9223372036854775807) :
    Calls Try.prog 7 #[v0, v1, .int .i64 x2, .int .i64 x3, .int .i64 x4] w fun e w' => e = .returned (.bool true) ∧ Below w.heap.size w w' := by
  obtain ⟨A0, c0, rfl, -⟩ := recs_form hr0
  obtain ⟨A1, c1, rfl, -⟩ := recs_form hr1
  have HM := Lib.hid (fun u (h : Below w.heap.size w u) => made_any xs hx A0 _ c0 u (hr0.next h))
  have HN := Lib.hid (fun u (h : Below w.heap.size w u) => madeUses_any ys hy A1 _ c1 u (hr1.next h))
  have HVL := Lib.hid (madeG_valid xs)
  have HVU := Lib.hid (madeU_valid ys)
  have HUL := Lib.hid (madeU_len ys)
  have P1 := Lib.hid (fun u => pick_any x2 3 (by decide) (by decide) h2.1 h2.2 u)
  have P2 := Lib.hid (fun u => pick_any x3 1000 (by decide) (by decide) h3.1 h3.2 u)
  have P3 := Lib.hid (fun u => pick_any x4 1000 (by decide) (by decide) h4.1 h4.2 u)
  have b1 := pickI_lt x2 3 (by decide); have b2 := pickI_lt x3 1000 (by decide); have b3 := pickI_lt x4 1000 (by decide)
  generalize pickI x2 3 = it at *
  generalize pickI x3 1000 = t at *
  generalize pickI x4 1000 = s at *
  clear hr0 hr1 hx hy h2 h3 h4
  generalize madeG xs = L at *
  generalize madeU ys = U at *
  have ok1 : ∀ l, validG l = true → withV l it t = withL l it t := fun l h => by unfold withV; rw [withOk_of h (by omega) (by omega) (by omega) (by omega)]; rfl
  have ok2 : ∀ l, validG l = true → withV l it s = withL l it s := fun l h => by unfold withV; rw [withOk_of h (by omega) (by omega) (by omega) (by omega)]; rfl
  have ok3 : ∀ l, validG l = true → withV l it (min s t) = withL l it (min s t) := fun l h => by unfold withV; rw [withOk_of h (by omega) (by omega) (by omega) (by omega)]; rfl
  obtain ⟨LE, hLE⟩ : ∃ V, withV L it t = V := ⟨_, rfl⟩
  obtain ⟨V1, hV1⟩ : ∃ V, withV LE it s = V := ⟨_, rfl⟩
  obtain ⟨V2, hV2⟩ : ∃ V, withV L it s = V := ⟨_, rfl⟩
  obtain ⟨V3, hV3⟩ : ∃ V, withV V2 it t = V := ⟨_, rfl⟩
  obtain ⟨V4, hV4⟩ : ∃ V, withV L it (min s t) = V := ⟨_, rfl⟩
  have hvLE : validG LE = true := by rw [← hLE, ok1 L HVL.out]; exact withL_valid HVL.out _ _
  have hvV2 : validG V2 = true := by rw [← hV2, ok2 L HVL.out]; exact withL_valid HVL.out _ _
  have e14 : V1 = V4 := by rw [← hV1, ← hV4, ok2 LE hvLE, ok3 L HVL.out, ← hLE, ok1 L HVL.out, twice]
  have e34 : V3 = V4 := by rw [← hV3, ← hV4, ok1 V2 hvV2, ok3 L HVL.out, ← hV2, ok2 L HVL.out, twice, Int.min_comm]
  have HC := Lib.hid (show ∀ q ∈ U, (permV LE q).length = if q.item = it ∧ t ≤ q.at_ then 0 else (permV L q).length from fun q hq => by
    have hok : okU q = true := by
      have h := HVU.out
      unfold validU at h
      rw [Bool.and_eq_true, List.all_eq_true] at h
      exact h.2 q hq
    rw [perm_count hvLE hok, perm_count HVL.out hok, ← hLE, ok1 L HVL.out, count_wd])
  have HWLE := Lib.hid hLE; have HWV1 := Lib.hid hV1; have HWV2 := Lib.hid hV2; have HWV3 := Lib.hid hV3; have HWV4 := Lib.hid hV4
  have HVLE := Lib.hid hvLE; have HE13 := Lib.hid (show V1 = V3 by rw [e14, e34]); have HE14 := Lib.hid e14
  have MN := fun w : World => run_min2 (P := Try.prog) (w := w) #[3, 3] 3 .i64 .i64 s t (min s t) rfl
  generalize min s t = mn at *
  have b10 := b1.1; have b11 := b1.2
  clear ok1 ok2 ok3 hLE hV1 hV2 hV3 hV4 hvLE hvV2 e14 e34 b1 b2 b3
  go_enter Try.func7, Try.ntmps7
  go_wp2_with (first | (go_at_call 10; (with_reducible refine Calls.mono (sane_any _) ?_); rintro r u1 ⟨rfl, hb⟩; have B1 := Lib.hid hb; clear hb) | (go_at_call 11; (with_reducible refine Calls.mono (HM.out _ B1.out) ?_); rintro r u2 ⟨v2, rfl, hg⟩; obtain ⟨A2_, c2_, rfl, -⟩ := own_slice hg.own; have B2 := Lib.hid (below_to B1.out hg.b); have HG := Lib.hid hg.recs; clear hg) | (go_at_call 12; (with_reducible refine Calls.mono (HN.out _ B2.out) ?_); rintro r u3 ⟨v3, rfl, hg⟩; obtain ⟨A3_, c3_, rfl, -⟩ := own_slice hg.own; have B3 := Lib.hid (below_to B2.out hg.b); have HG := Lib.hid (HG.out.next hg.b); have HU := Lib.hid hg.recs; clear hg) | (go_at_call 20; (first | (with_reducible refine Calls.mono (P1.out _) ?_) | (with_reducible refine Calls.mono (P2.out _) ?_) | (with_reducible refine Calls.mono (P3.out _) ?_)); rintro r y1 ⟨rfl, rfl⟩) | (go_at_call 18; (with_reducible refine Calls.mono (wd_at L it t LE HWLE.out _ _ _ _ HG.out) ?_); rintro r u4 ⟨A4_, c4_, rfl, h4, hb⟩; have B4 := Lib.hid (below_to B3.out hb); have HG := Lib.hid (HG.out.next hb); have HU := Lib.hid (HU.out.next hb); have HL := Lib.hid h4; clear hb h4) | (go_at_call 13; (with_reducible refine Calls.mono (val_at LE HVLE.out _ _ _ _ HL.out) ?_); rintro r u5 ⟨rfl, hb⟩; have B5 := Lib.hid (below_to B4.out hb); have HG := Lib.hid (HG.out.next hb); have HU := Lib.hid (HU.out.next hb); have HL := Lib.hid (HL.out.next hb); clear hb))
  go_loopw [18] (fun z wr => ∃ k : Nat, z = .int .i64 (k : Int) ∧ k ≤ U.length ∧ Hid (Below u5.heap.size u5 wr)) (fun z _ => U.length - (intOf z).toNat)
  case atStart => exact ⟨0, rfl, Nat.zero_le _, Lib.hid (Below.refl _ _)⟩
  case round =>
    obtain ⟨j, rfl, hj, HB⟩ := hrel
    have j0 : (0 : Int) ≤ (j : Int) := by omega
    have u9 : U.length ≤ 7 := HUL.out
    by_cases hjl : j < U.length
    · have j1 : (j : Int) < (U.length : Int) := by omega
      obtain ⟨b, o, rfl, hg, hcell⟩ := recs_at (HU.out.below HB.out) j hjl
      obtain ⟨q, hq⟩ : ∃ q, U[j]? = some q := ⟨_, List.getElem?_eq_getElem hjl⟩
      have lw := HB.out.size
      have g9 : b < wr.heap.size := by omega
      have a0 : wr.cell? ⟨b, o + j * 4, none⟩ = some (.int .i64 q.item) := hcell j q hq 0 _ rfl
      have a1 : wr.cell? ⟨b, o + j * 4 + 1, none⟩ = some (.int .i64 q.acts) := hcell j q hq 1 _ rfl
      have a2 : wr.cell? ⟨b, o + j * 4 + 2, none⟩ = some (.int .i64 q.region) := hcell j q hq 2 _ rfl
      have a3 : wr.cell? ⟨b, o + j * 4 + 3, none⟩ = some (.int .i64 q.at_) := hcell j q hq 3 _ rfl
      have e5 : IntKind.i64.wrap ((j : Int) + 1) = (j : Int) + 1 := IntWalk.i64_in _ (by omega)
      have hcq := HC.out q (List.mem_of_getElem? hq)
      obtain ⟨m1, hm1⟩ : ∃ m, (permV L q).length = m := ⟨_, rfl⟩
      obtain ⟨m2, hm2⟩ : ∃ m, (permV LE q).length = m := ⟨_, rfl⟩
      rw [hm1, hm2] at hcq
      have HM1 := Lib.hid hm1
      have HM2 := Lib.hid hm2
      clear hcell hq lw hm1 hm2
      by_cases hi : q.item = it
      · have e1 : (q.item == it) = true := by simp [hi]
        by_cases ht : t ≤ q.at_
        · rw [if_pos ⟨hi, ht⟩] at hcq
          subst hcq
          clear hi
          have hba : Below wr.heap.size wr (wr.alloc (.cells #[.int .i64 q.item, .int .i64 q.acts, .int .i64 q.region, .int .i64 q.at_] 46)) := (Below.refl _ _).alloc (Nat.le_refl _) _
          have HBA := Lib.hid hba
          have RB := Lib.hid (Row.new wr 46 #[.int .i64 q.item, .int .i64 q.acts, .int .i64 q.region, .int .i64 q.at_])
          have r0 := RB.out.cell 0; have r1 := RB.out.cell 1; have r2 := RB.out.cell 2; have r3 := RB.out.cell 3
          have HP1 := Lib.hid (perm_at L q m1 HM1.out _ _ _ (wr.alloc (.cells #[.int .i64 q.item, .int .i64 q.acts, .int .i64 q.region, .int .i64 q.at_] 46)) ((HG.out.next HB.out).next hba))
          clear hba
          go_wp2_with (first | (go_at_call 28; (with_reducible refine Calls.mono HP1.out ?_); rintro r u6 ⟨A6, c6, rfl, hb⟩; clear r0 r1 r2 r3; have B6 := Lib.hid (below_to HB.out (below_to HBA.out hb)); have RB2 := Lib.hid (RB.out.below hb RB.out.lt); have s0 := RB2.out.cell 0; have s1 := RB2.out.cell 1; have s2 := RB2.out.cell 2; have s3 := RB2.out.cell 3; have sl := RB2.out.lt; have HP2 := Lib.hid (perm_at LE q 0 HM2.out _ _ _ u6 (HL.out.next B6.out)); clear hb) | (go_at_call 28; (with_reducible refine Calls.mono HP2.out ?_); rintro r u7 ⟨A7, c7, rfl, hb⟩; clear s0 s1 s2 s3 sl; have B7 := Lib.hid (below_to B6.out hb); have RB3 := Lib.hid (RB2.out.below hb RB2.out.lt); have t0 := RB3.out.cell 0; have t1 := RB3.out.cell 1; have t2 := RB3.out.cell 2; have t3 := RB3.out.cell 3; have tl := RB3.out.lt; clear hb))
          go_roundw
          case rel => exact ⟨j + 1, by go_num, by omega, B7⟩
          case measure => simp [intOf]; omega
        · rw [if_neg (fun e => ht e.2)] at hcq
          subst hcq
          clear hi
          have hba : Below wr.heap.size wr (wr.alloc (.cells #[.int .i64 q.item, .int .i64 q.acts, .int .i64 q.region, .int .i64 q.at_] 46)) := (Below.refl _ _).alloc (Nat.le_refl _) _
          have HBA := Lib.hid hba
          have RB := Lib.hid (Row.new wr 46 #[.int .i64 q.item, .int .i64 q.acts, .int .i64 q.region, .int .i64 q.at_])
          have r0 := RB.out.cell 0; have r1 := RB.out.cell 1; have r2 := RB.out.cell 2; have r3 := RB.out.cell 3
          have HP1 := Lib.hid (perm_at L q m2 HM1.out _ _ _ (wr.alloc (.cells #[.int .i64 q.item, .int .i64 q.acts, .int .i64 q.region, .int .i64 q.at_] 46)) ((HG.out.next HB.out).next hba))
          clear hba
          go_wp2_with (first | (go_at_call 28; (with_reducible refine Calls.mono HP1.out ?_); rintro r u6 ⟨A6, c6, rfl, hb⟩; clear r0 r1 r2 r3; have B6 := Lib.hid (below_to HB.out (below_to HBA.out hb)); have RB2 := Lib.hid (RB.out.below hb RB.out.lt); have s0 := RB2.out.cell 0; have s1 := RB2.out.cell 1; have s2 := RB2.out.cell 2; have s3 := RB2.out.cell 3; have sl := RB2.out.lt; have HP2 := Lib.hid (perm_at LE q m2 HM2.out _ _ _ u6 (HL.out.next B6.out)); clear hb) | (go_at_call 28; (with_reducible refine Calls.mono HP2.out ?_); rintro r u7 ⟨A7, c7, rfl, hb⟩; clear s0 s1 s2 s3 sl; have B7 := Lib.hid (below_to B6.out hb); have RB3 := Lib.hid (RB2.out.below hb RB2.out.lt); have t0 := RB3.out.cell 0; have t1 := RB3.out.cell 1; have t2 := RB3.out.cell 2; have t3 := RB3.out.cell 3; have tl := RB3.out.lt; clear hb))
          go_roundw
          case rel => exact ⟨j + 1, by go_num, by omega, B7⟩
          case measure => simp [intOf]; omega
      · have e1 : (q.item == it) = false := by simp [hi]
        rw [if_neg (fun e => hi e.1)] at hcq
        subst hcq
        clear hi
        have hba : Below wr.heap.size wr (wr.alloc (.cells #[.int .i64 q.item, .int .i64 q.acts, .int .i64 q.region, .int .i64 q.at_] 46)) := (Below.refl _ _).alloc (Nat.le_refl _) _
        have HBA := Lib.hid hba
        have RB := Lib.hid (Row.new wr 46 #[.int .i64 q.item, .int .i64 q.acts, .int .i64 q.region, .int .i64 q.at_])
        have r0 := RB.out.cell 0; have r1 := RB.out.cell 1; have r2 := RB.out.cell 2; have r3 := RB.out.cell 3
        have HP1 := Lib.hid (perm_at L q m2 HM1.out _ _ _ (wr.alloc (.cells #[.int .i64 q.item, .int .i64 q.acts, .int .i64 q.region, .int .i64 q.at_] 46)) ((HG.out.next HB.out).next hba))
        clear hba
        go_wp2_with (first | (go_at_call 28; (with_reducible refine Calls.mono HP1.out ?_); rintro r u6 ⟨A6, c6, rfl, hb⟩; clear r0 r1 r2 r3; have B6 := Lib.hid (below_to HB.out (below_to HBA.out hb)); have RB2 := Lib.hid (RB.out.below hb RB.out.lt); have s0 := RB2.out.cell 0; have s1 := RB2.out.cell 1; have s2 := RB2.out.cell 2; have s3 := RB2.out.cell 3; have sl := RB2.out.lt; have HP2 := Lib.hid (perm_at LE q m2 HM2.out _ _ _ u6 (HL.out.next B6.out)); clear hb) | (go_at_call 28; (with_reducible refine Calls.mono HP2.out ?_); rintro r u7 ⟨A7, c7, rfl, hb⟩; clear s0 s1 s2 s3 sl; have B7 := Lib.hid (below_to B6.out hb); have RB3 := Lib.hid (RB2.out.below hb RB2.out.lt); have t0 := RB3.out.cell 0; have t1 := RB3.out.cell 1; have t2 := RB3.out.cell 2; have t3 := RB3.out.cell 3; have tl := RB3.out.lt; clear hb))
        go_roundw
        case rel => exact ⟨j + 1, by go_num, by omega, B7⟩
        case measure => simp [intOf]; omega
    · have j1 : ¬ (j : Int) < (U.length : Int) := by omega
      have HGB := Lib.hid (HG.out.next HB.out)
      have HLB := Lib.hid (HL.out.next HB.out)
      have BB := Lib.hid (below_to B5.out HB.out)
      go_wp2_with (first | (go_at_call 18; (with_reducible refine Calls.mono (wd_at LE it s V1 HWV1.out _ _ _ _ HLB.out) ?_); rintro r u6 ⟨A6, c6, rfl, h6, hb⟩; have B6 := Lib.hid (below_to BB.out hb); have HGC := Lib.hid (HGB.out.next hb); have H1 := Lib.hid h6; clear hb h6) | (go_at_call 18; (with_reducible refine Calls.mono (wd_at L it s V2 HWV2.out _ _ _ _ HGC.out) ?_); rintro r u7 ⟨A7, c7, rfl, h7, hb⟩; have B7 := Lib.hid (below_to B6.out hb); have HGD := Lib.hid (HGC.out.next hb); have H1 := Lib.hid (H1.out.next hb); have H2 := Lib.hid h7; clear hb h7) | (go_at_call 18; (with_reducible refine Calls.mono (wd_at V2 it t V3 HWV3.out _ _ _ _ H2.out) ?_); rintro r u8 ⟨A8, c8, rfl, h8, hb⟩; have B8 := Lib.hid (below_to B7.out hb); have HGE := Lib.hid (HGD.out.next hb); have H1 := Lib.hid (H1.out.next hb); have H3 := Lib.hid h8; clear hb h8) | (go_at_call 17; (with_reducible refine Calls.mono (same_at V1 V3 HE13.out _ _ _ _ _ _ _ H1.out H3.out) ?_); rintro r u9 ⟨rfl, hb⟩; have B9 := Lib.hid (below_to B8.out hb); have HGF := Lib.hid (HGE.out.next hb); have H1 := Lib.hid (H1.out.next hb); clear hb) | (go_at_call 18; (with_reducible refine Calls.mono (wd_at L it mn V4 HWV4.out _ _ _ _ HGF.out) ?_); rintro r u10 ⟨A10, c10, rfl, h10, hb⟩; have B10 := Lib.hid (below_to B9.out hb); have H1 := Lib.hid (H1.out.next hb); have H4 := Lib.hid h10; clear hb h10) | (go_at_call 17; (with_reducible refine Calls.mono (same_at V1 V4 HE14.out _ _ _ _ _ _ _ H1.out H4.out) ?_); rintro r u11 ⟨rfl, hb⟩; have Bz := Lib.hid (below_to B10.out hb); clear hb))
      go_ret
      exact ⟨rfl, Bz.out⟩
end Go.Proofs.Ytpjndbebdhlhcaa
