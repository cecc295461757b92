/- RightsApart. -/
import Derived.Test.YtenojfniknjeiaaIa
import Derived.Deep.CutBlock
namespace Go.Proofs.Ytenojfniknjeiaa
open Go.RowKit Go.Shelf
attribute [local go_sem ↓] append_appN

noncomputable def canB (l : List Gr) (U : List Us) : Bool := @decide (Can (plN l) (chL l U)) (Classical.propDecidable _)
theorem canB_iff {l : List Gr} {U : List Us} : canB l U = true ↔ Can (plN l) (chL l U) := by
  unfold canB
  exact @decide_eq_true_iff _ (Classical.propDecidable _)
noncomputable def errC (l : List Gr) (U : List Us) : Int := if canB l U then 0 else 80
theorem assign_at (l : List Gr) (U : List Us) (hl : validG l = true) (hu : validU U = true) (A A2 : Option Addr) (n c n2 c2 : Nat) (w : World) (hr : Recs encG 6 w w.heap.size (.slice A n c) l) (hu' : Recs encU 4 w w.heap.size (.slice A2 n2 c2) U) :
    Calls Try.prog 21 #[.slice A n c, .slice A2 n2 c2] w fun e w' => ∃ v, e = .returned (.tuple #[v, .int .i64 (errC l U)]) ∧ Below w.heap.size w w' := by
  refine (Assign_any l U A A2 n c n2 c2 w hr hu').mono ?_
  rintro e w' ⟨v, err, rfl, hb, ⟨rfl, rfl, h⟩ | ⟨rfl, _, _, L, hL, _⟩⟩
  · have hc : canB l U = false := by
      rcases h with h | h
      · exact absurd ⟨hl, hu⟩ h
      · rw [← Bool.not_eq_true, canB_iff]; exact h
    exact ⟨_, by unfold errC; rw [hc]; rfl, hb⟩
  · have hc : canB l U = true := canB_iff.2 ⟨L, hL.is⟩
    exact ⟨_, by unfold errC; rw [hc]; rfl, hb⟩
/-- An assignment as pairs of a grant and a use. -/
def CanZ (P : List Nat) (c : Us → List Nat) (U : List Us) : Prop := ∃ z : List (Nat × Us), z.map Prod.snd = U ∧ (∀ q ∈ z, q.1 ∈ c q.2) ∧ ∀ g, (z.map Prod.fst).count g ≤ P.getD g 0
theorem canZ_iff {P : List Nat} {c : Us → List Nat} {U : List Us} : Can P (U.map c) ↔ CanZ P c U := by
  constructor
  · rintro ⟨a, h⟩
    have hl : a.length = U.length := by rw [h.len, List.length_map]
    refine ⟨a.zip U, List.map_snd_zip (by omega), fun q hq => ?_, fun g => ?_⟩
    · obtain ⟨i, hi, e⟩ := List.getElem_of_mem hq
      have hi2 : i < a.length ∧ i < U.length := by rw [List.length_zip] at hi; omega
      have hm := h.mem i (by rw [List.length_map]; exact hi2.2)
      rw [at_eq hi2.1] at hm
      have e2 : (U.map c).getD i [] = c (U[i]'hi2.2) := by simp [List.getD_eq_getElem?_getD, hi2.2]
      rw [e2] at hm
      rw [List.getElem_zip] at e
      rw [← e]
      exact hm
    · rw [List.map_fst_zip (by omega)]; exact h.cnt g
  · rintro ⟨z, rfl, h1, h2⟩
    refine ⟨z.map Prod.fst, by simp, fun u hu => ?_, h2⟩
    have hu' : u < z.length := by simpa using hu
    have hm := h1 z[u] (List.getElem_mem hu')
    rw [List.getD_eq_getElem?_getD, List.getD_eq_getElem?_getD, List.getElem?_eq_getElem (by simpa using hu'), List.getElem?_eq_getElem (by simpa using hu')]
    simpa using hm
theorem CanZ.filter {P : List Nat} {c : Us → List Nat} {U : List Us} (p : Us → Bool) (h : CanZ P c U) : CanZ P c (U.filter p) := by
  obtain ⟨z, rfl, h1, h2⟩ := h
  refine ⟨z.filter fun q => p q.2, by rw [List.filter_map]; rfl, fun q hq => h1 q (List.mem_filter.1 hq).1, fun g => Nat.le_trans ((List.filter_sublist.map _).count_le g) (h2 g)⟩
abbrev isI (k : Nat) (u : Us) : Bool := u.item == (k : Int)
theorem merge3 : ∀ (U : List Us) (z0 z1 z2 : List (Nat × Us)), (∀ u ∈ U, u.item = 0 ∨ u.item = 1 ∨ u.item = 2) → z0.map Prod.snd = U.filter (isI 0) → z1.map Prod.snd = U.filter (isI 1) → z2.map Prod.snd = U.filter (isI 2) →
    ∃ z : List (Nat × Us), z.map Prod.snd = U ∧ (∀ q ∈ z, q ∈ z0 ∨ q ∈ z1 ∨ q ∈ z2) ∧ ∀ g, (z.map Prod.fst).count g = (z0.map Prod.fst).count g + (z1.map Prod.fst).count g + (z2.map Prod.fst).count g
  | [], z0, z1, z2, _, h0, h1, h2 => by
    have e0 : z0 = [] := by simpa using h0
    have e1 : z1 = [] := by simpa using h1
    have e2 : z2 = [] := by simpa using h2
    subst e0 e1 e2
    exact ⟨[], rfl, fun q hq => (by cases hq), fun g => rfl⟩
  | u :: U, z0, z1, z2, hU, h0, h1, h2 => by
    have hU' : ∀ x ∈ U, x.item = 0 ∨ x.item = 1 ∨ x.item = 2 := fun x hx => hU x (by simp [hx])
    rcases hU u (by simp) with h | h | h
    · rw [List.filter_cons_of_pos (by simp [h])] at h0
      rw [List.filter_cons_of_neg (by simp [h])] at h1 h2
      obtain ⟨⟨g, u'⟩, z0, rfl⟩ : ∃ q r, z0 = q :: r := by cases z0 with | nil => simp at h0 | cons q r => exact ⟨q, r, rfl⟩
      rw [List.map_cons, List.cons.injEq] at h0
      obtain ⟨rfl, h0⟩ := h0
      obtain ⟨z, e1, e2, e3⟩ := merge3 U z0 z1 z2 hU' h0 h1 h2
      refine ⟨(g, u') :: z, by rw [List.map_cons, e1], fun q hq => ?_, fun x => ?_⟩
      · rcases List.mem_cons.1 hq with rfl | hq
        · exact .inl (by simp)
        · rcases e2 q hq with k | k | k
          · exact .inl (by simp [k])
          · exact .inr (.inl k)
          · exact .inr (.inr k)
      · have := e3 x; simp only [List.map_cons, List.count_cons]; omega
    · rw [List.filter_cons_of_pos (by simp [h])] at h1
      rw [List.filter_cons_of_neg (by simp [h])] at h0 h2
      obtain ⟨⟨g, u'⟩, z1, rfl⟩ : ∃ q r, z1 = q :: r := by cases z1 with | nil => simp at h1 | cons q r => exact ⟨q, r, rfl⟩
      rw [List.map_cons, List.cons.injEq] at h1
      obtain ⟨rfl, h1⟩ := h1
      obtain ⟨z, e1, e2, e3⟩ := merge3 U z0 z1 z2 hU' h0 h1 h2
      refine ⟨(g, u') :: z, by rw [List.map_cons, e1], fun q hq => ?_, fun x => ?_⟩
      · rcases List.mem_cons.1 hq with rfl | hq
        · exact .inr (.inl (by simp))
        · rcases e2 q hq with k | k | k
          · exact .inl k
          · exact .inr (.inl (by simp [k]))
          · exact .inr (.inr k)
      · have := e3 x; simp only [List.map_cons, List.count_cons]; omega
    · rw [List.filter_cons_of_pos (by simp [h])] at h2
      rw [List.filter_cons_of_neg (by simp [h])] at h0 h1
      obtain ⟨⟨g, u'⟩, z2, rfl⟩ : ∃ q r, z2 = q :: r := by cases z2 with | nil => simp at h2 | cons q r => exact ⟨q, r, rfl⟩
      rw [List.map_cons, List.cons.injEq] at h2
      obtain ⟨rfl, h2⟩ := h2
      obtain ⟨z, e1, e2, e3⟩ := merge3 U z0 z1 z2 hU' h0 h1 h2
      refine ⟨(g, u') :: z, by rw [List.map_cons, e1], fun q hq => ?_, fun x => ?_⟩
      · rcases List.mem_cons.1 hq with rfl | hq
        · exact .inr (.inr (by simp))
        · rcases e2 q hq with k | k | k
          · exact .inl k
          · exact .inr (.inl k)
          · exact .inr (.inr (by simp [k]))
      · have := e3 x; simp only [List.map_cons, List.count_cons]; omega
theorem perB_item {g : Gr} {u : Us} (h : perB g u = true) : g.item = u.item := by
  unfold perB at h
  simp only [Bool.and_eq_true, beq_iff_eq] at h
  exact h.1.1.1.1
/-- Uses can be assigned exactly if those of each item can. -/
theorem can_apart {l : List Gr} {U : List Us} (hU : ∀ u ∈ U, u.item = 0 ∨ u.item = 1 ∨ u.item = 2) : Can (plN l) (chL l U) ↔ ∀ k, k < 3 → Can (plN l) (chL l (U.filter (isI k))) := by
  unfold chL
  simp only [canZ_iff]
  constructor
  · exact fun h k _ => h.filter _
  · intro h
    obtain ⟨z0, e0, a0, b0⟩ := h 0 (by decide)
    obtain ⟨z1, e1, a1, b1⟩ := h 1 (by decide)
    obtain ⟨z2, e2, a2, b2⟩ := h 2 (by decide)
    obtain ⟨z, e, a, b⟩ := merge3 U z0 z1 z2 hU e0 e1 e2
    have key : ∀ (k : Nat) (zk : List (Nat × Us)), zk.map Prod.snd = U.filter (isI k) → (∀ q ∈ zk, q.1 ∈ permV l q.2) → ∀ g, (zk.map Prod.fst).count g ≠ 0 → (l.getD g g0).item = (k : Int) := fun k zk hz hm g hc => by
      have hg : g ∈ zk.map Prod.fst := List.count_pos_iff.1 (by omega)
      obtain ⟨q, hq, rfl⟩ := List.mem_map.1 hg
      have hi : q.2 ∈ U.filter (isI k) := by rw [← hz]; exact List.mem_map.2 ⟨q, hq, rfl⟩
      have h1 := perB_item (permV_lt (hm q hq)).2
      have h2 := (List.mem_filter.1 hi).2
      rw [h1]
      simpa using h2
    refine ⟨z, e, fun q hq => ?_, fun g => ?_⟩
    · rcases a q hq with k | k | k
      · exact a0 q k
      · exact a1 q k
      · exact a2 q k
    · rw [b g]
      have k0 := key 0 z0 e0 a0 g
      have k1 := key 1 z1 e1 a1 g
      have k2 := key 2 z2 e2 a2 g
      have m0 := b0 g; have m1 := b1 g; have m2 := b2 g
      omega
noncomputable def allC (l : List Gr) (U : List Us) (n : Nat) : Bool := (List.range n).all fun k => canB l (U.filter (isI k))
theorem allC_succ (l : List Gr) (U : List Us) (n : Nat) : allC l U (n + 1) = (allC l U n && canB l (U.filter (isI n))) := by
  unfold allC
  rw [List.range_succ, List.all_append]
  simp
theorem allC_eq {l : List Gr} {U : List Us} (hU : ∀ u ∈ U, u.item = 0 ∨ u.item = 1 ∨ u.item = 2) : canB l U = allC l U 3 := by
  rw [Bool.eq_iff_iff, canB_iff, can_apart hU]
  unfold allC
  rw [List.all_eq_true]
  constructor
  · exact fun h k hk => canB_iff.2 (h k (List.mem_range.1 hk))
  · exact fun h k hk => canB_iff.1 (h k (List.mem_range.2 hk))
theorem validU_filter {U : List Us} (p : Us → Bool) (h : validU U = true) : validU (U.filter p) = true := by
  unfold validU at h ⊢
  rw [Bool.and_eq_true, decide_eq_true_eq, List.all_eq_true] at h ⊢
  exact ⟨Nat.le_trans (List.length_filter_le _ _) h.1, fun u hu => h.2 u (List.mem_filter.1 hu).1⟩
theorem madeU_item (ys : List I4) : ∀ u ∈ madeU ys, u.item = 0 ∨ u.item = 1 ∨ u.item = 2 := fun u hu => by
  obtain ⟨x, -, rfl⟩ := List.mem_map.1 hu
  have := pickI_lt x.a 3 (by decide)
  unfold mkU
  dsimp only
  omega
theorem filt_snoc {U : List Us} {k : Nat} {q : Us} (p : Us → Bool) (hq : U[k]? = some q) : (U.take (k + 1)).filter p = (U.take k).filter p ++ (if p q then [q] else []) := by
  rw [List.take_add_one, hq, List.filter_append]
  cases h : p q <;> simp [h]
set_option maxRecDepth 100000 in
set_option maxHeartbeats 16000000 in
theorem apart_true (v0 : Value) (xs : List I5) (v1 : Value) (ys : List I4) (w : World) (hr0 : Recs enc5 5 w w.heap.size v0 xs) (hx : ∀ x ∈ xs, OkI5 x) (hr1 : Recs enc4 4 w w.heap.size v1 ys) (hy : ∀ y ∈ ys, OkI4 y) :
    Calls Try.prog 9 #[v0, v1] w fun e w' => e = .returned (.bool true) ∧ Below w.heap.size w w' := by
  obtain ⟨A0, c0, rfl, -⟩ := recs_form hr0
  obtain ⟨A1, c1, rfl, -⟩ := recs_form hr1
  have HM := Lib.hid (fun u (h : Below w.heap.size w u) => made_any xs hx A0 _ c0 u (hr0.next h))
  have HN := Lib.hid (fun u (h : Below w.heap.size w u) => madeUses_any ys hy A1 _ c1 u (hr1.next h))
  have HVL := Lib.hid (madeG_valid xs)
  have HVU := Lib.hid (madeU_valid ys)
  have HIT := Lib.hid (madeU_item ys)
  have HUL := Lib.hid (madeU_len ys)
  clear hr0 hr1 hx hy
  generalize madeG xs = L at *
  generalize madeU ys = U at *
  go_enter Try.func9, Try.ntmps9
  go_wp2_with (first | (go_at_call 10; (with_reducible refine Calls.mono (sane_any _) ?_); rintro r u1 ⟨rfl, hb⟩; have B1 := Lib.hid hb; clear hb) | (go_at_call 11; (with_reducible refine Calls.mono (HM.out _ B1.out) ?_); rintro r u2 ⟨v2, rfl, hg⟩; obtain ⟨A2_, c2_, rfl, -⟩ := own_slice hg.own; have B2 := Lib.hid (below_to B1.out hg.b); have HG := Lib.hid hg.recs; clear hg) | (go_at_call 12; (with_reducible refine Calls.mono (HN.out _ B2.out) ?_); rintro r u3 ⟨v3, rfl, hg⟩; obtain ⟨A3_, c3_, rfl, -⟩ := own_slice hg.own; have B3 := Lib.hid (below_to B2.out hg.b); have HG := Lib.hid (HG.out.next hg.b); have HU := Lib.hid hg.recs; clear hg) | (go_at_call 21; (with_reducible refine Calls.mono (assign_at L U HVL.out HVU.out _ _ _ _ _ _ _ HG.out HU.out) ?_); rintro r u4 ⟨v4, rfl, hb⟩; have B4 := Lib.hid (below_to B3.out hb); have HG := Lib.hid (HG.out.next hb); have HU := Lib.hid (HU.out.next hb); clear hb))
  have HA := Lib.hid (fun (k : Nat) A2 n2 c2 wr (hb : Below u4.heap.size u4 wr) (hu : Recs encU 4 wr wr.heap.size (.slice A2 n2 c2) (U.filter (isI k))) => assign_at L (U.filter (isI k)) HVL.out (validU_filter _ HVU.out) A2_ A2 _ c2_ n2 c2 wr (HG.out.next hb) hu)
  obtain ⟨er, her⟩ : ∃ er, errC L U = er := ⟨_, rfl⟩
  have HER := Lib.hid her
  rw [her]
  clear her
  go_loopw [10, 11] (fun a z wr => ∃ k : Nat, z = .int .i64 (k : Int) ∧ k ≤ 3 ∧ a = .bool (allC L U k) ∧ Hid (Below u4.heap.size u4 wr)) (fun _ z _ => 3 - (intOf z).toNat)
  case atStart => exact ⟨0, rfl, by decide, rfl, Lib.hid (Below.refl _ _)⟩
  case round =>
    obtain ⟨k, rfl, hk, rfl, HB⟩ := hrel
    have k0 : (0 : Int) ≤ (k : Int) := by omega
    have HAS := Lib.hid (allC_succ L U k)
    obtain ⟨ak, hak⟩ : ∃ ak, allC L U k = ak := ⟨_, rfl⟩
    rw [hak] at HAS ⊢
    have HAK := Lib.hid hak
    clear hak
    by_cases hlt : k < 3
    · have k1 : (k : Int) < 3 := by omega
      go_wp2
      go_loopw [12, 13] (fun v z wi => ∃ j : Nat, z = .int .i64 (j : Int) ∧ j ≤ U.length ∧ Hid (GatU u4 ((U.take j).filter (isI k)) v wi)) (fun _ z _ => U.length - (intOf z).toNat)
      case atStart => exact ⟨0, rfl, Nat.zero_le _, Lib.hid ⟨World.ownsRow_nil _ _ _ _, HB.out⟩⟩
      case round =>
        obtain ⟨j, rfl, hj, HS⟩ := hrel
        obtain ⟨F, hF⟩ : ∃ F, (U.take j).filter (isI k) = F := ⟨_, rfl⟩
        rw [hF] at HS
        have HF := Lib.hid hF
        clear hF
        obtain ⟨A5, c5, rfl, -⟩ := own_slice HS.out.own
        have j0 : (0 : Int) ≤ (j : Int) := by omega
        have u9 : U.length ≤ 7 := HUL.out
        by_cases hjl : j < U.length
        · have j1 : (j : Int) < (U.length : Int) := by omega
          obtain ⟨b, o, rfl, hg, hcell⟩ := recs_at (HU.out.below HS.out.b) j hjl
          obtain ⟨q, hq⟩ : ∃ q, U[j]? = some q := ⟨_, List.getElem?_eq_getElem hjl⟩
          have lw := HS.out.b.size
          have g9 : b < wr.heap.size := by omega
          have HSN := Lib.hid (show (U.take (j + 1)).filter (isI k) = F ++ (if isI k q then [q] else []) by rw [← HF.out]; exact filt_snoc (isI k) hq)
          have HLF := Lib.hid (show F.length ≤ 7 by rw [← HF.out]; refine Nat.le_trans (List.length_filter_le _ _) ?_; rw [List.length_take]; omega)
          have a0 : wr.cell? ⟨b, o + j * 4, none⟩ = some (.int .i64 q.item) := hcell j q hq 0 _ rfl
          have a1 : wr.cell? ⟨b, o + j * 4 + 1, none⟩ = some (.int .i64 q.acts) := hcell j q hq 1 _ rfl
          have a2 : wr.cell? ⟨b, o + j * 4 + 2, none⟩ = some (.int .i64 q.region) := hcell j q hq 2 _ rfl
          have a3 : wr.cell? ⟨b, o + j * 4 + 3, none⟩ = some (.int .i64 q.at_) := hcell j q hq 3 _ rfl
          have e5 : IntKind.i64.wrap ((j : Int) + 1) = (j : Int) + 1 := IntWalk.i64_in _ (by omega)
          clear hcell hq lw
          by_cases hi : q.item = (k : Int)
          · have e1 : (q.item == (k : Int)) = true := by simp [hi]
            have HSN2 := Lib.hid (show (U.take (j + 1)).filter (isI k) = F ++ [q] by rw [HSN.out, show isI k q = true from e1]; rfl)
            obtain ⟨A6, c6, w6, hrun, hG⟩ := HS.out.push (by have := HLF.out; omega) q (cs := #[.int .i64 q.item, .int .i64 q.acts, .int .i64 q.region, .int .i64 q.at_]) rfl
            have HG6 := Lib.hid hG
            clear hG hi
            go_wp2
            go_roundw
            case rel => exact ⟨j + 1, by go_num, by omega, by rw [HSN2.out]; exact HG6⟩
            case measure => simp [intOf]; omega
          · have e1 : (q.item == (k : Int)) = false := by simp [hi]
            have HSN2 := Lib.hid (show (U.take (j + 1)).filter (isI k) = F by rw [HSN.out, show isI k q = false from e1]; simp)
            clear hi
            go_wp2
            go_roundw
            case rel => exact ⟨j + 1, by go_num, by omega, by rw [HSN2.out]; exact HS⟩
            case measure => simp [intOf]; omega
        · have j1 : ¬ (j : Int) < (U.length : Int) := by omega
          have HFE := Lib.hid (show U.filter (isI k) = F by rw [← HF.out, List.take_of_length_le (by omega)])
          obtain ⟨b2, hb2⟩ : ∃ b2, canB L F = b2 := ⟨_, rfl⟩
          have HAA := Lib.hid (HA.out k A5 F.length c5 wr HS.out.b (by rw [HFE.out]; exact HS.out.recs))
          rw [HFE.out] at HAA HAS
          rw [hb2] at HAS
          have HEE := Lib.hid (show errC L F = if b2 then 0 else 80 by unfold errC; rw [hb2])
          rw [HEE.out] at HAA
          have e5 : IntKind.i64.wrap ((k : Int) + 1) = (k : Int) + 1 := IntWalk.i64_in _ (by omega)
          clear hb2 HEE HFE
          cases b2 with
          | true =>
            simp only [if_true] at HAA
            cases ak with
            | true =>
              go_wp2_with (go_at_call 21; (with_reducible refine Calls.mono HAA.out ?_); rintro r u5 ⟨v5, rfl, hb⟩; have HB5 := Lib.hid (below_to HS.out.b hb); clear hb)
              go_roundw
              case rel => exact ⟨k + 1, by go_num, by omega, by rw [HAS.out]; rfl, HB5⟩
              case measure => simp [intOf]; omega
            | false =>
              go_wp2_with (go_at_call 21; (with_reducible refine Calls.mono HAA.out ?_); rintro r u5 ⟨v5, rfl, hb⟩; have HB5 := Lib.hid (below_to HS.out.b hb); clear hb)
              go_roundw
              case rel => exact ⟨k + 1, by go_num, by omega, by rw [HAS.out]; rfl, HB5⟩
              case measure => simp [intOf]; omega
          | false =>
            simp only [Bool.false_eq_true, if_false] at HAA
            cases ak with
            | true =>
              go_wp2_with (go_at_call 21; (with_reducible refine Calls.mono HAA.out ?_); rintro r u5 ⟨v5, rfl, hb⟩; have HB5 := Lib.hid (below_to HS.out.b hb); clear hb)
              go_roundw
              case rel => exact ⟨k + 1, by go_num, by omega, by rw [HAS.out]; rfl, HB5⟩
              case measure => simp [intOf]; omega
            | false =>
              go_wp2_with (go_at_call 21; (with_reducible refine Calls.mono HAA.out ?_); rintro r u5 ⟨v5, rfl, hb⟩; have HB5 := Lib.hid (below_to HS.out.b hb); clear hb)
              go_roundw
              case rel => exact ⟨k + 1, by go_num, by omega, by rw [HAS.out]; rfl, HB5⟩
              case measure => simp [intOf]; omega
    · have k1 : ¬ (k : Int) < 3 := by omega
      have hc : canB L U = ak := by
        rw [allC_eq HIT.out, ← HAK.out, show k = 3 by omega]
      have he : er = if ak then 0 else 80 := by rw [← HER.out]; unfold errC; rw [hc]
      clear hc
      have HBB := Lib.hid (below_to B4.out HB.out)
      cases ak with
      | true =>
        simp only [if_true] at he
        subst he
        go_wp2
        go_ret
        exact ⟨rfl, HBB.out⟩
      | false =>
        simp only [Bool.false_eq_true, if_false] at he
        subst he
        go_wp2
        go_ret
        exact ⟨rfl, HBB.out⟩
end Go.Proofs.Ytenojfniknjeiaa
