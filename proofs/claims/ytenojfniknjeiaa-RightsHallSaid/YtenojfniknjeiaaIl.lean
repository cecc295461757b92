/- RightsHall. -/
import Derived.Test.YtenojfniknjeiaaIk
import Derived.Test.YtenojfniknjeiaaIg
import Derived.Deep.RegionHeld3
import Derived.StillTailTactics
namespace Go.Proofs.Ytenojfniknjeiaa
open Go.RowKit Go.Shelf
attribute [local go_sem ↓] append_appN

theorem used_at {w : World} {B g n c x : Nat} {l : List Gr} {a : List Nat} (h : w.ownsRow B 3 1 (.slice (some ⟨g, 0, none⟩) n c) n (iv1 (zi (cntL l a)))) (hn : n = l.length) (hx : x < l.length) :
    B ≤ g ∧ g < w.heap.size ∧ w.cell? ⟨g, x, none⟩ = some (.int .i64 ((a.count x : Nat) : Int)) ∧ w.frozen? ⟨g, x, none⟩ = false ∧
      ∀ u : World, u.heap[g]? = w.heap[g]? → (u.setCell ⟨g, x, none⟩ (.int .i64 (((a.count x : Nat) : Int) + 1))).ownsRow B 3 1 (.slice (some ⟨g, 0, none⟩) n c) n (iv1 (zi (cntL l (a ++ [x])))) := by
  subst hn
  obtain ⟨g', c', hv, hB, hg, hc, hf, hset⟩ := own_num h (cntL_len l a) (cntL_get hx)
  obtain ⟨rfl⟩ : g = g' := by injection hv with e; injection e with e; injection e
  refine ⟨hB, hg, hc, hf, fun u hu => ?_⟩
  have h2 := hset u (a.count x + 1) hu
  rw [cntL_snoc hx]
  exact h2
theorem used_start (w : World) (l : List Gr) (h12 : l.length ≤ 12) : (w.alloc (.cells (Array.replicate l.length (.int .i64 0)) 3)).ownsRow w.heap.size 3 1 (.slice (some ⟨w.heap.size, 0, none⟩) l.length l.length) l.length (iv1 (zi (cntL l []))) := by
  rw [cntL_nil]
  refine ⟨by simp [iv1, zi], .inr ⟨w.heap.size, l.length, Array.replicate l.length (.int .i64 0), rfl, Nat.le_refl _, Row.new w _ _, Nat.le_refl _, ?_, by simp, ?_⟩⟩
  · unfold maxLen; omega
  · simp [iv1, zi]
set_option maxRecDepth 100000 in
set_option maxHeartbeats 16000000 in
theorem hall_true (v0 : Value) (xs : List I5) (v1 : Value) (ys : List I4) (w : World) (hr0 : Recs enc5 5 w w.heap.size v0 xs) (hx : ∀ x ∈ xs, OkI5 x) (hr1 : Recs enc4 4 w w.heap.size v1 ys) (hy : ∀ y ∈ ys, OkI4 y) :
    Calls Try.prog 4 #[v0, v1] w fun e w' => e = .returned (.bool true) ∧ Below w.heap.size w w' := by
  obtain ⟨A0, c0, rfl, -⟩ := recs_form hr0
  obtain ⟨A1, c1, rfl, -⟩ := recs_form hr1
  have HM := Lib.hid (fun u (h : Below w.heap.size w u) => made_any xs hx A0 _ c0 u (hr0.next h))
  have HN := Lib.hid (fun u (h : Below w.heap.size w u) => madeUses_any ys hy A1 _ c1 u (hr1.next h))
  have HVL := Lib.hid (madeG_valid xs)
  have HVU := Lib.hid (madeU_valid ys)
  have HUL := Lib.hid (madeU_len ys)
  clear hr0 hr1 hx hy
  generalize madeG xs = L at *
  generalize madeU ys = U at *
  have HL12 := Lib.hid (validG_len HVL.out)
  have mk1 := fun w : World => make_rep (t := 26) Try.underlying26 infoInt rfl (by decide) L.length (by have := HL12.out; omega) w
  cases hcb : canB L U with
  | true =>
    have HCB := Lib.hid hcb
    have HLV := Lib.hid ((lack_none HVL.out HVU.out).2 hcb)
    clear hcb
    go_enter Try.func4, Try.ntmps4
    go_upto_region 11 with (first | (go_at_call 10; (with_reducible refine Calls.mono (sane_any _) ?_); rintro r u1 ⟨rfl, hb⟩; have B1 := Lib.hid hb; clear hb) | (go_at_call 11; (with_reducible refine Calls.mono (HM.out _ B1.out) ?_); rintro r u2 ⟨v2, rfl, hg⟩; obtain ⟨A2_, c2_, rfl, -⟩ := own_slice hg.own; have B2 := Lib.hid (below_to B1.out hg.b); have HG := Lib.hid hg.recs; clear hg) | (go_at_call 12; (with_reducible refine Calls.mono (HN.out _ B2.out) ?_); rintro r u3 ⟨v3, rfl, hg⟩; obtain ⟨A3_, c3_, rfl, -⟩ := own_slice hg.own; have B3 := Lib.hid (below_to B2.out hg.b); have HG := Lib.hid (HG.out.next hg.b); have HU := Lib.hid hg.recs; clear hg) | (go_at_call 21; (with_reducible refine Calls.mono (assign_can L U HVL.out HVU.out HCB.out _ _ _ _ _ _ _ HG.out HU.out) ?_); rintro r u4 ⟨A4_, c4_, a, rfl, hF, ho, hb⟩; have B4 := Lib.hid (below_to B3.out hb); have HG := Lib.hid (HG.out.next hb); have HU := Lib.hid (HU.out.next hb); have HFA := Lib.hid hF; have HA := Lib.hid (ints_own ho (zi_len a)); clear hb hF ho) | (go_at_call 23; (with_reducible refine Calls.mono (lack_no L U HLV.out _ _ _ _ _ _ _ HG.out HU.out) ?_); rintro r u5 ⟨A5_, c5_, rfl, hb⟩; have B5 := Lib.hid (below_to B4.out hb); have HG := Lib.hid (HG.out.next hb); have HU := Lib.hid (HU.out.next hb); have HA := Lib.hid (HA.out.next hb); clear hb))
    have HAL := Lib.hid (show a.length = U.length by rw [HFA.out.is.len, chL_len])
    have e0 : ((a.length : Int) != (U.length : Int)) = false := by rw [HAL.out]; simp
    go_upto_region 12 with fail
    have HT0 := Lib.hid (used_start u5 L HL12.out)
    have HB0 := Lib.hid ((Below.refl _ u5).alloc (Nat.le_refl _) (.cells (Array.replicate L.length (.int .i64 0)) 3))
    obtain ⟨W0, hW0⟩ : ∃ W, u5.alloc (.cells (Array.replicate L.length (.int .i64 0)) 3) = W := ⟨_, rfl⟩
    rw [hW0] at HT0 HB0 ⊢
    clear hW0 mk1
    obtain ⟨gU, hgU⟩ : ∃ g, u5.heap.size = g := ⟨_, rfl⟩
    have HT0 := Lib.hid (show W0.ownsRow u5.heap.size 3 1 (.slice (some ⟨gU, 0, none⟩) L.length L.length) L.length (iv1 (zi (cntL L []))) by rw [← hgU]; exact HT0.out)
    rw [hgU]
    have HGU := Lib.hid hgU
    clear hgU
    go_wp2
    go_loopw [13] (fun z wr => ∃ i : Nat, z = .int .i64 (i : Int) ∧ i ≤ U.length ∧ Hid (wr.ownsRow u5.heap.size 3 1 (.slice (some ⟨gU, 0, none⟩) L.length L.length) L.length (iv1 (zi (cntL L (a.take i))))) ∧ Hid (Below u5.heap.size u5 wr)) (fun z _ => U.length - (intOf z).toNat)
    case atStart => exact ⟨0, rfl, Nat.zero_le _, HT0, HB0⟩
    case round =>
      clear HT0 HB0
      obtain ⟨i, rfl, hi, HT, HB⟩ := hrel
      have i0 : (0 : Int) ≤ (i : Int) := by omega
      by_cases hil : i < U.length
      · have i1 : (i : Int) < (a.length : Int) := by rw [HAL.out]; omega
        have i2 : (i : Int) < (U.length : Int) := by omega
        obtain ⟨g, hat⟩ := as_at HVL.out HVU.out HFA.out.is hil
        have HAT := Lib.hid hat
        obtain ⟨b, o, rfl, hb9, hcell⟩ := recs_at (HU.out.below HB.out) i hil
        obtain ⟨gs, os, rfl, hgs, hcs⟩ := recs_at (HA.out.below HB.out) i (by rw [zi_len, HAL.out]; exact hil)
        have hq : U[i]? = some (U.getD i u0) := by rw [List.getElem?_eq_getElem hil]; simp [List.getD_eq_getElem?_getD, hil]
        have HH := Lib.hid hat.has
        obtain ⟨q, hqq⟩ : ∃ q, U.getD i u0 = q := ⟨_, rfl⟩
        rw [hqq] at hq HH
        obtain ⟨hgl, hcell2⟩ : (∃ bg og, A2_ = some ⟨bg, og, none⟩ ∧ bg < u5.heap.size ∧ ∀ j x, L[j]? = some x → ∀ k u, (encG x)[k]? = some u → wr.cell? ⟨bg, og + j * 6 + k, none⟩ = some u) ∧ True := ⟨recs_at (HG.out.below HB.out) g hat.lt, trivial⟩
        obtain ⟨bg, og, rfl, hbg, hcg⟩ := hgl
        have lw := HB.out.size
        have x0 : wr.cell? ⟨b, o + i * 4, none⟩ = some (.int .i64 q.item) := hcell i q hq 0 _ rfl
        have x1 : wr.cell? ⟨b, o + i * 4 + 1, none⟩ = some (.int .i64 q.acts) := hcell i q hq 1 _ rfl
        have x2 : wr.cell? ⟨b, o + i * 4 + 2, none⟩ = some (.int .i64 q.region) := hcell i q hq 2 _ rfl
        have x3 : wr.cell? ⟨b, o + i * 4 + 3, none⟩ = some (.int .i64 q.at_) := hcell i q hq 3 _ rfl
        have y0 : wr.cell? ⟨gs, os + i, none⟩ = some (.int .i64 (g : Int)) := by
          have h := hcs i (g : Int) (by simp [zi, hat.get]) 0 _ rfl
          rwa [Nat.mul_one, Nat.add_zero] at h
        have hgG : L[g]? = some (L.getD g g0) := by rw [List.getElem?_eq_getElem hat.lt]; simp [List.getD_eq_getElem?_getD, hat.lt]
        have p3 : wr.cell? ⟨bg, og + g * 6 + 3, none⟩ = some (.int .i64 (L.getD g g0).plays) := hcg g _ hgG 3 _ rfl
        obtain ⟨hB1, hB2, z0, zf, hset⟩ := used_at HT.out rfl hat.lt
        have HSK : Hid (∀ y, Below wr.heap.size wr y → Below wr.heap.size wr y ∧ y.cell? ⟨b, o + i * 4, none⟩ = some (.int .i64 q.item) ∧ y.cell? ⟨b, o + i * 4 + 1, none⟩ = some (.int .i64 q.acts) ∧ y.cell? ⟨b, o + i * 4 + 2, none⟩ = some (.int .i64 q.region) ∧ y.cell? ⟨b, o + i * 4 + 3, none⟩ = some (.int .i64 q.at_) ∧ y.cell? ⟨gs, os + i, none⟩ = some (.int .i64 (g : Int))) := Lib.hid (fun y hy => ⟨hy, (hy.cell (p := ⟨b, o + i * 4, none⟩) (by dsimp only; omega)).trans x0, (hy.cell (p := ⟨b, o + i * 4 + 1, none⟩) (by dsimp only; omega)).trans x1, (hy.cell (p := ⟨b, o + i * 4 + 2, none⟩) (by dsimp only; omega)).trans x2, (hy.cell (p := ⟨b, o + i * 4 + 3, none⟩) (by dsimp only; omega)).trans x3, (hy.cell (p := ⟨gs, os + i, none⟩) (by dsimp only; omega)).trans y0⟩)
        have HPM := Lib.hid (fun y (hy : Below wr.heap.size wr y) => Permits_any L q _ _ _ y ((HG.out.next HB.out).next hy))
        have HHAS : Hid (∀ A n c y, Recs enc1 1 y y.heap.size (.slice A n c) (zi (permV L q)) → Calls Try.prog 30 #[.slice A n c, .int .i64 (g : Int)] y fun e w' => e = .returned (.bool true) ∧ Below y.heap.size y w') := Lib.hid (fun A n c y h => by have h2 := has_any _ (g : Int) A n c y h; rwa [HH.out] at h2)
        have HP3 := Lib.hid p3
        have HZ0 := Lib.hid z0
        have HZF := Lib.hid zf
        have HSET := Lib.hid hset
        clear hcell hcs hcg hgG hq hqq hset p3 z0 zf hat
        go_upto_region 17 with fail
        go_region_held3 (fun y => Below wr.heap.size wr y ∧ y.cell? ⟨b, o + i * 4, none⟩ = some (.int .i64 q.item) ∧ y.cell? ⟨b, o + i * 4 + 1, none⟩ = some (.int .i64 q.acts) ∧ y.cell? ⟨b, o + i * 4 + 2, none⟩ = some (.int .i64 q.region) ∧ y.cell? ⟨b, o + i * 4 + 3, none⟩ = some (.int .i64 q.at_) ∧ y.cell? ⟨gs, os + i, none⟩ = some (.int .i64 (g : Int))) (first | assumption | (exact HSK.out _ (Below.refl _ _).drew)) (first | (go_at_call 28; ((with_reducible refine Calls.mono (HPM.out _ (‹Below wr.heap.size wr _ ∧ _›).1) ?_); rintro r w5 ⟨A5, n5, c5, rfl, h5, hb5⟩; have hB5 := below_to (‹Below wr.heap.size wr _ ∧ _›).1 hb5; have hS5 := HSK.out _ hB5)) | (go_at_call 30; ((with_reducible refine Calls.mono (HHAS.out _ _ _ _ h5) ?_); rintro r w6 ⟨rfl, hb6⟩; have hB6 := below_to (‹Below wr.heap.size wr _ ∧ _›).1 hb6; have hS6 := HSK.out _ hB6)))
        have HB6 := Lib.hid (below_to HB.out hB6)
        have HO6 := Lib.hid (own_below HT.out hB6)
        obtain ⟨-, hg6, z6, zf6, hset6⟩ := used_at HO6.out rfl HAT.out.lt
        have y6 := hS6.2.2.2.2.2
        have p6 : w6.cell? ⟨bg, og + g * 6 + 3, none⟩ = some (.int .i64 (L.getD g g0).plays) := (hB6.cell (p := ⟨bg, og + g * 6 + 3, none⟩) (by dsimp only; omega)).trans HP3.out
        have HY6 := Lib.hid y6
        have HP6 := Lib.hid p6
        have HSET := Lib.hid hset6
        have g0' : (0 : Int) ≤ (g : Int) := by omega
        have g1' : (g : Int) < (L.length : Int) := by have := HAT.out.lt; omega
        have sz6 := HB6.out.size
        have gs6 : gs < w6.heap.size := by omega
        have bg6 : bg < w6.heap.size := by omega
        have HLE := Lib.hid HAT.out.le
        have hsm := HAT.out.small
        have hgu := HGU.out
        have HNE : Hid (gs ≠ gU ∧ bg ≠ gU) := Lib.hid ⟨by omega, by omega⟩
        have HSN := Lib.hid (show a.take i ++ [g] = a.take (i + 1) by rw [List.take_add_one, HAT.out.get]; rfl)
        rw [HSN.out] at HSET
        have HCN := Lib.hid hsm
        obtain ⟨cn, hcn⟩ : ∃ cn : Nat, (a.take i).count g = cn := ⟨_, rfl⟩
        rw [hcn] at z6 HSET HLE hsm
        have HCC := Lib.hid hcn
        obtain ⟨pl, hpl⟩ : ∃ pl, (L.getD g g0).plays = pl := ⟨_, rfl⟩
        rw [hpl] at p6 HLE HP6
        have HPL := Lib.hid hpl
        clear hS6 hS5 hB5 hB6 hb5 hb6 h5 hset6 hcn x0 x1 x2 x3 y0 hgu hpl HP3 HZ0 HZF HSK HPM HHAS hB1 hB2 HCN
        go_upto_region 19 with fail
        go_still_tail 14, (by kernel_rfl)
        change wpList _ _ _ _ _ w6.drew
        go_wp2
        obtain ⟨w7, hw7⟩ : ∃ w7, (w6.setCell ⟨gU, g, none⟩ (.int .i64 ((cn : Int) + 1))).drew = w7 := ⟨_, rfl⟩
        rw [hw7]
        have hgu := HGU.out
        have HT7 : Hid (w7.ownsRow u5.heap.size 3 1 (.slice (some ⟨gU, 0, none⟩) L.length L.length) L.length (iv1 (zi (cntL L (a.take (i + 1)))))) := Lib.hid (by rw [← hw7]; exact HSET.out w6 rfl)
        have hb7 : Below gU w6 w7 := by rw [← hw7]; exact ((Below.refl gU w6).setCell (p := ⟨gU, g, none⟩) (Nat.le_refl _) _).drew
        have HB7 := Lib.hid (HB6.out.trans (hb7.mono (by rw [hgu]; exact Nat.le_refl _)))
        obtain ⟨-, hg7, z7, -, -⟩ := used_at HT7.out rfl HAT.out.lt
        rw [show (((a.take (i + 1)).count g : Nat) : Int) = (cn : Int) + 1 by rw [← HSN.out, List.count_append, HCC.out]; simp] at z7
        have y7 := (hb7.cell (p := ⟨gs, os + i, none⟩) (by dsimp only; omega)).trans HY6.out
        have p7 := (hb7.cell (p := ⟨bg, og + g * 6 + 3, none⟩) (by dsimp only; omega)).trans HP6.out
        have sz7 := hb7.size
        have gs7 : gs < w7.heap.size := by omega
        have bg7 : bg < w7.heap.size := by omega
        have u9 : U.length ≤ 7 := HUL.out
        have hle : decide (pl < (cn : Int) + 1) = false := decide_eq_false (by have := HLE.out; omega)
        clear hw7 hb7 z6 zf6 y6 p6 gs6 bg6 hg6 sz6 hgu
        go_quiet (fail)
        all_goals (
          go_wp2
          go_roundw
          case rel => exact ⟨i + 1, by go_num, by omega, HT7, Lib.hid (belowN HB7.out _)⟩
          case measure => simp [intOf]; omega)
      · have i1 : ¬ (i : Int) < (a.length : Int) := by rw [HAL.out]; omega
        go_wp2
        go_ret
        exact ⟨rfl, below_to B5.out HB.out⟩
  | false =>
    have HCB := Lib.hid hcb
    have hne : lackV L U ≠ none := fun h => by rw [(lack_none HVL.out HVU.out).1 h] at hcb; cases hcb
    obtain ⟨S, hS⟩ := Option.ne_none_iff_exists'.1 hne
    have HLV := Lib.hid hS
    have hla := lack_at HVL.out HVU.out hS
    have HLA := Lib.hid hla
    have hpos := hla.pos
    have hSU := hla.le
    have u9 : U.length ≤ 7 := HUL.out
    have s0 : ((S.length : Int) == 0) = false := by rw [beq_eq_false_iff_ne]; omega
    clear hcb hne hS hla
    go_enter Try.func4, Try.ntmps4
    go_upto_region 25 with (first | (go_at_call 10; (with_reducible refine Calls.mono (sane_any _) ?_); rintro r u1 ⟨rfl, hb⟩; have B1 := Lib.hid hb; clear hb) | (go_at_call 11; (with_reducible refine Calls.mono (HM.out _ B1.out) ?_); rintro r u2 ⟨v2, rfl, hg⟩; obtain ⟨A2_, c2_, rfl, -⟩ := own_slice hg.own; have B2 := Lib.hid (below_to B1.out hg.b); have HG := Lib.hid hg.recs; clear hg) | (go_at_call 12; (with_reducible refine Calls.mono (HN.out _ B2.out) ?_); rintro r u3 ⟨v3, rfl, hg⟩; obtain ⟨A3_, c3_, rfl, -⟩ := own_slice hg.own; have B3 := Lib.hid (below_to B2.out hg.b); have HG := Lib.hid (HG.out.next hg.b); have HU := Lib.hid hg.recs; clear hg) | (go_at_call 21; (with_reducible refine Calls.mono (assign_not L U HCB.out _ _ _ _ _ _ _ HG.out HU.out) ?_); rintro r u4 ⟨rfl, hb⟩; have B4 := Lib.hid (below_to B3.out hb); have HG := Lib.hid (HG.out.next hb); have HU := Lib.hid (HU.out.next hb); clear hb) | (go_at_call 23; (with_reducible refine Calls.mono (lack_some L U S HLV.out _ _ _ _ _ _ _ HG.out HU.out) ?_); rintro r u5 ⟨A5_, c5_, rfl, h4, hb⟩; have B5 := Lib.hid (below_to B4.out hb); have HG := Lib.hid (HG.out.next hb); have HU := Lib.hid (HU.out.next hb); have HS := Lib.hid h4; clear hb h4))
    go_wp2
    go_loopw [14, 15, 16, 17] (fun p z _ _ wr => ∃ k : Nat, z = .int .i64 (k : Int) ∧ k ≤ L.length ∧ p = .int .i64 ((sumL (L.take k) U S : Nat) : Int) ∧ Hid (Below u5.heap.size u5 wr)) (fun _ z _ _ _ => L.length - (intOf z).toNat)
    case atStart => exact ⟨0, rfl, Nat.zero_le _, rfl, Lib.hid (Below.refl _ _)⟩
    case round =>
      obtain ⟨k, rfl, hk, rfl, HB⟩ := hrel
      have k0 : (0 : Int) ≤ (k : Int) := by omega
      have hL12 : L.length ≤ 12 := HL12.out
      by_cases hkl : k < L.length
      · have k1 : (k : Int) < (L.length : Int) := by omega
        obtain ⟨q, hq⟩ : ∃ q, L[k]? = some q := ⟨_, List.getElem?_eq_getElem hkl⟩
        have HQ := Lib.hid hq
        have HPQ := Lib.hid (validG_plays HVL.out q (List.mem_of_getElem? hq))
        have HQD := Lib.hid (show L.getD k g0 = q by rw [List.getD_eq_getElem?_getD, hq]; rfl)
        have HSS := Lib.hid (sumL_snoc (U := U) (S := S) hq)
        have hsl := sumL_le (l := L.take k) (U := U) (S := S) fun g hg => validG_plays HVL.out g (List.mem_of_mem_take hg)
        have hsl : sumL (L.take k) U S ≤ 1200 := by rw [List.length_take] at hsl; omega
        obtain ⟨sm, hsm⟩ : ∃ sm, sumL (L.take k) U S = sm := ⟨_, rfl⟩
        rw [hsm] at HSS hsl ⊢
        clear hq hsm
        go_wp2
        go_loopw [16, 17] (fun b z wi => ∃ j : Nat, z = .int .i64 (j : Int) ∧ j ≤ S.length ∧ b = .bool ((S.take j).any (pG q U)) ∧ Hid (Below u5.heap.size u5 wi)) (fun _ z _ => S.length - (intOf z).toNat)
        case atStart => exact ⟨0, rfl, Nat.zero_le _, rfl, HB⟩
        case round =>
          obtain ⟨j, rfl, hj, rfl, HB⟩ := hrel
          have j0 : (0 : Int) ≤ (j : Int) := by omega
          by_cases hjl : j < S.length
          · have j1 : (j : Int) < (S.length : Int) := by omega
            obtain ⟨x, hx⟩ : ∃ x, S[j]? = some x := ⟨_, List.getElem?_eq_getElem hjl⟩
            have hxU : x < U.length := HLA.out.lt x (List.mem_of_getElem? hx)
            obtain ⟨gs, os, rfl, hgs, hcs⟩ := recs_at (HS.out.below HB.out) j (by rw [zi_len]; exact hjl)
            obtain ⟨b, o, rfl, hb9, hcell⟩ := recs_at (HU.out.below HB.out) x hxU
            have hu : U[x]? = some (U.getD x u0) := by rw [List.getElem?_eq_getElem hxU]; simp [List.getD_eq_getElem?_getD, hxU]
            have HHP := Lib.hid (show (zi (permV L (U.getD x u0))).contains (k : Int) = pG q U x by rw [has_perm HVL.out HVU.out hxU hkl, HQD.out])
            obtain ⟨v, hv⟩ : ∃ v, U.getD x u0 = v := ⟨_, rfl⟩
            rw [hv] at hu HHP
            have HAN := Lib.hid (any_take (p := pG q U) hx)
            obtain ⟨ab, hab⟩ : ∃ ab, (S.take j).any (pG q U) = ab := ⟨_, rfl⟩
            obtain ⟨pb, hpb⟩ : ∃ pb, pG q U x = pb := ⟨_, rfl⟩
            rw [hab] at HAN ⊢
            rw [hpb] at HAN HHP
            have lw := HB.out.size
            have x0 : wr.cell? ⟨b, o + x * 4, none⟩ = some (.int .i64 v.item) := hcell x v hu 0 _ rfl
            have x1 : wr.cell? ⟨b, o + x * 4 + 1, none⟩ = some (.int .i64 v.acts) := hcell x v hu 1 _ rfl
            have x2 : wr.cell? ⟨b, o + x * 4 + 2, none⟩ = some (.int .i64 v.region) := hcell x v hu 2 _ rfl
            have x3 : wr.cell? ⟨b, o + x * 4 + 3, none⟩ = some (.int .i64 v.at_) := hcell x v hu 3 _ rfl
            have y0 : wr.cell? ⟨gs, os + j, none⟩ = some (.int .i64 (x : Int)) := by
              have h := hcs j (x : Int) (by simp [zi, hx]) 0 _ rfl
              rwa [Nat.mul_one, Nat.add_zero] at h
            have g1 : gs < wr.heap.size := by omega
            have g2 : b < wr.heap.size := by omega
            have e1 : decide ((x : Int) < 0) = false := decide_eq_false (by omega)
            have e2 : decide ((U.length : Int) ≤ (x : Int)) = false := decide_eq_false (by omega)
            have e2n : decide (U.length ≤ x) = false := decide_eq_false (by omega)
            have xx0 : (0 : Int) ≤ (x : Int) := by omega
            have xx1 : (x : Int) < (U.length : Int) := by omega
            have HPM := Lib.hid (fun y (hy : Below wr.heap.size wr y) => Permits_any L v _ _ _ y ((HG.out.next HB.out).next hy))
            have HHAS : Hid (∀ A n c y, Recs enc1 1 y y.heap.size (.slice A n c) (zi (permV L v)) → Calls Try.prog 30 #[.slice A n c, .int .i64 (k : Int)] y fun e w' => e = .returned (.bool pb) ∧ Below y.heap.size y w') := Lib.hid (fun A n c y h => by have h2 := has_any _ (k : Int) A n c y h; rwa [HHP.out] at h2)
            clear hcell hu hv hab hpb
            have e7 : IntKind.i64.wrap ((j : Int) + 1) = (j : Int) + 1 := IntWalk.i64_in _ (by omega)
            by_cases hj0 : j = 0
            · have e3 : decide (0 < (j : Int)) = false := decide_eq_false (by omega)
              have e3n : decide (0 < j) = false := decide_eq_false (by omega)
              clear hcs hx hj0
              go_upto_region 33 with fail
              cases ab with
              | true =>
                go_quiet (fail)
                all_goals (
                  go_wp2
                  go_roundw
                  case rel => exact ⟨j + 1, by go_num, by omega, by rw [HAN.out]; rfl, Lib.hid (belowN HB.out _)⟩
                  case measure => simp [intOf]; omega)
              | false =>
                go_quiet (fail)
                all_goals (
                  go_wp2_with (first | (go_at_call 28; (with_reducible refine Calls.mono (HPM.out _ (belowN (Below.refl _ wr) _)) ?_); rintro r w5 ⟨A5, n5, c5, rfl, h5, hb5⟩; have HB5 := Lib.hid (below_to (belowN (Below.refl _ wr) _) hb5)) | (go_at_call 30; (with_reducible refine Calls.mono (HHAS.out _ _ _ _ h5) ?_); rintro r w6 ⟨rfl, hb6⟩; have HB6 := Lib.hid (below_to HB.out (below_to HB5.out hb6))))
                  go_roundw
                  case rel => exact ⟨j + 1, by go_num, by omega, by rw [HAN.out]; rfl, HB6⟩
                  case measure => simp [intOf]; omega)
            · obtain ⟨jp, hjp⟩ : ∃ jp, j = jp + 1 := ⟨j - 1, by omega⟩
              have e3 : decide (0 < (j : Int)) = true := decide_eq_true (by omega)
              have e3n : decide (0 < j) = true := decide_eq_true (by omega)
              have e4 : (j : Int) - 1 = (jp : Int) := by omega
              have jp0 : (0 : Int) ≤ (jp : Int) := by omega
              have jp1 : (jp : Int) < (S.length : Int) := by omega
              obtain ⟨xp, hxp⟩ : ∃ xp, S[jp]? = some xp := ⟨_, List.getElem?_eq_getElem (by omega)⟩
              have y1 : wr.cell? ⟨gs, os + jp, none⟩ = some (.int .i64 (xp : Int)) := by
                have h := hcs jp (xp : Int) (by simp [zi, hxp]) 0 _ rfl
                rwa [Nat.mul_one, Nat.add_zero] at h
              have hlt : xp < x := by
                have h1 := List.pairwise_iff_getElem.1 HLA.out.asc jp j (by omega) hjl (by omega)
                rw [(List.getElem?_eq_some_iff.1 hxp).2, (List.getElem?_eq_some_iff.1 hx).2] at h1
                exact h1
              have e5 : decide ((x : Int) ≤ (xp : Int)) = false := decide_eq_false (by omega)
              have e5n : decide (x ≤ xp) = false := decide_eq_false (by omega)
              clear hcs hx hj0 hjp hxp hlt
              go_upto_region 33 with fail
              cases ab with
              | true =>
                go_quiet (fail)
                all_goals (
                  go_wp2
                  go_roundw
                  case rel => exact ⟨j + 1, by go_num, by omega, by rw [HAN.out]; rfl, Lib.hid (belowN HB.out _)⟩
                  case measure => simp [intOf]; omega)
              | false =>
                go_quiet (fail)
                all_goals (
                  go_wp2_with (first | (go_at_call 28; (with_reducible refine Calls.mono (HPM.out _ (belowN (Below.refl _ wr) _)) ?_); rintro r w5 ⟨A5, n5, c5, rfl, h5, hb5⟩; have HB5 := Lib.hid (below_to (belowN (Below.refl _ wr) _) hb5)) | (go_at_call 30; (with_reducible refine Calls.mono (HHAS.out _ _ _ _ h5) ?_); rintro r w6 ⟨rfl, hb6⟩; have HB6 := Lib.hid (below_to HB.out (below_to HB5.out hb6))))
                  go_roundw
                  case rel => exact ⟨j + 1, by go_num, by omega, by rw [HAN.out]; rfl, HB6⟩
                  case measure => simp [intOf]; omega)
          · have j1 : ¬ (j : Int) < (S.length : Int) := by omega
            have HSS2 := Lib.hid (show S.take j = S from List.take_of_length_le (by omega))
            rw [HSS2.out]
            obtain ⟨ab, hab⟩ : ∃ ab, S.any (pG q U) = ab := ⟨_, rfl⟩
            rw [hab] at HSS ⊢
            obtain ⟨bg, og, rfl, hbg, hcg⟩ := recs_at (HG.out.below HB.out) k hkl
            have p3 : wr.cell? ⟨bg, og + k * 6 + 3, none⟩ = some (.int .i64 q.plays) := hcg k q HQ.out 3 _ rfl
            have lw := HB.out.size
            have g2 : bg < wr.heap.size := by omega
            have hpq := HPQ.out
            obtain ⟨pl, hpl⟩ : ∃ pl, q.plays = pl := ⟨_, rfl⟩
            rw [hpl] at p3 hpq HSS
            have e7 : IntKind.i64.wrap ((k : Int) + 1) = (k : Int) + 1 := IntWalk.i64_in _ (by omega)
            clear hab hcg hpl
            cases ab with
            | true =>
              have HSN := Lib.hid (show ((sumL (L.take (k + 1)) U S : Nat) : Int) = (sm : Int) + pl by rw [HSS.out]; simp; omega)
              go_wp2
              go_roundw
              case rel => exact ⟨k + 1, by go_num, by omega, by rw [HSN.out], HB⟩
              case measure => simp [intOf]; omega
            | false =>
              have HSN := Lib.hid (show ((sumL (L.take (k + 1)) U S : Nat) : Int) = (sm : Int) by rw [HSS.out]; simp)
              go_wp2
              go_roundw
              case rel => exact ⟨k + 1, by go_num, by omega, by rw [HSN.out], HB⟩
              case measure => simp [intOf]; omega
      · have k1 : ¬ (k : Int) < (L.length : Int) := by omega
        have HSL := HLA.out.sum
        rw [show L.take k = L from List.take_of_length_le (by omega)]
        obtain ⟨sm, hsm⟩ : ∃ sm, sumL L U S = sm := ⟨_, rfl⟩
        rw [hsm] at HSL ⊢
        have f1 : decide ((sm : Int) < (S.length : Int)) = true := decide_eq_true (by omega)
        have f2 : (sm : Int) < (S.length : Int) := by omega
        clear hsm
        go_wp2
        go_ret
        exact ⟨rfl, below_to B5.out HB.out⟩
end Go.Proofs.Ytenojfniknjeiaa
