/- RightsMore. -/
import Derived.Test.YtenojfniknjeiaaIn
import Derived.Deep.RegionHeld3
namespace Go.Proofs.Ytenojfniknjeiaa
open Go.RowKit Go.Shelf
attribute [local go_sem ↓] append_appN

theorem below_both {w w1 w2 : World} (h1 : Below w.heap.size w w1) (h2 : Below w1.heap.size w1 w2) : Below w.heap.size w w1 ∧ Below w.heap.size w w2 := ⟨h1, below_to h1 h2⟩
theorem left_no (L : List Gr) (U : List Us) (hc : canB L U = false) (A A2 : Option Addr) (n c n2 c2 : Nat) (w : World) (hr : Recs encG 6 w w.heap.size (.slice A n c) L) (hu : Recs encU 4 w w.heap.size (.slice A2 n2 c2) U) :
    Calls Try.prog 26 #[.slice A n c, .slice A2 n2 c2, .slice none 0 0] w fun e w' => ∃ A' c', e = .returned (.slice A' 0 c') ∧ Below w.heap.size w w' := by
  refine (Left_any L U [] A A2 none n c n2 c2 0 0 w hr hu (recs_nil _ _ _ _)).mono ?_
  rintro e w' ⟨A', n', c', rfl, h1, h2⟩
  rw [left_empty hc] at h1
  have hn : n' = 0 := (recs_cap h1).1
  subst hn
  exact ⟨A', c', rfl, h2⟩
theorem left_yes (L : List Gr) (U : List Us) (a : List Nat) (hl : validG L = true) (hv : validU U = true) (ha : IsAs (plN L) (chL L U) a) (A A2 A3 : Option Addr) (n c n2 c2 n3 c3 : Nat) (w : World) (hr : Recs encG 6 w w.heap.size (.slice A n c) L) (hu : Recs encU 4 w w.heap.size (.slice A2 n2 c2) U) (hz : Recs enc1 1 w w.heap.size (.slice A3 n3 c3) (zi a)) :
    Calls Try.prog 26 #[.slice A n c, .slice A2 n2 c2, .slice A3 n3 c3] w fun e w' => ∃ A' c', e = .returned (.slice A' L.length c') ∧ Recs enc1 1 w' w'.heap.size (.slice A' L.length c') (zi (restN L a)) ∧ Below w.heap.size w w' := by
  refine (Left_any L U (zi a) A A2 A3 n c n2 c2 n3 c3 w hr hu hz).mono ?_
  rintro e w' ⟨A', n', c', rfl, h1, h2⟩
  rw [left_all hl hv ha] at h1
  have hn : n' = L.length := by have := (recs_cap h1).1; rwa [zi_len, restN_len] at this
  subst hn
  exact ⟨A', c', rfl, h1, h2⟩
set_option maxRecDepth 100000 in
set_option maxHeartbeats 16000000 in
theorem more_true (v0 : Value) (xs : List I5) (v1 : Value) (ys : List I4) (m : I5) (x3 : Int) (w : World) (hr0 : Recs enc5 5 w w.heap.size v0 xs) (hx : ∀ x ∈ xs, OkI5 x) (hr1 : Recs enc4 4 w w.heap.size v1 ys) (hy : ∀ y ∈ ys, OkI4 y) (hm : OkI5 m) (h3 : -9223372036854775808 ≤ x3 ∧ x3 ≤ 9223372036854775807) :
    Calls Try.prog 8 #[v0, v1, .agg #[.int .i64 m.a, .int .i64 m.b, .int .i64 m.c, .int .i64 m.d, .int .i64 m.e], .int .i64 x3] w fun e w' => e = .returned (.bool true) ∧ Below w.heap.size w w' := by
  obtain ⟨A0, c0, rfl, -⟩ := recs_form hr0
  obtain ⟨A1, c1, rfl, -⟩ := recs_form hr1
  obtain ⟨gX, hgX⟩ : ∃ g, w.heap.size = g := ⟨_, rfl⟩
  have HGX := Lib.hid hgX
  have hx0 := (Below.refl w.heap.size w).alloc (Nat.le_refl _) (.cells #[.int .i64 m.a, .int .i64 m.b, .int .i64 m.c, .int .i64 m.d, .int .i64 m.e] 57)
  have hrx := Row.new w 57 #[.int .i64 m.a, .int .i64 m.b, .int .i64 m.c, .int .i64 m.d, .int .i64 m.e]
  obtain ⟨wx, hwx⟩ : ∃ W, w.alloc (.cells #[.int .i64 m.a, .int .i64 m.b, .int .i64 m.c, .int .i64 m.d, .int .i64 m.e] 57) = W := ⟨_, rfl⟩
  rw [hwx] at hx0 hrx
  rw [hgX] at hrx
  have RX := Lib.hid hrx
  have BX := Lib.hid (Below.refl wx.heap.size wx)
  have B0 := Lib.hid hx0
  have HM := Lib.hid (fun u (h : Below wx.heap.size wx u) => made_any xs hx A0 _ c0 u ((hr0.next hx0).next h))
  have HN := Lib.hid (fun u (h : Below wx.heap.size wx u) => madeUses_any ys hy A1 _ c1 u ((hr1.next hx0).next h))
  have HVL := Lib.hid (madeG_valid xs)
  have HVU := Lib.hid (madeU_valid ys)
  have HUL := Lib.hid (madeU_len ys)
  have HP3 := Lib.hid (madeG_plays xs)
  have HL8 := Lib.hid (madeG_len xs)
  have HOK := Lib.hid (mkG_ok m)
  have HMQ := Lib.hid (show madeG [m] = [mkG m] from rfl)
  have HMK := Lib.hid hm
  clear hr0 hr1 hx hy hx0 hrx hm
  generalize madeG xs = L at *
  generalize madeU ys = U at *
  generalize mkG m = q at *
  have HL12 := Lib.hid (validG_len HVL.out)
  cases hcb : canB L U with
  | false =>
    have HCB := Lib.hid hcb
    clear hcb
    have lX := RX.out.lt
    go_enter Try.func8, Try.ntmps8
    go_upto_region 1 with fail
    clear hwx hgX
    go_wp2_with (first | (go_at_call 10; (with_reducible refine Calls.mono (sane_any _) ?_); rintro r u1 ⟨rfl, hb⟩; have B1 := Lib.hid (below_to BX.out hb); have RX := Lib.hid (RX.out.below hb RX.out.lt); clear hb) | (go_at_call 11; (with_reducible refine Calls.mono (HM.out _ B1.out) ?_); rintro r u2 ⟨v2, rfl, hg⟩; obtain ⟨A2_, c2_, rfl, -⟩ := own_slice hg.own; have B2 := Lib.hid (below_to B1.out hg.b); have RX := Lib.hid (RX.out.below hg.b RX.out.lt); have HG := Lib.hid hg.recs; clear hg) | (go_at_call 12; (with_reducible refine Calls.mono (HN.out _ B2.out) ?_); rintro r u3 ⟨v3, rfl, hg⟩; obtain ⟨A3_, c3_, rfl, -⟩ := own_slice hg.own; have B3 := Lib.hid (below_to B2.out hg.b); have RX := Lib.hid (RX.out.below hg.b RX.out.lt); have HG := Lib.hid (HG.out.next hg.b); have HU := Lib.hid hg.recs; clear hg) | (go_at_call 21; (with_reducible refine Calls.mono (assign_not L U HCB.out _ _ _ _ _ _ _ HG.out HU.out) ?_); rintro r u4 ⟨rfl, hb⟩; have B4 := Lib.hid (below_to B3.out hb); have HG := Lib.hid (HG.out.next hb); have HU := Lib.hid (HU.out.next hb); clear hb) | (go_at_call 26; (with_reducible refine Calls.mono (left_no L U HCB.out _ _ _ _ _ _ _ HG.out HU.out) ?_); rintro r u5 ⟨A5_, c5_, rfl, hb⟩; have B5 := Lib.hid (below_to B4.out hb); clear hb))
    go_ret
    exact ⟨rfl, B0.out.trans (B5.out.mono (by have := B0.out.size; omega))⟩
  | true =>
    have HCB := Lib.hid hcb
    clear hcb
    have lX := RX.out.lt
    go_enter Try.func8, Try.ntmps8
    go_upto_region 1 with fail
    clear hwx hgX
    go_upto_region 13 with (first | (go_at_call 10; (with_reducible refine Calls.mono (sane_any _) ?_); rintro r u1 ⟨rfl, hb⟩; have B1 := Lib.hid (below_to BX.out hb); have RX := Lib.hid (RX.out.below hb RX.out.lt); clear hb) | (go_at_call 11; (with_reducible refine Calls.mono (HM.out _ B1.out) ?_); rintro r u2 ⟨v2, rfl, hg⟩; obtain ⟨A2_, c2_, rfl, -⟩ := own_slice hg.own; have B2 := Lib.hid (below_to B1.out hg.b); have RX := Lib.hid (RX.out.below hg.b RX.out.lt); have HG := Lib.hid hg.recs; clear hg) | (go_at_call 12; (with_reducible refine Calls.mono (HN.out _ B2.out) ?_); rintro r u3 ⟨v3, rfl, hg⟩; obtain ⟨A3_, c3_, rfl, -⟩ := own_slice hg.own; have B3 := Lib.hid (below_to B2.out hg.b); have RX := Lib.hid (RX.out.below hg.b RX.out.lt); have HG := Lib.hid (HG.out.next hg.b); have HU := Lib.hid hg.recs; clear hg) | (go_at_call 21; (with_reducible refine Calls.mono (assign_can L U HVL.out HVU.out HCB.out _ _ _ _ _ _ _ HG.out HU.out) ?_); rintro r u4 ⟨A4_, c4_, a, rfl, hF, ho, hb⟩; have B4 := Lib.hid (below_to B3.out hb); have RX := Lib.hid (RX.out.below hb RX.out.lt); have HG := Lib.hid (HG.out.next hb); have HU := Lib.hid (HU.out.next hb); have HFA := Lib.hid hF; have HA := Lib.hid (ints_own ho (zi_len a)); clear hb hF ho) | (go_at_call 26; (with_reducible refine Calls.mono (left_yes L U a HVL.out HVU.out HFA.out.is _ _ _ _ _ _ _ _ _ _ HG.out HU.out HA.out) ?_); rintro r u5 ⟨A5_, c5_, rfl, h5, hb⟩; have B5 := Lib.hid (below_to B4.out hb); have RX := Lib.hid (RX.out.below hb RX.out.lt); have HG := Lib.hid (HG.out.next hb); have HU := Lib.hid (HU.out.next hb); have HR := Lib.hid h5; clear hb h5))
    have HAL := Lib.hid (show a.length = U.length by rw [HFA.out.is.len, chL_len])
    go_wp2
    go_loopw [15, 16] (fun s z wr => ∃ k : Nat, z = .int .i64 (k : Int) ∧ k ≤ L.length ∧ s = .int .i64 (sumK L U a k) ∧ Hid (Below u5.heap.size u5 wr)) (fun _ z _ => L.length - (intOf z).toNat)
    case atStart => exact ⟨0, rfl, Nat.zero_le _, by rw [sumK_zero], Lib.hid (Below.refl _ _)⟩
    case round =>
      obtain ⟨k, rfl, hk, rfl, HB⟩ := hrel
      have k0 : (0 : Int) ≤ (k : Int) := by omega
      have l8 : L.length ≤ 8 := HL8.out
      by_cases hkl : k < L.length
      · have k1 : (k : Int) < (L.length : Int) := by omega
        obtain ⟨x, hxr, -⟩ := restN_get (a := a) hkl
        obtain ⟨g, hg⟩ : ∃ g, L[k]? = some g := ⟨_, List.getElem?_eq_getElem hkl⟩
        have HSN := Lib.hid (sumK_next (U := U) (a := a) HVL.out hg hxr)
        have hsb := sumK_bound (U := U) HVL.out HUL.out a k
        obtain ⟨s, hs⟩ : ∃ s, sumK L U a k = s := ⟨_, rfl⟩
        rw [hs] at HSN hsb ⊢
        have hx9 := restN_le HVL.out a x (List.mem_of_getElem? hxr)
        have hg9 := validG_plays HVL.out g (List.mem_of_getElem? hg)
        obtain ⟨gr, or_, rfl, hgr, hcr⟩ := recs_at (HR.out.below HB.out) k (by rw [zi_len, restN_len]; exact hkl)
        obtain ⟨bg, og, rfl, hbg, hcg⟩ := recs_at (HG.out.below HB.out) k hkl
        have z0 : wr.cell? ⟨gr, or_ + k, none⟩ = some (.int .i64 (x : Int)) := by
          have h := hcr k (x : Int) (by simp [zi, hxr]) 0 _ rfl
          rwa [Nat.mul_one, Nat.add_zero] at h
        have p3 : wr.cell? ⟨bg, og + k * 6 + 3, none⟩ = some (.int .i64 g.plays) := hcg k g hg 3 _ rfl
        have lw := HB.out.size
        have l1 : gr < wr.heap.size := by omega
        have l2 : bg < wr.heap.size := by omega
        have x0 : ¬ (x : Int) < 0 := by omega
        obtain ⟨p, hp⟩ : ∃ p, g.plays = p := ⟨_, rfl⟩
        rw [hp] at hg9 p3 HSN
        clear hcr hcg hg hxr hs hp
        go_upto_region 16 with fail
        go_quiet (fail)
        all_goals (
          go_wp2
          go_roundw
          case rel => exact ⟨k + 1, by go_num, by omega, by rw [HSN.out], Lib.hid (belowN HB.out _)⟩
          case measure => simp [intOf]; omega)
      · have k1 : ¬ (k : Int) < (L.length : Int) := by omega
        have hke : k = L.length := by omega
        have hs0 : sumK L U a k = 0 := by rw [hke]; exact sumK_all HFA.out.is
        rw [hs0]
        clear hs0 hke
        have RXW := Lib.hid (RX.out.below HB.out RX.out.lt)
        have BW := Lib.hid (below_to B5.out HB.out)
        have HUW := Lib.hid (HU.out.next HB.out)
        have HBU := Lib.hid HB.out
        have HASG : Hid (∀ M, validG M = true → canB M U = true → ∀ A n c y, Recs encG 6 y y.heap.size (.slice A n c) M → Below wr.heap.size wr y → Calls Try.prog 21 #[.slice A n c, .slice A3_ U.length c3_] y fun e w' => ∃ v, e = .returned (.tuple #[v, .int .i64 0]) ∧ Below y.heap.size y w') := Lib.hid (fun M hv hc A n c y h hy => by have h2 := assign_at M U hv HVU.out _ _ _ _ _ _ y h (HUW.out.next hy); unfold errC at h2; rw [hc] at h2; exact h2)
        obtain ⟨hv2, hc2⟩ := more_can HVL.out HL8.out HOK.out HCB.out
        have HAS2 : Hid (∀ A n c y, Recs encG 6 y y.heap.size (.slice A n c) (L ++ [q]) → Below wr.heap.size wr y → Calls Try.prog 21 #[.slice A n c, .slice A3_ U.length c3_] y fun e w' => ∃ v, e = .returned (.tuple #[v, .int .i64 0]) ∧ Below y.heap.size y w') := Lib.hid (fun A n c y h hy => by have h2 := assign_at _ U hv2 HVU.out _ _ _ _ _ _ y h (HUW.out.next hy); unfold errC at h2; rw [hc2] at h2; exact h2)
        have HM2 : Hid (∀ g y, Recs enc5 5 y y.heap.size (.slice (some ⟨g, 0, none⟩) 1 1) [m] → Calls Try.prog 11 #[.slice (some ⟨g, 0, none⟩) 1 1] y fun e w' => ∃ v, e = .returned v ∧ GatG y [q] v w') := Lib.hid (fun g y h => by have h2 := made_any [m] (fun x h => by rw [List.mem_singleton.1 h]; exact HMK.out) _ 1 1 y h; rw [HMQ.out] at h2; exact h2)
        have hlit : ∀ u : World, Recs enc5 5 (u.alloc (.cells #[.int .i64 m.a, .int .i64 m.b, .int .i64 m.c, .int .i64 m.d, .int .i64 m.e] 57)) (u.alloc (.cells #[.int .i64 m.a, .int .i64 m.b, .int .i64 m.c, .int .i64 m.d, .int .i64 m.e] 57)).heap.size (.slice (some ⟨u.heap.size, 0, none⟩) 1 1) [m] := fun u => lit_recs (enc := enc5) (k := 5) (fun _ => rfl) [m] 57 u (by simp) rfl rfl
        have HLIT := Lib.hid hlit
        have HLITD := Lib.hid (fun u => (hlit u).next (Below.refl _ _).drew)
        have HSK : Hid (∀ y, Below wr.heap.size wr y → Below wr.heap.size wr y ∧ y.cell? ⟨gX, 0, none⟩ = some (.int .i64 m.a) ∧ y.cell? ⟨gX, 1, none⟩ = some (.int .i64 m.b) ∧ y.cell? ⟨gX, 2, none⟩ = some (.int .i64 m.c) ∧ y.cell? ⟨gX, 3, none⟩ = some (.int .i64 m.d) ∧ y.cell? ⟨gX, 4, none⟩ = some (.int .i64 m.e)) := Lib.hid (fun y hy => ⟨hy, (RXW.out.below hy RXW.out.lt).cell 0, (RXW.out.below hy RXW.out.lt).cell 1, (RXW.out.below hy RXW.out.lt).cell 2, (RXW.out.below hy RXW.out.lt).cell 3, (RXW.out.below hy RXW.out.lt).cell 4⟩)
        have l8 : L.length ≤ 8 := HL8.out
        clear hv2 hc2 hlit lX
        go_upto_region 19 with fail
        go_cut [17, 18] from 83 to 93 (fun v f wx => f = .int .i64 0 ∧ Hid (Below wr.heap.size wr wx))
        case first =>
          go_region_held3 (fun y => Below wr.heap.size wr y ∧ y.cell? ⟨gX, 0, none⟩ = some (.int .i64 m.a) ∧ y.cell? ⟨gX, 1, none⟩ = some (.int .i64 m.b) ∧ y.cell? ⟨gX, 2, none⟩ = some (.int .i64 m.c) ∧ y.cell? ⟨gX, 3, none⟩ = some (.int .i64 m.d) ∧ y.cell? ⟨gX, 4, none⟩ = some (.int .i64 m.e)) (first | assumption | (exact HSK.out _ (Below.refl _ _).drew) | (exact HSK.out _ ((Below.refl _ wr).alloc (Nat.le_refl _) _).drew) | (exact HSK.out _ (Below.alloc (‹Below wr.heap.size wr _ ∧ _›).1 (Below.size (‹Below wr.heap.size wr _ ∧ _›).1) _))) (first | (go_at_call 11; ((with_reducible refine Calls.mono (HM.out _ (below_to BW.out (‹Below wr.heap.size wr _ ∧ _›).1)) ?_); rintro r w6 ⟨v6, rfl, hg6⟩; obtain ⟨A6, c6, rfl, -⟩ := own_slice hg6.own; obtain ⟨hBy, hB6⟩ := below_both (‹Below wr.heap.size wr _ ∧ _›).1 hg6.b; have hS6 := HSK.out _ hB6; try (have hq9 := hq7.next hg6.b; obtain ⟨A8, c8, w8, hrun, hg8, hb8⟩ := hg6.join (by omega) hq9; have hg8r := hg8.recs; have hB8 := below_to hBy hb8; have hS8 := HSK.out _ hB8))) | (go_at_call 11; ((with_reducible refine Calls.mono (HM2.out _ _ (HLIT.out _)) ?_); rintro r w7 ⟨v7, rfl, hg7⟩; obtain ⟨A7, c7, hv7, -⟩ := own_slice hg7.own; have hv7 : v7 = .slice A7 1 c7 := hv7; subst hv7; have hq7 := hg7.recs; have hB7 := below_to (‹Below wr.heap.size wr _ ∧ _›).1 hg7.b; have hS7 := HSK.out _ hB7; try (obtain ⟨A8, c8, w8, hrun, hg8, hb8⟩ := (hg6.next (below_to ((Below.refl _ w6).alloc (Nat.le_refl _) _) hg7.b)).join (by omega) hq7; have hg8r := hg8.recs; have hB8 := below_to hBy hb8; have hS8 := HSK.out _ hB8))) | (go_at_call 11; ((with_reducible refine Calls.mono (HM2.out _ _ (HLITD.out _)) ?_); rintro r w7 ⟨v7, rfl, hg7⟩; obtain ⟨A7, c7, hv7, -⟩ := own_slice hg7.own; have hv7 : v7 = .slice A7 1 c7 := hv7; subst hv7; have hq7 := hg7.recs; have hB7 := below_to (‹Below wr.heap.size wr _ ∧ _›).1 hg7.b; have hS7 := HSK.out _ hB7; try (obtain ⟨A8, c8, w8, hrun, hg8, hb8⟩ := (hg6.next (below_to (((Below.refl _ w6).alloc (Nat.le_refl _) _).drew) hg7.b)).join (by omega) hq7; have hg8r := hg8.recs; have hB8 := below_to hBy hb8; have hS8 := HSK.out _ hB8))) | (go_at_call 11; ((with_reducible refine Calls.mono (HM2.out _ _ ((HLITD.out _).next hg6.b)) ?_); rintro r w7 ⟨v7, rfl, hg7⟩; obtain ⟨A7, c7, hv7, -⟩ := own_slice hg7.own; have hv7 : v7 = .slice A7 1 c7 := hv7; subst hv7; have hq7 := hg7.recs; have hB7 := below_to (‹Below wr.heap.size wr _ ∧ _›).1 hg7.b; have hS7 := HSK.out _ hB7; try (obtain ⟨A8, c8, w8, hrun, hg8, hb8⟩ := (hg6.next hg7.b).join (by omega) hq7; have hg8r := hg8.recs; have hB8 := below_to hBy hb8; have hS8 := HSK.out _ hB8))) | (go_at_call 11; ((with_reducible refine Calls.mono (HM2.out _ _ ((HLIT.out _).next hg6.b)) ?_); rintro r w7 ⟨v7, rfl, hg7⟩; obtain ⟨A7, c7, hv7, -⟩ := own_slice hg7.own; have hv7 : v7 = .slice A7 1 c7 := hv7; subst hv7; have hq7 := hg7.recs; have hB7 := below_to (‹Below wr.heap.size wr _ ∧ _›).1 hg7.b; have hS7 := HSK.out _ hB7; try (obtain ⟨A8, c8, w8, hrun, hg8, hb8⟩ := (hg6.next hg7.b).join (by omega) hq7; have hg8r := hg8.recs; have hB8 := below_to hBy hb8; have hS8 := HSK.out _ hB8))) | (go_at_call 21; ((with_reducible refine Calls.mono (HAS2.out _ _ _ _ hg8r hB8) ?_); rintro r w9 ⟨v9, rfl, hb9⟩; have hB9 := below_to hB8 hb9; have hS9 := HSK.out _ hB9)))
          all_goals (
            go_wp2
            go_meet
            exact ⟨rfl, Lib.hid (‹Below wr.heap.size wr _ ∧ _›).1⟩)
        case rest =>
          obtain ⟨rfl, HWX⟩ := hcut
          have FIN := Lib.hid (fun u (h : Below wr.heap.size wr u) => B0.out.trans ((below_to BW.out h).mono (by have := B0.out.size; omega)))
          by_cases hL0 : L.length = 0
          · have l0 : ¬ 0 < (L.length : Int) := by omega
            have HASX := Lib.hid (HASG.out L HVL.out HCB.out)
            clear hL0
            go_upto_region 24 with (go_at_call 11; (with_reducible refine Calls.mono (HM.out _ (below_to BW.out HWX.out)) ?_); rintro r u7 ⟨v7, rfl, hg⟩; obtain ⟨A7, c7, rfl, -⟩ := own_slice hg.own; have B7 := Lib.hid (below_to HWX.out hg.b); have HG7 := Lib.hid hg; clear hg)
            have HG8 := Lib.hid HG7.out.recs
            have HB8 := B7
            go_wp2_with (go_at_call 21; (with_reducible refine Calls.mono (HASX.out _ _ _ _ HG8.out HB8.out) ?_); rintro r u9 ⟨v9, rfl, hb⟩; have B9 := Lib.hid (below_to HB8.out hb); clear hb)
            go_ret
            exact ⟨rfl, FIN.out _ B9.out⟩
          · have l0 : 0 < (L.length : Int) := by omega
            have P3 := Lib.hid (fun u => pick_any x3 (L.length : Int) (by omega) (by omega) h3.1 h3.2 u)
            have hp := pickI_lt x3 (L.length : Int) (by omega)
            obtain ⟨k3, hk3⟩ : ∃ n : Nat, pickI x3 (L.length : Int) = (n : Int) := ⟨(pickI x3 (L.length : Int)).toNat, by rw [Int.toNat_of_nonneg hp.1]⟩
            rw [hk3] at P3 hp
            have hkL : k3 < L.length := by omega
            have z30 : (0 : Int) ≤ (k3 : Int) := by omega
            have z31 : (k3 : Int) < (L.length : Int) := by omega
            obtain ⟨x, hx⟩ : ∃ x, L[k3]? = some x := ⟨_, List.getElem?_eq_getElem hkL⟩
            obtain ⟨hv3, hc3⟩ := rich_can HVL.out HP3.out hx HCB.out
            have HASX := Lib.hid (HASG.out _ hv3 hc3)
            have hp9 := HP3.out x (List.mem_of_getElem? hx)
            have HX := Lib.hid hx
            clear hk3 hp hx hv3 hc3 h3
            go_upto_region 23 with (first | (go_at_call 11; (with_reducible refine Calls.mono (HM.out _ (below_to BW.out HWX.out)) ?_); rintro r u7 ⟨v7, rfl, hg⟩; obtain ⟨A7, c7, rfl, -⟩ := own_slice hg.own; have B7 := Lib.hid (below_to HWX.out hg.b); have HG7 := Lib.hid hg; clear hg) | (go_at_call 20; (with_reducible refine Calls.mono (P3.out _) ?_); rintro r y1 ⟨rfl, rfl⟩))
            obtain ⟨g7, c7', hv7, hB7, hg7, z7, f7, hset⟩ := HG7.out.setP HX.out
            obtain ⟨rfl, rfl⟩ : A7 = some ⟨g7, 0, none⟩ ∧ c7 = c7' := by injection hv7 with e1 e2 e3; exact ⟨e1, e3⟩
            have HST := Lib.hid (hset (x.plays + 1))
            obtain ⟨p, hp⟩ : ∃ p, x.plays = p := ⟨_, rfl⟩
            rw [hp] at HST hp9 z7 HASX
            clear hset hv7 hp
            go_upto_region 24 with fail
            obtain ⟨w8, hw8⟩ : ∃ w8, u7.setCell ⟨g7, k3 * 6 + 3, none⟩ (.int .i64 (p + 1)) = w8 := ⟨_, rfl⟩
            rw [hw8] at HST ⊢
            have HG8 := Lib.hid (show Recs encG 6 w8 w8.heap.size (.slice (some ⟨g7, 0, none⟩) L.length c7) (L.set k3 (withP x (p + 1))) from HST.out.recs)
            have HB8 := Lib.hid (below_to HWX.out HST.out.b)
            clear hw8 z7 f7
            go_wp2_with (go_at_call 21; (with_reducible refine Calls.mono (HASX.out _ _ _ _ HG8.out HB8.out) ?_); rintro r u9 ⟨v9, rfl, hb⟩; have B9 := Lib.hid (below_to HB8.out hb); clear hb)
            go_ret
            exact ⟨rfl, FIN.out _ B9.out⟩
end Go.Proofs.Ytenojfniknjeiaa
