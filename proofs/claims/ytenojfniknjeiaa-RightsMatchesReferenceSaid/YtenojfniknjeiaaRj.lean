/- The reference: Permits, Left. -/
import Derived.Test.YtenojfniknjeiaaRi
import Derived.Deep.RegionHeld3
namespace Go.Proofs.Ytenojfniknjeiaa
open Go.RowKit Go.Shelf
attribute [local go_sem ↓] append_appN

theorem validU_one (u : Us) : validU [u] = okU u := by
  unfold validU
  simp
set_option maxRecDepth 100000 in
set_option maxHeartbeats 16000000 in
theorem rPermits_any (l : List Gr) (u : Us) (A : Option Addr) (n c : Nat) (w : World) (hr : Recs encG 6 w w.heap.size (.slice A n c) l) :
    Calls Try.prog 29 #[.slice A n c, .agg #[.int .i64 u.item, .int .i64 u.acts, .int .i64 u.region, .int .i64 u.at_]] w fun e w' => ∃ A' n' c', e = .returned (.slice A' n' c') ∧ Recs enc1 1 w' w'.heap.size (.slice A' n' c') (zi (permV l u)) ∧ Below w.heap.size w w' := by
  obtain ⟨hn, hc1, hc2⟩ := recs_cap hr
  have hx0 := (Below.refl w.heap.size w).alloc (Nat.le_refl _) (.cells #[.int .i64 u.item, .int .i64 u.acts, .int .i64 u.region, .int .i64 u.at_] 46)
  have hrx := Row.new w 46 #[.int .i64 u.item, .int .i64 u.acts, .int .i64 u.region, .int .i64 u.at_]
  obtain ⟨wx, hwx⟩ : ∃ W, w.alloc (.cells #[.int .i64 u.item, .int .i64 u.acts, .int .i64 u.region, .int .i64 u.at_] 46) = W := ⟨_, rfl⟩
  obtain ⟨gX, hgX⟩ : ∃ g, w.heap.size = g := ⟨_, rfl⟩
  rw [hwx] at hx0 hrx
  rw [hgX] at hrx
  have RU := Lib.hid hrx
  have HRX := Lib.hid hrx.lt
  have B0 := Lib.hid hx0
  have HR := Lib.hid (hr.next hx0)
  have HN := Lib.hid hn
  have hn9 : n ≤ 9223372036854775807 := by omega
  have HG := Lib.hid (rvalid_any l A n c wx HR.out)
  have HV := Lib.hid (fun y => rvaliduses_any [u] (some ⟨y.heap.size, 0, none⟩) 1 1 (y.alloc (.cells #[.int .i64 u.item, .int .i64 u.acts, .int .i64 u.region, .int .i64 u.at_] 46)) (lit_recs (enc := encU) (k := 4) (fun _ => rfl) [u] 46 y (by simp) rfl rfl))
  obtain ⟨b0, hb0⟩ : ∃ b, validG l = b := ⟨_, rfl⟩
  obtain ⟨b1, hb1⟩ : ∃ b, okU u = b := ⟨_, rfl⟩
  have HPV := Lib.hid (show permV l u = if b0 && b1 then permL l u else [] by unfold permV; rw [hb0, hb1])
  rw [validU_one, hb1] at HV
  rw [hb0] at HG
  have H0 := Lib.hid hb0
  have H1 := Lib.hid hb1
  have u0 := RU.out.cell 0; have u1 := RU.out.cell 1; have u2 := RU.out.cell 2; have u3 := RU.out.cell 3; have lu := RU.out.lt
  simp only [List.getElem?_toArray, List.getElem?_cons_zero, List.getElem?_cons_succ] at u0 u1 u2 u3
  clear hr hn hc1 hc2 hx0 hrx hb0 hb1
  cases b0 with
  | false =>
    have HE := Lib.hid (show permV l u = [] by rw [HPV.out]; rfl)
    go_enter Try.func29, Try.ntmps29
    go_upto_region 1 with fail
    clear hwx hgX
    go_wp2_with (go_at_call 14; (with_reducible refine Calls.mono HG.out ?_); rintro r v1 ⟨rfl, hb⟩; have B1 := Lib.hid hb; clear hb)
    go_ret
    exact ⟨_, _, _, rfl, by rw [HE.out]; exact recs_nil _ _ _ _, B0.out.trans (B1.out.mono B0.out.size)⟩
  | true =>
    cases b1 with
    | false =>
      have HE := Lib.hid (show permV l u = [] by rw [HPV.out]; rfl)
      go_enter Try.func29, Try.ntmps29
      go_upto_region 1 with fail
      clear hwx hgX
      go_wp2_with (first | (go_at_call 14; (with_reducible refine Calls.mono HG.out ?_); rintro r v1 ⟨rfl, hb⟩; have B1 := Lib.hid hb; have RU := Lib.hid (RU.out.below hb RU.out.lt); clear u0 u1 u2 u3 lu; have u0 := RU.out.cell 0; have u1 := RU.out.cell 1; have u2 := RU.out.cell 2; have u3 := RU.out.cell 3; have lu := RU.out.lt; clear hb) | (go_at_call 16; (with_reducible refine Calls.mono (HV.out _) ?_); rintro r v2 ⟨rfl, hb⟩; have hbz := below_to ((Below.refl _ v1).alloc (Nat.le_refl _) (.cells #[.int .i64 u.item, .int .i64 u.acts, .int .i64 u.region, .int .i64 u.at_] 46)) hb; have B2 := Lib.hid (below_to B1.out hbz); have RU := Lib.hid (RU.out.below hbz RU.out.lt); clear hb hbz))
      go_ret
      exact ⟨_, _, _, rfl, by rw [HE.out]; exact recs_nil _ _ _ _, B0.out.trans (B2.out.mono B0.out.size)⟩
    | true =>
      have HE := Lib.hid (show permV l u = permL l u by rw [HPV.out]; rfl)
      have h12 : n ≤ 12 := by rw [HN.out]; exact validG_len H0.out
      go_enter Try.func29, Try.ntmps29
      go_upto_region 1 with fail
      clear hwx hgX
      go_upto_region 3 with (first | (go_at_call 14; (with_reducible refine Calls.mono HG.out ?_); rintro r v1 ⟨rfl, hb⟩; have B1 := Lib.hid hb; have RU := Lib.hid (RU.out.below hb RU.out.lt); clear u0 u1 u2 u3 lu; have u0 := RU.out.cell 0; have u1 := RU.out.cell 1; have u2 := RU.out.cell 2; have u3 := RU.out.cell 3; have lu := RU.out.lt; clear hb) | (go_at_call 16; (with_reducible refine Calls.mono (HV.out _) ?_); rintro r v2 ⟨rfl, hb⟩; have hbz := below_to ((Below.refl _ v1).alloc (Nat.le_refl _) (.cells #[.int .i64 u.item, .int .i64 u.acts, .int .i64 u.region, .int .i64 u.at_] 46)) hb; have B2 := Lib.hid (below_to B1.out hbz); have RU := Lib.hid (RU.out.below hbz RU.out.lt); clear hb hbz))
      have G0 := Lib.hid (show Gat wx wx.heap.size (permK l u 0) (.slice none 0 0) v2 from ⟨World.ownsRow_nil _ _ _ _, B2.out, Nat.le_refl _, B2.out.size⟩)
      have R0 := Lib.hid (RU.out)
      clear u0 u1 u2 u3 lu
      go_wp2
      go_loopw [5, 6] (fun o z wr => ∃ k : Nat, z = .int .i64 (k : Int) ∧ k ≤ n ∧ Hid (Gat wx wx.heap.size (permK l u k) o wr) ∧ Hid (Row wr gX 46 #[.int .i64 u.item, .int .i64 u.acts, .int .i64 u.region, .int .i64 u.at_])) (fun _ z _ => n - (intOf z).toNat)
      case atStart => exact ⟨0, rfl, Nat.zero_le _, G0, R0⟩
      case round =>
        clear G0 R0
        obtain ⟨k, rfl, hk, HGA, RU⟩ := hrel
        have k0 : (0 : Int) ≤ (k : Int) := by omega
        have e7 : IntKind.i64.wrap ((k : Int) + 1) = (k : Int) + 1 := IntWalk.i64_in _ (by omega)
        by_cases hlt : k < n
        · have k1 : (k : Int) < (n : Int) := by omega
          have hka : k < l.length := by have := HN.out; omega
          obtain ⟨q, hq⟩ : ∃ q, l[k]? = some q := ⟨_, List.getElem?_eq_getElem hka⟩
          have HQ := Lib.hid hq
          have HPK := Lib.hid (permK_snoc (u := u) hq)
          have hpm := fun y => Permitted_any q u (okG_of H0.out (List.mem_of_getElem? hq)) H1.out y
          obtain ⟨pb, hpb⟩ : ∃ pb, perB q u = pb := ⟨_, rfl⟩
          rw [hpb] at HPK hpm
          have HPM := Lib.hid hpm
          obtain ⟨F, hF⟩ : ∃ F, permK l u k = F := ⟨_, rfl⟩
          have HLF := Lib.hid (show F.length ≤ 12 by rw [← hF]; have := permK_len l u k; omega)
          rw [hF] at HPK HGA
          obtain ⟨A5, c5, rfl, -⟩ := own_slice HGA.out.own
          obtain ⟨bg, og, rfl, hbg, hcg⟩ := recs_at (HR.out.below HGA.out.b) k hka
          have lw := HGA.out.b.size
          have x0 : wr.cell? ⟨bg, og + k * 6, none⟩ = some (.int .i64 q.item) := hcg k q HQ.out 0 _ rfl
          have x1 : wr.cell? ⟨bg, og + k * 6 + 1, none⟩ = some (.int .i64 q.acts) := hcg k q HQ.out 1 _ rfl
          have x2 : wr.cell? ⟨bg, og + k * 6 + 2, none⟩ = some (.int .i64 q.regions) := hcg k q HQ.out 2 _ rfl
          have x3 : wr.cell? ⟨bg, og + k * 6 + 3, none⟩ = some (.int .i64 q.plays) := hcg k q HQ.out 3 _ rfl
          have x4 : wr.cell? ⟨bg, og + k * 6 + 4, none⟩ = some (.int .i64 q.fr) := hcg k q HQ.out 4 _ rfl
          have x5 : wr.cell? ⟨bg, og + k * 6 + 5, none⟩ = some (.int .i64 q.tw) := hcg k q HQ.out 5 _ rfl
          have g1 : bg < wr.heap.size := by omega
          have u0 := RU.out.cell 0; have u1 := RU.out.cell 1; have u2 := RU.out.cell 2; have u3 := RU.out.cell 3; have lu := RU.out.lt
          simp only [List.getElem?_toArray, List.getElem?_cons_zero, List.getElem?_cons_succ] at u0 u1 u2 u3
          have HSK : Hid (∀ y, Below wr.heap.size wr y → Below wr.heap.size wr y ∧ y.cell? ⟨bg, og + k * 6, none⟩ = some (.int .i64 q.item) ∧ y.cell? ⟨bg, og + k * 6 + 1, none⟩ = some (.int .i64 q.acts) ∧ y.cell? ⟨bg, og + k * 6 + 2, none⟩ = some (.int .i64 q.regions) ∧ y.cell? ⟨bg, og + k * 6 + 3, none⟩ = some (.int .i64 q.plays) ∧ y.cell? ⟨bg, og + k * 6 + 4, none⟩ = some (.int .i64 q.fr) ∧ y.cell? ⟨bg, og + k * 6 + 5, none⟩ = some (.int .i64 q.tw) ∧ y.cell? ⟨gX, 0, none⟩ = some (.int .i64 u.item) ∧ y.cell? ⟨gX, 1, none⟩ = some (.int .i64 u.acts) ∧ y.cell? ⟨gX, 2, none⟩ = some (.int .i64 u.region) ∧ y.cell? ⟨gX, 3, none⟩ = some (.int .i64 u.at_)) := Lib.hid (fun y hy => ⟨hy, (hy.cell (p := ⟨bg, og + k * 6, none⟩) (by exact g1)).trans x0, (hy.cell (p := ⟨bg, og + k * 6 + 1, none⟩) (by exact g1)).trans x1, (hy.cell (p := ⟨bg, og + k * 6 + 2, none⟩) (by exact g1)).trans x2, (hy.cell (p := ⟨bg, og + k * 6 + 3, none⟩) (by exact g1)).trans x3, (hy.cell (p := ⟨bg, og + k * 6 + 4, none⟩) (by exact g1)).trans x4, (hy.cell (p := ⟨bg, og + k * 6 + 5, none⟩) (by exact g1)).trans x5, (RU.out.below hy RU.out.lt).cell 0, (RU.out.below hy RU.out.lt).cell 1, (RU.out.below hy RU.out.lt).cell 2, (RU.out.below hy RU.out.lt).cell 3⟩)
          clear hcg hq hpb hpm hF
          go_upto_region 7 with fail
          go_region_held3 (fun y => Below wr.heap.size wr y ∧ y.cell? ⟨bg, og + k * 6, none⟩ = some (.int .i64 q.item) ∧ y.cell? ⟨bg, og + k * 6 + 1, none⟩ = some (.int .i64 q.acts) ∧ y.cell? ⟨bg, og + k * 6 + 2, none⟩ = some (.int .i64 q.regions) ∧ y.cell? ⟨bg, og + k * 6 + 3, none⟩ = some (.int .i64 q.plays) ∧ y.cell? ⟨bg, og + k * 6 + 4, none⟩ = some (.int .i64 q.fr) ∧ y.cell? ⟨bg, og + k * 6 + 5, none⟩ = some (.int .i64 q.tw) ∧ y.cell? ⟨gX, 0, none⟩ = some (.int .i64 u.item) ∧ y.cell? ⟨gX, 1, none⟩ = some (.int .i64 u.acts) ∧ y.cell? ⟨gX, 2, none⟩ = some (.int .i64 u.region) ∧ y.cell? ⟨gX, 3, none⟩ = some (.int .i64 u.at_)) (first | assumption | (exact HSK.out _ (Below.refl _ _).drew)) (first | (go_at_call 39; ((with_reducible refine Calls.mono (HPM.out _) ?_); rintro r w5 ⟨rfl, hb5⟩; have hB5 := below_to (‹Below wr.heap.size wr _ ∧ _›).1 hb5; have hS5 := HSK.out _ hB5)))
          have HGA5 := Lib.hid (HGA.out.next hB5)
          have RU5 := Lib.hid (RU.out.below hB5 RU.out.lt)
          clear x0 x1 x2 x3 x4 x5 u0 u1 u2 u3 hS5 hb5 hB5 HSK HPM g1 lw lu
          cases pb with
          | false =>
            have HN9 := Lib.hid (show permK l u (k + 1) = F by rw [HPK.out]; simp)
            go_wp2
            go_roundw
            case rel => exact ⟨k + 1, by go_num, by omega, by rw [HN9.out]; exact HGA5, RU5⟩
            case measure => simp [intOf]; omega
          | true =>
            have HN9 := Lib.hid (show permK l u (k + 1) = F ++ [k] by rw [HPK.out]; rfl)
            obtain ⟨A6, c6, w6, hrun, hG, hbB⟩ := HGA5.out.push (by have := HLF.out; omega) (k : Int) k rfl
            have HG6 := Lib.hid (show Gat wx wx.heap.size (permK l u (k + 1)) (.slice A6 (F.length + 1) c6) w6 by rw [HN9.out]; exact hG)
            have RU6 := Lib.hid (RU5.out.below hbB (by have := RU.out.lt; have := HRX.out; omega))
            clear hG hbB
            go_wp2
            go_roundw
            case rel => exact ⟨k + 1, by go_num, by omega, HG6, RU6⟩
            case measure => simp [intOf]; omega
        · have k1 : ¬ (k : Int) < (n : Int) := by omega
          have HKE := Lib.hid (show permK l u k = permL l u by unfold permL; rw [show k = l.length by have := HN.out; omega])
          rw [HKE.out] at HGA
          obtain ⟨A5, c5, rfl, -⟩ := own_slice HGA.out.own
          go_wp2
          go_ret
          exact ⟨_, _, _, rfl, by rw [HE.out]; exact HGA.out.recs, B0.out.trans (HGA.out.b.mono B0.out.size)⟩
set_option maxRecDepth 100000 in
set_option maxHeartbeats 16000000 in
theorem rLeft_any (l : List Gr) (U : List Us) (a : List Int) (A A2 A3 : Option Addr) (n c n2 c2 n3 c3 : Nat) (w : World) (hr : Recs encG 6 w w.heap.size (.slice A n c) l) (hu : Recs encU 4 w w.heap.size (.slice A2 n2 c2) U) (ha : Recs enc1 1 w w.heap.size (.slice A3 n3 c3) a) :
    Calls Try.prog 27 #[.slice A n c, .slice A2 n2 c2, .slice A3 n3 c3] w (LeftPost w (leftV l U a)) := by
  obtain ⟨hn, hc1, hc2⟩ := recs_cap hr
  obtain ⟨hn2, hc3, hc4⟩ := recs_cap hu
  obtain ⟨hn3, hc5, hc6⟩ := recs_cap ha
  have HR := Lib.hid hr
  have HU := Lib.hid hu
  have HA := Lib.hid ha
  have HN := Lib.hid hn
  have HN2 := Lib.hid hn2
  have HN3 := Lib.hid hn3
  have hn39 : n3 ≤ 9223372036854775807 := by omega
  have hn29 : n2 ≤ 9223372036854775807 := by omega
  have HG := Lib.hid (rvalid_any l A n c w hr)
  have HV := Lib.hid (fun u (h : Below w.heap.size w u) => rvaliduses_any U A2 n2 c2 u (HU.out.next h))
  obtain ⟨b0, hb0⟩ : ∃ b, validG l = b := ⟨_, rfl⟩
  obtain ⟨b1, hb1⟩ : ∃ b, validU U = b := ⟨_, rfl⟩
  rw [hb0] at HG
  rw [hb1] at HV
  have H0 := Lib.hid hb0
  have H1 := Lib.hid hb1
  clear hr hu ha hn hn2 hn3 hc1 hc2 hc3 hc4 hc5 hc6 hb0 hb1
  cases b0 with
  | false =>
    have HE := Lib.hid (show leftV l U a = [] by unfold leftV; rw [H0.out]; rfl)
    go_enter Try.func27, Try.ntmps27
    go_wp2_with (go_at_call 14; (with_reducible refine Calls.mono HG.out ?_); rintro r u1 ⟨rfl, hb⟩; have B1 := Lib.hid hb; clear hb)
    go_ret
    exact ⟨_, _, _, rfl, by rw [HE.out]; exact recs_nil _ _ _ _, B1.out⟩
  | true =>
    cases b1 with
    | false =>
      have HE := Lib.hid (show leftV l U a = [] by unfold leftV; rw [H0.out, H1.out]; rfl)
      go_enter Try.func27, Try.ntmps27
      go_wp2_with (first | (go_at_call 14; (with_reducible refine Calls.mono HG.out ?_); rintro r u1 ⟨rfl, hb⟩; have B1 := Lib.hid hb; clear hb) | (go_at_call 16; (with_reducible refine Calls.mono (HV.out _ B1.out) ?_); rintro r u2 ⟨rfl, hb⟩; have B2 := Lib.hid (below_to B1.out hb); clear hb))
      go_ret
      exact ⟨_, _, _, rfl, by rw [HE.out]; exact recs_nil _ _ _ _, B2.out⟩
    | true =>
      by_cases h3 : n3 = n2
      · have e3 : ((n3 : Int) != (n2 : Int)) = false := by rw [h3]; simp
        have HLV := Lib.hid (show leftV l U a = (leftO l U a).getD [] by unfold leftV; rw [H0.out, H1.out, decide_eq_true (by have := HN2.out; have := HN3.out; omega)]; rfl)
        have h12 : n ≤ 12 := by rw [HN.out]; exact validG_len H0.out
        have h10 : n2 ≤ 10 := by rw [HN2.out]; exact validU_len H1.out
        have H33 := Lib.hid h3
        have HPY := Lib.hid (fun u (h : Below w.heap.size w u) => plays_any l H0.out A n c u (HR.out.next h))
        clear h3
        go_enter Try.func27, Try.ntmps27
        go_upto_region 4 with (first | (go_at_call 14; (with_reducible refine Calls.mono HG.out ?_); rintro r u1 ⟨rfl, hb⟩; have B1 := Lib.hid hb; clear hb) | (go_at_call 16; (with_reducible refine Calls.mono (HV.out _ B1.out) ?_); rintro r u2 ⟨rfl, hb⟩; have B2 := Lib.hid (below_to B1.out hb); clear hb) | (go_at_call 37; (with_reducible refine Calls.mono (HPY.out _ B2.out) ?_); rintro r u3 ⟨A4, c4, rfl, ho, hb⟩; have B3 := Lib.hid (below_to B2.out hb); have HO := Lib.hid ho; clear hb ho))
        have HS0 := Lib.hid (show AsR w l.length (plN l) (.slice A4 l.length c4) [] (.slice none 0 0) u3 from ⟨by
          have h := own_lower (show u3.ownsRow u2.heap.size 3 1 (.slice A4 l.length c4) (plN l).length (iv1 (zi (plN l))) from HO.out) B2.out.size
          rwa [plN_length] at h, World.ownsRow_nil _ _ _ _, B3.out, plN_length l, fun q e => by cases e⟩)
        clear HO
        go_wp2
        go_loopw [8, 9] (fun z _ wr => ∃ i : Nat, z = .int .i64 (i : Int) ∧ i ≤ n2 ∧ Hid (∃ R, ((a.zip U).take i).foldl (leftStep l) (some (plN l)) = some R ∧ (∀ x ∈ R, x ≤ 100) ∧ AsR w l.length R (.slice A4 l.length c4) [] (.slice none 0 0) wr)) (fun z _ _ => n2 - (intOf z).toNat)
        case atStart => exact ⟨0, rfl, Nat.zero_le _, Lib.hid ⟨_, rfl, plN_le H0.out, HS0.out⟩⟩
        case round =>
          clear HS0
          obtain ⟨i, rfl, hi, HX⟩ := hrel
          obtain ⟨R, hst, hR9, hs⟩ := HX.out
          have HST := Lib.hid hst
          have HR9 := Lib.hid hR9
          have HS := Lib.hid hs
          clear HX hst hR9 hs
          have i0 : (0 : Int) ≤ (i : Int) := by omega
          have e7 : IntKind.i64.wrap ((i : Int) + 1) = (i : Int) + 1 := IntWalk.i64_in _ (by omega)
          by_cases hil : i < n2
          · have i1 : (i : Int) < (n2 : Int) := by omega
            have i2 : (i : Int) < (n3 : Int) := by have := H33.out; omega
            have hiU : i < U.length := by have := HN2.out; omega
            have hia : i < a.length := by have := HN3.out; have := H33.out; omega
            obtain ⟨v, hv⟩ : ∃ v, U[i]? = some v := ⟨_, List.getElem?_eq_getElem hiU⟩
            obtain ⟨z, hz⟩ : ∃ z, a[i]? = some z := ⟨_, List.getElem?_eq_getElem hia⟩
            have hzz : (a.zip U)[i]? = some (z, v) := by rw [List.getElem?_zip_eq_some]; exact ⟨hz, hv⟩
            have HSN := Lib.hid (left_step hzz HST.out)
            obtain ⟨ba, oa, rfl, hba, hca⟩ := recs_at (HA.out.below HS.out.b) i hia
            have a0 : wr.cell? ⟨ba, oa + i, none⟩ = some (.int .i64 z) := by
              have h := hca i z hz 0 _ rfl
              rwa [Nat.mul_one, Nat.add_zero] at h
            have HVV := Lib.hid hv
            have lw := HS.out.b.size
            have ga1 : ba < wr.heap.size := by omega
            clear hca hz hzz hv
            have HFL : Hid (leftStep l (some R) (z, v) = none → leftV l U a = []) := Lib.hid (fun h => by rw [HLV.out]; unfold leftO; rw [left_fail (HSN.out.trans h)]; rfl)
            by_cases hz0 : z < 0
            · have HE := Lib.hid (HFL.out (by unfold leftStep; simp only [Option.bind_some]; rw [if_neg (fun h => by omega)]))
              go_wp2
              go_ret
              exact ⟨_, _, _, rfl, by rw [HE.out]; exact recs_nil _ _ _ _, HS.out.b⟩
            · obtain ⟨j, rfl⟩ := Int.eq_ofNat_of_zero_le (show 0 ≤ z by omega)
              have j0 : (0 : Int) ≤ (j : Int) := by omega
              have jn : ¬ (j : Int) < 0 := by omega
              clear hz0
              by_cases hjl : j < n
              · have j1 : (j : Int) < (n : Int) := by omega
                have jg : ¬ (n : Int) ≤ (j : Int) := by omega
                have jgn : decide ((n : Int) ≤ (j : Int)) = false := decide_eq_false jg
                have jgnn : decide (n ≤ j) = false := decide_eq_false (by omega)
                have hja : j < l.length := by have := HN.out; omega
                have j2 : (j : Int) < (l.length : Int) := by omega
                obtain ⟨q, hq⟩ : ∃ q, l[j]? = some q := ⟨_, List.getElem?_eq_getElem hja⟩
                obtain ⟨x, hx⟩ : ∃ x, R[j]? = some x := ⟨_, List.getElem?_eq_getElem (by rw [HS.out.ln]; exact hja)⟩
                have HQ := Lib.hid hq
                have HXX := Lib.hid hx
                have hpm := fun y => Permitted_any q v (okG_of H0.out (List.mem_of_getElem? hq)) (okU_of H1.out (List.mem_of_getElem? HVV.out)) y
                have HLS := Lib.hid (show leftStep l (some R) ((j : Int), v) = if perB q v = true ∧ x ≠ 0 then some (R.set j (x - 1)) else none by
                  unfold leftStep
                  simp only [Option.bind_some, Int.toNat_natCast]
                  rw [show l.getD j g0 = q by rw [List.getD_eq_getElem?_getD, hq]; rfl, show R.getD j 0 = x by rw [List.getD_eq_getElem?_getD, hx]; rfl]
                  by_cases h : perB q v = true ∧ x ≠ 0
                  · rw [if_pos h, if_pos ⟨j0, hja, h⟩]
                  · rw [if_neg h, if_neg (fun h' => h ⟨h'.2.2.1, h'.2.2.2⟩)])
                obtain ⟨pb, hpb⟩ : ∃ pb, perB q v = pb := ⟨_, rfl⟩
                rw [hpb] at hpm HLS
                have HPM := Lib.hid hpm
                have hx100 : x ≤ 100 := HR9.out x (List.mem_of_getElem? hx)
                obtain ⟨gl, cl, hvl, hBl, hgl, z0, f0, hset⟩ := HS.out.left hx
                obtain ⟨rfl, rfl⟩ : A4 = some ⟨gl, 0, none⟩ ∧ c4 = cl := by injection hvl with e1 e2 e3; exact ⟨e1, e3⟩
                obtain ⟨bg, og, rfl, hbg, hcg⟩ := recs_at (HR.out.below HS.out.b) j hja
                obtain ⟨bu, ou, rfl, hbu, hcu⟩ := recs_at (HU.out.below HS.out.b) i hiU
                have x0 : wr.cell? ⟨bg, og + j * 6, none⟩ = some (.int .i64 q.item) := hcg j q HQ.out 0 _ rfl
                have x1 : wr.cell? ⟨bg, og + j * 6 + 1, none⟩ = some (.int .i64 q.acts) := hcg j q HQ.out 1 _ rfl
                have x2 : wr.cell? ⟨bg, og + j * 6 + 2, none⟩ = some (.int .i64 q.regions) := hcg j q HQ.out 2 _ rfl
                have x3 : wr.cell? ⟨bg, og + j * 6 + 3, none⟩ = some (.int .i64 q.plays) := hcg j q HQ.out 3 _ rfl
                have x4 : wr.cell? ⟨bg, og + j * 6 + 4, none⟩ = some (.int .i64 q.fr) := hcg j q HQ.out 4 _ rfl
                have x5 : wr.cell? ⟨bg, og + j * 6 + 5, none⟩ = some (.int .i64 q.tw) := hcg j q HQ.out 5 _ rfl
                have y0 : wr.cell? ⟨bu, ou + i * 4, none⟩ = some (.int .i64 v.item) := hcu i v HVV.out 0 _ rfl
                have y1 : wr.cell? ⟨bu, ou + i * 4 + 1, none⟩ = some (.int .i64 v.acts) := hcu i v HVV.out 1 _ rfl
                have y2 : wr.cell? ⟨bu, ou + i * 4 + 2, none⟩ = some (.int .i64 v.region) := hcu i v HVV.out 2 _ rfl
                have y3 : wr.cell? ⟨bu, ou + i * 4 + 3, none⟩ = some (.int .i64 v.at_) := hcu i v HVV.out 3 _ rfl
                have g1 : bg < wr.heap.size := by omega
                have g2 : bu < wr.heap.size := by omega
                have HSK : Hid (∀ y, Below wr.heap.size wr y → Below wr.heap.size wr y ∧ y.cell? ⟨gl, j, none⟩ = some (.int .i64 (x : Int)) ∧ y.cell? ⟨bg, og + j * 6, none⟩ = some (.int .i64 q.item) ∧ y.cell? ⟨bg, og + j * 6 + 1, none⟩ = some (.int .i64 q.acts) ∧ y.cell? ⟨bg, og + j * 6 + 2, none⟩ = some (.int .i64 q.regions) ∧ y.cell? ⟨bg, og + j * 6 + 3, none⟩ = some (.int .i64 q.plays) ∧ y.cell? ⟨bg, og + j * 6 + 4, none⟩ = some (.int .i64 q.fr) ∧ y.cell? ⟨bg, og + j * 6 + 5, none⟩ = some (.int .i64 q.tw) ∧ y.cell? ⟨bu, ou + i * 4, none⟩ = some (.int .i64 v.item) ∧ y.cell? ⟨bu, ou + i * 4 + 1, none⟩ = some (.int .i64 v.acts) ∧ y.cell? ⟨bu, ou + i * 4 + 2, none⟩ = some (.int .i64 v.region) ∧ y.cell? ⟨bu, ou + i * 4 + 3, none⟩ = some (.int .i64 v.at_)) := Lib.hid (fun y hy => ⟨hy, (hy.cell (p := ⟨gl, j, none⟩) (by exact hgl)).trans z0, (hy.cell (p := ⟨bg, og + j * 6, none⟩) (by exact g1)).trans x0, (hy.cell (p := ⟨bg, og + j * 6 + 1, none⟩) (by exact g1)).trans x1, (hy.cell (p := ⟨bg, og + j * 6 + 2, none⟩) (by exact g1)).trans x2, (hy.cell (p := ⟨bg, og + j * 6 + 3, none⟩) (by exact g1)).trans x3, (hy.cell (p := ⟨bg, og + j * 6 + 4, none⟩) (by exact g1)).trans x4, (hy.cell (p := ⟨bg, og + j * 6 + 5, none⟩) (by exact g1)).trans x5, (hy.cell (p := ⟨bu, ou + i * 4, none⟩) (by exact g2)).trans y0, (hy.cell (p := ⟨bu, ou + i * 4 + 1, none⟩) (by exact g2)).trans y1, (hy.cell (p := ⟨bu, ou + i * 4 + 2, none⟩) (by exact g2)).trans y2, (hy.cell (p := ⟨bu, ou + i * 4 + 3, none⟩) (by exact g2)).trans y3⟩)
                clear hset hvl hpm hpb hcg hcu hq hx
                cases pb with
                | false =>
                  have HE := Lib.hid (HFL.out (by rw [HLS.out, if_neg (fun h => by cases h.1)]))
                  go_upto_region 10 with fail
                  refine wp_region_noPanic ?_
                  refine wp_region_held_drew (S := (fun y => Below wr.heap.size wr y ∧ y.cell? ⟨gl, j, none⟩ = some (.int .i64 (x : Int)) ∧ y.cell? ⟨bg, og + j * 6, none⟩ = some (.int .i64 q.item) ∧ y.cell? ⟨bg, og + j * 6 + 1, none⟩ = some (.int .i64 q.acts) ∧ y.cell? ⟨bg, og + j * 6 + 2, none⟩ = some (.int .i64 q.regions) ∧ y.cell? ⟨bg, og + j * 6 + 3, none⟩ = some (.int .i64 q.plays) ∧ y.cell? ⟨bg, og + j * 6 + 4, none⟩ = some (.int .i64 q.fr) ∧ y.cell? ⟨bg, og + j * 6 + 5, none⟩ = some (.int .i64 q.tw) ∧ y.cell? ⟨bu, ou + i * 4, none⟩ = some (.int .i64 v.item) ∧ y.cell? ⟨bu, ou + i * 4 + 1, none⟩ = some (.int .i64 v.acts) ∧ y.cell? ⟨bu, ou + i * 4 + 2, none⟩ = some (.int .i64 v.region) ∧ y.cell? ⟨bu, ou + i * 4 + 3, none⟩ = some (.int .i64 v.at_))) (by kernel_rfl) ?_ (fun hHeld => ?_)
                  · exact HSK.out _ (Below.refl _ _).drew
                  refine wpAnyH_take (i := 0) (oi := _) (v := ?_) rfl (by kernel_rfl) (by kernel_rfl) (by kernel_rfl) (fun _ _ _ h => h) (Or.inl ⟨by rfl, ?_⟩) (by assumption) ?_
                  rotate_left
                  · (intro w hSw; (try dsimp only at hSw); go_simp; all_goals (with_reducible rfl))
                  simp only [Act.put, List.getElem_toArray, List.getElem_cons_zero, List.setIfInBounds_toArray, List.set_cons_zero, List.set_cons_succ]
                  refine wpAnyH_take (i := 1) (oi := _) (v := ?_) rfl (by kernel_rfl) (by kernel_rfl) (by kernel_rfl) (fun _ _ _ h => h) (Or.inl ⟨by rfl, ?_⟩) (by assumption) ?_
                  rotate_left
                  · (intro w hSw; (try dsimp only at hSw); go_simp; all_goals (with_reducible rfl))
                  simp only [Act.put, List.getElem_toArray, List.getElem_cons_succ, List.getElem_cons_zero, List.setIfInBounds_toArray, List.set_cons_zero, List.set_cons_succ]
                  refine wpAnyH_take (i := 2) (oi := _) (v := ?_) rfl (by kernel_rfl) (by kernel_rfl) (by kernel_rfl) (fun _ _ _ h => h) (Or.inl ⟨by rfl, ?_⟩) (by assumption) ?_
                  rotate_left
                  · (intro w hSw; (try dsimp only at hSw); go_simp; all_goals (with_reducible rfl))
                  simp only [Act.put, List.getElem_toArray, List.getElem_cons_succ, List.getElem_cons_zero, List.setIfInBounds_toArray, List.set_cons_zero, List.set_cons_succ]
                  refine wpAnyH_take (i := 3) (oi := _) (v := ?_) rfl (by kernel_rfl) (by kernel_rfl) (by kernel_rfl) (fun _ _ _ h => h) (Or.inl ⟨by rfl, ?_⟩) (by assumption) ?_
                  rotate_left
                  · (intro w hSw; (try dsimp only at hSw); go_simp; all_goals (with_reducible rfl))
                  simp only [Act.put, List.getElem_toArray, List.getElem_cons_succ, List.getElem_cons_zero, List.setIfInBounds_toArray, List.set_cons_zero, List.set_cons_succ]
                  refine wpAnyH_take (i := 4) (oi := _) (v := ?_) rfl (by kernel_rfl) (by kernel_rfl) (by kernel_rfl) (fun _ _ _ h => h) (Or.inl ⟨by rfl, ?_⟩) (by assumption) ?_
                  rotate_left
                  · (intro w hSw; (try dsimp only at hSw); go_simp; all_goals (with_reducible rfl))
                  simp only [Act.put, List.getElem_toArray, List.getElem_cons_succ, List.getElem_cons_zero, List.setIfInBounds_toArray, List.set_cons_zero, List.set_cons_succ]
                  refine wpAnyH_take (i := 5) (oi := _) (v := ?_) rfl (by kernel_rfl) (by kernel_rfl) (by kernel_rfl) (fun _ _ _ h => h) (Or.inl ⟨by rfl, ?_⟩) (by assumption) ?_
                  rotate_left
                  · (intro w hSw; (try dsimp only at hSw); go_simp; all_goals (with_reducible rfl))
                  simp only [Act.put, List.getElem_toArray, List.getElem_cons_succ, List.getElem_cons_zero, List.setIfInBounds_toArray, List.set_cons_zero, List.set_cons_succ]
                  refine wpAnyH_take (i := 6) (oi := _) (v := ?_) rfl (by kernel_rfl) (by kernel_rfl) (by kernel_rfl) (fun _ _ _ h => h) (Or.inl ⟨by rfl, ?_⟩) (by assumption) ?_
                  rotate_left
                  · (intro w hSw; (try dsimp only at hSw); go_simp; all_goals (with_reducible rfl))
                  simp only [Act.put, List.getElem_toArray, List.getElem_cons_succ, List.getElem_cons_zero, List.setIfInBounds_toArray, List.set_cons_zero, List.set_cons_succ]
                  refine wpAnyH_take (i := 7) (oi := _) (v := ?_) rfl (by kernel_rfl) (by kernel_rfl) (by kernel_rfl) (fun _ _ _ h => h) (Or.inl ⟨by rfl, ?_⟩) (by assumption) ?_
                  rotate_left
                  · (intro w hSw; (try dsimp only at hSw); go_simp; all_goals (with_reducible rfl))
                  simp only [Act.put, List.getElem_toArray, List.getElem_cons_succ, List.getElem_cons_zero, List.setIfInBounds_toArray, List.set_cons_zero, List.set_cons_succ]
                  refine wpAnyH_ready (rs := [8]) (by kernel_rfl) (by simp) ?_
                  refine AllReadyH.cons (o := _) rfl (fun K hK => ?_) ?_
                  · go_simp
                    (go_at_call 39; ((with_reducible refine Calls.mono (HPM.out _) ?_); rintro r u9 ⟨rfl, b5⟩))
                    refine hK.out _ _ ?_ (fun hHeld => ?_)
                    · (try dsimp only)
                      exact HSK.out _ (below_to hHeld.1 b5)
                    clear hK K
                    (try simp only [Act.put, List.setIfInBounds_toArray, List.set_cons_zero, List.set_cons_succ])
                    refine wpAnyH_take (i := 9) (oi := _) (v := ?_) rfl (by kernel_rfl) (by kernel_rfl) (by kernel_rfl) (fun _ _ _ h => h) (Or.inl ⟨by rfl, ?_⟩) (by assumption) ?_
                    rotate_left
                    · (intro w hSw; (try dsimp only at hSw); go_simp; all_goals (with_reducible rfl))
                    simp only [Act.put, List.getElem_toArray, List.getElem_cons_succ, List.getElem_cons_zero, List.setIfInBounds_toArray, List.set_cons_zero, List.set_cons_succ]
                    refine wpAnyH_take (i := 10) (oi := _) (v := ?_) rfl (by kernel_rfl) (by kernel_rfl) (by kernel_rfl) (fun _ _ _ h => h) (Or.inl ⟨by rfl, ?_⟩) (by assumption) ?_
                    rotate_left
                    · (intro w hSw; (try dsimp only at hSw); go_simp; all_goals (with_reducible rfl))
                    simp only [Act.put, List.getElem_toArray, List.getElem_cons_succ, List.getElem_cons_zero, List.setIfInBounds_toArray, List.set_cons_zero, List.set_cons_succ]
                    refine wpAnyH_take (i := 11) (oi := _) (v := undef) rfl (by kernel_rfl) (by kernel_rfl) (by kernel_rfl) (fun _ _ _ h => h) (Or.inr ⟨by rfl, rfl⟩) (by assumption) ?_
                    simp only [Act.put, List.getElem_toArray, List.getElem_cons_succ, List.getElem_cons_zero, List.setIfInBounds_toArray, List.set_cons_zero, List.set_cons_succ]
                    refine wpAnyH_take (i := 12) (oi := _) (v := undef) rfl (by kernel_rfl) (by kernel_rfl) (by kernel_rfl) (fun _ _ _ h => h) (Or.inr ⟨by rfl, rfl⟩) (by assumption) ?_
                    simp only [Act.put, List.getElem_toArray, List.getElem_cons_succ, List.getElem_cons_zero, List.setIfInBounds_toArray, List.set_cons_zero, List.set_cons_succ]
                    refine wpAnyH_take (i := 13) (oi := _) (v := undef) rfl (by kernel_rfl) (by kernel_rfl) (by kernel_rfl) (fun _ _ _ h => h) (Or.inr ⟨by rfl, rfl⟩) (by assumption) ?_
                    simp only [Act.put, List.getElem_toArray, List.getElem_cons_succ, List.getElem_cons_zero, List.setIfInBounds_toArray, List.set_cons_zero, List.set_cons_succ]
                    refine wpAnyH_take (i := 14) (oi := _) (v := undef) rfl (by kernel_rfl) (by kernel_rfl) (by kernel_rfl) (fun _ _ _ h => h) (Or.inr ⟨by rfl, rfl⟩) (by assumption) ?_
                    simp only [Act.put, List.getElem_toArray, List.getElem_cons_succ, List.getElem_cons_zero, List.setIfInBounds_toArray, List.set_cons_zero, List.set_cons_succ]
                    refine wpAnyH_take (i := 15) (oi := _) (v := undef) rfl (by kernel_rfl) (by kernel_rfl) (by kernel_rfl) (fun _ _ _ h => h) (Or.inr ⟨by rfl, rfl⟩) (by assumption) ?_
                    simp only [Act.put, List.getElem_toArray, List.getElem_cons_succ, List.getElem_cons_zero, List.setIfInBounds_toArray, List.set_cons_zero, List.set_cons_succ]
                    refine wpAnyH_take (i := 16) (oi := _) (v := ?_) rfl (by kernel_rfl) (by kernel_rfl) (by kernel_rfl) (fun _ _ _ h => h) (Or.inl ⟨by rfl, ?_⟩) (by assumption) ?_
                    rotate_left
                    · (intro w hSw; (try dsimp only at hSw); go_simp; all_goals (with_reducible rfl))
                    simp only [Act.put, List.getElem_toArray, List.getElem_cons_succ, List.getElem_cons_zero, List.setIfInBounds_toArray, List.set_cons_zero, List.set_cons_succ]
                    refine wpAnyH_done (by kernel_rfl) ?_ _
                    refine NoPanic.normal ?_
                    have HX := Lib.hid (HS.out.next hHeld.1).b
                    go_wp2_with fail
                    go_ret
                    exact ⟨_, _, _, rfl, by rw [HE.out]; exact recs_nil _ _ _ _, HX.out⟩
                  exact AllReadyH.nil
                | true =>
                  by_cases hx0 : x = 0
                  · have HE := Lib.hid (HFL.out (by rw [HLS.out, if_neg (fun h => h.2 hx0)]))
                    have ex : ((x : Int) == 0) = true := by rw [hx0]; rfl
                    have exn : (x == 0) = true := by rw [hx0]; rfl
                    clear hx0
                    go_upto_region 10 with fail
                    go_region_held3 (fun y => Below wr.heap.size wr y ∧ y.cell? ⟨gl, j, none⟩ = some (.int .i64 (x : Int)) ∧ y.cell? ⟨bg, og + j * 6, none⟩ = some (.int .i64 q.item) ∧ y.cell? ⟨bg, og + j * 6 + 1, none⟩ = some (.int .i64 q.acts) ∧ y.cell? ⟨bg, og + j * 6 + 2, none⟩ = some (.int .i64 q.regions) ∧ y.cell? ⟨bg, og + j * 6 + 3, none⟩ = some (.int .i64 q.plays) ∧ y.cell? ⟨bg, og + j * 6 + 4, none⟩ = some (.int .i64 q.fr) ∧ y.cell? ⟨bg, og + j * 6 + 5, none⟩ = some (.int .i64 q.tw) ∧ y.cell? ⟨bu, ou + i * 4, none⟩ = some (.int .i64 v.item) ∧ y.cell? ⟨bu, ou + i * 4 + 1, none⟩ = some (.int .i64 v.acts) ∧ y.cell? ⟨bu, ou + i * 4 + 2, none⟩ = some (.int .i64 v.region) ∧ y.cell? ⟨bu, ou + i * 4 + 3, none⟩ = some (.int .i64 v.at_)) (first | assumption | (exact HSK.out _ (Below.refl _ _).drew)) (first | (go_at_call 39; ((with_reducible refine Calls.mono (HPM.out _) ?_); rintro r w5 ⟨rfl, hb5⟩; have hB5 := below_to (‹Below wr.heap.size wr _ ∧ _›).1 hb5; have hS5 := HSK.out _ hB5)))
                    have HX := Lib.hid (HS.out.next hB5).b
                    go_wp2
                    go_ret
                    exact ⟨_, _, _, rfl, by rw [HE.out]; exact recs_nil _ _ _ _, HX.out⟩
                  · have ex : ((x : Int) == 0) = false := by rw [beq_eq_false_iff_ne]; omega
                    have exn : (x == 0) = false := by rw [beq_eq_false_iff_ne]; exact hx0
                    have HNX := Lib.hid (HSN.out.trans (by rw [HLS.out, if_pos ⟨rfl, hx0⟩]) : _ = some (R.set j (x - 1)))
                    have hxp : 1 ≤ x := by omega
                    clear hx0
                    go_upto_region 10 with fail
                    go_region_held3 (fun y => Below wr.heap.size wr y ∧ y.cell? ⟨gl, j, none⟩ = some (.int .i64 (x : Int)) ∧ y.cell? ⟨bg, og + j * 6, none⟩ = some (.int .i64 q.item) ∧ y.cell? ⟨bg, og + j * 6 + 1, none⟩ = some (.int .i64 q.acts) ∧ y.cell? ⟨bg, og + j * 6 + 2, none⟩ = some (.int .i64 q.regions) ∧ y.cell? ⟨bg, og + j * 6 + 3, none⟩ = some (.int .i64 q.plays) ∧ y.cell? ⟨bg, og + j * 6 + 4, none⟩ = some (.int .i64 q.fr) ∧ y.cell? ⟨bg, og + j * 6 + 5, none⟩ = some (.int .i64 q.tw) ∧ y.cell? ⟨bu, ou + i * 4, none⟩ = some (.int .i64 v.item) ∧ y.cell? ⟨bu, ou + i * 4 + 1, none⟩ = some (.int .i64 v.acts) ∧ y.cell? ⟨bu, ou + i * 4 + 2, none⟩ = some (.int .i64 v.region) ∧ y.cell? ⟨bu, ou + i * 4 + 3, none⟩ = some (.int .i64 v.at_)) (first | assumption | (exact HSK.out _ (Below.refl _ _).drew)) (first | (go_at_call 39; ((with_reducible refine Calls.mono (HPM.out _) ?_); rintro r w5 ⟨rfl, hb5⟩; have hB5 := below_to (‹Below wr.heap.size wr _ ∧ _›).1 hb5; have hS5 := HSK.out _ hB5)))
                    have HS5 := Lib.hid (HS.out.next hB5)
                    clear x0 x1 x2 x3 x4 x5 y0 y1 y2 y3 z0 f0 hS5 hb5 hB5 HSK HPM g1 g2 lw hgl a0 ga1
                    obtain ⟨g', c', hv', hB', hg5, z5, f5, hset⟩ := HS5.out.left HXX.out
                    obtain ⟨rfl, rfl⟩ : gl = g' ∧ c4 = c' := by injection hv' with e1 e2 e3; injection e1 with e1; injection e1 with e1; exact ⟨e1, e3⟩
                    have HSX := Lib.hid (show AsR w l.length (R.set j (x - 1)) (.slice (some ⟨gl, 0, none⟩) l.length c4) [] (.slice none 0 0) (w5.setCell ⟨gl, j, none⟩ (.int .i64 ((x : Int) - 1))) by
                      have h := hset (x - 1)
                      rw [show ((x - 1 : Nat) : Int) = (x : Int) - 1 by omega] at h; exact h)
                    have HB9 := Lib.hid (show ∀ y ∈ R.set j (x - 1), y ≤ 100 from fun y hy => by
                      rcases List.mem_or_eq_of_mem_set hy with h | h
                      · exact HR9.out y h
                      · omega)
                    clear hset hv'
                    go_wp2
                    go_roundw
                    case rel => exact ⟨i + 1, by go_num, by omega, Lib.hid ⟨_, HNX.out, HB9.out, HSX.out⟩⟩
                    case measure => simp [intOf]; omega
              · have jg : (n : Int) ≤ (j : Int) := by omega
                have jgn : decide ((n : Int) ≤ (j : Int)) = true := decide_eq_true jg
                have jgnn : decide (n ≤ j) = true := decide_eq_true (by omega)
                have HE := Lib.hid (HFL.out (by unfold leftStep; simp only [Option.bind_some, Int.toNat_natCast]; rw [if_neg (fun h => by have := h.2.1; have := HN.out; omega)]))
                go_wp2
                go_ret
                exact ⟨_, _, _, rfl, by rw [HE.out]; exact recs_nil _ _ _ _, HS.out.b⟩
          · have i1 : ¬ (i : Int) < (n2 : Int) := by omega
            have HE := Lib.hid (show leftV l U a = R by
              rw [HLV.out]
              have h1 := HST.out
              rw [List.take_of_length_le (by rw [List.length_zip]; have := HN2.out; omega)] at h1
              unfold leftO; rw [h1]; rfl)
            go_wp2
            go_ret
            exact ⟨_, _, _, rfl, by rw [HE.out]; exact HS.out.recs, HS.out.b⟩
      · have e3 : ((n3 : Int) != (n2 : Int)) = true := by rw [bne_iff_ne]; omega
        have HE := Lib.hid (show leftV l U a = [] by unfold leftV; rw [H0.out, H1.out, decide_eq_false (by have := HN2.out; have := HN3.out; omega)]; rfl)
        clear h3
        go_enter Try.func27, Try.ntmps27
        go_wp2_with (first | (go_at_call 14; (with_reducible refine Calls.mono HG.out ?_); rintro r u1 ⟨rfl, hb⟩; have B1 := Lib.hid hb; clear hb) | (go_at_call 16; (with_reducible refine Calls.mono (HV.out _ B1.out) ?_); rintro r u2 ⟨rfl, hb⟩; have B2 := Lib.hid (below_to B1.out hb); clear hb))
        go_ret
        exact ⟨_, _, _, rfl, by rw [HE.out]; exact recs_nil _ _ _ _, B2.out⟩
end Go.Proofs.Ytenojfniknjeiaa
