/- The reference: Assign. -/
import Derived.Test.YtenojfniknjeiaaRe
import Derived.Deep.RegionHeld3
namespace Go.Proofs.Ytenojfniknjeiaa
open Go.RowKit Go.Shelf
attribute [local go_sem ↓] append_appN

set_option maxRecDepth 100000 in
set_option maxHeartbeats 16000000 in
theorem rAssign_any (l : List Gr) (U : List Us) (A A2 : Option Addr) (n c n2 c2 : Nat) (w : World) (hr : Recs encG 6 w w.heap.size (.slice A n c) l) (hu : Recs encU 4 w w.heap.size (.slice A2 n2 c2) U) :
    Calls Try.prog 22 #[.slice A n c, .slice A2 n2 c2] w (AssignPost w l U) := by
  obtain ⟨hn, -, -⟩ := recs_cap hr
  obtain ⟨hn2, hc1, hc2⟩ := recs_cap hu
  have HR := Lib.hid hr
  have HU := Lib.hid hu
  have HN := Lib.hid hn
  have HN2 := Lib.hid hn2
  have HG := Lib.hid (rvalid_any l A n c w hr)
  have HV := Lib.hid (fun u (h : Below w.heap.size w u) => rvaliduses_any U A2 n2 c2 u (HU.out.next h))
  obtain ⟨b0, hb0⟩ : ∃ b, validG l = b := ⟨_, rfl⟩
  obtain ⟨b1, hb1⟩ : ∃ b, validU U = b := ⟨_, rfl⟩
  rw [hb0] at HG
  rw [hb1] at HV
  have H0 := Lib.hid hb0
  have H1 := Lib.hid hb1
  clear hr hu hn hn2 hc1 hc2 hb0 hb1
  cases b0 with
  | false =>
    go_enter Try.func22, Try.ntmps22
    go_wp2_with (go_at_call 14; (with_reducible refine Calls.mono HG.out ?_); rintro r u1 ⟨rfl, hb⟩; have B1 := Lib.hid hb; clear hb)
    refine bodyPost_ret (results_tmp2 rfl _ _ _) rfl ?_
    exact ⟨_, _, rfl, B1.out, .inl ⟨rfl, rfl, .inl fun h => by rw [H0.out] at h; exact absurd h.1 (by decide)⟩⟩
  | true =>
    cases b1 with
    | false =>
      go_enter Try.func22, Try.ntmps22
      go_wp2_with (first | (go_at_call 14; (with_reducible refine Calls.mono HG.out ?_); rintro r u1 ⟨rfl, hb⟩; have B1 := Lib.hid hb; clear hb) | (go_at_call 16; (with_reducible refine Calls.mono (HV.out _ B1.out) ?_); rintro r u2 ⟨rfl, hb⟩; have B2 := Lib.hid (below_to B1.out hb); clear hb))
      refine bodyPost_ret (results_tmp2 rfl _ _ _) rfl ?_
      exact ⟨_, _, rfl, B2.out, .inl ⟨rfl, rfl, .inl fun h => by rw [H1.out] at h; exact absurd h.2 (by decide)⟩⟩
    | true =>
      have h12 : n ≤ 12 := by rw [HN.out]; exact validG_len H0.out
      have h10 : n2 ≤ 10 := by rw [HN2.out]; exact validU_len H1.out
      have HPY := Lib.hid (fun u (h : Below w.heap.size w u) => plays_any l H0.out A n c u (HR.out.next h))
      have HEN := Lib.hid (fun (P : List Nat) (V : List Us) (hV : validU V = true) (hP : P.length = l.length) (hP100 : ∀ x ∈ P, x ≤ 100) A2' A3' n2' c2' n3' c3' u (h : Below w.heap.size w u) (h2 : Recs enc1 1 u u.heap.size (.slice A2' n2' c2') (zi P)) (h3 : Recs encU 4 u u.heap.size (.slice A3' n3' c3') V) => enough_any l P V H0.out hV hP hP100 A A2' A3' n c n2' c2' n3' c3' u (HR.out.next h) h2 h3)
      obtain ⟨eb, heb⟩ : ∃ eb, enB l (plN l) U (2 ^ U.length) = eb := ⟨_, rfl⟩
      have HEB := Lib.hid (enB_iff H0.out H1.out (plN_length l))
      rw [heb] at HEB
      have HEQ := Lib.hid heb
      clear heb
      go_enter Try.func22, Try.ntmps22
      go_upto_region 4 with (first | (go_at_call 14; (with_reducible refine Calls.mono HG.out ?_); rintro r u1 ⟨rfl, hb⟩; have B1 := Lib.hid hb; clear hb) | (go_at_call 16; (with_reducible refine Calls.mono (HV.out _ B1.out) ?_); rintro r u2 ⟨rfl, hb⟩; have B2 := Lib.hid (below_to B1.out hb); clear hb) | (go_at_call 37; (with_reducible refine Calls.mono (HPY.out _ B2.out) ?_); rintro r u3 ⟨A3, c3, rfl, ho, hb⟩; have B3 := Lib.hid (below_to B2.out hb); have HO := Lib.hid ho; clear hb ho))
      have HEN0 := Lib.hid (HEN.out (plN l) U H1.out (plN_length l) (plN_le H0.out) A3 A2 l.length c3 n2 c2 u3 B3.out (ints_own HO.out (by rw [zi_len])) (HU.out.next B3.out))
      rw [HEQ.out] at HEN0
      cases eb with
      | false =>
        go_wp2_with (go_at_call 38; (with_reducible refine Calls.mono HEN0.out ?_); rintro r u4 ⟨rfl, hb⟩; have B4 := Lib.hid (below_to B3.out hb); clear hb)
        refine bodyPost_ret (results_tmp2 rfl _ _ _) rfl ?_
        exact ⟨_, _, rfl, B4.out, .inl ⟨rfl, rfl, .inr fun hc => by have := HEB.out.2 hc; cases this⟩⟩
      | true =>
        have HCAN := Lib.hid (HEB.out.1 rfl)
        go_upto_region 6 with (go_at_call 38; (with_reducible refine Calls.mono HEN0.out ?_); rintro r u4 ⟨rfl, hb⟩; have B4 := Lib.hid (below_to B3.out hb); have HO := Lib.hid (own_below HO.out hb); clear hb)
        have HS0 := Lib.hid (show AsR w l.length (restN l []) (.slice A3 l.length c3) [] (.slice none 0 0) u4 from ⟨by
          rw [restN_nil]
          have h := own_lower (show u4.ownsRow u2.heap.size 3 1 (.slice A3 l.length c3) (plN l).length (iv1 (zi (plN l))) from HO.out) B2.out.size
          rwa [plN_length] at h, World.ownsRow_nil _ _ _ _, B4.out, restN_len l [], fun q e => by cases e⟩)
        have HA0 := Lib.hid (AsN.nil HCAN.out)
        have hnl : (l.length : Int) = (n : Int) := by rw [HN.out]
        have HNL := Lib.hid hnl
        clear hnl HEN0 HO
        go_wp2
        go_loopw [7, 8, 9] (fun o z _ wr => ∃ L : List Nat, z = .int .i64 (L.length : Int) ∧ L.length ≤ n2 ∧ Hid (AsN l U L) ∧ Hid (AsR w l.length (restN l L) (.slice A3 l.length c3) L o wr)) (fun _ z _ _ => n2 - (intOf z).toNat)
        case atStart => exact ⟨[], rfl, Nat.zero_le _, HA0, HS0⟩
        case round =>
          clear HS0 HA0
          obtain ⟨L, rfl, hLn, HA, HS⟩ := hrel
          have i0 : (0 : Int) ≤ (L.length : Int) := by omega
          obtain ⟨Ao, co, rfl, -⟩ := own_slice HS.out.oo
          have e8 : IntKind.i64.wrap ((L.length : Int) + 1) = (L.length : Int) + 1 := IntWalk.i64_in _ (by omega)
          by_cases hil : L.length < n2
          · have i1 : (L.length : Int) < (n2 : Int) := by omega
            have hiU : L.length < U.length := by have := HN2.out; omega
            go_wp2
            go_loopw [7, 9] (fun o z wi => ∃ k : Nat, z = .int .i64 (k : Int) ∧ k ≤ n ∧ Hid ((NotY l U L k ∧ AsR w l.length (restN l L) (.slice A3 l.length c3) L o wi) ∨ ∃ g, AsN l U (L ++ [g]) ∧ AsR w l.length (restN l (L ++ [g])) (.slice A3 l.length c3) (L ++ [g]) o wi)) (fun _ z _ => n - (intOf z).toNat)
            case atStart => exact ⟨0, rfl, Nat.zero_le _, Lib.hid (.inl ⟨fun g h => absurd h (Nat.not_lt_zero _), HS.out⟩)⟩
            case round =>
              clear HS
              obtain ⟨k, rfl, hk, HX⟩ := hrel
              have k0 : (0 : Int) ≤ (k : Int) := by omega
              have e7 : IntKind.i64.wrap ((k : Int) + 1) = (k : Int) + 1 := IntWalk.i64_in _ (by omega)
              rcases HX.out with ⟨hny, hs⟩ | ⟨g, han, hs⟩
              · have HNY := Lib.hid hny
                have HS := Lib.hid hs
                obtain ⟨Ao, co, rfl, -⟩ := own_slice hs.oo
                clear HX hny hs
                by_cases hkl : k < n
                · have k1 : (k : Int) < (n : Int) := by omega
                  have hka : k < l.length := by have := HN.out; omega
                  have k2 : (k : Int) < (l.length : Int) := by omega
                  obtain ⟨x, hx, -⟩ := restN_get (a := L) hka
                  have HXX := Lib.hid hx
                  obtain ⟨q, hq⟩ : ∃ q, l[k]? = some q := ⟨_, List.getElem?_eq_getElem hka⟩
                  obtain ⟨v, hv⟩ : ∃ v, U[L.length]? = some v := ⟨_, List.getElem?_eq_getElem hiU⟩
                  have hpm := fun y => Permitted_any q v (okG_of H0.out (List.mem_of_getElem? hq)) (okU_of H1.out (List.mem_of_getElem? hv)) y
                  have HMC := Lib.hid (mem_ch H0.out H1.out hiU hka)
                  rw [show l.getD k g0 = q by rw [List.getD_eq_getElem?_getD, hq]; rfl, show U.getD L.length u0 = v by rw [List.getD_eq_getElem?_getD, hv]; rfl] at HMC
                  obtain ⟨pb, hpb⟩ : ∃ pb, perB q v = pb := ⟨_, rfl⟩
                  rw [hpb] at hpm HMC
                  have HPM := Lib.hid hpm
                  obtain ⟨gl, cl, hvl, hBl, hgl, z0, f0, hset⟩ := HS.out.left hx
                  obtain ⟨rfl, rfl⟩ : A3 = some ⟨gl, 0, none⟩ ∧ c3 = cl := by injection hvl with e1 e2 e3; exact ⟨e1, e3⟩
                  obtain ⟨bg, og, rfl, hbg, hcg⟩ := recs_at (HR.out.below HS.out.b) k hka
                  obtain ⟨bu, ou, rfl, hbu, hcu⟩ := recs_at (HU.out.below HS.out.b) L.length hiU
                  have lw := HS.out.b.size
                  have hx100 : x ≤ 100 := restN_le H0.out L x (List.mem_of_getElem? hx)
                  have x0 : wr.cell? ⟨bg, og + k * 6, none⟩ = some (.int .i64 q.item) := hcg k q hq 0 _ rfl
                  have x1 : wr.cell? ⟨bg, og + k * 6 + 1, none⟩ = some (.int .i64 q.acts) := hcg k q hq 1 _ rfl
                  have x2 : wr.cell? ⟨bg, og + k * 6 + 2, none⟩ = some (.int .i64 q.regions) := hcg k q hq 2 _ rfl
                  have x3 : wr.cell? ⟨bg, og + k * 6 + 3, none⟩ = some (.int .i64 q.plays) := hcg k q hq 3 _ rfl
                  have x4 : wr.cell? ⟨bg, og + k * 6 + 4, none⟩ = some (.int .i64 q.fr) := hcg k q hq 4 _ rfl
                  have x5 : wr.cell? ⟨bg, og + k * 6 + 5, none⟩ = some (.int .i64 q.tw) := hcg k q hq 5 _ rfl
                  have y0 : wr.cell? ⟨bu, ou + L.length * 4, none⟩ = some (.int .i64 v.item) := hcu L.length v hv 0 _ rfl
                  have y1 : wr.cell? ⟨bu, ou + L.length * 4 + 1, none⟩ = some (.int .i64 v.acts) := hcu L.length v hv 1 _ rfl
                  have y2 : wr.cell? ⟨bu, ou + L.length * 4 + 2, none⟩ = some (.int .i64 v.region) := hcu L.length v hv 2 _ rfl
                  have y3 : wr.cell? ⟨bu, ou + L.length * 4 + 3, none⟩ = some (.int .i64 v.at_) := hcu L.length v hv 3 _ rfl
                  have g1 : bg < wr.heap.size := by omega
                  have g2 : bu < wr.heap.size := by omega
                  clear hset hvl hpm hpb hcg hcu hq hv hx
                  by_cases hx0 : x = 0
                  · subst hx0
                    have HNX := Lib.hid (HNY.out.next fun _ => no_left hiU hka HXX.out HA.out.cnt)
                    go_upto_region 13 with fail
                    go_quiet (fail)
                    all_goals (
                      go_wp2
                      go_roundw
                      case rel => exact ⟨k + 1, by go_num, by omega, Lib.hid (.inl ⟨HNX.out, HS.out.next (belowN (Below.refl _ _) _)⟩)⟩
                      case measure => simp [intOf]; omega)
                  · have ex : ((x : Int) == 0) = false := by rw [beq_eq_false_iff_ne]; omega
                    have exn : (x == 0) = false := by rw [beq_eq_false_iff_ne]; exact hx0
                    have HX0 := Lib.hid hx0
                    have hxp : 1 ≤ x := by omega
                    have HSK : Hid (∀ y, Below wr.heap.size wr y → Below wr.heap.size wr y ∧ y.cell? ⟨gl, k, none⟩ = some (.int .i64 (x : Int)) ∧ y.cell? ⟨bg, og + k * 6, none⟩ = some (.int .i64 q.item) ∧ y.cell? ⟨bg, og + k * 6 + 1, none⟩ = some (.int .i64 q.acts) ∧ y.cell? ⟨bg, og + k * 6 + 2, none⟩ = some (.int .i64 q.regions) ∧ y.cell? ⟨bg, og + k * 6 + 3, none⟩ = some (.int .i64 q.plays) ∧ y.cell? ⟨bg, og + k * 6 + 4, none⟩ = some (.int .i64 q.fr) ∧ y.cell? ⟨bg, og + k * 6 + 5, none⟩ = some (.int .i64 q.tw) ∧ y.cell? ⟨bu, ou + L.length * 4, none⟩ = some (.int .i64 v.item) ∧ y.cell? ⟨bu, ou + L.length * 4 + 1, none⟩ = some (.int .i64 v.acts) ∧ y.cell? ⟨bu, ou + L.length * 4 + 2, none⟩ = some (.int .i64 v.region) ∧ y.cell? ⟨bu, ou + L.length * 4 + 3, none⟩ = some (.int .i64 v.at_)) := Lib.hid (fun y hy => ⟨hy, (hy.cell (p := ⟨gl, k, none⟩) (by exact hgl)).trans z0, (hy.cell (p := ⟨bg, og + k * 6, none⟩) (by exact g1)).trans x0, (hy.cell (p := ⟨bg, og + k * 6 + 1, none⟩) (by exact g1)).trans x1, (hy.cell (p := ⟨bg, og + k * 6 + 2, none⟩) (by exact g1)).trans x2, (hy.cell (p := ⟨bg, og + k * 6 + 3, none⟩) (by exact g1)).trans x3, (hy.cell (p := ⟨bg, og + k * 6 + 4, none⟩) (by exact g1)).trans x4, (hy.cell (p := ⟨bg, og + k * 6 + 5, none⟩) (by exact g1)).trans x5, (hy.cell (p := ⟨bu, ou + L.length * 4, none⟩) (by exact g2)).trans y0, (hy.cell (p := ⟨bu, ou + L.length * 4 + 1, none⟩) (by exact g2)).trans y1, (hy.cell (p := ⟨bu, ou + L.length * 4 + 2, none⟩) (by exact g2)).trans y2, (hy.cell (p := ⟨bu, ou + L.length * 4 + 3, none⟩) (by exact g2)).trans y3⟩)
                    clear hx0
                    go_upto_region 13 with fail
                    go_region_held3 (fun y => Below wr.heap.size wr y ∧ y.cell? ⟨gl, k, none⟩ = some (.int .i64 (x : Int)) ∧ y.cell? ⟨bg, og + k * 6, none⟩ = some (.int .i64 q.item) ∧ y.cell? ⟨bg, og + k * 6 + 1, none⟩ = some (.int .i64 q.acts) ∧ y.cell? ⟨bg, og + k * 6 + 2, none⟩ = some (.int .i64 q.regions) ∧ y.cell? ⟨bg, og + k * 6 + 3, none⟩ = some (.int .i64 q.plays) ∧ y.cell? ⟨bg, og + k * 6 + 4, none⟩ = some (.int .i64 q.fr) ∧ y.cell? ⟨bg, og + k * 6 + 5, none⟩ = some (.int .i64 q.tw) ∧ y.cell? ⟨bu, ou + L.length * 4, none⟩ = some (.int .i64 v.item) ∧ y.cell? ⟨bu, ou + L.length * 4 + 1, none⟩ = some (.int .i64 v.acts) ∧ y.cell? ⟨bu, ou + L.length * 4 + 2, none⟩ = some (.int .i64 v.region) ∧ y.cell? ⟨bu, ou + L.length * 4 + 3, none⟩ = some (.int .i64 v.at_)) (first | assumption | (exact HSK.out _ (Below.refl _ _).drew)) (first | (go_at_call 39; ((with_reducible refine Calls.mono (HPM.out _) ?_); rintro r w5 ⟨rfl, hb5⟩; have hB5 := below_to (‹Below wr.heap.size wr _ ∧ _›).1 hb5; have hS5 := HSK.out _ hB5)))
                    have HS5 := Lib.hid (HS.out.next hB5)
                    clear x0 x1 x2 x3 x4 x5 y0 y1 y2 y3 z0 f0 hS5 hb5 hB5 HSK HPM g1 g2 lw hgl
                    cases pb with
                    | false =>
                      have HNX := Lib.hid (HNY.out.next fun hm => by have := HMC.out.1 hm; cases this)
                      go_wp2
                      go_roundw
                      case rel => exact ⟨k + 1, by go_num, by omega, Lib.hid (.inl ⟨HNX.out, HS5.out⟩)⟩
                      case measure => simp [intOf]; omega
                    | true =>
                      obtain ⟨g', c', hv', hB', hg5, z5, f5, hset⟩ := HS5.out.left HXX.out
                      obtain ⟨rfl, rfl⟩ : gl = g' ∧ c3 = c' := by injection hv' with e1 e2 e3; injection e1 with e1; injection e1 with e1; exact ⟨e1, e3⟩
                      have HST := Lib.hid (show AsR w l.length (restN l (L ++ [k])) (.slice (some ⟨gl, 0, none⟩) l.length c3) L (.slice Ao L.length co) (w5.setCell ⟨gl, k, none⟩ (.int .i64 ((x : Int) - 1))) by
                        have h := hset (x - 1)
                        rw [rest_one hka HXX.out, show ((x - 1 : Nat) : Int) = (x : Int) - 1 by omega] at h; exact h)
                      clear hset hv'
                      go_upto_region 15 with fail
                      obtain ⟨w6, hw6⟩ : ∃ w6, w5.setCell ⟨gl, k, none⟩ (.int .i64 ((x : Int) - 1)) = w6 := ⟨_, rfl⟩
                      rw [hw6] at HST ⊢
                      clear hw6 z5 f5 hg5
                      have HCN := Lib.hid (cnt_snoc hka HXX.out HX0.out HA.out.cnt)
                      have hvd : validU (U.drop (L.length + 1)) = true := by
                        have h := H1.out
                        unfold validU at h ⊢
                        rw [Bool.and_eq_true, decide_eq_true_eq, List.all_eq_true] at h ⊢
                        exact ⟨by rw [List.length_drop]; omega, fun q hq => h.2 q (List.mem_of_mem_drop hq)⟩
                      have HEI := Lib.hid (enB_iff (P := restN l (L ++ [k])) H0.out hvd (restN_len l _))
                      have HRC := Lib.hid (rest_can (l := l) (U := U) (L := L ++ [k]) (by rw [List.length_append]; simp; omega) HCN.out)
                      rw [show (L ++ [k]).length = L.length + 1 by simp] at HRC
                      have hn2 := HN2.out
                      obtain ⟨A9, hA9⟩ : ∃ A9, (if c2 = L.length + 1 then (some ⟨bu, ou, none⟩ : Option Addr) else (some ⟨bu, ou, none⟩ : Option Addr).map (·.add ((L.length + 1) * 4))) = A9 := ⟨_, rfl⟩
                      have hsl : ∀ w, Sem.run Try.prog (Instr.slice 23 (.slice (some ⟨bu, ou, none⟩) n2 c2) (some (.int .i64 ((L.length : Int) + 1))) none none) w = .ok (.slice A9 (n2 - (L.length + 1)) (c2 - (L.length + 1))) w := fun w => by rw [← hA9]; exact slice_from Try.underlying23 infoUse _ n2 c2 (L.length + 1) (by omega) w
                      have hrd := recs_from (HU.out.next HST.out.b) (L.length + 1) (by omega)
                      rw [hA9] at hrd
                      have hen := HEN.out (restN l (L ++ [k])) (U.drop (L.length + 1)) hvd (restN_len l _) (restN_le H0.out _) (some ⟨gl, 0, none⟩) A9 l.length c3 _ _ w6 HST.out.b HST.out.recs hrd
                      obtain ⟨eb, heb⟩ : ∃ eb, enB l (restN l (L ++ [k])) (U.drop (L.length + 1)) (2 ^ (U.drop (L.length + 1)).length) = eb := ⟨_, rfl⟩
                      rw [heb] at hen HEI
                      have HEN9 := Lib.hid hen
                      clear hen hrd hA9 hvd heb hn2
                      cases eb with
                      | true =>
                        have HAN := Lib.hid (HA.out.snoc hiU (HMC.out.2 rfl) (HRC.out.1 (HEI.out.1 rfl)) HNY.out)
                        go_upto_region 16 with (go_at_call 38; (with_reducible refine Calls.mono HEN9.out ?_); rintro r w7 ⟨rfl, hb⟩; have HS7 := Lib.hid (HST.out.next hb); clear hb)
                        obtain ⟨A8, c8, w8, hrun, hs8⟩ := HS7.out.push (by omega) k
                        have HS8 := Lib.hid hs8
                        clear hs8
                        go_wp2
                        go_roundw
                        case rel => exact ⟨k + 1, by go_num, by omega, Lib.hid (.inr ⟨k, HAN.out, HS8.out⟩)⟩
                        case measure => simp [intOf]; omega
                      | false =>
                        have HNX := Lib.hid (HNY.out.next fun _ hc => by have := HEI.out.2 (HRC.out.2 hc); cases this)
                        go_upto_region 17 with (go_at_call 38; (with_reducible refine Calls.mono HEN9.out ?_); rintro r w7 ⟨rfl, hb⟩; have HS7 := Lib.hid (HST.out.next hb); clear hb)
                        have hx7 : (restN l (L ++ [k]))[k]? = some (x - 1) := by rw [← rest_one hka HXX.out, List.getElem?_set_self (by rw [restN_len]; exact hka)]
                        obtain ⟨g', c', hv', hB', hg7, z7, f7, hset⟩ := HS7.out.left hx7
                        obtain ⟨rfl, rfl⟩ : gl = g' ∧ c3 = c' := by injection hv' with e1 e2 e3; injection e1 with e1; injection e1 with e1; exact ⟨e1, e3⟩
                        obtain ⟨x1, hx1⟩ : ∃ x1 : Nat, x - 1 = x1 := ⟨_, rfl⟩
                        have hxe : (x : Int) = (x1 : Int) + 1 := by omega
                        have HSB := Lib.hid (show AsR w l.length (restN l L) (.slice (some ⟨gl, 0, none⟩) l.length c3) L (.slice Ao L.length co) (w7.setCell ⟨gl, k, none⟩ (.int .i64 ((x1 : Int) + 1))) by
                          have h := hset x
                          rw [rest_back hka HXX.out HX0.out, hxe] at h; exact h)
                        rw [hx1] at z7
                        have hx19 : x1 ≤ 100 := by omega
                        clear hset hv' hx7 hxe hx1
                        go_wp2
                        go_roundw
                        case rel => exact ⟨k + 1, by go_num, by omega, Lib.hid (.inl ⟨HNX.out, HSB.out⟩)⟩
                        case measure => simp [intOf]; omega
                · have k1 : ¬ (k : Int) < (n : Int) := by omega
                  exact (HA.out.found hiU (by have h := HNY.out; rwa [show k = l.length by have := HN.out; omega] at h)).elim
              · have HAN := Lib.hid han
                have HS := Lib.hid hs
                obtain ⟨Ao, co, hoe, -⟩ := own_slice hs.oo
                rw [List.length_append, List.length_singleton] at hoe
                subst hoe
                have ee : ((L.length : Int) + 1 == (L.length : Int)) = false := by rw [beq_eq_false_iff_ne]; omega
                clear HX han hs
                by_cases hkl : k < n
                · have k1 : (k : Int) < (n : Int) := by omega
                  go_wp2
                  go_roundw
                  case rel => exact ⟨L ++ [g], by rw [List.length_append]; go_num, by rw [List.length_append]; simp; omega, HAN, HS⟩
                  case measure => simp [intOf]; omega
                · have k1 : ¬ (k : Int) < (n : Int) := by omega
                  go_wp2
                  go_roundw
                  case rel => exact ⟨L ++ [g], by rw [List.length_append]; go_num, by rw [List.length_append]; simp; omega, HAN, HS⟩
                  case measure => simp [intOf]; omega
          · have i1 : ¬ (L.length : Int) < (n2 : Int) := by omega
            have HF := Lib.hid (HA.out.first (by have := HN2.out; omega))
            go_wp2
            refine bodyPost_ret (results_tmp2 rfl _ _ _) rfl ?_
            exact ⟨_, _, rfl, HS.out.b, .inr ⟨rfl, H0.out, H1.out, L, HF.out, HS.out.oo⟩⟩
end Go.Proofs.Ytenojfniknjeiaa
