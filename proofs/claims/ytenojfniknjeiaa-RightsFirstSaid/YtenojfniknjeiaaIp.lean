/- RightsFirst. -/
import Derived.Test.YtenojfniknjeiaaIo
namespace Go.Proofs.Ytenojfniknjeiaa
open Go.RowKit Go.Shelf
attribute [local go_sem ↓] append_appN

theorem left_begin (L : List Gr) (U : List Us) (a : List Nat) (hl : validG L = true) (hv : validU U = true) (ha : IsAs (plN L) (chL L U) a) (n : Nat) (hn : n ≤ U.length) (A A2 A3 : Option Addr) (n1 c n2 c2 n3 c3 : Nat) (w : World) (hr : Recs encG 6 w w.heap.size (.slice A n1 c) L) (hu : Recs encU 4 w w.heap.size (.slice A2 n2 c2) U) (hz : Recs enc1 1 w w.heap.size (.slice A3 n3 c3) (zi a)) :
    Calls Try.prog 26 #[.slice A n1 c, .slice A2 n c2, .slice A3 n c3] w fun e w' => ∃ A' c', e = .returned (.slice A' L.length c') ∧ Recs enc1 1 w' w'.heap.size (.slice A' L.length c') (zi (restN L (a.take n))) ∧ Below w.heap.size w w' := by
  have hlen : a.length = U.length := by rw [ha.len, chL_len]
  have h3 := recs_pre hz n (by rw [zi_len]; omega)
  rw [show (zi a).take n = zi (a.take n) by simp [zi, List.map_take]] at h3
  refine (Left_any L (U.take n) (zi (a.take n)) A A2 A3 n1 c n c2 n c3 w hr (recs_pre hu n hn) h3).mono ?_
  rintro e w' ⟨A', n', c', rfl, h1, h2⟩
  rw [left_take hl hv ha hn] at h1
  have hn' : n' = L.length := by have := (recs_cap h1).1; rwa [zi_len, restN_len] at this
  subst hn'
  exact ⟨A', c', rfl, h1, h2⟩
theorem slice_post (t e : TypeId) {z : Value} {k by_ : Nat} (hu : Try.prog.underlying t = some (.slice e)) (hi : (Try.prog.info? e).map (fun i => (i.zero, i.size, i.bytes)) = some (some z, k, by_)) (g off n c d : Nat) (hd : d ≤ n) (hc : n ≤ c) :
    ∃ A : Option Addr, (d < c → A = some ⟨g, off + d * k, none⟩) ∧ (c ≤ d → A = some ⟨g, off, none⟩) ∧ ∀ w, Sem.run Try.prog (Instr.slice t (.slice (some ⟨g, off, none⟩) n c) (some (.int .i64 (d : Int))) none none) w = .ok (.slice A (n - d) (c - d)) w := by
  have he : Try.prog.elem t = e := by simp [Program.elem, hu]
  refine ⟨if c = d then some ⟨g, off, none⟩ else some ⟨g, off + d * k, none⟩, fun h => if_neg (by omega), fun h => if_pos (by omega), fun w => ?_⟩
  rw [run_slice_l w t _ n c (by rw [hu, he]) .i64 (d : Int) (by omega) (by omega), he]
  rw [size_run hi]
  simp only [Result.andThen, sliced, Int.toNat_natCast, Option.map_some, Addr.add_lit]
set_option maxRecDepth 100000 in
set_option maxHeartbeats 16000000 in
theorem first_true (v0 : Value) (xs : List I5) (v1 : Value) (ys : List I4) (x2 x3 : Int) (w : World) (hr0 : Recs enc5 5 w w.heap.size v0 xs) (hx : ∀ x ∈ xs, OkI5 x) (hr1 : Recs enc4 4 w w.heap.size v1 ys) (hy : ∀ y ∈ ys, OkI4 y) (h2 : -9223372036854775808 ≤ x2 ∧ x2 ≤ 9223372036854775807) (h3 : -9223372036854775808 ≤ x3 ∧ x3 ≤ 9223372036854775807) :
    Calls Try.prog 5 #[v0, v1, .int .i64 x2, .int .i64 x3] w fun e w' => e = .returned (.bool true) ∧ Below w.heap.size w w' := by
  obtain ⟨A0, c0, rfl, -⟩ := recs_form hr0
  obtain ⟨A1, c1, rfl, -⟩ := recs_form hr1
  have HM := Lib.hid (fun u (h : Below w.heap.size w u) => made_any xs hx A0 _ c0 u (hr0.next h))
  have HN := Lib.hid (fun u (h : Below w.heap.size w u) => madeUses_any ys hy A1 _ c1 u (hr1.next h))
  have HVL := Lib.hid (madeG_valid xs)
  have HVU := Lib.hid (madeU_valid ys)
  have HUL := Lib.hid (madeU_len ys)
  clear hr0 hr1 hx hy
  generalize madeG xs = L at *
  generalize madeU ys = U at *
  have HL12 := Lib.hid (validG_len HVL.out)
  cases hcb : canB L U with
  | false =>
    have HCB := Lib.hid hcb
    clear hcb
    go_enter Try.func5, Try.ntmps5
    go_wp2_with (first | (go_at_call 10; (with_reducible refine Calls.mono (sane_any _) ?_); rintro r u1 ⟨rfl, hb⟩; have B1 := Lib.hid hb; clear hb) | (go_at_call 11; (with_reducible refine Calls.mono (HM.out _ B1.out) ?_); rintro r u2 ⟨v2, rfl, hg⟩; obtain ⟨A2_, c2_, rfl, -⟩ := own_slice hg.own; have B2 := Lib.hid (below_to B1.out hg.b); have HG := Lib.hid hg.recs; clear hg) | (go_at_call 12; (with_reducible refine Calls.mono (HN.out _ B2.out) ?_); rintro r u3 ⟨v3, rfl, hg⟩; obtain ⟨A3_, c3_, rfl, -⟩ := own_slice hg.own; have B3 := Lib.hid (below_to B2.out hg.b); have HG := Lib.hid (HG.out.next hg.b); have HU := Lib.hid hg.recs; clear hg) | (go_at_call 21; (with_reducible refine Calls.mono (assign_not L U HCB.out _ _ _ _ _ _ _ HG.out HU.out) ?_); rintro r u4 ⟨rfl, hb⟩; have B4 := Lib.hid (below_to B3.out hb); clear hb))
    go_ret
    exact ⟨rfl, B4.out⟩
  | true =>
    have HCB := Lib.hid hcb
    clear hcb
    by_cases hU0 : U.length = 0
    · have uz : ((U.length : Int) == 0) = true := by rw [hU0]; rfl
      have HU0 := Lib.hid hU0
      clear hU0
      go_enter Try.func5, Try.ntmps5
      go_upto_region 7 with (first | (go_at_call 10; (with_reducible refine Calls.mono (sane_any _) ?_); rintro r u1 ⟨rfl, hb⟩; have B1 := Lib.hid hb; clear hb) | (go_at_call 11; (with_reducible refine Calls.mono (HM.out _ B1.out) ?_); rintro r u2 ⟨v2, rfl, hg⟩; obtain ⟨A2_, c2_, rfl, -⟩ := own_slice hg.own; have B2 := Lib.hid (below_to B1.out hg.b); have HG := Lib.hid hg.recs; clear hg) | (go_at_call 12; (with_reducible refine Calls.mono (HN.out _ B2.out) ?_); rintro r u3 ⟨v3, rfl, hg⟩; obtain ⟨A3_, c3_, rfl, -⟩ := own_slice hg.own; have B3 := Lib.hid (below_to B2.out hg.b); have HG := Lib.hid (HG.out.next hg.b); have HU := Lib.hid hg.recs; clear hg) | (go_at_call 21; (with_reducible refine Calls.mono (assign_can L U HVL.out HVU.out HCB.out _ _ _ _ _ _ _ HG.out HU.out) ?_); rintro r u4 ⟨A4_, c4_, a, rfl, hF, ho, hb⟩; have B4 := Lib.hid (below_to B3.out hb); have HG := Lib.hid (HG.out.next hb); have HU := Lib.hid (HU.out.next hb); have HFA := Lib.hid hF; have HA := Lib.hid (ints_own ho (zi_len a)); clear hb hF ho))
      have a0 : ((a.length : Int) == 0) = true := by rw [show a.length = U.length by rw [HFA.out.is.len, chL_len], HU0.out]; rfl
      go_wp2
      go_ret
      exact ⟨rfl, B4.out⟩
    · have uz : ((U.length : Int) == 0) = false := by rw [beq_eq_false_iff_ne]; omega
      have P1 := Lib.hid (fun u => pick_any x2 (U.length : Int) (by omega) (by have := HUL.out; omega) h2.1 h2.2 u)
      have hp := pickI_lt x2 (U.length : Int) (by omega)
      obtain ⟨n, hn⟩ : ∃ n : Nat, pickI x2 (U.length : Int) = (n : Int) := ⟨(pickI x2 (U.length : Int)).toNat, by rw [Int.toNat_of_nonneg hp.1]⟩
      rw [hn] at P1 hp
      have hnU : n < U.length := by omega
      have d0 : ((U.length : Int) == 0) = false := uz
      clear hn hp h2
      go_enter Try.func5, Try.ntmps5
      go_upto_region 9 with (first | (go_at_call 10; (with_reducible refine Calls.mono (sane_any _) ?_); rintro r u1 ⟨rfl, hb⟩; have B1 := Lib.hid hb; clear hb) | (go_at_call 11; (with_reducible refine Calls.mono (HM.out _ B1.out) ?_); rintro r u2 ⟨v2, rfl, hg⟩; obtain ⟨A2_, c2_, rfl, -⟩ := own_slice hg.own; have B2 := Lib.hid (below_to B1.out hg.b); have HG := Lib.hid hg.recs; clear hg) | (go_at_call 12; (with_reducible refine Calls.mono (HN.out _ B2.out) ?_); rintro r u3 ⟨v3, rfl, hg⟩; obtain ⟨A3_, c3_, rfl, -⟩ := own_slice hg.own; have B3 := Lib.hid (below_to B2.out hg.b); have HG := Lib.hid (HG.out.next hg.b); have HU := Lib.hid hg.recs; clear hg) | (go_at_call 21; (with_reducible refine Calls.mono (assign_can L U HVL.out HVU.out HCB.out _ _ _ _ _ _ _ HG.out HU.out) ?_); rintro r u4 ⟨A4_, c4_, a, rfl, hF, ho, hb⟩; have B4 := Lib.hid (below_to B3.out hb); have HG := Lib.hid (HG.out.next hb); have HU := Lib.hid (HU.out.next hb); have HFA := Lib.hid hF; have HA := Lib.hid (ints_own ho (zi_len a)); clear hb hF ho))
      have hal : a.length = U.length := by rw [HFA.out.is.len, chL_len]
      have HAL := Lib.hid hal
      rw [hal]
      have HA := Lib.hid (show Recs enc1 1 u4 u4.heap.size (.slice A4_ U.length c4_) (zi a) by rw [← hal]; exact HA.out)
      clear hal
      go_upto_region 12 with (go_at_call 20; (with_reducible refine Calls.mono (P1.out _) ?_); rintro r y1 ⟨rfl, rfl⟩)
      have hn0 : (0 : Int) ≤ (n : Int) := by omega
      have sl1 := fun w => slice_head w 23 46 Try.underlying23 infoUse A3_ U.length c3_ n (by have := (recs_cap HU.out).2.1; omega)
      have sl2 := fun w => slice_head w 26 3 Try.underlying26 infoInt A4_ U.length c4_ n (by have := (recs_cap HA.out).2.1; have := HAL.out; rw [zi_len] at *; omega)
      have HLB := Lib.hid (fun y (hy : Below u4.heap.size u4 y) => left_begin L U a HVL.out HVU.out HFA.out.is n (by omega) A2_ A3_ A4_ _ c2_ _ c3_ _ c4_ y (HG.out.next hy) (HU.out.next hy) (HA.out.next hy))
      go_region_held3 (fun y => Below u4.heap.size u4 y ∧ True) (first | assumption | (exact ⟨(Below.refl _ _).drew, trivial⟩)) (first | (go_at_call 26; ((with_reducible refine Calls.mono (HLB.out _ (‹Below u4.heap.size u4 _ ∧ _›).1) ?_); rintro r u5 ⟨A5, c5, rfl, h5, hb5⟩; have hB5 := And.intro (below_to (‹Below u4.heap.size u4 _ ∧ _›).1 hb5) trivial)))
      have B5 := Lib.hid hB5.1
      have HG5 := Lib.hid (HG.out.next hB5.1)
      have HU5 := Lib.hid (HU.out.next hB5.1)
      have HA5 := Lib.hid (HA.out.next hB5.1)
      have hL0 : 0 < L.length := by
        have hna : n < a.length := by rw [HAL.out]; exact hnU
        have := as_mem_lt HFA.out.is a[n] (List.getElem_mem hna)
        omega
      have hL12 := HL12.out
      obtain ⟨R, hR⟩ : ∃ R, restN L (a.take n) = R := ⟨_, rfl⟩
      rw [hR] at h5
      have HRR := Lib.hid hR
      have HRL := Lib.hid (show R.length = L.length by rw [← hR, restN_len])
      have HR100 := Lib.hid (show ∀ x ∈ R, x ≤ 100 by rw [← hR]; exact restN_le HVL.out _)
      have HR5 := Lib.hid h5
      have P3 := Lib.hid (fun u => pick_any x3 (L.length : Int) (by omega) (by omega) h3.1 h3.2 u)
      have hp := pickI_lt x3 (L.length : Int) (by omega)
      obtain ⟨k3, hk3⟩ : ∃ k : Nat, pickI x3 (L.length : Int) = (k : Int) := ⟨(pickI x3 (L.length : Int)).toNat, by rw [Int.toNat_of_nonneg hp.1]⟩
      rw [hk3] at P3 hp
      have hkL : k3 < L.length := by omega
      clear hk3 hp h3 h5 hB5 hb5 hR HG HU HA sl1 sl2 HLB P1
      go_upto_region 16 with (go_at_call 11; (with_reducible refine Calls.mono (HM.out _ (below_to B4.out B5.out)) ?_); rintro r u6 ⟨v6, rfl, hg⟩; obtain ⟨A6, c6, rfl, -⟩ := own_slice hg.own; have HT0 := Lib.hid hg; clear hg)
      go_wp2
      go_loopw [17] (fun z wr => ∃ k : Nat, z = .int .i64 (k : Int) ∧ k ≤ L.length ∧ Hid (GatG u5 (mixG L R k) (.slice A6 L.length c6) wr)) (fun z _ => L.length - (intOf z).toNat)
      case atStart => exact ⟨0, rfl, Nat.zero_le _, by rw [mixG_zero]; exact HT0⟩
      case round =>
        clear HT0
        obtain ⟨k, rfl, hk, HT⟩ := hrel
        have k0 : (0 : Int) ≤ (k : Int) := by omega
        by_cases hkl : k < L.length
        · have k1 : (k : Int) < (L.length : Int) := by omega
          obtain ⟨g6, c6', hv6, hB6, hg6, z6, f6, hset⟩ := HT.out.setP (mixG_get hkl)
          obtain ⟨rfl, rfl⟩ : A6 = some ⟨g6, 0, none⟩ ∧ c6 = c6' := by injection hv6 with e1 e2 e3; exact ⟨e1, e3⟩
          obtain ⟨gr, or_, rfl, hgr, hcr⟩ := recs_at (HR5.out.below HT.out.b) k (by rw [zi_len, HRL.out]; exact hkl)
          obtain ⟨x, hx⟩ : ∃ x, R[k]? = some x := ⟨_, List.getElem?_eq_getElem (by rw [HRL.out]; exact hkl)⟩
          have y0 : wr.cell? ⟨gr, or_ + k, none⟩ = some (.int .i64 (x : Int)) := by
            have h := hcr k (x : Int) (by simp [zi, hx]) 0 _ rfl
            rwa [Nat.mul_one, Nat.add_zero] at h
          have hxe : R.getD k 0 = x := by rw [List.getD_eq_getElem?_getD, hx]; rfl
          have HNX := Lib.hid (show GatG u5 (mixG L R (k + 1)) (.slice (some ⟨g6, 0, none⟩) L.length c6) (wr.setCell ⟨g6, k * 6 + 3, none⟩ (.int .i64 (x : Int))) by rw [← mixG_next hkl, hxe]; exact hset _)
          have lw := HT.out.b.size
          have gr9 : gr < wr.heap.size := by omega
          have e7 : IntKind.i64.wrap ((k : Int) + 1) = (k : Int) + 1 := IntWalk.i64_in _ (by omega)
          clear hset hv6 hcr hx hxe
          go_wp2
          go_roundw
          case rel => exact ⟨k + 1, by go_num, by omega, HNX⟩
          case measure => simp [intOf]; omega
        · have k1 : ¬ (k : Int) < (L.length : Int) := by omega
          have hke : k = L.length := by omega
          have HT1 := Lib.hid (show GatG u5 (mixG L R L.length) (.slice A6 L.length c6) wr from by have h := HT.out; rwa [hke] at h)
          obtain ⟨W7, hW7⟩ : ∃ W, wr = W := ⟨_, rfl⟩
          subst hW7
          have HB7 := Lib.hid HT.out.b
          obtain ⟨ga, oa, rfl, hga, hca⟩ := recs_at (HA5.out.below HB7.out) n (by rw [zi_len, HAL.out]; exact hnU)
          obtain ⟨gr, or_, rfl, hgr, hcr⟩ := recs_at (HR5.out.below HB7.out) k3 (by rw [zi_len, HRL.out]; exact hkL)
          obtain ⟨bu, ou, rfl, hbu, hcu⟩ := recs_at (HU5.out.below HB7.out) n hnU
          have hna : n < a.length := by rw [HAL.out]; exact hnU
          obtain ⟨an, han⟩ : ∃ an, a[n]? = some an := ⟨_, List.getElem?_eq_getElem hna⟩
          obtain ⟨x, hx⟩ : ∃ x, R[k3]? = some x := ⟨_, List.getElem?_eq_getElem (by rw [HRL.out]; exact hkL)⟩
          have hq : U[n]? = some (U.getD n u0) := by rw [List.getElem?_eq_getElem hnU]; simp [List.getD_eq_getElem?_getD, hnU]
          obtain ⟨q, hqq⟩ : ∃ q, U.getD n u0 = q := ⟨_, rfl⟩
          have HQQ := Lib.hid hqq
          rw [hqq] at hq
          have HYA := Lib.hid (show wr.cell? ⟨ga, oa + n, none⟩ = some (.int .i64 (an : Int)) by
            have h := hca n (an : Int) (by simp [zi, han]) 0 _ rfl
            rwa [Nat.mul_one, Nat.add_zero] at h)
          have HYR := Lib.hid (show wr.cell? ⟨gr, or_ + k3, none⟩ = some (.int .i64 (x : Int)) by
            have h := hcr k3 (x : Int) (by simp [zi, hx]) 0 _ rfl
            rwa [Nat.mul_one, Nat.add_zero] at h)
          have x0 : wr.cell? ⟨bu, ou + n * 4, none⟩ = some (.int .i64 q.item) := hcu n q hq 0 _ rfl
          have x1 : wr.cell? ⟨bu, ou + n * 4 + 1, none⟩ = some (.int .i64 q.acts) := hcu n q hq 1 _ rfl
          have x2' : wr.cell? ⟨bu, ou + n * 4 + 2, none⟩ = some (.int .i64 q.region) := hcu n q hq 2 _ rfl
          have x3' : wr.cell? ⟨bu, ou + n * 4 + 3, none⟩ = some (.int .i64 q.at_) := hcu n q hq 3 _ rfl
          have hAN : a.getD n 0 = an := by rw [List.getD_eq_getElem?_getD, han]; rfl
          have hRX : R.getD k3 0 = x := by rw [List.getD_eq_getElem?_getD, hx]; rfl
          have hxb : x ≤ 100 := HR100.out x (List.mem_of_getElem? hx)
          have HAN := Lib.hid hAN
          have HRX := Lib.hid hRX
          have lw := HB7.out.size
          have hga9 : ga < wr.heap.size := by omega
          have hgr9 : gr < wr.heap.size := by omega
          have hbu9 : bu < wr.heap.size := by omega
          have n1 : (n : Int) < (U.length : Int) := by omega
          have k30 : (0 : Int) ≤ (k3 : Int) := by omega
          have k31 : (k3 : Int) < (L.length : Int) := by omega
          have l00 : 0 < (L.length : Int) := by omega
          have HPM := Lib.hid (Permits_any L q A2_ _ c2_ wr (HG5.out.next HB7.out))
          obtain ⟨b1, hb1⟩ : ∃ b1, (zi (permV L q)).contains (k3 : Int) = b1 := ⟨_, rfl⟩
          have HHAS : Hid (∀ A n c y, Recs enc1 1 y y.heap.size (.slice A n c) (zi (permV L q)) → Calls Try.prog 30 #[.slice A n c, .int .i64 (k3 : Int)] y fun e w' => e = .returned (.bool b1) ∧ Below y.heap.size y w') := Lib.hid (fun A n c y h => by have h2 := has_any _ (k3 : Int) A n c y h; rwa [hb1] at h2)
          have HB1 := Lib.hid hb1
          have FIN := Lib.hid (fun u (h : Below wr.heap.size wr u) => below_to B4.out (below_to B5.out (below_to HB7.out h)))
          have HTT := HT1
          clear hke hca hcr hcu han hx hq hqq hAN hRX hb1 HT1 HT hk k1 k0 hna
          cases b1 with
          | false =>
            go_upto_region 22 with (first | (go_at_call 20; (with_reducible refine Calls.mono (P3.out _) ?_); rintro r y1 ⟨rfl, rfl⟩) | (go_at_call 28; (with_reducible refine Calls.mono (HPM.out) ?_); rintro r u8 ⟨A8, n8, c8, rfl, h8, hb⟩; have B8 := Lib.hid hb; clear hb) | (go_at_call 30; (with_reducible refine Calls.mono (HHAS.out _ _ _ _ h8) ?_); rintro r u9 ⟨rfl, hb⟩; have B9 := Lib.hid (below_to B8.out hb); have ya := (B9.out.cell (p := ⟨ga, oa + n, none⟩) (by exact hga9)).trans HYA.out; have yr := (B9.out.cell (p := ⟨gr, or_ + k3, none⟩) (by exact hgr9)).trans HYR.out; have sz9 := B9.out.size; have ga9 : ga < u9.heap.size := Nat.lt_of_lt_of_le hga9 sz9; have gr9 : gr < u9.heap.size := Nat.lt_of_lt_of_le hgr9 sz9; clear hb h8))
            go_wp2
            go_ret
            exact ⟨rfl, FIN.out _ B9.out⟩
          | true =>
            by_cases hge : an ≤ k3
            · have e1 : decide ((an : Int) ≤ (k3 : Int)) = true := decide_eq_true (by omega)
              have e1n : decide (an ≤ k3) = true := decide_eq_true hge
              clear hge
              go_upto_region 22 with (first | (go_at_call 20; (with_reducible refine Calls.mono (P3.out _) ?_); rintro r y1 ⟨rfl, rfl⟩) | (go_at_call 28; (with_reducible refine Calls.mono (HPM.out) ?_); rintro r u8 ⟨A8, n8, c8, rfl, h8, hb⟩; have B8 := Lib.hid hb; clear hb) | (go_at_call 30; (with_reducible refine Calls.mono (HHAS.out _ _ _ _ h8) ?_); rintro r u9 ⟨rfl, hb⟩; have B9 := Lib.hid (below_to B8.out hb); have ya := (B9.out.cell (p := ⟨ga, oa + n, none⟩) (by exact hga9)).trans HYA.out; have yr := (B9.out.cell (p := ⟨gr, or_ + k3, none⟩) (by exact hgr9)).trans HYR.out; have sz9 := B9.out.size; have ga9 : ga < u9.heap.size := Nat.lt_of_lt_of_le hga9 sz9; have gr9 : gr < u9.heap.size := Nat.lt_of_lt_of_le hgr9 sz9; clear hb h8))
              go_wp2
              go_ret
              exact ⟨rfl, FIN.out _ B9.out⟩
            · have e1 : decide ((an : Int) ≤ (k3 : Int)) = false := decide_eq_false (by omega)
              have e1n : decide (an ≤ k3) = false := decide_eq_false hge
              by_cases hx0 : x = 0
              · have e2 : ((x : Int) == 0) = true := by rw [hx0]; rfl
                have e2n : (x == 0) = true := by rw [hx0]; rfl
                clear hge hx0
                go_upto_region 22 with (first | (go_at_call 20; (with_reducible refine Calls.mono (P3.out _) ?_); rintro r y1 ⟨rfl, rfl⟩) | (go_at_call 28; (with_reducible refine Calls.mono (HPM.out) ?_); rintro r u8 ⟨A8, n8, c8, rfl, h8, hb⟩; have B8 := Lib.hid hb; clear hb) | (go_at_call 30; (with_reducible refine Calls.mono (HHAS.out _ _ _ _ h8) ?_); rintro r u9 ⟨rfl, hb⟩; have B9 := Lib.hid (below_to B8.out hb); have ya := (B9.out.cell (p := ⟨ga, oa + n, none⟩) (by exact hga9)).trans HYA.out; have yr := (B9.out.cell (p := ⟨gr, or_ + k3, none⟩) (by exact hgr9)).trans HYR.out; have sz9 := B9.out.size; have ga9 : ga < u9.heap.size := Nat.lt_of_lt_of_le hga9 sz9; have gr9 : gr < u9.heap.size := Nat.lt_of_lt_of_le hgr9 sz9; clear hb h8))
                go_wp2
                go_ret
                exact ⟨rfl, FIN.out _ B9.out⟩
              · have e2 : ((x : Int) == 0) = false := by rw [beq_eq_false_iff_ne]; omega
                have e2n : (x == 0) = false := by rw [beq_eq_false_iff_ne]; omega
                obtain ⟨hv8, hv9, hc8⟩ := first_can (k := k3) HVL.out HVU.out HFA.out hnU (by rw [HQQ.out]; exact HB1.out) (by rw [HAN.out]; omega) (by rw [HRR.out, HRX.out]; exact hx0)
                rw [HRR.out] at hv8 hc8
                have HV8 := Lib.hid hv8
                have HV9 := Lib.hid hv9
                have HC8 := Lib.hid hc8
                clear hge hx0 hv8 hv9 hc8
                go_upto_region 23 with (first | (go_at_call 20; (with_reducible refine Calls.mono (P3.out _) ?_); rintro r y1 ⟨rfl, rfl⟩) | (go_at_call 28; (with_reducible refine Calls.mono (HPM.out) ?_); rintro r u8 ⟨A8, n8, c8, rfl, h8, hb⟩; have B8 := Lib.hid hb; clear hb) | (go_at_call 30; (with_reducible refine Calls.mono (HHAS.out _ _ _ _ h8) ?_); rintro r u9 ⟨rfl, hb⟩; have B9 := Lib.hid (below_to B8.out hb); have ya := (B9.out.cell (p := ⟨ga, oa + n, none⟩) (by exact hga9)).trans HYA.out; have yr := (B9.out.cell (p := ⟨gr, or_ + k3, none⟩) (by exact hgr9)).trans HYR.out; have sz9 := B9.out.size; have ga9 : ga < u9.heap.size := Nat.lt_of_lt_of_le hga9 sz9; have gr9 : gr < u9.heap.size := Nat.lt_of_lt_of_le hgr9 sz9; clear hb h8))
                have HT9 := HTT.out.next B9.out
                obtain ⟨g6, c6', hv6, hB6, hg6, z6, f6, hset⟩ := HT9.setP (mixG_at hkL)
                obtain ⟨rfl, rfl⟩ : A6 = some ⟨g6, 0, none⟩ ∧ c6 = c6' := by injection hv6 with e1 e3 e4; exact ⟨e1, e4⟩
                rw [HRX.out] at z6
                have z6 : u9.cell? ⟨g6, k3 * 6 + 3, none⟩ = some (.int .i64 (x : Int)) := z6
                have HST := Lib.hid (show GatG u5 (lessG L R k3) (.slice (some ⟨g6, 0, none⟩) L.length c6) (u9.setCell ⟨g6, k3 * 6 + 3, none⟩ (.int .i64 ((x : Int) - 1))) by unfold lessG; rw [HRX.out]; have h := hset ((x : Int) - 1); rw [HRX.out] at h; exact h)
                have hgrg : gr < g6 := by omega
                obtain ⟨A9, hA9a, hA9b, hR9⟩ := recs_post HU5.out (n + 1) (by omega)
                obtain ⟨A9', hA9c, hA9d, hsl⟩ := slice_post 23 46 Try.underlying23 infoUse bu ou U.length c3_ (n + 1) (by omega) (recs_cap HU5.out).2.1
                have hAA : A9' = A9 := by
                  by_cases hc : n + 1 < c3_
                  · rw [hA9a hc, hA9c hc]
                  · rw [hA9b (by omega), hA9d (by omega)]
                subst hAA
                have sl3 : ∀ w, Sem.run Try.prog (Instr.slice 23 (.slice (some ⟨bu, ou, none⟩) U.length c3_) (some (.int .i64 ((n : Int) + 1))) none none) w = .ok (.slice A9' (U.length - (n + 1)) (c3_ - (n + 1))) w := hsl
                have HR9 := Lib.hid hR9
                have n7 : (n : Int) + 1 ≤ (U.length : Int) := by omega
                have u97 := HUL.out
                have hx9 : (1 : Int) ≤ (x : Int) := by have h := e2n; simp at h; omega
                have FINU := Lib.hid (fun u (h : Below u5.heap.size u5 u) => below_to B4.out (below_to B5.out h))
                clear HT9 hset hv6 hA9a hA9b hA9c hA9d hR9 hsl
                go_upto_region 24 with fail
                obtain ⟨w8, hw8⟩ : ∃ w8, u9.setCell ⟨g6, k3 * 6 + 3, none⟩ (.int .i64 ((x : Int) - 1)) = w8 := ⟨_, rfl⟩
                rw [hw8] at HST ⊢
                have has9 := assign_at (lessG L R k3) (U.drop (n + 1)) HV8.out HV9.out _ _ _ _ _ _ w8 (show Recs encG 6 w8 w8.heap.size (.slice (some ⟨g6, 0, none⟩) L.length c6) _ from by have h := HST.out.recs; exact h) (HR9.out.next HST.out.b)
                unfold errC at has9
                rw [HC8.out] at has9
                have HAS9 := Lib.hid has9
                clear has9 hw8 z6 f6 hg6
                go_wp2_with (go_at_call 21; (with_reducible refine Calls.mono (HAS9.out) ?_); rintro r v9 ⟨v, rfl, hb⟩; have BF := Lib.hid hb; clear hb)
                go_ret
                exact ⟨rfl, FINU.out _ (below_to HST.out.b BF.out)⟩
end Go.Proofs.Ytenojfniknjeiaa
