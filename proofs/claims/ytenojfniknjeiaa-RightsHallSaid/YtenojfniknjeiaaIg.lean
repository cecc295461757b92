/- RightsLeast. -/
import Derived.Test.YtenojfniknjeiaaIf
namespace Go.Proofs.Ytenojfniknjeiaa
open Go.RowKit Go.Shelf
attribute [local go_sem ↓] append_appN

theorem lack_no (l : List Gr) (U : List Us) (h : lackV l U = none) (A A2 : Option Addr) (n c n2 c2 : Nat) (w : World) (hl : Recs encG 6 w w.heap.size (.slice A n c) l) (hu : Recs encU 4 w w.heap.size (.slice A2 n2 c2) U) :
    Calls Try.prog 23 #[.slice A n c, .slice A2 n2 c2] w fun e w' => ∃ A' c', e = .returned (.tuple #[.slice A' 0 c', .bool false]) ∧ Below w.heap.size w w' := by
  refine (Lack_any l U A A2 n c n2 c2 w hl hu).mono ?_
  rintro e w' ⟨A', n', c', rfl, h1, h2⟩
  rw [h] at h1
  have hn : n' = 0 := (recs_cap h1).1
  subst hn
  exact ⟨A', c', by rw [h]; rfl, h2⟩
theorem lack_some (l : List Gr) (U : List Us) (S : List Nat) (h : lackV l U = some S) (A A2 : Option Addr) (n c n2 c2 : Nat) (w : World) (hl : Recs encG 6 w w.heap.size (.slice A n c) l) (hu : Recs encU 4 w w.heap.size (.slice A2 n2 c2) U) :
    Calls Try.prog 23 #[.slice A n c, .slice A2 n2 c2] w fun e w' => ∃ A' c', e = .returned (.tuple #[.slice A' S.length c', .bool true]) ∧ Recs enc1 1 w' w'.heap.size (.slice A' S.length c') (zi S) ∧ Below w.heap.size w w' := by
  refine (Lack_any l U A A2 n c n2 c2 w hl hu).mono ?_
  rintro e w' ⟨A', n', c', rfl, h1, h2⟩
  rw [h] at h1
  have hn : n' = S.length := by have := (recs_cap h1).1; rwa [show (Option.some S).getD [] = S from rfl, zi_len] at this
  subst hn
  exact ⟨A', c', by rw [h]; rfl, h1, h2⟩
set_option maxRecDepth 100000 in
set_option maxHeartbeats 16000000 in
theorem least_true (v0 : Value) (xs : List I5) (v1 : Value) (ys : List I4) (x2 : Int) (w : World) (hr0 : Recs enc5 5 w w.heap.size v0 xs) (hx : ∀ x ∈ xs, OkI5 x) (hr1 : Recs enc4 4 w w.heap.size v1 ys) (hy : ∀ y ∈ ys, OkI4 y) (h2 : -9223372036854775808 ≤ x2 ∧ x2 ≤ 9223372036854775807) :
    Calls Try.prog 6 #[v0, v1, .int .i64 x2] w fun e w' => e = .returned (.bool true) ∧ Below w.heap.size w w' := by
  obtain ⟨A0, c0, rfl, -⟩ := recs_form hr0
  obtain ⟨A1, c1, rfl, -⟩ := recs_form hr1
  have HM := Lib.hid (fun u (h : Below w.heap.size w u) => made_any xs hx A0 _ c0 u (hr0.next h))
  have HN := Lib.hid (fun u (h : Below w.heap.size w u) => madeUses_any ys hy A1 _ c1 u (hr1.next h))
  have HVL := Lib.hid (madeG_valid xs)
  have HVU := Lib.hid (madeU_valid ys)
  have HUL := Lib.hid (madeU_len ys)
  clear hr0 hr1 hx hy
  generalize madeG xs = L at *
  generalize madeU ys = U at *
  cases hLV : lackV L U with
  | none =>
    have HLV := Lib.hid hLV
    clear hLV
    go_enter Try.func6, Try.ntmps6
    go_wp2_with (first | (go_at_call 10; (with_reducible refine Calls.mono (sane_any _) ?_); rintro r u1 ⟨rfl, hb⟩; have B1 := Lib.hid hb; clear hb) | (go_at_call 11; (with_reducible refine Calls.mono (HM.out _ B1.out) ?_); rintro r u2 ⟨v2, rfl, hg⟩; obtain ⟨A2_, c2_, rfl, -⟩ := own_slice hg.own; have B2 := Lib.hid (below_to B1.out hg.b); have HG := Lib.hid hg.recs; clear hg) | (go_at_call 12; (with_reducible refine Calls.mono (HN.out _ B2.out) ?_); rintro r u3 ⟨v3, rfl, hg⟩; obtain ⟨A3_, c3_, rfl, -⟩ := own_slice hg.own; have B3 := Lib.hid (below_to B2.out hg.b); have HG := Lib.hid (HG.out.next hg.b); have HU := Lib.hid hg.recs; clear hg) | (go_at_call 23; (with_reducible refine Calls.mono (lack_no L U HLV.out _ _ _ _ _ _ _ HG.out HU.out) ?_); rintro r u4 ⟨A4_, c4_, rfl, hb⟩; have B4 := Lib.hid (below_to B3.out hb); clear hb))
    go_ret
    exact ⟨rfl, B4.out⟩
  | some S =>
    have HLV := Lib.hid hLV
    have hle := least HVL.out HVU.out hLV
    clear hLV
    have hpos : 0 < S.length := List.length_pos_iff.2 hle.1
    have hS10 : S.length ≤ 10 := hle.2.1
    have HLE := Lib.hid hle
    clear hle
    have P1 := Lib.hid (fun u => pick_any x2 (S.length : Int) (by omega) (by omega) h2.1 h2.2 u)
    have hp := pickI_lt x2 (S.length : Int) (by omega)
    obtain ⟨n, hn⟩ : ∃ n : Nat, pickI x2 (S.length : Int) = (n : Int) := ⟨(pickI x2 (S.length : Int)).toNat, by rw [Int.toNat_of_nonneg hp.1]⟩
    rw [hn] at P1 hp
    have hn9 : n < S.length := by omega
    have e0 : ((S.length : Int) == 0) = false := by rw [beq_eq_false_iff_ne]; omega
    clear hn hp h2
    go_enter Try.func6, Try.ntmps6
    go_wp2_with (first | (go_at_call 10; (with_reducible refine Calls.mono (sane_any _) ?_); rintro r u1 ⟨rfl, hb⟩; have B1 := Lib.hid hb; clear hb) | (go_at_call 11; (with_reducible refine Calls.mono (HM.out _ B1.out) ?_); rintro r u2 ⟨v2, rfl, hg⟩; obtain ⟨A2_, c2_, rfl, -⟩ := own_slice hg.own; have B2 := Lib.hid (below_to B1.out hg.b); have HG := Lib.hid hg.recs; clear hg) | (go_at_call 12; (with_reducible refine Calls.mono (HN.out _ B2.out) ?_); rintro r u3 ⟨v3, rfl, hg⟩; obtain ⟨A3_, c3_, rfl, -⟩ := own_slice hg.own; have B3 := Lib.hid (below_to B2.out hg.b); have HG := Lib.hid (HG.out.next hg.b); have HU := Lib.hid hg.recs; clear hg) | (go_at_call 23; (with_reducible refine Calls.mono (lack_some L U S HLV.out _ _ _ _ _ _ _ HG.out HU.out) ?_); rintro r u4 ⟨A4_, c4_, rfl, h4, hb⟩; have B4 := Lib.hid (below_to B3.out hb); have HG := Lib.hid (HG.out.next hb); have HU := Lib.hid (HU.out.next hb); have HS := Lib.hid h4; clear hb h4) | (go_at_call 20; (with_reducible refine Calls.mono (P1.out _) ?_); rintro r y1 ⟨rfl, rfl⟩))
    go_loopw [13, 14, 15] (fun a b z wr => ∃ i : Nat, z = .int .i64 (i : Int) ∧ i ≤ S.length ∧ Hid (TwoU u4 (pickU U (S.take i)) (pickU U ((S.take i).eraseIdx n)) a b wr)) (fun _ _ z _ => S.length - (intOf z).toNat)
    case atStart => exact ⟨0, rfl, Nat.zero_le _, Lib.hid (by
      rw [List.take_zero, List.eraseIdx_nil]
      exact ⟨World.ownsRow_nil _ _ _ _, World.ownsRow_nil _ _ _ _, Below.refl _ _, fun g e => by cases e⟩)⟩
    case round =>
      obtain ⟨i, rfl, hi, HT⟩ := hrel
      obtain ⟨FA, hFA⟩ : ∃ F, pickU U (S.take i) = F := ⟨_, rfl⟩
      obtain ⟨FB, hFB⟩ : ∃ F, pickU U ((S.take i).eraseIdx n) = F := ⟨_, rfl⟩
      rw [hFA, hFB] at HT
      have HFA := Lib.hid hFA
      have HFB := Lib.hid hFB
      clear hFA hFB
      obtain ⟨A5, c5, rfl, -⟩ := own_slice HT.out.oa
      obtain ⟨A6, c6, rfl, -⟩ := own_slice HT.out.ob
      have i0 : (0 : Int) ≤ (i : Int) := by omega
      by_cases hil : i < S.length
      · have i1 : (i : Int) < (S.length : Int) := by omega
        obtain ⟨x, hx⟩ : ∃ x, S[i]? = some x := ⟨_, List.getElem?_eq_getElem hil⟩
        have hxU : x < U.length := HLE.out.2.2.2.1 x (List.mem_of_getElem? hx)
        obtain ⟨gs, os, rfl, hgs, hcs⟩ := recs_at HS.out i (by rw [zi_len]; exact hil)
        obtain ⟨b, o, rfl, hg, hcell⟩ := recs_at HU.out x hxU
        have hq : U[x]? = some (U.getD x u0) := by rw [List.getElem?_eq_getElem hxU]; simp [List.getD_eq_getElem?_getD, hxU]
        obtain ⟨q, hqq⟩ : ∃ q, U.getD x u0 = q := ⟨_, rfl⟩
        rw [hqq] at hq
        have z0 : u4.cell? ⟨gs, os + i, none⟩ = some (.int .i64 (x : Int)) := by
          have h := hcs i (x : Int) (by simp [zi, hx]) 0 _ rfl
          rwa [Nat.mul_one, Nat.add_zero] at h
        have q0 : u4.cell? ⟨b, o + x * 4, none⟩ = some (.int .i64 q.item) := hcell x _ hq 0 _ rfl
        have q1 : u4.cell? ⟨b, o + x * 4 + 1, none⟩ = some (.int .i64 q.acts) := hcell x _ hq 1 _ rfl
        have q2 : u4.cell? ⟨b, o + x * 4 + 2, none⟩ = some (.int .i64 q.region) := hcell x _ hq 2 _ rfl
        have q3 : u4.cell? ⟨b, o + x * 4 + 3, none⟩ = some (.int .i64 q.at_) := hcell x _ hq 3 _ rfl
        have x0 : (0 : Int) ≤ (x : Int) := by omega
        have x1 : (x : Int) < (U.length : Int) := by omega
        have x3 : ¬ (x : Int) < 0 := by omega
        have x4 : ¬ (U.length : Int) ≤ (x : Int) := by omega
        have HTA := Lib.hid (show pickU U (S.take (i + 1)) = FA ++ [q] by rw [← HFA.out, List.take_add_one, hx, ← hqq]; simp [pickU])
        have HLA := Lib.hid (show FA.length ≤ 10 by rw [← HFA.out]; unfold pickU; rw [List.length_map, List.length_take]; omega)
        have HLB := Lib.hid (show FB.length ≤ 10 by rw [← HFB.out]; unfold pickU; rw [List.length_map]; have h1 := (List.eraseIdx_sublist (S.take i) n).length_le; rw [List.length_take] at h1; omega)
        have lw := HT.out.b.size
        have gs9 : gs < wr.heap.size := by omega
        have g9 : b < wr.heap.size := by omega
        have y0 := (HT.out.b.cell (p := ⟨gs, os + i, none⟩) hgs).trans z0
        have p0 := (HT.out.b.cell (p := ⟨b, o + x * 4, none⟩) hg).trans q0
        have p1 := (HT.out.b.cell (p := ⟨b, o + x * 4 + 1, none⟩) hg).trans q1
        have p2 := (HT.out.b.cell (p := ⟨b, o + x * 4 + 2, none⟩) hg).trans q2
        have p3 := (HT.out.b.cell (p := ⟨b, o + x * 4 + 3, none⟩) hg).trans q3
        have e5 : IntKind.i64.wrap ((i : Int) + 1) = (i : Int) + 1 := IntWalk.i64_in _ (by omega)
        obtain ⟨A7, c7, w7, hrun, hT7⟩ := HT.out.push (by have := HLA.out; omega) q (cs := #[.int .i64 q.item, .int .i64 q.acts, .int .i64 q.region, .int .i64 q.at_]) rfl
        have lw7 := hT7.b.size
        have s7 : gs < w7.heap.size := by omega
        have t7 : b < w7.heap.size := by omega
        have Y0 := (hT7.b.cell (p := ⟨gs, os + i, none⟩) hgs).trans z0
        have r0 := (hT7.b.cell (p := ⟨b, o + x * 4, none⟩) hg).trans q0
        have r1 := (hT7.b.cell (p := ⟨b, o + x * 4 + 1, none⟩) hg).trans q1
        have r2 := (hT7.b.cell (p := ⟨b, o + x * 4 + 2, none⟩) hg).trans q2
        have r3 := (hT7.b.cell (p := ⟨b, o + x * 4 + 3, none⟩) hg).trans q3
        by_cases hin : i = n
        · have en : ((i : Int) == (n : Int)) = true := by simp [hin]
          have en2 : ((i : Int) != (n : Int)) = false := by simp [hin]
          have HTB := Lib.hid (show pickU U ((S.take (i + 1)).eraseIdx n) = FB by rw [← HFB.out, ← hin, erase_eq hx])
          have HT7 := Lib.hid hT7
          clear hin hcs hcell hq hqq hx z0 q0 q1 q2 q3 hT7 lw lw7 Y0 r0 r1 r2 r3 s7 t7
          go_wp2
          go_roundw
          case rel => exact ⟨i + 1, by go_num, by omega, by rw [HTA.out, HTB.out]; exact HT7⟩
          case measure => simp [intOf]; omega
        · have en : ((i : Int) == (n : Int)) = false := by rw [beq_eq_false_iff_ne]; omega
          have en2 : ((i : Int) != (n : Int)) = true := by rw [bne_iff_ne]; omega
          have HTB := Lib.hid (show pickU U ((S.take (i + 1)).eraseIdx n) = FB ++ [q] by rw [← HFB.out, erase_ne hx hin, ← hqq]; simp [pickU])
          obtain ⟨A8, c8, w8, hrun8, hT8⟩ := hT7.swap.push (by have := HLB.out; omega) q (cs := #[.int .i64 q.item, .int .i64 q.acts, .int .i64 q.region, .int .i64 q.at_]) rfl
          have HT8 := Lib.hid hT8.swap
          clear hcs hcell hq hqq hx z0 q0 q1 q2 q3 hT7 hT8 lw lw7
          go_wp2
          go_roundw
          case rel => exact ⟨i + 1, by go_num, by omega, by rw [HTA.out, HTB.out]; exact HT8⟩
          case measure => simp [intOf]; omega
      · have i1 : ¬ (i : Int) < (S.length : Int) := by omega
        have hFA : FA = pickU U S := by rw [← HFA.out, List.take_of_length_le (by omega)]
        have hFB : FB = pickU U (S.eraseIdx n) := by rw [← HFB.out, List.take_of_length_le (by omega)]
        obtain ⟨_, h10, hnd, hlt, hc1, hc2⟩ := HLE.out
        have hva : validU FA = true := by rw [hFA]; exact pick_valid HVU.out h10 hlt
        have hvb : validU FB = true := by rw [hFB]; exact pick_valid HVU.out (by have := (List.eraseIdx_sublist S n).length_le; omega) fun u hu => hlt u ((List.eraseIdx_sublist S n).mem hu)
        have ha1 := assign_at L FA HVL.out hva _ _ _ _ _ _ wr (HG.out.next HT.out.b) HT.out.recs
        have ha2 := fun u (hb : Below wr.heap.size wr u) => assign_at L FB HVL.out hvb _ _ _ _ _ _ u ((HG.out.next HT.out.b).next hb) (HT.out.swap.recs.next hb)
        have k1 : errC L FA = 80 := by unfold errC; rw [hFA, hc1]; rfl
        have k2 : errC L FB = 0 := by unfold errC; rw [hFB, hc2 n hn9]; rfl
        rw [k1] at ha1
        rw [k2] at ha2
        have HA1 := Lib.hid ha1
        have HA2 := Lib.hid ha2
        clear hFA hFB h10 hnd hlt hc1 hc2 hva hvb ha1 ha2 k1 k2
        go_wp2_with (first | (go_at_call 21; (with_reducible refine Calls.mono (HA1.out) ?_); rintro r u5 ⟨v5, rfl, hb⟩; have B5 := Lib.hid (below_to HT.out.b hb); have HA2 := Lib.hid (HA2.out u5 hb); clear hb) | (go_at_call 21; (with_reducible refine Calls.mono (HA2.out) ?_); rintro r u6 ⟨v6, rfl, hb⟩; have B6 := Lib.hid (below_to B5.out hb); clear hb))
        go_ret
        exact ⟨rfl, below_to B4.out B6.out⟩
end Go.Proofs.Ytenojfniknjeiaa
