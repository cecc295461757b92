/- Left. -/
import Derived.Test.YtenojfniknjeiaaHm
namespace Go.Proofs.Ytenojfniknjeiaa
open Go.RowKit
attribute [local go_sem ↓] append_appN

def leftStep (l : List Gr) (st : Option (List Nat)) (p : Int × Us) : Option (List Nat) := st.bind fun o => if 0 ≤ p.1 ∧ p.1.toNat < l.length ∧ perB (l.getD p.1.toNat g0) p.2 = true ∧ o.getD p.1.toNat 0 ≠ 0 then some (o.set p.1.toNat (o.getD p.1.toNat 0 - 1)) else none
def leftO (l : List Gr) (U : List Us) (a : List Int) : Option (List Nat) := (a.zip U).foldl (leftStep l) (some (plN l))
def leftV (l : List Gr) (U : List Us) (a : List Int) : List Nat := if validG l && validU U && decide (a.length = U.length) then (leftO l U a).getD [] else []
theorem left_none (l : List Gr) : ∀ zs : List (Int × Us), zs.foldl (leftStep l) none = none
  | [] => rfl
  | _ :: zs => left_none l zs
theorem left_step {l : List Gr} {zs : List (Int × Us)} {i : Nat} {z : Int × Us} {L : List Nat} (hz : zs[i]? = some z) (h : (zs.take i).foldl (leftStep l) (some (plN l)) = some L) : (zs.take (i + 1)).foldl (leftStep l) (some (plN l)) = leftStep l (some L) z := by
  rw [List.take_add_one, hz, Option.toList_some, List.foldl_append, h]; rfl
theorem left_fail {l : List Gr} {zs : List (Int × Us)} {i : Nat} (h : (zs.take i).foldl (leftStep l) (some (plN l)) = none) : zs.foldl (leftStep l) (some (plN l)) = none := by
  rw [← List.take_append_drop i zs, List.foldl_append, h]; exact left_none l _
def LeftPost (w : World) (V : List Nat) (e : Ending) (w' : World) : Prop := ∃ A n c, e = .returned (.slice A n c) ∧ Recs enc1 1 w' w'.heap.size (.slice A n c) (zi V) ∧ Below w.heap.size w w'
set_option maxRecDepth 100000 in
set_option maxHeartbeats 16000000 in
theorem Left_any (l : List Gr) (U : List Us) (a : List Int) (A A2 A3 : Option Addr) (n c n2 c2 n3 c3 : Nat) (w : World) (hr : Recs encG 6 w w.heap.size (.slice A n c) l) (hu : Recs encU 4 w w.heap.size (.slice A2 n2 c2) U) (ha : Recs enc1 1 w w.heap.size (.slice A3 n3 c3) a) :
    Calls Try.prog 26 #[.slice A n c, .slice A2 n2 c2, .slice A3 n3 c3] w (LeftPost w (leftV l U a)) := by
  obtain ⟨hn, hc1, hc2⟩ := recs_cap hr
  obtain ⟨hn2, hc3, hc4⟩ := recs_cap hu
  obtain ⟨hn3, hc5, hc6⟩ := recs_cap ha
  have HR := Lib.hid hr
  have HU := Lib.hid hu
  have HA := Lib.hid ha
  have HN := Lib.hid hn
  have HN2 := Lib.hid hn2
  have HN3 := Lib.hid hn3
  have n9 : n ≤ 9223372036854775807 := by omega
  have n39 : n3 ≤ 9223372036854775807 := by omega
  have HG := Lib.hid (Valid_any l A n c w hr)
  have HV := Lib.hid (fun u (h : Below w.heap.size w u) => ValidUses_any U A2 n2 c2 u (HU.out.next h))
  obtain ⟨b0, hb0⟩ : ∃ b, validG l = b := ⟨_, rfl⟩
  obtain ⟨b1, hb1⟩ : ∃ b, validU U = b := ⟨_, rfl⟩
  rw [hb0] at HG
  rw [hb1] at HV
  have H0 := Lib.hid hb0
  have H1 := Lib.hid hb1
  clear hr hu ha hn hn2 hn3 hc1 hc2 hc3 hc4 hc5 hc6 hb0 hb1
  cases b0 with
  | false =>
    have HE := Lib.hid (show leftV l U a = [] by unfold leftV; rw [H0.out]; rfl)
    go_enter Try.func26, Try.ntmps26
    go_wp2_with (first | (go_at_call 13; (with_reducible refine Calls.mono HG.out ?_); rintro r u1 ⟨rfl, hb⟩; have Bc := Lib.hid hb; clear hb) | (go_at_call 15; (with_reducible refine Calls.mono (HV.out _ Bc.out) ?_); rintro r u2 ⟨rfl, hb⟩; have Bc := Lib.hid (below_to Bc.out hb); clear hb))
    go_ret
    exact ⟨_, _, _, rfl, by rw [HE.out]; exact recs_nil _ _ _ _, Bc.out⟩
  | true =>
    cases b1 with
    | false =>
      have HE := Lib.hid (show leftV l U a = [] by unfold leftV; rw [H0.out, H1.out]; rfl)
      go_enter Try.func26, Try.ntmps26
      go_wp2_with (first | (go_at_call 13; (with_reducible refine Calls.mono HG.out ?_); rintro r u1 ⟨rfl, hb⟩; have Bc := Lib.hid hb; clear hb) | (go_at_call 15; (with_reducible refine Calls.mono (HV.out _ Bc.out) ?_); rintro r u2 ⟨rfl, hb⟩; have Bc := Lib.hid (below_to Bc.out hb); clear hb))
      go_ret
      exact ⟨_, _, _, rfl, by rw [HE.out]; exact recs_nil _ _ _ _, Bc.out⟩
    | true =>
      by_cases h3 : n3 = n2
      · have e3 : ((n3 : Int) == (n2 : Int)) = true := by simp [h3]
        have HLL := Lib.hid (show a.length = U.length by have := HN2.out; have := HN3.out; omega)
        have HLV := Lib.hid (show leftV l U a = (leftO l U a).getD [] by unfold leftV; rw [H0.out, H1.out, decide_eq_true HLL.out]; rfl)
        rw [HLV.out]
        have HPL := Lib.hid (validG_plays H0.out)
        have HL12 := Lib.hid (validG_len H0.out)
        have HUR := Lib.hid (show ∀ u ∈ U, 0 ≤ u.region ∧ u.region ≤ 7 from fun u hu => okU_region (by have := H1.out; unfold validU at this; simp only [Bool.and_eq_true, List.all_eq_true] at this; exact this.2 u hu))
        clear h3 HLV
        go_enter Try.func26, Try.ntmps26
        go_upto_region 5 with (first | (go_at_call 13; (with_reducible refine Calls.mono HG.out ?_); rintro r u1 ⟨rfl, hb⟩; have Bc := Lib.hid hb; clear hb) | (go_at_call 15; (with_reducible refine Calls.mono (HV.out _ Bc.out) ?_); rintro r u2 ⟨rfl, hb⟩; have Bc := Lib.hid (below_to Bc.out hb); clear hb))
        have HG0 := Lib.hid (show Gat w w.heap.size (plN (l.take 0)) (.slice none 0 0) u2 from ⟨World.ownsRow_nil _ _ _ _, Bc.out, Nat.le_refl _, Bc.out.size⟩)
        clear Bc HG HV e3
        go_wp2
        go_loopw [7, 29] (fun o z wr => ∃ k : Nat, z = .int .i64 (k : Int) ∧ k ≤ n ∧ Hid (Gat w w.heap.size (plN (l.take k)) o wr)) (fun _ z _ => n - (intOf z).toNat)
        case atStart => exact ⟨0, rfl, Nat.zero_le _, HG0⟩
        case round =>
          clear HG0
          obtain ⟨k, rfl, hk, HW⟩ := hrel
          by_cases hlt : k < n
          · have hka : k < l.length := by have := HN.out; omega
            obtain ⟨b, o, rfl, hg, hcell⟩ := recs_at (HR.out.below HW.out.b) k hka
            obtain ⟨q, hq⟩ : ∃ q, l[k]? = some q := ⟨_, List.getElem?_eq_getElem hka⟩
            have HQ := Lib.hid hq
            have a0 : wr.cell? ⟨b, o + k * 6, none⟩ = some (.int .i64 q.item) := hcell k q hq 0 _ rfl
            have a1 : wr.cell? ⟨b, o + k * 6 + 1, none⟩ = some (.int .i64 q.acts) := hcell k q hq 1 _ rfl
            have a2 : wr.cell? ⟨b, o + k * 6 + 2, none⟩ = some (.int .i64 q.regions) := hcell k q hq 2 _ rfl
            have a3 : wr.cell? ⟨b, o + k * 6 + 3, none⟩ = some (.int .i64 q.plays) := hcell k q hq 3 _ rfl
            have a4 : wr.cell? ⟨b, o + k * 6 + 4, none⟩ = some (.int .i64 q.fr) := hcell k q hq 4 _ rfl
            have a5 : wr.cell? ⟨b, o + k * 6 + 5, none⟩ = some (.int .i64 q.tw) := hcell k q hq 5 _ rfl
            have lw := HW.out.b.size
            have g9 : b < wr.heap.size := by omega
            have k0 : (0 : Int) ≤ (k : Int) := by omega
            have k1 : (k : Int) < (n : Int) := by omega
            have HS3 := Lib.hid (show plN (l.take (k + 1)) = plN (l.take k) ++ [q.plays.toNat] by unfold plN; rw [List.take_add_one, HQ.out]; simp)
            have hq0 := (HPL.out q (List.mem_of_getElem? hq)).1
            have HLE := Lib.hid (show (plN (l.take k)).length ≤ 12 by rw [plN_len, List.length_take]; have := HL12.out; omega)
            obtain ⟨A2', c2', w2, hrun, hG, -⟩ := (HW.out.next ((Below.refl _ _).alloc (Nat.le_refl _) (.cells #[.int .i64 q.item, .int .i64 q.acts, .int .i64 q.regions, .int .i64 q.plays, .int .i64 q.fr, .int .i64 q.tw] 52))).push (by have := HLE.out; omega) q.plays q.plays.toNat (by omega)
            have HG2 := Lib.hid hG
            rw [World.size_alloc] at hrun
            clear hcell hq hG hq0 lw
            go_wp2
            go_roundw
            case rel => exact ⟨k + 1, by go_num, by omega, by rw [HS3.out]; exact HG2⟩
            case measure => simp [intOf]; omega
          · have k1 : ¬ (k : Int) < (n : Int) := by omega
            have HE := Lib.hid (show plN (l.take k) = plN l by rw [List.take_of_length_le (by have := HN.out; omega)])
            have HO := Lib.hid (show OwnN wr w.heap.size u7 (plN l) by rw [← HE.out]; exact HW.out.own)
            have HB := Lib.hid HW.out.b
            obtain ⟨Ao, co, rfl, -⟩ := own_slice HO.out
            obtain ⟨no, hno⟩ : ∃ m, (plN l).length = m := ⟨_, rfl⟩
            have HNO := Lib.hid (show no = l.length by rw [← hno, plN_len])
            rw [hno] at HO ⊢
            clear HW HE hno
            go_wp2
            go_loopw [41] (fun z wr2 => ∃ i : Nat, z = .int .i64 (i : Int) ∧ i ≤ n3 ∧ Hid (∃ L, ((a.zip U).take i).foldl (leftStep l) (some (plN l)) = some L ∧ (L.length = no ∧ ∀ x ∈ L, x ≤ 100) ∧ OwnN wr2 w.heap.size (.slice Ao no co) L ∧ Below w.heap.size w wr2)) (fun z _ => n3 - (intOf z).toNat)
            case atStart => exact ⟨0, rfl, Nat.zero_le _, Lib.hid ⟨plN l, rfl, ⟨by rw [plN_len]; exact HNO.out.symm, fun x hx => by
              unfold plN at hx
              obtain ⟨g, hg, rfl⟩ := List.mem_map.1 hx
              have := HPL.out g hg
              omega⟩, HO.out, HB.out⟩⟩
            case round =>
              clear HO HB
              obtain ⟨i, rfl, hi, HX⟩ := hrel
              obtain ⟨L, hL, hLn, hO, hB⟩ := HX.out
              have HLf := Lib.hid hL
              have HLn := Lib.hid hLn.1
              have HL100 := Lib.hid hLn.2
              have HO := Lib.hid hO
              have HB := Lib.hid hB
              clear HX hL hLn hO hB
              by_cases hin : i < n3
              · have hia : i < a.length := by have := HN3.out; omega
                have hiU : i < U.length := by have := HLL.out; omega
                obtain ⟨ga, oa, rfl, hga, hca⟩ := recs_at (HA.out.below HB.out) i hia
                obtain ⟨gu, ou, rfl, hgu, hcu⟩ := recs_at (HU.out.below HB.out) i hiU
                obtain ⟨x, hx⟩ : ∃ x, U[i]? = some x := ⟨_, List.getElem?_eq_getElem hiU⟩
                obtain ⟨kz, hkz⟩ : ∃ kz, a[i]? = some kz := ⟨_, List.getElem?_eq_getElem hia⟩
                have y_a : wr.cell? ⟨ga, oa + i, none⟩ = some (.int .i64 kz) := by have h1 := hca i kz hkz 0 _ rfl; rwa [Nat.mul_one, Nat.add_zero] at h1
                have HZ := Lib.hid (show (a.zip U)[i]? = some (kz, x) by rw [List.getElem?_zip_eq_some]; exact ⟨hkz, hx⟩)
                have HST := Lib.hid (left_step HZ.out HLf.out)
                have HRG := Lib.hid (HUR.out x (List.mem_of_getElem? hx))
                have lw := HB.out.size
                have ga1 : ga < wr.heap.size := by omega
                have i0 : (0 : Int) ≤ (i : Int) := by omega
                have i1 : (i : Int) < (n3 : Int) := by omega
                have HXU := Lib.hid hx
                have HCU := Lib.hid hcu
                have HGU := Lib.hid hgu
                have HX := Lib.hid HB.out
                clear hkz hx hca hcu hgu lw
                by_cases hk0 : kz < 0
                · have e1 : decide (kz < 0) = true := decide_eq_true hk0
                  have HE := Lib.hid (show (leftO l U a).getD [] = [] by
                    have h1 := HST.out
                    unfold leftStep at h1
                    simp only [Option.bind_some] at h1
                    rw [if_neg (fun h => by have := h.1; omega)] at h1
                    unfold leftO; rw [left_fail h1]; rfl)
                  go_upto_region 12 with fail
                  go_quiet (fail)
                  go_wp2_with fail
                  go_ret
                  exact ⟨_, _, _, rfl, by rw [HE.out]; exact recs_nil _ _ _ _, belowN HX.out _⟩
                · have e1 : decide (kz < 0) = false := decide_eq_false hk0
                  obtain ⟨j, rfl⟩ : ∃ j : Nat, kz = (j : Int) := ⟨kz.toNat, by omega⟩
                  clear hk0
                  by_cases hjn : j < n
                  · have e2 : decide ((n : Int) ≤ (j : Int)) = false := decide_eq_false (by omega)
                    have e2n : decide (n ≤ j) = false := decide_eq_false (by omega)
                    have hjl : j < l.length := by have := HN.out; omega
                    obtain ⟨gg, og, hAg, hgg, hcg⟩ := recs_at (HR.out.below HB.out) j hjl
                    subst hAg
                    obtain ⟨q, hq⟩ : ∃ q, l[j]? = some q := ⟨_, List.getElem?_eq_getElem hjl⟩
                    obtain ⟨go, hAo, go1, y_v⟩ := HO.out.at_ (q := j) (by have := HLn.out; have := HNO.out; omega)
                    subst hAo
                    obtain ⟨v, hv⟩ : ∃ v, L.getD j 0 = v := ⟨_, rfl⟩
                    rw [hv] at y_v
                    have HVV := Lib.hid hv
                    obtain ⟨pb, hpb⟩ : ∃ b, perB q x = b := ⟨_, rfl⟩
                    have HPE := Lib.hid (fun u => permits_any q x HRG.out.1 HRG.out.2 u)
                    rw [hpb] at HPE
                    have HLS := Lib.hid (show leftStep l (some L) ((j : Int), x) = if pb = true ∧ v ≠ 0 then some (L.set j (v - 1)) else none by
                      have hgq : l.getD j g0 = q := by rw [List.getD_eq_getElem?_getD, hq]; rfl
                      unfold leftStep
                      simp only [Option.bind_some, Int.toNat_natCast]
                      rw [hgq, hpb, hv]
                      by_cases hc : pb = true ∧ v ≠ 0
                      · rw [if_pos ⟨by omega, hjl, hc.1, hc.2⟩, if_pos hc]
                      · rw [if_neg (fun h => hc ⟨h.2.2.1, h.2.2.2⟩), if_neg hc])
                    have HFAIL := Lib.hid (fun (h : ¬ (pb = true ∧ v ≠ 0)) => (show (leftO l U a).getD [] = [] by
                      have h1 := HST.out
                      rw [HLS.out, if_neg h] at h1
                      unfold leftO; rw [left_fail h1]; rfl))
                    have HCX := HCU.out i x HXU.out
                    have HCQ := hcg j q hq
                    have HSK : Hid (∀ y, Below wr.heap.size wr y → Below wr.heap.size wr y ∧ y.cell? ⟨gg, og + j * 6, none⟩ = some (.int .i64 q.item) ∧ y.cell? ⟨gg, og + j * 6 + 1, none⟩ = some (.int .i64 q.acts) ∧ y.cell? ⟨gg, og + j * 6 + 2, none⟩ = some (.int .i64 q.regions) ∧ y.cell? ⟨gg, og + j * 6 + 3, none⟩ = some (.int .i64 q.plays) ∧ y.cell? ⟨gg, og + j * 6 + 4, none⟩ = some (.int .i64 q.fr) ∧ y.cell? ⟨gg, og + j * 6 + 5, none⟩ = some (.int .i64 q.tw) ∧ y.cell? ⟨gu, ou + i * 4, none⟩ = some (.int .i64 x.item) ∧ y.cell? ⟨gu, ou + i * 4 + 1, none⟩ = some (.int .i64 x.acts) ∧ y.cell? ⟨gu, ou + i * 4 + 2, none⟩ = some (.int .i64 x.region) ∧ y.cell? ⟨gu, ou + i * 4 + 3, none⟩ = some (.int .i64 x.at_) ∧ y.cell? ⟨go, j, none⟩ = some (.int .i64 (v : Int))) := Lib.hid (fun y hy => ⟨hy, (hy.cell (p := ⟨gg, og + j * 6, none⟩) (by dsimp only; have := HB.out.size; omega)).trans (HCQ 0 _ rfl), (hy.cell (p := ⟨gg, og + j * 6 + 1, none⟩) (by dsimp only; have := HB.out.size; omega)).trans (HCQ 1 _ rfl), (hy.cell (p := ⟨gg, og + j * 6 + 2, none⟩) (by dsimp only; have := HB.out.size; omega)).trans (HCQ 2 _ rfl), (hy.cell (p := ⟨gg, og + j * 6 + 3, none⟩) (by dsimp only; have := HB.out.size; omega)).trans (HCQ 3 _ rfl), (hy.cell (p := ⟨gg, og + j * 6 + 4, none⟩) (by dsimp only; have := HB.out.size; omega)).trans (HCQ 4 _ rfl), (hy.cell (p := ⟨gg, og + j * 6 + 5, none⟩) (by dsimp only; have := HB.out.size; omega)).trans (HCQ 5 _ rfl), (hy.cell (p := ⟨gu, ou + i * 4, none⟩) (by dsimp only; have := HB.out.size; have := HGU.out; omega)).trans (HCX 0 _ rfl), (hy.cell (p := ⟨gu, ou + i * 4 + 1, none⟩) (by dsimp only; have := HB.out.size; have := HGU.out; omega)).trans (HCX 1 _ rfl), (hy.cell (p := ⟨gu, ou + i * 4 + 2, none⟩) (by dsimp only; have := HB.out.size; have := HGU.out; omega)).trans (HCX 2 _ rfl), (hy.cell (p := ⟨gu, ou + i * 4 + 3, none⟩) (by dsimp only; have := HB.out.size; have := HGU.out; omega)).trans (HCX 3 _ rfl), (hy.cell (p := ⟨go, j, none⟩) go1).trans y_v⟩)
                    have gg1 : gg < wr.heap.size := by have := HB.out.size; omega
                    have gu1 : gu < wr.heap.size := by have := HB.out.size; have := HGU.out; omega
                    have j0 : (0 : Int) ≤ (j : Int) := by omega
                    have j1 : (j : Int) < (n : Int) := by omega
                    have j2 : (j : Int) < (no : Int) := by have := HNO.out; have := HN.out; omega
                    have i2 : (i : Int) < (n2 : Int) := by have := HN2.out; omega
                    have HJ := Lib.hid hjl
                    clear hcg hq hpb HCX HCQ hgg hjn hv hjl
                    cases pb with
                    | false =>
                      have HE := Lib.hid (HFAIL.out (fun h => by have := h.1; cases this))
                      go_upto_region 12 with fail
                      clear y_v gg1 gu1
                      refine wp_region_noPanic ?_
                      refine wp_region_held_drew (S := (fun y => Below wr.heap.size wr y ∧ y.cell? ⟨gg, og + j * 6, none⟩ = some (.int .i64 q.item) ∧ y.cell? ⟨gg, og + j * 6 + 1, none⟩ = some (.int .i64 q.acts) ∧ y.cell? ⟨gg, og + j * 6 + 2, none⟩ = some (.int .i64 q.regions) ∧ y.cell? ⟨gg, og + j * 6 + 3, none⟩ = some (.int .i64 q.plays) ∧ y.cell? ⟨gg, og + j * 6 + 4, none⟩ = some (.int .i64 q.fr) ∧ y.cell? ⟨gg, og + j * 6 + 5, none⟩ = some (.int .i64 q.tw) ∧ y.cell? ⟨gu, ou + i * 4, none⟩ = some (.int .i64 x.item) ∧ y.cell? ⟨gu, ou + i * 4 + 1, none⟩ = some (.int .i64 x.acts) ∧ y.cell? ⟨gu, ou + i * 4 + 2, none⟩ = some (.int .i64 x.region) ∧ y.cell? ⟨gu, ou + i * 4 + 3, none⟩ = some (.int .i64 x.at_) ∧ y.cell? ⟨go, j, none⟩ = some (.int .i64 (v : Int)))) (by kernel_rfl) ?_ (fun hHeld => ?_)
                      · exact HSK.out _ (Below.refl _ _).drew
                      refine wpAnyH_take (i := 0) (oi := _) (v := ?_) rfl (by kernel_rfl) (by kernel_rfl) (by kernel_rfl) (fun _ _ _ h => h) (Or.inl ⟨by rfl, ?_⟩) (by assumption) ?_
                      rotate_left
                      · (intro w hSw; (try dsimp only at hSw); go_simp; all_goals (with_reducible rfl))
                      simp only [Act.put, List.getElem_toArray, List.getElem_cons_zero, List.setIfInBounds_toArray, List.set_cons_zero, List.set_cons_succ]
                      refine wpAnyH_take (i := 1) (oi := _) (v := ?_) rfl (by kernel_rfl) (by kernel_rfl) (by kernel_rfl) (fun _ _ _ h => h) (Or.inl ⟨by rfl, ?_⟩) (by assumption) ?_
                      rotate_left
                      · (intro w hSw; (try dsimp only at hSw); go_simp; all_goals (with_reducible rfl))
                      simp only [Act.put, List.getElem_toArray, List.getElem_cons_succ, List.getElem_cons_zero, List.setIfInBounds_toArray, List.set_cons_zero, List.set_cons_succ]
                      refine wpAnyH_take (i := 2) (oi := _) (v := ?_) rfl (by kernel_rfl) (by kernel_rfl) (by kernel_rfl) (fun _ _ _ h => h) (Or.inl ⟨by rfl, ?_⟩) (by assumption) ?_
                      rotate_left
                      · (intro w hSw; (try dsimp only at hSw); go_simp; all_goals (with_reducible rfl))
                      simp only [Act.put, List.getElem_toArray, List.getElem_cons_succ, List.getElem_cons_zero, List.setIfInBounds_toArray, List.set_cons_zero, List.set_cons_succ]
                      refine wpAnyH_take (i := 3) (oi := _) (v := ?_) rfl (by kernel_rfl) (by kernel_rfl) (by kernel_rfl) (fun _ _ _ h => h) (Or.inl ⟨by rfl, ?_⟩) (by assumption) ?_
                      rotate_left
                      · (intro w hSw; (try dsimp only at hSw); go_simp; all_goals (with_reducible rfl))
                      simp only [Act.put, List.getElem_toArray, List.getElem_cons_succ, List.getElem_cons_zero, List.setIfInBounds_toArray, List.set_cons_zero, List.set_cons_succ]
                      refine wpAnyH_take (i := 4) (oi := _) (v := ?_) rfl (by kernel_rfl) (by kernel_rfl) (by kernel_rfl) (fun _ _ _ h => h) (Or.inl ⟨by rfl, ?_⟩) (by assumption) ?_
                      rotate_left
                      · (intro w hSw; (try dsimp only at hSw); go_simp; all_goals (with_reducible rfl))
                      simp only [Act.put, List.getElem_toArray, List.getElem_cons_succ, List.getElem_cons_zero, List.setIfInBounds_toArray, List.set_cons_zero, List.set_cons_succ]
                      refine wpAnyH_take (i := 5) (oi := _) (v := ?_) rfl (by kernel_rfl) (by kernel_rfl) (by kernel_rfl) (fun _ _ _ h => h) (Or.inl ⟨by rfl, ?_⟩) (by assumption) ?_
                      rotate_left
                      · (intro w hSw; (try dsimp only at hSw); go_simp; all_goals (with_reducible rfl))
                      simp only [Act.put, List.getElem_toArray, List.getElem_cons_succ, List.getElem_cons_zero, List.setIfInBounds_toArray, List.set_cons_zero, List.set_cons_succ]
                      refine wpAnyH_take (i := 6) (oi := _) (v := ?_) rfl (by kernel_rfl) (by kernel_rfl) (by kernel_rfl) (fun _ _ _ h => h) (Or.inl ⟨by rfl, ?_⟩) (by assumption) ?_
                      rotate_left
                      · (intro w hSw; (try dsimp only at hSw); go_simp; all_goals (with_reducible rfl))
                      simp only [Act.put, List.getElem_toArray, List.getElem_cons_succ, List.getElem_cons_zero, List.setIfInBounds_toArray, List.set_cons_zero, List.set_cons_succ]
                      refine wpAnyH_take (i := 7) (oi := _) (v := ?_) rfl (by kernel_rfl) (by kernel_rfl) (by kernel_rfl) (fun _ _ _ h => h) (Or.inl ⟨by rfl, ?_⟩) (by assumption) ?_
                      rotate_left
                      · (intro w hSw; (try dsimp only at hSw); go_simp; all_goals (with_reducible rfl))
                      simp only [Act.put, List.getElem_toArray, List.getElem_cons_succ, List.getElem_cons_zero, List.setIfInBounds_toArray, List.set_cons_zero, List.set_cons_succ]
                      refine wpAnyH_take (i := 8) (oi := _) (v := ?_) rfl (by kernel_rfl) (by kernel_rfl) (by kernel_rfl) (fun _ _ _ h => h) (Or.inl ⟨by rfl, ?_⟩) (by assumption) ?_
                      rotate_left
                      · (intro w hSw; (try dsimp only at hSw); go_simp; all_goals (with_reducible rfl))
                      simp only [Act.put, List.getElem_toArray, List.getElem_cons_succ, List.getElem_cons_zero, List.setIfInBounds_toArray, List.set_cons_zero, List.set_cons_succ]
                      refine wpAnyH_take (i := 9) (oi := _) (v := ?_) rfl (by kernel_rfl) (by kernel_rfl) (by kernel_rfl) (fun _ _ _ h => h) (Or.inl ⟨by rfl, ?_⟩) (by assumption) ?_
                      rotate_left
                      · (intro w hSw; (try dsimp only at hSw); go_simp; all_goals (with_reducible rfl))
                      simp only [Act.put, List.getElem_toArray, List.getElem_cons_succ, List.getElem_cons_zero, List.setIfInBounds_toArray, List.set_cons_zero, List.set_cons_succ]
                      refine wpAnyH_take (i := 10) (oi := _) (v := ?_) rfl (by kernel_rfl) (by kernel_rfl) (by kernel_rfl) (fun _ _ _ h => h) (Or.inl ⟨by rfl, ?_⟩) (by assumption) ?_
                      rotate_left
                      · (intro w hSw; (try dsimp only at hSw); go_simp; all_goals (with_reducible rfl))
                      simp only [Act.put, List.getElem_toArray, List.getElem_cons_succ, List.getElem_cons_zero, List.setIfInBounds_toArray, List.set_cons_zero, List.set_cons_succ]
                      refine wpAnyH_take (i := 11) (oi := _) (v := ?_) rfl (by kernel_rfl) (by kernel_rfl) (by kernel_rfl) (fun _ _ _ h => h) (Or.inl ⟨by rfl, ?_⟩) (by assumption) ?_
                      rotate_left
                      · (intro w hSw; (try dsimp only at hSw); go_simp; all_goals (with_reducible rfl))
                      simp only [Act.put, List.getElem_toArray, List.getElem_cons_succ, List.getElem_cons_zero, List.setIfInBounds_toArray, List.set_cons_zero, List.set_cons_succ]
                      refine wpAnyH_take (i := 12) (oi := _) (v := ?_) rfl (by kernel_rfl) (by kernel_rfl) (by kernel_rfl) (fun _ _ _ h => h) (Or.inl ⟨by rfl, ?_⟩) (by assumption) ?_
                      rotate_left
                      · (intro w hSw; (try dsimp only at hSw); go_simp; all_goals (with_reducible rfl))
                      simp only [Act.put, List.getElem_toArray, List.getElem_cons_succ, List.getElem_cons_zero, List.setIfInBounds_toArray, List.set_cons_zero, List.set_cons_succ]
                      refine wpAnyH_take (i := 13) (oi := _) (v := ?_) rfl (by kernel_rfl) (by kernel_rfl) (by kernel_rfl) (fun _ _ _ h => h) (Or.inl ⟨by rfl, ?_⟩) (by assumption) ?_
                      rotate_left
                      · (intro w hSw; (try dsimp only at hSw); go_simp; all_goals (with_reducible rfl))
                      simp only [Act.put, List.getElem_toArray, List.getElem_cons_succ, List.getElem_cons_zero, List.setIfInBounds_toArray, List.set_cons_zero, List.set_cons_succ]
                      refine wpAnyH_take (i := 14) (oi := _) (v := ?_) rfl (by kernel_rfl) (by kernel_rfl) (by kernel_rfl) (fun _ _ _ h => h) (Or.inl ⟨by rfl, ?_⟩) (by assumption) ?_
                      rotate_left
                      · (intro w hSw; (try dsimp only at hSw); go_simp; all_goals (with_reducible rfl))
                      simp only [Act.put, List.getElem_toArray, List.getElem_cons_succ, List.getElem_cons_zero, List.setIfInBounds_toArray, List.set_cons_zero, List.set_cons_succ]
                      refine wpAnyH_take (i := 15) (oi := _) (v := ?_) rfl (by kernel_rfl) (by kernel_rfl) (by kernel_rfl) (fun _ _ _ h => h) (Or.inl ⟨by rfl, ?_⟩) (by assumption) ?_
                      rotate_left
                      · (intro w hSw; (try dsimp only at hSw); go_simp; all_goals (with_reducible rfl))
                      simp only [Act.put, List.getElem_toArray, List.getElem_cons_succ, List.getElem_cons_zero, List.setIfInBounds_toArray, List.set_cons_zero, List.set_cons_succ]
                      refine wpAnyH_take (i := 16) (oi := _) (v := ?_) rfl (by kernel_rfl) (by kernel_rfl) (by kernel_rfl) (fun _ _ _ h => h) (Or.inl ⟨by rfl, ?_⟩) (by assumption) ?_
                      rotate_left
                      · (intro w hSw; (try dsimp only at hSw); go_simp; all_goals (with_reducible rfl))
                      simp only [Act.put, List.getElem_toArray, List.getElem_cons_succ, List.getElem_cons_zero, List.setIfInBounds_toArray, List.set_cons_zero, List.set_cons_succ]
                      refine wpAnyH_ready (rs := [17]) (by kernel_rfl) (by simp) ?_
                      refine AllReadyH.cons (o := _) rfl (fun K hK => ?_) ?_
                      · go_simp
                        (go_at_call 46; ((with_reducible refine Calls.mono (HPE.out _) ?_); rintro r u9 ⟨rfl, b5⟩))
                        refine hK.out _ _ ?_ (fun hHeld => ?_)
                        · (try dsimp only)
                          exact HSK.out _ (below_to hHeld.1 b5)
                        clear hK K
                        (try simp only [Act.put, List.setIfInBounds_toArray, List.set_cons_zero, List.set_cons_succ])
                        refine wpAnyH_take (i := 18) (oi := _) (v := ?_) rfl (by kernel_rfl) (by kernel_rfl) (by kernel_rfl) (fun _ _ _ h => h) (Or.inl ⟨by rfl, ?_⟩) (by assumption) ?_
                        rotate_left
                        · (intro w hSw; (try dsimp only at hSw); go_simp; all_goals (with_reducible rfl))
                        simp only [Act.put, List.getElem_toArray, List.getElem_cons_succ, List.getElem_cons_zero, List.setIfInBounds_toArray, List.set_cons_zero, List.set_cons_succ]
                        refine wpAnyH_take (i := 19) (oi := _) (v := ?_) rfl (by kernel_rfl) (by kernel_rfl) (by kernel_rfl) (fun _ _ _ h => h) (Or.inl ⟨by rfl, ?_⟩) (by assumption) ?_
                        rotate_left
                        · (intro w hSw; (try dsimp only at hSw); go_simp; all_goals (with_reducible rfl))
                        simp only [Act.put, List.getElem_toArray, List.getElem_cons_succ, List.getElem_cons_zero, List.setIfInBounds_toArray, List.set_cons_zero, List.set_cons_succ]
                        refine wpAnyH_take (i := 20) (oi := _) (v := ?_) rfl (by kernel_rfl) (by kernel_rfl) (by kernel_rfl) (fun _ _ _ h => h) (Or.inl ⟨by rfl, ?_⟩) (by assumption) ?_
                        rotate_left
                        · (intro w hSw; (try dsimp only at hSw); go_simp; all_goals (with_reducible rfl))
                        simp only [Act.put, List.getElem_toArray, List.getElem_cons_succ, List.getElem_cons_zero, List.setIfInBounds_toArray, List.set_cons_zero, List.set_cons_succ]
                        refine wpAnyH_take (i := 21) (oi := _) (v := undef) rfl (by kernel_rfl) (by kernel_rfl) (by kernel_rfl) (fun _ _ _ h => h) (Or.inr ⟨by rfl, rfl⟩) (by assumption) ?_
                        simp only [Act.put, List.getElem_toArray, List.getElem_cons_succ, List.getElem_cons_zero, List.setIfInBounds_toArray, List.set_cons_zero, List.set_cons_succ]
                        refine wpAnyH_take (i := 22) (oi := _) (v := undef) rfl (by kernel_rfl) (by kernel_rfl) (by kernel_rfl) (fun _ _ _ h => h) (Or.inr ⟨by rfl, rfl⟩) (by assumption) ?_
                        simp only [Act.put, List.getElem_toArray, List.getElem_cons_succ, List.getElem_cons_zero, List.setIfInBounds_toArray, List.set_cons_zero, List.set_cons_succ]
                        refine wpAnyH_take (i := 23) (oi := _) (v := undef) rfl (by kernel_rfl) (by kernel_rfl) (by kernel_rfl) (fun _ _ _ h => h) (Or.inr ⟨by rfl, rfl⟩) (by assumption) ?_
                        simp only [Act.put, List.getElem_toArray, List.getElem_cons_succ, List.getElem_cons_zero, List.setIfInBounds_toArray, List.set_cons_zero, List.set_cons_succ]
                        refine wpAnyH_take (i := 24) (oi := _) (v := undef) rfl (by kernel_rfl) (by kernel_rfl) (by kernel_rfl) (fun _ _ _ h => h) (Or.inr ⟨by rfl, rfl⟩) (by assumption) ?_
                        simp only [Act.put, List.getElem_toArray, List.getElem_cons_succ, List.getElem_cons_zero, List.setIfInBounds_toArray, List.set_cons_zero, List.set_cons_succ]
                        refine wpAnyH_take (i := 25) (oi := _) (v := undef) rfl (by kernel_rfl) (by kernel_rfl) (by kernel_rfl) (fun _ _ _ h => h) (Or.inr ⟨by rfl, rfl⟩) (by assumption) ?_
                        simp only [Act.put, List.getElem_toArray, List.getElem_cons_succ, List.getElem_cons_zero, List.setIfInBounds_toArray, List.set_cons_zero, List.set_cons_succ]
                        refine wpAnyH_take (i := 26) (oi := _) (v := ?_) rfl (by kernel_rfl) (by kernel_rfl) (by kernel_rfl) (fun _ _ _ h => h) (Or.inl ⟨by rfl, ?_⟩) (by assumption) ?_
                        rotate_left
                        · (intro w hSw; (try dsimp only at hSw); go_simp; all_goals (with_reducible rfl))
                        simp only [Act.put, List.getElem_toArray, List.getElem_cons_succ, List.getElem_cons_zero, List.setIfInBounds_toArray, List.set_cons_zero, List.set_cons_succ]
                        refine wpAnyH_done (by kernel_rfl) ?_ _
                        refine NoPanic.normal ?_
                        have HX := Lib.hid (below_to HB.out hHeld.1)
                        go_wp2_with fail
                        go_ret
                        exact ⟨_, _, _, rfl, by rw [HE.out]; exact recs_nil _ _ _ _, HX.out⟩
                      exact AllReadyH.nil
                    | true =>
                      by_cases hv0 : v = 0
                      · have e5 : ((v : Int) == 0) = true := by simp [hv0]
                        have e5n : (v == 0) = true := by simp [hv0]
                        have HE := Lib.hid (HFAIL.out (fun h => h.2 hv0))
                        clear hv0
                        go_upto_region 12 with fail
                        clear y_v gg1 gu1
                        refine wp_region_noPanic ?_
                        refine wp_region_held_drew (S := (fun y => Below wr.heap.size wr y ∧ y.cell? ⟨gg, og + j * 6, none⟩ = some (.int .i64 q.item) ∧ y.cell? ⟨gg, og + j * 6 + 1, none⟩ = some (.int .i64 q.acts) ∧ y.cell? ⟨gg, og + j * 6 + 2, none⟩ = some (.int .i64 q.regions) ∧ y.cell? ⟨gg, og + j * 6 + 3, none⟩ = some (.int .i64 q.plays) ∧ y.cell? ⟨gg, og + j * 6 + 4, none⟩ = some (.int .i64 q.fr) ∧ y.cell? ⟨gg, og + j * 6 + 5, none⟩ = some (.int .i64 q.tw) ∧ y.cell? ⟨gu, ou + i * 4, none⟩ = some (.int .i64 x.item) ∧ y.cell? ⟨gu, ou + i * 4 + 1, none⟩ = some (.int .i64 x.acts) ∧ y.cell? ⟨gu, ou + i * 4 + 2, none⟩ = some (.int .i64 x.region) ∧ y.cell? ⟨gu, ou + i * 4 + 3, none⟩ = some (.int .i64 x.at_) ∧ y.cell? ⟨go, j, none⟩ = some (.int .i64 (v : Int)))) (by kernel_rfl) ?_ (fun hHeld => ?_)
                        · exact HSK.out _ (Below.refl _ _).drew
                        refine wpAnyH_take (i := 0) (oi := _) (v := ?_) rfl (by kernel_rfl) (by kernel_rfl) (by kernel_rfl) (fun _ _ _ h => h) (Or.inl ⟨by rfl, ?_⟩) (by assumption) ?_
                        rotate_left
                        · (intro w hSw; (try dsimp only at hSw); go_simp; all_goals (with_reducible rfl))
                        simp only [Act.put, List.getElem_toArray, List.getElem_cons_zero, List.setIfInBounds_toArray, List.set_cons_zero, List.set_cons_succ]
                        refine wpAnyH_take (i := 1) (oi := _) (v := ?_) rfl (by kernel_rfl) (by kernel_rfl) (by kernel_rfl) (fun _ _ _ h => h) (Or.inl ⟨by rfl, ?_⟩) (by assumption) ?_
                        rotate_left
                        · (intro w hSw; (try dsimp only at hSw); go_simp; all_goals (with_reducible rfl))
                        simp only [Act.put, List.getElem_toArray, List.getElem_cons_succ, List.getElem_cons_zero, List.setIfInBounds_toArray, List.set_cons_zero, List.set_cons_succ]
                        refine wpAnyH_take (i := 2) (oi := _) (v := ?_) rfl (by kernel_rfl) (by kernel_rfl) (by kernel_rfl) (fun _ _ _ h => h) (Or.inl ⟨by rfl, ?_⟩) (by assumption) ?_
                        rotate_left
                        · (intro w hSw; (try dsimp only at hSw); go_simp; all_goals (with_reducible rfl))
                        simp only [Act.put, List.getElem_toArray, List.getElem_cons_succ, List.getElem_cons_zero, List.setIfInBounds_toArray, List.set_cons_zero, List.set_cons_succ]
                        refine wpAnyH_take (i := 3) (oi := _) (v := ?_) rfl (by kernel_rfl) (by kernel_rfl) (by kernel_rfl) (fun _ _ _ h => h) (Or.inl ⟨by rfl, ?_⟩) (by assumption) ?_
                        rotate_left
                        · (intro w hSw; (try dsimp only at hSw); go_simp; all_goals (with_reducible rfl))
                        simp only [Act.put, List.getElem_toArray, List.getElem_cons_succ, List.getElem_cons_zero, List.setIfInBounds_toArray, List.set_cons_zero, List.set_cons_succ]
                        refine wpAnyH_take (i := 4) (oi := _) (v := ?_) rfl (by kernel_rfl) (by kernel_rfl) (by kernel_rfl) (fun _ _ _ h => h) (Or.inl ⟨by rfl, ?_⟩) (by assumption) ?_
                        rotate_left
                        · (intro w hSw; (try dsimp only at hSw); go_simp; all_goals (with_reducible rfl))
                        simp only [Act.put, List.getElem_toArray, List.getElem_cons_succ, List.getElem_cons_zero, List.setIfInBounds_toArray, List.set_cons_zero, List.set_cons_succ]
                        refine wpAnyH_take (i := 5) (oi := _) (v := ?_) rfl (by kernel_rfl) (by kernel_rfl) (by kernel_rfl) (fun _ _ _ h => h) (Or.inl ⟨by rfl, ?_⟩) (by assumption) ?_
                        rotate_left
                        · (intro w hSw; (try dsimp only at hSw); go_simp; all_goals (with_reducible rfl))
                        simp only [Act.put, List.getElem_toArray, List.getElem_cons_succ, List.getElem_cons_zero, List.setIfInBounds_toArray, List.set_cons_zero, List.set_cons_succ]
                        refine wpAnyH_take (i := 6) (oi := _) (v := ?_) rfl (by kernel_rfl) (by kernel_rfl) (by kernel_rfl) (fun _ _ _ h => h) (Or.inl ⟨by rfl, ?_⟩) (by assumption) ?_
                        rotate_left
                        · (intro w hSw; (try dsimp only at hSw); go_simp; all_goals (with_reducible rfl))
                        simp only [Act.put, List.getElem_toArray, List.getElem_cons_succ, List.getElem_cons_zero, List.setIfInBounds_toArray, List.set_cons_zero, List.set_cons_succ]
                        refine wpAnyH_take (i := 7) (oi := _) (v := ?_) rfl (by kernel_rfl) (by kernel_rfl) (by kernel_rfl) (fun _ _ _ h => h) (Or.inl ⟨by rfl, ?_⟩) (by assumption) ?_
                        rotate_left
                        · (intro w hSw; (try dsimp only at hSw); go_simp; all_goals (with_reducible rfl))
                        simp only [Act.put, List.getElem_toArray, List.getElem_cons_succ, List.getElem_cons_zero, List.setIfInBounds_toArray, List.set_cons_zero, List.set_cons_succ]
                        refine wpAnyH_take (i := 8) (oi := _) (v := ?_) rfl (by kernel_rfl) (by kernel_rfl) (by kernel_rfl) (fun _ _ _ h => h) (Or.inl ⟨by rfl, ?_⟩) (by assumption) ?_
                        rotate_left
                        · (intro w hSw; (try dsimp only at hSw); go_simp; all_goals (with_reducible rfl))
                        simp only [Act.put, List.getElem_toArray, List.getElem_cons_succ, List.getElem_cons_zero, List.setIfInBounds_toArray, List.set_cons_zero, List.set_cons_succ]
                        refine wpAnyH_take (i := 9) (oi := _) (v := ?_) rfl (by kernel_rfl) (by kernel_rfl) (by kernel_rfl) (fun _ _ _ h => h) (Or.inl ⟨by rfl, ?_⟩) (by assumption) ?_
                        rotate_left
                        · (intro w hSw; (try dsimp only at hSw); go_simp; all_goals (with_reducible rfl))
                        simp only [Act.put, List.getElem_toArray, List.getElem_cons_succ, List.getElem_cons_zero, List.setIfInBounds_toArray, List.set_cons_zero, List.set_cons_succ]
                        refine wpAnyH_take (i := 10) (oi := _) (v := ?_) rfl (by kernel_rfl) (by kernel_rfl) (by kernel_rfl) (fun _ _ _ h => h) (Or.inl ⟨by rfl, ?_⟩) (by assumption) ?_
                        rotate_left
                        · (intro w hSw; (try dsimp only at hSw); go_simp; all_goals (with_reducible rfl))
                        simp only [Act.put, List.getElem_toArray, List.getElem_cons_succ, List.getElem_cons_zero, List.setIfInBounds_toArray, List.set_cons_zero, List.set_cons_succ]
                        refine wpAnyH_take (i := 11) (oi := _) (v := ?_) rfl (by kernel_rfl) (by kernel_rfl) (by kernel_rfl) (fun _ _ _ h => h) (Or.inl ⟨by rfl, ?_⟩) (by assumption) ?_
                        rotate_left
                        · (intro w hSw; (try dsimp only at hSw); go_simp; all_goals (with_reducible rfl))
                        simp only [Act.put, List.getElem_toArray, List.getElem_cons_succ, List.getElem_cons_zero, List.setIfInBounds_toArray, List.set_cons_zero, List.set_cons_succ]
                        refine wpAnyH_take (i := 12) (oi := _) (v := ?_) rfl (by kernel_rfl) (by kernel_rfl) (by kernel_rfl) (fun _ _ _ h => h) (Or.inl ⟨by rfl, ?_⟩) (by assumption) ?_
                        rotate_left
                        · (intro w hSw; (try dsimp only at hSw); go_simp; all_goals (with_reducible rfl))
                        simp only [Act.put, List.getElem_toArray, List.getElem_cons_succ, List.getElem_cons_zero, List.setIfInBounds_toArray, List.set_cons_zero, List.set_cons_succ]
                        refine wpAnyH_take (i := 13) (oi := _) (v := ?_) rfl (by kernel_rfl) (by kernel_rfl) (by kernel_rfl) (fun _ _ _ h => h) (Or.inl ⟨by rfl, ?_⟩) (by assumption) ?_
                        rotate_left
                        · (intro w hSw; (try dsimp only at hSw); go_simp; all_goals (with_reducible rfl))
                        simp only [Act.put, List.getElem_toArray, List.getElem_cons_succ, List.getElem_cons_zero, List.setIfInBounds_toArray, List.set_cons_zero, List.set_cons_succ]
                        refine wpAnyH_take (i := 14) (oi := _) (v := ?_) rfl (by kernel_rfl) (by kernel_rfl) (by kernel_rfl) (fun _ _ _ h => h) (Or.inl ⟨by rfl, ?_⟩) (by assumption) ?_
                        rotate_left
                        · (intro w hSw; (try dsimp only at hSw); go_simp; all_goals (with_reducible rfl))
                        simp only [Act.put, List.getElem_toArray, List.getElem_cons_succ, List.getElem_cons_zero, List.setIfInBounds_toArray, List.set_cons_zero, List.set_cons_succ]
                        refine wpAnyH_take (i := 15) (oi := _) (v := ?_) rfl (by kernel_rfl) (by kernel_rfl) (by kernel_rfl) (fun _ _ _ h => h) (Or.inl ⟨by rfl, ?_⟩) (by assumption) ?_
                        rotate_left
                        · (intro w hSw; (try dsimp only at hSw); go_simp; all_goals (with_reducible rfl))
                        simp only [Act.put, List.getElem_toArray, List.getElem_cons_succ, List.getElem_cons_zero, List.setIfInBounds_toArray, List.set_cons_zero, List.set_cons_succ]
                        refine wpAnyH_take (i := 16) (oi := _) (v := ?_) rfl (by kernel_rfl) (by kernel_rfl) (by kernel_rfl) (fun _ _ _ h => h) (Or.inl ⟨by rfl, ?_⟩) (by assumption) ?_
                        rotate_left
                        · (intro w hSw; (try dsimp only at hSw); go_simp; all_goals (with_reducible rfl))
                        simp only [Act.put, List.getElem_toArray, List.getElem_cons_succ, List.getElem_cons_zero, List.setIfInBounds_toArray, List.set_cons_zero, List.set_cons_succ]
                        refine wpAnyH_ready (rs := [17]) (by kernel_rfl) (by simp) ?_
                        refine AllReadyH.cons (o := _) rfl (fun K hK => ?_) ?_
                        · go_simp
                          (go_at_call 46; ((with_reducible refine Calls.mono (HPE.out _) ?_); rintro r u9 ⟨rfl, b5⟩))
                          refine hK.out _ _ ?_ (fun hHeld => ?_)
                          · (try dsimp only)
                            exact HSK.out _ (below_to hHeld.1 b5)
                          clear hK K
                          (try simp only [Act.put, List.setIfInBounds_toArray, List.set_cons_zero, List.set_cons_succ])
                          refine wpAnyH_take (i := 18) (oi := _) (v := ?_) rfl (by kernel_rfl) (by kernel_rfl) (by kernel_rfl) (fun _ _ _ h => h) (Or.inl ⟨by rfl, ?_⟩) (by assumption) ?_
                          rotate_left
                          · (intro w hSw; (try dsimp only at hSw); go_simp; all_goals (with_reducible rfl))
                          simp only [Act.put, List.getElem_toArray, List.getElem_cons_succ, List.getElem_cons_zero, List.setIfInBounds_toArray, List.set_cons_zero, List.set_cons_succ]
                          refine wpAnyH_take (i := 19) (oi := _) (v := ?_) rfl (by kernel_rfl) (by kernel_rfl) (by kernel_rfl) (fun _ _ _ h => h) (Or.inl ⟨by rfl, ?_⟩) (by assumption) ?_
                          rotate_left
                          · (intro w hSw; (try dsimp only at hSw); go_simp; all_goals (with_reducible rfl))
                          simp only [Act.put, List.getElem_toArray, List.getElem_cons_succ, List.getElem_cons_zero, List.setIfInBounds_toArray, List.set_cons_zero, List.set_cons_succ]
                          refine wpAnyH_take (i := 20) (oi := _) (v := ?_) rfl (by kernel_rfl) (by kernel_rfl) (by kernel_rfl) (fun _ _ _ h => h) (Or.inl ⟨by rfl, ?_⟩) (by assumption) ?_
                          rotate_left
                          · (intro w hSw; (try dsimp only at hSw); go_simp; all_goals (with_reducible rfl))
                          simp only [Act.put, List.getElem_toArray, List.getElem_cons_succ, List.getElem_cons_zero, List.setIfInBounds_toArray, List.set_cons_zero, List.set_cons_succ]
                          refine wpAnyH_take (i := 21) (oi := _) (v := ?_) rfl (by kernel_rfl) (by kernel_rfl) (by kernel_rfl) (fun _ _ _ h => h) (Or.inl ⟨by rfl, ?_⟩) (by assumption) ?_
                          rotate_left
                          · (intro w hSw; (try dsimp only at hSw); go_simp; all_goals (with_reducible rfl))
                          simp only [Act.put, List.getElem_toArray, List.getElem_cons_succ, List.getElem_cons_zero, List.setIfInBounds_toArray, List.set_cons_zero, List.set_cons_succ]
                          refine wpAnyH_take (i := 22) (oi := _) (v := ?_) rfl (by kernel_rfl) (by kernel_rfl) (by kernel_rfl) (fun _ _ _ h => h) (Or.inl ⟨by rfl, ?_⟩) (by assumption) ?_
                          rotate_left
                          · (intro w hSw; (try dsimp only at hSw); go_simp; all_goals (with_reducible rfl))
                          simp only [Act.put, List.getElem_toArray, List.getElem_cons_succ, List.getElem_cons_zero, List.setIfInBounds_toArray, List.set_cons_zero, List.set_cons_succ]
                          refine wpAnyH_take (i := 23) (oi := _) (v := ?_) rfl (by kernel_rfl) (by kernel_rfl) (by kernel_rfl) (fun _ _ _ h => h) (Or.inl ⟨by rfl, ?_⟩) (by assumption) ?_
                          rotate_left
                          · (intro w hSw; (try dsimp only at hSw); go_simp; all_goals (with_reducible rfl))
                          simp only [Act.put, List.getElem_toArray, List.getElem_cons_succ, List.getElem_cons_zero, List.setIfInBounds_toArray, List.set_cons_zero, List.set_cons_succ]
                          refine wpAnyH_take (i := 24) (oi := _) (v := ?_) rfl (by kernel_rfl) (by kernel_rfl) (by kernel_rfl) (fun _ _ _ h => h) (Or.inl ⟨by rfl, ?_⟩) (by assumption) ?_
                          rotate_left
                          · (intro w hSw; (try dsimp only at hSw); go_simp; all_goals (with_reducible rfl))
                          simp only [Act.put, List.getElem_toArray, List.getElem_cons_succ, List.getElem_cons_zero, List.setIfInBounds_toArray, List.set_cons_zero, List.set_cons_succ]
                          refine wpAnyH_take (i := 25) (oi := _) (v := ?_) rfl (by kernel_rfl) (by kernel_rfl) (by kernel_rfl) (fun _ _ _ h => h) (Or.inl ⟨by rfl, ?_⟩) (by assumption) ?_
                          rotate_left
                          · (intro w hSw; (try dsimp only at hSw); go_simp; all_goals (with_reducible rfl))
                          simp only [Act.put, List.getElem_toArray, List.getElem_cons_succ, List.getElem_cons_zero, List.setIfInBounds_toArray, List.set_cons_zero, List.set_cons_succ]
                          refine wpAnyH_take (i := 26) (oi := _) (v := ?_) rfl (by kernel_rfl) (by kernel_rfl) (by kernel_rfl) (fun _ _ _ h => h) (Or.inl ⟨by rfl, ?_⟩) (by assumption) ?_
                          rotate_left
                          · (intro w hSw; (try dsimp only at hSw); go_simp; all_goals (with_reducible rfl))
                          simp only [Act.put, List.getElem_toArray, List.getElem_cons_succ, List.getElem_cons_zero, List.setIfInBounds_toArray, List.set_cons_zero, List.set_cons_succ]
                          refine wpAnyH_done (by kernel_rfl) ?_ _
                          refine NoPanic.normal ?_
                          have HX := Lib.hid (below_to HB.out hHeld.1)
                          go_wp2_with fail
                          go_ret
                          exact ⟨_, _, _, rfl, by rw [HE.out]; exact recs_nil _ _ _ _, HX.out⟩
                        exact AllReadyH.nil
                      · have e5 : ((v : Int) == 0) = false := by simp [hv0]
                        have e5n : (v == 0) = false := by simp [hv0]
                        have HV0 := Lib.hid hv0
                        clear hv0
                        go_upto_region 12 with fail
                        clear y_v gg1 gu1
                        refine wp_region_noPanic ?_
                        refine wp_region_held_drew (S := (fun y => Below wr.heap.size wr y ∧ y.cell? ⟨gg, og + j * 6, none⟩ = some (.int .i64 q.item) ∧ y.cell? ⟨gg, og + j * 6 + 1, none⟩ = some (.int .i64 q.acts) ∧ y.cell? ⟨gg, og + j * 6 + 2, none⟩ = some (.int .i64 q.regions) ∧ y.cell? ⟨gg, og + j * 6 + 3, none⟩ = some (.int .i64 q.plays) ∧ y.cell? ⟨gg, og + j * 6 + 4, none⟩ = some (.int .i64 q.fr) ∧ y.cell? ⟨gg, og + j * 6 + 5, none⟩ = some (.int .i64 q.tw) ∧ y.cell? ⟨gu, ou + i * 4, none⟩ = some (.int .i64 x.item) ∧ y.cell? ⟨gu, ou + i * 4 + 1, none⟩ = some (.int .i64 x.acts) ∧ y.cell? ⟨gu, ou + i * 4 + 2, none⟩ = some (.int .i64 x.region) ∧ y.cell? ⟨gu, ou + i * 4 + 3, none⟩ = some (.int .i64 x.at_) ∧ y.cell? ⟨go, j, none⟩ = some (.int .i64 (v : Int)))) (by kernel_rfl) ?_ (fun hHeld => ?_)
                        · exact HSK.out _ (Below.refl _ _).drew
                        refine wpAnyH_take (i := 0) (oi := _) (v := ?_) rfl (by kernel_rfl) (by kernel_rfl) (by kernel_rfl) (fun _ _ _ h => h) (Or.inl ⟨by rfl, ?_⟩) (by assumption) ?_
                        rotate_left
                        · (intro w hSw; (try dsimp only at hSw); go_simp; all_goals (with_reducible rfl))
                        simp only [Act.put, List.getElem_toArray, List.getElem_cons_zero, List.setIfInBounds_toArray, List.set_cons_zero, List.set_cons_succ]
                        refine wpAnyH_take (i := 1) (oi := _) (v := ?_) rfl (by kernel_rfl) (by kernel_rfl) (by kernel_rfl) (fun _ _ _ h => h) (Or.inl ⟨by rfl, ?_⟩) (by assumption) ?_
                        rotate_left
                        · (intro w hSw; (try dsimp only at hSw); go_simp; all_goals (with_reducible rfl))
                        simp only [Act.put, List.getElem_toArray, List.getElem_cons_succ, List.getElem_cons_zero, List.setIfInBounds_toArray, List.set_cons_zero, List.set_cons_succ]
                        refine wpAnyH_take (i := 2) (oi := _) (v := ?_) rfl (by kernel_rfl) (by kernel_rfl) (by kernel_rfl) (fun _ _ _ h => h) (Or.inl ⟨by rfl, ?_⟩) (by assumption) ?_
                        rotate_left
                        · (intro w hSw; (try dsimp only at hSw); go_simp; all_goals (with_reducible rfl))
                        simp only [Act.put, List.getElem_toArray, List.getElem_cons_succ, List.getElem_cons_zero, List.setIfInBounds_toArray, List.set_cons_zero, List.set_cons_succ]
                        refine wpAnyH_take (i := 3) (oi := _) (v := ?_) rfl (by kernel_rfl) (by kernel_rfl) (by kernel_rfl) (fun _ _ _ h => h) (Or.inl ⟨by rfl, ?_⟩) (by assumption) ?_
                        rotate_left
                        · (intro w hSw; (try dsimp only at hSw); go_simp; all_goals (with_reducible rfl))
                        simp only [Act.put, List.getElem_toArray, List.getElem_cons_succ, List.getElem_cons_zero, List.setIfInBounds_toArray, List.set_cons_zero, List.set_cons_succ]
                        refine wpAnyH_take (i := 4) (oi := _) (v := ?_) rfl (by kernel_rfl) (by kernel_rfl) (by kernel_rfl) (fun _ _ _ h => h) (Or.inl ⟨by rfl, ?_⟩) (by assumption) ?_
                        rotate_left
                        · (intro w hSw; (try dsimp only at hSw); go_simp; all_goals (with_reducible rfl))
                        simp only [Act.put, List.getElem_toArray, List.getElem_cons_succ, List.getElem_cons_zero, List.setIfInBounds_toArray, List.set_cons_zero, List.set_cons_succ]
                        refine wpAnyH_take (i := 5) (oi := _) (v := ?_) rfl (by kernel_rfl) (by kernel_rfl) (by kernel_rfl) (fun _ _ _ h => h) (Or.inl ⟨by rfl, ?_⟩) (by assumption) ?_
                        rotate_left
                        · (intro w hSw; (try dsimp only at hSw); go_simp; all_goals (with_reducible rfl))
                        simp only [Act.put, List.getElem_toArray, List.getElem_cons_succ, List.getElem_cons_zero, List.setIfInBounds_toArray, List.set_cons_zero, List.set_cons_succ]
                        refine wpAnyH_take (i := 6) (oi := _) (v := ?_) rfl (by kernel_rfl) (by kernel_rfl) (by kernel_rfl) (fun _ _ _ h => h) (Or.inl ⟨by rfl, ?_⟩) (by assumption) ?_
                        rotate_left
                        · (intro w hSw; (try dsimp only at hSw); go_simp; all_goals (with_reducible rfl))
                        simp only [Act.put, List.getElem_toArray, List.getElem_cons_succ, List.getElem_cons_zero, List.setIfInBounds_toArray, List.set_cons_zero, List.set_cons_succ]
                        refine wpAnyH_take (i := 7) (oi := _) (v := ?_) rfl (by kernel_rfl) (by kernel_rfl) (by kernel_rfl) (fun _ _ _ h => h) (Or.inl ⟨by rfl, ?_⟩) (by assumption) ?_
                        rotate_left
                        · (intro w hSw; (try dsimp only at hSw); go_simp; all_goals (with_reducible rfl))
                        simp only [Act.put, List.getElem_toArray, List.getElem_cons_succ, List.getElem_cons_zero, List.setIfInBounds_toArray, List.set_cons_zero, List.set_cons_succ]
                        refine wpAnyH_take (i := 8) (oi := _) (v := ?_) rfl (by kernel_rfl) (by kernel_rfl) (by kernel_rfl) (fun _ _ _ h => h) (Or.inl ⟨by rfl, ?_⟩) (by assumption) ?_
                        rotate_left
                        · (intro w hSw; (try dsimp only at hSw); go_simp; all_goals (with_reducible rfl))
                        simp only [Act.put, List.getElem_toArray, List.getElem_cons_succ, List.getElem_cons_zero, List.setIfInBounds_toArray, List.set_cons_zero, List.set_cons_succ]
                        refine wpAnyH_take (i := 9) (oi := _) (v := ?_) rfl (by kernel_rfl) (by kernel_rfl) (by kernel_rfl) (fun _ _ _ h => h) (Or.inl ⟨by rfl, ?_⟩) (by assumption) ?_
                        rotate_left
                        · (intro w hSw; (try dsimp only at hSw); go_simp; all_goals (with_reducible rfl))
                        simp only [Act.put, List.getElem_toArray, List.getElem_cons_succ, List.getElem_cons_zero, List.setIfInBounds_toArray, List.set_cons_zero, List.set_cons_succ]
                        refine wpAnyH_take (i := 10) (oi := _) (v := ?_) rfl (by kernel_rfl) (by kernel_rfl) (by kernel_rfl) (fun _ _ _ h => h) (Or.inl ⟨by rfl, ?_⟩) (by assumption) ?_
                        rotate_left
                        · (intro w hSw; (try dsimp only at hSw); go_simp; all_goals (with_reducible rfl))
                        simp only [Act.put, List.getElem_toArray, List.getElem_cons_succ, List.getElem_cons_zero, List.setIfInBounds_toArray, List.set_cons_zero, List.set_cons_succ]
                        refine wpAnyH_take (i := 11) (oi := _) (v := ?_) rfl (by kernel_rfl) (by kernel_rfl) (by kernel_rfl) (fun _ _ _ h => h) (Or.inl ⟨by rfl, ?_⟩) (by assumption) ?_
                        rotate_left
                        · (intro w hSw; (try dsimp only at hSw); go_simp; all_goals (with_reducible rfl))
                        simp only [Act.put, List.getElem_toArray, List.getElem_cons_succ, List.getElem_cons_zero, List.setIfInBounds_toArray, List.set_cons_zero, List.set_cons_succ]
                        refine wpAnyH_take (i := 12) (oi := _) (v := ?_) rfl (by kernel_rfl) (by kernel_rfl) (by kernel_rfl) (fun _ _ _ h => h) (Or.inl ⟨by rfl, ?_⟩) (by assumption) ?_
                        rotate_left
                        · (intro w hSw; (try dsimp only at hSw); go_simp; all_goals (with_reducible rfl))
                        simp only [Act.put, List.getElem_toArray, List.getElem_cons_succ, List.getElem_cons_zero, List.setIfInBounds_toArray, List.set_cons_zero, List.set_cons_succ]
                        refine wpAnyH_take (i := 13) (oi := _) (v := ?_) rfl (by kernel_rfl) (by kernel_rfl) (by kernel_rfl) (fun _ _ _ h => h) (Or.inl ⟨by rfl, ?_⟩) (by assumption) ?_
                        rotate_left
                        · (intro w hSw; (try dsimp only at hSw); go_simp; all_goals (with_reducible rfl))
                        simp only [Act.put, List.getElem_toArray, List.getElem_cons_succ, List.getElem_cons_zero, List.setIfInBounds_toArray, List.set_cons_zero, List.set_cons_succ]
                        refine wpAnyH_take (i := 14) (oi := _) (v := ?_) rfl (by kernel_rfl) (by kernel_rfl) (by kernel_rfl) (fun _ _ _ h => h) (Or.inl ⟨by rfl, ?_⟩) (by assumption) ?_
                        rotate_left
                        · (intro w hSw; (try dsimp only at hSw); go_simp; all_goals (with_reducible rfl))
                        simp only [Act.put, List.getElem_toArray, List.getElem_cons_succ, List.getElem_cons_zero, List.setIfInBounds_toArray, List.set_cons_zero, List.set_cons_succ]
                        refine wpAnyH_take (i := 15) (oi := _) (v := ?_) rfl (by kernel_rfl) (by kernel_rfl) (by kernel_rfl) (fun _ _ _ h => h) (Or.inl ⟨by rfl, ?_⟩) (by assumption) ?_
                        rotate_left
                        · (intro w hSw; (try dsimp only at hSw); go_simp; all_goals (with_reducible rfl))
                        simp only [Act.put, List.getElem_toArray, List.getElem_cons_succ, List.getElem_cons_zero, List.setIfInBounds_toArray, List.set_cons_zero, List.set_cons_succ]
                        refine wpAnyH_take (i := 16) (oi := _) (v := ?_) rfl (by kernel_rfl) (by kernel_rfl) (by kernel_rfl) (fun _ _ _ h => h) (Or.inl ⟨by rfl, ?_⟩) (by assumption) ?_
                        rotate_left
                        · (intro w hSw; (try dsimp only at hSw); go_simp; all_goals (with_reducible rfl))
                        simp only [Act.put, List.getElem_toArray, List.getElem_cons_succ, List.getElem_cons_zero, List.setIfInBounds_toArray, List.set_cons_zero, List.set_cons_succ]
                        refine wpAnyH_ready (rs := [17]) (by kernel_rfl) (by simp) ?_
                        refine AllReadyH.cons (o := _) rfl (fun K hK => ?_) ?_
                        · go_simp
                          (go_at_call 46; ((with_reducible refine Calls.mono (HPE.out _) ?_); rintro r u9 ⟨rfl, b5⟩))
                          refine hK.out _ _ ?_ (fun hHeld => ?_)
                          · (try dsimp only)
                            exact HSK.out _ (below_to hHeld.1 b5)
                          clear hK K
                          (try simp only [Act.put, List.setIfInBounds_toArray, List.set_cons_zero, List.set_cons_succ])
                          refine wpAnyH_take (i := 18) (oi := _) (v := ?_) rfl (by kernel_rfl) (by kernel_rfl) (by kernel_rfl) (fun _ _ _ h => h) (Or.inl ⟨by rfl, ?_⟩) (by assumption) ?_
                          rotate_left
                          · (intro w hSw; (try dsimp only at hSw); go_simp; all_goals (with_reducible rfl))
                          simp only [Act.put, List.getElem_toArray, List.getElem_cons_succ, List.getElem_cons_zero, List.setIfInBounds_toArray, List.set_cons_zero, List.set_cons_succ]
                          refine wpAnyH_take (i := 19) (oi := _) (v := ?_) rfl (by kernel_rfl) (by kernel_rfl) (by kernel_rfl) (fun _ _ _ h => h) (Or.inl ⟨by rfl, ?_⟩) (by assumption) ?_
                          rotate_left
                          · (intro w hSw; (try dsimp only at hSw); go_simp; all_goals (with_reducible rfl))
                          simp only [Act.put, List.getElem_toArray, List.getElem_cons_succ, List.getElem_cons_zero, List.setIfInBounds_toArray, List.set_cons_zero, List.set_cons_succ]
                          refine wpAnyH_take (i := 20) (oi := _) (v := ?_) rfl (by kernel_rfl) (by kernel_rfl) (by kernel_rfl) (fun _ _ _ h => h) (Or.inl ⟨by rfl, ?_⟩) (by assumption) ?_
                          rotate_left
                          · (intro w hSw; (try dsimp only at hSw); go_simp; all_goals (with_reducible rfl))
                          simp only [Act.put, List.getElem_toArray, List.getElem_cons_succ, List.getElem_cons_zero, List.setIfInBounds_toArray, List.set_cons_zero, List.set_cons_succ]
                          refine wpAnyH_take (i := 21) (oi := _) (v := ?_) rfl (by kernel_rfl) (by kernel_rfl) (by kernel_rfl) (fun _ _ _ h => h) (Or.inl ⟨by rfl, ?_⟩) (by assumption) ?_
                          rotate_left
                          · (intro w hSw; (try dsimp only at hSw); go_simp; all_goals (with_reducible rfl))
                          simp only [Act.put, List.getElem_toArray, List.getElem_cons_succ, List.getElem_cons_zero, List.setIfInBounds_toArray, List.set_cons_zero, List.set_cons_succ]
                          refine wpAnyH_take (i := 22) (oi := _) (v := ?_) rfl (by kernel_rfl) (by kernel_rfl) (by kernel_rfl) (fun _ _ _ h => h) (Or.inl ⟨by rfl, ?_⟩) (by assumption) ?_
                          rotate_left
                          · (intro w hSw; (try dsimp only at hSw); go_simp; all_goals (with_reducible rfl))
                          simp only [Act.put, List.getElem_toArray, List.getElem_cons_succ, List.getElem_cons_zero, List.setIfInBounds_toArray, List.set_cons_zero, List.set_cons_succ]
                          refine wpAnyH_take (i := 23) (oi := _) (v := ?_) rfl (by kernel_rfl) (by kernel_rfl) (by kernel_rfl) (fun _ _ _ h => h) (Or.inl ⟨by rfl, ?_⟩) (by assumption) ?_
                          rotate_left
                          · (intro w hSw; (try dsimp only at hSw); go_simp; all_goals (with_reducible rfl))
                          simp only [Act.put, List.getElem_toArray, List.getElem_cons_succ, List.getElem_cons_zero, List.setIfInBounds_toArray, List.set_cons_zero, List.set_cons_succ]
                          refine wpAnyH_take (i := 24) (oi := _) (v := ?_) rfl (by kernel_rfl) (by kernel_rfl) (by kernel_rfl) (fun _ _ _ h => h) (Or.inl ⟨by rfl, ?_⟩) (by assumption) ?_
                          rotate_left
                          · (intro w hSw; (try dsimp only at hSw); go_simp; all_goals (with_reducible rfl))
                          simp only [Act.put, List.getElem_toArray, List.getElem_cons_succ, List.getElem_cons_zero, List.setIfInBounds_toArray, List.set_cons_zero, List.set_cons_succ]
                          refine wpAnyH_take (i := 25) (oi := _) (v := ?_) rfl (by kernel_rfl) (by kernel_rfl) (by kernel_rfl) (fun _ _ _ h => h) (Or.inl ⟨by rfl, ?_⟩) (by assumption) ?_
                          rotate_left
                          · (intro w hSw; (try dsimp only at hSw); go_simp; all_goals (with_reducible rfl))
                          simp only [Act.put, List.getElem_toArray, List.getElem_cons_succ, List.getElem_cons_zero, List.setIfInBounds_toArray, List.set_cons_zero, List.set_cons_succ]
                          refine wpAnyH_take (i := 26) (oi := _) (v := ?_) rfl (by kernel_rfl) (by kernel_rfl) (by kernel_rfl) (fun _ _ _ h => h) (Or.inl ⟨by rfl, ?_⟩) (by assumption) ?_
                          rotate_left
                          · (intro w hSw; (try dsimp only at hSw); go_simp; all_goals (with_reducible rfl))
                          simp only [Act.put, List.getElem_toArray, List.getElem_cons_succ, List.getElem_cons_zero, List.setIfInBounds_toArray, List.set_cons_zero, List.set_cons_succ]
                          refine wpAnyH_done (by kernel_rfl) ?_ _
                          refine NoPanic.normal ?_
                          have HB9 := Lib.hid (below_to HB.out hHeld.1)
                          have hvj : L[j]? = some v := by rw [← HVV.out, at_eq (by have := HLn.out; have := HNO.out; have := HJ.out; omega)]; exact List.getElem?_eq_getElem _
                          obtain ⟨gx, cx, hvx, -, gx1, y_x, f_x, hset⟩ := own_num (own_below HO.out hHeld.1) rfl hvj
                          obtain rfl : go = gx := by injection hvx with e; injection e with e; injection e
                          have HSET := Lib.hid hset
                          have HBS := Lib.hid (fun (u : World) (h : Below w.heap.size w u) => h.setCell (p := ⟨go, j, none⟩) (by have := own_ge HO.out go rfl; exact this) (.int .i64 ((v : Int) - 1)))
                          have v1 : (v : Int) ≤ 100 := by have := HL100.out v (List.mem_of_getElem? hvj); omega
                          have v2 : (1 : Int) ≤ (v : Int) := by have := HV0.out; omega
                          clear hset hvx hvj
                          go_upto_region 15 with fail
                          have HNEW := Lib.hid (show ((v : Int) - 1) = ((v - 1 : Nat) : Int) by have := HV0.out; omega)
                          obtain ⟨wf, hwf, hown, hbf⟩ : ∃ wf, u9.setCell ⟨go, j, none⟩ (.int .i64 ((v : Int) - 1)) = wf ∧ OwnN wf w.heap.size (.slice (some ⟨go, 0, none⟩) no co) (L.set j (v - 1)) ∧ Below w.heap.size w wf := ⟨_, rfl, by rw [HNEW.out]; have h := HSET.out _ (v - 1) rfl; unfold OwnN; rw [List.length_set]; rw [HLn.out] at h ⊢; exact h, HBS.out _ HB9.out⟩
                          rw [hwf]
                          have HOWN := Lib.hid hown
                          have HBF := Lib.hid hbf
                          have HNX := Lib.hid (show ((a.zip U).take (i + 1)).foldl (leftStep l) (some (plN l)) = some (L.set j (v - 1)) by rw [HST.out, HLS.out, if_pos ⟨rfl, HV0.out⟩])
                          have HBD := Lib.hid (show ∀ y ∈ L.set j (v - 1), y ≤ 100 from fun y hy => by
                            rcases List.mem_or_eq_of_mem_set hy with h | h
                            · exact HL100.out y h
                            · omega)
                          clear hwf hown hbf y_x f_x gx1
                          go_wp2_with fail
                          go_roundw
                          case rel => exact ⟨i + 1, by go_num, by omega, Lib.hid ⟨_, HNX.out, ⟨by rw [List.length_set]; exact HLn.out, HBD.out⟩, HOWN.out, HBF.out⟩⟩
                          case measure => simp [intOf]; omega
                        exact AllReadyH.nil
                  · have e2 : decide ((n : Int) ≤ (j : Int)) = true := decide_eq_true (by omega)
                    have e2n : decide (n ≤ j) = true := decide_eq_true (by omega)
                    have HE := Lib.hid (show (leftO l U a).getD [] = [] by
                      have h1 := HST.out
                      unfold leftStep at h1
                      simp only [Option.bind_some, Int.toNat_natCast] at h1
                      rw [if_neg (fun h => by have := h.2.1; have := HN.out; omega)] at h1
                      unfold leftO; rw [left_fail h1]; rfl)
                    go_upto_region 12 with fail
                    go_quiet (fail)
                    go_wp2_with fail
                    go_ret
                    exact ⟨_, _, _, rfl, by rw [HE.out]; exact recs_nil _ _ _ _, belowN HX.out _⟩
              · have i1 : ¬ (i : Int) < (n3 : Int) := by omega
                have HE := Lib.hid (show (leftO l U a).getD [] = L by
                  have h1 := HLf.out
                  rw [List.take_of_length_le (by rw [List.length_zip]; have := HN3.out; omega)] at h1
                  unfold leftO; rw [h1]; rfl)
                go_wp2_with fail
                go_ret
                exact ⟨Ao, no, co, rfl, by rw [HE.out]; exact ints_own (by have := HO.out; unfold OwnN at this; rwa [HLn.out] at this) (by simp [zi, HLn.out]), HB.out⟩
      · have e3 : ((n3 : Int) == (n2 : Int)) = false := by simp; omega
        have HE := Lib.hid (show leftV l U a = [] by unfold leftV; rw [H0.out, H1.out, decide_eq_false (by have := HN2.out; have := HN3.out; omega)]; rfl)
        clear h3
        go_enter Try.func26, Try.ntmps26
        go_wp2_with (first | (go_at_call 13; (with_reducible refine Calls.mono HG.out ?_); rintro r u1 ⟨rfl, hb⟩; have Bc := Lib.hid hb; clear hb) | (go_at_call 15; (with_reducible refine Calls.mono (HV.out _ Bc.out) ?_); rintro r u2 ⟨rfl, hb⟩; have Bc := Lib.hid (below_to Bc.out hb); clear hb))
        go_ret
        exact ⟨_, _, _, rfl, by rw [HE.out]; exact recs_nil _ _ _ _, Bc.out⟩
end Go.Proofs.Ytenojfniknjeiaa
