/- The reference's Length. The reference's Place and Heard. Lists of spells with gaps between them are unique; what the reference's Talk builds. The reference's Talk. -/
import Derived.Test.YtnmhigjannihgaaLg
/- The reference's Length. -/
namespace Go.Proofs.Ytnmhigjannihgaa
open Go.RowKit Go.Shelf

set_option maxRecDepth 100000 in
set_option maxHeartbeats 8000000 in
theorem rlength_any (i : ItemP) (cut : List Int) (A1 A2 A3 : Option Addr) (n1 c1 n2 c2 n3 c3 : Nat) (w : World) (hr : ItAt i A1 n1 c1 A2 n2 c2 w.heap.size w) (h3 : Recs enc1 1 w w.heap.size (.slice A3 n3 c3) cut) :
    Calls Try.prog 25 #[.agg #[.int .i64 i.id, .int .i64 i.kind, .int .i64 i.len, .slice A1 n1 c1, .slice A2 n2 c2, .int .i64 i.artist, .int .i64 i.tempo, .int .i64 i.lang], .slice A3 n3 c3] w fun e w' => e = .returned (.tuple #[.int .i64 (lengthV i cut).1, .int .i64 (lengthV i cut).2]) ∧ Below w.heap.size w w' := by
  obtain ⟨l1, -⟩ := hr.lens
  have l3 := (recs_cap h3).1
  have hc3 := (recs_cap h3).2
  have hc1 := (recs_cap hr.t).2
  have HVA := Lib.hid (fun u (hu : Below w.heap.size w u) => rvalid_any i A1 A2 n1 c1 n2 c2 u (hr.next hu))
  have HIC := Lib.hid (fun u (hu : Below w.heap.size w u) => rcut_any i cut A1 A2 A3 n1 c1 n2 c2 n3 c3 u (hr.next hu) (h3.next hu))
  have HOUT := Lib.hid (fun (hc : cutB i.trims.length 0 cut = true) s u (hu : Below w.heap.size w u) => rout_any i cut s hc A1 A2 A3 n1 c1 n2 c2 n3 c3 u (hr.next hu) (h3.next hu))
  have HV : Hid (lengthV i cut = if validI i && cutB i.trims.length 0 cut then (bef i.len (goneI i.trims cut), 0) else (0, 70)) := Lib.hid rfl
  have HR := Lib.hid hr.t
  have H3 := Lib.hid h3
  have HL := Lib.hid (And.intro l1 l3)
  have hn3 : n3 ≤ 9223372036854775807 := by omega
  have hn1 : n1 ≤ 9223372036854775807 := by omega
  have HLP := Lib.hid (fun (h : validI i = true) (h2 : cutB i.trims.length 0 cut = true) => And.intro ((validI_iff i).1 h).len (left_parts ((validI_iff i).1 h) h2))
  clear hr h3 l1 l3 hc3 hc1
  obtain ⟨id, kind, len, trims, talks, artist, tempo, lang⟩ := i
  dsimp only at *
  have RI := Lib.hid (Row.new w 24 #[.int .i64 id, .int .i64 kind, .int .i64 len, .slice A1 n1 c1, .slice A2 n2 c2, .int .i64 artist, .int .i64 tempo, .int .i64 lang])
  have HB0 := Lib.hid ((Below.refl _ w).alloc (Nat.le_refl _) (.cells #[.int .i64 id, .int .i64 kind, .int .i64 len, .slice A1 n1 c1, .slice A2 n2 c2, .int .i64 artist, .int .i64 tempo, .int .i64 lang] 24))
  obtain ⟨V, hV⟩ : ∃ V, lengthV (⟨id, kind, len, trims, talks, artist, tempo, lang⟩ : ItemP) cut = V := ⟨_, rfl⟩
  rw [hV] at HV ⊢
  cases hv : validI (⟨id, kind, len, trims, talks, artist, tempo, lang⟩ : ItemP) with
  | false =>
    have HX := Lib.hid (show V = (0, 70) by rw [HV.out, hv]; rfl)
    rw [hv] at HVA
    clear hv HV hV HLP HOUT HIC
    have r0 : (w.alloc (.cells #[.int .i64 id, .int .i64 kind, .int .i64 len, .slice A1 n1 c1, .slice A2 n2 c2, .int .i64 artist, .int .i64 tempo, .int .i64 lang] 24)).cell? ⟨w.heap.size, 0, none⟩ = some (.int .i64 id) := RI.out.cell 0
    have r1 : (w.alloc (.cells #[.int .i64 id, .int .i64 kind, .int .i64 len, .slice A1 n1 c1, .slice A2 n2 c2, .int .i64 artist, .int .i64 tempo, .int .i64 lang] 24)).cell? ⟨w.heap.size, 1, none⟩ = some (.int .i64 kind) := RI.out.cell 1
    have r2 : (w.alloc (.cells #[.int .i64 id, .int .i64 kind, .int .i64 len, .slice A1 n1 c1, .slice A2 n2 c2, .int .i64 artist, .int .i64 tempo, .int .i64 lang] 24)).cell? ⟨w.heap.size, 2, none⟩ = some (.int .i64 len) := RI.out.cell 2
    have r3 : (w.alloc (.cells #[.int .i64 id, .int .i64 kind, .int .i64 len, .slice A1 n1 c1, .slice A2 n2 c2, .int .i64 artist, .int .i64 tempo, .int .i64 lang] 24)).cell? ⟨w.heap.size, 3, none⟩ = some (.slice A1 n1 c1) := RI.out.cell 3
    have r4 : (w.alloc (.cells #[.int .i64 id, .int .i64 kind, .int .i64 len, .slice A1 n1 c1, .slice A2 n2 c2, .int .i64 artist, .int .i64 tempo, .int .i64 lang] 24)).cell? ⟨w.heap.size, 4, none⟩ = some (.slice A2 n2 c2) := RI.out.cell 4
    have r5 : (w.alloc (.cells #[.int .i64 id, .int .i64 kind, .int .i64 len, .slice A1 n1 c1, .slice A2 n2 c2, .int .i64 artist, .int .i64 tempo, .int .i64 lang] 24)).cell? ⟨w.heap.size, 5, none⟩ = some (.int .i64 artist) := RI.out.cell 5
    have r6 : (w.alloc (.cells #[.int .i64 id, .int .i64 kind, .int .i64 len, .slice A1 n1 c1, .slice A2 n2 c2, .int .i64 artist, .int .i64 tempo, .int .i64 lang] 24)).cell? ⟨w.heap.size, 6, none⟩ = some (.int .i64 tempo) := RI.out.cell 6
    have r7 : (w.alloc (.cells #[.int .i64 id, .int .i64 kind, .int .i64 len, .slice A1 n1 c1, .slice A2 n2 c2, .int .i64 artist, .int .i64 tempo, .int .i64 lang] 24)).cell? ⟨w.heap.size, 7, none⟩ = some (.int .i64 lang) := RI.out.cell 7
    have lr := RI.out.lt
    go_enter Try.func25, Try.ntmps25
    go_wp2_with (first | (go_at_call 13; (with_reducible refine Calls.mono (HVA.out _ HB0.out) ?_); rintro r u1 ⟨rfl, hb⟩; have HB1 := Lib.hid (below_to HB0.out hb); have RI := Lib.hid (RI.out.below hb RI.out.lt); clear r0 r1 r2 r3 r4 r5 r6 r7 lr; have r0 := RI.out.cell 0; have r1 := RI.out.cell 1; have r2 := RI.out.cell 2; have r3 := RI.out.cell 3; have r4 := RI.out.cell 4; have r5 := RI.out.cell 5; have r6 := RI.out.cell 6; have r7 := RI.out.cell 7; have lr := RI.out.lt; clear hb))
    refine bodyPost_ret (results_tmp2 rfl _ _ _) rfl ⟨by rw [HX.out]; rfl, HB1.out⟩
  | true =>
    cases hc : cutB trims.length 0 cut with
    | false =>
      have HX := Lib.hid (show V = (0, 70) by rw [HV.out, hv, hc]; rfl)
      rw [hv] at HVA
      rw [hc] at HIC
      clear hv HV hV HLP HOUT
      have r0 : (w.alloc (.cells #[.int .i64 id, .int .i64 kind, .int .i64 len, .slice A1 n1 c1, .slice A2 n2 c2, .int .i64 artist, .int .i64 tempo, .int .i64 lang] 24)).cell? ⟨w.heap.size, 0, none⟩ = some (.int .i64 id) := RI.out.cell 0
      have r1 : (w.alloc (.cells #[.int .i64 id, .int .i64 kind, .int .i64 len, .slice A1 n1 c1, .slice A2 n2 c2, .int .i64 artist, .int .i64 tempo, .int .i64 lang] 24)).cell? ⟨w.heap.size, 1, none⟩ = some (.int .i64 kind) := RI.out.cell 1
      have r2 : (w.alloc (.cells #[.int .i64 id, .int .i64 kind, .int .i64 len, .slice A1 n1 c1, .slice A2 n2 c2, .int .i64 artist, .int .i64 tempo, .int .i64 lang] 24)).cell? ⟨w.heap.size, 2, none⟩ = some (.int .i64 len) := RI.out.cell 2
      have r3 : (w.alloc (.cells #[.int .i64 id, .int .i64 kind, .int .i64 len, .slice A1 n1 c1, .slice A2 n2 c2, .int .i64 artist, .int .i64 tempo, .int .i64 lang] 24)).cell? ⟨w.heap.size, 3, none⟩ = some (.slice A1 n1 c1) := RI.out.cell 3
      have r4 : (w.alloc (.cells #[.int .i64 id, .int .i64 kind, .int .i64 len, .slice A1 n1 c1, .slice A2 n2 c2, .int .i64 artist, .int .i64 tempo, .int .i64 lang] 24)).cell? ⟨w.heap.size, 4, none⟩ = some (.slice A2 n2 c2) := RI.out.cell 4
      have r5 : (w.alloc (.cells #[.int .i64 id, .int .i64 kind, .int .i64 len, .slice A1 n1 c1, .slice A2 n2 c2, .int .i64 artist, .int .i64 tempo, .int .i64 lang] 24)).cell? ⟨w.heap.size, 5, none⟩ = some (.int .i64 artist) := RI.out.cell 5
      have r6 : (w.alloc (.cells #[.int .i64 id, .int .i64 kind, .int .i64 len, .slice A1 n1 c1, .slice A2 n2 c2, .int .i64 artist, .int .i64 tempo, .int .i64 lang] 24)).cell? ⟨w.heap.size, 6, none⟩ = some (.int .i64 tempo) := RI.out.cell 6
      have r7 : (w.alloc (.cells #[.int .i64 id, .int .i64 kind, .int .i64 len, .slice A1 n1 c1, .slice A2 n2 c2, .int .i64 artist, .int .i64 tempo, .int .i64 lang] 24)).cell? ⟨w.heap.size, 7, none⟩ = some (.int .i64 lang) := RI.out.cell 7
      have lr := RI.out.lt
      go_enter Try.func25, Try.ntmps25
      go_wp2_with (first | (go_at_call 13; (with_reducible refine Calls.mono (HVA.out _ HB0.out) ?_); rintro r u1 ⟨rfl, hb⟩; have HB1 := Lib.hid (below_to HB0.out hb); have RI := Lib.hid (RI.out.below hb RI.out.lt); clear r0 r1 r2 r3 r4 r5 r6 r7 lr; have r0 := RI.out.cell 0; have r1 := RI.out.cell 1; have r2 := RI.out.cell 2; have r3 := RI.out.cell 3; have r4 := RI.out.cell 4; have r5 := RI.out.cell 5; have r6 := RI.out.cell 6; have r7 := RI.out.cell 7; have lr := RI.out.lt; clear hb) | (go_at_call 53; (with_reducible refine Calls.mono (HIC.out _ HB1.out) ?_); rintro r u2 ⟨rfl, hb⟩; have HB2 := Lib.hid (below_to HB1.out hb); have RI := Lib.hid (RI.out.below hb RI.out.lt); clear r0 r1 r2 r3 r4 r5 r6 r7 lr; have r0 := RI.out.cell 0; have r1 := RI.out.cell 1; have r2 := RI.out.cell 2; have r3 := RI.out.cell 3; have r4 := RI.out.cell 4; have r5 := RI.out.cell 5; have r6 := RI.out.cell 6; have r7 := RI.out.cell 7; have lr := RI.out.lt; clear hb))
      refine bodyPost_ret (results_tmp2 rfl _ _ _) rfl ⟨by rw [HX.out]; rfl, HB2.out⟩
    | true =>
      have HLEN := Lib.hid (HLP.out hv hc).1
      have HP := Lib.hid (HLP.out hv hc).2
      have HOUT := Lib.hid (HOUT.out hc)
      have HX := Lib.hid HV.out
      rw [hv, hc] at HX
      rw [hv] at HVA
      rw [hc] at HIC
      have HC := Lib.hid hc
      clear hv hc HV hV HLP
      have r0 : (w.alloc (.cells #[.int .i64 id, .int .i64 kind, .int .i64 len, .slice A1 n1 c1, .slice A2 n2 c2, .int .i64 artist, .int .i64 tempo, .int .i64 lang] 24)).cell? ⟨w.heap.size, 0, none⟩ = some (.int .i64 id) := RI.out.cell 0
      have r1 : (w.alloc (.cells #[.int .i64 id, .int .i64 kind, .int .i64 len, .slice A1 n1 c1, .slice A2 n2 c2, .int .i64 artist, .int .i64 tempo, .int .i64 lang] 24)).cell? ⟨w.heap.size, 1, none⟩ = some (.int .i64 kind) := RI.out.cell 1
      have r2 : (w.alloc (.cells #[.int .i64 id, .int .i64 kind, .int .i64 len, .slice A1 n1 c1, .slice A2 n2 c2, .int .i64 artist, .int .i64 tempo, .int .i64 lang] 24)).cell? ⟨w.heap.size, 2, none⟩ = some (.int .i64 len) := RI.out.cell 2
      have r3 : (w.alloc (.cells #[.int .i64 id, .int .i64 kind, .int .i64 len, .slice A1 n1 c1, .slice A2 n2 c2, .int .i64 artist, .int .i64 tempo, .int .i64 lang] 24)).cell? ⟨w.heap.size, 3, none⟩ = some (.slice A1 n1 c1) := RI.out.cell 3
      have r4 : (w.alloc (.cells #[.int .i64 id, .int .i64 kind, .int .i64 len, .slice A1 n1 c1, .slice A2 n2 c2, .int .i64 artist, .int .i64 tempo, .int .i64 lang] 24)).cell? ⟨w.heap.size, 4, none⟩ = some (.slice A2 n2 c2) := RI.out.cell 4
      have r5 : (w.alloc (.cells #[.int .i64 id, .int .i64 kind, .int .i64 len, .slice A1 n1 c1, .slice A2 n2 c2, .int .i64 artist, .int .i64 tempo, .int .i64 lang] 24)).cell? ⟨w.heap.size, 5, none⟩ = some (.int .i64 artist) := RI.out.cell 5
      have r6 : (w.alloc (.cells #[.int .i64 id, .int .i64 kind, .int .i64 len, .slice A1 n1 c1, .slice A2 n2 c2, .int .i64 artist, .int .i64 tempo, .int .i64 lang] 24)).cell? ⟨w.heap.size, 6, none⟩ = some (.int .i64 tempo) := RI.out.cell 6
      have r7 : (w.alloc (.cells #[.int .i64 id, .int .i64 kind, .int .i64 len, .slice A1 n1 c1, .slice A2 n2 c2, .int .i64 artist, .int .i64 tempo, .int .i64 lang] 24)).cell? ⟨w.heap.size, 7, none⟩ = some (.int .i64 lang) := RI.out.cell 7
      have lr := RI.out.lt
      go_enter Try.func25, Try.ntmps25
      go_wp2_with (first | (go_at_call 13; (with_reducible refine Calls.mono (HVA.out _ HB0.out) ?_); rintro r u1 ⟨rfl, hb⟩; have HB1 := Lib.hid (below_to HB0.out hb); have RI := Lib.hid (RI.out.below hb RI.out.lt); clear r0 r1 r2 r3 r4 r5 r6 r7 lr; have r0 := RI.out.cell 0; have r1 := RI.out.cell 1; have r2 := RI.out.cell 2; have r3 := RI.out.cell 3; have r4 := RI.out.cell 4; have r5 := RI.out.cell 5; have r6 := RI.out.cell 6; have r7 := RI.out.cell 7; have lr := RI.out.lt; clear hb) | (go_at_call 53; (with_reducible refine Calls.mono (HIC.out _ HB1.out) ?_); rintro r u2 ⟨rfl, hb⟩; have HB2 := Lib.hid (below_to HB1.out hb); have RI := Lib.hid (RI.out.below hb RI.out.lt); clear r0 r1 r2 r3 r4 r5 r6 r7 lr; have r0 := RI.out.cell 0; have r1 := RI.out.cell 1; have r2 := RI.out.cell 2; have r3 := RI.out.cell 3; have r4 := RI.out.cell 4; have r5 := RI.out.cell 5; have r6 := RI.out.cell 6; have r7 := RI.out.cell 7; have lr := RI.out.lt; clear hb))
      go_loopw [6, 7] (fun t j wr => ∃ (k f : Nat) (G : List (Int × Int)), j = .int .i64 (k : Int) ∧ k ≤ n3 ∧ t = .int .i64 (len - tot G) ∧ Hid (LoSt trims cut k f G) ∧ Hid (Row wr w.heap.size 24 #[.int .i64 id, .int .i64 kind, .int .i64 len, .slice A1 n1 c1, .slice A2 n2 c2, .int .i64 artist, .int .i64 tempo, .int .i64 lang]) ∧ Hid (Below w.heap.size w wr)) (fun _ j _ => n3 - (intOf j).toNat)
      case atStart => exact ⟨0, 0, [], rfl, Nat.zero_le _, by show _ = Value.int .i64 (len - 0); rw [Int.sub_zero], Lib.hid (LoSt.start _ _), RI, HB2⟩
      case round =>
        clear RI r0 r1 r2 r3 r4 r5 r6 r7 lr HVA HIC HOUT
        obtain ⟨k, f, G, rfl, hk, rfl, HS, RI, HB⟩ := hrel
        have ht := totT HP.out (show (0 : Int) ≤ len by have := HLEN.out; omega) G.length
        rw [HS.out.g, List.take_left] at ht
        obtain ⟨t, htt⟩ : ∃ t, len - tot G = t := ⟨_, rfl⟩
        have HT := Lib.hid htt
        rw [htt]
        have t_0 : 0 ≤ t := by omega
        have t_1 : t ≤ 3600 := by have := HLEN.out; omega
        clear htt ht
        have r0 : wr.cell? ⟨w.heap.size, 0, none⟩ = some (.int .i64 id) := RI.out.cell 0
        have r1 : wr.cell? ⟨w.heap.size, 1, none⟩ = some (.int .i64 kind) := RI.out.cell 1
        have r2 : wr.cell? ⟨w.heap.size, 2, none⟩ = some (.int .i64 len) := RI.out.cell 2
        have r3 : wr.cell? ⟨w.heap.size, 3, none⟩ = some (.slice A1 n1 c1) := RI.out.cell 3
        have r4 : wr.cell? ⟨w.heap.size, 4, none⟩ = some (.slice A2 n2 c2) := RI.out.cell 4
        have r5 : wr.cell? ⟨w.heap.size, 5, none⟩ = some (.int .i64 artist) := RI.out.cell 5
        have r6 : wr.cell? ⟨w.heap.size, 6, none⟩ = some (.int .i64 tempo) := RI.out.cell 6
        have r7 : wr.cell? ⟨w.heap.size, 7, none⟩ = some (.int .i64 lang) := RI.out.cell 7
        have lr := RI.out.lt
        have k_0 : (0 : Int) ≤ (k : Int) := by omega
        by_cases hlt : k < n3
        · have k_1 : (k : Int) < (n3 : Int) := by omega
          have hka : k < cut.length := by have := HL.out.2; omega
          have HX0 := Lib.hid (List.getElem?_eq_getElem hka)
          obtain ⟨x, hx⟩ : ∃ x, cut[k] = x := ⟨_, rfl⟩
          rw [hx] at HX0
          obtain ⟨g, o, rfl, hg, a0⟩ := cell1_at (H3.out.next HB.out) HX0.out
          clear hx hka
          have lw := HB.out.size
          have hok : ¬ (x < (f : Int) ∨ (trims.length : Int) ≤ x) := fun h => by have := HS.out.bad HX0.out h; rw [HC.out] at this; cases this
          obtain ⟨m, rfl⟩ : ∃ m : Nat, x = (m : Int) := ⟨x.toNat, by omega⟩
          have hml : m < trims.length := by omega
          have m_0 : (0 : Int) ≤ (m : Int) := by omega
          have m_1 : (m : Int) < (n1 : Int) := by have := HL.out.1; omega
          have m_2 : m < n1 := by omega
          have HQ := Lib.hid (List.getElem?_eq_getElem hml)
          obtain ⟨q, hq⟩ : ∃ q, trims[m] = q := ⟨_, rfl⟩
          rw [hq] at HQ
          have HST := Lib.hid (HS.out.step HX0.out (by omega) HQ.out)
          obtain ⟨g9, o9, rfl, hg9, t0, t1⟩ := cell2_at (HR.out.next HB.out) HQ.out
          have hq3 := part_at HP.out (show (goneI trims cut)[G.length]? = some q by rw [HST.out.g, List.append_assoc]; simp)
          have HTA := Lib.hid (tot_app G q)
          obtain ⟨q1, q2⟩ := q
          dsimp only at t0 t1 hq3 HTA
          have q_0 : 0 ≤ q1 := hq3.1
          have q_1 : q1 < q2 := hq3.2.1
          have q_2 : q2 ≤ 3600 := by have := hq3.2.2.1; have := HLEN.out; omega
          clear hq hml hok hq3
          go_wp2
          go_quiet (fail)
          go_wp2
          go_roundw
          case rel => exact ⟨k + 1, m + 1, _, by go_num, by omega, by rw [HTA.out]; congr 1; have := HT.out; omega, HST, Lib.hid (RI.out.below (belowN (Below.refl _ _) _) RI.out.lt), Lib.hid (belowN HB.out _)⟩
          case measure => simp [intOf]; omega
        · have HD := Lib.hid (HS.out.done (by have := HL.out.2; omega))
          have k_1 : ¬ (k : Int) < (n3 : Int) := by omega
          have HX2 := Lib.hid (show V = (t, 0) by rw [HX.out]; show (bef len (goneI trims cut), (0 : Int)) = (t, 0); rw [bef_len HP.out, HD.out.2, HT.out])
          go_wp2
          refine bodyPost_ret (results_tmp2 rfl _ _ _) rfl ⟨by rw [HX2.out]; rfl, HB.out⟩

end Go.Proofs.Ytnmhigjannihgaa

/- The reference's Place and Heard. -/
namespace Go.Proofs.Ytnmhigjannihgaa
open Go.RowKit Go.Shelf

theorem pl_only {len : Int} {G : List (Int × Int)} (h : partsF len 0 G) {s c : Int} (h0 : 0 ≤ s) (hb : bef c G = s) (hin : inP G c = false) : pl G s = c := by
  obtain ⟨p1, p2, -, -⟩ := pl_bef h h0
  have hst := bef_step h c
  rw [hin, if_neg (by decide), hb] at hst
  have x1 := fun (e : c + 1 ≤ pl G s) => bef_le h e
  have x2 := fun (e : pl G s + 1 ≤ c) => bef_le h e
  rcases Int.lt_trichotomy c (pl G s) with e | e | e
  · have := x1 e; omega
  · exact e.symm
  · have := x2 e; omega
set_option maxRecDepth 100000 in
set_option maxHeartbeats 8000000 in
theorem rplace_any (i : ItemP) (cut : List Int) (s : Int) (A1 A2 A3 : Option Addr) (n1 c1 n2 c2 n3 c3 : Nat) (w : World) (hr : ItAt i A1 n1 c1 A2 n2 c2 w.heap.size w) (h3 : Recs enc1 1 w w.heap.size (.slice A3 n3 c3) cut) :
    Calls Try.prog 30 #[.agg #[.int .i64 i.id, .int .i64 i.kind, .int .i64 i.len, .slice A1 n1 c1, .slice A2 n2 c2, .int .i64 i.artist, .int .i64 i.tempo, .int .i64 i.lang], .slice A3 n3 c3, .int .i64 s] w fun e w' => e = .returned (.tuple #[.int .i64 (placeV i cut s).1, .int .i64 (placeV i cut s).2]) ∧ Below w.heap.size w w' := by
  obtain ⟨l1, -⟩ := hr.lens
  have l3 := (recs_cap h3).1
  have hc3 := (recs_cap h3).2
  have hc1 := (recs_cap hr.t).2
  have HVA := Lib.hid (fun u (hu : Below w.heap.size w u) => rvalid_any i A1 A2 n1 c1 n2 c2 u (hr.next hu))
  have HIC := Lib.hid (fun u (hu : Below w.heap.size w u) => rcut_any i cut A1 A2 A3 n1 c1 n2 c2 n3 c3 u (hr.next hu) (h3.next hu))
  have HOUT := Lib.hid (fun (hc : cutB i.trims.length 0 cut = true) s u (hu : Below w.heap.size w u) => rout_any i cut s hc A1 A2 A3 n1 c1 n2 c2 n3 c3 u (hr.next hu) (h3.next hu))
  have HV : Hid (placeV i cut s = if validI i && cutB i.trims.length 0 cut && decide (0 ≤ s) && decide (s < bef i.len (goneI i.trims cut)) then (pl (goneI i.trims cut) s, 0) else (0, 70)) := Lib.hid rfl
  have HR := Lib.hid hr.t
  have H3 := Lib.hid h3
  have HL := Lib.hid (And.intro l1 l3)
  have hn3 : n3 ≤ 9223372036854775807 := by omega
  have hn1 : n1 ≤ 9223372036854775807 := by omega
  have HLP := Lib.hid (fun (h : validI i = true) (h2 : cutB i.trims.length 0 cut = true) => And.intro ((validI_iff i).1 h).len (left_parts ((validI_iff i).1 h) h2))
  clear hr h3 l1 l3 hc3 hc1
  obtain ⟨id, kind, len, trims, talks, artist, tempo, lang⟩ := i
  dsimp only at *
  have RI := Lib.hid (Row.new w 24 #[.int .i64 id, .int .i64 kind, .int .i64 len, .slice A1 n1 c1, .slice A2 n2 c2, .int .i64 artist, .int .i64 tempo, .int .i64 lang])
  have HB0 := Lib.hid ((Below.refl _ w).alloc (Nat.le_refl _) (.cells #[.int .i64 id, .int .i64 kind, .int .i64 len, .slice A1 n1 c1, .slice A2 n2 c2, .int .i64 artist, .int .i64 tempo, .int .i64 lang] 24))
  obtain ⟨V, hV⟩ : ∃ V, placeV (⟨id, kind, len, trims, talks, artist, tempo, lang⟩ : ItemP) cut s = V := ⟨_, rfl⟩
  rw [hV] at HV ⊢
  cases hv : validI (⟨id, kind, len, trims, talks, artist, tempo, lang⟩ : ItemP) with
  | false =>
    have HX := Lib.hid (show V = (0, 70) by rw [HV.out, hv]; rfl)
    rw [hv] at HVA
    clear hv HV hV HLP HOUT HIC
    have r0 : (w.alloc (.cells #[.int .i64 id, .int .i64 kind, .int .i64 len, .slice A1 n1 c1, .slice A2 n2 c2, .int .i64 artist, .int .i64 tempo, .int .i64 lang] 24)).cell? ⟨w.heap.size, 0, none⟩ = some (.int .i64 id) := RI.out.cell 0
    have r1 : (w.alloc (.cells #[.int .i64 id, .int .i64 kind, .int .i64 len, .slice A1 n1 c1, .slice A2 n2 c2, .int .i64 artist, .int .i64 tempo, .int .i64 lang] 24)).cell? ⟨w.heap.size, 1, none⟩ = some (.int .i64 kind) := RI.out.cell 1
    have r2 : (w.alloc (.cells #[.int .i64 id, .int .i64 kind, .int .i64 len, .slice A1 n1 c1, .slice A2 n2 c2, .int .i64 artist, .int .i64 tempo, .int .i64 lang] 24)).cell? ⟨w.heap.size, 2, none⟩ = some (.int .i64 len) := RI.out.cell 2
    have r3 : (w.alloc (.cells #[.int .i64 id, .int .i64 kind, .int .i64 len, .slice A1 n1 c1, .slice A2 n2 c2, .int .i64 artist, .int .i64 tempo, .int .i64 lang] 24)).cell? ⟨w.heap.size, 3, none⟩ = some (.slice A1 n1 c1) := RI.out.cell 3
    have r4 : (w.alloc (.cells #[.int .i64 id, .int .i64 kind, .int .i64 len, .slice A1 n1 c1, .slice A2 n2 c2, .int .i64 artist, .int .i64 tempo, .int .i64 lang] 24)).cell? ⟨w.heap.size, 4, none⟩ = some (.slice A2 n2 c2) := RI.out.cell 4
    have r5 : (w.alloc (.cells #[.int .i64 id, .int .i64 kind, .int .i64 len, .slice A1 n1 c1, .slice A2 n2 c2, .int .i64 artist, .int .i64 tempo, .int .i64 lang] 24)).cell? ⟨w.heap.size, 5, none⟩ = some (.int .i64 artist) := RI.out.cell 5
    have r6 : (w.alloc (.cells #[.int .i64 id, .int .i64 kind, .int .i64 len, .slice A1 n1 c1, .slice A2 n2 c2, .int .i64 artist, .int .i64 tempo, .int .i64 lang] 24)).cell? ⟨w.heap.size, 6, none⟩ = some (.int .i64 tempo) := RI.out.cell 6
    have r7 : (w.alloc (.cells #[.int .i64 id, .int .i64 kind, .int .i64 len, .slice A1 n1 c1, .slice A2 n2 c2, .int .i64 artist, .int .i64 tempo, .int .i64 lang] 24)).cell? ⟨w.heap.size, 7, none⟩ = some (.int .i64 lang) := RI.out.cell 7
    have lr := RI.out.lt
    go_enter Try.func30, Try.ntmps30
    go_wp2_with (first | (go_at_call 13; (with_reducible refine Calls.mono (HVA.out _ HB0.out) ?_); rintro r u1 ⟨rfl, hb⟩; have HB1 := Lib.hid (below_to HB0.out hb); have RI := Lib.hid (RI.out.below hb RI.out.lt); clear r0 r1 r2 r3 r4 r5 r6 r7 lr; have r0 := RI.out.cell 0; have r1 := RI.out.cell 1; have r2 := RI.out.cell 2; have r3 := RI.out.cell 3; have r4 := RI.out.cell 4; have r5 := RI.out.cell 5; have r6 := RI.out.cell 6; have r7 := RI.out.cell 7; have lr := RI.out.lt; clear hb))
    refine bodyPost_ret (results_tmp2 rfl _ _ _) rfl ⟨by rw [HX.out]; rfl, HB1.out⟩
  | true =>
    cases hc : cutB trims.length 0 cut with
    | false =>
      have HX := Lib.hid (show V = (0, 70) by rw [HV.out, hv, hc]; rfl)
      rw [hv] at HVA
      rw [hc] at HIC
      clear hv HV hV HLP HOUT
      have r0 : (w.alloc (.cells #[.int .i64 id, .int .i64 kind, .int .i64 len, .slice A1 n1 c1, .slice A2 n2 c2, .int .i64 artist, .int .i64 tempo, .int .i64 lang] 24)).cell? ⟨w.heap.size, 0, none⟩ = some (.int .i64 id) := RI.out.cell 0
      have r1 : (w.alloc (.cells #[.int .i64 id, .int .i64 kind, .int .i64 len, .slice A1 n1 c1, .slice A2 n2 c2, .int .i64 artist, .int .i64 tempo, .int .i64 lang] 24)).cell? ⟨w.heap.size, 1, none⟩ = some (.int .i64 kind) := RI.out.cell 1
      have r2 : (w.alloc (.cells #[.int .i64 id, .int .i64 kind, .int .i64 len, .slice A1 n1 c1, .slice A2 n2 c2, .int .i64 artist, .int .i64 tempo, .int .i64 lang] 24)).cell? ⟨w.heap.size, 2, none⟩ = some (.int .i64 len) := RI.out.cell 2
      have r3 : (w.alloc (.cells #[.int .i64 id, .int .i64 kind, .int .i64 len, .slice A1 n1 c1, .slice A2 n2 c2, .int .i64 artist, .int .i64 tempo, .int .i64 lang] 24)).cell? ⟨w.heap.size, 3, none⟩ = some (.slice A1 n1 c1) := RI.out.cell 3
      have r4 : (w.alloc (.cells #[.int .i64 id, .int .i64 kind, .int .i64 len, .slice A1 n1 c1, .slice A2 n2 c2, .int .i64 artist, .int .i64 tempo, .int .i64 lang] 24)).cell? ⟨w.heap.size, 4, none⟩ = some (.slice A2 n2 c2) := RI.out.cell 4
      have r5 : (w.alloc (.cells #[.int .i64 id, .int .i64 kind, .int .i64 len, .slice A1 n1 c1, .slice A2 n2 c2, .int .i64 artist, .int .i64 tempo, .int .i64 lang] 24)).cell? ⟨w.heap.size, 5, none⟩ = some (.int .i64 artist) := RI.out.cell 5
      have r6 : (w.alloc (.cells #[.int .i64 id, .int .i64 kind, .int .i64 len, .slice A1 n1 c1, .slice A2 n2 c2, .int .i64 artist, .int .i64 tempo, .int .i64 lang] 24)).cell? ⟨w.heap.size, 6, none⟩ = some (.int .i64 tempo) := RI.out.cell 6
      have r7 : (w.alloc (.cells #[.int .i64 id, .int .i64 kind, .int .i64 len, .slice A1 n1 c1, .slice A2 n2 c2, .int .i64 artist, .int .i64 tempo, .int .i64 lang] 24)).cell? ⟨w.heap.size, 7, none⟩ = some (.int .i64 lang) := RI.out.cell 7
      have lr := RI.out.lt
      go_enter Try.func30, Try.ntmps30
      go_wp2_with (first | (go_at_call 13; (with_reducible refine Calls.mono (HVA.out _ HB0.out) ?_); rintro r u1 ⟨rfl, hb⟩; have HB1 := Lib.hid (below_to HB0.out hb); have RI := Lib.hid (RI.out.below hb RI.out.lt); clear r0 r1 r2 r3 r4 r5 r6 r7 lr; have r0 := RI.out.cell 0; have r1 := RI.out.cell 1; have r2 := RI.out.cell 2; have r3 := RI.out.cell 3; have r4 := RI.out.cell 4; have r5 := RI.out.cell 5; have r6 := RI.out.cell 6; have r7 := RI.out.cell 7; have lr := RI.out.lt; clear hb) | (go_at_call 53; (with_reducible refine Calls.mono (HIC.out _ HB1.out) ?_); rintro r u2 ⟨rfl, hb⟩; have HB2 := Lib.hid (below_to HB1.out hb); have RI := Lib.hid (RI.out.below hb RI.out.lt); clear r0 r1 r2 r3 r4 r5 r6 r7 lr; have r0 := RI.out.cell 0; have r1 := RI.out.cell 1; have r2 := RI.out.cell 2; have r3 := RI.out.cell 3; have r4 := RI.out.cell 4; have r5 := RI.out.cell 5; have r6 := RI.out.cell 6; have r7 := RI.out.cell 7; have lr := RI.out.lt; clear hb))
      refine bodyPost_ret (results_tmp2 rfl _ _ _) rfl ⟨by rw [HX.out]; rfl, HB2.out⟩
    | true =>
      have HLEN := Lib.hid (HLP.out hv hc).1
      have HP := Lib.hid (HLP.out hv hc).2
      have HOUT := Lib.hid (HOUT.out hc)
      have HX := Lib.hid HV.out
      rw [hv, hc] at HX
      rw [hv] at HVA
      rw [hc] at HIC
      have HC := Lib.hid hc
      clear hv hc HV hV HLP
      have r0 : (w.alloc (.cells #[.int .i64 id, .int .i64 kind, .int .i64 len, .slice A1 n1 c1, .slice A2 n2 c2, .int .i64 artist, .int .i64 tempo, .int .i64 lang] 24)).cell? ⟨w.heap.size, 0, none⟩ = some (.int .i64 id) := RI.out.cell 0
      have r1 : (w.alloc (.cells #[.int .i64 id, .int .i64 kind, .int .i64 len, .slice A1 n1 c1, .slice A2 n2 c2, .int .i64 artist, .int .i64 tempo, .int .i64 lang] 24)).cell? ⟨w.heap.size, 1, none⟩ = some (.int .i64 kind) := RI.out.cell 1
      have r2 : (w.alloc (.cells #[.int .i64 id, .int .i64 kind, .int .i64 len, .slice A1 n1 c1, .slice A2 n2 c2, .int .i64 artist, .int .i64 tempo, .int .i64 lang] 24)).cell? ⟨w.heap.size, 2, none⟩ = some (.int .i64 len) := RI.out.cell 2
      have r3 : (w.alloc (.cells #[.int .i64 id, .int .i64 kind, .int .i64 len, .slice A1 n1 c1, .slice A2 n2 c2, .int .i64 artist, .int .i64 tempo, .int .i64 lang] 24)).cell? ⟨w.heap.size, 3, none⟩ = some (.slice A1 n1 c1) := RI.out.cell 3
      have r4 : (w.alloc (.cells #[.int .i64 id, .int .i64 kind, .int .i64 len, .slice A1 n1 c1, .slice A2 n2 c2, .int .i64 artist, .int .i64 tempo, .int .i64 lang] 24)).cell? ⟨w.heap.size, 4, none⟩ = some (.slice A2 n2 c2) := RI.out.cell 4
      have r5 : (w.alloc (.cells #[.int .i64 id, .int .i64 kind, .int .i64 len, .slice A1 n1 c1, .slice A2 n2 c2, .int .i64 artist, .int .i64 tempo, .int .i64 lang] 24)).cell? ⟨w.heap.size, 5, none⟩ = some (.int .i64 artist) := RI.out.cell 5
      have r6 : (w.alloc (.cells #[.int .i64 id, .int .i64 kind, .int .i64 len, .slice A1 n1 c1, .slice A2 n2 c2, .int .i64 artist, .int .i64 tempo, .int .i64 lang] 24)).cell? ⟨w.heap.size, 6, none⟩ = some (.int .i64 tempo) := RI.out.cell 6
      have r7 : (w.alloc (.cells #[.int .i64 id, .int .i64 kind, .int .i64 len, .slice A1 n1 c1, .slice A2 n2 c2, .int .i64 artist, .int .i64 tempo, .int .i64 lang] 24)).cell? ⟨w.heap.size, 7, none⟩ = some (.int .i64 lang) := RI.out.cell 7
      have lr := RI.out.lt
      by_cases h0 : s < 0
      · have f0 := decide_eq_true h0
        have HX2 := Lib.hid (show V = (0, 70) by rw [HX.out, decide_eq_false (show ¬ 0 ≤ s by omega)]; rfl)
        go_enter Try.func30, Try.ntmps30
        go_wp2_with (first | (go_at_call 13; (with_reducible refine Calls.mono (HVA.out _ HB0.out) ?_); rintro r u1 ⟨rfl, hb⟩; have HB1 := Lib.hid (below_to HB0.out hb); have RI := Lib.hid (RI.out.below hb RI.out.lt); clear r0 r1 r2 r3 r4 r5 r6 r7 lr; have r0 := RI.out.cell 0; have r1 := RI.out.cell 1; have r2 := RI.out.cell 2; have r3 := RI.out.cell 3; have r4 := RI.out.cell 4; have r5 := RI.out.cell 5; have r6 := RI.out.cell 6; have r7 := RI.out.cell 7; have lr := RI.out.lt; clear hb) | (go_at_call 53; (with_reducible refine Calls.mono (HIC.out _ HB1.out) ?_); rintro r u2 ⟨rfl, hb⟩; have HB2 := Lib.hid (below_to HB1.out hb); have RI := Lib.hid (RI.out.below hb RI.out.lt); clear r0 r1 r2 r3 r4 r5 r6 r7 lr; have r0 := RI.out.cell 0; have r1 := RI.out.cell 1; have r2 := RI.out.cell 2; have r3 := RI.out.cell 3; have r4 := RI.out.cell 4; have r5 := RI.out.cell 5; have r6 := RI.out.cell 6; have r7 := RI.out.cell 7; have lr := RI.out.lt; clear hb))
        refine bodyPost_ret (results_tmp2 rfl _ _ _) rfl ⟨by rw [HX2.out]; rfl, HB2.out⟩
      have f0 : decide (s < 0) = false := decide_eq_false h0
      rw [decide_eq_true (show 0 ≤ s by omega)] at HX
      go_enter Try.func30, Try.ntmps30
      go_wp2_with (first | (go_at_call 13; (with_reducible refine Calls.mono (HVA.out _ HB0.out) ?_); rintro r u1 ⟨rfl, hb⟩; have HB1 := Lib.hid (below_to HB0.out hb); have RI := Lib.hid (RI.out.below hb RI.out.lt); clear r0 r1 r2 r3 r4 r5 r6 r7 lr; have r0 := RI.out.cell 0; have r1 := RI.out.cell 1; have r2 := RI.out.cell 2; have r3 := RI.out.cell 3; have r4 := RI.out.cell 4; have r5 := RI.out.cell 5; have r6 := RI.out.cell 6; have r7 := RI.out.cell 7; have lr := RI.out.lt; clear hb) | (go_at_call 53; (with_reducible refine Calls.mono (HIC.out _ HB1.out) ?_); rintro r u2 ⟨rfl, hb⟩; have HB2 := Lib.hid (below_to HB1.out hb); have RI := Lib.hid (RI.out.below hb RI.out.lt); clear r0 r1 r2 r3 r4 r5 r6 r7 lr; have r0 := RI.out.cell 0; have r1 := RI.out.cell 1; have r2 := RI.out.cell 2; have r3 := RI.out.cell 3; have r4 := RI.out.cell 4; have r5 := RI.out.cell 5; have r6 := RI.out.cell 6; have r7 := RI.out.cell 7; have lr := RI.out.lt; clear hb))
      go_loopw [8, 9] (fun t j wr => ∃ c : Nat, j = .int .i64 (c : Int) ∧ (c : Int) ≤ len ∧ t = .int .i64 (bef (c : Int) (goneI trims cut)) ∧ bef (c : Int) (goneI trims cut) ≤ s ∧ Hid (Row wr w.heap.size 24 #[.int .i64 id, .int .i64 kind, .int .i64 len, .slice A1 n1 c1, .slice A2 n2 c2, .int .i64 artist, .int .i64 tempo, .int .i64 lang]) ∧ Hid (Below w.heap.size w wr)) (fun _ j _ => len.toNat - (intOf j).toNat)
      case atStart => exact ⟨0, rfl, by have := HLEN.out; omega, by show _ = Value.int .i64 (bef (0 : Int) _); rw [bef_zero HP.out (Int.le_refl _)], by show bef (0 : Int) _ ≤ _; rw [bef_zero HP.out (Int.le_refl _)]; omega, RI, HB2⟩
      case round =>
        clear RI r0 r1 r2 r3 r4 r5 r6 r7 lr HVA HIC
        obtain ⟨c, rfl, hcl, rfl, hbs, RI, HB⟩ := hrel
        have r0 : wr.cell? ⟨w.heap.size, 0, none⟩ = some (.int .i64 id) := RI.out.cell 0
        have r1 : wr.cell? ⟨w.heap.size, 1, none⟩ = some (.int .i64 kind) := RI.out.cell 1
        have r2 : wr.cell? ⟨w.heap.size, 2, none⟩ = some (.int .i64 len) := RI.out.cell 2
        have r3 : wr.cell? ⟨w.heap.size, 3, none⟩ = some (.slice A1 n1 c1) := RI.out.cell 3
        have r4 : wr.cell? ⟨w.heap.size, 4, none⟩ = some (.slice A2 n2 c2) := RI.out.cell 4
        have r5 : wr.cell? ⟨w.heap.size, 5, none⟩ = some (.int .i64 artist) := RI.out.cell 5
        have r6 : wr.cell? ⟨w.heap.size, 6, none⟩ = some (.int .i64 tempo) := RI.out.cell 6
        have r7 : wr.cell? ⟨w.heap.size, 7, none⟩ = some (.int .i64 lang) := RI.out.cell 7
        have lr := RI.out.lt
        have hb0 := bef_le HP.out (show (0 : Int) ≤ (c : Int) by omega)
        have hb1 := bef_gap HP.out (show (0 : Int) ≤ (c : Int) by omega)
        rw [bef_zero HP.out (Int.le_refl _)] at hb0 hb1
        have hst := bef_step HP.out (c : Int)
        obtain ⟨t, ht⟩ : ∃ t, bef (c : Int) (goneI trims cut) = t := ⟨_, rfl⟩
        rw [ht] at hb0 hb1 hbs hst ⊢
        have HT := Lib.hid ht
        clear ht
        have HO := Lib.hid (HOUT.out (c : Int))
        have c_0 : (0 : Int) ≤ (c : Int) := by omega
        have t_1 : t ≤ 3600 := by have := HLEN.out; omega
        clear hb1
        by_cases hlt : (c : Int) < len
        · have hb9 := bef_le HP.out (show (c : Int) + 1 ≤ len by omega)
          have c_1 : (c : Int) < 3600 := by have := HLEN.out; omega
          cases hin : inP (goneI trims cut) (c : Int) with
          | true =>
            rw [hin] at HO
            rw [hin, if_pos rfl] at hst
            have HST := Lib.hid hst
            clear hin hst hb9
            go_wp2_with (first | (go_at_call 57; (with_reducible refine Calls.mono (HO.out _ HB.out) ?_); rintro r u5 ⟨rfl, hb⟩; have HB5 := Lib.hid (below_to HB.out hb); have RI := Lib.hid (RI.out.below hb RI.out.lt); clear r0 r1 r2 r3 r4 r5 r6 r7 lr; have r0 := RI.out.cell 0; have r1 := RI.out.cell 1; have r2 := RI.out.cell 2; have r3 := RI.out.cell 3; have r4 := RI.out.cell 4; have r5 := RI.out.cell 5; have r6 := RI.out.cell 6; have r7 := RI.out.cell 7; have lr := RI.out.lt; clear hb))
            go_roundw
            case rel => exact ⟨c + 1, by go_num, by omega, by show _ = Value.int .i64 (bef ((c : Int) + 1) _); rw [HST.out, Int.add_zero], by show bef ((c : Int) + 1) _ ≤ _; rw [HST.out]; omega, RI, HB5⟩
            case measure => simp [intOf]; omega
          | false =>
            rw [hin] at HO
            rw [hin, if_neg (by decide)] at hst
            rw [hst] at hb9
            by_cases he : t = s
            · subst he
              have hpl := pl_only HP.out hb0 HT.out hin
              have HX2 := Lib.hid (show V = ((c : Int), 0) by rw [HX.out, decide_eq_true (show t < bef len (goneI trims cut) by omega), hpl]; rfl)
              clear hin hst hb9 hpl
              go_wp2_with (first | (go_at_call 57; (with_reducible refine Calls.mono (HO.out _ HB.out) ?_); rintro r u5 ⟨rfl, hb⟩; have HB5 := Lib.hid (below_to HB.out hb); have RI := Lib.hid (RI.out.below hb RI.out.lt); clear r0 r1 r2 r3 r4 r5 r6 r7 lr; have r0 := RI.out.cell 0; have r1 := RI.out.cell 1; have r2 := RI.out.cell 2; have r3 := RI.out.cell 3; have r4 := RI.out.cell 4; have r5 := RI.out.cell 5; have r6 := RI.out.cell 6; have r7 := RI.out.cell 7; have lr := RI.out.lt; clear hb))
              refine bodyPost_ret (results_tmp2 rfl _ _ _) rfl ⟨by rw [HX2.out]; rfl, HB5.out⟩
            · have e1 : (t == s) = false := beq_eq_false_iff_ne.2 he
              have HST := Lib.hid hst
              clear hin hst hb9
              go_wp2_with (first | (go_at_call 57; (with_reducible refine Calls.mono (HO.out _ HB.out) ?_); rintro r u5 ⟨rfl, hb⟩; have HB5 := Lib.hid (below_to HB.out hb); have RI := Lib.hid (RI.out.below hb RI.out.lt); clear r0 r1 r2 r3 r4 r5 r6 r7 lr; have r0 := RI.out.cell 0; have r1 := RI.out.cell 1; have r2 := RI.out.cell 2; have r3 := RI.out.cell 3; have r4 := RI.out.cell 4; have r5 := RI.out.cell 5; have r6 := RI.out.cell 6; have r7 := RI.out.cell 7; have lr := RI.out.lt; clear hb))
              go_roundw
              case rel => exact ⟨c + 1, by go_num, by omega, by show _ = Value.int .i64 (bef ((c : Int) + 1) _); rw [HST.out], by show bef ((c : Int) + 1) _ ≤ _; rw [HST.out]; omega, RI, HB5⟩
              case measure => simp [intOf]; omega
        · obtain hcl2 : (c : Int) = len := by omega
          have HX2 := Lib.hid (show V = (0, 70) by rw [HX.out, ← hcl2, HT.out, decide_eq_false (show ¬ s < t by omega)]; rfl)
          clear hcl2
          go_wp2
          refine bodyPost_ret (results_tmp2 rfl _ _ _) rfl ⟨by rw [HX2.out]; rfl, HB.out⟩

set_option maxRecDepth 100000 in
set_option maxHeartbeats 8000000 in
theorem rheard_any (i : ItemP) (cut : List Int) (s : Int) (A1 A2 A3 : Option Addr) (n1 c1 n2 c2 n3 c3 : Nat) (w : World) (hr : ItAt i A1 n1 c1 A2 n2 c2 w.heap.size w) (h3 : Recs enc1 1 w w.heap.size (.slice A3 n3 c3) cut) :
    Calls Try.prog 32 #[.agg #[.int .i64 i.id, .int .i64 i.kind, .int .i64 i.len, .slice A1 n1 c1, .slice A2 n2 c2, .int .i64 i.artist, .int .i64 i.tempo, .int .i64 i.lang], .slice A3 n3 c3, .int .i64 s] w fun e w' => e = .returned (.tuple #[.int .i64 (heardV i cut s).1, .int .i64 (heardV i cut s).2]) ∧ Below w.heap.size w w' := by
  obtain ⟨l1, -⟩ := hr.lens
  have l3 := (recs_cap h3).1
  have hc3 := (recs_cap h3).2
  have hc1 := (recs_cap hr.t).2
  have HVA := Lib.hid (fun u (hu : Below w.heap.size w u) => rvalid_any i A1 A2 n1 c1 n2 c2 u (hr.next hu))
  have HIC := Lib.hid (fun u (hu : Below w.heap.size w u) => rcut_any i cut A1 A2 A3 n1 c1 n2 c2 n3 c3 u (hr.next hu) (h3.next hu))
  have HOUT := Lib.hid (fun (hc : cutB i.trims.length 0 cut = true) s u (hu : Below w.heap.size w u) => rout_any i cut s hc A1 A2 A3 n1 c1 n2 c2 n3 c3 u (hr.next hu) (h3.next hu))
  have HV : Hid (heardV i cut s = if validI i && cutB i.trims.length 0 cut && decide (0 ≤ s) && decide (s < i.len) then (if bef (s + 1) (goneI i.trims cut) = bef s (goneI i.trims cut) then -1 else bef s (goneI i.trims cut), 0) else (0, 70)) := Lib.hid rfl
  have HR := Lib.hid hr.t
  have H3 := Lib.hid h3
  have HL := Lib.hid (And.intro l1 l3)
  have hn3 : n3 ≤ 9223372036854775807 := by omega
  have hn1 : n1 ≤ 9223372036854775807 := by omega
  have HLP := Lib.hid (fun (h : validI i = true) (h2 : cutB i.trims.length 0 cut = true) => And.intro ((validI_iff i).1 h).len (left_parts ((validI_iff i).1 h) h2))
  clear hr h3 l1 l3 hc3 hc1
  obtain ⟨id, kind, len, trims, talks, artist, tempo, lang⟩ := i
  dsimp only at *
  have RI := Lib.hid (Row.new w 24 #[.int .i64 id, .int .i64 kind, .int .i64 len, .slice A1 n1 c1, .slice A2 n2 c2, .int .i64 artist, .int .i64 tempo, .int .i64 lang])
  have HB0 := Lib.hid ((Below.refl _ w).alloc (Nat.le_refl _) (.cells #[.int .i64 id, .int .i64 kind, .int .i64 len, .slice A1 n1 c1, .slice A2 n2 c2, .int .i64 artist, .int .i64 tempo, .int .i64 lang] 24))
  obtain ⟨V, hV⟩ : ∃ V, heardV (⟨id, kind, len, trims, talks, artist, tempo, lang⟩ : ItemP) cut s = V := ⟨_, rfl⟩
  rw [hV] at HV ⊢
  cases hv : validI (⟨id, kind, len, trims, talks, artist, tempo, lang⟩ : ItemP) with
  | false =>
    have HX := Lib.hid (show V = (0, 70) by rw [HV.out, hv]; rfl)
    rw [hv] at HVA
    clear hv HV hV HLP HOUT HIC
    have r0 : (w.alloc (.cells #[.int .i64 id, .int .i64 kind, .int .i64 len, .slice A1 n1 c1, .slice A2 n2 c2, .int .i64 artist, .int .i64 tempo, .int .i64 lang] 24)).cell? ⟨w.heap.size, 0, none⟩ = some (.int .i64 id) := RI.out.cell 0
    have r1 : (w.alloc (.cells #[.int .i64 id, .int .i64 kind, .int .i64 len, .slice A1 n1 c1, .slice A2 n2 c2, .int .i64 artist, .int .i64 tempo, .int .i64 lang] 24)).cell? ⟨w.heap.size, 1, none⟩ = some (.int .i64 kind) := RI.out.cell 1
    have r2 : (w.alloc (.cells #[.int .i64 id, .int .i64 kind, .int .i64 len, .slice A1 n1 c1, .slice A2 n2 c2, .int .i64 artist, .int .i64 tempo, .int .i64 lang] 24)).cell? ⟨w.heap.size, 2, none⟩ = some (.int .i64 len) := RI.out.cell 2
    have r3 : (w.alloc (.cells #[.int .i64 id, .int .i64 kind, .int .i64 len, .slice A1 n1 c1, .slice A2 n2 c2, .int .i64 artist, .int .i64 tempo, .int .i64 lang] 24)).cell? ⟨w.heap.size, 3, none⟩ = some (.slice A1 n1 c1) := RI.out.cell 3
    have r4 : (w.alloc (.cells #[.int .i64 id, .int .i64 kind, .int .i64 len, .slice A1 n1 c1, .slice A2 n2 c2, .int .i64 artist, .int .i64 tempo, .int .i64 lang] 24)).cell? ⟨w.heap.size, 4, none⟩ = some (.slice A2 n2 c2) := RI.out.cell 4
    have r5 : (w.alloc (.cells #[.int .i64 id, .int .i64 kind, .int .i64 len, .slice A1 n1 c1, .slice A2 n2 c2, .int .i64 artist, .int .i64 tempo, .int .i64 lang] 24)).cell? ⟨w.heap.size, 5, none⟩ = some (.int .i64 artist) := RI.out.cell 5
    have r6 : (w.alloc (.cells #[.int .i64 id, .int .i64 kind, .int .i64 len, .slice A1 n1 c1, .slice A2 n2 c2, .int .i64 artist, .int .i64 tempo, .int .i64 lang] 24)).cell? ⟨w.heap.size, 6, none⟩ = some (.int .i64 tempo) := RI.out.cell 6
    have r7 : (w.alloc (.cells #[.int .i64 id, .int .i64 kind, .int .i64 len, .slice A1 n1 c1, .slice A2 n2 c2, .int .i64 artist, .int .i64 tempo, .int .i64 lang] 24)).cell? ⟨w.heap.size, 7, none⟩ = some (.int .i64 lang) := RI.out.cell 7
    have lr := RI.out.lt
    go_enter Try.func32, Try.ntmps32
    go_wp2_with (first | (go_at_call 13; (with_reducible refine Calls.mono (HVA.out _ HB0.out) ?_); rintro r u1 ⟨rfl, hb⟩; have HB1 := Lib.hid (below_to HB0.out hb); have RI := Lib.hid (RI.out.below hb RI.out.lt); clear r0 r1 r2 r3 r4 r5 r6 r7 lr; have r0 := RI.out.cell 0; have r1 := RI.out.cell 1; have r2 := RI.out.cell 2; have r3 := RI.out.cell 3; have r4 := RI.out.cell 4; have r5 := RI.out.cell 5; have r6 := RI.out.cell 6; have r7 := RI.out.cell 7; have lr := RI.out.lt; clear hb))
    refine bodyPost_ret (results_tmp2 rfl _ _ _) rfl ⟨by rw [HX.out]; rfl, HB1.out⟩
  | true =>
    cases hc : cutB trims.length 0 cut with
    | false =>
      have HX := Lib.hid (show V = (0, 70) by rw [HV.out, hv, hc]; rfl)
      rw [hv] at HVA
      rw [hc] at HIC
      clear hv HV hV HLP HOUT
      have r0 : (w.alloc (.cells #[.int .i64 id, .int .i64 kind, .int .i64 len, .slice A1 n1 c1, .slice A2 n2 c2, .int .i64 artist, .int .i64 tempo, .int .i64 lang] 24)).cell? ⟨w.heap.size, 0, none⟩ = some (.int .i64 id) := RI.out.cell 0
      have r1 : (w.alloc (.cells #[.int .i64 id, .int .i64 kind, .int .i64 len, .slice A1 n1 c1, .slice A2 n2 c2, .int .i64 artist, .int .i64 tempo, .int .i64 lang] 24)).cell? ⟨w.heap.size, 1, none⟩ = some (.int .i64 kind) := RI.out.cell 1
      have r2 : (w.alloc (.cells #[.int .i64 id, .int .i64 kind, .int .i64 len, .slice A1 n1 c1, .slice A2 n2 c2, .int .i64 artist, .int .i64 tempo, .int .i64 lang] 24)).cell? ⟨w.heap.size, 2, none⟩ = some (.int .i64 len) := RI.out.cell 2
      have r3 : (w.alloc (.cells #[.int .i64 id, .int .i64 kind, .int .i64 len, .slice A1 n1 c1, .slice A2 n2 c2, .int .i64 artist, .int .i64 tempo, .int .i64 lang] 24)).cell? ⟨w.heap.size, 3, none⟩ = some (.slice A1 n1 c1) := RI.out.cell 3
      have r4 : (w.alloc (.cells #[.int .i64 id, .int .i64 kind, .int .i64 len, .slice A1 n1 c1, .slice A2 n2 c2, .int .i64 artist, .int .i64 tempo, .int .i64 lang] 24)).cell? ⟨w.heap.size, 4, none⟩ = some (.slice A2 n2 c2) := RI.out.cell 4
      have r5 : (w.alloc (.cells #[.int .i64 id, .int .i64 kind, .int .i64 len, .slice A1 n1 c1, .slice A2 n2 c2, .int .i64 artist, .int .i64 tempo, .int .i64 lang] 24)).cell? ⟨w.heap.size, 5, none⟩ = some (.int .i64 artist) := RI.out.cell 5
      have r6 : (w.alloc (.cells #[.int .i64 id, .int .i64 kind, .int .i64 len, .slice A1 n1 c1, .slice A2 n2 c2, .int .i64 artist, .int .i64 tempo, .int .i64 lang] 24)).cell? ⟨w.heap.size, 6, none⟩ = some (.int .i64 tempo) := RI.out.cell 6
      have r7 : (w.alloc (.cells #[.int .i64 id, .int .i64 kind, .int .i64 len, .slice A1 n1 c1, .slice A2 n2 c2, .int .i64 artist, .int .i64 tempo, .int .i64 lang] 24)).cell? ⟨w.heap.size, 7, none⟩ = some (.int .i64 lang) := RI.out.cell 7
      have lr := RI.out.lt
      go_enter Try.func32, Try.ntmps32
      go_wp2_with (first | (go_at_call 13; (with_reducible refine Calls.mono (HVA.out _ HB0.out) ?_); rintro r u1 ⟨rfl, hb⟩; have HB1 := Lib.hid (below_to HB0.out hb); have RI := Lib.hid (RI.out.below hb RI.out.lt); clear r0 r1 r2 r3 r4 r5 r6 r7 lr; have r0 := RI.out.cell 0; have r1 := RI.out.cell 1; have r2 := RI.out.cell 2; have r3 := RI.out.cell 3; have r4 := RI.out.cell 4; have r5 := RI.out.cell 5; have r6 := RI.out.cell 6; have r7 := RI.out.cell 7; have lr := RI.out.lt; clear hb) | (go_at_call 53; (with_reducible refine Calls.mono (HIC.out _ HB1.out) ?_); rintro r u2 ⟨rfl, hb⟩; have HB2 := Lib.hid (below_to HB1.out hb); have RI := Lib.hid (RI.out.below hb RI.out.lt); clear r0 r1 r2 r3 r4 r5 r6 r7 lr; have r0 := RI.out.cell 0; have r1 := RI.out.cell 1; have r2 := RI.out.cell 2; have r3 := RI.out.cell 3; have r4 := RI.out.cell 4; have r5 := RI.out.cell 5; have r6 := RI.out.cell 6; have r7 := RI.out.cell 7; have lr := RI.out.lt; clear hb))
      refine bodyPost_ret (results_tmp2 rfl _ _ _) rfl ⟨by rw [HX.out]; rfl, HB2.out⟩
    | true =>
      have HLEN := Lib.hid (HLP.out hv hc).1
      have HP := Lib.hid (HLP.out hv hc).2
      have HOUT := Lib.hid (HOUT.out hc)
      have HX := Lib.hid HV.out
      rw [hv, hc] at HX
      rw [hv] at HVA
      rw [hc] at HIC
      have HC := Lib.hid hc
      clear hv hc HV hV HLP
      have r0 : (w.alloc (.cells #[.int .i64 id, .int .i64 kind, .int .i64 len, .slice A1 n1 c1, .slice A2 n2 c2, .int .i64 artist, .int .i64 tempo, .int .i64 lang] 24)).cell? ⟨w.heap.size, 0, none⟩ = some (.int .i64 id) := RI.out.cell 0
      have r1 : (w.alloc (.cells #[.int .i64 id, .int .i64 kind, .int .i64 len, .slice A1 n1 c1, .slice A2 n2 c2, .int .i64 artist, .int .i64 tempo, .int .i64 lang] 24)).cell? ⟨w.heap.size, 1, none⟩ = some (.int .i64 kind) := RI.out.cell 1
      have r2 : (w.alloc (.cells #[.int .i64 id, .int .i64 kind, .int .i64 len, .slice A1 n1 c1, .slice A2 n2 c2, .int .i64 artist, .int .i64 tempo, .int .i64 lang] 24)).cell? ⟨w.heap.size, 2, none⟩ = some (.int .i64 len) := RI.out.cell 2
      have r3 : (w.alloc (.cells #[.int .i64 id, .int .i64 kind, .int .i64 len, .slice A1 n1 c1, .slice A2 n2 c2, .int .i64 artist, .int .i64 tempo, .int .i64 lang] 24)).cell? ⟨w.heap.size, 3, none⟩ = some (.slice A1 n1 c1) := RI.out.cell 3
      have r4 : (w.alloc (.cells #[.int .i64 id, .int .i64 kind, .int .i64 len, .slice A1 n1 c1, .slice A2 n2 c2, .int .i64 artist, .int .i64 tempo, .int .i64 lang] 24)).cell? ⟨w.heap.size, 4, none⟩ = some (.slice A2 n2 c2) := RI.out.cell 4
      have r5 : (w.alloc (.cells #[.int .i64 id, .int .i64 kind, .int .i64 len, .slice A1 n1 c1, .slice A2 n2 c2, .int .i64 artist, .int .i64 tempo, .int .i64 lang] 24)).cell? ⟨w.heap.size, 5, none⟩ = some (.int .i64 artist) := RI.out.cell 5
      have r6 : (w.alloc (.cells #[.int .i64 id, .int .i64 kind, .int .i64 len, .slice A1 n1 c1, .slice A2 n2 c2, .int .i64 artist, .int .i64 tempo, .int .i64 lang] 24)).cell? ⟨w.heap.size, 6, none⟩ = some (.int .i64 tempo) := RI.out.cell 6
      have r7 : (w.alloc (.cells #[.int .i64 id, .int .i64 kind, .int .i64 len, .slice A1 n1 c1, .slice A2 n2 c2, .int .i64 artist, .int .i64 tempo, .int .i64 lang] 24)).cell? ⟨w.heap.size, 7, none⟩ = some (.int .i64 lang) := RI.out.cell 7
      have lr := RI.out.lt
      by_cases h0 : s < 0
      · have f0 := decide_eq_true h0
        have HX2 := Lib.hid (show V = (0, 70) by rw [HX.out, decide_eq_false (show ¬ 0 ≤ s by omega)]; rfl)
        go_enter Try.func32, Try.ntmps32
        go_wp2_with (first | (go_at_call 13; (with_reducible refine Calls.mono (HVA.out _ HB0.out) ?_); rintro r u1 ⟨rfl, hb⟩; have HB1 := Lib.hid (below_to HB0.out hb); have RI := Lib.hid (RI.out.below hb RI.out.lt); clear r0 r1 r2 r3 r4 r5 r6 r7 lr; have r0 := RI.out.cell 0; have r1 := RI.out.cell 1; have r2 := RI.out.cell 2; have r3 := RI.out.cell 3; have r4 := RI.out.cell 4; have r5 := RI.out.cell 5; have r6 := RI.out.cell 6; have r7 := RI.out.cell 7; have lr := RI.out.lt; clear hb) | (go_at_call 53; (with_reducible refine Calls.mono (HIC.out _ HB1.out) ?_); rintro r u2 ⟨rfl, hb⟩; have HB2 := Lib.hid (below_to HB1.out hb); have RI := Lib.hid (RI.out.below hb RI.out.lt); clear r0 r1 r2 r3 r4 r5 r6 r7 lr; have r0 := RI.out.cell 0; have r1 := RI.out.cell 1; have r2 := RI.out.cell 2; have r3 := RI.out.cell 3; have r4 := RI.out.cell 4; have r5 := RI.out.cell 5; have r6 := RI.out.cell 6; have r7 := RI.out.cell 7; have lr := RI.out.lt; clear hb))
        refine bodyPost_ret (results_tmp2 rfl _ _ _) rfl ⟨by rw [HX2.out]; rfl, HB2.out⟩
      have f0 : decide (s < 0) = false := decide_eq_false h0
      rw [decide_eq_true (show 0 ≤ s by omega)] at HX
      by_cases h1 : len ≤ s
      · have f1 := decide_eq_true h1
        have HX2 := Lib.hid (show V = (0, 70) by rw [HX.out, decide_eq_false (show ¬ s < len by omega)]; rfl)
        go_enter Try.func32, Try.ntmps32
        go_wp2_with (first | (go_at_call 13; (with_reducible refine Calls.mono (HVA.out _ HB0.out) ?_); rintro r u1 ⟨rfl, hb⟩; have HB1 := Lib.hid (below_to HB0.out hb); have RI := Lib.hid (RI.out.below hb RI.out.lt); clear r0 r1 r2 r3 r4 r5 r6 r7 lr; have r0 := RI.out.cell 0; have r1 := RI.out.cell 1; have r2 := RI.out.cell 2; have r3 := RI.out.cell 3; have r4 := RI.out.cell 4; have r5 := RI.out.cell 5; have r6 := RI.out.cell 6; have r7 := RI.out.cell 7; have lr := RI.out.lt; clear hb) | (go_at_call 53; (with_reducible refine Calls.mono (HIC.out _ HB1.out) ?_); rintro r u2 ⟨rfl, hb⟩; have HB2 := Lib.hid (below_to HB1.out hb); have RI := Lib.hid (RI.out.below hb RI.out.lt); clear r0 r1 r2 r3 r4 r5 r6 r7 lr; have r0 := RI.out.cell 0; have r1 := RI.out.cell 1; have r2 := RI.out.cell 2; have r3 := RI.out.cell 3; have r4 := RI.out.cell 4; have r5 := RI.out.cell 5; have r6 := RI.out.cell 6; have r7 := RI.out.cell 7; have lr := RI.out.lt; clear hb))
        refine bodyPost_ret (results_tmp2 rfl _ _ _) rfl ⟨by rw [HX2.out]; rfl, HB2.out⟩
      have f1 : decide (len ≤ s) = false := decide_eq_false h1
      rw [decide_eq_true (show s < len by omega)] at HX
      have hstp := bef_step HP.out s
      have s_9 : s ≤ 3600 := by have := HLEN.out; omega
      have HOS := Lib.hid (HOUT.out s)
      cases hin : inP (goneI trims cut) s with
      | true =>
        rw [hin] at HOS
        rw [hin, if_pos rfl, Int.add_zero] at hstp
        have HX2 := Lib.hid (show V = (-1, 0) by rw [HX.out]; show ((if bef (s + 1) (goneI trims cut) = bef s (goneI trims cut) then (-1 : Int) else _), (0 : Int)) = _; rw [if_pos hstp])
        clear hin hstp
        go_enter Try.func32, Try.ntmps32
        go_wp2_with (first | (go_at_call 13; (with_reducible refine Calls.mono (HVA.out _ HB0.out) ?_); rintro r u1 ⟨rfl, hb⟩; have HB1 := Lib.hid (below_to HB0.out hb); have RI := Lib.hid (RI.out.below hb RI.out.lt); clear r0 r1 r2 r3 r4 r5 r6 r7 lr; have r0 := RI.out.cell 0; have r1 := RI.out.cell 1; have r2 := RI.out.cell 2; have r3 := RI.out.cell 3; have r4 := RI.out.cell 4; have r5 := RI.out.cell 5; have r6 := RI.out.cell 6; have r7 := RI.out.cell 7; have lr := RI.out.lt; clear hb) | (go_at_call 53; (with_reducible refine Calls.mono (HIC.out _ HB1.out) ?_); rintro r u2 ⟨rfl, hb⟩; have HB2 := Lib.hid (below_to HB1.out hb); have RI := Lib.hid (RI.out.below hb RI.out.lt); clear r0 r1 r2 r3 r4 r5 r6 r7 lr; have r0 := RI.out.cell 0; have r1 := RI.out.cell 1; have r2 := RI.out.cell 2; have r3 := RI.out.cell 3; have r4 := RI.out.cell 4; have r5 := RI.out.cell 5; have r6 := RI.out.cell 6; have r7 := RI.out.cell 7; have lr := RI.out.lt; clear hb) | (go_at_call 57; (with_reducible refine Calls.mono (HOS.out _ HB2.out) ?_); rintro r u4 ⟨rfl, hb⟩; have HB4 := Lib.hid (below_to HB2.out hb); have RI := Lib.hid (RI.out.below hb RI.out.lt); clear r0 r1 r2 r3 r4 r5 r6 r7 lr; have r0 := RI.out.cell 0; have r1 := RI.out.cell 1; have r2 := RI.out.cell 2; have r3 := RI.out.cell 3; have r4 := RI.out.cell 4; have r5 := RI.out.cell 5; have r6 := RI.out.cell 6; have r7 := RI.out.cell 7; have lr := RI.out.lt; clear hb))
        refine bodyPost_ret (results_tmp2 rfl _ _ _) rfl ⟨by rw [HX2.out]; rfl, HB4.out⟩
      | false =>
        rw [hin] at HOS
        rw [hin, if_neg (by decide)] at hstp
        have HX2 := Lib.hid (show V = (bef s (goneI trims cut), 0) by rw [HX.out]; show ((if bef (s + 1) (goneI trims cut) = bef s (goneI trims cut) then (-1 : Int) else _), (0 : Int)) = _; rw [if_neg (by omega)])
        clear hin hstp
        go_enter Try.func32, Try.ntmps32
        go_wp2_with (first | (go_at_call 13; (with_reducible refine Calls.mono (HVA.out _ HB0.out) ?_); rintro r u1 ⟨rfl, hb⟩; have HB1 := Lib.hid (below_to HB0.out hb); have RI := Lib.hid (RI.out.below hb RI.out.lt); clear r0 r1 r2 r3 r4 r5 r6 r7 lr; have r0 := RI.out.cell 0; have r1 := RI.out.cell 1; have r2 := RI.out.cell 2; have r3 := RI.out.cell 3; have r4 := RI.out.cell 4; have r5 := RI.out.cell 5; have r6 := RI.out.cell 6; have r7 := RI.out.cell 7; have lr := RI.out.lt; clear hb) | (go_at_call 53; (with_reducible refine Calls.mono (HIC.out _ HB1.out) ?_); rintro r u2 ⟨rfl, hb⟩; have HB2 := Lib.hid (below_to HB1.out hb); have RI := Lib.hid (RI.out.below hb RI.out.lt); clear r0 r1 r2 r3 r4 r5 r6 r7 lr; have r0 := RI.out.cell 0; have r1 := RI.out.cell 1; have r2 := RI.out.cell 2; have r3 := RI.out.cell 3; have r4 := RI.out.cell 4; have r5 := RI.out.cell 5; have r6 := RI.out.cell 6; have r7 := RI.out.cell 7; have lr := RI.out.lt; clear hb) | (go_at_call 57; (with_reducible refine Calls.mono (HOS.out _ HB2.out) ?_); rintro r u4 ⟨rfl, hb⟩; have HB4 := Lib.hid (below_to HB2.out hb); have RI := Lib.hid (RI.out.below hb RI.out.lt); clear r0 r1 r2 r3 r4 r5 r6 r7 lr; have r0 := RI.out.cell 0; have r1 := RI.out.cell 1; have r2 := RI.out.cell 2; have r3 := RI.out.cell 3; have r4 := RI.out.cell 4; have r5 := RI.out.cell 5; have r6 := RI.out.cell 6; have r7 := RI.out.cell 7; have lr := RI.out.lt; clear hb))
        go_loopw [8, 9] (fun t j wr => ∃ c : Nat, j = .int .i64 (c : Int) ∧ (c : Int) ≤ s ∧ t = .int .i64 (bef (c : Int) (goneI trims cut)) ∧ True ∧ Hid (Row wr w.heap.size 24 #[.int .i64 id, .int .i64 kind, .int .i64 len, .slice A1 n1 c1, .slice A2 n2 c2, .int .i64 artist, .int .i64 tempo, .int .i64 lang]) ∧ Hid (Below w.heap.size w wr)) (fun _ j _ => s.toNat - (intOf j).toNat)
        case atStart => exact ⟨0, rfl, by omega, by show _ = Value.int .i64 (bef (0 : Int) _); rw [bef_zero HP.out (Int.le_refl _)], trivial, RI, HB4⟩
        case round =>
          clear RI r0 r1 r2 r3 r4 r5 r6 r7 lr HVA HIC
          obtain ⟨c, rfl, hcl, rfl, hbs, RI, HB⟩ := hrel
          have r0 : wr.cell? ⟨w.heap.size, 0, none⟩ = some (.int .i64 id) := RI.out.cell 0
          have r1 : wr.cell? ⟨w.heap.size, 1, none⟩ = some (.int .i64 kind) := RI.out.cell 1
          have r2 : wr.cell? ⟨w.heap.size, 2, none⟩ = some (.int .i64 len) := RI.out.cell 2
          have r3 : wr.cell? ⟨w.heap.size, 3, none⟩ = some (.slice A1 n1 c1) := RI.out.cell 3
          have r4 : wr.cell? ⟨w.heap.size, 4, none⟩ = some (.slice A2 n2 c2) := RI.out.cell 4
          have r5 : wr.cell? ⟨w.heap.size, 5, none⟩ = some (.int .i64 artist) := RI.out.cell 5
          have r6 : wr.cell? ⟨w.heap.size, 6, none⟩ = some (.int .i64 tempo) := RI.out.cell 6
          have r7 : wr.cell? ⟨w.heap.size, 7, none⟩ = some (.int .i64 lang) := RI.out.cell 7
          have lr := RI.out.lt
          have hb0 := bef_le HP.out (show (0 : Int) ≤ (c : Int) by omega)
          have hb1 := bef_gap HP.out (show (0 : Int) ≤ (c : Int) by omega)
          rw [bef_zero HP.out (Int.le_refl _)] at hb0 hb1
          have hst := bef_step HP.out (c : Int)
          obtain ⟨t, ht⟩ : ∃ t, bef (c : Int) (goneI trims cut) = t := ⟨_, rfl⟩
          rw [ht] at hb0 hb1 hst ⊢
          have HT := Lib.hid ht
          clear ht
          have HO := Lib.hid (HOUT.out (c : Int))
          have c_0 : (0 : Int) ≤ (c : Int) := by omega
          have t_1 : t ≤ 3600 := by have := HLEN.out; omega
          clear hb1
          by_cases hlt : (c : Int) < s
          · have c_1 : (c : Int) < 3600 := by omega
            cases hin : inP (goneI trims cut) (c : Int) with
            | true =>
              rw [hin] at HO
              rw [hin, if_pos rfl, Int.add_zero] at hst
              have HST := Lib.hid hst
              clear hin hst
              go_wp2_with (first | (go_at_call 57; (with_reducible refine Calls.mono (HO.out _ HB.out) ?_); rintro r u5 ⟨rfl, hb⟩; have HB5 := Lib.hid (below_to HB.out hb); have RI := Lib.hid (RI.out.below hb RI.out.lt); clear r0 r1 r2 r3 r4 r5 r6 r7 lr; have r0 := RI.out.cell 0; have r1 := RI.out.cell 1; have r2 := RI.out.cell 2; have r3 := RI.out.cell 3; have r4 := RI.out.cell 4; have r5 := RI.out.cell 5; have r6 := RI.out.cell 6; have r7 := RI.out.cell 7; have lr := RI.out.lt; clear hb))
              go_roundw
              case rel => exact ⟨c + 1, by go_num, by omega, by show _ = Value.int .i64 (bef ((c : Int) + 1) _); rw [HST.out], trivial, RI, HB5⟩
              case measure => simp [intOf]; omega
            | false =>
              rw [hin] at HO
              rw [hin, if_neg (by decide)] at hst
              have HST := Lib.hid hst
              clear hin hst
              go_wp2_with (first | (go_at_call 57; (with_reducible refine Calls.mono (HO.out _ HB.out) ?_); rintro r u5 ⟨rfl, hb⟩; have HB5 := Lib.hid (below_to HB.out hb); have RI := Lib.hid (RI.out.below hb RI.out.lt); clear r0 r1 r2 r3 r4 r5 r6 r7 lr; have r0 := RI.out.cell 0; have r1 := RI.out.cell 1; have r2 := RI.out.cell 2; have r3 := RI.out.cell 3; have r4 := RI.out.cell 4; have r5 := RI.out.cell 5; have r6 := RI.out.cell 6; have r7 := RI.out.cell 7; have lr := RI.out.lt; clear hb))
              go_roundw
              case rel => exact ⟨c + 1, by go_num, by omega, by show _ = Value.int .i64 (bef ((c : Int) + 1) _); rw [HST.out], trivial, RI, HB5⟩
              case measure => simp [intOf]; omega
          · obtain hcl2 : (c : Int) = s := by omega
            have HX3 := Lib.hid (show V = (t, 0) by rw [HX2.out, ← hcl2, HT.out])
            clear hcl2
            go_wp2
            refine bodyPost_ret (results_tmp2 rfl _ _ _) rfl ⟨by rw [HX3.out]; rfl, HB.out⟩

end Go.Proofs.Ytnmhigjannihgaa

/- Lists of spells with gaps between them are unique; what the reference's Talk builds. -/
namespace Go.Proofs.Ytnmhigjannihgaa

theorem inP_head {q : Int × Int} {l : List (Int × Int)} (h : q.1 < q.2) : inP (q :: l) q.1 = true := by
  rw [inP_cons, decide_eq_true (Int.le_refl _), decide_eq_true h]; rfl
theorem inP_mem {l : List (Int × Int)} {s : Int} (h : inP l s = true) : ∃ e ∈ l, e.1 ≤ s ∧ s < e.2 := by
  unfold inP at h
  obtain ⟨e, he, h2⟩ := List.any_eq_true.1 h
  rw [Bool.and_eq_true, decide_eq_true_eq, decide_eq_true_eq] at h2
  exact ⟨e, he, h2⟩
theorem TI.first {q : Int × Int} {l : List (Int × Int)} {m : Int} (h : TI (q :: l) m) {s : Int} (hs : inP (q :: l) s = true) : q.1 ≤ s := by
  obtain ⟨e, he, h1, -⟩ := inP_mem hs
  rcases List.mem_cons.1 he with rfl | he
  · exact h1
  · have h2 := (List.pairwise_cons.1 h.p).1 e he
    have h3 := (h.a q (by simp)).2.1
    omega
theorem TI.tail {q : Int × Int} {l : List (Int × Int)} {m : Int} (h : TI (q :: l) m) : TI l m := ⟨(List.pairwise_cons.1 h.p).2, fun e he => h.a e (by simp [he])⟩
theorem TI.rest {q : Int × Int} {l : List (Int × Int)} {m : Int} (h : TI (q :: l) m) {s : Int} (hs : s ≤ q.2) : inP l s = false := by
  cases hb : inP l s with
  | false => rfl
  | true =>
    obtain ⟨e, he, h1, -⟩ := inP_mem hb
    have h2 := (List.pairwise_cons.1 h.p).1 e he
    omega
theorem TI.unique : ∀ {a b : List (Int × Int)} {m n : Int}, TI a m → TI b n → (∀ s, inP a s = inP b s) → a = b
  | [], [], _, _, _, _, _ => rfl
  | [], r :: b, _, _, _, hb, h => by
    have := h r.1
    rw [inP_head (hb.a r (by simp)).2.1] at this; cases this
  | q :: a, [], _, _, ha, _, h => by
    have := h q.1
    rw [inP_head (ha.a q (by simp)).2.1] at this; cases this
  | q :: a, r :: b, m, n, ha, hb, h => by
    have hq := (ha.a q (by simp)).2.1
    have hr := (hb.a r (by simp)).2.1
    have h1 := hb.first (s := q.1) (by rw [← h]; exact inP_head hq)
    have h2 := ha.first (s := r.1) (by rw [h]; exact inP_head hr)
    have e1 : q.1 = r.1 := by omega
    have e2 : q.2 = r.2 := by
      rcases Int.lt_trichotomy q.2 r.2 with e | e | e
      · have x := h q.2
        rw [inP_cons, inP_cons, ha.rest (Int.le_refl _), decide_eq_false (show ¬ q.2 < q.2 by omega), decide_eq_true (show r.1 ≤ q.2 by omega), decide_eq_true e] at x
        simp at x
      · exact e
      · have x := h r.2
        rw [inP_cons, inP_cons, hb.rest (Int.le_refl _), decide_eq_false (show ¬ r.2 < r.2 by omega), decide_eq_true (show q.1 ≤ r.2 by omega), decide_eq_true e] at x
        simp at x
    obtain rfl : q = r := Prod.ext e1 e2
    rw [TI.unique ha.tail hb.tail fun s => ?_]
    by_cases hs : s ≤ q.2
    · rw [ha.rest hs, hb.rest hs]
    · have x := h s
      rw [inP_cons, inP_cons, decide_eq_false (show ¬ s < q.2 by omega), Bool.and_false, Bool.false_or, Bool.false_or] at x
      exact x
/-- What is built of the seconds below c. -/
structure RT (len : Int) (gone talks : List (Int × Int)) (c : Int) (out : List (Int × Int)) : Prop where
  t : TI out (bef c gone)
  i : ∀ s, 0 ≤ s → s < bef c gone → inP out s = inP talks (pl gone s)
theorem RT.start (len : Int) {gone talks : List (Int × Int)} (hg : partsF len 0 gone) : RT len gone talks 0 [] :=
  ⟨TI.nil _, fun s h1 h2 => by rw [bef_zero hg (Int.le_refl _)] at h2; omega⟩
theorem RT.gone {len : Int} {gone talks : List (Int × Int)} (hg : partsF len 0 gone) {c : Int} {out : List (Int × Int)} (h : RT len gone talks c out) (hin : inP gone c = true) : RT len gone talks (c + 1) out := by
  have hs := bef_step hg c
  rw [hin, if_pos rfl, Int.add_zero] at hs
  exact ⟨by rw [hs]; exact h.t, fun s h1 h2 => h.i s h1 (by rw [← hs]; exact h2)⟩
theorem TI.far {out : List (Int × Int)} {m s : Int} (h : TI out m) (hs : m ≤ s) : inP out s = false := by
  cases hb : inP out s with
  | false => rfl
  | true =>
    obtain ⟨e, he, -, h2⟩ := inP_mem hb
    have := (h.a e he).2.2
    omega
theorem RT.quiet {len : Int} {gone talks : List (Int × Int)} (hg : partsF len 0 gone) {c : Int} (hc : 0 ≤ bef c gone) {out : List (Int × Int)} (h : RT len gone talks c out) (hin : inP gone c = false) (ht : inP talks c = false) : RT len gone talks (c + 1) out := by
  have hs := bef_step hg c
  rw [hin, if_neg (by decide)] at hs
  refine ⟨h.t.more (by omega), fun s h1 h2 => ?_⟩
  by_cases e : s = bef c gone
  · subst e
    rw [h.t.far (Int.le_refl _), pl_only hg hc rfl hin, ht]
  · exact h.i s h1 (by omega)
theorem RT.talk {len : Int} {gone talks : List (Int × Int)} (hg : partsF len 0 gone) {c : Int} (hc : 0 ≤ bef c gone) {out : List (Int × Int)} (h : RT len gone talks c out) (hin : inP gone c = false) (ht : inP talks c = true) : RT len gone talks (c + 1) (extL out (bef c gone, bef c gone + 1)) := by
  have hs := bef_step hg c
  rw [hin, if_neg (by decide)] at hs
  obtain ⟨h1, h2, -⟩ := ext_inv (q := (bef c gone, bef c gone + 1)) h.t hc (Int.le_refl _) (by dsimp only; omega)
  refine ⟨by rw [hs]; exact h1, fun s h3 h4 => ?_⟩
  rw [h2 s]
  dsimp only
  by_cases e : s = bef c gone
  · subst e
    rw [decide_eq_true (Int.le_refl _), decide_eq_true (show bef c gone < bef c gone + 1 by omega), pl_only hg hc rfl hin, ht]
    simp
  · rw [decide_eq_false (show ¬ bef c gone ≤ s by omega), Bool.false_and, Bool.or_false]
    exact h.i s h3 (by omega)
theorem RT.done {len : Int} {gone talks : List (Int × Int)} (hg : partsF len 0 gone) (ht : partsF len 0 talks) (hl : TI (talkL gone talks) (bef len gone)) {out : List (Int × Int)} (h : RT len gone talks len out) : out = talkL gone talks := by
  refine TI.unique h.t hl fun s => ?_
  by_cases h1 : 0 ≤ s
  · by_cases h2 : s < bef len gone
    · rw [h.i s h1 h2, talk_place hg (Int.le_refl _) ht h1]
    · rw [h.t.far (by omega), hl.far (by omega)]
  · have low : ∀ {l : List (Int × Int)} {m : Int}, TI l m → inP l s = false := fun {l m} hl2 => by
      cases hb : inP l s with
      | false => rfl
      | true =>
        obtain ⟨e, he, h5, -⟩ := inP_mem hb
        have := (hl2.a e he).1
        omega
    rw [low h.t, low hl]
end Go.Proofs.Ytnmhigjannihgaa

/- The reference's Talk. -/
namespace Go.Proofs.Ytnmhigjannihgaa
open Go.RowKit Go.Shelf
attribute [local go_sem ↓] append_appN

theorem rin_is {l : List (Int × Int)} {s : Int} {b : Bool} (h : inP l s = b) {A : Option Addr} {n c : Nat} {w : World} (hr : Recs enc2 2 w w.heap.size (.slice A n c) l) : Calls Try.prog 34 #[.slice A n c, .int .i64 s] w fun e w' => e = .returned (.bool b) ∧ w = w' := by
  rw [← h]; exact rin_any l s A n c w hr
theorem ti_len {l : List (Int × Int)} {m : Int} (h : TI l m) (hm : 0 ≤ m) : (l.length : Int) ≤ m := by
  have h1 := (h.tot hm).2
  have gen : ∀ (l : List (Int × Int)), (∀ q ∈ l, q.1 < q.2) → (l.length : Int) ≤ tot l := by
    intro l
    induction l with
    | nil => intro _; exact Int.le_refl _
    | cons q l ih =>
      intro h
      have := ih fun r hr => h r (by simp [hr])
      have h2 := h q (by simp)
      show ((l.length + 1 : Nat) : Int) ≤ (q.2 - q.1) + tot l
      omega
  have := gen l fun q hq => (h.a q hq).2.1
  omega
theorem talk_ti {len : Int} {gone talks : List (Int × Int)} (hg : partsF len 0 gone) (ht : partsF len 0 talks) : TI (talkL gone talks) (bef len gone) := by
  exact (talk_all hg (Int.le_refl _) ht).1
set_option maxRecDepth 100000 in
set_option maxHeartbeats 8000000 in
theorem rtalk_any (i : ItemP) (cut : List Int) (A1 A2 A3 : Option Addr) (n1 c1 n2 c2 n3 c3 : Nat) (w : World) (hr : ItAt i A1 n1 c1 A2 n2 c2 w.heap.size w) (h3 : Recs enc1 1 w w.heap.size (.slice A3 n3 c3) cut) :
    Calls Try.prog 27 #[.agg #[.int .i64 i.id, .int .i64 i.kind, .int .i64 i.len, .slice A1 n1 c1, .slice A2 n2 c2, .int .i64 i.artist, .int .i64 i.tempo, .int .i64 i.lang], .slice A3 n3 c3] w fun e w' => ∃ A n c, e = .returned (.tuple #[.slice A n c, .int .i64 (talkV i cut).2]) ∧ Recs enc2 2 w' w'.heap.size (.slice A n c) (talkV i cut).1 ∧ Below w.heap.size w w' := by
  obtain ⟨l1, -⟩ := hr.lens
  have l3 := (recs_cap h3).1
  have hc3 := (recs_cap h3).2
  have hc1 := (recs_cap hr.t).2
  have HVA := Lib.hid (fun u (hu : Below w.heap.size w u) => rvalid_any i A1 A2 n1 c1 n2 c2 u (hr.next hu))
  have HIC := Lib.hid (fun u (hu : Below w.heap.size w u) => rcut_any i cut A1 A2 A3 n1 c1 n2 c2 n3 c3 u (hr.next hu) (h3.next hu))
  have HOUT := Lib.hid (fun (hc : cutB i.trims.length 0 cut = true) s u (hu : Below w.heap.size w u) => rout_any i cut s hc A1 A2 A3 n1 c1 n2 c2 n3 c3 u (hr.next hu) (h3.next hu))
  have HV : Hid (talkV i cut = if validI i && cutB i.trims.length 0 cut then (talkL (goneI i.trims cut) i.talks, 0) else ([], 70)) := Lib.hid rfl
  have HK := Lib.hid hr.k
  have HLT := Lib.hid (fun (h : validI i = true) => ((validI_iff i).1 h).p2)
  have HR := Lib.hid hr.t
  have H3 := Lib.hid h3
  have HL := Lib.hid (And.intro l1 l3)
  have hn3 : n3 ≤ 9223372036854775807 := by omega
  have hn1 : n1 ≤ 9223372036854775807 := by omega
  have HLP := Lib.hid (fun (h : validI i = true) (h2 : cutB i.trims.length 0 cut = true) => And.intro ((validI_iff i).1 h).len (left_parts ((validI_iff i).1 h) h2))
  clear hr h3 l1 l3 hc3 hc1
  obtain ⟨id, kind, len, trims, talks, artist, tempo, lang⟩ := i
  dsimp only at *
  have RI := Lib.hid (Row.new w 24 #[.int .i64 id, .int .i64 kind, .int .i64 len, .slice A1 n1 c1, .slice A2 n2 c2, .int .i64 artist, .int .i64 tempo, .int .i64 lang])
  have HB0 := Lib.hid ((Below.refl _ w).alloc (Nat.le_refl _) (.cells #[.int .i64 id, .int .i64 kind, .int .i64 len, .slice A1 n1 c1, .slice A2 n2 c2, .int .i64 artist, .int .i64 tempo, .int .i64 lang] 24))
  obtain ⟨V, hV⟩ : ∃ V, talkV (⟨id, kind, len, trims, talks, artist, tempo, lang⟩ : ItemP) cut = V := ⟨_, rfl⟩
  rw [hV] at HV ⊢
  cases hv : validI (⟨id, kind, len, trims, talks, artist, tempo, lang⟩ : ItemP) with
  | false =>
    have HX := Lib.hid (show V = ([], 70) by rw [HV.out, hv]; rfl)
    rw [hv] at HVA
    clear hv HV hV HLP HOUT HIC
    have r0 : (w.alloc (.cells #[.int .i64 id, .int .i64 kind, .int .i64 len, .slice A1 n1 c1, .slice A2 n2 c2, .int .i64 artist, .int .i64 tempo, .int .i64 lang] 24)).cell? ⟨w.heap.size, 0, none⟩ = some (.int .i64 id) := RI.out.cell 0
    have r1 : (w.alloc (.cells #[.int .i64 id, .int .i64 kind, .int .i64 len, .slice A1 n1 c1, .slice A2 n2 c2, .int .i64 artist, .int .i64 tempo, .int .i64 lang] 24)).cell? ⟨w.heap.size, 1, none⟩ = some (.int .i64 kind) := RI.out.cell 1
    have r2 : (w.alloc (.cells #[.int .i64 id, .int .i64 kind, .int .i64 len, .slice A1 n1 c1, .slice A2 n2 c2, .int .i64 artist, .int .i64 tempo, .int .i64 lang] 24)).cell? ⟨w.heap.size, 2, none⟩ = some (.int .i64 len) := RI.out.cell 2
    have r3 : (w.alloc (.cells #[.int .i64 id, .int .i64 kind, .int .i64 len, .slice A1 n1 c1, .slice A2 n2 c2, .int .i64 artist, .int .i64 tempo, .int .i64 lang] 24)).cell? ⟨w.heap.size, 3, none⟩ = some (.slice A1 n1 c1) := RI.out.cell 3
    have r4 : (w.alloc (.cells #[.int .i64 id, .int .i64 kind, .int .i64 len, .slice A1 n1 c1, .slice A2 n2 c2, .int .i64 artist, .int .i64 tempo, .int .i64 lang] 24)).cell? ⟨w.heap.size, 4, none⟩ = some (.slice A2 n2 c2) := RI.out.cell 4
    have r5 : (w.alloc (.cells #[.int .i64 id, .int .i64 kind, .int .i64 len, .slice A1 n1 c1, .slice A2 n2 c2, .int .i64 artist, .int .i64 tempo, .int .i64 lang] 24)).cell? ⟨w.heap.size, 5, none⟩ = some (.int .i64 artist) := RI.out.cell 5
    have r6 : (w.alloc (.cells #[.int .i64 id, .int .i64 kind, .int .i64 len, .slice A1 n1 c1, .slice A2 n2 c2, .int .i64 artist, .int .i64 tempo, .int .i64 lang] 24)).cell? ⟨w.heap.size, 6, none⟩ = some (.int .i64 tempo) := RI.out.cell 6
    have r7 : (w.alloc (.cells #[.int .i64 id, .int .i64 kind, .int .i64 len, .slice A1 n1 c1, .slice A2 n2 c2, .int .i64 artist, .int .i64 tempo, .int .i64 lang] 24)).cell? ⟨w.heap.size, 7, none⟩ = some (.int .i64 lang) := RI.out.cell 7
    have lr := RI.out.lt
    go_enter Try.func27, Try.ntmps27
    go_wp2_with (first | (go_at_call 13; (with_reducible refine Calls.mono (HVA.out _ HB0.out) ?_); rintro r u1 ⟨rfl, hb⟩; have HB1 := Lib.hid (below_to HB0.out hb); have RI := Lib.hid (RI.out.below hb RI.out.lt); clear r0 r1 r2 r3 r4 r5 r6 r7 lr; have r0 := RI.out.cell 0; have r1 := RI.out.cell 1; have r2 := RI.out.cell 2; have r3 := RI.out.cell 3; have r4 := RI.out.cell 4; have r5 := RI.out.cell 5; have r6 := RI.out.cell 6; have r7 := RI.out.cell 7; have lr := RI.out.lt; clear hb))
    refine bodyPost_ret (results_tmp2 rfl _ _ _) rfl ⟨none, 0, 0, by rw [HX.out]; rfl, by rw [HX.out]; exact recs_nil _ _ _ _, HB1.out⟩
  | true =>
    cases hc : cutB trims.length 0 cut with
    | false =>
      have HX := Lib.hid (show V = ([], 70) by rw [HV.out, hv, hc]; rfl)
      rw [hv] at HVA
      rw [hc] at HIC
      clear hv HV hV HLP HOUT
      have r0 : (w.alloc (.cells #[.int .i64 id, .int .i64 kind, .int .i64 len, .slice A1 n1 c1, .slice A2 n2 c2, .int .i64 artist, .int .i64 tempo, .int .i64 lang] 24)).cell? ⟨w.heap.size, 0, none⟩ = some (.int .i64 id) := RI.out.cell 0
      have r1 : (w.alloc (.cells #[.int .i64 id, .int .i64 kind, .int .i64 len, .slice A1 n1 c1, .slice A2 n2 c2, .int .i64 artist, .int .i64 tempo, .int .i64 lang] 24)).cell? ⟨w.heap.size, 1, none⟩ = some (.int .i64 kind) := RI.out.cell 1
      have r2 : (w.alloc (.cells #[.int .i64 id, .int .i64 kind, .int .i64 len, .slice A1 n1 c1, .slice A2 n2 c2, .int .i64 artist, .int .i64 tempo, .int .i64 lang] 24)).cell? ⟨w.heap.size, 2, none⟩ = some (.int .i64 len) := RI.out.cell 2
      have r3 : (w.alloc (.cells #[.int .i64 id, .int .i64 kind, .int .i64 len, .slice A1 n1 c1, .slice A2 n2 c2, .int .i64 artist, .int .i64 tempo, .int .i64 lang] 24)).cell? ⟨w.heap.size, 3, none⟩ = some (.slice A1 n1 c1) := RI.out.cell 3
      have r4 : (w.alloc (.cells #[.int .i64 id, .int .i64 kind, .int .i64 len, .slice A1 n1 c1, .slice A2 n2 c2, .int .i64 artist, .int .i64 tempo, .int .i64 lang] 24)).cell? ⟨w.heap.size, 4, none⟩ = some (.slice A2 n2 c2) := RI.out.cell 4
      have r5 : (w.alloc (.cells #[.int .i64 id, .int .i64 kind, .int .i64 len, .slice A1 n1 c1, .slice A2 n2 c2, .int .i64 artist, .int .i64 tempo, .int .i64 lang] 24)).cell? ⟨w.heap.size, 5, none⟩ = some (.int .i64 artist) := RI.out.cell 5
      have r6 : (w.alloc (.cells #[.int .i64 id, .int .i64 kind, .int .i64 len, .slice A1 n1 c1, .slice A2 n2 c2, .int .i64 artist, .int .i64 tempo, .int .i64 lang] 24)).cell? ⟨w.heap.size, 6, none⟩ = some (.int .i64 tempo) := RI.out.cell 6
      have r7 : (w.alloc (.cells #[.int .i64 id, .int .i64 kind, .int .i64 len, .slice A1 n1 c1, .slice A2 n2 c2, .int .i64 artist, .int .i64 tempo, .int .i64 lang] 24)).cell? ⟨w.heap.size, 7, none⟩ = some (.int .i64 lang) := RI.out.cell 7
      have lr := RI.out.lt
      go_enter Try.func27, Try.ntmps27
      go_wp2_with (first | (go_at_call 13; (with_reducible refine Calls.mono (HVA.out _ HB0.out) ?_); rintro r u1 ⟨rfl, hb⟩; have HB1 := Lib.hid (below_to HB0.out hb); have RI := Lib.hid (RI.out.below hb RI.out.lt); clear r0 r1 r2 r3 r4 r5 r6 r7 lr; have r0 := RI.out.cell 0; have r1 := RI.out.cell 1; have r2 := RI.out.cell 2; have r3 := RI.out.cell 3; have r4 := RI.out.cell 4; have r5 := RI.out.cell 5; have r6 := RI.out.cell 6; have r7 := RI.out.cell 7; have lr := RI.out.lt; clear hb) | (go_at_call 53; (with_reducible refine Calls.mono (HIC.out _ HB1.out) ?_); rintro r u2 ⟨rfl, hb⟩; have HB2 := Lib.hid (below_to HB1.out hb); have RI := Lib.hid (RI.out.below hb RI.out.lt); clear r0 r1 r2 r3 r4 r5 r6 r7 lr; have r0 := RI.out.cell 0; have r1 := RI.out.cell 1; have r2 := RI.out.cell 2; have r3 := RI.out.cell 3; have r4 := RI.out.cell 4; have r5 := RI.out.cell 5; have r6 := RI.out.cell 6; have r7 := RI.out.cell 7; have lr := RI.out.lt; clear hb))
      refine bodyPost_ret (results_tmp2 rfl _ _ _) rfl ⟨none, 0, 0, by rw [HX.out]; rfl, by rw [HX.out]; exact recs_nil _ _ _ _, HB2.out⟩
    | true =>
      have HTT := Lib.hid (HLT.out hv)
      have HLEN := Lib.hid (HLP.out hv hc).1
      have HP := Lib.hid (HLP.out hv hc).2
      have HOUT := Lib.hid (HOUT.out hc)
      have HX := Lib.hid HV.out
      rw [hv, hc] at HX
      rw [hv] at HVA
      rw [hc] at HIC
      have HC := Lib.hid hc
      clear hv hc HV hV HLP
      have r0 : (w.alloc (.cells #[.int .i64 id, .int .i64 kind, .int .i64 len, .slice A1 n1 c1, .slice A2 n2 c2, .int .i64 artist, .int .i64 tempo, .int .i64 lang] 24)).cell? ⟨w.heap.size, 0, none⟩ = some (.int .i64 id) := RI.out.cell 0
      have r1 : (w.alloc (.cells #[.int .i64 id, .int .i64 kind, .int .i64 len, .slice A1 n1 c1, .slice A2 n2 c2, .int .i64 artist, .int .i64 tempo, .int .i64 lang] 24)).cell? ⟨w.heap.size, 1, none⟩ = some (.int .i64 kind) := RI.out.cell 1
      have r2 : (w.alloc (.cells #[.int .i64 id, .int .i64 kind, .int .i64 len, .slice A1 n1 c1, .slice A2 n2 c2, .int .i64 artist, .int .i64 tempo, .int .i64 lang] 24)).cell? ⟨w.heap.size, 2, none⟩ = some (.int .i64 len) := RI.out.cell 2
      have r3 : (w.alloc (.cells #[.int .i64 id, .int .i64 kind, .int .i64 len, .slice A1 n1 c1, .slice A2 n2 c2, .int .i64 artist, .int .i64 tempo, .int .i64 lang] 24)).cell? ⟨w.heap.size, 3, none⟩ = some (.slice A1 n1 c1) := RI.out.cell 3
      have r4 : (w.alloc (.cells #[.int .i64 id, .int .i64 kind, .int .i64 len, .slice A1 n1 c1, .slice A2 n2 c2, .int .i64 artist, .int .i64 tempo, .int .i64 lang] 24)).cell? ⟨w.heap.size, 4, none⟩ = some (.slice A2 n2 c2) := RI.out.cell 4
      have r5 : (w.alloc (.cells #[.int .i64 id, .int .i64 kind, .int .i64 len, .slice A1 n1 c1, .slice A2 n2 c2, .int .i64 artist, .int .i64 tempo, .int .i64 lang] 24)).cell? ⟨w.heap.size, 5, none⟩ = some (.int .i64 artist) := RI.out.cell 5
      have r6 : (w.alloc (.cells #[.int .i64 id, .int .i64 kind, .int .i64 len, .slice A1 n1 c1, .slice A2 n2 c2, .int .i64 artist, .int .i64 tempo, .int .i64 lang] 24)).cell? ⟨w.heap.size, 6, none⟩ = some (.int .i64 tempo) := RI.out.cell 6
      have r7 : (w.alloc (.cells #[.int .i64 id, .int .i64 kind, .int .i64 len, .slice A1 n1 c1, .slice A2 n2 c2, .int .i64 artist, .int .i64 tempo, .int .i64 lang] 24)).cell? ⟨w.heap.size, 7, none⟩ = some (.int .i64 lang) := RI.out.cell 7
      have lr := RI.out.lt
      have HRT0 := Lib.hid (RT.start (talks := talks) len HP.out)
      go_enter Try.func27, Try.ntmps27
      go_wp2_with (first | (go_at_call 13; (with_reducible refine Calls.mono (HVA.out _ HB0.out) ?_); rintro r u1 ⟨rfl, hb⟩; have HB1 := Lib.hid (below_to HB0.out hb); have RI := Lib.hid (RI.out.below hb RI.out.lt); clear r0 r1 r2 r3 r4 r5 r6 r7 lr; have r0 := RI.out.cell 0; have r1 := RI.out.cell 1; have r2 := RI.out.cell 2; have r3 := RI.out.cell 3; have r4 := RI.out.cell 4; have r5 := RI.out.cell 5; have r6 := RI.out.cell 6; have r7 := RI.out.cell 7; have lr := RI.out.lt; clear hb) | (go_at_call 53; (with_reducible refine Calls.mono (HIC.out _ HB1.out) ?_); rintro r u2 ⟨rfl, hb⟩; have HB2 := Lib.hid (below_to HB1.out hb); have RI := Lib.hid (RI.out.below hb RI.out.lt); clear r0 r1 r2 r3 r4 r5 r6 r7 lr; have r0 := RI.out.cell 0; have r1 := RI.out.cell 1; have r2 := RI.out.cell 2; have r3 := RI.out.cell 3; have r4 := RI.out.cell 4; have r5 := RI.out.cell 5; have r6 := RI.out.cell 6; have r7 := RI.out.cell 7; have lr := RI.out.lt; clear hb))
      go_loopw [6, 7, 8] (fun v t j wr => ∃ (c : Nat) (G : List (Int × Int)), j = .int .i64 (c : Int) ∧ (c : Int) ≤ len ∧ t = .int .i64 (bef (c : Int) (goneI trims cut)) ∧ Hid (RT len (goneI trims cut) talks (c : Int) G) ∧ Hid (wr.ownsRow (w.heap.size + 1) 53 2 v G.length (flat2 G)) ∧ Hid (Row wr w.heap.size 24 #[.int .i64 id, .int .i64 kind, .int .i64 len, .slice A1 n1 c1, .slice A2 n2 c2, .int .i64 artist, .int .i64 tempo, .int .i64 lang]) ∧ Hid (Below w.heap.size w wr)) (fun _ _ j _ => len.toNat - (intOf j).toNat)
      case atStart => exact ⟨0, [], rfl, by have := HLEN.out; omega, by show _ = Value.int .i64 (bef (0 : Int) _); rw [bef_zero HP.out (Int.le_refl _)], HRT0, Lib.hid (World.ownsRow_nil _ _ _ _), RI, HB2⟩
      case round =>
        clear RI r0 r1 r2 r3 r4 r5 r6 r7 lr HVA HIC HRT0
        obtain ⟨c, G, rfl, hcl, rfl, HRT, HOW, RI, HB⟩ := hrel
        have r0 : wr.cell? ⟨w.heap.size, 0, none⟩ = some (.int .i64 id) := RI.out.cell 0
        have r1 : wr.cell? ⟨w.heap.size, 1, none⟩ = some (.int .i64 kind) := RI.out.cell 1
        have r2 : wr.cell? ⟨w.heap.size, 2, none⟩ = some (.int .i64 len) := RI.out.cell 2
        have r3 : wr.cell? ⟨w.heap.size, 3, none⟩ = some (.slice A1 n1 c1) := RI.out.cell 3
        have r4 : wr.cell? ⟨w.heap.size, 4, none⟩ = some (.slice A2 n2 c2) := RI.out.cell 4
        have r5 : wr.cell? ⟨w.heap.size, 5, none⟩ = some (.int .i64 artist) := RI.out.cell 5
        have r6 : wr.cell? ⟨w.heap.size, 6, none⟩ = some (.int .i64 tempo) := RI.out.cell 6
        have r7 : wr.cell? ⟨w.heap.size, 7, none⟩ = some (.int .i64 lang) := RI.out.cell 7
        have lr := RI.out.lt
        have hb0 := bef_le HP.out (show (0 : Int) ≤ (c : Int) by omega)
        have hb1 := bef_gap HP.out (show (0 : Int) ≤ (c : Int) by omega)
        rw [bef_zero HP.out (Int.le_refl _)] at hb0 hb1
        have hst := bef_step HP.out (c : Int)
        have hGl := ti_len HRT.out.t hb0
        have HO := Lib.hid (HOUT.out (c : Int))
        have c_0 : (0 : Int) ≤ (c : Int) := by omega
        by_cases hlt : (c : Int) < len
        · have c_1 : (c : Int) < 3600 := by have := HLEN.out; omega
          cases hin : inP (goneI trims cut) (c : Int) with
          | true =>
            have HNX := Lib.hid (HRT.out.gone HP.out hin)
            obtain ⟨t, ht⟩ : ∃ t, bef (c : Int) (goneI trims cut) = t := ⟨_, rfl⟩
            rw [ht] at hb0 hb1 hst hGl ⊢
            rw [hin] at HO
            rw [hin, if_pos rfl, Int.add_zero] at hst
            have HST := Lib.hid hst
            have t_1 : t ≤ 3600 := by omega
            clear hin hst hb1 hGl
            go_wp2_with (first | (go_at_call 57; (with_reducible refine Calls.mono (HO.out _ HB.out) ?_); rintro r u5 ⟨rfl, hb⟩; have HW5 := Lib.hid hb; have HB5 := Lib.hid (below_to HB.out hb); have RI := Lib.hid (RI.out.below hb RI.out.lt); clear r0 r1 r2 r3 r4 r5 r6 r7 lr; have r0 := RI.out.cell 0; have r1 := RI.out.cell 1; have r2 := RI.out.cell 2; have r3 := RI.out.cell 3; have r4 := RI.out.cell 4; have r5 := RI.out.cell 5; have r6 := RI.out.cell 6; have r7 := RI.out.cell 7; have lr := RI.out.lt; clear hb))
            go_roundw
            case rel => exact ⟨c + 1, G, by go_num, by omega, by show _ = Value.int .i64 (bef ((c : Int) + 1) _); rw [HST.out], HNX, Lib.hid (own_below HOW.out HW5.out), RI, HB5⟩
            case measure => simp [intOf]; omega
          | false =>
            cases htk : inP talks (c : Int) with
            | false =>
              have HNX := Lib.hid (HRT.out.quiet HP.out hb0 hin htk)
              have HTK := Lib.hid htk
              obtain ⟨t, ht⟩ : ∃ t, bef (c : Int) (goneI trims cut) = t := ⟨_, rfl⟩
              rw [ht] at hb0 hb1 hst hGl ⊢
              rw [hin] at HO
              rw [hin, if_neg (by decide)] at hst
              have HST := Lib.hid hst
              have t_1 : t ≤ 3600 := by omega
              clear hin hst hb1 hGl htk
              go_wp2_with (first | (go_at_call 57; (with_reducible refine Calls.mono (HO.out _ HB.out) ?_); rintro r u5 ⟨rfl, hb⟩; have HW5 := Lib.hid hb; have HB5 := Lib.hid (below_to HB.out hb); have RI := Lib.hid (RI.out.below hb RI.out.lt); clear r0 r1 r2 r3 r4 r5 r6 r7 lr; have r0 := RI.out.cell 0; have r1 := RI.out.cell 1; have r2 := RI.out.cell 2; have r3 := RI.out.cell 3; have r4 := RI.out.cell 4; have r5 := RI.out.cell 5; have r6 := RI.out.cell 6; have r7 := RI.out.cell 7; have lr := RI.out.lt; clear hb) | (go_at_call 34; go_loud ((with_reducible refine Calls.mono (rin_is HTK.out (HK.out.next HB5.out)) ?_); rintro r w9 ⟨rfl, rfl⟩)))
              go_roundw
              case rel => exact ⟨c + 1, G, by go_num, by omega, by show _ = Value.int .i64 (bef ((c : Int) + 1) _); rw [HST.out], HNX, Lib.hid (own_below HOW.out HW5.out), RI, HB5⟩
              case measure => simp [intOf]; omega
            | true =>
              have HNX := Lib.hid (HRT.out.talk HP.out hb0 hin htk)
              have HTK := Lib.hid htk
              obtain ⟨t, ht⟩ : ∃ t, bef (c : Int) (goneI trims cut) = t := ⟨_, rfl⟩
              rw [ht] at hb0 hb1 hst hGl HNX ⊢
              rw [hin] at HO
              rw [hin, if_neg (by decide)] at hst
              have HST := Lib.hid hst
              have t_1 : t ≤ 3600 := by omega
              have hne : (t, t + 1).1 ≠ (t, t + 1).2 := by dsimp only; omega
              clear hin hst hb1 htk ht
              rcases last_of G with rfl | ⟨o, p, rfl⟩
              · rw [extL_nil hne] at HNX
                obtain ⟨A, cc, rfl, -⟩ := own_slice HOW.out
                go_upto_region 11 with (first | (go_at_call 57; (with_reducible refine Calls.mono (HO.out _ HB.out) ?_); rintro r u5 ⟨rfl, hb⟩; have HW5 := Lib.hid hb; have HB5 := Lib.hid (below_to HB.out hb); have RI := Lib.hid (RI.out.below hb RI.out.lt); clear r0 r1 r2 r3 r4 r5 r6 r7 lr; have r0 := RI.out.cell 0; have r1 := RI.out.cell 1; have r2 := RI.out.cell 2; have r3 := RI.out.cell 3; have r4 := RI.out.cell 4; have r5 := RI.out.cell 5; have r6 := RI.out.cell 6; have r7 := RI.out.cell 7; have lr := RI.out.lt; clear hb) | (go_at_call 34; go_loud ((with_reducible refine Calls.mono (rin_is HTK.out (HK.out.next HB5.out)) ?_); rintro r w9 ⟨rfl, rfl⟩)))
                obtain ⟨A9, c9, w9, run9, own9, g9, -⟩ := push_pair t (t + 1) (own_below HOW.out HW5.out) (by simp) (by omega)
                simp only [List.length_nil, List.nil_append, Nat.zero_add] at run9 own9
                have HB9 := Lib.hid (own_below_grown (own_below HOW.out HW5.out) (by omega) g9)
                have HO9 := Lib.hid own9
                clear own9 g9
                go_wp2_with fail
                go_roundw
                case rel => exact ⟨c + 1, _, by go_num, by omega, by show _ = Value.int .i64 (bef ((c : Int) + 1) _); rw [HST.out], HNX, HO9, Lib.hid ((HB9.out.block _ (by omega)).trans RI.out), Lib.hid (HB5.out.trans (HB9.out.mono (by omega)))⟩
                case measure => simp [intOf]; omega
              · obtain ⟨p1, p2⟩ := p
                have hlen : (o ++ [(p1, p2)]).length = o.length + 1 := by simp
                obtain ⟨k, hk⟩ : ∃ k, o.length = k := ⟨_, rfl⟩
                have hlen2 : ∀ q, (o ++ [q]).length = k + 1 := fun q => by simp [hk]
                have ho' := fun (u : World) (hu : Below wr.heap.size wr u) => own_below HOW.out hu
                rw [hlen] at ho' hGl
                have k_9 : k ≤ 3600 := by omega
                by_cases hj : p2 = t
                · rw [extL_join (p := (p1, p2)) hne hj] at HNX
                  have HOW2 := Lib.hid (fun u hu => own_last (q := (p1, p2)) (ho' u hu) (t + 1))
                  obtain ⟨A, cc, rfl, -⟩ := own_slice HOW.out
                  rw [hlen2] at HOW ⊢
                  go_upto_region 11 with (first | (go_at_call 57; (with_reducible refine Calls.mono (HO.out _ HB.out) ?_); rintro r u5 ⟨rfl, hb⟩; have HW5 := Lib.hid hb; have HB5 := Lib.hid (below_to HB.out hb); have RI := Lib.hid (RI.out.below hb RI.out.lt); clear r0 r1 r2 r3 r4 r5 r6 r7 lr; have r0 := RI.out.cell 0; have r1 := RI.out.cell 1; have r2 := RI.out.cell 2; have r3 := RI.out.cell 3; have r4 := RI.out.cell 4; have r5 := RI.out.cell 5; have r6 := RI.out.cell 6; have r7 := RI.out.cell 7; have lr := RI.out.lt; clear hb) | (go_at_call 34; go_loud ((with_reducible refine Calls.mono (rin_is HTK.out (HK.out.next HB5.out)) ?_); rintro r w9 ⟨rfl, rfl⟩)))
                  obtain ⟨g, c9, hv, g1, g2, g3, g4, g5⟩ := HOW2.out u5 HW5.out
                  rw [hk] at hv g3 g4 g5
                  injection hv with hv1 hv2 hv3
                  subst hv1 hv3
                  have k_1 : (0 : Int) ≤ (k : Int) := by omega
                  have k_2 : (k : Int) < (k : Int) + 1 := by omega
                  have k_3 : (k : Int) + 1 ≤ 9223372036854775807 := by omega
                  have k_4 : k < k + 1 := by omega
                  have e2 : (p2 == t) = true := by simp [hj]
                  have hg5 := g5 u5 rfl
                  rw [hlen2] at hg5
                  have HG := Lib.hid hg5
                  clear hg5
                  have HRX := Lib.hid (RI.out.far (p := ⟨g, k * 2 + 1, none⟩) (by dsimp only; omega) (.int .i64 (t + 1)))
                  have HBX := Lib.hid (HB5.out.setCell (p := ⟨g, k * 2 + 1, none⟩) (by dsimp only; omega) (.int .i64 (t + 1)))
                  clear g5 hj
                  go_wp2_with fail
                  go_roundw
                  case rel => exact ⟨c + 1, _, by go_num, by omega, by show _ = Value.int .i64 (bef ((c : Int) + 1) _); rw [HST.out], HNX, Lib.hid (by rw [hlen2]; exact HG.out), HRX, HBX⟩
                  case measure => simp [intOf]; omega
                · rw [extL_push (p := (p1, p2)) hne hj] at HNX
                  have HOW2 := Lib.hid (fun u hu => own_last (q := (p1, p2)) (ho' u hu) (t + 1))
                  obtain ⟨A, cc, rfl, -⟩ := own_slice HOW.out
                  rw [hlen2] at HOW ⊢
                  go_upto_region 11 with (first | (go_at_call 57; (with_reducible refine Calls.mono (HO.out _ HB.out) ?_); rintro r u5 ⟨rfl, hb⟩; have HW5 := Lib.hid hb; have HB5 := Lib.hid (below_to HB.out hb); have RI := Lib.hid (RI.out.below hb RI.out.lt); clear r0 r1 r2 r3 r4 r5 r6 r7 lr; have r0 := RI.out.cell 0; have r1 := RI.out.cell 1; have r2 := RI.out.cell 2; have r3 := RI.out.cell 3; have r4 := RI.out.cell 4; have r5 := RI.out.cell 5; have r6 := RI.out.cell 6; have r7 := RI.out.cell 7; have lr := RI.out.lt; clear hb) | (go_at_call 34; go_loud ((with_reducible refine Calls.mono (rin_is HTK.out (HK.out.next HB5.out)) ?_); rintro r w9 ⟨rfl, rfl⟩)))
                  obtain ⟨g, c9, hv, g1, g2, g3, -, -⟩ := HOW2.out u5 HW5.out
                  rw [hk] at hv g3
                  injection hv with hv1 hv2 hv3
                  subst hv1 hv3
                  have k_1 : (0 : Int) ≤ (k : Int) := by omega
                  have k_2 : (k : Int) < (k : Int) + 1 := by omega
                  have k_3 : (k : Int) + 1 ≤ 9223372036854775807 := by omega
                  have k_4 : k < k + 1 := by omega
                  have e2 : (p2 == t) = false := beq_eq_false_iff_ne.2 hj
                  obtain ⟨A9, c9, w9, run9, own9, g9, -⟩ := push_pair t (t + 1) (own_below HOW.out HW5.out) (by omega) (by omega)
                  have HB9 := Lib.hid (own_below_grown (own_below HOW.out HW5.out) (by omega) g9)
                  have HO9 := Lib.hid own9
                  clear own9 g9 hj
                  go_wp2_with fail
                  go_roundw
                  case rel => exact ⟨c + 1, _, by go_num, by omega, by show _ = Value.int .i64 (bef ((c : Int) + 1) _); rw [HST.out], HNX, Lib.hid (by rw [List.length_append, hlen2]; exact HO9.out), Lib.hid ((HB9.out.block _ (by omega)).trans RI.out), Lib.hid (HB5.out.trans (HB9.out.mono (by omega)))⟩
                  case measure => simp [intOf]; omega
        · obtain hcl2 : (c : Int) = len := by omega
          rw [hcl2] at HRT
          have HG := Lib.hid (HRT.out.done HP.out HTT.out (talk_ti HP.out HTT.out))
          have HX2 := Lib.hid (show V = (G, 0) by rw [HX.out, HG.out]; rfl)
          have HRC := Lib.hid (recs_of_own HOW.out rfl)
          obtain ⟨A, cc, rfl, -⟩ := own_slice HOW.out
          clear hcl2 hGl hst hb0 hb1
          go_wp2
          refine bodyPost_ret (results_tmp2 rfl _ _ _) rfl ⟨A, _, cc, by rw [HX2.out]; rfl, by rw [HX2.out]; exact HRC.out, HB.out⟩
end Go.Proofs.Ytnmhigjannihgaa
