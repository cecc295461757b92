/- The best of the cuts by bits. The reference's Cut. The reference's Encode. -/
import Derived.Test.YtnmhigjannihgaaLk
/- The best of the cuts by bits. -/
namespace Go.Proofs.Ytnmhigjannihgaa

theorem cuts_bits2 : ∀ n : Fin 5, ∀ c ∈ cutsL n.val, ∃ set : Fin 16, set.val < 2 ^ n.val ∧ bitsL n.val set.val = c := by decide +kernel
theorem bef_trans : ∀ n : Fin 5, ∀ x y z : Fin 16, befB (bitsL n.val x.val) (bitsL n.val y.val) = true → befB (bitsL n.val y.val) (bitsL n.val z.val) = true → befB (bitsL n.val x.val) (bitsL n.val z.val) = true := by decide +kernel
theorem bef_same : ∀ n : Fin 5, ∀ x y : Fin 16, befB (bitsL n.val x.val) (bitsL n.val y.val) = false → befB (bitsL n.val y.val) (bitsL n.val x.val) = false → bitsL n.val x.val = bitsL n.val y.val := by decide +kernel
theorem bef_irr : ∀ n : Fin 5, ∀ x : Fin 16, befB (bitsL n.val x.val) (bitsL n.val x.val) = false := by decide +kernel
/-- The best of the first m cuts. -/
structure BestI (i : ItemP) (length : Int) (m : Nat) (o : Option (List Nat)) : Prop where
  no : o = none → ∀ z, z < m → lenI i (bitsL i.trims.length z) ≠ length
  so : ∀ c, o = some c → (∃ z, z < m ∧ bitsL i.trims.length z = c) ∧ lenI i c = length ∧ ∀ z, z < m → lenI i (bitsL i.trims.length z) = length → befB (bitsL i.trims.length z) c = false
theorem BestI.start (i : ItemP) (length : Int) : BestI i length 0 none := ⟨fun _ z h => by omega, fun c h => by cases h⟩
theorem BestI.other {i : ItemP} {length : Int} {m : Nat} {o : Option (List Nat)} (h : BestI i length m o) (hn : lenI i (bitsL i.trims.length m) ≠ length) : BestI i length (m + 1) o :=
  ⟨fun e z hz => by
    by_cases h2 : z = m
    · subst h2; exact hn
    · exact h.no e z (by omega),
   fun c e => by
    obtain ⟨⟨z, hz, hb⟩, h2, h3⟩ := h.so c e
    refine ⟨⟨z, by omega, hb⟩, h2, fun y hy hl => ?_⟩
    by_cases h4 : y = m
    · subst h4; exact absurd hl hn
    · exact h3 y (by omega) hl⟩
theorem BestI.first {i : ItemP} (h4 : i.trims.length ≤ 4) {length : Int} {m : Nat} (h : BestI i length m none) (hm : m < 16) (hn : lenI i (bitsL i.trims.length m) = length) : BestI i length (m + 1) (some (bitsL i.trims.length m)) :=
  ⟨fun e => (by cases e), fun c e => by
    injection e with e
    subst e
    refine ⟨⟨m, by omega, rfl⟩, hn, fun y hy hl => ?_⟩
    by_cases h5 : y = m
    · subst h5; exact bef_irr ⟨i.trims.length, by omega⟩ ⟨y, hm⟩
    · exact absurd hl (h.no rfl y (by omega))⟩
theorem BestI.keep {i : ItemP} {length : Int} {m : Nat} {c : List Nat} (h : BestI i length m (some c)) (hb : befB (bitsL i.trims.length m) c = false) : BestI i length (m + 1) (some c) :=
  ⟨fun e => (by cases e), fun d e => by
    injection e with e
    subst e
    obtain ⟨⟨z, hz, hb2⟩, h2, h3⟩ := h.so c rfl
    refine ⟨⟨z, by omega, hb2⟩, h2, fun y hy hl => ?_⟩
    by_cases h4 : y = m
    · subst h4; exact hb
    · exact h3 y (by omega) hl⟩
theorem BestI.better {i : ItemP} (h4 : i.trims.length ≤ 4) {length : Int} {m : Nat} (hm : m < 16) {c : List Nat} (h : BestI i length m (some c)) (hn : lenI i (bitsL i.trims.length m) = length) (hb : befB (bitsL i.trims.length m) c = true) : BestI i length (m + 1) (some (bitsL i.trims.length m)) :=
  ⟨fun e => (by cases e), fun d e => by
    injection e with e
    subst e
    obtain ⟨⟨z, hz, hb2⟩, h2, h3⟩ := h.so c rfl
    refine ⟨⟨m, by omega, rfl⟩, hn, fun y hy hl => ?_⟩
    by_cases h5 : y = m
    · subst h5; exact bef_irr ⟨i.trims.length, by omega⟩ ⟨y, hm⟩
    · have h6 := h3 y (by omega) hl
      cases h7 : befB (bitsL i.trims.length y) (bitsL i.trims.length m) with
      | false => rfl
      | true =>
        subst hb2
        rw [bef_trans ⟨i.trims.length, by omega⟩ ⟨y, by omega⟩ ⟨m, hm⟩ ⟨z, by omega⟩ h7 hb] at h6
        cases h6⟩
theorem BestI.done {i : ItemP} (hi : validI i = true) {length : Int} {o : Option (List Nat)} (h : BestI i length (2 ^ i.trims.length) o) : cutV i length = o := by
  have h4 := ((validI_iff i).1 hi).n1
  have hp : 2 ^ i.trims.length ≤ 16 := Nat.pow_le_pow_right (n := 2) (by decide) h4
  have hall := cuts_all ⟨i.trims.length, by omega⟩
  unfold cutV
  rw [if_pos hi]
  cases o with
  | none =>
    refine List.find?_eq_none.2 fun c hc => ?_
    obtain ⟨z, hz, rfl⟩ := cuts_bits2 ⟨i.trims.length, by omega⟩ c hc
    have := h.no rfl z.val hz
    simpa using this
  | some c =>
    obtain ⟨⟨z, hz, rfl⟩, h2, h3⟩ := h.so c rfl
    obtain ⟨d, e1, e2, e3, e4⟩ := find_pref (p := fun c => decide (lenI i c = length)) hall.2.2.1 (hall.2.1 ⟨z, by omega⟩) (decide_eq_true h2)
    obtain ⟨y, hy, rfl⟩ := cuts_bits2 ⟨i.trims.length, by omega⟩ d e2
    have e5 := h3 y.val hy (of_decide_eq_true e3)
    rw [e1, bef_same ⟨i.trims.length, by omega⟩ ⟨z, by omega⟩ y e4 e5]
end Go.Proofs.Ytnmhigjannihgaa

/- The reference's Cut. -/
namespace Go.Proofs.Ytnmhigjannihgaa
open Go.RowKit Go.Shelf

set_option maxRecDepth 100000 in
set_option maxHeartbeats 8000000 in
theorem rcutv_any (i : ItemP) (length : Int) (A1 A2 : Option Addr) (n1 c1 n2 c2 : Nat) (w : World) (hr : ItAt i A1 n1 c1 A2 n2 c2 w.heap.size w) :
    Calls Try.prog 21 #[.agg #[.int .i64 i.id, .int .i64 i.kind, .int .i64 i.len, .slice A1 n1 c1, .slice A2 n2 c2, .int .i64 i.artist, .int .i64 i.tempo, .int .i64 i.lang], .int .i64 length] w fun e w' => ∃ A n c, e = .returned (.tuple #[.slice A n c, .int .i64 (if (cutV i length).isSome then 0 else 70)]) ∧ Recs enc1 1 w' w'.heap.size (.slice A n c) (zi ((cutV i length).getD [])) ∧ Below w.heap.size w w' := by
  have l1 := hr.lens.1
  have HVA := Lib.hid (fun u (hu : Below w.heap.size w u) => rvalid_any i A1 A2 n1 c1 n2 c2 u (hr.next hu))
  have HL := Lib.hid l1
  have HLN0 := Lib.hid (fun (z : Nat) (e : lengthV i (zi (bitsL i.trims.length z)) = (lenI i (bitsL i.trims.length z), 0)) u (hu : Below w.heap.size w u) A n c (h3 : Recs enc1 1 u u.heap.size (.slice A n c) (zi (bitsL i.trims.length z))) => e ▸ rlength_any i (zi (bitsL i.trims.length z)) A1 A2 A n1 c1 n2 c2 n c u (hr.next hu) h3)
  have HDN := Lib.hid (fun (hi : validI i = true) o (h : BestI i length (2 ^ i.trims.length) o) => h.done hi)
  have HCV : Hid (cutV i length = if validI i then (cutsL i.trims.length).find? (fun c => decide (lenI i c = length)) else none) := Lib.hid rfl
  have H4 := Lib.hid (fun (hi : validI i = true) => ((validI_iff i).1 hi).n1)
  have HLC := Lib.hid (fun (hi : validI i = true) z (hz : z < 16) => len_cut ((validI_iff i).1 hi) (bits_mem ((validI_iff i).1 hi).n1 hz))
  clear hr
  obtain ⟨id, kind, len, trims, talks, artist, tempo, lang⟩ := i
  dsimp only at *
  have RI := Lib.hid (Row.new w 24 #[.int .i64 id, .int .i64 kind, .int .i64 len, .slice A1 n1 c1, .slice A2 n2 c2, .int .i64 artist, .int .i64 tempo, .int .i64 lang])
  have HB0 := Lib.hid ((Below.refl _ w).alloc (Nat.le_refl _) (.cells #[.int .i64 id, .int .i64 kind, .int .i64 len, .slice A1 n1 c1, .slice A2 n2 c2, .int .i64 artist, .int .i64 tempo, .int .i64 lang] 24))
  obtain ⟨V, hV⟩ : ∃ V, cutV (⟨id, kind, len, trims, talks, artist, tempo, lang⟩ : ItemP) length = V := ⟨_, rfl⟩
  rw [hV] at HCV HDN ⊢
  obtain ⟨E, hE⟩ : ∃ E, (if V.isSome then (0 : Int) else 70) = E := ⟨_, rfl⟩
  rw [hE]
  have HEE := Lib.hid hE
  clear hE
  have r0 : (w.alloc (.cells #[.int .i64 id, .int .i64 kind, .int .i64 len, .slice A1 n1 c1, .slice A2 n2 c2, .int .i64 artist, .int .i64 tempo, .int .i64 lang] 24)).cell? ⟨w.heap.size, 0, none⟩ = some (.int .i64 id) := RI.out.cell 0
  have r1 : (w.alloc (.cells #[.int .i64 id, .int .i64 kind, .int .i64 len, .slice A1 n1 c1, .slice A2 n2 c2, .int .i64 artist, .int .i64 tempo, .int .i64 lang] 24)).cell? ⟨w.heap.size, 1, none⟩ = some (.int .i64 kind) := RI.out.cell 1
  have r2 : (w.alloc (.cells #[.int .i64 id, .int .i64 kind, .int .i64 len, .slice A1 n1 c1, .slice A2 n2 c2, .int .i64 artist, .int .i64 tempo, .int .i64 lang] 24)).cell? ⟨w.heap.size, 2, none⟩ = some (.int .i64 len) := RI.out.cell 2
  have r3 : (w.alloc (.cells #[.int .i64 id, .int .i64 kind, .int .i64 len, .slice A1 n1 c1, .slice A2 n2 c2, .int .i64 artist, .int .i64 tempo, .int .i64 lang] 24)).cell? ⟨w.heap.size, 3, none⟩ = some (.slice A1 n1 c1) := RI.out.cell 3
  have r4 : (w.alloc (.cells #[.int .i64 id, .int .i64 kind, .int .i64 len, .slice A1 n1 c1, .slice A2 n2 c2, .int .i64 artist, .int .i64 tempo, .int .i64 lang] 24)).cell? ⟨w.heap.size, 4, none⟩ = some (.slice A2 n2 c2) := RI.out.cell 4
  have r5 : (w.alloc (.cells #[.int .i64 id, .int .i64 kind, .int .i64 len, .slice A1 n1 c1, .slice A2 n2 c2, .int .i64 artist, .int .i64 tempo, .int .i64 lang] 24)).cell? ⟨w.heap.size, 5, none⟩ = some (.int .i64 artist) := RI.out.cell 5
  have r6 : (w.alloc (.cells #[.int .i64 id, .int .i64 kind, .int .i64 len, .slice A1 n1 c1, .slice A2 n2 c2, .int .i64 artist, .int .i64 tempo, .int .i64 lang] 24)).cell? ⟨w.heap.size, 6, none⟩ = some (.int .i64 tempo) := RI.out.cell 6
  have r7 : (w.alloc (.cells #[.int .i64 id, .int .i64 kind, .int .i64 len, .slice A1 n1 c1, .slice A2 n2 c2, .int .i64 artist, .int .i64 tempo, .int .i64 lang] 24)).cell? ⟨w.heap.size, 7, none⟩ = some (.int .i64 lang) := RI.out.cell 7
  have lr := RI.out.lt
  cases hv : validI (⟨id, kind, len, trims, talks, artist, tempo, lang⟩ : ItemP) with
  | false =>
    have HX := Lib.hid (show V = none by rw [HCV.out, hv]; rfl)
    rw [hv] at HVA
    clear hv HCV hV HDN H4 HLC HLN0 l1 HL
    go_enter Try.func21, Try.ntmps21
    go_wp2_with (first | (go_at_call 13; (with_reducible refine Calls.mono (HVA.out _ HB0.out) ?_); rintro r u1 ⟨rfl, hb⟩; have HB1 := Lib.hid (below_to HB0.out hb); have RI := Lib.hid (RI.out.below hb RI.out.lt); clear r0 r1 r2 r3 r4 r5 r6 r7 lr; have r0 := RI.out.cell 0; have r1 := RI.out.cell 1; have r2 := RI.out.cell 2; have r3 := RI.out.cell 3; have r4 := RI.out.cell 4; have r5 := RI.out.cell 5; have r6 := RI.out.cell 6; have r7 := RI.out.cell 7; have lr := RI.out.lt; clear hb))
    refine bodyPost_ret (results_tmp2 rfl _ _ _) rfl ⟨none, 0, 0, by rw [← HEE.out, HX.out]; rfl, by rw [HX.out]; exact recs_nil _ _ _ _, HB1.out⟩
  | true =>
    have h4 := H4.out hv
    rw [hv] at HVA
    have HDN := Lib.hid (HDN.out hv)
    have HLC := Lib.hid (HLC.out hv)
    obtain ⟨P, hP⟩ : ∃ P, 2 ^ trims.length = P := ⟨_, rfl⟩
    have hP16 : P ≤ 16 := by rw [← hP]; exact Nat.pow_le_pow_right (n := 2) (by decide) h4
    have hn5 : n1 = 0 ∨ n1 = 1 ∨ n1 = 2 ∨ n1 = 3 ∨ n1 = 4 := by omega
    have hsh : IntKind.i64.wrap ((2 : Int) ^ n1) = (P : Int) := by
      rw [← hP, ← l1]
      rcases hn5 with h | h | h | h | h <;> rw [h] <;> decide
    rw [hP] at HDN
    have h41 : n1 ≤ 4 := by omega
    rw [← l1] at HLN0 HLC
    have HL := Lib.hid l1
    clear hv HCV hV H4 hn5 hP h4 l1
    go_enter Try.func21, Try.ntmps21
    go_wp2_with (first | (go_at_call 13; (with_reducible refine Calls.mono (HVA.out _ HB0.out) ?_); rintro r u1 ⟨rfl, hb⟩; have HB1 := Lib.hid (below_to HB0.out hb); have RI := Lib.hid (RI.out.below hb RI.out.lt); clear r0 r1 r2 r3 r4 r5 r6 r7 lr; have r0 := RI.out.cell 0; have r1 := RI.out.cell 1; have r2 := RI.out.cell 2; have r3 := RI.out.cell 3; have r4 := RI.out.cell 4; have r5 := RI.out.cell 5; have r6 := RI.out.cell 6; have r7 := RI.out.cell 7; have lr := RI.out.lt; clear hb))
    go_loopw [6, 7, 8] (fun v fd j wr => ∃ (m : Nat) (o : Option (List Nat)) (A : Option Addr) (n c : Nat), j = .int .i64 (m : Int) ∧ m ≤ P ∧ fd = .bool o.isSome ∧ v = .slice A n c ∧ Hid (BestI (⟨id, kind, len, trims, talks, artist, tempo, lang⟩ : ItemP) length m o) ∧ Hid (Recs enc1 1 wr wr.heap.size (.slice A n c) (zi (o.getD []))) ∧ Hid (Row wr w.heap.size 24 #[.int .i64 id, .int .i64 kind, .int .i64 len, .slice A1 n1 c1, .slice A2 n2 c2, .int .i64 artist, .int .i64 tempo, .int .i64 lang]) ∧ Hid (Below w.heap.size w wr)) (fun _ _ j _ => P - (intOf j).toNat)
    case atStart => exact ⟨0, none, _, _, _, rfl, Nat.zero_le _, rfl, rfl, Lib.hid (BestI.start _ _), Lib.hid (recs_nil _ _ _ _), RI, HB1⟩
    case round =>
      clear RI r0 r1 r2 r3 r4 r5 r6 r7 lr HVA
      obtain ⟨m, o, A, n, c, rfl, hm, rfl, rfl, HBI, HBE, RI, HB⟩ := hrel
      have m_0 : (0 : Int) ≤ (m : Int) := by omega
      have r0 : wr.cell? ⟨w.heap.size, 0, none⟩ = some (.int .i64 id) := RI.out.cell 0
      have r1 : wr.cell? ⟨w.heap.size, 1, none⟩ = some (.int .i64 kind) := RI.out.cell 1
      have r2 : wr.cell? ⟨w.heap.size, 2, none⟩ = some (.int .i64 len) := RI.out.cell 2
      have r3 : wr.cell? ⟨w.heap.size, 3, none⟩ = some (.slice A1 n1 c1) := RI.out.cell 3
      have r4 : wr.cell? ⟨w.heap.size, 4, none⟩ = some (.slice A2 n2 c2) := RI.out.cell 4
      have r5 : wr.cell? ⟨w.heap.size, 5, none⟩ = some (.int .i64 artist) := RI.out.cell 5
      have r6 : wr.cell? ⟨w.heap.size, 6, none⟩ = some (.int .i64 tempo) := RI.out.cell 6
      have r7 : wr.cell? ⟨w.heap.size, 7, none⟩ = some (.int .i64 lang) := RI.out.cell 7
      have lr := RI.out.lt
      by_cases hlt : m < P
      · have m_1 : (m : Int) < (P : Int) := by omega
        have hm16 : m < 16 := by omega
        have HBT := Lib.hid (fun u => rbits_any m (by omega) id kind len artist tempo lang A1 A2 n1 c1 n2 c2 (by omega) u)
        have HLN := Lib.hid (HLN0.out m (HLC.out m hm16))
        have hoth := HBI.out.other
        have hfst := fun (e : o = none) => BestI.first (i := (⟨id, kind, len, trims, talks, artist, tempo, lang⟩ : ItemP)) (by dsimp only; rw [← HL.out]; exact h41) (length := length) (m := m) (by rw [← e]; exact HBI.out) hm16
        have hkp := fun (b : List Nat) (e : o = some b) => BestI.keep (i := (⟨id, kind, len, trims, talks, artist, tempo, lang⟩ : ItemP)) (length := length) (m := m) (c := b) (by rw [← e]; exact HBI.out)
        have hbt := fun (b : List Nat) (e : o = some b) => BestI.better (i := (⟨id, kind, len, trims, talks, artist, tempo, lang⟩ : ItemP)) (by dsimp only; rw [← HL.out]; exact h41) (length := length) (m := m) hm16 (c := b) (by rw [← e]; exact HBI.out)
        dsimp only at hoth hfst hkp hbt
        rw [← HL.out] at hoth hfst hkp hbt
        obtain ⟨N, hN⟩ : ∃ N, lenI (⟨id, kind, len, trims, talks, artist, tempo, lang⟩ : ItemP) (bitsL n1 m) = N := ⟨_, rfl⟩
        rw [hN] at hoth hfst hbt HLN
        by_cases he : N = length
        · have e1 : (N == length) = true := by simp [he]
          cases o with
          | none =>
            have HNB := Lib.hid (hfst rfl he)
            subst he
            clear hoth hfst hkp hbt hN e1
            dsimp only [Option.isSome]
            go_wp2_with (first | (go_at_call 48; (with_reducible refine Calls.mono (HBT.out _) ?_); rintro r u5 ⟨A5, n5, c5, rfl, h5, hb⟩; have HW5 := Lib.hid hb; have HB5 := Lib.hid (below_to HB.out hb); have RI := Lib.hid (RI.out.below hb RI.out.lt); clear r0 r1 r2 r3 r4 r5 r6 r7 lr; have r0 := RI.out.cell 0; have r1 := RI.out.cell 1; have r2 := RI.out.cell 2; have r3 := RI.out.cell 3; have r4 := RI.out.cell 4; have r5 := RI.out.cell 5; have r6 := RI.out.cell 6; have r7 := RI.out.cell 7; have lr := RI.out.lt; have HBR := Lib.hid h5; have HBS := Lib.hid (HBE.out.next hb); clear h5; clear hb) | (go_at_call 25; (with_reducible refine Calls.mono (HLN.out _ HB5.out _ _ _ HBR.out) ?_); rintro r u6 ⟨rfl, hb⟩; have HW6 := Lib.hid hb; have HB6 := Lib.hid (below_to HB5.out hb); have RI := Lib.hid (RI.out.below hb RI.out.lt); clear r0 r1 r2 r3 r4 r5 r6 r7 lr; have r0 := RI.out.cell 0; have r1 := RI.out.cell 1; have r2 := RI.out.cell 2; have r3 := RI.out.cell 3; have r4 := RI.out.cell 4; have r5 := RI.out.cell 5; have r6 := RI.out.cell 6; have r7 := RI.out.cell 7; have lr := RI.out.lt; have HBR := Lib.hid (HBR.out.next hb); have HBS := Lib.hid (HBS.out.next hb); clear hb))
            go_roundw
            case rel => exact ⟨m + 1, some _, _, _, _, by go_num, by omega, rfl, rfl, HNB, HBR, RI, HB6⟩
            case measure => simp [intOf]; omega
          | some b =>
            cases hbf : befB (bitsL n1 m) b with
            | false =>
              have HNB := Lib.hid (hkp b rfl hbf)
              subst he
              clear hoth hfst hkp hbt hN e1
              dsimp only [Option.isSome, Option.getD] at HBE ⊢
              have HBB := Lib.hid hbf
              clear hbf
              go_wp2_with (first | (go_at_call 48; (with_reducible refine Calls.mono (HBT.out _) ?_); rintro r u5 ⟨A5, n5, c5, rfl, h5, hb⟩; have HW5 := Lib.hid hb; have HB5 := Lib.hid (below_to HB.out hb); have RI := Lib.hid (RI.out.below hb RI.out.lt); clear r0 r1 r2 r3 r4 r5 r6 r7 lr; have r0 := RI.out.cell 0; have r1 := RI.out.cell 1; have r2 := RI.out.cell 2; have r3 := RI.out.cell 3; have r4 := RI.out.cell 4; have r5 := RI.out.cell 5; have r6 := RI.out.cell 6; have r7 := RI.out.cell 7; have lr := RI.out.lt; have HBR := Lib.hid h5; have HBS := Lib.hid (HBE.out.next hb); clear h5; clear hb) | (go_at_call 25; (with_reducible refine Calls.mono (HLN.out _ HB5.out _ _ _ HBR.out) ?_); rintro r u6 ⟨rfl, hb⟩; have HW6 := Lib.hid hb; have HB6 := Lib.hid (below_to HB5.out hb); have RI := Lib.hid (RI.out.below hb RI.out.lt); clear r0 r1 r2 r3 r4 r5 r6 r7 lr; have r0 := RI.out.cell 0; have r1 := RI.out.cell 1; have r2 := RI.out.cell 2; have r3 := RI.out.cell 3; have r4 := RI.out.cell 4; have r5 := RI.out.cell 5; have r6 := RI.out.cell 6; have r7 := RI.out.cell 7; have lr := RI.out.lt; have HBR := Lib.hid (HBR.out.next hb); have HBS := Lib.hid (HBS.out.next hb); clear hb) | (go_at_call 33; (with_reducible refine Calls.mono (rbefore_any _ _ _ _ _ _ _ _ _ HBR.out HBS.out) ?_); rintro r u7 ⟨rfl, hb⟩; have HW7 := Lib.hid hb; have HB7 := Lib.hid (below_to HB6.out hb); have RI := Lib.hid (RI.out.below hb RI.out.lt); clear r0 r1 r2 r3 r4 r5 r6 r7 lr; have r0 := RI.out.cell 0; have r1 := RI.out.cell 1; have r2 := RI.out.cell 2; have r3 := RI.out.cell 3; have r4 := RI.out.cell 4; have r5 := RI.out.cell 5; have r6 := RI.out.cell 6; have r7 := RI.out.cell 7; have lr := RI.out.lt; rw [HBB.out]; have HBR := Lib.hid (HBR.out.next hb); have HBS := Lib.hid (HBS.out.next hb); clear hb))
              go_roundw
              case rel => exact ⟨m + 1, some b, _, _, _, by go_num, by omega, rfl, rfl, HNB, HBS, RI, HB7⟩
              case measure => simp [intOf]; omega
            | true =>
              have HNB := Lib.hid (hbt b rfl he hbf)
              subst he
              clear hoth hfst hkp hbt hN e1
              dsimp only [Option.isSome, Option.getD] at HBE ⊢
              have HBB := Lib.hid hbf
              clear hbf
              go_wp2_with (first | (go_at_call 48; (with_reducible refine Calls.mono (HBT.out _) ?_); rintro r u5 ⟨A5, n5, c5, rfl, h5, hb⟩; have HW5 := Lib.hid hb; have HB5 := Lib.hid (below_to HB.out hb); have RI := Lib.hid (RI.out.below hb RI.out.lt); clear r0 r1 r2 r3 r4 r5 r6 r7 lr; have r0 := RI.out.cell 0; have r1 := RI.out.cell 1; have r2 := RI.out.cell 2; have r3 := RI.out.cell 3; have r4 := RI.out.cell 4; have r5 := RI.out.cell 5; have r6 := RI.out.cell 6; have r7 := RI.out.cell 7; have lr := RI.out.lt; have HBR := Lib.hid h5; have HBS := Lib.hid (HBE.out.next hb); clear h5; clear hb) | (go_at_call 25; (with_reducible refine Calls.mono (HLN.out _ HB5.out _ _ _ HBR.out) ?_); rintro r u6 ⟨rfl, hb⟩; have HW6 := Lib.hid hb; have HB6 := Lib.hid (below_to HB5.out hb); have RI := Lib.hid (RI.out.below hb RI.out.lt); clear r0 r1 r2 r3 r4 r5 r6 r7 lr; have r0 := RI.out.cell 0; have r1 := RI.out.cell 1; have r2 := RI.out.cell 2; have r3 := RI.out.cell 3; have r4 := RI.out.cell 4; have r5 := RI.out.cell 5; have r6 := RI.out.cell 6; have r7 := RI.out.cell 7; have lr := RI.out.lt; have HBR := Lib.hid (HBR.out.next hb); have HBS := Lib.hid (HBS.out.next hb); clear hb) | (go_at_call 33; (with_reducible refine Calls.mono (rbefore_any _ _ _ _ _ _ _ _ _ HBR.out HBS.out) ?_); rintro r u7 ⟨rfl, hb⟩; have HW7 := Lib.hid hb; have HB7 := Lib.hid (below_to HB6.out hb); have RI := Lib.hid (RI.out.below hb RI.out.lt); clear r0 r1 r2 r3 r4 r5 r6 r7 lr; have r0 := RI.out.cell 0; have r1 := RI.out.cell 1; have r2 := RI.out.cell 2; have r3 := RI.out.cell 3; have r4 := RI.out.cell 4; have r5 := RI.out.cell 5; have r6 := RI.out.cell 6; have r7 := RI.out.cell 7; have lr := RI.out.lt; rw [HBB.out]; have HBR := Lib.hid (HBR.out.next hb); have HBS := Lib.hid (HBS.out.next hb); clear hb))
              go_roundw
              case rel => exact ⟨m + 1, some _, _, _, _, by go_num, by omega, rfl, rfl, HNB, HBR, RI, HB7⟩
              case measure => simp [intOf]; omega
        · have e1 : (N == length) = false := beq_eq_false_iff_ne.2 he
          have HNB := Lib.hid (hoth he)
          clear hoth hfst hkp hbt hN
          go_wp2_with (first | (go_at_call 48; (with_reducible refine Calls.mono (HBT.out _) ?_); rintro r u5 ⟨A5, n5, c5, rfl, h5, hb⟩; have HW5 := Lib.hid hb; have HB5 := Lib.hid (below_to HB.out hb); have RI := Lib.hid (RI.out.below hb RI.out.lt); clear r0 r1 r2 r3 r4 r5 r6 r7 lr; have r0 := RI.out.cell 0; have r1 := RI.out.cell 1; have r2 := RI.out.cell 2; have r3 := RI.out.cell 3; have r4 := RI.out.cell 4; have r5 := RI.out.cell 5; have r6 := RI.out.cell 6; have r7 := RI.out.cell 7; have lr := RI.out.lt; have HBR := Lib.hid h5; have HBS := Lib.hid (HBE.out.next hb); clear h5; clear hb) | (go_at_call 25; (with_reducible refine Calls.mono (HLN.out _ HB5.out _ _ _ HBR.out) ?_); rintro r u6 ⟨rfl, hb⟩; have HW6 := Lib.hid hb; have HB6 := Lib.hid (below_to HB5.out hb); have RI := Lib.hid (RI.out.below hb RI.out.lt); clear r0 r1 r2 r3 r4 r5 r6 r7 lr; have r0 := RI.out.cell 0; have r1 := RI.out.cell 1; have r2 := RI.out.cell 2; have r3 := RI.out.cell 3; have r4 := RI.out.cell 4; have r5 := RI.out.cell 5; have r6 := RI.out.cell 6; have r7 := RI.out.cell 7; have lr := RI.out.lt; have HBR := Lib.hid (HBR.out.next hb); have HBS := Lib.hid (HBS.out.next hb); clear hb))
          go_roundw
          case rel => exact ⟨m + 1, o, _, _, _, by go_num, by omega, rfl, rfl, HNB, HBS, RI, HB6⟩
          case measure => simp [intOf]; omega
      · have m_1 : ¬ (m : Int) < (P : Int) := by omega
        obtain rfl : m = P := by omega
        have HX := Lib.hid (HDN.out o HBI.out)
        cases o with
        | none =>
          dsimp only [Option.isSome]
          go_wp2
          refine bodyPost_ret (results_tmp2 rfl _ _ _) rfl ⟨none, 0, 0, by rw [← HEE.out, HX.out]; rfl, by rw [HX.out]; exact recs_nil _ _ _ _, HB.out⟩
        | some b =>
          dsimp only [Option.isSome, Option.getD] at HBE ⊢
          go_wp2
          refine bodyPost_ret (results_tmp2 rfl _ _ _) rfl ⟨A, n, c, by rw [← HEE.out, HX.out]; rfl, by rw [HX.out]; exact HBE.out, HB.out⟩
end Go.Proofs.Ytnmhigjannihgaa

/- The reference's Encode. -/
namespace Go.Proofs.Ytnmhigjannihgaa
open Go.RowKit Go.Shelf
attribute [local go_sem ↓] append_appN

theorem flat_snoc {L : List Int} {l : List (Int × Int)} {k : Nat} {q : Int × Int} (h : l[k]? = some q) : L ++ flatP (l.take (k + 1)) = (L ++ flatP (l.take k)) ++ [q.1, q.2] := by
  rw [List.take_add_one, h, Option.toList_some]
  unfold flatP
  rw [List.flatMap_append, List.append_assoc]; rfl
theorem put_small (x : Int) (h : SmallZ x) (u : World) : Calls Try.prog 51 #[.int .i64 x] u fun e w' => e = .returned (.tuple #[.string (nb [x]), .int .i64 0]) ∧ Below u.heap.size u w' := by
  have e : nb [x] = ⟨(Wm.enc (Wm.foldZ x)).toArray⟩ := by show (⟨(encZ x ++ []).toArray⟩ : ByteArray) = _; rw [List.append_nil]; rfl
  rw [e]
  exact refPut_in x u (by have := h.1; omega) (by have := h.2; omega)
theorem nums_small {i : ItemP} (h : OkItem i) : ∀ n ∈ itemNums i, SmallZ n := by
  intro n hn
  unfold itemNums at hn
  rcases List.mem_append.1 hn with hn | hn
  · rcases List.mem_append.1 hn with hn | hn
    · exact h.head n hn
    · exact flatP_small h.len.2 (Int.le_refl _) h.p1 n hn
  · rcases List.mem_cons.1 hn with rfl | hn
    · have := h.n2; exact ⟨by omega, by omega⟩
    · exact flatP_small h.len.2 (Int.le_refl _) h.p2 n hn
theorem push_two {w : World} {B n : Nat} {v : Value} {l : List Int} (p q : Int) (hrow : w.ownsRow B 3 1 v n (iv1 l)) (hn : n ≤ 100000) (hB : B ≤ w.heap.size) :
    ∃ A c w', Sem.run Try.prog (appN #[26, 26] 26 #[v, .slice (some ⟨w.heap.size, 0, none⟩) 2 2]) (w.alloc (.cells #[.int .i64 p, .int .i64 q] 3)) = .ok (.slice A (n + 2) c) w' ∧
      w'.ownsRow B 3 1 (.slice A (n + 2) c) (n + 2) (iv1 (l ++ [p, q])) ∧ (w.alloc (.cells #[.int .i64 p, .int .i64 q] 3)).grownBy w' v.ownBlock ∧ ((Value.slice A (n + 2) c).ownBlock = v.ownBlock ∨ (Value.slice A (n + 2) c).ownBlock = some (w.heap.size + 1)) := by
  obtain ⟨i0, hi0, hz0, hz1, hz2⟩ := info_parts infoInt
  have hnews : ∀ j u, ([.int .i64 p, .int .i64 q] : List Value)[j]? = some u → (w.alloc (.cells #[.int .i64 p, .int .i64 q] 3)).cell? (Addr.add ⟨w.heap.size, 0, none⟩ j) = some u := fun j u hj => by
    have hc := (Row.new w 3 #[.int .i64 p, .int .i64 q]).cell j
    have ha : Addr.add ⟨w.heap.size, 0, none⟩ j = ⟨w.heap.size, j, none⟩ := by rw [Addr.add_lit, Nat.zero_add]
    rw [ha, hc]; simpa using hj
  have hone : ∀ u ∈ ([.int .i64 p, .int .i64 q] : List Value), u.oneCell' = true := fun u hu => by
    simp only [List.mem_cons, List.not_mem_nil, or_false] at hu
    rcases hu with rfl | rfl <;> rfl
  obtain ⟨v', w', hrun, hown, hgr, -, hloc⟩ := run_append_own_at (P := Try.prog) (w := w.alloc (.cells #[.int .i64 p, .int .i64 q] 3)) B 26 26 3 i0 (.int .i64 0) 1 8 Try.underlying26 hi0 hz0 hz1 hz2 rfl (by decide)
    v n _ (hrow.alloc _) ⟨w.heap.size, 0, none⟩ 2 2 [.int .i64 p, .int .i64 q] rfl hnews hone (by unfold maxLen; omega) (by omega) (by simp; omega)
  obtain ⟨A, c, rfl, -⟩ := own_slice hown
  rw [World.size_alloc] at hloc
  refine ⟨A, c, w', hrun, ?_, hgr, hloc⟩
  have e : iv1 (l ++ [p, q]) = iv1 l ++ [.int .i64 p, .int .i64 q] := by unfold iv1; rw [List.map_append]; rfl
  rw [e]; exact hown
set_option maxRecDepth 100000 in
set_option maxHeartbeats 8000000 in
theorem rencode_any (i : ItemP) (A1 A2 : Option Addr) (n1 c1 n2 c2 : Nat) (w : World) (hr : ItAt i A1 n1 c1 A2 n2 c2 w.heap.size w) :
    Calls Try.prog 17 #[.agg #[.int .i64 i.id, .int .i64 i.kind, .int .i64 i.len, .slice A1 n1 c1, .slice A2 n2 c2, .int .i64 i.artist, .int .i64 i.tempo, .int .i64 i.lang]] w fun e w' => e = .returned (.tuple #[.string (encodeV i).1, .int .i64 (encodeV i).2]) ∧ Below w.heap.size w w' := by
  have HVA := Lib.hid (fun u (hu : Below w.heap.size w u) => rvalid_any i A1 A2 n1 c1 n2 c2 u (hr.next hu))
  have HL := Lib.hid hr.lens
  have HT := Lib.hid hr.t
  have HK := Lib.hid hr.k
  have HV : Hid (encodeV i = if validI i then (nb (itemNums i), 0) else (⟨#[]⟩, 70)) := Lib.hid rfl
  have HOK := Lib.hid (fun (hi : validI i = true) => (validI_iff i).1 hi)
  have HSM := Lib.hid (fun (hi : validI i = true) => nums_small ((validI_iff i).1 hi))
  have HNU : Hid (itemNums i = [i.id, i.kind, i.len, i.artist, i.tempo, i.lang, (i.trims.length : Int)] ++ flatP i.trims ++ ((i.talks.length : Int) :: flatP i.talks)) := Lib.hid rfl
  clear hr
  obtain ⟨id, kind, len, trims, talks, artist, tempo, lang⟩ := i
  dsimp only at *
  have RI := Lib.hid (Row.new w 24 #[.int .i64 id, .int .i64 kind, .int .i64 len, .slice A1 n1 c1, .slice A2 n2 c2, .int .i64 artist, .int .i64 tempo, .int .i64 lang])
  have HB0 := Lib.hid ((Below.refl _ w).alloc (Nat.le_refl _) (.cells #[.int .i64 id, .int .i64 kind, .int .i64 len, .slice A1 n1 c1, .slice A2 n2 c2, .int .i64 artist, .int .i64 tempo, .int .i64 lang] 24))
  obtain ⟨V, hV⟩ : ∃ V, encodeV (⟨id, kind, len, trims, talks, artist, tempo, lang⟩ : ItemP) = V := ⟨_, rfl⟩
  obtain ⟨M, hM⟩ : ∃ M, itemNums (⟨id, kind, len, trims, talks, artist, tempo, lang⟩ : ItemP) = M := ⟨_, rfl⟩
  rw [hV, hM] at HV
  rw [hM] at HNU HSM
  rw [hV]
  have r0 : (w.alloc (.cells #[.int .i64 id, .int .i64 kind, .int .i64 len, .slice A1 n1 c1, .slice A2 n2 c2, .int .i64 artist, .int .i64 tempo, .int .i64 lang] 24)).cell? ⟨w.heap.size, 0, none⟩ = some (.int .i64 id) := RI.out.cell 0
  have r1 : (w.alloc (.cells #[.int .i64 id, .int .i64 kind, .int .i64 len, .slice A1 n1 c1, .slice A2 n2 c2, .int .i64 artist, .int .i64 tempo, .int .i64 lang] 24)).cell? ⟨w.heap.size, 1, none⟩ = some (.int .i64 kind) := RI.out.cell 1
  have r2 : (w.alloc (.cells #[.int .i64 id, .int .i64 kind, .int .i64 len, .slice A1 n1 c1, .slice A2 n2 c2, .int .i64 artist, .int .i64 tempo, .int .i64 lang] 24)).cell? ⟨w.heap.size, 2, none⟩ = some (.int .i64 len) := RI.out.cell 2
  have r3 : (w.alloc (.cells #[.int .i64 id, .int .i64 kind, .int .i64 len, .slice A1 n1 c1, .slice A2 n2 c2, .int .i64 artist, .int .i64 tempo, .int .i64 lang] 24)).cell? ⟨w.heap.size, 3, none⟩ = some (.slice A1 n1 c1) := RI.out.cell 3
  have r4 : (w.alloc (.cells #[.int .i64 id, .int .i64 kind, .int .i64 len, .slice A1 n1 c1, .slice A2 n2 c2, .int .i64 artist, .int .i64 tempo, .int .i64 lang] 24)).cell? ⟨w.heap.size, 4, none⟩ = some (.slice A2 n2 c2) := RI.out.cell 4
  have r5 : (w.alloc (.cells #[.int .i64 id, .int .i64 kind, .int .i64 len, .slice A1 n1 c1, .slice A2 n2 c2, .int .i64 artist, .int .i64 tempo, .int .i64 lang] 24)).cell? ⟨w.heap.size, 5, none⟩ = some (.int .i64 artist) := RI.out.cell 5
  have r6 : (w.alloc (.cells #[.int .i64 id, .int .i64 kind, .int .i64 len, .slice A1 n1 c1, .slice A2 n2 c2, .int .i64 artist, .int .i64 tempo, .int .i64 lang] 24)).cell? ⟨w.heap.size, 6, none⟩ = some (.int .i64 tempo) := RI.out.cell 6
  have r7 : (w.alloc (.cells #[.int .i64 id, .int .i64 kind, .int .i64 len, .slice A1 n1 c1, .slice A2 n2 c2, .int .i64 artist, .int .i64 tempo, .int .i64 lang] 24)).cell? ⟨w.heap.size, 7, none⟩ = some (.int .i64 lang) := RI.out.cell 7
  have lr := RI.out.lt
  cases hv : validI (⟨id, kind, len, trims, talks, artist, tempo, lang⟩ : ItemP) with
  | false =>
    have HX := Lib.hid (show V = (⟨#[]⟩, 70) by rw [HV.out, hv]; rfl)
    rw [hv] at HVA
    clear hv HV hV HOK HSM hM
    go_enter Try.func17, Try.ntmps17
    go_wp2_with (first | (go_at_call 13; (with_reducible refine Calls.mono (HVA.out _ HB0.out) ?_); rintro r u1 ⟨rfl, hb⟩; have HB1 := Lib.hid (below_to HB0.out hb); have RI := Lib.hid (RI.out.below hb RI.out.lt); clear r0 r1 r2 r3 r4 r5 r6 r7 lr; have r0 := RI.out.cell 0; have r1 := RI.out.cell 1; have r2 := RI.out.cell 2; have r3 := RI.out.cell 3; have r4 := RI.out.cell 4; have r5 := RI.out.cell 5; have r6 := RI.out.cell 6; have r7 := RI.out.cell 7; have lr := RI.out.lt; clear hb))
    refine bodyPost_ret (results_tmp2 rfl _ _ _) rfl ⟨by rw [HX.out]; rfl, HB1.out⟩
  | true =>
    have HX := Lib.hid (show V = (nb M, 0) by rw [HV.out, hv]; rfl)
    have HSM := Lib.hid (HSM.out hv)
    have h4 := (HOK.out hv).n1
    have h5 := (HOK.out hv).n2
    have H4 := Lib.hid (show n1 ≤ 4 ∧ n2 ≤ 4 ∧ trims.length ≤ 4 ∧ talks.length ≤ 4 by have := HL.out; dsimp only at h4 h5; omega)
    have hn1 : n1 ≤ 4 := H4.out.1
    have hn2 : n2 ≤ 4 := H4.out.2.1
    rw [hv] at HVA
    clear hv HV hV HOK hM h4 h5
    go_enter Try.func17, Try.ntmps17
    go_upto_region 3 with (first | (go_at_call 13; (with_reducible refine Calls.mono (HVA.out _ HB0.out) ?_); rintro r u1 ⟨rfl, hb⟩; have HB1 := Lib.hid (below_to HB0.out hb); have RI := Lib.hid (RI.out.below hb RI.out.lt); clear r0 r1 r2 r3 r4 r5 r6 r7 lr; have r0 := RI.out.cell 0; have r1 := RI.out.cell 1; have r2 := RI.out.cell 2; have r3 := RI.out.cell 3; have r4 := RI.out.cell 4; have r5 := RI.out.cell 5; have r6 := RI.out.cell 6; have r7 := RI.out.cell 7; have lr := RI.out.lt; clear hb))
    have HO7 : Hid ((u1.alloc (.cells #[.int .i64 id, .int .i64 kind, .int .i64 len, .int .i64 artist, .int .i64 tempo, .int .i64 lang, .int .i64 (n1 : Int)] 3)).ownsRow (w.heap.size + 1) 3 1 (.slice (some ⟨u1.heap.size, 0, none⟩) 7 7) 7 (iv1 [id, kind, len, artist, tempo, lang, (n1 : Int)])) :=
      Lib.hid ⟨rfl, .inr ⟨u1.heap.size, 7, _, rfl, by omega, Row.new u1 _ _, Nat.le_refl _, by decide, rfl, rfl⟩⟩
    have HR7 := Lib.hid (RI.out.alloc (.cells #[.int .i64 id, .int .i64 kind, .int .i64 len, .int .i64 artist, .int .i64 tempo, .int .i64 lang, .int .i64 (n1 : Int)] 3))
    have HB7 := Lib.hid (HB1.out.alloc HB1.out.size (.cells #[.int .i64 id, .int .i64 kind, .int .i64 len, .int .i64 artist, .int .i64 tempo, .int .i64 lang, .int .i64 (n1 : Int)] 3))
    go_wp2_with fail
    go_loopw [4, 5] (fun v j wr => ∃ k : Nat, j = .int .i64 (k : Int) ∧ k ≤ n1 ∧ Hid (wr.ownsRow (w.heap.size + 1) 3 1 v ([id, kind, len, artist, tempo, lang, (n1 : Int)] ++ flatP (trims.take k)).length (iv1 ([id, kind, len, artist, tempo, lang, (n1 : Int)] ++ flatP (trims.take k)))) ∧ Hid (Row wr w.heap.size 24 #[.int .i64 id, .int .i64 kind, .int .i64 len, .slice A1 n1 c1, .slice A2 n2 c2, .int .i64 artist, .int .i64 tempo, .int .i64 lang]) ∧ Hid (Below w.heap.size w wr)) (fun _ j _ => n1 - (intOf j).toNat)
    case atStart => exact ⟨0, rfl, Nat.zero_le _, HO7, HR7, HB7⟩
    case round =>
      clear RI r0 r1 r2 r3 r4 r5 r6 r7 lr
      obtain ⟨k, rfl, hk, HOW, RI, HB⟩ := hrel
      have r0 : wr.cell? ⟨w.heap.size, 0, none⟩ = some (.int .i64 id) := RI.out.cell 0
      have r1 : wr.cell? ⟨w.heap.size, 1, none⟩ = some (.int .i64 kind) := RI.out.cell 1
      have r2 : wr.cell? ⟨w.heap.size, 2, none⟩ = some (.int .i64 len) := RI.out.cell 2
      have r3 : wr.cell? ⟨w.heap.size, 3, none⟩ = some (.slice A1 n1 c1) := RI.out.cell 3
      have r4 : wr.cell? ⟨w.heap.size, 4, none⟩ = some (.slice A2 n2 c2) := RI.out.cell 4
      have r5 : wr.cell? ⟨w.heap.size, 5, none⟩ = some (.int .i64 artist) := RI.out.cell 5
      have r6 : wr.cell? ⟨w.heap.size, 6, none⟩ = some (.int .i64 tempo) := RI.out.cell 6
      have r7 : wr.cell? ⟨w.heap.size, 7, none⟩ = some (.int .i64 lang) := RI.out.cell 7
      have lr := RI.out.lt
      have k_0 : (0 : Int) ≤ (k : Int) := by omega
      by_cases hlt : k < n1
      · have k_1 : (k : Int) < (n1 : Int) := by omega
        have hka : k < trims.length := by have := HL.out; omega
        have HQ := Lib.hid (List.getElem?_eq_getElem hka)
        obtain ⟨q, hq⟩ : ∃ q, trims[k] = q := ⟨_, rfl⟩
        rw [hq] at HQ
        obtain ⟨g, o, hgo, hg, t0, t1⟩ := cell2_at (HT.out.next HB.out) HQ.out
        subst hgo
        have HTK := Lib.hid (flat_snoc (L := [id, kind, len, artist, tempo, lang, (n1 : Int)]) HQ.out)
        obtain ⟨q1, q2⟩ := q
        dsimp only at t0 t1 HTK
        obtain ⟨L, hLL⟩ : ∃ L, [id, kind, len, artist, tempo, lang, (n1 : Int)] ++ flatP (trims.take k) = L := ⟨_, rfl⟩
        have hlen : L.length ≤ 1000 := by rw [← hLL]; simp only [List.length_append, List.length_cons, List.length_nil, flatP_len, List.length_take]; have := H4.out; have := HL.out; omega
        rw [hLL] at HOW HTK
        clear hq hka hLL
        obtain ⟨A, cc, hv, -⟩ := own_slice HOW.out
        subst hv
        have hbX : Below wr.heap.size wr wr.drew := (Below.refl _ _).drew
        have hsX := hbX.size
        have hOX := own_below HOW.out hbX
        have hRX := RI.out.below hbX RI.out.lt
        have HBX := Lib.hid (below_to HB.out hbX)
        obtain ⟨A9, c9, w9, run9, own9, g9, -⟩ := push_two q1 q2 hOX (by omega) (by omega)
        have HB9 := Lib.hid (own_below_grown hOX (by omega) g9)
        have HO9 := Lib.hid own9
        have HR9 := Lib.hid ((HB9.out.block _ (by omega)).trans hRX)
        have HBY := Lib.hid (HBX.out.trans (HB9.out.mono (by omega)))
        have run9 : Sem.run Try.prog (appN #[26, 26] 26 #[.slice A L.length cc, .slice (some ⟨wr.heap.size, 0, none⟩) 2 2]) (wr.alloc (.cells #[.int .i64 q1, .int .i64 q2] 3)).drew = .ok (.slice A9 (L.length + 2) c9) w9 := run9
        clear own9 g9 hbX hOX hRX hsX
        go_wp2
        go_region
        go_wp2
        go_roundw
        case rel => exact ⟨k + 1, by go_num, by omega, Lib.hid (by rw [HTK.out, List.length_append]; exact HO9.out), HR9, HBY⟩
        case measure => simp [intOf]; omega
      · have k_1 : ¬ (k : Int) < (n1 : Int) := by omega
        obtain ⟨L, hLL⟩ : ∃ L, [id, kind, len, artist, tempo, lang, (n1 : Int)] ++ flatP trims = L := ⟨_, rfl⟩
        have hlen : L.length ≤ 1000 := by rw [← hLL, List.length_append, flatP_len]; simp only [List.length_cons, List.length_nil]; have := H4.out; omega
        rw [List.take_of_length_le (by have := HL.out; omega), hLL] at HOW
        have HLL := Lib.hid hLL
        clear hLL hlt hk
        obtain ⟨A, cc, hv, -⟩ := own_slice HOW.out
        subst hv
        obtain ⟨A9, c9, w9, run9, own9, g9, -⟩ := push_one (x := .int .i64 (n2 : Int)) Try.underlying26 infoInt rfl rfl (by omega) HOW.out (by omega) (by omega)
        have HB9 := Lib.hid (own_below_grown HOW.out (by omega) g9)
        have HOB := Lib.hid (show w9.ownsRow (w.heap.size + 1) 3 1 (.slice A9 (L.length + 1) c9) ((([id, kind, len, artist, tempo, lang, (n1 : Int)] ++ flatP trims ++ [(n2 : Int)]) ++ flatP (talks.take 0)).length) (iv1 (([id, kind, len, artist, tempo, lang, (n1 : Int)] ++ flatP trims ++ [(n2 : Int)]) ++ flatP (talks.take 0))) by
          rw [HLL.out, List.take_zero, show flatP [] = [] from rfl, List.append_nil, List.length_append]
          have e : iv1 (L ++ [(n2 : Int)]) = iv1 L ++ [.int .i64 (n2 : Int)] := by unfold iv1; rw [List.map_append]; rfl
          rw [e]; exact own9)
        have HRB := Lib.hid ((HB9.out.block _ (by omega)).trans RI.out)
        have HBB := Lib.hid (HB.out.trans (HB9.out.mono (by omega)))
        clear own9 g9
        go_wp2
        go_loopw [4, 6] (fun v j wr => ∃ k : Nat, j = .int .i64 (k : Int) ∧ k ≤ n2 ∧ Hid (wr.ownsRow (w.heap.size + 1) 3 1 v (([id, kind, len, artist, tempo, lang, (n1 : Int)] ++ flatP trims ++ [(n2 : Int)]) ++ flatP (talks.take k)).length (iv1 (([id, kind, len, artist, tempo, lang, (n1 : Int)] ++ flatP trims ++ [(n2 : Int)]) ++ flatP (talks.take k)))) ∧ Hid (Row wr w.heap.size 24 #[.int .i64 id, .int .i64 kind, .int .i64 len, .slice A1 n1 c1, .slice A2 n2 c2, .int .i64 artist, .int .i64 tempo, .int .i64 lang]) ∧ Hid (Below w.heap.size w wr)) (fun _ j _ => n2 - (intOf j).toNat)
        case atStart => exact ⟨0, rfl, Nat.zero_le _, HOB, HRB, HBB⟩
        case round =>
          clear RI r0 r1 r2 r3 r4 r5 r6 r7 lr
          obtain ⟨k, rfl, hk, HOW, RI, HB⟩ := hrel
          have r0 : wr.cell? ⟨w.heap.size, 0, none⟩ = some (.int .i64 id) := RI.out.cell 0
          have r1 : wr.cell? ⟨w.heap.size, 1, none⟩ = some (.int .i64 kind) := RI.out.cell 1
          have r2 : wr.cell? ⟨w.heap.size, 2, none⟩ = some (.int .i64 len) := RI.out.cell 2
          have r3 : wr.cell? ⟨w.heap.size, 3, none⟩ = some (.slice A1 n1 c1) := RI.out.cell 3
          have r4 : wr.cell? ⟨w.heap.size, 4, none⟩ = some (.slice A2 n2 c2) := RI.out.cell 4
          have r5 : wr.cell? ⟨w.heap.size, 5, none⟩ = some (.int .i64 artist) := RI.out.cell 5
          have r6 : wr.cell? ⟨w.heap.size, 6, none⟩ = some (.int .i64 tempo) := RI.out.cell 6
          have r7 : wr.cell? ⟨w.heap.size, 7, none⟩ = some (.int .i64 lang) := RI.out.cell 7
          have lr := RI.out.lt
          have k_0 : (0 : Int) ≤ (k : Int) := by omega
          by_cases hlt : k < n2
          · have k_1 : (k : Int) < (n2 : Int) := by omega
            have hka : k < talks.length := by have := HL.out; omega
            have HQ := Lib.hid (List.getElem?_eq_getElem hka)
            obtain ⟨q, hq⟩ : ∃ q, talks[k] = q := ⟨_, rfl⟩
            rw [hq] at HQ
            obtain ⟨g, o, hgo, hg, t0, t1⟩ := cell2_at (HK.out.next HB.out) HQ.out
            subst hgo
            have HTK := Lib.hid (flat_snoc (L := ([id, kind, len, artist, tempo, lang, (n1 : Int)] ++ flatP trims ++ [(n2 : Int)])) HQ.out)
            obtain ⟨q1, q2⟩ := q
            dsimp only at t0 t1 HTK
            obtain ⟨L, hLL⟩ : ∃ L, ([id, kind, len, artist, tempo, lang, (n1 : Int)] ++ flatP trims ++ [(n2 : Int)]) ++ flatP (talks.take k) = L := ⟨_, rfl⟩
            have hlen : L.length ≤ 1000 := by rw [← hLL]; simp only [List.length_append, List.length_cons, List.length_nil, flatP_len, List.length_take]; have := H4.out; have := HL.out; omega
            rw [hLL] at HOW HTK
            clear hq hka hLL
            obtain ⟨A, cc, hv, -⟩ := own_slice HOW.out
            subst hv
            have hbX : Below wr.heap.size wr wr.drew := (Below.refl _ _).drew
            have hsX := hbX.size
            have hOX := own_below HOW.out hbX
            have hRX := RI.out.below hbX RI.out.lt
            have HBX := Lib.hid (below_to HB.out hbX)
            obtain ⟨A9, c9, w9, run9, own9, g9, -⟩ := push_two q1 q2 hOX (by omega) (by omega)
            have HB9 := Lib.hid (own_below_grown hOX (by omega) g9)
            have HO9 := Lib.hid own9
            have HR9 := Lib.hid ((HB9.out.block _ (by omega)).trans hRX)
            have HBY := Lib.hid (HBX.out.trans (HB9.out.mono (by omega)))
            have run9 : Sem.run Try.prog (appN #[26, 26] 26 #[.slice A L.length cc, .slice (some ⟨wr.heap.size, 0, none⟩) 2 2]) (wr.alloc (.cells #[.int .i64 q1, .int .i64 q2] 3)).drew = .ok (.slice A9 (L.length + 2) c9) w9 := run9
            clear own9 g9 hbX hOX hRX hsX
            go_wp2
            go_region
            go_wp2
            go_roundw
            case rel => exact ⟨k + 1, by go_num, by omega, Lib.hid (by rw [HTK.out, List.length_append]; exact HO9.out), HR9, HBY⟩
            case measure => simp [intOf]; omega
          · have k_1 : ¬ (k : Int) < (n2 : Int) := by omega
            rw [List.take_of_length_le (by have := HL.out; omega)] at HOW
            have hM : ([id, kind, len, artist, tempo, lang, (n1 : Int)] ++ flatP trims ++ [(n2 : Int)]) ++ flatP talks = M := by rw [HNU.out, ← HL.out.1, ← HL.out.2]; simp
            rw [hM] at HOW
            have HRM := Lib.hid (ints_own HOW.out rfl)
            have hNl : M.length ≤ 1000 := by rw [← hM, List.length_append, flatP_len, List.length_append, List.length_append, flatP_len]; simp only [List.length_cons, List.length_nil]; have := H4.out; omega
            obtain ⟨A, cc, hv, hcc, hcc2, -⟩ := own_slice HOW.out
            subst hv
            obtain ⟨N, hN⟩ : ∃ N, M.length = N := ⟨_, rfl⟩
            rw [hN] at HRM hNl ⊢
            have HN := Lib.hid hN
            clear hM hN hlt hk HOW
            go_wp2
            go_loopw [7, 8] (fun s j wr => ∃ k : Nat, j = .int .i64 (k : Int) ∧ k ≤ N ∧ s = .string (nb (M.take k)) ∧ Hid (Recs enc1 1 wr wr.heap.size (.slice A N cc) M) ∧ Hid (Below w.heap.size w wr)) (fun _ j _ => N - (intOf j).toNat)
            case atStart => exact ⟨0, rfl, Nat.zero_le _, rfl, HRM, HB⟩
            case round =>
              clear RI r0 r1 r2 r3 r4 r5 r6 r7 lr HRM
              obtain ⟨k, rfl, hk, rfl, HAL, HB⟩ := hrel
              have k_0 : (0 : Int) ≤ (k : Int) := by omega
              by_cases hlt : k < N
              · have k_1 : (k : Int) < (N : Int) := by omega
                have hka : k < M.length := by have := HN.out; omega
                have HQ := Lib.hid (List.getElem?_eq_getElem hka)
                obtain ⟨x, hx⟩ : ∃ x, M[k] = x := ⟨_, rfl⟩
                rw [hx] at HQ
                obtain ⟨g, o, hgo, hg, a0⟩ := cell1_at HAL.out HQ.out
                subst hgo
                have hxs := HSM.out x (List.mem_of_getElem? HQ.out)
                have HPI := Lib.hid (fun u => put_small x hxs u)
                have HNX := Lib.hid (show nb (M.take (k + 1)) = nb (M.take k) ++ nb [x] by rw [nb_append, List.take_add_one, HQ.out, Option.toList_some])
                have z1 := nb_size (M.take k)
                have z2 := nb_size [x]
                rw [List.length_take] at z1
                simp only [List.length_cons, List.length_nil] at z2
                obtain ⟨T, hT⟩ : ∃ T, nb (M.take k) = T := ⟨_, rfl⟩
                obtain ⟨Y, hY⟩ : ∃ Y, nb [x] = Y := ⟨_, rfl⟩
                rw [hT] at z1 HNX ⊢
                rw [hY] at z2 HNX HPI
                have z3 : ¬ 9223372036854775807 < T.size + Y.size := by omega
                clear hxs hx hka hT hY z1 z2
                go_wp2_with (first | (go_at_call 51; (with_reducible refine Calls.mono (HPI.out _) ?_); rintro r u9 ⟨rfl, hb⟩; have HB9 := Lib.hid (below_to HB.out hb); have HAL := Lib.hid (HAL.out.next hb); clear hb))
                go_roundw
                case rel => exact ⟨k + 1, by go_num, by omega, by rw [HNX.out], HAL, HB9⟩
                case measure => simp [intOf]; omega
              · have k_1 : ¬ (k : Int) < (N : Int) := by omega
                have HX2 := Lib.hid (show V = (nb (M.take k), 0) by rw [HX.out, List.take_of_length_le (by have := HN.out; omega)])
                go_wp2
                refine bodyPost_ret (results_tmp2 rfl _ _ _) rfl ⟨by rw [HX2.out]; rfl, HB.out⟩
end Go.Proofs.Ytnmhigjannihgaa
