/- The reference's Same. -/
import Derived.Test.YtnmhigjannihgaaLb
namespace Go.Proofs.Ytnmhigjannihgaa
open Go.RowKit Go.Shelf

set_option maxRecDepth 100000 in
set_option maxHeartbeats 8000000 in
theorem rsame_any (i k : ItemP) (A1 A2 A3 A4 : Option Addr) (n1 c1 n2 c2 n3 c3 n4 c4 : Nat) (w : World) (hri : ItAt i A1 n1 c1 A2 n2 c2 w.heap.size w) (hrk : ItAt k A3 n3 c3 A4 n4 c4 w.heap.size w) :
    Calls Try.prog 37 #[.agg #[.int .i64 i.id, .int .i64 i.kind, .int .i64 i.len, .slice A1 n1 c1, .slice A2 n2 c2, .int .i64 i.artist, .int .i64 i.tempo, .int .i64 i.lang], .agg #[.int .i64 k.id, .int .i64 k.kind, .int .i64 k.len, .slice A3 n3 c3, .slice A4 n4 c4, .int .i64 k.artist, .int .i64 k.tempo, .int .i64 k.lang]] w fun e w' => e = .returned (.bool (decide (i = k))) ∧ Below w.heap.size w w' := by
  have HS1 := Lib.hid (fun u (hu : Below w.heap.size w u) => rsame_spells i.trims k.trims A1 A3 n1 c1 n3 c3 u (hri.next hu).t (hrk.next hu).t)
  have HS2 := Lib.hid (fun u (hu : Below w.heap.size w u) => rsame_spells i.talks k.talks A2 A4 n2 c2 n4 c4 u (hri.next hu).k (hrk.next hu).k)
  clear hri hrk
  obtain ⟨id, hid⟩ : ∃ x, i.id = x := ⟨_, rfl⟩
  obtain ⟨kind, hkind⟩ : ∃ x, i.kind = x := ⟨_, rfl⟩
  obtain ⟨len, hlen⟩ : ∃ x, i.len = x := ⟨_, rfl⟩
  obtain ⟨trims, htrims⟩ : ∃ x, i.trims = x := ⟨_, rfl⟩
  obtain ⟨talks, htalks⟩ : ∃ x, i.talks = x := ⟨_, rfl⟩
  obtain ⟨artist, hartist⟩ : ∃ x, i.artist = x := ⟨_, rfl⟩
  obtain ⟨tempo, htempo⟩ : ∃ x, i.tempo = x := ⟨_, rfl⟩
  obtain ⟨lang, hlang⟩ : ∃ x, i.lang = x := ⟨_, rfl⟩
  obtain ⟨id2, hid2⟩ : ∃ x, k.id = x := ⟨_, rfl⟩
  obtain ⟨kind2, hkind2⟩ : ∃ x, k.kind = x := ⟨_, rfl⟩
  obtain ⟨len2, hlen2⟩ : ∃ x, k.len = x := ⟨_, rfl⟩
  obtain ⟨trims2, htrims2⟩ : ∃ x, k.trims = x := ⟨_, rfl⟩
  obtain ⟨talks2, htalks2⟩ : ∃ x, k.talks = x := ⟨_, rfl⟩
  obtain ⟨artist2, hartist2⟩ : ∃ x, k.artist = x := ⟨_, rfl⟩
  obtain ⟨tempo2, htempo2⟩ : ∃ x, k.tempo = x := ⟨_, rfl⟩
  obtain ⟨lang2, hlang2⟩ : ∃ x, k.lang = x := ⟨_, rfl⟩
  rw [hid, hkind, hlen, hartist, htempo, hlang, hid2, hkind2, hlen2, hartist2, htempo2, hlang2]
  rw [htrims, htrims2] at HS1
  rw [htalks, htalks2] at HS2
  have hi : (⟨id, kind, len, trims, talks, artist, tempo, lang⟩ : ItemP) = i := by rw [← hid, ← hkind, ← hlen, ← htrims, ← htalks, ← hartist, ← htempo, ← hlang]
  have hk : (⟨id2, kind2, len2, trims2, talks2, artist2, tempo2, lang2⟩ : ItemP) = k := by rw [← hid2, ← hkind2, ← hlen2, ← htrims2, ← htalks2, ← hartist2, ← htempo2, ← hlang2]
  clear hid hkind hlen htrims htalks hartist htempo hlang hid2 hkind2 hlen2 htrims2 htalks2 hartist2 htempo2 hlang2
  by_cases h0 : ¬ id = id2
  · have e1 : (id == id2) = false := beq_eq_false_iff_ne.2 h0
    have hd : decide (i = k) = false := decide_eq_false fun e => h0 (by rw [← hi, ← hk] at e; injection e)
    clear hi hk HS1 HS2
    go_enter Try.func37, Try.ntmps37
    go_wp2_with fail
    go_ret
    exact ⟨by rw [hd]; rfl, ((Below.refl _ w).alloc (Nat.le_refl _) _).alloc (by simp) _⟩
  obtain rfl := Decidable.not_not.1 h0
  clear h0
  by_cases h1 : ¬ kind = kind2
  · have e1 : (kind == kind2) = false := beq_eq_false_iff_ne.2 h1
    have hd : decide (i = k) = false := decide_eq_false fun e => h1 (by rw [← hi, ← hk] at e; injection e)
    clear hi hk HS1 HS2
    go_enter Try.func37, Try.ntmps37
    go_wp2_with fail
    go_ret
    exact ⟨by rw [hd]; rfl, ((Below.refl _ w).alloc (Nat.le_refl _) _).alloc (by simp) _⟩
  obtain rfl := Decidable.not_not.1 h1
  clear h1
  by_cases h2 : ¬ len = len2
  · have e1 : (len == len2) = false := beq_eq_false_iff_ne.2 h2
    have hd : decide (i = k) = false := decide_eq_false fun e => h2 (by rw [← hi, ← hk] at e; injection e)
    clear hi hk HS1 HS2
    go_enter Try.func37, Try.ntmps37
    go_wp2_with fail
    go_ret
    exact ⟨by rw [hd]; rfl, ((Below.refl _ w).alloc (Nat.le_refl _) _).alloc (by simp) _⟩
  obtain rfl := Decidable.not_not.1 h2
  clear h2
  by_cases h3 : ¬ artist = artist2
  · have e1 : (artist == artist2) = false := beq_eq_false_iff_ne.2 h3
    have hd : decide (i = k) = false := decide_eq_false fun e => h3 (by rw [← hi, ← hk] at e; injection e)
    clear hi hk HS1 HS2
    go_enter Try.func37, Try.ntmps37
    go_wp2_with fail
    go_ret
    exact ⟨by rw [hd]; rfl, ((Below.refl _ w).alloc (Nat.le_refl _) _).alloc (by simp) _⟩
  obtain rfl := Decidable.not_not.1 h3
  clear h3
  by_cases h4 : ¬ tempo = tempo2
  · have e1 : (tempo == tempo2) = false := beq_eq_false_iff_ne.2 h4
    have hd : decide (i = k) = false := decide_eq_false fun e => h4 (by rw [← hi, ← hk] at e; injection e)
    clear hi hk HS1 HS2
    go_enter Try.func37, Try.ntmps37
    go_wp2_with fail
    go_ret
    exact ⟨by rw [hd]; rfl, ((Below.refl _ w).alloc (Nat.le_refl _) _).alloc (by simp) _⟩
  obtain rfl := Decidable.not_not.1 h4
  clear h4
  by_cases h5 : ¬ lang = lang2
  · have e1 : (lang == lang2) = false := beq_eq_false_iff_ne.2 h5
    have hd : decide (i = k) = false := decide_eq_false fun e => h5 (by rw [← hi, ← hk] at e; injection e)
    clear hi hk HS1 HS2
    go_enter Try.func37, Try.ntmps37
    go_wp2_with fail
    go_ret
    exact ⟨by rw [hd]; rfl, ((Below.refl _ w).alloc (Nat.le_refl _) _).alloc (by simp) _⟩
  obtain rfl := Decidable.not_not.1 h5
  clear h5
  obtain ⟨b1, hb1⟩ : ∃ b, decide (trims = trims2) = b := ⟨_, rfl⟩
  obtain ⟨b2, hb2⟩ : ∃ b, decide (talks = talks2) = b := ⟨_, rfl⟩
  have hd : decide (i = k) = (b1 && b2) := by
    rw [← hi, ← hk, ← hb1, ← hb2]
    by_cases x1 : trims = trims2
    · by_cases x2 : talks = talks2
      · subst x1; subst x2; simp
      · subst x1; simp [x2]
    · simp [x1]
  rw [hb1] at HS1
  rw [hb2] at HS2
  clear hb1 hb2 hi hk
  have HD := Lib.hid hd
  clear hd
  have RI := Lib.hid ((Row.new w 24 #[.int .i64 id, .int .i64 kind, .int .i64 len, .slice A1 n1 c1, .slice A2 n2 c2, .int .i64 artist, .int .i64 tempo, .int .i64 lang]).alloc (.cells #[.int .i64 id, .int .i64 kind, .int .i64 len, .slice A3 n3 c3, .slice A4 n4 c4, .int .i64 artist, .int .i64 tempo, .int .i64 lang] 24))
  have RK := Lib.hid (Row.new (w.alloc (.cells #[.int .i64 id, .int .i64 kind, .int .i64 len, .slice A1 n1 c1, .slice A2 n2 c2, .int .i64 artist, .int .i64 tempo, .int .i64 lang] 24)) 24 #[.int .i64 id, .int .i64 kind, .int .i64 len, .slice A3 n3 c3, .slice A4 n4 c4, .int .i64 artist, .int .i64 tempo, .int .i64 lang])
  rw [World.size_alloc] at RK
  have BW := Lib.hid (((Below.refl _ w).alloc (Nat.le_refl _) (.cells #[.int .i64 id, .int .i64 kind, .int .i64 len, .slice A1 n1 c1, .slice A2 n2 c2, .int .i64 artist, .int .i64 tempo, .int .i64 lang] 24)).alloc (by simp) (.cells #[.int .i64 id, .int .i64 kind, .int .i64 len, .slice A3 n3 c3, .slice A4 n4 c4, .int .i64 artist, .int .i64 tempo, .int .i64 lang] 24))
  obtain ⟨W, hW⟩ : ∃ W, ((w.alloc (.cells #[.int .i64 id, .int .i64 kind, .int .i64 len, .slice A1 n1 c1, .slice A2 n2 c2, .int .i64 artist, .int .i64 tempo, .int .i64 lang] 24)).alloc (.cells #[.int .i64 id, .int .i64 kind, .int .i64 len, .slice A3 n3 c3, .slice A4 n4 c4, .int .i64 artist, .int .i64 tempo, .int .i64 lang] 24)) = W := ⟨_, rfl⟩
  rw [hW] at RI RK BW
  have r0 : W.cell? ⟨w.heap.size, 0, none⟩ = some (.int .i64 id) := RI.out.cell 0
  have r1 : W.cell? ⟨w.heap.size, 1, none⟩ = some (.int .i64 kind) := RI.out.cell 1
  have r2 : W.cell? ⟨w.heap.size, 2, none⟩ = some (.int .i64 len) := RI.out.cell 2
  have r3 : W.cell? ⟨w.heap.size, 3, none⟩ = some (.slice A1 n1 c1) := RI.out.cell 3
  have r4 : W.cell? ⟨w.heap.size, 4, none⟩ = some (.slice A2 n2 c2) := RI.out.cell 4
  have r5 : W.cell? ⟨w.heap.size, 5, none⟩ = some (.int .i64 artist) := RI.out.cell 5
  have r6 : W.cell? ⟨w.heap.size, 6, none⟩ = some (.int .i64 tempo) := RI.out.cell 6
  have r7 : W.cell? ⟨w.heap.size, 7, none⟩ = some (.int .i64 lang) := RI.out.cell 7
  have v0 : W.cell? ⟨w.heap.size + 1, 0, none⟩ = some (.int .i64 id) := RK.out.cell 0
  have v1 : W.cell? ⟨w.heap.size + 1, 1, none⟩ = some (.int .i64 kind) := RK.out.cell 1
  have v2 : W.cell? ⟨w.heap.size + 1, 2, none⟩ = some (.int .i64 len) := RK.out.cell 2
  have v3 : W.cell? ⟨w.heap.size + 1, 3, none⟩ = some (.slice A3 n3 c3) := RK.out.cell 3
  have v4 : W.cell? ⟨w.heap.size + 1, 4, none⟩ = some (.slice A4 n4 c4) := RK.out.cell 4
  have v5 : W.cell? ⟨w.heap.size + 1, 5, none⟩ = some (.int .i64 artist) := RK.out.cell 5
  have v6 : W.cell? ⟨w.heap.size + 1, 6, none⟩ = some (.int .i64 tempo) := RK.out.cell 6
  have v7 : W.cell? ⟨w.heap.size + 1, 7, none⟩ = some (.int .i64 lang) := RK.out.cell 7
  have l1 := RI.out.lt
  have l2 := RK.out.lt
  go_enter Try.func37, Try.ntmps37
  go_upto_region 1 with fail
  try rw [hW]
  clear hW
  cases b1 with
  | false =>
    go_wp2_with (first | (go_at_call 28; (with_reducible refine Calls.mono (HS1.out _ BW.out) ?_); rintro r w9 ⟨rfl, hb⟩; have HB9 := Lib.hid (below_to BW.out hb); clear hb))
    go_ret
    exact ⟨by rw [HD.out]; rfl, HB9.out⟩
  | true =>
    go_wp2_with (first | (go_at_call 28; (with_reducible refine Calls.mono (HS1.out _ BW.out) ?_); rintro r w9 ⟨rfl, hb⟩; have HB9 := Lib.hid (below_to BW.out hb); have RI := Lib.hid (RI.out.below hb RI.out.lt); have RK := Lib.hid (RK.out.below hb RK.out.lt); clear l1 l2; have l1 := RI.out.lt; have l2 := RK.out.lt; have x4 := RI.out.cell 4; have y4 := RK.out.cell 4; clear hb) | (go_at_call 28; (with_reducible refine Calls.mono (HS2.out _ HB9.out) ?_); rintro r w10 ⟨rfl, hb⟩; have HB10 := Lib.hid (below_to HB9.out hb); clear hb))
    go_ret
    exact ⟨by rw [HD.out]; rfl, HB10.out⟩
end Go.Proofs.Ytnmhigjannihgaa
