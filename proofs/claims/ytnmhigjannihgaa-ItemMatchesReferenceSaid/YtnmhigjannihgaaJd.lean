/- isDescribed, Valid. -/
import Derived.Test.YtnmhigjannihgaaJc
namespace Go.Proofs.Ytnmhigjannihgaa
open Go.RowKit Go.Shelf

def descB (i : ItemP) : Bool := if i.kind = 1 then decide (0 ≤ i.artist) && decide (i.artist ≤ 99) && decide (1 ≤ i.tempo) && decide (i.tempo ≤ 5) && decide (1 ≤ i.lang) && decide (i.lang ≤ 4) else decide (i.artist = 0) && decide (i.tempo = 0) && decide (i.lang = 0)
def validI (i : ItemP) : Bool := decide (0 ≤ i.id) && decide (i.id < 200) && decide (1 ≤ i.kind) && decide (i.kind ≤ 5) && decide (1 ≤ i.len) && decide (i.len ≤ 3600) && decide (i.trims.length ≤ 4) && parB i.len i.trims && decide (i.talks.length ≤ 4) && parB i.len i.talks && decide (0 < bef i.len i.trims) && descB i
theorem validI_iff (i : ItemP) : validI i = true ↔ OkItem i := by
  unfold validI descB
  constructor
  · intro h
    simp only [Bool.and_eq_true, decide_eq_true_eq, parB_iff] at h
    obtain ⟨⟨⟨⟨⟨⟨⟨⟨⟨⟨⟨h1, h2⟩, h3⟩, h4⟩, h5⟩, h6⟩, h7⟩, h8⟩, h9⟩, h10⟩, h11⟩, h12⟩ := h
    refine ⟨⟨h1, h2⟩, ⟨h3, h4⟩, ⟨h5, h6⟩, h7, h8, h9, h10, h11, fun k => ?_, fun k => ?_⟩
    · rw [if_pos k] at h12
      simp only [Bool.and_eq_true, decide_eq_true_eq] at h12
      obtain ⟨⟨⟨⟨⟨a, b⟩, c⟩, d⟩, e⟩, f⟩ := h12
      exact ⟨a, b, c, d, e, f⟩
    · rw [if_neg k] at h12
      simp only [Bool.and_eq_true, decide_eq_true_eq] at h12
      obtain ⟨⟨a, b⟩, c⟩ := h12
      exact ⟨a, b, c⟩
  · intro h
    simp only [Bool.and_eq_true, decide_eq_true_eq, parB_iff]
    refine ⟨⟨⟨⟨⟨⟨⟨⟨⟨⟨⟨h.id.1, h.id.2⟩, h.kind.1⟩, h.kind.2⟩, h.len.1⟩, h.len.2⟩, h.n1⟩, h.p1⟩, h.n2⟩, h.p2⟩, h.left⟩, ?_⟩
    by_cases k : i.kind = 1
    · rw [if_pos k]
      obtain ⟨a, b, c, d, e, f⟩ := h.song k
      simp [a, b, c, d, e, f]
    · rw [if_neg k]
      obtain ⟨a, b, c⟩ := h.other k
      simp [a, b, c]
set_option maxRecDepth 100000 in
set_option maxHeartbeats 8000000 in
theorem desc_any (i : ItemP) (A1 A2 : Option Addr) (n1 c1 n2 c2 : Nat) (w : World) : Calls Try.prog 43 #[.agg #[.int .i64 i.id, .int .i64 i.kind, .int .i64 i.len, .slice A1 n1 c1, .slice A2 n2 c2, .int .i64 i.artist, .int .i64 i.tempo, .int .i64 i.lang]] w fun e w' => e = .returned (.bool (descB i)) ∧ Below w.heap.size w w' := by
  obtain ⟨id, kind, len, trims, talks, artist, tempo, lang⟩ := i
  dsimp only
  have HD := Lib.hid (show descB ⟨id, kind, len, trims, talks, artist, tempo, lang⟩ = if kind = 1 then decide (0 ≤ artist) && decide (artist ≤ 99) && decide (1 ≤ tempo) && decide (tempo ≤ 5) && decide (1 ≤ lang) && decide (lang ≤ 4) else decide (artist = 0) && decide (tempo = 0) && decide (lang = 0) from rfl)
  rw [HD.out]
  clear HD
  by_cases k : kind = 1
  · subst k
    rw [if_pos rfl]
    by_cases h0 : 0 ≤ artist
    · by_cases h1 : artist ≤ 99
      · by_cases h2 : 1 ≤ tempo
        · by_cases h3 : tempo ≤ 5
          · by_cases h4 : 1 ≤ lang
            · by_cases h5 : lang ≤ 4
              · rw [show (decide (0 ≤ artist) && decide (artist ≤ 99) && decide (1 ≤ tempo) && decide (tempo ≤ 5) && decide (1 ≤ lang) && decide (lang ≤ 4)) = true by simp [h0, h1, h2, h3, h4, h5]]
                go_enter Try.func43, Try.ntmps43
                go_wp2
                go_ret
                exact ⟨rfl, (Below.refl _ w).alloc (Nat.le_refl _) _⟩
              · rw [show (decide (0 ≤ artist) && decide (artist ≤ 99) && decide (1 ≤ tempo) && decide (tempo ≤ 5) && decide (1 ≤ lang) && decide (lang ≤ 4)) = false by simp [h5]]
                go_enter Try.func43, Try.ntmps43
                go_wp2
                go_ret
                exact ⟨rfl, (Below.refl _ w).alloc (Nat.le_refl _) _⟩
            · rw [show (decide (0 ≤ artist) && decide (artist ≤ 99) && decide (1 ≤ tempo) && decide (tempo ≤ 5) && decide (1 ≤ lang) && decide (lang ≤ 4)) = false by simp [h4]]
              go_enter Try.func43, Try.ntmps43
              go_wp2
              go_ret
              exact ⟨rfl, (Below.refl _ w).alloc (Nat.le_refl _) _⟩
          · rw [show (decide (0 ≤ artist) && decide (artist ≤ 99) && decide (1 ≤ tempo) && decide (tempo ≤ 5) && decide (1 ≤ lang) && decide (lang ≤ 4)) = false by simp [h3]]
            go_enter Try.func43, Try.ntmps43
            go_wp2
            go_ret
            exact ⟨rfl, (Below.refl _ w).alloc (Nat.le_refl _) _⟩
        · rw [show (decide (0 ≤ artist) && decide (artist ≤ 99) && decide (1 ≤ tempo) && decide (tempo ≤ 5) && decide (1 ≤ lang) && decide (lang ≤ 4)) = false by simp [h2]]
          go_enter Try.func43, Try.ntmps43
          go_wp2
          go_ret
          exact ⟨rfl, (Below.refl _ w).alloc (Nat.le_refl _) _⟩
      · rw [show (decide (0 ≤ artist) && decide (artist ≤ 99) && decide (1 ≤ tempo) && decide (tempo ≤ 5) && decide (1 ≤ lang) && decide (lang ≤ 4)) = false by simp [h1]]
        go_enter Try.func43, Try.ntmps43
        go_wp2
        go_ret
        exact ⟨rfl, (Below.refl _ w).alloc (Nat.le_refl _) _⟩
    · rw [show (decide (0 ≤ artist) && decide (artist ≤ 99) && decide (1 ≤ tempo) && decide (tempo ≤ 5) && decide (1 ≤ lang) && decide (lang ≤ 4)) = false by simp [h0]]
      go_enter Try.func43, Try.ntmps43
      go_wp2
      go_ret
      exact ⟨rfl, (Below.refl _ w).alloc (Nat.le_refl _) _⟩
  · have k1 : (kind == 1) = false := by simp [k]
    have k2 : (kind != 1) = true := by simp [k]
    rw [if_neg k]
    clear k
    by_cases h0 : artist = 0
    · have eartist : (artist == 0) = true := by simp [h0]
      by_cases h1 : tempo = 0
      · have etempo : (tempo == 0) = true := by simp [h1]
        by_cases h2 : lang = 0
        · have elang : (lang == 0) = true := by simp [h2]
          rw [show (decide (artist = 0) && decide (tempo = 0) && decide (lang = 0)) = true by simp [h0, h1, h2]]
          go_enter Try.func43, Try.ntmps43
          go_wp2
          go_ret
          exact ⟨rfl, (Below.refl _ w).alloc (Nat.le_refl _) _⟩
        · have elang : (lang == 0) = false := by simp [h2]
          rw [show (decide (artist = 0) && decide (tempo = 0) && decide (lang = 0)) = false by simp [h2]]
          go_enter Try.func43, Try.ntmps43
          go_wp2
          go_ret
          exact ⟨rfl, (Below.refl _ w).alloc (Nat.le_refl _) _⟩
      · have etempo : (tempo == 0) = false := by simp [h1]
        rw [show (decide (artist = 0) && decide (tempo = 0) && decide (lang = 0)) = false by simp [h1]]
        go_enter Try.func43, Try.ntmps43
        go_wp2
        go_ret
        exact ⟨rfl, (Below.refl _ w).alloc (Nat.le_refl _) _⟩
    · have eartist : (artist == 0) = false := by simp [h0]
      rw [show (decide (artist = 0) && decide (tempo = 0) && decide (lang = 0)) = false by simp [h0]]
      go_enter Try.func43, Try.ntmps43
      go_wp2
      go_ret
      exact ⟨rfl, (Below.refl _ w).alloc (Nat.le_refl _) _⟩
/-- The slices of an item. -/
structure ItAt (i : ItemP) (A1 : Option Addr) (n1 c1 : Nat) (A2 : Option Addr) (n2 c2 : Nat) (B : Nat) (w : World) : Prop where
  t : Recs enc2 2 w B (.slice A1 n1 c1) i.trims
  k : Recs enc2 2 w B (.slice A2 n2 c2) i.talks
theorem ItAt.next {i : ItemP} {A1 A2 : Option Addr} {n1 c1 n2 c2 : Nat} {w w' : World} (h : ItAt i A1 n1 c1 A2 n2 c2 w.heap.size w) (hb : Below w.heap.size w w') : ItAt i A1 n1 c1 A2 n2 c2 w'.heap.size w' := ⟨h.t.next hb, h.k.next hb⟩
theorem ItAt.lens {i : ItemP} {A1 A2 : Option Addr} {n1 c1 n2 c2 B : Nat} {w : World} (h : ItAt i A1 n1 c1 A2 n2 c2 B w) : n1 = i.trims.length ∧ n2 = i.talks.length := ⟨(recs_cap h.t).1, (recs_cap h.k).1⟩
set_option maxRecDepth 100000 in
set_option maxHeartbeats 16000000 in
theorem valid_any (i : ItemP) (A1 A2 : Option Addr) (n1 c1 n2 c2 : Nat) (w : World) (hr : ItAt i A1 n1 c1 A2 n2 c2 w.heap.size w) : Calls Try.prog 12 #[.agg #[.int .i64 i.id, .int .i64 i.kind, .int .i64 i.len, .slice A1 n1 c1, .slice A2 n2 c2, .int .i64 i.artist, .int .i64 i.tempo, .int .i64 i.lang]] w fun e w' => e = .returned (.bool (validI i)) ∧ Below w.heap.size w w' := by
  obtain ⟨l1, l2⟩ := hr.lens
  have HR := Lib.hid hr
  have HDS := Lib.hid (fun u => desc_any i A1 A2 n1 c1 n2 c2 u)
  have HBF := Lib.hid (fun (h0 : 1 ≤ i.len ∧ i.len ≤ 3600) (hp : parB i.len i.trims = true) u (hu : Below w.heap.size w u) => before_any i.len (by omega) h0.2 i.trims ((parB_iff _ _).1 hp) A1 n1 c1 u (hr.next hu).t)
  have HV := Lib.hid (show validI i = (decide (0 ≤ i.id) && decide (i.id < 200) && decide (1 ≤ i.kind) && decide (i.kind ≤ 5) && decide (1 ≤ i.len) && decide (i.len ≤ 3600) && decide (n1 ≤ 4) && parB i.len i.trims && decide (n2 ≤ 4) && parB i.len i.talks && decide (0 < bef i.len i.trims) && descB i) by rw [l1, l2]; rfl)
  have HP1 := Lib.hid (fun u (hu : Below w.heap.size w u) => areParts_any i.len i.trims A1 n1 c1 u (hr.next hu).t)
  have HP2 := Lib.hid (fun u (hu : Below w.heap.size w u) => areParts_any i.len i.talks A2 n2 c2 u (hr.next hu).k)
  rw [HV.out]
  obtain ⟨id, kind, len, trims, talks, artist, tempo, lang⟩ := i
  dsimp only at *
  obtain ⟨p1, hp1⟩ : ∃ p1, parB len trims = p1 := ⟨_, rfl⟩
  obtain ⟨p2, hp2⟩ : ∃ p2, parB len talks = p2 := ⟨_, rfl⟩
  obtain ⟨z, hz⟩ : ∃ z, bef len trims = z := ⟨_, rfl⟩
  obtain ⟨d, hd⟩ : ∃ d, descB ⟨id, kind, len, trims, talks, artist, tempo, lang⟩ = d := ⟨_, rfl⟩
  rw [hp1] at HP1 HBF
  rw [hp2] at HP2
  rw [hz] at HBF
  rw [hd] at HDS
  simp only [hp1, hp2, hz, hd]
  clear hr HR HV hp1 hp2 hz hd l1 l2
  by_cases h0 : 0 ≤ id
  · by_cases h1 : id < 200
    · by_cases h2 : 1 ≤ kind
      · by_cases h3 : kind ≤ 5
        · by_cases h4 : 1 ≤ len
          · by_cases h5 : len ≤ 3600
            · by_cases h6 : n1 ≤ 4
              · have k6 : (n1 : Int) ≤ 4 := by omega
                cases p1 with
                | false =>
                  rw [show (decide (0 ≤ id) && decide (id < 200) && decide (1 ≤ kind) && decide (kind ≤ 5) && decide (1 ≤ len) && decide (len ≤ 3600) && decide (n1 ≤ 4) && false && decide (n2 ≤ 4) && p2 && decide (0 < z) && d) = false by simp]
                  go_enter Try.func12, Try.ntmps12
                  go_wp2_with (first | (go_at_call 41; (with_reducible refine Calls.mono (HP1.out _ ((Below.refl _ w).alloc (Nat.le_refl _) _)) ?_); rintro r u1 ⟨rfl, hb⟩; have Bc := Lib.hid (below_to ((Below.refl _ w).alloc (Nat.le_refl _) _) hb); have sz := Bc.out.size; have RI := Lib.hid ((Row.new w 24 #[.int .i64 id, .int .i64 kind, .int .i64 len, .slice A1 n1 c1, .slice A2 n2 c2, .int .i64 artist, .int .i64 tempo, .int .i64 lang]).below hb (Row.new w 24 #[.int .i64 id, .int .i64 kind, .int .i64 len, .slice A1 n1 c1, .slice A2 n2 c2, .int .i64 artist, .int .i64 tempo, .int .i64 lang]).lt); have I_0 := RI.out.cell 0; have I_1 := RI.out.cell 1; have I_2 := RI.out.cell 2; have I_3 := RI.out.cell 3; have I_4 := RI.out.cell 4; have I_5 := RI.out.cell 5; have I_6 := RI.out.cell 6; have I_7 := RI.out.cell 7; have lI := RI.out.lt; clear hb))
                  go_ret
                  exact ⟨rfl, Bc.out⟩
                | true =>
                  by_cases h8 : n2 ≤ 4
                  · have k8 : (n2 : Int) ≤ 4 := by omega
                    cases p2 with
                    | false =>
                      rw [show (decide (0 ≤ id) && decide (id < 200) && decide (1 ≤ kind) && decide (kind ≤ 5) && decide (1 ≤ len) && decide (len ≤ 3600) && decide (n1 ≤ 4) && true && decide (n2 ≤ 4) && false && decide (0 < z) && d) = false by simp]
                      go_enter Try.func12, Try.ntmps12
                      go_wp2_with (first | (go_at_call 41; (with_reducible refine Calls.mono (HP1.out _ ((Below.refl _ w).alloc (Nat.le_refl _) _)) ?_); rintro r u1 ⟨rfl, hb⟩; have Bc := Lib.hid (below_to ((Below.refl _ w).alloc (Nat.le_refl _) _) hb); have sz := Bc.out.size; have RI := Lib.hid ((Row.new w 24 #[.int .i64 id, .int .i64 kind, .int .i64 len, .slice A1 n1 c1, .slice A2 n2 c2, .int .i64 artist, .int .i64 tempo, .int .i64 lang]).below hb (Row.new w 24 #[.int .i64 id, .int .i64 kind, .int .i64 len, .slice A1 n1 c1, .slice A2 n2 c2, .int .i64 artist, .int .i64 tempo, .int .i64 lang]).lt); have I_0 := RI.out.cell 0; have I_1 := RI.out.cell 1; have I_2 := RI.out.cell 2; have I_3 := RI.out.cell 3; have I_4 := RI.out.cell 4; have I_5 := RI.out.cell 5; have I_6 := RI.out.cell 6; have I_7 := RI.out.cell 7; have lI := RI.out.lt; clear hb) | (go_at_call 41; (with_reducible refine Calls.mono (HP2.out _ Bc.out) ?_); rintro r u2 ⟨rfl, hb⟩; have Bc := Lib.hid (below_to Bc.out hb); have sz := Bc.out.size; have RI := Lib.hid (RI.out.below hb RI.out.lt); clear I_0 I_1 I_2 I_3 I_4 I_5 I_6 I_7 lI; have I_0 := RI.out.cell 0; have I_1 := RI.out.cell 1; have I_2 := RI.out.cell 2; have I_3 := RI.out.cell 3; have I_4 := RI.out.cell 4; have I_5 := RI.out.cell 5; have I_6 := RI.out.cell 6; have I_7 := RI.out.cell 7; have lI := RI.out.lt; clear hb))
                      go_ret
                      exact ⟨rfl, Bc.out⟩
                    | true =>
                      by_cases h10 : 0 < z
                      · cases d with
                        | false =>
                          rw [show (decide (0 ≤ id) && decide (id < 200) && decide (1 ≤ kind) && decide (kind ≤ 5) && decide (1 ≤ len) && decide (len ≤ 3600) && decide (n1 ≤ 4) && true && decide (n2 ≤ 4) && true && decide (0 < z) && false) = false by simp]
                          have HBX := Lib.hid (fun u hu => HBF.out ⟨h4, h5⟩ rfl u hu)
                          go_enter Try.func12, Try.ntmps12
                          go_wp2_with (first | (go_at_call 41; (with_reducible refine Calls.mono (HP1.out _ ((Below.refl _ w).alloc (Nat.le_refl _) _)) ?_); rintro r u1 ⟨rfl, hb⟩; have Bc := Lib.hid (below_to ((Below.refl _ w).alloc (Nat.le_refl _) _) hb); have sz := Bc.out.size; have RI := Lib.hid ((Row.new w 24 #[.int .i64 id, .int .i64 kind, .int .i64 len, .slice A1 n1 c1, .slice A2 n2 c2, .int .i64 artist, .int .i64 tempo, .int .i64 lang]).below hb (Row.new w 24 #[.int .i64 id, .int .i64 kind, .int .i64 len, .slice A1 n1 c1, .slice A2 n2 c2, .int .i64 artist, .int .i64 tempo, .int .i64 lang]).lt); have I_0 := RI.out.cell 0; have I_1 := RI.out.cell 1; have I_2 := RI.out.cell 2; have I_3 := RI.out.cell 3; have I_4 := RI.out.cell 4; have I_5 := RI.out.cell 5; have I_6 := RI.out.cell 6; have I_7 := RI.out.cell 7; have lI := RI.out.lt; clear hb) | (go_at_call 41; (with_reducible refine Calls.mono (HP2.out _ Bc.out) ?_); rintro r u2 ⟨rfl, hb⟩; have Bc := Lib.hid (below_to Bc.out hb); have sz := Bc.out.size; have RI := Lib.hid (RI.out.below hb RI.out.lt); clear I_0 I_1 I_2 I_3 I_4 I_5 I_6 I_7 lI; have I_0 := RI.out.cell 0; have I_1 := RI.out.cell 1; have I_2 := RI.out.cell 2; have I_3 := RI.out.cell 3; have I_4 := RI.out.cell 4; have I_5 := RI.out.cell 5; have I_6 := RI.out.cell 6; have I_7 := RI.out.cell 7; have lI := RI.out.lt; clear hb) | (go_at_call 42; (with_reducible refine Calls.mono (HBX.out _ Bc.out) ?_); rintro r u3 ⟨rfl, hb⟩; have Bc := Lib.hid (below_to Bc.out hb); have sz := Bc.out.size; have RI := Lib.hid (RI.out.below hb RI.out.lt); clear I_0 I_1 I_2 I_3 I_4 I_5 I_6 I_7 lI; have I_0 := RI.out.cell 0; have I_1 := RI.out.cell 1; have I_2 := RI.out.cell 2; have I_3 := RI.out.cell 3; have I_4 := RI.out.cell 4; have I_5 := RI.out.cell 5; have I_6 := RI.out.cell 6; have I_7 := RI.out.cell 7; have lI := RI.out.lt; clear hb) | (go_at_call 43; (with_reducible refine Calls.mono (HDS.out _) ?_); rintro r u4 ⟨rfl, hb⟩; have Bc := Lib.hid (below_to Bc.out hb); have sz := Bc.out.size; have RI := Lib.hid (RI.out.below hb RI.out.lt); clear I_0 I_1 I_2 I_3 I_4 I_5 I_6 I_7 lI; have I_0 := RI.out.cell 0; have I_1 := RI.out.cell 1; have I_2 := RI.out.cell 2; have I_3 := RI.out.cell 3; have I_4 := RI.out.cell 4; have I_5 := RI.out.cell 5; have I_6 := RI.out.cell 6; have I_7 := RI.out.cell 7; have lI := RI.out.lt; clear hb))
                          go_ret
                          exact ⟨rfl, Bc.out⟩
                        | true =>
                          rw [show (decide (0 ≤ id) && decide (id < 200) && decide (1 ≤ kind) && decide (kind ≤ 5) && decide (1 ≤ len) && decide (len ≤ 3600) && decide (n1 ≤ 4) && true && decide (n2 ≤ 4) && true && decide (0 < z) && true) = true by simp [h0, h1, h2, h3, h4, h5, h6, h8, h10]]
                          have HBX := Lib.hid (fun u hu => HBF.out ⟨h4, h5⟩ rfl u hu)
                          go_enter Try.func12, Try.ntmps12
                          go_wp2_with (first | (go_at_call 41; (with_reducible refine Calls.mono (HP1.out _ ((Below.refl _ w).alloc (Nat.le_refl _) _)) ?_); rintro r u1 ⟨rfl, hb⟩; have Bc := Lib.hid (below_to ((Below.refl _ w).alloc (Nat.le_refl _) _) hb); have sz := Bc.out.size; have RI := Lib.hid ((Row.new w 24 #[.int .i64 id, .int .i64 kind, .int .i64 len, .slice A1 n1 c1, .slice A2 n2 c2, .int .i64 artist, .int .i64 tempo, .int .i64 lang]).below hb (Row.new w 24 #[.int .i64 id, .int .i64 kind, .int .i64 len, .slice A1 n1 c1, .slice A2 n2 c2, .int .i64 artist, .int .i64 tempo, .int .i64 lang]).lt); have I_0 := RI.out.cell 0; have I_1 := RI.out.cell 1; have I_2 := RI.out.cell 2; have I_3 := RI.out.cell 3; have I_4 := RI.out.cell 4; have I_5 := RI.out.cell 5; have I_6 := RI.out.cell 6; have I_7 := RI.out.cell 7; have lI := RI.out.lt; clear hb) | (go_at_call 41; (with_reducible refine Calls.mono (HP2.out _ Bc.out) ?_); rintro r u2 ⟨rfl, hb⟩; have Bc := Lib.hid (below_to Bc.out hb); have sz := Bc.out.size; have RI := Lib.hid (RI.out.below hb RI.out.lt); clear I_0 I_1 I_2 I_3 I_4 I_5 I_6 I_7 lI; have I_0 := RI.out.cell 0; have I_1 := RI.out.cell 1; have I_2 := RI.out.cell 2; have I_3 := RI.out.cell 3; have I_4 := RI.out.cell 4; have I_5 := RI.out.cell 5; have I_6 := RI.out.cell 6; have I_7 := RI.out.cell 7; have lI := RI.out.lt; clear hb) | (go_at_call 42; (with_reducible refine Calls.mono (HBX.out _ Bc.out) ?_); rintro r u3 ⟨rfl, hb⟩; have Bc := Lib.hid (below_to Bc.out hb); have sz := Bc.out.size; have RI := Lib.hid (RI.out.below hb RI.out.lt); clear I_0 I_1 I_2 I_3 I_4 I_5 I_6 I_7 lI; have I_0 := RI.out.cell 0; have I_1 := RI.out.cell 1; have I_2 := RI.out.cell 2; have I_3 := RI.out.cell 3; have I_4 := RI.out.cell 4; have I_5 := RI.out.cell 5; have I_6 := RI.out.cell 6; have I_7 := RI.out.cell 7; have lI := RI.out.lt; clear hb) | (go_at_call 43; (with_reducible refine Calls.mono (HDS.out _) ?_); rintro r u4 ⟨rfl, hb⟩; have Bc := Lib.hid (below_to Bc.out hb); have sz := Bc.out.size; have RI := Lib.hid (RI.out.below hb RI.out.lt); clear I_0 I_1 I_2 I_3 I_4 I_5 I_6 I_7 lI; have I_0 := RI.out.cell 0; have I_1 := RI.out.cell 1; have I_2 := RI.out.cell 2; have I_3 := RI.out.cell 3; have I_4 := RI.out.cell 4; have I_5 := RI.out.cell 5; have I_6 := RI.out.cell 6; have I_7 := RI.out.cell 7; have lI := RI.out.lt; clear hb))
                          go_ret
                          exact ⟨rfl, Bc.out⟩
                      · rw [show (decide (0 ≤ id) && decide (id < 200) && decide (1 ≤ kind) && decide (kind ≤ 5) && decide (1 ≤ len) && decide (len ≤ 3600) && decide (n1 ≤ 4) && true && decide (n2 ≤ 4) && true && decide (0 < z) && d) = false by simp [h10]]
                        have HBX := Lib.hid (fun u hu => HBF.out ⟨h4, h5⟩ rfl u hu)
                        go_enter Try.func12, Try.ntmps12
                        go_wp2_with (first | (go_at_call 41; (with_reducible refine Calls.mono (HP1.out _ ((Below.refl _ w).alloc (Nat.le_refl _) _)) ?_); rintro r u1 ⟨rfl, hb⟩; have Bc := Lib.hid (below_to ((Below.refl _ w).alloc (Nat.le_refl _) _) hb); have sz := Bc.out.size; have RI := Lib.hid ((Row.new w 24 #[.int .i64 id, .int .i64 kind, .int .i64 len, .slice A1 n1 c1, .slice A2 n2 c2, .int .i64 artist, .int .i64 tempo, .int .i64 lang]).below hb (Row.new w 24 #[.int .i64 id, .int .i64 kind, .int .i64 len, .slice A1 n1 c1, .slice A2 n2 c2, .int .i64 artist, .int .i64 tempo, .int .i64 lang]).lt); have I_0 := RI.out.cell 0; have I_1 := RI.out.cell 1; have I_2 := RI.out.cell 2; have I_3 := RI.out.cell 3; have I_4 := RI.out.cell 4; have I_5 := RI.out.cell 5; have I_6 := RI.out.cell 6; have I_7 := RI.out.cell 7; have lI := RI.out.lt; clear hb) | (go_at_call 41; (with_reducible refine Calls.mono (HP2.out _ Bc.out) ?_); rintro r u2 ⟨rfl, hb⟩; have Bc := Lib.hid (below_to Bc.out hb); have sz := Bc.out.size; have RI := Lib.hid (RI.out.below hb RI.out.lt); clear I_0 I_1 I_2 I_3 I_4 I_5 I_6 I_7 lI; have I_0 := RI.out.cell 0; have I_1 := RI.out.cell 1; have I_2 := RI.out.cell 2; have I_3 := RI.out.cell 3; have I_4 := RI.out.cell 4; have I_5 := RI.out.cell 5; have I_6 := RI.out.cell 6; have I_7 := RI.out.cell 7; have lI := RI.out.lt; clear hb) | (go_at_call 42; (with_reducible refine Calls.mono (HBX.out _ Bc.out) ?_); rintro r u3 ⟨rfl, hb⟩; have Bc := Lib.hid (below_to Bc.out hb); have sz := Bc.out.size; have RI := Lib.hid (RI.out.below hb RI.out.lt); clear I_0 I_1 I_2 I_3 I_4 I_5 I_6 I_7 lI; have I_0 := RI.out.cell 0; have I_1 := RI.out.cell 1; have I_2 := RI.out.cell 2; have I_3 := RI.out.cell 3; have I_4 := RI.out.cell 4; have I_5 := RI.out.cell 5; have I_6 := RI.out.cell 6; have I_7 := RI.out.cell 7; have lI := RI.out.lt; clear hb))
                        go_ret
                        exact ⟨rfl, Bc.out⟩
                  · have k8 : ¬ (n2 : Int) ≤ 4 := by omega
                    rw [show (decide (0 ≤ id) && decide (id < 200) && decide (1 ≤ kind) && decide (kind ≤ 5) && decide (1 ≤ len) && decide (len ≤ 3600) && decide (n1 ≤ 4) && true && decide (n2 ≤ 4) && p2 && decide (0 < z) && d) = false by simp [h8]]
                    go_enter Try.func12, Try.ntmps12
                    go_wp2_with (first | (go_at_call 41; (with_reducible refine Calls.mono (HP1.out _ ((Below.refl _ w).alloc (Nat.le_refl _) _)) ?_); rintro r u1 ⟨rfl, hb⟩; have Bc := Lib.hid (below_to ((Below.refl _ w).alloc (Nat.le_refl _) _) hb); have sz := Bc.out.size; have RI := Lib.hid ((Row.new w 24 #[.int .i64 id, .int .i64 kind, .int .i64 len, .slice A1 n1 c1, .slice A2 n2 c2, .int .i64 artist, .int .i64 tempo, .int .i64 lang]).below hb (Row.new w 24 #[.int .i64 id, .int .i64 kind, .int .i64 len, .slice A1 n1 c1, .slice A2 n2 c2, .int .i64 artist, .int .i64 tempo, .int .i64 lang]).lt); have I_0 := RI.out.cell 0; have I_1 := RI.out.cell 1; have I_2 := RI.out.cell 2; have I_3 := RI.out.cell 3; have I_4 := RI.out.cell 4; have I_5 := RI.out.cell 5; have I_6 := RI.out.cell 6; have I_7 := RI.out.cell 7; have lI := RI.out.lt; clear hb))
                    go_ret
                    exact ⟨rfl, Bc.out⟩
              · have k6 : ¬ (n1 : Int) ≤ 4 := by omega
                rw [show (decide (0 ≤ id) && decide (id < 200) && decide (1 ≤ kind) && decide (kind ≤ 5) && decide (1 ≤ len) && decide (len ≤ 3600) && decide (n1 ≤ 4) && p1 && decide (n2 ≤ 4) && p2 && decide (0 < z) && d) = false by simp [h6]]
                go_enter Try.func12, Try.ntmps12
                go_wp2
                go_ret
                exact ⟨rfl, ((Below.refl _ w).alloc (Nat.le_refl _) _)⟩
            · rw [show (decide (0 ≤ id) && decide (id < 200) && decide (1 ≤ kind) && decide (kind ≤ 5) && decide (1 ≤ len) && decide (len ≤ 3600) && decide (n1 ≤ 4) && p1 && decide (n2 ≤ 4) && p2 && decide (0 < z) && d) = false by simp [h5]]
              go_enter Try.func12, Try.ntmps12
              go_wp2
              go_ret
              exact ⟨rfl, ((Below.refl _ w).alloc (Nat.le_refl _) _)⟩
          · rw [show (decide (0 ≤ id) && decide (id < 200) && decide (1 ≤ kind) && decide (kind ≤ 5) && decide (1 ≤ len) && decide (len ≤ 3600) && decide (n1 ≤ 4) && p1 && decide (n2 ≤ 4) && p2 && decide (0 < z) && d) = false by simp [h4]]
            go_enter Try.func12, Try.ntmps12
            go_wp2
            go_ret
            exact ⟨rfl, ((Below.refl _ w).alloc (Nat.le_refl _) _)⟩
        · rw [show (decide (0 ≤ id) && decide (id < 200) && decide (1 ≤ kind) && decide (kind ≤ 5) && decide (1 ≤ len) && decide (len ≤ 3600) && decide (n1 ≤ 4) && p1 && decide (n2 ≤ 4) && p2 && decide (0 < z) && d) = false by simp [h3]]
          go_enter Try.func12, Try.ntmps12
          go_wp2
          go_ret
          exact ⟨rfl, ((Below.refl _ w).alloc (Nat.le_refl _) _)⟩
      · rw [show (decide (0 ≤ id) && decide (id < 200) && decide (1 ≤ kind) && decide (kind ≤ 5) && decide (1 ≤ len) && decide (len ≤ 3600) && decide (n1 ≤ 4) && p1 && decide (n2 ≤ 4) && p2 && decide (0 < z) && d) = false by simp [h2]]
        go_enter Try.func12, Try.ntmps12
        go_wp2
        go_ret
        exact ⟨rfl, ((Below.refl _ w).alloc (Nat.le_refl _) _)⟩
    · rw [show (decide (0 ≤ id) && decide (id < 200) && decide (1 ≤ kind) && decide (kind ≤ 5) && decide (1 ≤ len) && decide (len ≤ 3600) && decide (n1 ≤ 4) && p1 && decide (n2 ≤ 4) && p2 && decide (0 < z) && d) = false by simp [h1]]
      go_enter Try.func12, Try.ntmps12
      go_wp2
      go_ret
      exact ⟨rfl, ((Below.refl _ w).alloc (Nat.le_refl _) _)⟩
  · rw [show (decide (0 ≤ id) && decide (id < 200) && decide (1 ≤ kind) && decide (kind ≤ 5) && decide (1 ≤ len) && decide (len ≤ 3600) && decide (n1 ≤ 4) && p1 && decide (n2 ≤ 4) && p2 && decide (0 < z) && d) = false by simp [h0]]
    go_enter Try.func12, Try.ntmps12
    go_wp2
    go_ret
    exact ⟨rfl, ((Below.refl _ w).alloc (Nat.le_refl _) _)⟩
end Go.Proofs.Ytnmhigjannihgaa
