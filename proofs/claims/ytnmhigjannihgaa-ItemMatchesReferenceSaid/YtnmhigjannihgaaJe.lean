/- leftOut. -/
import Derived.Test.YtnmhigjannihgaaJd
namespace Go.Proofs.Ytnmhigjannihgaa
open Go.RowKit Go.Shelf
attribute [local go_sem ↓] append_appN

/-- Is a list of integers a cut, from an index on? -/
def cutB (n : Nat) : Nat → List Int → Bool
  | _, [] => true
  | f, x :: c => decide ((f : Int) ≤ x) && decide (x < n) && cutB n (x.toNat + 1) c
def goneI (trims : List (Int × Int)) (c : List Int) : List (Int × Int) := c.filterMap fun x => trims[x.toNat]?
def leftV (i : ItemP) (c : List Int) : List (Int × Int) × Bool := if validI i && cutB i.trims.length 0 c then (goneI i.trims c, true) else ([], false)
theorem left_bad {i : ItemP} {c : List Int} (h : (validI i && cutB i.trims.length 0 c) = false) : leftV i c = ([], false) := by unfold leftV; rw [h]; rfl
theorem left_ok {i : ItemP} {c : List Int} (h : validI i = true) (h2 : cutB i.trims.length 0 c = true) : leftV i c = (goneI i.trims c, true) := by unfold leftV; rw [h, h2]; rfl
/-- A cut of integers is one of indices. -/
theorem cutB_nat {n : Nat} : ∀ {c : List Int} {f : Nat}, cutB n f c = true → ∃ d : List Nat, c = d.map (fun (k : Nat) => (k : Int)) ∧ ascB n f d = true
  | [], f, _ => ⟨[], rfl, rfl⟩
  | x :: c, f, h => by
    have h' : (decide ((f : Int) ≤ x) && decide (x < n) && cutB n (x.toNat + 1) c) = true := h
    simp only [Bool.and_eq_true, decide_eq_true_eq] at h'
    obtain ⟨⟨h1, h2⟩, h3⟩ := h'
    obtain ⟨d, rfl, hd⟩ := cutB_nat h3
    refine ⟨x.toNat :: d, ?_, ?_⟩
    · rw [List.map_cons, show ((x.toNat : Nat) : Int) = x by omega]
    · show (decide (f ≤ x.toNat) && decide (x.toNat < n) && ascB n (x.toNat + 1) d) = true
      rw [hd, decide_eq_true (by omega), decide_eq_true (by omega)]; rfl
theorem nat_cutB {n : Nat} : ∀ {d : List Nat} {f : Nat}, ascB n f d = true → cutB n f (d.map fun (k : Nat) => (k : Int)) = true
  | [], f, _ => rfl
  | x :: d, f, h => by
    have h' : (decide (f ≤ x) && decide (x < n) && ascB n (x + 1) d) = true := h
    simp only [Bool.and_eq_true, decide_eq_true_eq] at h'
    obtain ⟨⟨h1, h2⟩, h3⟩ := h'
    show (decide ((f : Int) ≤ (x : Int)) && decide ((x : Int) < (n : Int)) && cutB n ((x : Int).toNat + 1) (d.map fun (k : Nat) => (k : Int))) = true
    rw [Int.toNat_natCast, nat_cutB h3, decide_eq_true (by omega), decide_eq_true (by omega)]; rfl
theorem goneI_nat (trims : List (Int × Int)) (d : List Nat) : goneI trims (d.map fun (k : Nat) => (k : Int)) = goneL trims d := by
  unfold goneI goneL
  rw [List.filterMap_map]
  rfl
theorem left_parts {i : ItemP} {c : List Int} (h : OkItem i) (h2 : cutB i.trims.length 0 c = true) : partsF i.len 0 (goneI i.trims c) := by
  obtain ⟨d, rfl, hd⟩ := cutB_nat h2
  rw [goneI_nat]
  exact gone_ok h.p1 hd
/-- What the loop knows. -/
structure LoSt (trims : List (Int × Int)) (cut : List Int) (k f : Nat) (G : List (Int × Int)) : Prop where
  c : cutB trims.length 0 cut = cutB trims.length f (cut.drop k)
  g : goneI trims cut = G ++ goneI trims (cut.drop k)
  n : G.length ≤ f
  f : f ≤ trims.length
theorem LoSt.start (trims : List (Int × Int)) (cut : List Int) : LoSt trims cut 0 0 [] := ⟨by rw [List.drop_zero], by rw [List.drop_zero]; rfl, Nat.le_refl _, Nat.zero_le _⟩
theorem LoSt.bad {trims : List (Int × Int)} {cut : List Int} {k f : Nat} {G : List (Int × Int)} (h : LoSt trims cut k f G) {x : Int} (hx : cut[k]? = some x) (hb : x < (f : Int) ∨ (trims.length : Int) ≤ x) : cutB trims.length 0 cut = false := by
  obtain ⟨hk, rfl⟩ := List.getElem?_eq_some_iff.1 hx
  rw [h.c, List.drop_eq_getElem_cons hk]
  show (decide ((f : Int) ≤ cut[k]) && decide (cut[k] < (trims.length : Int)) && _) = false
  rcases hb with hb | hb
  · rw [decide_eq_false (show ¬ (f : Int) ≤ cut[k] by omega)]; rfl
  · rw [decide_eq_false (show ¬ cut[k] < (trims.length : Int) by omega)]; simp
theorem LoSt.step {trims : List (Int × Int)} {cut : List Int} {k f : Nat} {G : List (Int × Int)} (h : LoSt trims cut k f G) {m : Nat} (hx : cut[k]? = some (m : Int)) (h1 : f ≤ m) {q : Int × Int} (hq : trims[m]? = some q) : LoSt trims cut (k + 1) (m + 1) (G ++ [q]) := by
  obtain ⟨hk, he⟩ := List.getElem?_eq_some_iff.1 hx
  have hm := (List.getElem?_eq_some_iff.1 hq).1
  refine ⟨?_, ?_, ?_, by omega⟩
  · rw [h.c, List.drop_eq_getElem_cons hk, he]
    show (decide ((f : Int) ≤ (m : Int)) && decide ((m : Int) < (trims.length : Int)) && cutB trims.length ((m : Int).toNat + 1) (cut.drop (k + 1))) = _
    rw [Int.toNat_natCast, decide_eq_true (by omega), decide_eq_true (by omega)]; rfl
  · rw [h.g, List.drop_eq_getElem_cons hk, he]
    unfold goneI
    rw [List.filterMap_cons, Int.toNat_natCast, hq, List.append_assoc]; rfl
  · have := h.n; simp; omega
theorem LoSt.done {trims : List (Int × Int)} {cut : List Int} {k f : Nat} {G : List (Int × Int)} (h : LoSt trims cut k f G) (hk : cut.length ≤ k) : cutB trims.length 0 cut = true ∧ goneI trims cut = G := by
  rw [h.c, h.g, List.drop_of_length_le hk]
  exact ⟨rfl, List.append_nil _⟩
/-- What the loop knows of its world. -/
structure LoIn (w : World) (B : Nat) (G : List (Int × Int)) (v : Value) (wr : World) : Prop where
  own : wr.ownsRow B 53 2 v G.length (flat2 G)
  lo : w.heap.size ≤ B
  hi : B ≤ wr.heap.size
  b : Below w.heap.size w wr
theorem LoIn.push {w : World} {B : Nat} {G : List (Int × Int)} {v v' : Value} {wr w' : World} (h : LoIn w B G v wr) (q : Int × Int) (ho : w'.ownsRow B 53 2 v' (G.length + 1) (flat2 (G ++ [q]))) (hg : (wr.alloc (.cells #[.int .i64 q.1, .int .i64 q.2] 53)).grownBy w' v.ownBlock) : LoIn w B (G ++ [q]) v' w' := by
  have hz := hg.size
  rw [World.size_alloc] at hz
  have hlo := h.lo
  refine ⟨by rw [List.length_append]; exact ho, hlo, by have := h.hi; omega, (h.b.alloc h.b.size _).grown hg (by have := h.b.size; simp; omega) (fun r e => by have := own_ge h.own r e; omega)⟩
set_option maxRecDepth 100000 in
set_option maxHeartbeats 16000000 in
theorem leftOut_any (i : ItemP) (cut : List Int) (A1 A2 A3 : Option Addr) (n1 c1 n2 c2 n3 c3 : Nat) (w : World) (hr : ItAt i A1 n1 c1 A2 n2 c2 w.heap.size w) (h3 : Recs enc1 1 w w.heap.size (.slice A3 n3 c3) cut) :
    Calls Try.prog 52 #[.agg #[.int .i64 i.id, .int .i64 i.kind, .int .i64 i.len, .slice A1 n1 c1, .slice A2 n2 c2, .int .i64 i.artist, .int .i64 i.tempo, .int .i64 i.lang], .slice A3 n3 c3] w fun e w' => ∃ A n c, e = .returned (.tuple #[.slice A n c, .bool (leftV i cut).2]) ∧ Recs enc2 2 w' w'.heap.size (.slice A n c) (leftV i cut).1 ∧ Below w.heap.size w w' := by
  obtain ⟨l1, -⟩ := hr.lens
  have l3 := (recs_cap h3).1
  have hc3 := (recs_cap h3).2
  have HVA := Lib.hid (fun u (hu : Below w.heap.size w u) => valid_any i A1 A2 n1 c1 n2 c2 u (hr.next hu))
  have HR := Lib.hid hr
  have H3 := Lib.hid h3
  have HL := Lib.hid (And.intro l1 l3)
  have hn3 : n3 ≤ 9223372036854775807 := by omega
  have HBAD := Lib.hid (fun h => left_bad (i := i) (c := cut) h)
  have HOK := Lib.hid (fun h h2 => left_ok (i := i) (c := cut) h h2)
  obtain ⟨id, kind, len, trims, talks, artist, tempo, lang⟩ := i
  dsimp only at *
  cases hv : validI ⟨id, kind, len, trims, talks, artist, tempo, lang⟩ with
  | false =>
    rw [hv] at HVA
    have HB := Lib.hid (HBAD.out (by rw [hv]; rfl))
    rw [HB.out]
    clear hr h3 l1 l3 hc3 hv HOK HBAD
    go_enter Try.func52, Try.ntmps52
    go_wp2_with (first | (go_at_call 12; (with_reducible refine Calls.mono (HVA.out _ ((Below.refl _ w).alloc (Nat.le_refl _) _)) ?_); rintro r u1 ⟨rfl, hb⟩; have Bc := Lib.hid (below_to ((Below.refl _ w).alloc (Nat.le_refl _) _) hb); have sz := Bc.out.size; have RI := Lib.hid ((Row.new w 24 #[.int .i64 id, .int .i64 kind, .int .i64 len, .slice A1 n1 c1, .slice A2 n2 c2, .int .i64 artist, .int .i64 tempo, .int .i64 lang]).below hb (Row.new w 24 #[.int .i64 id, .int .i64 kind, .int .i64 len, .slice A1 n1 c1, .slice A2 n2 c2, .int .i64 artist, .int .i64 tempo, .int .i64 lang]).lt); have I_0 := RI.out.cell 0; have I_1 := RI.out.cell 1; have I_2 := RI.out.cell 2; have I_3 := RI.out.cell 3; have I_4 := RI.out.cell 4; have I_5 := RI.out.cell 5; have I_6 := RI.out.cell 6; have I_7 := RI.out.cell 7; have lI := RI.out.lt; have ROOM := Lib.hid (Nat.lt_of_lt_of_le (show w.heap.size < (w.alloc (.cells #[.int .i64 id, .int .i64 kind, .int .i64 len, .slice A1 n1 c1, .slice A2 n2 c2, .int .i64 artist, .int .i64 tempo, .int .i64 lang] 24)).heap.size by simp) hb.size); clear hb))
    refine bodyPost_ret (results_tmp2 rfl _ _ _) rfl ⟨none, 0, 0, rfl, recs_nil _ _ _ _, Bc.out⟩
  | true =>
    rw [hv] at HVA
    have HN4 := Lib.hid (((validI_iff _).1 hv).n1)
    have HBAD := Lib.hid (fun (h : cutB trims.length 0 cut = false) => HBAD.out (by rw [hv, h]; rfl))
    have HOK := Lib.hid (fun h => HOK.out hv h)
    clear hr h3 l1 l3 hc3 hv
    go_enter Try.func52, Try.ntmps52
    go_wp2_with (first | (go_at_call 12; (with_reducible refine Calls.mono (HVA.out _ ((Below.refl _ w).alloc (Nat.le_refl _) _)) ?_); rintro r u1 ⟨rfl, hb⟩; have Bc := Lib.hid (below_to ((Below.refl _ w).alloc (Nat.le_refl _) _) hb); have sz := Bc.out.size; have RI := Lib.hid ((Row.new w 24 #[.int .i64 id, .int .i64 kind, .int .i64 len, .slice A1 n1 c1, .slice A2 n2 c2, .int .i64 artist, .int .i64 tempo, .int .i64 lang]).below hb (Row.new w 24 #[.int .i64 id, .int .i64 kind, .int .i64 len, .slice A1 n1 c1, .slice A2 n2 c2, .int .i64 artist, .int .i64 tempo, .int .i64 lang]).lt); have I_0 := RI.out.cell 0; have I_1 := RI.out.cell 1; have I_2 := RI.out.cell 2; have I_3 := RI.out.cell 3; have I_4 := RI.out.cell 4; have I_5 := RI.out.cell 5; have I_6 := RI.out.cell 6; have I_7 := RI.out.cell 7; have lI := RI.out.lt; have ROOM := Lib.hid (Nat.lt_of_lt_of_le (show w.heap.size < (w.alloc (.cells #[.int .i64 id, .int .i64 kind, .int .i64 len, .slice A1 n1 c1, .slice A2 n2 c2, .int .i64 artist, .int .i64 tempo, .int .i64 lang] 24)).heap.size by simp) hb.size); clear hb))
    have HI0 := Lib.hid (show LoIn w u1.heap.size [] (.slice none 0 0) u1 from ⟨World.ownsRow_nil _ _ _ _, Bc.out.size, Nat.le_refl _, Bc.out⟩)
    have HS0 := Lib.hid (LoSt.start trims cut)
    go_loopw [6, 7, 15] (fun o f j wr => ∃ (k g : Nat) (G : List (Int × Int)), f = .int .i64 (g : Int) ∧ j = .int .i64 (k : Int) ∧ k ≤ n3 ∧ Hid (LoSt trims cut k g G) ∧ Hid (LoIn w u1.heap.size G o wr) ∧ Hid (Row wr w.heap.size 24 #[.int .i64 id, .int .i64 kind, .int .i64 len, .slice A1 n1 c1, .slice A2 n2 c2, .int .i64 artist, .int .i64 tempo, .int .i64 lang])) (fun _ _ j _ => n3 - (intOf j).toNat)
    case atStart => exact ⟨0, 0, [], rfl, rfl, Nat.zero_le _, HS0, HI0, RI⟩
    case round =>
      clear HS0 HI0 I_0 I_1 I_2 I_3 I_4 I_5 I_6 I_7 lI RI Bc sz
      obtain ⟨k, g, G, rfl, rfl, hk, HS, HI, RI⟩ := hrel
      have j1 : (0 : Int) ≤ (k : Int) := by omega
      have I_3 : wr.cell? ⟨w.heap.size, 3, none⟩ = some (.slice A1 n1 c1) := RI.out.cell 3
      have lI := RI.out.lt
      by_cases hlt : k < n3
      · have j2 : (k : Int) < (n3 : Int) := by omega
        have hkl : k < cut.length := by have := HL.out.2; omega
        obtain ⟨b3, o3, rfl, hb3, hcell⟩ := recs_at (H3.out.next HI.out.b) k hkl
        have a0 := cells1 hcell k hkl
        have HX := Lib.hid (List.getElem?_eq_getElem hkl)
        obtain ⟨x, hx⟩ : ∃ x, cut[k] = x := ⟨_, rfl⟩
        rw [hx] at a0 HX
        clear hcell hx
        by_cases hf : x < (g : Int)
        · have HB := Lib.hid (HBAD.out (HS.out.bad HX.out (.inl hf)))
          go_wp2
          refine bodyPost_ret (results_tmp2 rfl _ _ _) rfl ⟨none, 0, 0, by rw [HB.out]; rfl, by rw [HB.out]; exact recs_nil _ _ _ _, HI.out.b⟩
        · by_cases hn : (n1 : Int) ≤ x
          · have HB := Lib.hid (HBAD.out (HS.out.bad HX.out (.inr (by have := HL.out.1; omega))))
            go_wp2
            refine bodyPost_ret (results_tmp2 rfl _ _ _) rfl ⟨none, 0, 0, by rw [HB.out]; rfl, by rw [HB.out]; exact recs_nil _ _ _ _, HI.out.b⟩
          · obtain ⟨m, rfl⟩ : ∃ m : Nat, x = (m : Int) := ⟨x.toNat, by omega⟩
            have hml : m < trims.length := by have := HL.out.1; omega
            obtain ⟨b1, o1, rfl, hb1, hcell⟩ := recs_at (HR.out.next HI.out.b).t m hml
            obtain ⟨a1, a2⟩ := cells2 hcell m hml
            have HQ := Lib.hid (List.getElem?_eq_getElem hml)
            obtain ⟨q, hq⟩ : ∃ q, trims[m] = q := ⟨_, rfl⟩
            rw [hq] at a1 a2 HQ
            obtain ⟨q1, q2⟩ := q
            dsimp only at a1 a2
            have HST := Lib.hid (HS.out.step HX.out (by omega) HQ.out)
            have hG : G.length ≤ 100000 := by have h1 := HS.out.n; have h2 := HS.out.f; have h3 := HN4.out; omega
            obtain ⟨v', w2, hrun, hown, hgr⟩ : ∃ v' w', Sem.run Try.prog (appN #[22, 22] 22 #[_, .slice (some ⟨wr.heap.size, 0, none⟩) 1 1]) (wr.alloc (.cells #[.int .i64 q1, .int .i64 q2] 53)) = .ok v' w' ∧ w'.ownsRow u1.heap.size 53 2 v' (G.length + 1) (flat2 (G ++ [(q1, q2)])) ∧ (wr.alloc (.cells #[.int .i64 q1, .int .i64 q2] 53)).grownBy w' _ :=
              snoc_pairs [(q1, q2)] Try.underlying22 infoSpell HI.out.own hG (by show 1 ≤ 100000; omega) HI.out.hi
            have HI2 := Lib.hid (HI.out.push (q1, q2) hown hgr)
            have RI2 := Lib.hid (show Row w2 w.heap.size 24 _ from by
              have hlow := HI.out.lo
              have hz : w.heap.size < u1.heap.size := ROOM.out
              exact (hgr.block _ (RI.out.alloc _).lt (fun e => by have := own_ge HI.out.own _ e.symm; omega)).trans (RI.out.alloc _))
            have j3 : (0 : Int) ≤ (m : Int) := by omega
            have j4 : (m : Int) < (n1 : Int) := by omega
            have j5 : n1 ≤ 4 := by have h1 := HN4.out; have h2 := HL.out.1; omega
            clear hcell hq hown hgr hml hkl hG
            go_wp2
            go_roundw
            case rel => exact ⟨k + 1, m + 1, G ++ [(q1, q2)], by go_num, by go_num, by omega, HST, HI2, RI2⟩
            case measure => simp [intOf]; omega
      · have j2 : ¬ (k : Int) < (n3 : Int) := by omega
        obtain ⟨d1, d2⟩ := HS.out.done (by have := HL.out.2; omega)
        have HE := Lib.hid (HOK.out d1)
        have HG := Lib.hid d2
        obtain ⟨A, c, rfl, -⟩ := own_slice HI.out.own
        have HRC := Lib.hid (recs_of_own HI.out.own rfl)
        clear d1 d2
        go_wp2
        refine bodyPost_ret (results_tmp2 rfl _ _ _) rfl ⟨A, G.length, c, by rw [HE.out]; rfl, by rw [HE.out, HG.out]; exact HRC.out, HI.out.b⟩
end Go.Proofs.Ytnmhigjannihgaa
