/- The reference's within. The reference's Valid. The reference's IsCut and out. -/
import Derived.Test.YtnmhigjannihgaaLd
/- The reference's within. -/
namespace Go.Proofs.Ytnmhigjannihgaa
open Go.RowKit Go.Shelf

/-- Where the last part ends. -/
def parE (l : List (Int × Int)) : Int := l.foldl (fun _ q => q.2) 0
theorem parE_snoc (l : List (Int × Int)) (q : Int × Int) : parE (l ++ [q]) = q.2 := by unfold parE; rw [List.foldl_append]; rfl
theorem par_snd (len : Int) : ∀ (l : List (Int × Int)) (b : Bool) (e : Int), (l.foldl (parSt len) (b, e)).2 = l.foldl (fun _ q => q.2) e
  | [], _, _ => rfl
  | _ :: l, _, _ => par_snd len l _ _
theorem parB_snoc {len : Int} {l : List (Int × Int)} (h : parB len l = true) (q : Int × Int) : parB len (l ++ [q]) = (decide (parE l ≤ q.1) && decide (q.1 < q.2) && decide (q.2 ≤ len)) := by
  unfold parB at h ⊢
  rw [List.foldl_append]
  have e : l.foldl (parSt len) (true, 0) = (true, parE l) := Prod.ext h (par_snd len l true 0)
  rw [e]
  simp [parSt]
theorem parB_cut {len : Int} {l : List (Int × Int)} {k : Nat} (h : parB len (l.take k) = false) : parB len l = false := by
  unfold parB at h ⊢
  rw [← List.take_append_drop k l, List.foldl_append]
  have e : (l.take k).foldl (parSt len) (true, 0) = (false, ((l.take k).foldl (parSt len) (true, 0)).2) := Prod.ext h rfl
  rw [e]
  exact parSt_false len _ _
theorem parB_no {len : Int} {l : List (Int × Int)} {k : Nat} {q : Int × Int} (hq : l[k]? = some q) (h : parB len (l.take k) = true) (hn : (decide (parE (l.take k) ≤ q.1) && decide (q.1 < q.2) && decide (q.2 ≤ len)) = false) : parB len l = false := by
  refine parB_cut (k := k + 1) ?_
  rw [List.take_add_one, hq, Option.toList_some, parB_snoc h, hn]
theorem parB_yes {len : Int} {l : List (Int × Int)} {k : Nat} {q : Int × Int} (hq : l[k]? = some q) (h : parB len (l.take k) = true) (hn : (decide (parE (l.take k) ≤ q.1) && decide (q.1 < q.2) && decide (q.2 ≤ len)) = true) : parB len (l.take (k + 1)) = true ∧ parE (l.take (k + 1)) = q.2 := by
  rw [List.take_add_one, hq, Option.toList_some, parB_snoc h, hn, parE_snoc]
  exact ⟨rfl, rfl⟩
set_option maxRecDepth 100000 in
set_option maxHeartbeats 8000000 in
theorem rwithin_any (l : List (Int × Int)) (len : Int) (m : Nat) (A : Option Addr) (n c : Nat) (w : World) (hr : Recs enc2 2 w w.heap.size (.slice A n c) l) :
    Calls Try.prog 44 #[.slice A n c, .int .i64 len, .int .i64 (m : Int)] w fun e w' => e = .returned (.bool (decide (n ≤ m) && parB len l)) ∧ Below w.heap.size w w' := by
  obtain ⟨hn, hc1, hc2⟩ := recs_cap hr
  have HR := Lib.hid hr
  have HN := Lib.hid hn
  have hn9 : n ≤ 9223372036854775807 := by omega
  clear hr hn
  by_cases hm : n ≤ m
  · have i0 : ¬ (m : Int) < (n : Int) := by omega
    have HM := Lib.hid (decide_eq_true hm)
    clear hm
    go_enter Try.func44, Try.ntmps44
    go_wp2
    go_loopw [7] (fun j wr => ∃ k : Nat, j = .int .i64 (k : Int) ∧ k ≤ n ∧ Hid (parB len (l.take k) = true) ∧ Hid (0 ≤ parE (l.take k)) ∧ Hid (Below w.heap.size w wr)) (fun j _ => n - (intOf j).toNat)
    case atStart => exact ⟨0, rfl, Nat.zero_le _, Lib.hid rfl, Lib.hid (Int.le_refl _), Lib.hid (Below.refl _ _)⟩
    case round =>
      obtain ⟨k, rfl, hk, HF, HE0, HB⟩ := hrel
      by_cases hlt : k < n
      · have hka : k < l.length := by have := HN.out; omega
        obtain ⟨g, o, rfl, hg, hcell⟩ := recs_at (HR.out.below HB.out) k hka
        obtain ⟨a0, a1⟩ := cells2 hcell k hka
        have HQ := Lib.hid (List.getElem?_eq_getElem hka)
        obtain ⟨q, hq⟩ : ∃ q, l[k] = q := ⟨_, rfl⟩
        rw [hq] at a0 a1 HQ
        have lw := HB.out.size
        have g1 : g < wr.heap.size := by omega
        obtain ⟨E, hE⟩ : ∃ E, parE (l.take k) = E := ⟨_, rfl⟩
        have HNO := Lib.hid (parB_no HQ.out HF.out)
        have HYES := Lib.hid (parB_yes HQ.out HF.out)
        rw [hE] at HNO HYES HE0
        obtain ⟨q1, q2⟩ := q
        dsimp only at a0 a1 HNO HYES
        cases k with
        | zero =>
          have HE1 := Lib.hid (show E = 0 by rw [← hE]; rfl)
          have k1 : (0 : Int) < (n : Int) := by omega
          have b0 : wr.cell? ⟨g, o, none⟩ = some (.int .i64 q1) := by simpa using a0
          have b1 : wr.cell? ⟨g, o + 1, none⟩ = some (.int .i64 q2) := by simpa using a1
          clear hq hE hcell hka a0 a1
          by_cases h1 : q1 < 0
          · have f1 := decide_eq_true h1
            have HX := Lib.hid (HNO.out (by rw [decide_eq_false (show ¬ E ≤ q1 by have := HE0.out; omega)]; rfl))
            go_wp2
            go_quiet (fail)
            go_wp2
            go_ret
            exact ⟨by rw [HM.out, HX.out]; rfl, belowN HB.out _⟩
          have f1 : decide (q1 < 0) = false := decide_eq_false h1
          by_cases h2 : q2 ≤ q1
          · have f2 := decide_eq_true h2
            have HX := Lib.hid (HNO.out (by rw [decide_eq_false (show ¬ q1 < q2 by omega)]; simp))
            go_wp2
            go_quiet (fail)
            go_wp2
            go_ret
            exact ⟨by rw [HM.out, HX.out]; rfl, belowN HB.out _⟩
          have f2 : decide (q2 ≤ q1) = false := decide_eq_false h2
          by_cases h3 : len < q2
          · have f3 := decide_eq_true h3
            have HX := Lib.hid (HNO.out (by rw [decide_eq_false (show ¬ q2 ≤ len by omega)]; simp))
            go_wp2
            go_quiet (fail)
            go_wp2
            go_ret
            exact ⟨by rw [HM.out, HX.out]; rfl, belowN HB.out _⟩
          have f3 : decide (len < q2) = false := decide_eq_false h3
          have HX := Lib.hid (HYES.out (by rw [decide_eq_true (show E ≤ q1 by have := HE1.out; omega), decide_eq_true (show q1 < q2 by omega), decide_eq_true (show q2 ≤ len by omega)]; rfl))
          have q_0 : 0 ≤ q2 := by omega
          go_wp2
          go_quiet (fail)
          go_wp2
          go_roundw
          case rel => exact ⟨1, by go_num, by omega, Lib.hid HX.out.1, Lib.hid (by rw [HX.out.2]; exact q_0), Lib.hid (belowN HB.out _)⟩
          case measure => simp [intOf]; omega
        | succ j =>
          have hj : j < l.length := by omega
          obtain ⟨b0, b1⟩ := cells2 hcell j hj
          have HE1 := Lib.hid (show E = (l[j]).2 by rw [← hE, List.take_add_one, List.getElem?_eq_getElem hj, Option.toList_some, parE_snoc])
          obtain ⟨p, hp⟩ : ∃ p, l[j] = p := ⟨_, rfl⟩
          rw [hp] at b0 b1 HE1
          obtain ⟨p1, p2⟩ := p
          dsimp only at b0 b1 HE1
          have j_0 : (0 : Int) ≤ (j : Int) := by omega
          have j_1 : (j : Int) + 1 ≤ 9223372036854775807 := by omega
          have j_2 : (j : Int) + 1 < (n : Int) := by omega
          have j_3 : j < n := by omega
          have j_4 : j + 1 < n := by omega
          clear hp hq hE hcell hka hj
          by_cases h1 : q1 < 0
          · have f1 := decide_eq_true h1
            have HX := Lib.hid (HNO.out (by rw [decide_eq_false (show ¬ E ≤ q1 by have := HE0.out; omega)]; rfl))
            go_wp2
            go_quiet (fail)
            go_wp2
            go_ret
            exact ⟨by rw [HM.out, HX.out]; rfl, belowN HB.out _⟩
          have f1 : decide (q1 < 0) = false := decide_eq_false h1
          by_cases h2 : q2 ≤ q1
          · have f2 := decide_eq_true h2
            have HX := Lib.hid (HNO.out (by rw [decide_eq_false (show ¬ q1 < q2 by omega)]; simp))
            go_wp2
            go_quiet (fail)
            go_wp2
            go_ret
            exact ⟨by rw [HM.out, HX.out]; rfl, belowN HB.out _⟩
          have f2 : decide (q2 ≤ q1) = false := decide_eq_false h2
          by_cases h3 : len < q2
          · have f3 := decide_eq_true h3
            have HX := Lib.hid (HNO.out (by rw [decide_eq_false (show ¬ q2 ≤ len by omega)]; simp))
            go_wp2
            go_quiet (fail)
            go_wp2
            go_ret
            exact ⟨by rw [HM.out, HX.out]; rfl, belowN HB.out _⟩
          have f3 : decide (len < q2) = false := decide_eq_false h3
          have f4 : decide ((0 : Int) < (j : Int) + 1) = true := decide_eq_true (by omega)
          by_cases h4 : q1 < p2
          · have f5 := decide_eq_true h4
            have HX := Lib.hid (HNO.out (by rw [decide_eq_false (show ¬ E ≤ q1 by have := HE1.out; omega)]; rfl))
            go_wp2
            go_quiet (fail)
            go_wp2
            go_ret
            exact ⟨by rw [HM.out, HX.out]; rfl, belowN HB.out _⟩
          have f5 : decide (q1 < p2) = false := decide_eq_false h4
          have HX := Lib.hid (HYES.out (by rw [decide_eq_true (show E ≤ q1 by have := HE1.out; omega), decide_eq_true (show q1 < q2 by omega), decide_eq_true (show q2 ≤ len by omega)]; rfl))
          have q_0 : 0 ≤ q2 := by omega
          go_wp2
          go_quiet (fail)
          go_wp2
          go_roundw
          case rel => exact ⟨j + 1 + 1, by go_num, by omega, Lib.hid HX.out.1, Lib.hid (by rw [HX.out.2]; exact q_0), Lib.hid (belowN HB.out _)⟩
          case measure => simp [intOf]; omega
      · have k1 : ¬ (k : Int) < (n : Int) := by omega
        have HE := Lib.hid (show parB len l = true by have := HF.out; rwa [List.take_of_length_le (by have := HN.out; omega)] at this)
        go_wp2
        go_ret
        exact ⟨by rw [HM.out, HE.out]; rfl, HB.out⟩
  · have i0 : (m : Int) < (n : Int) := by omega
    have HM := Lib.hid (decide_eq_false hm)
    go_enter Try.func44, Try.ntmps44
    go_wp2
    go_ret
    exact ⟨by rw [HM.out]; rfl, Below.refl _ _⟩
end Go.Proofs.Ytnmhigjannihgaa

/- The reference's Valid. -/
namespace Go.Proofs.Ytnmhigjannihgaa
open Go.RowKit Go.Shelf

theorem inv {i : ItemP} (h : OkItem i → False) : validI i = false := by
  cases hv : validI i with
  | false => rfl
  | true => exact (h ((validI_iff i).1 hv)).elim
theorem totT {len : Int} : ∀ {l : List (Int × Int)} {e : Int}, partsF len e l → e ≤ len → ∀ k : Nat, 0 ≤ tot (l.take k) ∧ tot (l.take k) ≤ len - e
  | [], e, _, he, k => by rw [List.take_nil]; exact ⟨Int.le_refl _, by show (0 : Int) ≤ _; omega⟩
  | q :: l, e, _, he, 0 => ⟨Int.le_refl _, by show (0 : Int) ≤ _; omega⟩
  | q :: l, e, h, he, k + 1 => by
    have := totT h.2.2.2 h.2.2.1 k
    have h1 := h.1; have h2 := h.2.1
    show 0 ≤ (q.2 - q.1) + tot (l.take k) ∧ (q.2 - q.1) + tot (l.take k) ≤ _
    omega
theorem tot_app : ∀ (l : List (Int × Int)) (q : Int × Int), tot (l ++ [q]) = tot l + (q.2 - q.1)
  | [], q => by show (q.2 - q.1) + 0 = 0 + (q.2 - q.1); omega
  | p :: l, q => by
    show (p.2 - p.1) + tot (l ++ [q]) = (p.2 - p.1) + tot l + (q.2 - q.1)
    rw [tot_app l q]; omega
theorem tot_sn {l : List (Int × Int)} {k : Nat} {q : Int × Int} (h : l[k]? = some q) : tot (l.take (k + 1)) = tot (l.take k) + (q.2 - q.1) := by
  rw [List.take_add_one, h, Option.toList_some, tot_app]
set_option maxRecDepth 100000 in
set_option maxHeartbeats 8000000 in
theorem rvalid_any (i : ItemP) (A1 A2 : Option Addr) (n1 c1 n2 c2 : Nat) (w : World) (hr : ItAt i A1 n1 c1 A2 n2 c2 w.heap.size w) :
    Calls Try.prog 13 #[.agg #[.int .i64 i.id, .int .i64 i.kind, .int .i64 i.len, .slice A1 n1 c1, .slice A2 n2 c2, .int .i64 i.artist, .int .i64 i.tempo, .int .i64 i.lang]] w fun e w' => e = .returned (.bool (validI i)) ∧ Below w.heap.size w w' := by
  have HN1 := Lib.hid hr.lens.1
  have HN2 := Lib.hid hr.lens.2
  have HW1 := Lib.hid (fun u (hu : Below w.heap.size w u) => rwithin_any i.trims i.len 4 A1 n1 c1 u (hr.next hu).t)
  have HW2 := Lib.hid (fun u (hu : Below w.heap.size w u) => rwithin_any i.talks i.len 4 A2 n2 c2 u (hr.next hu).k)
  have HIT := Lib.hid hr.t
  have hc9 := (recs_cap hr.t).2
  clear hr
  obtain ⟨id, kind, len, trims, talks, artist, tempo, lang⟩ := i
  dsimp only at *
  by_cases h0 : id < 0
  · have f0 := decide_eq_true h0
    have hv := inv (i := (⟨id, kind, len, trims, talks, artist, tempo, lang⟩ : ItemP)) fun h => by have := h.id; dsimp only at this; omega
    have HV := Lib.hid hv
    clear HW1 HW2 HIT hv
    go_enter Try.func13, Try.ntmps13
    go_wp2_with fail
    go_ret
    exact ⟨by rw [HV.out]; rfl, ((Below.refl _ w).alloc (Nat.le_refl _) (.cells #[.int .i64 id, .int .i64 kind, .int .i64 len, .slice A1 n1 c1, .slice A2 n2 c2, .int .i64 artist, .int .i64 tempo, .int .i64 lang] 24))⟩
  have f0 : decide (id < 0) = false := decide_eq_false h0
  by_cases h1 : 200 ≤ id
  · have f1 := decide_eq_true h1
    have hv := inv (i := (⟨id, kind, len, trims, talks, artist, tempo, lang⟩ : ItemP)) fun h => by have := h.id; dsimp only at this; omega
    have HV := Lib.hid hv
    clear HW1 HW2 HIT hv
    go_enter Try.func13, Try.ntmps13
    go_wp2_with fail
    go_ret
    exact ⟨by rw [HV.out]; rfl, ((Below.refl _ w).alloc (Nat.le_refl _) (.cells #[.int .i64 id, .int .i64 kind, .int .i64 len, .slice A1 n1 c1, .slice A2 n2 c2, .int .i64 artist, .int .i64 tempo, .int .i64 lang] 24))⟩
  have f1 : decide (200 ≤ id) = false := decide_eq_false h1
  by_cases h2 : kind < 1
  · have f2 := decide_eq_true h2
    have hv := inv (i := (⟨id, kind, len, trims, talks, artist, tempo, lang⟩ : ItemP)) fun h => by have := h.kind; dsimp only at this; omega
    have HV := Lib.hid hv
    clear HW1 HW2 HIT hv
    go_enter Try.func13, Try.ntmps13
    go_wp2_with fail
    go_ret
    exact ⟨by rw [HV.out]; rfl, ((Below.refl _ w).alloc (Nat.le_refl _) (.cells #[.int .i64 id, .int .i64 kind, .int .i64 len, .slice A1 n1 c1, .slice A2 n2 c2, .int .i64 artist, .int .i64 tempo, .int .i64 lang] 24))⟩
  have f2 : decide (kind < 1) = false := decide_eq_false h2
  by_cases h3 : 5 < kind
  · have f3 := decide_eq_true h3
    have hv := inv (i := (⟨id, kind, len, trims, talks, artist, tempo, lang⟩ : ItemP)) fun h => by have := h.kind; dsimp only at this; omega
    have HV := Lib.hid hv
    clear HW1 HW2 HIT hv
    go_enter Try.func13, Try.ntmps13
    go_wp2_with fail
    go_ret
    exact ⟨by rw [HV.out]; rfl, ((Below.refl _ w).alloc (Nat.le_refl _) (.cells #[.int .i64 id, .int .i64 kind, .int .i64 len, .slice A1 n1 c1, .slice A2 n2 c2, .int .i64 artist, .int .i64 tempo, .int .i64 lang] 24))⟩
  have f3 : decide (5 < kind) = false := decide_eq_false h3
  by_cases h4 : len < 1
  · have f4 := decide_eq_true h4
    have hv := inv (i := (⟨id, kind, len, trims, talks, artist, tempo, lang⟩ : ItemP)) fun h => by have := h.len; dsimp only at this; omega
    have HV := Lib.hid hv
    clear HW1 HW2 HIT hv
    go_enter Try.func13, Try.ntmps13
    go_wp2_with fail
    go_ret
    exact ⟨by rw [HV.out]; rfl, ((Below.refl _ w).alloc (Nat.le_refl _) (.cells #[.int .i64 id, .int .i64 kind, .int .i64 len, .slice A1 n1 c1, .slice A2 n2 c2, .int .i64 artist, .int .i64 tempo, .int .i64 lang] 24))⟩
  have f4 : decide (len < 1) = false := decide_eq_false h4
  by_cases h5 : 3600 < len
  · have f5 := decide_eq_true h5
    have hv := inv (i := (⟨id, kind, len, trims, talks, artist, tempo, lang⟩ : ItemP)) fun h => by have := h.len; dsimp only at this; omega
    have HV := Lib.hid hv
    clear HW1 HW2 HIT hv
    go_enter Try.func13, Try.ntmps13
    go_wp2_with fail
    go_ret
    exact ⟨by rw [HV.out]; rfl, ((Below.refl _ w).alloc (Nat.le_refl _) (.cells #[.int .i64 id, .int .i64 kind, .int .i64 len, .slice A1 n1 c1, .slice A2 n2 c2, .int .i64 artist, .int .i64 tempo, .int .i64 lang] 24))⟩
  have f5 : decide (3600 < len) = false := decide_eq_false h5
  have HL := Lib.hid (show 1 ≤ len ∧ len ≤ 3600 by omega)
  obtain ⟨b1, hb1⟩ : ∃ b, (decide (n1 ≤ 4) && parB len trims) = b := ⟨_, rfl⟩
  obtain ⟨b2, hb2⟩ : ∃ b, (decide (n2 ≤ 4) && parB len talks) = b := ⟨_, rfl⟩
  rw [hb1] at HW1
  rw [hb2] at HW2
  have RI := Lib.hid (Row.new w 24 #[.int .i64 id, .int .i64 kind, .int .i64 len, .slice A1 n1 c1, .slice A2 n2 c2, .int .i64 artist, .int .i64 tempo, .int .i64 lang])
  have HB0 := Lib.hid ((Below.refl _ w).alloc (Nat.le_refl _) (.cells #[.int .i64 id, .int .i64 kind, .int .i64 len, .slice A1 n1 c1, .slice A2 n2 c2, .int .i64 artist, .int .i64 tempo, .int .i64 lang] 24))
  cases b1 with
  | false =>
    have hv := inv (i := (⟨id, kind, len, trims, talks, artist, tempo, lang⟩ : ItemP)) fun h => by
      have x1 := h.n1; have x2 := h.p1
      dsimp only at x1 x2
      rw [decide_eq_true (by rw [HN1.out]; exact x1), (parB_iff _ _).2 x2] at hb1
      exact absurd hb1 (by decide)
    have HV := Lib.hid hv
    clear hv hb1 hb2 HIT
    have r0 : (w.alloc (.cells #[.int .i64 id, .int .i64 kind, .int .i64 len, .slice A1 n1 c1, .slice A2 n2 c2, .int .i64 artist, .int .i64 tempo, .int .i64 lang] 24)).cell? ⟨w.heap.size, 0, none⟩ = some (.int .i64 id) := RI.out.cell 0
    have r1 : (w.alloc (.cells #[.int .i64 id, .int .i64 kind, .int .i64 len, .slice A1 n1 c1, .slice A2 n2 c2, .int .i64 artist, .int .i64 tempo, .int .i64 lang] 24)).cell? ⟨w.heap.size, 1, none⟩ = some (.int .i64 kind) := RI.out.cell 1
    have r2 : (w.alloc (.cells #[.int .i64 id, .int .i64 kind, .int .i64 len, .slice A1 n1 c1, .slice A2 n2 c2, .int .i64 artist, .int .i64 tempo, .int .i64 lang] 24)).cell? ⟨w.heap.size, 2, none⟩ = some (.int .i64 len) := RI.out.cell 2
    have r3 : (w.alloc (.cells #[.int .i64 id, .int .i64 kind, .int .i64 len, .slice A1 n1 c1, .slice A2 n2 c2, .int .i64 artist, .int .i64 tempo, .int .i64 lang] 24)).cell? ⟨w.heap.size, 3, none⟩ = some (.slice A1 n1 c1) := RI.out.cell 3
    have r4 : (w.alloc (.cells #[.int .i64 id, .int .i64 kind, .int .i64 len, .slice A1 n1 c1, .slice A2 n2 c2, .int .i64 artist, .int .i64 tempo, .int .i64 lang] 24)).cell? ⟨w.heap.size, 4, none⟩ = some (.slice A2 n2 c2) := RI.out.cell 4
    have r5 : (w.alloc (.cells #[.int .i64 id, .int .i64 kind, .int .i64 len, .slice A1 n1 c1, .slice A2 n2 c2, .int .i64 artist, .int .i64 tempo, .int .i64 lang] 24)).cell? ⟨w.heap.size, 5, none⟩ = some (.int .i64 artist) := RI.out.cell 5
    have r6 : (w.alloc (.cells #[.int .i64 id, .int .i64 kind, .int .i64 len, .slice A1 n1 c1, .slice A2 n2 c2, .int .i64 artist, .int .i64 tempo, .int .i64 lang] 24)).cell? ⟨w.heap.size, 6, none⟩ = some (.int .i64 tempo) := RI.out.cell 6
    have r7 : (w.alloc (.cells #[.int .i64 id, .int .i64 kind, .int .i64 len, .slice A1 n1 c1, .slice A2 n2 c2, .int .i64 artist, .int .i64 tempo, .int .i64 lang] 24)).cell? ⟨w.heap.size, 7, none⟩ = some (.int .i64 lang) := RI.out.cell 7
    have lr := RI.out.lt
    go_enter Try.func13, Try.ntmps13
    go_wp2_with (first | (go_at_call 44; (with_reducible refine Calls.mono (HW1.out _ HB0.out) ?_); rintro r u1 ⟨rfl, hb⟩; have HB1 := Lib.hid (below_to HB0.out hb); have RI := Lib.hid (RI.out.below hb RI.out.lt); clear r0 r1 r2 r3 r4 r5 r6 r7 lr; have r0 := RI.out.cell 0; have r1 := RI.out.cell 1; have r2 := RI.out.cell 2; have r3 := RI.out.cell 3; have r4 := RI.out.cell 4; have r5 := RI.out.cell 5; have r6 := RI.out.cell 6; have r7 := RI.out.cell 7; have lr := RI.out.lt; clear hb))
    go_ret
    exact ⟨by rw [HV.out]; rfl, HB1.out⟩
  | true =>
    rw [Bool.and_eq_true, decide_eq_true_eq] at hb1
    obtain ⟨hn1, hp1⟩ := hb1
    cases b2 with
    | false =>
      have hv := inv (i := (⟨id, kind, len, trims, talks, artist, tempo, lang⟩ : ItemP)) fun h => by
        have x1 := h.n2; have x2 := h.p2
        dsimp only at x1 x2
        rw [decide_eq_true (by rw [HN2.out]; exact x1), (parB_iff _ _).2 x2] at hb2
        exact absurd hb2 (by decide)
      have HV := Lib.hid hv
      clear hv hn1 hp1 hb2 HIT
      have r0 : (w.alloc (.cells #[.int .i64 id, .int .i64 kind, .int .i64 len, .slice A1 n1 c1, .slice A2 n2 c2, .int .i64 artist, .int .i64 tempo, .int .i64 lang] 24)).cell? ⟨w.heap.size, 0, none⟩ = some (.int .i64 id) := RI.out.cell 0
      have r1 : (w.alloc (.cells #[.int .i64 id, .int .i64 kind, .int .i64 len, .slice A1 n1 c1, .slice A2 n2 c2, .int .i64 artist, .int .i64 tempo, .int .i64 lang] 24)).cell? ⟨w.heap.size, 1, none⟩ = some (.int .i64 kind) := RI.out.cell 1
      have r2 : (w.alloc (.cells #[.int .i64 id, .int .i64 kind, .int .i64 len, .slice A1 n1 c1, .slice A2 n2 c2, .int .i64 artist, .int .i64 tempo, .int .i64 lang] 24)).cell? ⟨w.heap.size, 2, none⟩ = some (.int .i64 len) := RI.out.cell 2
      have r3 : (w.alloc (.cells #[.int .i64 id, .int .i64 kind, .int .i64 len, .slice A1 n1 c1, .slice A2 n2 c2, .int .i64 artist, .int .i64 tempo, .int .i64 lang] 24)).cell? ⟨w.heap.size, 3, none⟩ = some (.slice A1 n1 c1) := RI.out.cell 3
      have r4 : (w.alloc (.cells #[.int .i64 id, .int .i64 kind, .int .i64 len, .slice A1 n1 c1, .slice A2 n2 c2, .int .i64 artist, .int .i64 tempo, .int .i64 lang] 24)).cell? ⟨w.heap.size, 4, none⟩ = some (.slice A2 n2 c2) := RI.out.cell 4
      have r5 : (w.alloc (.cells #[.int .i64 id, .int .i64 kind, .int .i64 len, .slice A1 n1 c1, .slice A2 n2 c2, .int .i64 artist, .int .i64 tempo, .int .i64 lang] 24)).cell? ⟨w.heap.size, 5, none⟩ = some (.int .i64 artist) := RI.out.cell 5
      have r6 : (w.alloc (.cells #[.int .i64 id, .int .i64 kind, .int .i64 len, .slice A1 n1 c1, .slice A2 n2 c2, .int .i64 artist, .int .i64 tempo, .int .i64 lang] 24)).cell? ⟨w.heap.size, 6, none⟩ = some (.int .i64 tempo) := RI.out.cell 6
      have r7 : (w.alloc (.cells #[.int .i64 id, .int .i64 kind, .int .i64 len, .slice A1 n1 c1, .slice A2 n2 c2, .int .i64 artist, .int .i64 tempo, .int .i64 lang] 24)).cell? ⟨w.heap.size, 7, none⟩ = some (.int .i64 lang) := RI.out.cell 7
      have lr := RI.out.lt
      go_enter Try.func13, Try.ntmps13
      go_wp2_with (first | (go_at_call 44; (with_reducible refine Calls.mono (HW1.out _ HB0.out) ?_); rintro r u1 ⟨rfl, hb⟩; have HB1 := Lib.hid (below_to HB0.out hb); have RI := Lib.hid (RI.out.below hb RI.out.lt); clear r0 r1 r2 r3 r4 r5 r6 r7 lr; have r0 := RI.out.cell 0; have r1 := RI.out.cell 1; have r2 := RI.out.cell 2; have r3 := RI.out.cell 3; have r4 := RI.out.cell 4; have r5 := RI.out.cell 5; have r6 := RI.out.cell 6; have r7 := RI.out.cell 7; have lr := RI.out.lt; clear hb) | (go_at_call 44; (with_reducible refine Calls.mono (HW2.out _ HB1.out) ?_); rintro r u2 ⟨rfl, hb⟩; have HB2 := Lib.hid (below_to HB1.out hb); have RI := Lib.hid (RI.out.below hb RI.out.lt); clear r0 r1 r2 r3 r4 r5 r6 r7 lr; have r0 := RI.out.cell 0; have r1 := RI.out.cell 1; have r2 := RI.out.cell 2; have r3 := RI.out.cell 3; have r4 := RI.out.cell 4; have r5 := RI.out.cell 5; have r6 := RI.out.cell 6; have r7 := RI.out.cell 7; have lr := RI.out.lt; clear hb))
      go_ret
      exact ⟨by rw [HV.out]; rfl, HB2.out⟩
    | true =>
      rw [Bool.and_eq_true, decide_eq_true_eq] at hb2
      obtain ⟨hn2, hp2⟩ := hb2
      have HP := Lib.hid ((parB_iff _ _).1 hp1)
      have HV := Lib.hid (show validI (⟨id, kind, len, trims, talks, artist, tempo, lang⟩ : ItemP) = (decide (0 < bef len trims) && descB (⟨id, kind, len, trims, talks, artist, tempo, lang⟩ : ItemP)) by
        unfold validI
        dsimp only
        rw [decide_eq_true (show 0 ≤ id by omega), decide_eq_true (show id < 200 by omega), decide_eq_true (show 1 ≤ kind by omega), decide_eq_true (show kind ≤ 5 by omega), decide_eq_true (show 1 ≤ len by omega), decide_eq_true (show len ≤ 3600 by omega), ← HN1.out, ← HN2.out, decide_eq_true hn1, decide_eq_true hn2, hp1, hp2]
        rfl)
      rw [bef_len HP.out] at HV
      have HDE : Hid (descB (⟨id, kind, len, trims, talks, artist, tempo, lang⟩ : ItemP) = if kind = 1 then decide (0 ≤ artist) && decide (artist ≤ 99) && decide (1 ≤ tempo) && decide (tempo ≤ 5) && decide (1 ≤ lang) && decide (lang ≤ 4) else decide (artist = 0) && decide (tempo = 0) && decide (lang = 0)) := Lib.hid rfl
      have hn9 : n1 ≤ 9223372036854775807 := by omega
      clear hp1 hp2
      have r0 : (w.alloc (.cells #[.int .i64 id, .int .i64 kind, .int .i64 len, .slice A1 n1 c1, .slice A2 n2 c2, .int .i64 artist, .int .i64 tempo, .int .i64 lang] 24)).cell? ⟨w.heap.size, 0, none⟩ = some (.int .i64 id) := RI.out.cell 0
      have r1 : (w.alloc (.cells #[.int .i64 id, .int .i64 kind, .int .i64 len, .slice A1 n1 c1, .slice A2 n2 c2, .int .i64 artist, .int .i64 tempo, .int .i64 lang] 24)).cell? ⟨w.heap.size, 1, none⟩ = some (.int .i64 kind) := RI.out.cell 1
      have r2 : (w.alloc (.cells #[.int .i64 id, .int .i64 kind, .int .i64 len, .slice A1 n1 c1, .slice A2 n2 c2, .int .i64 artist, .int .i64 tempo, .int .i64 lang] 24)).cell? ⟨w.heap.size, 2, none⟩ = some (.int .i64 len) := RI.out.cell 2
      have r3 : (w.alloc (.cells #[.int .i64 id, .int .i64 kind, .int .i64 len, .slice A1 n1 c1, .slice A2 n2 c2, .int .i64 artist, .int .i64 tempo, .int .i64 lang] 24)).cell? ⟨w.heap.size, 3, none⟩ = some (.slice A1 n1 c1) := RI.out.cell 3
      have r4 : (w.alloc (.cells #[.int .i64 id, .int .i64 kind, .int .i64 len, .slice A1 n1 c1, .slice A2 n2 c2, .int .i64 artist, .int .i64 tempo, .int .i64 lang] 24)).cell? ⟨w.heap.size, 4, none⟩ = some (.slice A2 n2 c2) := RI.out.cell 4
      have r5 : (w.alloc (.cells #[.int .i64 id, .int .i64 kind, .int .i64 len, .slice A1 n1 c1, .slice A2 n2 c2, .int .i64 artist, .int .i64 tempo, .int .i64 lang] 24)).cell? ⟨w.heap.size, 5, none⟩ = some (.int .i64 artist) := RI.out.cell 5
      have r6 : (w.alloc (.cells #[.int .i64 id, .int .i64 kind, .int .i64 len, .slice A1 n1 c1, .slice A2 n2 c2, .int .i64 artist, .int .i64 tempo, .int .i64 lang] 24)).cell? ⟨w.heap.size, 6, none⟩ = some (.int .i64 tempo) := RI.out.cell 6
      have r7 : (w.alloc (.cells #[.int .i64 id, .int .i64 kind, .int .i64 len, .slice A1 n1 c1, .slice A2 n2 c2, .int .i64 artist, .int .i64 tempo, .int .i64 lang] 24)).cell? ⟨w.heap.size, 7, none⟩ = some (.int .i64 lang) := RI.out.cell 7
      have lr := RI.out.lt
      go_enter Try.func13, Try.ntmps13
      go_wp2_with (first | (go_at_call 44; (with_reducible refine Calls.mono (HW1.out _ HB0.out) ?_); rintro r u1 ⟨rfl, hb⟩; have HB1 := Lib.hid (below_to HB0.out hb); have RI := Lib.hid (RI.out.below hb RI.out.lt); clear r0 r1 r2 r3 r4 r5 r6 r7 lr; have r0 := RI.out.cell 0; have r1 := RI.out.cell 1; have r2 := RI.out.cell 2; have r3 := RI.out.cell 3; have r4 := RI.out.cell 4; have r5 := RI.out.cell 5; have r6 := RI.out.cell 6; have r7 := RI.out.cell 7; have lr := RI.out.lt; clear hb) | (go_at_call 44; (with_reducible refine Calls.mono (HW2.out _ HB1.out) ?_); rintro r u2 ⟨rfl, hb⟩; have HB2 := Lib.hid (below_to HB1.out hb); have RI := Lib.hid (RI.out.below hb RI.out.lt); clear r0 r1 r2 r3 r4 r5 r6 r7 lr; have r0 := RI.out.cell 0; have r1 := RI.out.cell 1; have r2 := RI.out.cell 2; have r3 := RI.out.cell 3; have r4 := RI.out.cell 4; have r5 := RI.out.cell 5; have r6 := RI.out.cell 6; have r7 := RI.out.cell 7; have lr := RI.out.lt; clear hb))
      go_loopw [3, 4] (fun t j wr => ∃ k : Nat, j = .int .i64 (k : Int) ∧ k ≤ n1 ∧ t = .int .i64 (tot (trims.take k)) ∧ Hid (Row wr w.heap.size 24 #[.int .i64 id, .int .i64 kind, .int .i64 len, .slice A1 n1 c1, .slice A2 n2 c2, .int .i64 artist, .int .i64 tempo, .int .i64 lang]) ∧ Hid (Below w.heap.size w wr)) (fun _ j _ => n1 - (intOf j).toNat)
      case atStart => exact ⟨0, rfl, Nat.zero_le _, rfl, RI, HB2⟩
      case round =>
        clear RI r0 r1 r2 r3 r4 r5 r6 r7 lr HW1 HW2
        obtain ⟨k, rfl, hk, rfl, RI, HB⟩ := hrel
        have ht := totT HP.out (show (0 : Int) ≤ len by have := HL.out; omega) k
        obtain ⟨S, hS⟩ : ∃ S, tot (trims.take k) = S := ⟨_, rfl⟩
        rw [hS] at ht ⊢
        have s_0 : 0 ≤ S := ht.1
        have s_1 : S ≤ 3600 := by have := HL.out; omega
        clear ht
        have r0 : wr.cell? ⟨w.heap.size, 0, none⟩ = some (.int .i64 id) := RI.out.cell 0
        have r1 : wr.cell? ⟨w.heap.size, 1, none⟩ = some (.int .i64 kind) := RI.out.cell 1
        have r2 : wr.cell? ⟨w.heap.size, 2, none⟩ = some (.int .i64 len) := RI.out.cell 2
        have r3 : wr.cell? ⟨w.heap.size, 3, none⟩ = some (.slice A1 n1 c1) := RI.out.cell 3
        have r4 : wr.cell? ⟨w.heap.size, 4, none⟩ = some (.slice A2 n2 c2) := RI.out.cell 4
        have r5 : wr.cell? ⟨w.heap.size, 5, none⟩ = some (.int .i64 artist) := RI.out.cell 5
        have r6 : wr.cell? ⟨w.heap.size, 6, none⟩ = some (.int .i64 tempo) := RI.out.cell 6
        have r7 : wr.cell? ⟨w.heap.size, 7, none⟩ = some (.int .i64 lang) := RI.out.cell 7
        have lr := RI.out.lt
        have k_0 : (0 : Int) ≤ (k : Int) := by omega
        by_cases hlt : k < n1
        · have k_1 : (k : Int) < (n1 : Int) := by omega
          have hka : k < trims.length := by have := HN1.out; omega
          obtain ⟨g, o, rfl, hg, hcell⟩ := recs_at (HIT.out.below HB) k hka
          obtain ⟨a0, a1⟩ := cells2 hcell k hka
          have hq3 := part_at HP.out (List.getElem?_eq_getElem hka)
          have HTS := Lib.hid (tot_sn (List.getElem?_eq_getElem hka))
          obtain ⟨q, hq⟩ : ∃ q, trims[k] = q := ⟨_, rfl⟩
          rw [hq] at a0 a1 hq3 HTS
          rw [hS] at HTS
          obtain ⟨q1, q2⟩ := q
          dsimp only at a0 a1 hq3 HTS
          have q_0 : 0 ≤ q1 := hq3.1
          have q_1 : q1 < q2 := hq3.2.1
          have q_2 : q2 ≤ 3600 := by have := hq3.2.2.1; have := HL.out; omega
          have lw := HB.out.size
          have g1 : g < wr.heap.size := by omega
          clear hcell hq hka hq3 hS
          go_wp2
          go_quiet (fail)
          go_wp2
          go_roundw
          case rel => exact ⟨k + 1, by go_num, by omega, by rw [HTS.out]; congr 1; omega, Lib.hid (RI.out.below (belowN (Below.refl _ _) _) RI.out.lt), Lib.hid (belowN HB.out _)⟩
          case measure => simp [intOf]; omega
        · have HST := Lib.hid (show tot trims = S by rw [← hS, List.take_of_length_le (by have := HN1.out; omega)])
          have k_1 : ¬ (k : Int) < (n1 : Int) := by omega
          clear hS hlt hk
          rw [HST.out] at HV
          by_cases g1 : len ≤ S
          · have g2 := decide_eq_true g1
            have HV2 := Lib.hid (HV.out.trans (show _ = false by rw [decide_eq_false (show ¬ 0 < len - S by omega)]; rfl))
            go_wp2_with fail
            go_ret
            exact ⟨by rw [HV2.out]; rfl, HB.out⟩
          · have g2 : decide (len ≤ S) = false := decide_eq_false g1
            have HV2 := Lib.hid (HV.out.trans (show _ = descB (⟨id, kind, len, trims, talks, artist, tempo, lang⟩ : ItemP) by rw [decide_eq_true (show 0 < len - S by omega), Bool.true_and]))
            rw [HDE.out] at HV2
            by_cases hk1 : kind = 1
            · rw [if_pos hk1] at HV2
              subst hk1
              by_cases t0 : ¬ 0 ≤ artist
              · have x0 : decide (0 ≤ artist) = false := decide_eq_false t0
                have HX := Lib.hid (HV2.out.trans (show _ = false by rw [decide_eq_false t0]; simp))
                go_wp2_with fail
                go_ret
                exact ⟨by rw [HX.out]; rfl, HB.out⟩
              have t0 := Decidable.not_not.1 t0
              have x0 := decide_eq_true t0
              by_cases t1 : ¬ artist ≤ 99
              · have x1 : decide (artist ≤ 99) = false := decide_eq_false t1
                have HX := Lib.hid (HV2.out.trans (show _ = false by rw [decide_eq_false t1]; simp))
                go_wp2_with fail
                go_ret
                exact ⟨by rw [HX.out]; rfl, HB.out⟩
              have t1 := Decidable.not_not.1 t1
              have x1 := decide_eq_true t1
              by_cases t2 : ¬ 1 ≤ tempo
              · have x2 : decide (1 ≤ tempo) = false := decide_eq_false t2
                have HX := Lib.hid (HV2.out.trans (show _ = false by rw [decide_eq_false t2]; simp))
                go_wp2_with fail
                go_ret
                exact ⟨by rw [HX.out]; rfl, HB.out⟩
              have t2 := Decidable.not_not.1 t2
              have x2 := decide_eq_true t2
              by_cases t3 : ¬ tempo ≤ 5
              · have x3 : decide (tempo ≤ 5) = false := decide_eq_false t3
                have HX := Lib.hid (HV2.out.trans (show _ = false by rw [decide_eq_false t3]; simp))
                go_wp2_with fail
                go_ret
                exact ⟨by rw [HX.out]; rfl, HB.out⟩
              have t3 := Decidable.not_not.1 t3
              have x3 := decide_eq_true t3
              by_cases t4 : ¬ 1 ≤ lang
              · have x4 : decide (1 ≤ lang) = false := decide_eq_false t4
                have HX := Lib.hid (HV2.out.trans (show _ = false by rw [decide_eq_false t4]; simp))
                go_wp2_with fail
                go_ret
                exact ⟨by rw [HX.out]; rfl, HB.out⟩
              have t4 := Decidable.not_not.1 t4
              have x4 := decide_eq_true t4
              by_cases t5 : ¬ lang ≤ 4
              · have x5 : decide (lang ≤ 4) = false := decide_eq_false t5
                have HX := Lib.hid (HV2.out.trans (show _ = false by rw [decide_eq_false t5]; simp))
                go_wp2_with fail
                go_ret
                exact ⟨by rw [HX.out]; rfl, HB.out⟩
              have t5 := Decidable.not_not.1 t5
              have x5 := decide_eq_true t5
              have HX := Lib.hid HV2.out
              rw [decide_eq_true t0, decide_eq_true t1, decide_eq_true t2, decide_eq_true t3, decide_eq_true t4, decide_eq_true t5] at HX
              go_wp2_with fail
              go_ret
              exact ⟨by rw [HX.out]; rfl, HB.out⟩
            · rw [if_neg hk1] at HV2
              have e1 : (kind != 1) = true := by simp [hk1]
              have e2 : (kind == 1) = false := by simp [hk1]
              by_cases t0 : ¬ (artist = 0)
              · have x0 : (artist == 0) = false := by simp [t0]
                have HX := Lib.hid (HV2.out.trans (show _ = false by rw [decide_eq_false t0]; simp))
                go_wp2_with fail
                go_ret
                exact ⟨by rw [HX.out]; rfl, HB.out⟩
              have t0 := Decidable.not_not.1 t0
              subst t0
              by_cases t1 : ¬ (tempo = 0)
              · have x1 : (tempo == 0) = false := by simp [t1]
                have HX := Lib.hid (HV2.out.trans (show _ = false by rw [decide_eq_false t1]; simp))
                go_wp2_with fail
                go_ret
                exact ⟨by rw [HX.out]; rfl, HB.out⟩
              have t1 := Decidable.not_not.1 t1
              subst t1
              by_cases t2 : ¬ (lang = 0)
              · have x2 : (lang == 0) = false := by simp [t2]
                have HX := Lib.hid (HV2.out.trans (show _ = false by rw [decide_eq_false t2]; simp))
                go_wp2_with fail
                go_ret
                exact ⟨by rw [HX.out]; rfl, HB.out⟩
              have t2 := Decidable.not_not.1 t2
              subst t2
              have HX := Lib.hid (HV2.out.trans (show _ = true by simp))
              go_wp2_with fail
              go_ret
              exact ⟨by rw [HX.out]; rfl, HB.out⟩
end Go.Proofs.Ytnmhigjannihgaa

/- The reference's IsCut and out. -/
namespace Go.Proofs.Ytnmhigjannihgaa
open Go.RowKit Go.Shelf

set_option maxRecDepth 100000 in
set_option maxHeartbeats 8000000 in
theorem rcut_any (i : ItemP) (cut : List Int) (A1 A2 A3 : Option Addr) (n1 c1 n2 c2 n3 c3 : Nat) (w : World) (hr : ItAt i A1 n1 c1 A2 n2 c2 w.heap.size w) (h3 : Recs enc1 1 w w.heap.size (.slice A3 n3 c3) cut) :
    Calls Try.prog 53 #[.agg #[.int .i64 i.id, .int .i64 i.kind, .int .i64 i.len, .slice A1 n1 c1, .slice A2 n2 c2, .int .i64 i.artist, .int .i64 i.tempo, .int .i64 i.lang], .slice A3 n3 c3] w fun e w' => e = .returned (.bool (cutB i.trims.length 0 cut)) ∧ Below w.heap.size w w' := by
  obtain ⟨l1, -⟩ := hr.lens
  have l3 := (recs_cap h3).1
  have hc3 := (recs_cap h3).2
  have hc1 := (recs_cap hr.t).2
  have HR := Lib.hid hr.t
  have H3 := Lib.hid h3
  have HL := Lib.hid (And.intro l1 l3)
  have hn3 : n3 ≤ 9223372036854775807 := by omega
  have hn1 : n1 ≤ 9223372036854775807 := by omega
  clear hr h3 l1 l3 hc3 hc1
  obtain ⟨id, kind, len, trims, talks, artist, tempo, lang⟩ := i
  dsimp only at *
  have RI := Lib.hid (Row.new w 24 #[.int .i64 id, .int .i64 kind, .int .i64 len, .slice A1 n1 c1, .slice A2 n2 c2, .int .i64 artist, .int .i64 tempo, .int .i64 lang])
  have HB0 := Lib.hid ((Below.refl _ w).alloc (Nat.le_refl _) (.cells #[.int .i64 id, .int .i64 kind, .int .i64 len, .slice A1 n1 c1, .slice A2 n2 c2, .int .i64 artist, .int .i64 tempo, .int .i64 lang] 24))
  go_enter Try.func53, Try.ntmps53
  go_wp2
  go_loopw [5] (fun j wr => ∃ (k f : Nat) (G : List (Int × Int)), j = .int .i64 (k : Int) ∧ k ≤ n3 ∧ Hid (LoSt trims cut k f G) ∧ (k = 0 → f = 0) ∧ Hid (∀ j, k = j + 1 → cut[j]? = some ((f : Int) - 1)) ∧ Hid (Row wr w.heap.size 24 #[.int .i64 id, .int .i64 kind, .int .i64 len, .slice A1 n1 c1, .slice A2 n2 c2, .int .i64 artist, .int .i64 tempo, .int .i64 lang]) ∧ Hid (Below w.heap.size w wr)) (fun j _ => n3 - (intOf j).toNat)
  case atStart => exact ⟨0, 0, [], rfl, Nat.zero_le _, Lib.hid (LoSt.start _ _), fun _ => rfl, Lib.hid (fun j e => by cases e), RI, HB0⟩
  case round =>
      clear RI
      obtain ⟨k, f, G, rfl, hk, HS, hf0, HF, RI, HB⟩ := hrel
      have r3 : wr.cell? ⟨w.heap.size, 3, none⟩ = some (.slice A1 n1 c1) := RI.out.cell 3
      have lr := RI.out.lt
      have k_0 : (0 : Int) ≤ (k : Int) := by omega
      by_cases hlt : k < n3
      · have k_1 : (k : Int) < (n3 : Int) := by omega
        have hka : k < cut.length := by have := HL.out.2; omega
        have HX0 := Lib.hid (List.getElem?_eq_getElem hka)
        obtain ⟨x, hx⟩ : ∃ x, cut[k] = x := ⟨_, rfl⟩
        rw [hx] at HX0
        obtain ⟨g, o, rfl, hg, a0⟩ := cell1_at (H3.out.next HB.out) HX0.out
        clear hx hka
        have lw := HB.out.size
        have HBAD := Lib.hid (fun h => HS.out.bad HX0.out h)
        have HSTEP := Lib.hid (fun (m : Nat) (e : x = (m : Int)) (h1 : f ≤ m) (q : Int × Int) (hq : trims[m]? = some q) => HS.out.step (m := m) (by rw [HX0.out, e]) h1 hq)
        by_cases h1 : x < 0
        · have f1 := decide_eq_true h1
          have HX := Lib.hid (HBAD.out (.inl (by omega)))
          go_wp2
          go_quiet (fail)
          go_wp2
          go_ret
          exact ⟨by rw [HX.out]; rfl, belowN HB.out _⟩
        have f1 : decide (x < 0) = false := decide_eq_false h1
        by_cases h2 : (n1 : Int) ≤ x
        · have f2 := decide_eq_true h2
          have HX := Lib.hid (HBAD.out (.inr (by have := HL.out.1; omega)))
          go_wp2
          go_quiet (fail)
          go_wp2
          go_ret
          exact ⟨by rw [HX.out]; rfl, belowN HB.out _⟩
        have f2 : decide ((n1 : Int) ≤ x) = false := decide_eq_false h2
        cases k with
        | zero =>
          have h4 : f = 0 := hf0 rfl
          have b0 : wr.cell? ⟨g, o, none⟩ = some (.int .i64 x) := by simpa using a0
          have n_0 : (0 : Int) < (n3 : Int) := by omega
          clear a0
          obtain ⟨m, rfl⟩ : ∃ m : Nat, x = (m : Int) := ⟨x.toNat, by omega⟩
          have hml : m < trims.length := by have := HL.out.1; omega
          have d2 : decide (n1 ≤ m) = false := decide_eq_false (by have := HL.out.1; omega)
          have HQ := Lib.hid (List.getElem?_eq_getElem hml)
          have HST := Lib.hid (HSTEP.out m rfl (by omega) _ HQ.out)
          have hnx : cut[0]? = some (((m + 1 : Nat) : Int) - 1) := by rw [HX0.out]; congr 1; omega
          have HNX := Lib.hid (show ∀ j', 1 = j' + 1 → cut[j']? = some (((m + 1 : Nat) : Int) - 1) by intro j' e; (obtain rfl : j' = 0 := (by omega)); exact hnx)
          obtain ⟨q, hq⟩ : ∃ q, trims[m] = q := ⟨_, rfl⟩
          rw [hq] at HQ HST
          clear hnx hq hml
          go_wp2
          go_quiet (fail)
          go_wp2
          go_roundw
          case rel => exact ⟨1, m + 1, _, by go_num, by omega, HST, fun e => by omega, HNX, Lib.hid (RI.out.below (belowN (Below.refl _ _) _) RI.out.lt), Lib.hid (belowN HB.out _)⟩
          case measure => simp [intOf]; omega
        | succ j =>
          obtain ⟨p, hp⟩ : ∃ p, (f : Int) - 1 = p := ⟨_, rfl⟩
          have hxp := HF.out j rfl
          rw [hp] at hxp
          obtain ⟨g2, o2, hgo, -, b0⟩ := cell1_at (H3.out.next HB.out) hxp
          injection hgo with hgo
          obtain ⟨rfl, rfl⟩ : g = g2 ∧ o = o2 := ⟨congrArg Addr.block hgo, congrArg Addr.off hgo⟩
          have a1 : wr.cell? ⟨g, o + j + 1, none⟩ = some (.int .i64 x) := by rw [Nat.add_assoc]; exact a0
          have j_0 : (0 : Int) ≤ (j : Int) := by omega
          have j_1 : (j : Int) + 1 ≤ 9223372036854775807 := by omega
          have j_2 : (j : Int) + 1 < (n3 : Int) := by omega
          have j_3 : j < n3 := by omega
          have j_4 : j + 1 < n3 := by omega
          have f4 : decide ((0 : Int) < (j : Int) + 1) = true := decide_eq_true (by omega)
          clear hgo hxp
          by_cases h5 : x ≤ p
          · have f5 := decide_eq_true h5
            have HX := Lib.hid (HBAD.out (.inl (by omega)))
            go_wp2
            go_quiet (fail)
            go_wp2
            go_ret
            exact ⟨by rw [HX.out]; rfl, belowN HB.out _⟩
          have f5 : decide (x ≤ p) = false := decide_eq_false h5
          obtain ⟨m, rfl⟩ : ∃ m : Nat, x = (m : Int) := ⟨x.toNat, by omega⟩
          have hml : m < trims.length := by have := HL.out.1; omega
          have d2 : decide (n1 ≤ m) = false := decide_eq_false (by have := HL.out.1; omega)
          have HQ := Lib.hid (List.getElem?_eq_getElem hml)
          have HST := Lib.hid (HSTEP.out m rfl (by omega) _ HQ.out)
          have hnx : cut[j + 1]? = some (((m + 1 : Nat) : Int) - 1) := by rw [HX0.out]; congr 1; omega
          have HNX := Lib.hid (show ∀ j', j + 1 + 1 = j' + 1 → cut[j']? = some (((m + 1 : Nat) : Int) - 1) by intro j' e; (obtain rfl : j' = j + 1 := (by omega)); exact hnx)
          obtain ⟨q, hq⟩ : ∃ q, trims[m] = q := ⟨_, rfl⟩
          rw [hq] at HQ HST
          clear hnx hq hml
          go_wp2
          go_quiet (fail)
          go_wp2
          go_roundw
          case rel => exact ⟨j + 1 + 1, m + 1, _, by go_num, by omega, HST, fun e => by omega, HNX, Lib.hid (RI.out.below (belowN (Below.refl _ _) _) RI.out.lt), Lib.hid (belowN HB.out _)⟩
          case measure => simp [intOf]; omega
      · have HD := Lib.hid (HS.out.done (by have := HL.out.2; omega))
        have k_1 : ¬ (k : Int) < (n3 : Int) := by omega
        go_wp2
        go_ret
        exact ⟨by rw [HD.out.1]; rfl, HB.out⟩

theorem inP_app (a b : List (Int × Int)) (s : Int) : inP (a ++ b) s = (inP a s || inP b s) := by unfold inP; rw [List.any_append]
set_option maxRecDepth 100000 in
set_option maxHeartbeats 8000000 in
theorem rout_any (i : ItemP) (cut : List Int) (s : Int) (hc : cutB i.trims.length 0 cut = true) (A1 A2 A3 : Option Addr) (n1 c1 n2 c2 n3 c3 : Nat) (w : World) (hr : ItAt i A1 n1 c1 A2 n2 c2 w.heap.size w) (h3 : Recs enc1 1 w w.heap.size (.slice A3 n3 c3) cut) :
    Calls Try.prog 57 #[.agg #[.int .i64 i.id, .int .i64 i.kind, .int .i64 i.len, .slice A1 n1 c1, .slice A2 n2 c2, .int .i64 i.artist, .int .i64 i.tempo, .int .i64 i.lang], .slice A3 n3 c3, .int .i64 s] w fun e w' => e = .returned (.bool (inP (goneI i.trims cut) s)) ∧ Below w.heap.size w w' := by
  obtain ⟨l1, -⟩ := hr.lens
  have l3 := (recs_cap h3).1
  have hc3 := (recs_cap h3).2
  have hc1 := (recs_cap hr.t).2
  have HR := Lib.hid hr.t
  have H3 := Lib.hid h3
  have HL := Lib.hid (And.intro l1 l3)
  have hn3 : n3 ≤ 9223372036854775807 := by omega
  have hn1 : n1 ≤ 9223372036854775807 := by omega
  have HC := Lib.hid hc
  clear hc
  clear hr h3 l1 l3 hc3 hc1
  obtain ⟨id, kind, len, trims, talks, artist, tempo, lang⟩ := i
  dsimp only at *
  have RI := Lib.hid (Row.new w 24 #[.int .i64 id, .int .i64 kind, .int .i64 len, .slice A1 n1 c1, .slice A2 n2 c2, .int .i64 artist, .int .i64 tempo, .int .i64 lang])
  have HB0 := Lib.hid ((Below.refl _ w).alloc (Nat.le_refl _) (.cells #[.int .i64 id, .int .i64 kind, .int .i64 len, .slice A1 n1 c1, .slice A2 n2 c2, .int .i64 artist, .int .i64 tempo, .int .i64 lang] 24))
  go_enter Try.func57, Try.ntmps57
  go_wp2
  go_loopw [7] (fun j wr => ∃ (k f : Nat) (G : List (Int × Int)), j = .int .i64 (k : Int) ∧ k ≤ n3 ∧ Hid (LoSt trims cut k f G) ∧ Hid (inP G s = false) ∧ Hid (Row wr w.heap.size 24 #[.int .i64 id, .int .i64 kind, .int .i64 len, .slice A1 n1 c1, .slice A2 n2 c2, .int .i64 artist, .int .i64 tempo, .int .i64 lang]) ∧ Hid (Below w.heap.size w wr)) (fun j _ => n3 - (intOf j).toNat)
  case atStart => exact ⟨0, 0, [], rfl, Nat.zero_le _, Lib.hid (LoSt.start _ _), Lib.hid rfl, RI, HB0⟩
  case round =>
      clear RI
      obtain ⟨k, f, G, rfl, hk, HS, HN, RI, HB⟩ := hrel
      have r3 : wr.cell? ⟨w.heap.size, 3, none⟩ = some (.slice A1 n1 c1) := RI.out.cell 3
      have lr := RI.out.lt
      have k_0 : (0 : Int) ≤ (k : Int) := by omega
      by_cases hlt : k < n3
      · have k_1 : (k : Int) < (n3 : Int) := by omega
        have hka : k < cut.length := by have := HL.out.2; omega
        have HX0 := Lib.hid (List.getElem?_eq_getElem hka)
        obtain ⟨x, hx⟩ : ∃ x, cut[k] = x := ⟨_, rfl⟩
        rw [hx] at HX0
        obtain ⟨g, o, rfl, hg, a0⟩ := cell1_at (H3.out.next HB.out) HX0.out
        clear hx hka
        have lw := HB.out.size
        have hok : ¬ (x < (f : Int) ∨ (trims.length : Int) ≤ x) := fun h => by have := HS.out.bad HX0.out h; rw [HC.out] at this; cases this
        obtain ⟨m, rfl⟩ : ∃ m : Nat, x = (m : Int) := ⟨x.toNat, by omega⟩
        have hml : m < trims.length := by omega
        have m_0 : (0 : Int) ≤ (m : Int) := by omega
        have m_1 : (m : Int) < (n1 : Int) := by have := HL.out.1; omega
        have m_2 : m < n1 := by omega
        have HQ := Lib.hid (List.getElem?_eq_getElem hml)
        obtain ⟨q, hq⟩ : ∃ q, trims[m] = q := ⟨_, rfl⟩
        rw [hq] at HQ
        have HST := Lib.hid (HS.out.step HX0.out (by omega) HQ.out)
        obtain ⟨g9, o9, rfl, hg9, t0, t1⟩ := cell2_at (HR.out.next HB.out) HQ.out
        have HIN := Lib.hid (show inP (G ++ [q]) s = (decide (q.1 ≤ s) && decide (s < q.2)) by rw [inP_app, HN.out, Bool.false_or]; unfold inP; simp)
        obtain ⟨q1, q2⟩ := q
        dsimp only at t0 t1 HIN
        clear hq hml hok
        by_cases h1 : q1 ≤ s
        · by_cases h2 : s < q2
          · have f1 := decide_eq_true h1
            have f2 := decide_eq_true h2
            have HX := Lib.hid (show inP (goneI trims cut) s = true by rw [HST.out.g, inP_app, HIN.out, f1, f2]; rfl)
            go_wp2
            go_quiet (fail)
            go_wp2
            go_ret
            exact ⟨by rw [HX.out]; rfl, belowN HB.out _⟩
          · have f1 := decide_eq_true h1
            have f2 : decide (s < q2) = false := decide_eq_false h2
            have HX := Lib.hid (show inP (G ++ [(q1, q2)]) s = false by rw [HIN.out, f2]; simp)
            go_wp2
            go_quiet (fail)
            go_wp2
            go_roundw
            case rel => exact ⟨k + 1, m + 1, _, by go_num, by omega, HST, HX, Lib.hid (RI.out.below (belowN (Below.refl _ _) _) RI.out.lt), Lib.hid (belowN HB.out _)⟩
            case measure => simp [intOf]; omega
        · have f1 : decide (q1 ≤ s) = false := decide_eq_false h1
          have HX := Lib.hid (show inP (G ++ [(q1, q2)]) s = false by rw [HIN.out, f1]; rfl)
          go_wp2
          go_quiet (fail)
          go_wp2
          go_roundw
          case rel => exact ⟨k + 1, m + 1, _, by go_num, by omega, HST, HX, Lib.hid (RI.out.below (belowN (Below.refl _ _) _) RI.out.lt), Lib.hid (belowN HB.out _)⟩
          case measure => simp [intOf]; omega
      · have HD := Lib.hid (HS.out.done (by have := HL.out.2; omega))
        have HX := Lib.hid (show inP (goneI trims cut) s = false by rw [HD.out.2, HN.out])
        have k_1 : ¬ (k : Int) < (n3 : Int) := by omega
        go_wp2
        go_ret
        exact ⟨by rw [HX.out]; rfl, HB.out⟩
end Go.Proofs.Ytnmhigjannihgaa
