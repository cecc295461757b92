/- Days, hours and groups: what is read was written so, and what is written is read so. Print and Parse are each other's inverse, in plain words. What WeekTexts asks of Print and Parse at its texts; rows of bytes. -/
import Derived.Test.YtmfpaankkoaoaaaDoorZg
import Derived.Test.YtmfpaankkoaoaaaDoorWb
/- Days, hours and groups: what is read was written so, and what is written is read so. -/
namespace Go.Proofs.YtmfpaankkoaoaaaDoor
open Go.RowKit Go.Shelf

theorem dayN_inv {s : ByteArray} (h : 0 ≤ dayN s) : ∃ k : Nat, k < 7 ∧ dayN s = (k : Int) ∧ dayS k = s := by
  unfold dayN at h ⊢
  cases hf : (List.range 7).find? (fun k => decide (dayS k = s)) with
  | none => rw [hf] at h; simp at h
  | some k => exact ⟨k, List.mem_range.1 (List.mem_of_find?_eq_some hf), rfl, by simpa using List.find?_some hf⟩
theorem hourN_inv {s : ByteArray} (h : 0 ≤ hourN s) : ∃ k : Nat, k < 25 ∧ hourN s = (k : Int) ∧ itoaB k = s := by
  unfold hourN at h ⊢
  cases hf : (List.range 25).find? (fun k => decide (itoaB k = s)) with
  | none => rw [hf] at h; simp at h
  | some k => exact ⟨k, List.mem_range.1 (List.mem_of_find?_eq_some hf), rfl, by simpa using List.find?_some hf⟩
theorem rdD_inv (x : ByteArray) (h : ¬ (rdD x).2 ≤ (rdD x).1) : ∃ a b : Nat, a < b ∧ b ≤ 7 ∧ rdD x = ((a : Int), (b : Int)) ∧ x = wrD a b := by
  unfold rdD at h ⊢
  by_cases h1 : dayN (cut1 x dash) < 0
  · rw [if_pos h1] at h; exact absurd (Int.le_refl _) h
  · rw [if_neg h1] at h ⊢
    obtain ⟨a, a1, a2, a3⟩ := dayN_inv (s := cut1 x dash) (by omega)
    rw [a2] at h ⊢
    cases h3 : cut3 x dash with
    | false =>
      rw [if_pos rfl]
      refine ⟨a, a + 1, by omega, by omega, by simp, ?_⟩
      unfold wrD
      rw [if_pos rfl, a3, cutB_false h3]
    | true =>
      rw [h3, if_neg (by simp)] at h
      rw [if_neg (by simp)]
      by_cases h4 : dayN (cut2 x dash) + 1 ≤ (a : Int) + 1
      · rw [if_pos h4] at h; exact absurd (Int.le_refl _) h
      · rw [if_neg h4]
        obtain ⟨b, b1, b2, b3⟩ := dayN_inv (s := cut2 x dash) (by omega)
        rw [b2] at h4 ⊢
        refine ⟨a, b + 1, by omega, by omega, by simp, ?_⟩
        unfold wrD
        rw [if_neg (by omega), show b + 1 - 1 = b from rfl, a3, b3]
        apply ba_ext
        rw [cutB_true h3]
        simp [dash]
theorem rdH_inv (x : ByteArray) (h : ¬ (rdH x).2 ≤ (rdH x).1) : ∃ a b : Nat, a < b ∧ b ≤ 24 ∧ rdH x = ((a : Int), (b : Int)) ∧ x = wrH a b := by
  unfold rdH at h ⊢
  by_cases h1 : hourN (cut1 x dash) < 0 ∨ hourN (cut2 x dash) ≤ hourN (cut1 x dash)
  · rw [if_pos h1] at h; exact absurd (Int.le_refl _) h
  · rw [if_neg h1]
    obtain ⟨a, a1, a2, a3⟩ := hourN_inv (s := cut1 x dash) (by omega)
    obtain ⟨b, b1, b2, b3⟩ := hourN_inv (s := cut2 x dash) (by omega)
    rw [a2, b2] at h1 ⊢
    refine ⟨a, b, by omega, by omega, rfl, ?_⟩
    have h3 : cut3 x dash = true := by
      cases h3 : cut3 x dash with
      | true => rfl
      | false =>
        have h5 := cut2_none x dash h3
        have h6 : ∀ k : Fin 25, (itoaB k.val).size ≠ 0 := by decide +kernel
        rw [← b3] at h5
        exact absurd h5 (h6 ⟨b, b1⟩)
    apply ba_ext
    rw [cutB_true h3, ← a3, ← b3]
    simp [wrH, dash]
theorem rdD_wr (a b : Nat) (h : a < b) (hb : b ≤ 7) : rdD (wrD a b) = ((a : Int), (b : Int)) := by
  have hh : ∀ a b : Fin 8, a.val < b.val → rdD (wrD a.val b.val) = ((a.val : Int), (b.val : Int)) := by decide +kernel
  exact hh ⟨a, by omega⟩ ⟨b, by omega⟩ h
theorem rdH_wr (a b : Nat) (h : a < b) (hb : b ≤ 24) : rdH (wrH a b) = ((a : Int), (b : Int)) := by
  have hh : ∀ a b : Fin 25, a.val < b.val → rdH (wrH a.val b.val) = ((a.val : Int), (b.val : Int)) := by decide +kernel
  exact hh ⟨a, by omega⟩ ⟨b, by omega⟩ h
theorem wrD_free (a b : Nat) (h : a < b) (hb : b ≤ 7) : (44 : UInt8) ∉ (wrD a b).data.toList ∧ (32 : UInt8) ∉ (wrD a b).data.toList ∧ (59 : UInt8) ∉ (wrD a b).data.toList := by
  have hh : ∀ a b : Fin 8, a.val < b.val → (44 : UInt8) ∉ (wrD a.val b.val).data.toList ∧ (32 : UInt8) ∉ (wrD a.val b.val).data.toList ∧ (59 : UInt8) ∉ (wrD a.val b.val).data.toList := by decide +kernel
  exact hh ⟨a, by omega⟩ ⟨b, by omega⟩ h
theorem wrH_free (a b : Nat) (h : a < b) (hb : b ≤ 24) : (44 : UInt8) ∉ (wrH a b).data.toList ∧ (32 : UInt8) ∉ (wrH a b).data.toList ∧ (59 : UInt8) ∉ (wrH a b).data.toList := by
  have hh : ∀ a b : Fin 25, a.val < b.val → (44 : UInt8) ∉ (wrH a.val b.val).data.toList ∧ (32 : UInt8) ∉ (wrH a.val b.val).data.toList ∧ (59 : UInt8) ∉ (wrH a.val b.val).data.toList := by decide +kernel
  exact hh ⟨a, by omega⟩ ⟨b, by omega⟩ h
/-- The texts of a set's runs. -/
def runT (wr : Nat → Nat → ByteArray) (s : Nat) : List ByteArray := (rl 25 s 0).map fun r => wr r.1 r.2
theorem runT_ne {wr : Nat → Nat → ByteArray} {s : Nat} (h0 : s ≠ 0) : runT wr s ≠ [] := by
  unfold runT
  rw [show (25 : Nat) = 24 + 1 from rfl, rl_cons _ _ _ (by simpa using h0) (by omega)]
  simp
theorem wrRuns_eq (sep : List UInt8) (wr : Nat → Nat → ByteArray) (s : Nat) : wrRuns sep wr s = ⟨(Lib.join ((runT wr s).map (·.data.toList)) sep).toArray⟩ := rfl
theorem ptl_runs {sep : ByteArray} {c : UInt8} (hs : sep.data.toList = [c]) {wr : Nat → Nat → ByteArray} {s : Nat} (h0 : s ≠ 0) (hf : ∀ q ∈ rl 25 s 0, c ∉ (wr q.1 q.2).data.toList) : ptl sep ((wrRuns [c] wr s).size + 1) (wrRuns [c] wr s) = runT wr s := by
  have hl : (runT wr s).length ≤ (wrRuns [c] wr s).size + 1 := by
    have := join_many ((runT wr s).map (·.data.toList)) c []
    rw [List.length_map] at this
    rw [wrRuns_eq]
    show _ ≤ (List.toArray _).size + 1
    rw [List.size_toArray]
    exact this
  generalize (wrRuns [c] wr s).size + 1 = f at *
  rw [wrRuns_eq]
  exact ptl_join hs (runT wr s) f (runT_ne h0) (fun x hx => by
    obtain ⟨q, hq, rfl⟩ := List.mem_map.1 hx
    exact hf q hq) hl
theorem days_mem {d : Nat} (h : d ≤ 127) : ∀ q ∈ rl 25 d 0, q.1 < q.2 ∧ q.2 ≤ 7 := fun q hq => rl_mem7 d h q hq
theorem hours_mem {h : Nat} (hh : h ≤ 16777215) : ∀ q ∈ rl 25 h 0, q.1 < q.2 ∧ q.2 ≤ 24 := fun q hq => (rl_mem h hh 25 0 (by omega) q hq).2
theorem wrRuns_free {c e : UInt8} (hne : c ≠ e) {wr : Nat → Nat → ByteArray} {s : Nat} (hf : ∀ q ∈ rl 25 s 0, c ∉ (wr q.1 q.2).data.toList) : c ∉ (wrRuns [e] wr s).data.toList := by
  rw [wrRuns_eq]
  show c ∉ Lib.join ((runT wr s).map (·.data.toList)) [e]
  refine join_mem _ _ (by simpa using hne) fun x hx => ?_
  obtain ⟨y, hy, rfl⟩ := List.mem_map.1 hx
  obtain ⟨q, hq, rfl⟩ := List.mem_map.1 hy
  exact hf q hq
theorem grp_cut {d h : Nat} (hd : d ≤ 127) : cut1 (grpT d h) space = wrRuns [44] wrD d ∧ cut2 (grpT d h) space = wrRuns [32] wrH h ∧ cut3 (grpT d h) space = true := by
  have hc : (32 : UInt8) ∉ (wrRuns [44] wrD d).data.toList := wrRuns_free (by decide) fun q hq => (wrD_free q.1 q.2 (days_mem hd q hq).1 (days_mem hd q hq).2).2.1
  have := cut_hit (tl := []) hc (wrRuns [32] wrH h).data.toList
  have e : (grpT d h).data.toList = (wrRuns [44] wrD d).data.toList ++ ([32] ++ (wrRuns [32] wrH h).data.toList) := by
    unfold grpT; simp
  rw [← e] at this
  exact cut_of (s := grpT d h) (sep := space) this
/-- What is written of a group is read so. -/
theorem grp_read {d h : Nat} (hd : d ≤ 127) (hd0 : d ≠ 0) (hh : h ≤ 16777215) (hh0 : h ≠ 0) : grpDays (grpT d h) = d ∧ grpHours (grpT d h) = h := by
  obtain ⟨c1, c2, -⟩ := grp_cut (h := h) hd
  unfold grpDays grpHours
  rw [c1, c2]
  constructor
  · rw [ptl_runs (sep := comma) (c := 44) rfl hd0 (fun q hq => (wrD_free q.1 q.2 (days_mem hd q hq).1 (days_mem hd q hq).2).1)]
    exact runs_read (N := 7) rdD_wr d (by omega) (fun q hq => (days_mem hd q hq).2)
  · rw [ptl_runs (sep := space) (c := 32) rfl hh0 (fun q hq => (wrH_free q.1 q.2 (hours_mem hh q hq).1 (hours_mem hh q hq).2).2.1)]
    exact runs_read (N := 24) rdH_wr h hh (fun q hq => (hours_mem hh q hq).2)
theorem runs_back {sep : ByteArray} {c : UInt8} (hs : sep.data.toList = [c]) {N : Nat} (hN : N ≤ 24) {rd : ByteArray → Int × Int} {wr : Nat → Nat → ByteArray} (hi : ∀ x, ¬ (rd x).2 ≤ (rd x).1 → ∃ a b : Nat, a < b ∧ b ≤ N ∧ rd x = ((a : Int), (b : Int)) ∧ x = wr a b) (x : ByteArray) (h : rdStep rd (ptl sep (x.size + 1) x) 0 (-1) ≠ 0) :
    x = wrRuns [c] wr (rdStep rd (ptl sep (x.size + 1) x) 0 (-1)) ∧ rdStep rd (ptl sep (x.size + 1) x) 0 (-1) < 2 ^ N := by
  obtain ⟨h1, h2⟩ := runs_write hN hi _ h
  refine ⟨?_, h2⟩
  rw [wrRuns_eq]
  unfold runT
  rw [← h1]
  apply ba_ext
  have := join_ptl (sep := sep) (by rw [hs]; simp) (x.size + 1) x (by omega)
  rw [hs] at this
  exact this.symm
/-- What is read as a group had been written so. -/
theorem grp_write {x : ByteArray} (h1 : grpDays x ≠ 0) (h2 : grpHours x ≠ 0) : x = grpT (grpDays x) (grpHours x) ∧ grpDays x ≤ 127 := by
  obtain ⟨d1, d2⟩ := runs_back (sep := comma) (c := 44) rfl (N := 7) (by omega) rdD_inv (cut1 x space) h1
  obtain ⟨e1, -⟩ := runs_back (sep := space) (c := 32) rfl (N := 24) (by omega) rdH_inv (cut2 x space) h2
  have h3 : cut3 x space = true := by
    cases h3 : cut3 x space with
    | true => rfl
    | false =>
      have hz : (cut2 x space).size = 0 := cut2_none x space h3
      have he : cut2 x space = ⟨#[]⟩ := by
        apply ba_ext
        have : (cut2 x space).data.toList.length = 0 := by simpa using hz
        rw [List.length_eq_zero_iff.1 this]
      unfold grpHours at h2
      rw [he] at h2
      exact absurd (by decide +kernel) h2
  refine ⟨?_, by have : grpDays x < 2 ^ 7 := d2; omega⟩
  apply ba_ext
  rw [cutB_true h3]
  have f1 : cut1 x space = wrRuns [44] wrD (grpDays x) := d1
  have f2 : cut2 x space = wrRuns [32] wrH (grpHours x) := e1
  rw [f1, f2]
  unfold grpT
  simp [space]
theorem grpT_free {d h : Nat} (hd : d ≤ 127) (hh : h ≤ 16777215) : (59 : UInt8) ∉ (grpT d h).data.toList := by
  have h1 : (59 : UInt8) ∉ (wrRuns [44] wrD d).data.toList := wrRuns_free (by decide) fun q hq => (wrD_free q.1 q.2 (days_mem hd q hq).1 (days_mem hd q hq).2).2.2
  have h2 : (59 : UInt8) ∉ (wrRuns [32] wrH h).data.toList := wrRuns_free (by decide) fun q hq => (wrH_free q.1 q.2 (hours_mem hh q hq).1 (hours_mem hh q hq).2).2.2
  unfold grpT
  simp [h1, h2]
end Go.Proofs.YtmfpaankkoaoaaaDoor

/- Print and Parse are each other's inverse, in plain words. -/
namespace Go.Proofs.YtmfpaankkoaoaaaDoor
open Go.RowKit Go.Shelf

theorem days_bit (l : List Int) (h d : Nat) : ∀ n, (daysOf l h n).testBit d = decide (d < n ∧ h ≠ 0 ∧ hrs l d = h)
  | 0 => by simp [daysOf]
  | n + 1 => by
    have ih := days_bit l h d n
    unfold daysOf
    by_cases hc : h ≠ 0 ∧ hrs l n = h
    · rw [if_pos hc, Nat.testBit_or, ih, Nat.testBit_two_pow]
      by_cases e : n = d
      · subst e
        simp [hc.1, hc.2]
      · rw [decide_eq_false e, Bool.or_false]
        congr 1
        exact propext ⟨fun ⟨a, b⟩ => ⟨by omega, b⟩, fun ⟨a, b⟩ => ⟨by omega, b⟩⟩
    · rw [if_neg hc, ih]
      congr 1
      apply propext
      refine ⟨fun ⟨a, b⟩ => ⟨by omega, b⟩, fun ⟨a, b⟩ => ⟨?_, b⟩⟩
      have : d ≠ n := fun e => hc (e ▸ b)
      omega
theorem ctz_bit {x : Nat} (hx : x ≤ 16777215) (h0 : x ≠ 0) : x.testBit (Lib.ctz 64 x) = true ∧ ∀ i, i < Lib.ctz 64 x → x.testBit i = false := by
  obtain ⟨m, hm⟩ := ctz_spec x h0 (by omega)
  refine ⟨?_, fun i hi => bits_low _ m hm i hi⟩
  generalize Lib.ctz 64 x = k at *
  rw [hm, Nat.testBit_two_pow_mul, decide_eq_true (Nat.le_refl k), Nat.sub_self, Nat.testBit_zero]
  simp
theorem ctz_eq {x k : Nat} (hx : x ≤ 16777215) (hb : x.testBit k = true) (hl : ∀ i, i < k → x.testBit i = false) : Lib.ctz 64 x = k := by
  have h0 : x ≠ 0 := fun e => by rw [e, Nat.zero_testBit] at hb; cases hb
  obtain ⟨h1, h2⟩ := ctz_bit hx h0
  rcases Nat.lt_trichotomy (Lib.ctz 64 x) k with h | h | h
  · rw [hl _ h] at h1; cases h1
  · exact h
  · rw [h2 _ h] at hb; cases hb
/-- The days before day k have their hours; and so have those with the same ones. -/
def seen (l : List Int) (k : Nat) : List Int := (List.range 7).map fun d => if (List.range k).any (fun e => hrs l e == hrs l d) then ((hrs l d : Nat) : Int) else 0
theorem seen_hrs (l : List Int) (k : Nat) {d : Nat} (hd : d < 7) : hrs (seen l k) d = if (List.range k).any (fun e => hrs l e == hrs l d) then hrs l d else 0 := by
  unfold seen
  rw [hrs, List.getElem?_map, List.getElem?_range hd]
  simp only [Option.map_some, Option.getD_some]
  split <;> simp
theorem any_iff (l : List Int) (k d : Nat) : (List.range k).any (fun e => hrs l e == hrs l d) = true ↔ ∃ e, e < k ∧ hrs l e = hrs l d := by
  simp [List.any_eq_true]
theorem seen_len (l : List Int) (k : Nat) : (seen l k).length = 7 := by simp [seen]
theorem week_ext {l m : List Int} (h7 : l.length = 7) (m7 : m.length = 7) (hl : validW l = true) (hm : validW m = true) (h : ∀ d, d < 7 → hrs l d = hrs m d) : l = m := by
  apply List.ext_getElem?
  intro d
  by_cases hd : d < 7
  · rw [(hrs_at hl (k := d) (by omega)).1, (hrs_at hm (k := d) (by omega)).1, h d hd]
  · rw [List.getElem?_eq_none (by omega), List.getElem?_eq_none (by omega)]
theorem seen_valid {l : List Int} (hv : validW l = true) (k : Nat) : validW (seen l k) = true := by
  unfold validW seen
  rw [List.all_eq_true]
  intro x hx
  obtain ⟨d, -, rfl⟩ := List.mem_map.1 hx
  have := hrs_le hv d
  split
  · exact (okH_iff _).2 ⟨by omega, by omega⟩
  · exact (okH_iff _).2 ⟨by omega, by omega⟩
theorem zero_hrs (d : Nat) : hrs zeroW d = 0 := by
  unfold hrs zeroW
  match d with
  | 0 | 1 | 2 | 3 | 4 | 5 | 6 => rfl
  | d + 7 => rfl
theorem zero_valid : validW zeroW = true := rfl
theorem seen_zero (l : List Int) : seen l 0 = zeroW := by simp [seen, zeroW, List.range, List.range.loop]
theorem seen_all {l : List Int} (h7 : l.length = 7) (hv : validW l = true) : seen l 7 = l :=
  week_ext (seen_len _ _) h7 (seen_valid hv _) hv fun d hd => by
    rw [seen_hrs _ _ hd, if_pos ((any_iff _ _ _).2 ⟨d, hd, rfl⟩)]
theorem seen_old {l : List Int} (hv : validW l = true) {k : Nat} (h : ¬ (hrs l k ≠ 0 ∧ ∀ d, d < k → hrs l d ≠ hrs l k)) : seen l (k + 1) = seen l k :=
  week_ext (seen_len _ _) (seen_len _ _) (seen_valid hv _) (seen_valid hv _) fun d hd => by
    rw [seen_hrs _ _ hd, seen_hrs _ _ hd]
    by_cases h1 : ∃ e, e < k ∧ hrs l e = hrs l d
    · rw [if_pos ((any_iff _ _ _).2 h1), if_pos ((any_iff _ _ _).2 ⟨h1.choose, by have := h1.choose_spec.1; omega, h1.choose_spec.2⟩)]
    · rw [if_neg (fun hh => h1 ((any_iff _ _ _).1 hh))]
      by_cases h2 : hrs l k = hrs l d
      · have hz : hrs l k = 0 := Classical.byContradiction fun h0 => h ⟨h0, fun e he hh => h1 ⟨e, he, hh.trans h2⟩⟩
        rw [if_pos ((any_iff _ _ _).2 ⟨k, by omega, h2⟩), ← h2, hz]
      · rw [if_neg (fun hh => by
          obtain ⟨e, he, hh⟩ := (any_iff _ _ _).1 hh
          by_cases hk : e = k
          · exact h2 (hk ▸ hh)
          · exact h1 ⟨e, by omega, hh⟩)]
theorem newG_iff {days hours : Nat} {l : List Int} : newG days hours l = true ↔ ∀ k, k < 7 → hrs l k ≠ hours ∧ (hrs l k = 0 ∨ days.testBit k = false) := by
  constructor
  · intro h k hk
    unfold newG at h
    have := List.all_eq_true.1 h k (List.mem_range.2 hk)
    unfold clash at this
    simp at this
    exact this
  · intro h
    refine newG_ok fun k hk => ?_
    obtain ⟨h1, h2⟩ := h k hk
    unfold clash
    rcases h2 with h2 | h2
    · simp [h2]; exact fun e => h1 (h2.trans e)
    · simp [h1, h2]
theorem addL_hrs (days hours : Nat) (l : List Int) {k : Nat} (hk : k < 7) : hrs (addL days hours l 7) k = if days.testBit k then hours else hrs l k := by
  unfold addL
  rw [hrs, List.getElem?_map, List.getElem?_range hk]
  simp only [Option.map_some, Option.getD_some]
  cases hb : days.testBit k with
  | true => simp [hk]
  | false => simp [hrs]
/-- A day whose hours none before it has. -/
def FirstD (l : List Int) (k : Nat) : Prop := hrs l k ≠ 0 ∧ ∀ d, d < k → hrs l d ≠ hrs l k
theorem first_days {l : List Int} {k : Nat} (hk : k < 7) (h : FirstD l k) : daysOf l (hrs l k) 7 ≤ 127 ∧ daysOf l (hrs l k) 7 ≠ 0 ∧ Lib.ctz 64 (daysOf l (hrs l k) 7) = k := by
  have hlt := daysOf_lt l (hrs l k) 7
  have h127 : daysOf l (hrs l k) 7 ≤ 127 := by omega
  refine ⟨h127, (daysOf_ne l _ h.1 7).2 ⟨k, hk, rfl⟩, ctz_eq (by omega) ?_ fun i hi => ?_⟩
  · rw [days_bit]; simp [hk, h.1]
  · rw [days_bit, decide_eq_false]
    rintro ⟨-, -, e⟩
    exact h.2 i hi e
theorem seen_new {l : List Int} (hv : validW l = true) {k : Nat} (_ : k < 7) (h : FirstD l k) : newG (daysOf l (hrs l k) 7) (hrs l k) (seen l k) = true ∧ addL (daysOf l (hrs l k) 7) (hrs l k) (seen l k) 7 = seen l (k + 1) := by
  have hbit : ∀ d, d < 7 → ((daysOf l (hrs l k) 7).testBit d = true ↔ hrs l d = hrs l k) := fun d hd => by
    rw [days_bit]; simp [hd, h.1]
  constructor
  · rw [newG_iff]
    intro d hd
    rw [seen_hrs _ _ hd]
    by_cases h1 : ∃ e, e < k ∧ hrs l e = hrs l d
    · rw [if_pos ((any_iff _ _ _).2 h1)]
      obtain ⟨e, he, hh⟩ := h1
      have hne : hrs l d ≠ hrs l k := fun hx => h.2 e he (hh.trans hx)
      refine ⟨hne, .inr ?_⟩
      cases hb : (daysOf l (hrs l k) 7).testBit d with
      | false => rfl
      | true => exact absurd ((hbit d hd).1 hb) hne
    · rw [if_neg (fun hh => h1 ((any_iff _ _ _).1 hh))]
      exact ⟨fun e => h.1 e.symm, .inl rfl⟩
  · refine week_ext (addL_len _ _ _ _) (seen_len _ _) (addL_valid (hrs_le hv k) (seen_len _ _) (seen_valid hv _)) (seen_valid hv _) fun d hd => ?_
    rw [addL_hrs _ _ _ hd, seen_hrs _ _ hd, seen_hrs _ _ hd]
    by_cases hb : hrs l d = hrs l k
    · rw [if_pos ((hbit d hd).2 hb), if_pos ((any_iff _ _ _).2 ⟨k, by omega, hb.symm⟩), hb]
    · rw [if_neg (fun hx => hb ((hbit d hd).1 hx))]
      by_cases h1 : ∃ e, e < k ∧ hrs l e = hrs l d
      · rw [if_pos ((any_iff _ _ _).2 h1), if_pos ((any_iff _ _ _).2 ⟨h1.choose, by have := h1.choose_spec.1; omega, h1.choose_spec.2⟩)]
      · rw [if_neg (fun hh => h1 ((any_iff _ _ _).1 hh)), if_neg (fun hh => by
          obtain ⟨e, he, hh⟩ := (any_iff _ _ _).1 hh
          by_cases hk : e = k
          · exact hb (by rw [← hk]; exact hh.symm)
          · exact h1 ⟨e, by omega, hh⟩)]
/-- Reading the groups of a week. -/
theorem read_groups {l : List Int} (hv : validW l = true) : ∀ k, k ≤ 7 → ∃ f, f ≤ k ∧ ∀ ys, psStep (prL l k ++ ys) zeroW 0 0 = psStep ys (seen l k) (prL l k).length f
  | 0, _ => ⟨0, Nat.le_refl _, fun ys => by rw [seen_zero]; rfl⟩
  | k + 1, hk => by
    obtain ⟨f, hf, ih⟩ := read_groups hv k (by omega)
    by_cases h : FirstD l k
    · obtain ⟨d1, d2, d3⟩ := first_days (by omega) h
      obtain ⟨g1, g2⟩ := grp_read d1 d2 (hrs_le hv k) h.1
      obtain ⟨s1, s2⟩ := seen_new hv (by omega) h
      refine ⟨k, by omega, fun ys => ?_⟩
      rw [prL_new h.1 h.2, List.append_assoc, ih, List.singleton_append, ps_ok, g1, g2, s2, d3]
      · simp
      · rw [g1, g2, d3, s1]
        simp [d2, h.1]
        omega
    · exact ⟨f, by omega, fun ys => by rw [prL_old h, ih, seen_old hv h]⟩
theorem prL_form {l : List Int} (hv : validW l = true) : ∀ k, k ≤ 7 → ∀ x ∈ prL l k, ∃ d h, x = grpT d h ∧ d ≤ 127 ∧ d ≠ 0 ∧ h ≤ 16777215 ∧ h ≠ 0
  | 0, _, x, hx => by cases hx
  | k + 1, hk, x, hx => by
    by_cases h : FirstD l k
    · rw [prL_new h.1 h.2] at hx
      rcases List.mem_append.1 hx with hx | hx
      · exact prL_form hv k (by omega) x hx
      · simp at hx
        obtain ⟨d1, d2, -⟩ := first_days (by omega) h
        exact ⟨_, _, hx, d1, d2, hrs_le hv k, h.1⟩
    · rw [prL_old h] at hx; exact prL_form hv k (by omega) x hx
theorem prL_none {l : List Int} (h0 : ∀ d, d < 7 → hrs l d = 0) : ∀ k, k ≤ 7 → prL l k = []
  | 0, _ => rfl
  | k + 1, hk => by
    rw [prL_old (fun h => h.1 (h0 k (by omega)))]
    exact prL_none h0 k (by omega)
theorem ptl_groups {l : List Int} (hv : validW l = true) (hne : prL l 7 ≠ []) {t : ByteArray} (ht : t = ⟨(Lib.join ((prL l 7).map (·.data.toList)) semi.data.toList).toArray⟩) : ptl semi (t.size + 1) t = prL l 7 := by
  have hl : (prL l 7).length ≤ t.size + 1 := by
    have := join_many ((prL l 7).map (·.data.toList)) 59 [32]
    rw [List.length_map] at this
    rw [ht]
    show _ ≤ (List.toArray _).size + 1
    rw [List.size_toArray]
    exact this
  generalize t.size + 1 = f at *
  rw [ht]
  exact ptl_join (sep := semi) (c := 59) (tl := [32]) rfl (prL l 7) f hne (fun x hx => by
    obtain ⟨d, h, rfl, h1, -, h2, -⟩ := prL_form hv 7 (by omega) x hx
    exact grpT_free h1 h2) hl
/-- Parse gives back each valid week from its text. -/
theorem parse_print {l : List Int} (h7 : l.length = 7) (hv : validW l = true) : parseV (printV l).1 = (l, (prL l 7).length, 0) := by
  by_cases h0 : ∀ d, d < 7 → hrs l d = 0
  · rw [print_never hv h0]
    unfold parseV
    rw [if_pos rfl, prL_none h0 7 (by omega)]
    rw [week_ext (l := l) (m := zeroW) h7 rfl hv zero_valid (fun d hd => by rw [h0 d hd, zero_hrs])]
    rfl
  · rw [print_some hv h0]
    obtain ⟨t, ht⟩ : ∃ t : ByteArray, t = ⟨(Lib.join ((prL l 7).map (·.data.toList)) semi.data.toList).toArray⟩ := ⟨_, rfl⟩
    have hne : prL l 7 ≠ [] := by
      obtain ⟨d, hd⟩ := Classical.not_forall.1 h0
      obtain ⟨hd7, hd0⟩ := Classical.not_imp.1 hd
      exact prL_ne hd0 7 hd7
    have hp := ptl_groups hv hne ht
    show parseV ⟨(Lib.join ((prL l 7).map (·.data.toList)) semi.data.toList).toArray⟩ = _
    rw [← ht]
    have hnn : t ≠ never := by
      intro e
      have hk : ptl semi (never.size + 1) never = [never] := by decide +kernel
      rw [e, hk] at hp
      obtain ⟨d, h, e2, h1, h2, h3, h4⟩ := prL_form hv 7 (by omega) never (by rw [← hp]; simp)
      have := (grp_read h1 h2 h3 h4).1
      rw [← e2] at this
      exact h2 (this.symm.trans (by decide +kernel))
    unfold parseV
    rw [if_neg hnn, hp]
    obtain ⟨f, -, hf⟩ := read_groups hv 7 (by omega)
    have := hf []
    rw [List.append_nil, seen_all h7 hv] at this
    rw [this]
    rfl
theorem print_ok {l : List Int} (hv : validW l = true) : (printV l).2 = 0 := by
  unfold printV
  rw [hv, if_pos rfl]
  split <;> rfl
/-- One more group. -/
theorem add_group {l : List Int} {d h f : Nat} (hd : d ≤ 127) (hd0 : d ≠ 0) (hh0 : h ≠ 0) (hf : ∀ k, k < 7 → FirstD l k → k ≤ f) (hc : f ≤ Lib.ctz 64 d) (hn : newG d h l = true) :
    prL (addL d h l 7) 7 = prL l 7 ++ [grpT d h] ∧ ∀ k, k < 7 → FirstD (addL d h l 7) k → k ≤ Lib.ctz 64 d := by
  obtain ⟨c1, c2⟩ := ctz_bit (x := d) (by omega) hd0
  generalize Lib.ctz 64 d = c at *
  rw [newG_iff] at hn
  have hc7 : c < 7 := by
    by_cases hh : c < 7
    · exact hh
    · rw [Nat.testBit_lt_two_pow (Nat.lt_of_lt_of_le (show d < 2 ^ 7 by omega) (Nat.pow_le_pow_right (by decide) (by omega)))] at c1; cases c1
  have hr : ∀ k, k < 7 → hrs (addL d h l 7) k = if d.testBit k then h else hrs l k := fun k hk => addL_hrs d h l hk
  generalize addL d h l 7 = m at *
  have hA : daysOf m h 7 = d := by
    apply Nat.eq_of_testBit_eq
    intro k
    rw [days_bit]
    by_cases hk : k < 7
    · rw [hr k hk]
      cases hb : d.testBit k with
      | true => simp [hk, hh0]
      | false => simp [(hn k hk).1]
    · rw [Nat.testBit_lt_two_pow (Nat.lt_of_lt_of_le (show d < 2 ^ 7 by omega) (Nat.pow_le_pow_right (by decide) (by omega))), decide_eq_false (fun hx => hk hx.1)]
  have hB : ∀ g, g ≠ 0 → g ≠ h → daysOf m g 7 = daysOf l g 7 := by
    intro g g0 gh
    apply Nat.eq_of_testBit_eq
    intro k
    rw [days_bit, days_bit]
    by_cases hk : k < 7
    · rw [hr k hk]
      cases hb : d.testBit k with
      | true =>
        rw [if_pos rfl]
        have hz : hrs l k = 0 := by
          rcases (hn k hk).2 with h1 | h1
          · exact h1
          · rw [hb] at h1; cases h1
        rw [hz, decide_eq_false (fun hx => gh hx.2.2.symm), decide_eq_false (fun hx => g0 hx.2.2.symm)]
      | false => rfl
    · rw [decide_eq_false (fun hx => hk hx.1), decide_eq_false (fun hx => hk hx.1)]
  have hlow : ∀ k, k < c → hrs m k = hrs l k := fun k hk => by rw [hr k (by omega), c2 k hk]; rfl
  have hC : ∀ k, k ≤ c → prL m k = prL l k := by
    intro k
    induction k with
    | zero => intro _; rfl
    | succ k ih =>
      intro hk
      have e := hlow k (by omega)
      have hiff : FirstD m k ↔ FirstD l k := by
        unfold FirstD
        rw [e]
        exact and_congr Iff.rfl (forall_congr' fun x => imp_congr_right fun hx => by rw [hlow x (by omega)])
      by_cases hF : FirstD l k
      · have hF' := hiff.2 hF
        rw [prL_new hF.1 hF.2, prL_new hF'.1 hF'.2, ih (by omega), e, hB _ hF.1 (hn k (by omega)).1]
      · rw [prL_old hF, prL_old (fun hx => hF (hiff.1 hx)), ih (by omega)]
  have hlc : hrs l c = 0 := by
    rcases (hn c hc7).2 with h1 | h1
    · exact h1
    · rw [c1] at h1; cases h1
  have hD : ∀ k, c ≤ k → k ≤ 7 → prL l k = prL l c := by
    intro k
    induction k with
    | zero => intro h1 _; rw [show c = 0 by omega]
    | succ k ih =>
      intro h1 h2
      by_cases hk : c = k + 1
      · rw [hk]
      · rw [prL_old (fun hF => by
          have := hf k (by omega) hF
          have e : k = c := by omega
          rw [e] at hF
          exact hF.1 hlc), ih (by omega) (by omega)]
  have hmc : hrs m c = h := by rw [hr c hc7, c1]; rfl
  have hE : FirstD m c := ⟨by rw [hmc]; exact hh0, fun e he => by rw [hmc, hlow e he]; exact (hn e (by omega)).1⟩
  have hF : ∀ k, k < 7 → FirstD m k → k ≤ c := by
    intro k hk hFk
    apply Classical.byContradiction
    intro hgt
    cases hb : d.testBit k with
    | true => exact hFk.2 c (by omega) (by rw [hmc, hr k hk, hb]; rfl)
    | false =>
      have e : hrs m k = hrs l k := by rw [hr k hk, hb]; rfl
      have : FirstD l k := ⟨by rw [← e]; exact hFk.1, fun x hx => by
        have := hFk.2 x hx
        rw [e, hr x (by omega)] at this
        cases hbx : d.testBit x with
        | true =>
          have hz : hrs l x = 0 := by
            rcases (hn x (by omega)).2 with h1 | h1
            · exact h1
            · rw [hbx] at h1; cases h1
          rw [hz, ← e]
          exact fun hx => hFk.1 hx.symm
        | false => rw [hbx] at this; exact this⟩
      have := hf k hk this
      omega
  have hG : ∀ k, c + 1 ≤ k → k ≤ 7 → prL m k = prL m (c + 1) := by
    intro k
    induction k with
    | zero => intro h1; omega
    | succ k ih =>
      intro h1 h2
      by_cases hk : c = k
      · rw [hk]
      · rw [prL_old (fun hx => by have := hF k (by omega) hx; omega), ih (by omega) (by omega)]
  refine ⟨?_, hF⟩
  rw [hG 7 (by omega) (by omega), prL_new hE.1 hE.2, hC c (Nat.le_refl _), hD 7 (by omega) (Nat.le_refl _), hmc, hA]
theorem read_back : ∀ (xs : List ByteArray) {l : List Int} {n f : Nat} {m : List Int} {N : Nat}, l.length = 7 → validW l = true → (∀ k, k < 7 → FirstD l k → k ≤ f) → psStep xs l n f = (m, N, 0) → m.length = 7 ∧ validW m = true ∧ prL m 7 = prL l 7 ++ xs ∧ N = n + xs.length
  | [], l, n, f, m, N, h7, hv, _, h => by
    have e : (l, n, (0 : Int)) = (m, N, 0) := h
    injection e with e1 e2
    injection e2 with e2 _
    subst e1; subst e2
    exact ⟨h7, hv, by simp, by simp⟩
  | x :: xs, l, n, f, m, N, h7, hv, hf, h => by
    by_cases hb : grpDays x = 0 ∨ grpHours x = 0 ∨ Lib.ctz 64 (grpDays x) < f ∨ newG (grpDays x) (grpHours x) l = false
    · rw [ps_bad hb] at h
      injection h with _ h
      injection h with _ h
      exact absurd h (by decide)
    · rw [ps_ok hb] at h
      have h1 : grpDays x ≠ 0 := fun e => hb (.inl e)
      have h2 : grpHours x ≠ 0 := fun e => hb (.inr (.inl e))
      have h3 : f ≤ Lib.ctz 64 (grpDays x) := by
        apply Classical.byContradiction
        exact fun e => hb (.inr (.inr (.inl (by omega))))
      have h4 : newG (grpDays x) (grpHours x) l = true := by
        cases hg : newG (grpDays x) (grpHours x) l with
        | true => rfl
        | false => exact absurd (.inr (.inr (.inr hg))) hb
      obtain ⟨w1, w2⟩ := grp_write h1 h2
      obtain ⟨a1, a2⟩ := add_group w2 h1 h2 hf h3 h4
      obtain ⟨r1, r2, r3, r4⟩ := read_back xs (addL_len _ _ _ _) (addL_valid (grpHours_le x) h7 hv) a2 h
      refine ⟨r1, r2, ?_, by rw [r4]; simp; omega⟩
      rw [r3, a1, ← w1, List.append_assoc]; rfl
theorem zero_first (k : Nat) : ¬ FirstD zeroW k := fun h => h.1 (zero_hrs k)
/-- What Parse accepts is the text of what it returns. -/
theorem print_parse {u : ByteArray} {l : List Int} {n : Nat} (h : parseV u = (l, n, 0)) : l.length = 7 ∧ validW l = true ∧ printV l = (u, 0) ∧ n = (prL l 7).length := by
  unfold parseV at h
  by_cases hn : u = never
  · rw [if_pos hn] at h
    injection h with e1 e2
    injection e2 with e2 _
    subst e1; subst e2
    refine ⟨rfl, zero_valid, ?_, by rw [prL_none (fun d _ => zero_hrs d) 7 (by omega)]; rfl⟩
    rw [print_never zero_valid (fun d _ => zero_hrs d), hn]
  · rw [if_neg hn] at h
    obtain ⟨r1, r2, r3, r4⟩ := read_back _ (l := zeroW) rfl zero_valid (fun k _ hF => absurd hF (zero_first k)) h
    rw [prL_none (fun d _ => zero_hrs d) 7 (by omega), List.nil_append] at r3
    obtain ⟨x, L, hx⟩ := ptl_ne semi (u.size + 1) u (by omega)
    refine ⟨r1, r2, ?_, by rw [r4, r3]; simp⟩
    rw [print_some r2 (fun h0 => by rw [prL_none h0 7 (by omega), hx] at r3; cases r3), r3]
    have hj := join_ptl (sep := semi) (by decide) (u.size + 1) u (by omega)
    congr 1
    exact ba_ext hj
theorem ps_err : ∀ (xs : List ByteArray) (l : List Int) (n f : Nat), (psStep xs l n f).2.2 = 0 ∨ ((psStep xs l n f).2.2 = 60 ∧ (psStep xs l n f).1 = zeroW)
  | [], l, n, f => .inl rfl
  | x :: xs, l, n, f => by
    by_cases hb : grpDays x = 0 ∨ grpHours x = 0 ∨ Lib.ctz 64 (grpDays x) < f ∨ newG (grpDays x) (grpHours x) l = false
    · rw [ps_bad hb]; exact .inr ⟨rfl, rfl⟩
    · rw [ps_ok hb]; exact ps_err xs _ _ _
theorem parse_err (u : ByteArray) : (parseV u).2.2 = 0 ∨ ((parseV u).2.2 = 60 ∧ (parseV u).1 = zeroW) := by
  unfold parseV
  split
  · exact .inl rfl
  · exact ps_err _ _ _ _
end Go.Proofs.YtmfpaankkoaoaaaDoor

/- What WeekTexts asks of Print and Parse at its texts; rows of bytes. -/
namespace Go.Proofs.YtmfpaankkoaoaaaDoor
open Go.RowKit Go.Shelf

theorem print_size {l : List Int} (h7 : l.length = 7) (hv : validW l = true) : 0 < (printV l).1.size ∧ (printV l).1.size ≤ 100000 := by
  constructor
  · apply Classical.byContradiction
    intro h
    have hz : (printV l).1 = ⟨#[]⟩ := by
      apply ba_ext
      have : (printV l).1.data.toList.length = 0 := by
        have e : (printV l).1.data.toList.length = (printV l).1.size := by simp
        omega
      rw [List.length_eq_zero_iff.1 this]
    have hp := parse_print h7 hv
    rw [hz] at hp
    have hk : (parseV ⟨#[]⟩).2.2 = 60 := by decide +kernel
    rw [hp] at hk
    exact absurd (show (0 : Int) = 60 from hk) (by decide)
  · by_cases h0 : ∀ d, d < 7 → hrs l d = 0
    · rw [print_never hv h0]; decide
    · rw [print_some hv h0]
      show (List.toArray _).size ≤ _
      rw [List.size_toArray]
      have h1 := join_len2 semi.data.toList 5501 ((prL l 7).map (·.data.toList)) (fun x hx => by
        obtain ⟨y, hy, rfl⟩ := List.mem_map.1 hx
        have := prL_size l (hrs_le hv) 7 y hy
        have e : y.data.toList.length = y.size := by simp
        omega)
      have h2 := prL_len l 7
      rw [List.length_map, show semi.data.toList.length = 2 from rfl] at h1
      omega
section
variable {l : List Int} {a b c d e f g : Int}
theorem print_k (h : Wk l a b c d e f g) (u : World) (hu : Tabs u) : Calls Tryd.prog 25 #[.agg #[.int .i64 a, .int .i64 b, .int .i64 c, .int .i64 d, .int .i64 e, .int .i64 f, .int .i64 g]] u fun r w' => r = .returned (.tuple #[.string (printV l).1, .int .i64 0]) ∧ Below u.heap.size u w' := by
  have := print_any l h.len u hu
  rwa [h.wv, print_ok h.v] at this
theorem parse_k (h : Wk l a b c d e f g) (u : World) (hu : Tabs u) : Calls Tryd.prog 27 #[.string (printV l).1] u fun r w' => r = .returned (.tuple #[.agg #[.int .i64 a, .int .i64 b, .int .i64 c, .int .i64 d, .int .i64 e, .int .i64 f, .int .i64 g], .int .i64 (((prL l 7).length : Nat) : Int), .int .i64 0]) ∧ Below u.heap.size u w' := by
  have := parse_any (printV l).1 (by have := (print_size h.len h.v).2; omega) u hu
  rwa [parse_print h.len h.v, h.wv] at this
end
/-- What is so of every text: what is accepted is the text of what is returned. -/
def TxtP (U : ByteArray) : Prop := ∃ (a b c d e f g n er : Int) (B : ByteArray), (∀ u, Tabs u → Calls Tryd.prog 27 #[.string U] u fun r w' => r = .returned (.tuple #[.agg #[.int .i64 a, .int .i64 b, .int .i64 c, .int .i64 d, .int .i64 e, .int .i64 f, .int .i64 g], .int .i64 n, .int .i64 er]) ∧ Below u.heap.size u w') ∧
  (∀ u, Tabs u → Calls Tryd.prog 25 #[.agg #[.int .i64 a, .int .i64 b, .int .i64 c, .int .i64 d, .int .i64 e, .int .i64 f, .int .i64 g]] u fun r w' => r = .returned (.tuple #[.string B, .int .i64 0]) ∧ Below u.heap.size u w') ∧
  ((er = 0 ∧ B = U) ∨ (er = 60 ∧ a = 0 ∧ b = 0 ∧ c = 0 ∧ d = 0 ∧ e = 0 ∧ f = 0 ∧ g = 0))
theorem txt_ok (U : ByteArray) (hU : U.size < 4294967281) : TxtP U := by
  have hp := fun u hu => parse_any U hU u hu
  rcases parse_err U with h0 | ⟨h1, h2⟩
  · obtain ⟨l, hl⟩ : ∃ l, (parseV U).1 = l := ⟨_, rfl⟩
    obtain ⟨n, hn⟩ : ∃ n, (parseV U).2.1 = n := ⟨_, rfl⟩
    have e : parseV U = (l, n, 0) := by rw [← hl, ← hn, ← h0]
    obtain ⟨p1, p2, p3, p4⟩ := print_parse e
    obtain ⟨a, b, c, d, e', f, g, K⟩ := wk_of p1 p2
    refine ⟨a, b, c, d, e', f, g, n, 0, U, fun u hu => ?_, fun u hu => ?_, .inl ⟨rfl, rfl⟩⟩
    · have := hp u hu
      rwa [e, K.wv] at this
    · have := print_k K u hu
      rwa [p3] at this
  · obtain ⟨n, hn⟩ : ∃ n, (parseV U).2.1 = n := ⟨_, rfl⟩
    have K : Wk zeroW 0 0 0 0 0 0 0 := ⟨rfl, rfl⟩
    refine ⟨0, 0, 0, 0, 0, 0, 0, n, 60, (printV zeroW).1, fun u hu => ?_, fun u hu => print_k K u hu, .inr ⟨rfl, rfl, rfl, rfl, rfl, rfl, rfl, rfl⟩⟩
    have := hp u hu
    rwa [h1, h2, hn, K.wv] at this
/-- A row of bytes that a string was made into. -/
def RowB (w : World) (B : Nat) (L : List UInt8) : Prop := ∀ j, j < L.length → w.cell? ⟨B, j, none⟩ = some (.int .u8 ((L.getD j 0).toNat : Int)) ∧ w.frozen? ⟨B, j, none⟩ = false
theorem RowB.set {w : World} {B k : Nat} {L : List UInt8} {b : UInt8} (h : RowB w B L) (hk : k < L.length) : RowB (w.setCell ⟨B, k, none⟩ (.int .u8 (b.toNat : Int))) B (L.set k b) := by
  intro j hj
  rw [List.length_set] at hj
  refine ⟨?_, by rw [World.frozen?_setCell]; exact (h j hj).2⟩
  by_cases hjk : j = k
  · subst hjk
    rw [World.cell?_setCell_same' _ _ _ (by rw [(h j hj).1]; rfl)]
    simp [hk]
  · have e : (L.set k b).getD j 0 = L.getD j 0 := by simp [Ne.symm hjk]
    rw [e, ← (h j hj).1]
    exact World.cell?_setCell_other w _ _ _ (by intro e; cases e; exact hjk rfl)
theorem RowB.string {w : World} {B : Nat} {L : List UInt8} (h : RowB w B L) (cap n : Nat) (hn : L.length = n) :
    Sem.run Tryd.prog (Go.convert 48 9 (.slice (some ⟨B, 0, none⟩) n cap)) w = .ok (.string ⟨L.toArray⟩) w := by
  subst hn
  refine run_convert_bytes_back w 48 9 5 ⟨B, 0, none⟩ cap L Tryd.underlying48 Tryd.underlying5 Tryd.underlying9 fun j hj => ?_
  rw [show (⟨B, 0, none⟩ : Addr).add j = ⟨B, j, none⟩ from by simp [Addr.add]; omega, (h j hj).1]
  simp [List.getElem?_eq_getElem hj]
theorem RowB.made (w : World) (u : ByteArray) (cap : Nat) : RowB (w.drew.alloc (.cells (bytesRow u cap) 5 ((bytesRow u cap).size, (bytesRow u cap).size + 1))) w.heap.size u.data.toList := by
  intro j hj
  have hj2 : j < u.data.size := by simpa using hj
  have hsz : u.data.size ≤ (bytesRow u cap).size := by simp [bytesRow]
  constructor
  · have := World.cell?_alloc_mark w.drew (bytesRow u cap) 5 ((bytesRow u cap).size, (bytesRow u cap).size + 1) j
    rw [show w.drew.heap.size = w.heap.size from rfl] at this
    rw [this, bytesRow_at u cap j hj2]
    simp [List.getElem?_eq_getElem hj]
  · have := World.frozen?_alloc_mark w.drew (bytesRow u cap) 5 (bytesRow u cap).size ((bytesRow u cap).size + 1) j
    rw [show w.drew.heap.size = w.heap.size from rfl] at this
    rw [this]; simp; omega
/-- How many groups there are, counted day by day. -/
def anyB (l : List Int) (j k : Nat) : Bool := (List.range j).any fun e => hrs l e == hrs l k
theorem anyB_step (l : List Int) (j k : Nat) : anyB l (j + 1) k = (anyB l j k || (hrs l j == hrs l k)) := by
  unfold anyB
  rw [List.range_succ, List.any_append]; simp
theorem many_new {l : List Int} {k : Nat} (h0 : hrs l k ≠ 0) (h : anyB l k k = false) : (prL l (k + 1)).length = (prL l k).length + 1 := by
  rw [prL_new h0 (fun d hd e => by
    have : anyB l k k = true := (any_iff l k k).2 ⟨d, hd, e⟩
    rw [h] at this; cases this)]
  simp
theorem many_old {l : List Int} {k : Nat} (h : ¬ (hrs l k ≠ 0 ∧ anyB l k k = false)) : (prL l (k + 1)).length = (prL l k).length := by
  rw [prL_old (fun hF => h ⟨hF.1, by
    cases he : anyB l k k with
    | false => rfl
    | true =>
      obtain ⟨d, hd, e⟩ := (any_iff l k k).1 he
      exact absurd e (hF.2 d hd)⟩)]
end Go.Proofs.YtmfpaankkoaoaaaDoor
