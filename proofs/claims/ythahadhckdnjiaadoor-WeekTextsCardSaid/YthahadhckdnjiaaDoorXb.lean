/- Days, hours and groups: what is read was written so, and what is written is read so. -/
import Derived.Test.YthahadhckdnjiaaDoorXa
namespace Go.Proofs.YthahadhckdnjiaaDoor
open Go.RowKit Go.Shelf

theorem dayN_inv {s : ByteArray} (h : 0 ≤ dayN s) : ∃ k : Nat, k < 7 ∧ dayN s = (k : Int) ∧ dayS k = s := by
  unfold dayN at h ⊢
  cases hf : (List.range 7).find? (fun k => decide (dayS k = s)) with
  | none => rw [hf] at h; simp at h
  | some k => exact ⟨k, List.mem_range.1 (List.mem_of_find?_eq_some hf), rfl, by simpa using List.find?_some hf⟩
theorem hourN_inv {s : ByteArray} (h : 0 ≤ hourN s) : ∃ k : Nat, k < 25 ∧ hourN s = (k : Int) ∧ itoaB k = s := by
  unfold hourN at h ⊢
  cases hf : (List.range 25).find? (fun k => decide (itoaB k = s)) with
  | none => rw [hf] at h; simp at h
  | some k => exact ⟨k, List.mem_range.1 (List.mem_of_find?_eq_some hf), rfl, by simpa using List.find?_some hf⟩
theorem rdD_inv (x : ByteArray) (h : ¬ (rdD x).2 ≤ (rdD x).1) : ∃ a b : Nat, a < b ∧ b ≤ 7 ∧ rdD x = ((a : Int), (b : Int)) ∧ x = wrD a b := by
  unfold rdD at h ⊢
  by_cases h1 : dayN (cut1 x dash) < 0
  · rw [if_pos h1] at h; exact absurd (Int.le_refl _) h
  · rw [if_neg h1] at h ⊢
    obtain ⟨a, a1, a2, a3⟩ := dayN_inv (s := cut1 x dash) (by omega)
    rw [a2] at h ⊢
    cases h3 : cut3 x dash with
    | false =>
      rw [if_pos rfl]
      refine ⟨a, a + 1, by omega, by omega, by simp, ?_⟩
      unfold wrD
      rw [if_pos rfl, a3, cutB_false h3]
    | true =>
      rw [h3, if_neg (by simp)] at h
      rw [if_neg (by simp)]
      by_cases h4 : dayN (cut2 x dash) + 1 ≤ (a : Int) + 1
      · rw [if_pos h4] at h; exact absurd (Int.le_refl _) h
      · rw [if_neg h4]
        obtain ⟨b, b1, b2, b3⟩ := dayN_inv (s := cut2 x dash) (by omega)
        rw [b2] at h4 ⊢
        refine ⟨a, b + 1, by omega, by omega, by simp, ?_⟩
        unfold wrD
        rw [if_neg (by omega), show b + 1 - 1 = b from rfl, a3, b3]
        apply ba_ext
        rw [cutB_true h3]
        simp [dash]
theorem rdH_inv (x : ByteArray) (h : ¬ (rdH x).2 ≤ (rdH x).1) : ∃ a b : Nat, a < b ∧ b ≤ 24 ∧ rdH x = ((a : Int), (b : Int)) ∧ x = wrH a b := by
  unfold rdH at h ⊢
  by_cases h1 : hourN (cut1 x dash) < 0 ∨ hourN (cut2 x dash) ≤ hourN (cut1 x dash)
  · rw [if_pos h1] at h; exact absurd (Int.le_refl _) h
  · rw [if_neg h1]
    obtain ⟨a, a1, a2, a3⟩ := hourN_inv (s := cut1 x dash) (by omega)
    obtain ⟨b, b1, b2, b3⟩ := hourN_inv (s := cut2 x dash) (by omega)
    rw [a2, b2] at h1 ⊢
    refine ⟨a, b, by omega, by omega, rfl, ?_⟩
    have h3 : cut3 x dash = true := by
      cases h3 : cut3 x dash with
      | true => rfl
      | false =>
        have h5 := cut2_none x dash h3
        have h6 : ∀ k : Fin 25, (itoaB k.val).size ≠ 0 := by decide +kernel
        rw [← b3] at h5
        exact absurd h5 (h6 ⟨b, b1⟩)
    apply ba_ext
    rw [cutB_true h3, ← a3, ← b3]
    simp [wrH, dash]
theorem rdD_wr (a b : Nat) (h : a < b) (hb : b ≤ 7) : rdD (wrD a b) = ((a : Int), (b : Int)) := by
  have hh : ∀ a b : Fin 8, a.val < b.val → rdD (wrD a.val b.val) = ((a.val : Int), (b.val : Int)) := by decide +kernel
  exact hh ⟨a, by omega⟩ ⟨b, by omega⟩ h
theorem rdH_wr (a b : Nat) (h : a < b) (hb : b ≤ 24) : rdH (wrH a b) = ((a : Int), (b : Int)) := by
  have hh : ∀ a b : Fin 25, a.val < b.val → rdH (wrH a.val b.val) = ((a.val : Int), (b.val : Int)) := by decide +kernel
  exact hh ⟨a, by omega⟩ ⟨b, by omega⟩ h
theorem wrD_free (a b : Nat) (h : a < b) (hb : b ≤ 7) : (44 : UInt8) ∉ (wrD a b).data.toList ∧ (32 : UInt8) ∉ (wrD a b).data.toList ∧ (59 : UInt8) ∉ (wrD a b).data.toList := by
  have hh : ∀ a b : Fin 8, a.val < b.val → (44 : UInt8) ∉ (wrD a.val b.val).data.toList ∧ (32 : UInt8) ∉ (wrD a.val b.val).data.toList ∧ (59 : UInt8) ∉ (wrD a.val b.val).data.toList := by decide +kernel
  exact hh ⟨a, by omega⟩ ⟨b, by omega⟩ h
theorem wrH_free (a b : Nat) (h : a < b) (hb : b ≤ 24) : (44 : UInt8) ∉ (wrH a b).data.toList ∧ (32 : UInt8) ∉ (wrH a b).data.toList ∧ (59 : UInt8) ∉ (wrH a b).data.toList := by
  have hh : ∀ a b : Fin 25, a.val < b.val → (44 : UInt8) ∉ (wrH a.val b.val).data.toList ∧ (32 : UInt8) ∉ (wrH a.val b.val).data.toList ∧ (59 : UInt8) ∉ (wrH a.val b.val).data.toList := by decide +kernel
  exact hh ⟨a, by omega⟩ ⟨b, by omega⟩ h
/-- The texts of a set's runs. -/
def runT (wr : Nat → Nat → ByteArray) (s : Nat) : List ByteArray := (rl 25 s 0).map fun r => wr r.1 r.2
theorem runT_ne {wr : Nat → Nat → ByteArray} {s : Nat} (h0 : s ≠ 0) : runT wr s ≠ [] := by
  unfold runT
  rw [show (25 : Nat) = 24 + 1 from rfl, rl_cons _ _ _ (by simpa using h0) (by omega)]
  simp
theorem wrRuns_eq (sep : List UInt8) (wr : Nat → Nat → ByteArray) (s : Nat) : wrRuns sep wr s = ⟨(Lib.join ((runT wr s).map (·.data.toList)) sep).toArray⟩ := rfl
theorem ptl_runs {sep : ByteArray} {c : UInt8} (hs : sep.data.toList = [c]) {wr : Nat → Nat → ByteArray} {s : Nat} (h0 : s ≠ 0) (hf : ∀ q ∈ rl 25 s 0, c ∉ (wr q.1 q.2).data.toList) : ptl sep ((wrRuns [c] wr s).size + 1) (wrRuns [c] wr s) = runT wr s := by
  have hl : (runT wr s).length ≤ (wrRuns [c] wr s).size + 1 := by
    have := join_many ((runT wr s).map (·.data.toList)) c []
    rw [List.length_map] at this
    rw [wrRuns_eq]
    show _ ≤ (List.toArray _).size + 1
    rw [List.size_toArray]
    exact this
  generalize (wrRuns [c] wr s).size + 1 = f at *
  rw [wrRuns_eq]
  exact ptl_join hs (runT wr s) f (runT_ne h0) (fun x hx => by
    obtain ⟨q, hq, rfl⟩ := List.mem_map.1 hx
    exact hf q hq) hl
theorem days_mem {d : Nat} (h : d ≤ 127) : ∀ q ∈ rl 25 d 0, q.1 < q.2 ∧ q.2 ≤ 7 := fun q hq => rl_mem7 d h q hq
theorem hours_mem {h : Nat} (hh : h ≤ 16777215) : ∀ q ∈ rl 25 h 0, q.1 < q.2 ∧ q.2 ≤ 24 := fun q hq => (rl_mem h hh 25 0 (by omega) q hq).2
theorem wrRuns_free {c e : UInt8} (hne : c ≠ e) {wr : Nat → Nat → ByteArray} {s : Nat} (hf : ∀ q ∈ rl 25 s 0, c ∉ (wr q.1 q.2).data.toList) : c ∉ (wrRuns [e] wr s).data.toList := by
  rw [wrRuns_eq]
  show c ∉ Lib.join ((runT wr s).map (·.data.toList)) [e]
  refine join_mem _ _ (by simpa using hne) fun x hx => ?_
  obtain ⟨y, hy, rfl⟩ := List.mem_map.1 hx
  obtain ⟨q, hq, rfl⟩ := List.mem_map.1 hy
  exact hf q hq
theorem grp_cut {d h : Nat} (hd : d ≤ 127) : cut1 (grpT d h) space = wrRuns [44] wrD d ∧ cut2 (grpT d h) space = wrRuns [32] wrH h ∧ cut3 (grpT d h) space = true := by
  have hc : (32 : UInt8) ∉ (wrRuns [44] wrD d).data.toList := wrRuns_free (by decide) fun q hq => (wrD_free q.1 q.2 (days_mem hd q hq).1 (days_mem hd q hq).2).2.1
  have := cut_hit (tl := []) hc (wrRuns [32] wrH h).data.toList
  have e : (grpT d h).data.toList = (wrRuns [44] wrD d).data.toList ++ ([32] ++ (wrRuns [32] wrH h).data.toList) := by
    unfold grpT; simp
  rw [← e] at this
  exact cut_of (s := grpT d h) (sep := space) this
/-- What is written of a group is read so. -/
theorem grp_read {d h : Nat} (hd : d ≤ 127) (hd0 : d ≠ 0) (hh : h ≤ 16777215) (hh0 : h ≠ 0) : grpDays (grpT d h) = d ∧ grpHours (grpT d h) = h := by
  obtain ⟨c1, c2, -⟩ := grp_cut (h := h) hd
  unfold grpDays grpHours
  rw [c1, c2]
  constructor
  · rw [ptl_runs (sep := comma) (c := 44) rfl hd0 (fun q hq => (wrD_free q.1 q.2 (days_mem hd q hq).1 (days_mem hd q hq).2).1)]
    exact runs_read (N := 7) rdD_wr d (by omega) (fun q hq => (days_mem hd q hq).2)
  · rw [ptl_runs (sep := space) (c := 32) rfl hh0 (fun q hq => (wrH_free q.1 q.2 (hours_mem hh q hq).1 (hours_mem hh q hq).2).2.1)]
    exact runs_read (N := 24) rdH_wr h hh (fun q hq => (hours_mem hh q hq).2)
theorem runs_back {sep : ByteArray} {c : UInt8} (hs : sep.data.toList = [c]) {N : Nat} (hN : N ≤ 24) {rd : ByteArray → Int × Int} {wr : Nat → Nat → ByteArray} (hi : ∀ x, ¬ (rd x).2 ≤ (rd x).1 → ∃ a b : Nat, a < b ∧ b ≤ N ∧ rd x = ((a : Int), (b : Int)) ∧ x = wr a b) (x : ByteArray) (h : rdStep rd (ptl sep (x.size + 1) x) 0 (-1) ≠ 0) :
    x = wrRuns [c] wr (rdStep rd (ptl sep (x.size + 1) x) 0 (-1)) ∧ rdStep rd (ptl sep (x.size + 1) x) 0 (-1) < 2 ^ N := by
  obtain ⟨h1, h2⟩ := runs_write hN hi _ h
  refine ⟨?_, h2⟩
  rw [wrRuns_eq]
  unfold runT
  rw [← h1]
  apply ba_ext
  have := join_ptl (sep := sep) (by rw [hs]; simp) (x.size + 1) x (by omega)
  rw [hs] at this
  exact this.symm
/-- What is read as a group had been written so. -/
theorem grp_write {x : ByteArray} (h1 : grpDays x ≠ 0) (h2 : grpHours x ≠ 0) : x = grpT (grpDays x) (grpHours x) ∧ grpDays x ≤ 127 := by
  obtain ⟨d1, d2⟩ := runs_back (sep := comma) (c := 44) rfl (N := 7) (by omega) rdD_inv (cut1 x space) h1
  obtain ⟨e1, -⟩ := runs_back (sep := space) (c := 32) rfl (N := 24) (by omega) rdH_inv (cut2 x space) h2
  have h3 : cut3 x space = true := by
    cases h3 : cut3 x space with
    | true => rfl
    | false =>
      have hz : (cut2 x space).size = 0 := cut2_none x space h3
      have he : cut2 x space = ⟨#[]⟩ := by
        apply ba_ext
        have : (cut2 x space).data.toList.length = 0 := by simpa using hz
        rw [List.length_eq_zero_iff.1 this]
      unfold grpHours at h2
      rw [he] at h2
      exact absurd (by decide +kernel) h2
  refine ⟨?_, by have : grpDays x < 2 ^ 7 := d2; omega⟩
  apply ba_ext
  rw [cutB_true h3]
  have f1 : cut1 x space = wrRuns [44] wrD (grpDays x) := d1
  have f2 : cut2 x space = wrRuns [32] wrH (grpHours x) := e1
  rw [f1, f2]
  unfold grpT
  simp [space]
theorem grpT_free {d h : Nat} (hd : d ≤ 127) (hh : h ≤ 16777215) : (59 : UInt8) ∉ (grpT d h).data.toList := by
  have h1 : (59 : UInt8) ∉ (wrRuns [44] wrD d).data.toList := wrRuns_free (by decide) fun q hq => (wrD_free q.1 q.2 (days_mem hd q hq).1 (days_mem hd q hq).2).2.2
  have h2 : (59 : UInt8) ∉ (wrRuns [32] wrH h).data.toList := wrRuns_free (by decide) fun q hq => (wrH_free q.1 q.2 (hours_mem hh q hq).1 (hours_mem hh q hq).2).2.2
  unfold grpT
  simp [h1, h2]
end Go.Proofs.YthahadhckdnjiaaDoor
