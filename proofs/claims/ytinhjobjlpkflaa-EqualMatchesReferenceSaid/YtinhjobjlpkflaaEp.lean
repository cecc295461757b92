/- The open claims in their order. -/
import Derived.Test.YtinhjobjlpkflaaEo
namespace Go.Proofs.Ytinhjobjlpkflaa
open Go.RowKit Go.Shelf
attribute [local go_sem ↓] append_appN

/-- Does x stand before y, or level with it? -/
def leC (x y : Cl) : Bool := decide (x.of_ < y.of_) || (decide (x.of_ = y.of_) && decide (x.cand ≤ y.cand))
theorem leC_iff {x y : Cl} : leC x y = true ↔ ¬ (y.of_ < x.of_ ∨ y.of_ = x.of_ ∧ y.cand < x.cand) := by
  unfold leC
  simp only [Bool.or_eq_true, Bool.and_eq_true, decide_eq_true_eq]
  omega
def insC (x : Cl) : List Cl → List Cl
  | [] => [x]
  | y :: l => if leC x y then x :: y :: l else y :: insC x l
def sortC : List Cl → List Cl
  | [] => []
  | x :: l => insC x (sortC l)
theorem insC_perm (x : Cl) : ∀ l, (x :: l).Perm (insC x l)
  | [] => List.Perm.refl _
  | y :: l => by
    unfold insC
    split
    · exact List.Perm.refl _
    · exact (List.Perm.swap y x l).trans ((insC_perm x l).cons y)
theorem sortC_perm : ∀ l : List Cl, l.Perm (sortC l)
  | [] => List.Perm.refl _
  | x :: l => ((sortC_perm l).cons x).trans (insC_perm x _)
theorem insC_asc (x : Cl) : ∀ l, l.Pairwise (fun a b => leC a b = true) → (insC x l).Pairwise (fun a b => leC a b = true)
  | [], _ => by simp [insC]
  | y :: l, h => by
    obtain ⟨h1, h2⟩ := List.pairwise_cons.1 h
    unfold insC
    split
    · rename_i hxy
      refine List.pairwise_cons.2 ⟨fun z hz => ?_, h⟩
      rcases List.mem_cons.1 hz with rfl | hz
      · exact hxy
      · have h3 := h1 z hz
        rw [leC_iff] at *
        omega
    · rename_i hxy
      refine List.pairwise_cons.2 ⟨fun z hz => ?_, insC_asc x l h2⟩
      rcases List.mem_cons.1 ((insC_perm x l).symm.mem_iff.1 hz) with rfl | hz
      · rw [leC_iff] at *
        omega
      · exact h1 z hz
theorem sortC_asc : ∀ l : List Cl, (sortC l).Pairwise (fun a b => leC a b = true)
  | [] => List.Pairwise.nil
  | x :: l => insC_asc x _ (sortC_asc l)
theorem asc_pair {c : List Cl} (h : AscC c) : c.Pairwise (fun a b => leC a b = true) := by
  rw [List.pairwise_iff_getElem]
  intro i j hi hj hij
  exact leC_iff.2 (h i j _ _ hij (List.getElem?_eq_getElem hi) (List.getElem?_eq_getElem hj))
theorem asc_unique {l c : List Cl} (hk : ∀ a ∈ l, ∀ b ∈ l, a.of_ = b.of_ → a.cand = b.cand → a = b) (hp : l.Perm c) (h : AscC c) : c = sortC l := by
  refine List.Perm.eq_of_pairwise (le := fun a b => leC a b = true) (fun a b ha hb h1 h2 => ?_) (asc_pair h) (sortC_asc l) (hp.symm.trans (sortC_perm l))
  rw [leC_iff] at h1 h2
  exact hk a (hp.symm.mem_iff.1 ha) b ((sortC_perm l).symm.mem_iff.1 hb) (by omega) (by omega)
theorem flat_keys {n k : Nat} {s : Ac} (h : AcOk n k s) : ∀ a ∈ s.op.flatten, ∀ b ∈ s.op.flatten, a.of_ = b.of_ → a.cand = b.cand → a = b := fun a ha b hb e1 e2 => by
  obtain ⟨L1, h1, h2⟩ := List.mem_flatten.1 ha
  obtain ⟨L2, h3, h4⟩ := List.mem_flatten.1 hb
  obtain ⟨i, hi, rfl⟩ := List.getElem_of_mem h1
  obtain ⟨j, hj, rfl⟩ := List.getElem_of_mem h3
  have gi : s.op.getD i [] = s.op[i] := by simp [List.getD_eq_getElem?_getD, hi]
  have gj : s.op.getD j [] = s.op[j] := by simp [List.getD_eq_getElem?_getD, hj]
  have c1 := (h.cand i a (by rw [gi]; exact h2)).1
  have c2 := (h.cand j b (by rw [gj]; exact h4)).1
  obtain rfl : i = j := by omega
  have hp := h.asc i
  rw [gi] at hp
  rw [List.pairwise_iff_getElem] at hp
  obtain ⟨p, hpl, rfl⟩ := List.getElem_of_mem h2
  obtain ⟨q, hql, rfl⟩ := List.getElem_of_mem h4
  rcases Nat.lt_trichotomy p q with hpq | rfl | hpq
  · have := hp p q hpl hql hpq; omega
  · rfl
  · have := hp q p hql hpl hpq; omega
/-- The claims that are open, in their order. -/
def clV (n : Nat) (l : List Ap) (now : Int) : List Cl := sortC (accV n l now).op.flatten
set_option maxRecDepth 100000 in
set_option maxHeartbeats 8000000 in
theorem claims_any (w : World) (g n : Nat) (s : Ac) (xs : List Value) (w0 : World) (h : AcS w g n s xs w0) (hl : ∀ x ∈ s.op, x.length ≤ 1000) :
    Calls Try.prog 33 #[pt g] w0 fun e w' => ∃ v, e = .returned v ∧ ∃ c, s.op.flatten.Perm c ∧ AscC c ∧ GatC w0 c v w' := by
  have HCC := Lib.hid (concat_any w g n s xs w0 h hl)
  have HFL := Lib.hid (show s.op.flatten.length ≤ 100000 by have h1 := flat_bound hl 8; rw [List.take_of_length_le (by rw [h.lo]; omega)] at h1; omega)
  have lg := h.row.lt
  clear h hl
  go_enter Try.func33, Try.ntmps33
  go_wp2_with (first | (go_at_call 40; (with_reducible refine Calls.mono HCC.out ?_); rintro r u1 ⟨v, rfl, hg⟩; have HG := Lib.hid hg; have hs := sort_any w0.heap.size v _ s.op.flatten u1 hg.own rfl HFL.out hg.b.size; have HST := Lib.hid hs; clear hg hs) | (go_at_call 41; (with_reducible refine Calls.mono HST.out ?_); unfold SortPost; rintro r u2 ⟨rfl, c, hp, ha, ho, hb⟩; have HP := Lib.hid hp; have HA := Lib.hid ha; have HO := Lib.hid ho; have HB := Lib.hid hb; clear hp ha ho hb))
  go_ret
  exact ⟨_, rfl, c, HP.out, HA.out, by rw [← HP.out.length_eq]; exact HO.out, HG.out.b.trans HB.out⟩
set_option maxRecDepth 100000 in
set_option maxHeartbeats 8000000 in
theorem Claims_bad (m now : Int) (l : List Ap) (A : Option Addr) (n c : Nat) (w : World) (hr : Recs encP 4 w w.heap.size (.slice A n c) l) (hbad : (validA m l && nowB now) = false) :
    Calls Try.prog 16 #[.int .i64 m, .slice A n c, .int .i64 now] w fun e w' => e = .returned (.tuple #[.slice none 0 0, .int .i64 130]) ∧ Below w.heap.size w w' := by
  have HV := Lib.hid (accAt_bad m now l A n c w hr hbad)
  clear hr hbad
  go_enter Try.func16, Try.ntmps16
  go_wp2_with (go_at_call 32; (with_reducible refine Calls.mono HV.out ?_); rintro r u1 ⟨rfl, hb⟩; have HB1 := Lib.hid hb; clear hb)
  refine bodyPost_ret (results_tmp2 rfl _ _ _) rfl ?_
  exact ⟨rfl, HB1.out⟩
theorem op_len {n k : Nat} {s : Ac} (h : AcOk n k s) (hk : k ≤ 60) : ∀ x ∈ s.op, x.length ≤ 1000 := fun x hx => by
  obtain ⟨i, hi, rfl⟩ := List.getElem_of_mem hx
  have gi : s.op.getD i [] = s.op[i] := by simp [List.getD_eq_getElem?_getD, hi]
  have := h.len i
  rw [gi] at this
  omega
set_option maxRecDepth 100000 in
set_option maxHeartbeats 8000000 in
theorem Claims_ok (m : Nat) (now : Int) (l : List Ap) (A : Option Addr) (n c : Nat) (w : World) (hr : Recs encP 4 w w.heap.size (.slice A n c) l) (hv : validA (m : Int) l = true) (hnow : nowB now = true) :
    Calls Try.prog 16 #[.int .i64 (m : Int), .slice A n c, .int .i64 now] w fun e w' => ∃ v, e = .returned (.tuple #[v, .int .i64 0]) ∧ GatC w (clV m l now) v w' := by
  obtain ⟨v0, v1, v2, v3⟩ := validA_parts hv
  have hok := acc_ok (now := now) (show 2 ≤ m by omega) (by omega) v3 l.length (Nat.le_refl _)
  have HOL := Lib.hid (op_len hok v2)
  have HOK := Lib.hid (flat_keys hok)
  have HV := Lib.hid (accAt_ok m now l A n c w hr hv hnow)
  clear hr hv hnow v0 v1 v2 v3 hok
  go_enter Try.func16, Try.ntmps16
  go_wp2_with (first | (go_at_call 32; (with_reducible refine Calls.mono HV.out ?_); rintro r u1 ⟨g, rfl, xs, hs⟩; have HS := Lib.hid hs; have HCL := Lib.hid (claims_any w g m _ xs u1 hs HOL.out); clear hs) | (go_at_call 33; (with_reducible refine Calls.mono HCL.out ?_); rintro r u2 ⟨v, rfl, d, hp, ha, hg⟩; have HE := Lib.hid (asc_unique HOK.out hp ha); have HG := Lib.hid hg; clear hp ha hg))
  refine bodyPost_ret (results_tmp2 rfl _ _ _) rfl ?_
  have h := HG.out
  rw [HE.out] at h
  exact ⟨_, rfl, own_lower h.own HS.out.b.size, HS.out.b.trans (h.b.mono HS.out.b.size)⟩
end Go.Proofs.Ytinhjobjlpkflaa
