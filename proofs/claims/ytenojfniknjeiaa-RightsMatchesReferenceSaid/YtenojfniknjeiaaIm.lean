/- What RightsMore and RightsFirst need: a grant's plays exchanged in a row of one's own, a grant appended, slices cut, Left for a beginning of the assignment. -/
import Derived.Test.YtenojfniknjeiaaIk
namespace Go.Proofs.Ytenojfniknjeiaa
open Go.RowKit Go.Shelf
attribute [local go_sem] Oper.semAt_some

theorem own_cell {w : World} {B k n : Nat} {e : TypeId} {v : Value} {xs : List Value} (h : w.ownsRow B e k v n xs) {j : Nat} {x : Value} (hj : xs[j]? = some x) :
    ∃ g c, v = .slice (some ⟨g, 0, none⟩) n c ∧ B ≤ g ∧ g < w.heap.size ∧ w.cell? ⟨g, j, none⟩ = some x ∧ w.frozen? ⟨g, j, none⟩ = false ∧
      ∀ (u : World) (y : Value), u.heap[g]? = w.heap[g]? → (u.setCell ⟨g, j, none⟩ y).ownsRow B e k v n (xs.set j y) := by
  have hk := (List.getElem?_eq_some_iff.1 hj).1
  rcases h.2 with ⟨_, h0⟩ | ⟨g, c, cur, hv, hB, hh, h1, h2, h3, h4⟩
  · have := h.1
    rw [h0, Nat.zero_mul] at this
    omega
  · have hrow : Row w g e cur := hh
    have hl : j < n * k := by have := h.1; omega
    have hcur : cur[j]? = some x := by
      rw [← hj, ← h4, List.getElem?_take, if_pos hl, Array.getElem?_toList]
    refine ⟨g, c, hv, hB, hrow.lt, (hrow.cell _).trans hcur, hrow.free _, fun u y hu => ⟨by rw [List.length_set]; exact h.1, .inr ⟨g, c, cur.setIfInBounds j y, hv, hB, ?_, h1, h2, by simpa using h3, ?_⟩⟩⟩
    · exact (show Row u g e cur from hu.trans hh).put _ _
    · rw [Array.toList_setIfInBounds, List.take_set, h4]
/-- A grant with other plays. -/
def withP (x : Gr) (p : Int) : Gr := ⟨x.item, x.acts, x.regions, p, x.fr, x.tw⟩
theorem flat_plays (p : Int) : ∀ (L : List Gr) (k : Nat) (x : Gr), L[k]? = some x → flatE encG (L.set k (withP x p)) = (flatE encG L).set (k * 6 + 3) (.int .i64 p)
  | [], k, x, h => by simp at h
  | y :: L, 0, x, h => by
    obtain rfl : y = x := by simpa using h
    simp only [List.set_cons_zero, flatE, List.flatMap_cons]
    rw [List.set_append_left _ _ (by simp [encG])]
    rfl
  | y :: L, k + 1, x, h => by
    have ih := flat_plays p L k x (by simpa using h)
    simp only [flatE] at ih
    simp only [List.set_cons_succ, flatE, List.flatMap_cons]
    rw [ih, List.set_append_right _ _ (by simp [encG]; omega), show (k + 1) * 6 + 3 - (encG y).length = k * 6 + 3 by simp [encG]; omega]
theorem GatG.setP {w wr : World} {L : List Gr} {o : Value} (h : GatG w L o wr) {k : Nat} {x : Gr} (hk : L[k]? = some x) :
    ∃ g c, o = .slice (some ⟨g, 0, none⟩) L.length c ∧ w.heap.size ≤ g ∧ g < wr.heap.size ∧ wr.cell? ⟨g, k * 6 + 3, none⟩ = some (.int .i64 x.plays) ∧ wr.frozen? ⟨g, k * 6 + 3, none⟩ = false ∧
      ∀ p : Int, GatG w (L.set k (withP x p)) o (wr.setCell ⟨g, k * 6 + 3, none⟩ (.int .i64 p)) := by
  have hx := flatE_get (enc := encG) (k := 6) (fun _ => rfl) L k 3 x (.int .i64 x.plays) hk rfl
  obtain ⟨g, c, hv, hB, hg, hc, hf, hset⟩ := own_cell h.own hx
  refine ⟨g, c, hv, hB, hg, hc, hf, fun p => ⟨?_, h.b.setCell (p := ⟨g, k * 6 + 3, none⟩) hB _⟩⟩
  rw [flat_plays p L k x hk, List.length_set]
  exact hset wr _ rfl
/-- One slice of grants behind another. -/
theorem GatG.join {w wr : World} {L : List Gr} {o : Value} (h : GatG w L o wr) (hl : L.length ≤ 100000) {q : Gr} {A : Option Addr} {n c : Nat} (hq : Recs encG 6 wr wr.heap.size (.slice A n c) [q]) :
    ∃ A' c' w', Sem.run Try.prog (appN #[22, 22] 22 #[o, .slice A n c]) wr = .ok (.slice A' (L.length + 1) c') w' ∧ GatG w (L ++ [q]) (.slice A' (L.length + 1) c') w' ∧ Below w.heap.size w w' := by
  obtain ⟨i0, hi0, hz0, hz1, hz2⟩ := info_parts infoGrant
  obtain ⟨hn, -, -⟩ := recs_cap hq
  have hn : n = 1 := hn
  subst hn
  obtain ⟨gb, ob, rfl, hgb, hcell⟩ := recs_at hq 0 (by simp)
  obtain ⟨v', w', hrun, hown, hgr, -, hloc⟩ := run_append_own_at (P := Try.prog) (w := wr) w.heap.size 22 22 52 i0 _ 6 48 Try.underlying22 hi0 hz0 hz1 hz2 rfl (by decide)
    o L.length _ h.own ⟨gb, ob, none⟩ 1 c (encG q) rfl (fun j u hj => by
      have := hcell 0 q rfl j u hj
      rw [Nat.zero_mul, Nat.add_zero] at this
      rw [Addr.add_lit]; exact this) (encG_one q) (by unfold maxLen; omega) (by omega) h.b.size
  obtain ⟨A', c', rfl, -⟩ := own_slice hown
  have hbw : Below w.heap.size w w' := h.b.grown hgr h.b.size (fun r x => by have := own_ge h.own r x; omega)
  refine ⟨A', c', w', hrun, ⟨?_, hbw⟩, hbw⟩
  rw [flatE_append, show flatE encG [q] = encG q by simp [flatE], List.length_append]
  exact hown
theorem size_run {e : TypeId} {z : Value} {k by_ : Nat} (hi : (Try.prog.info? e).map (fun i => (i.zero, i.size, i.bytes)) = some (some z, k, by_)) (w : World) : (sizeOf e).run Try.prog w = .ok k w := by
  obtain ⟨i0, hi0, hz0, hz1, hz2⟩ := info_parts hi
  simp [sizeOf, typeInfo, hi0, hz1, go_sem]
theorem slice_head (w : World) (t e : TypeId) {z : Value} {q by_ : Nat} (hu : Try.prog.underlying t = some (.slice e)) (hi : (Try.prog.info? e).map (fun i => (i.zero, i.size, i.bytes)) = some (some z, q, by_)) (A : Option Addr) (n c k : Nat) (hk : k ≤ c) :
    Sem.run Try.prog (Instr.slice t (.slice A n c) none (some (.int .i64 (k : Int))) none) w = .ok (.slice A k c) w := by
  have he : Try.prog.elem t = e := by simp [Program.elem, hu]
  rw [run_slice_h w t A n c (by rw [hu, he]) .i64 (k : Int) (by omega) (by omega), he, size_run hi]
  simp only [Result.andThen, sliced, Int.toNat_natCast, Nat.zero_mul]
  cases A <;> simp [Addr.add]
/-- What Left answers for the beginning of an assignment. -/
theorem left_take {l : List Gr} {U : List Us} {a : List Nat} (hl : validG l = true) (hu : validU U = true) (h : IsAs (plN l) (chL l U) a) {n : Nat} (hn : n ≤ U.length) : leftV l (U.take n) (zi (a.take n)) = restN l (a.take n) := by
  have hlen : a.length = U.length := by rw [h.len, chL_len]
  have hv : validU (U.take n) = true := by
    unfold validU at hu ⊢
    rw [Bool.and_eq_true, decide_eq_true_eq, List.all_eq_true] at hu ⊢
    exact ⟨by rw [List.length_take]; omega, fun q hq => hu.2 q (List.mem_of_mem_take hq)⟩
  unfold leftV
  rw [hl, hv, zi_len, List.length_take, List.length_take, hlen]
  simp only [Bool.and_self, decide_true, if_true]
  rw [left_is (by rw [List.length_take, List.length_take, hlen]) (fun i hi => ?_) (fun g => Nat.le_trans ((List.take_sublist n a).count_le g) (h.cnt g))]
  · rfl
  · rw [List.length_take] at hi
    have hin : i < n := by omega
    have hiu : i < U.length := by omega
    have e1 : (a.take n).getD i 0 = a.getD i 0 := by rw [List.getD_eq_getElem?_getD, List.getD_eq_getElem?_getD, List.getElem?_take, if_pos hin]
    have e2 : (U.take n).getD i u0 = U.getD i u0 := by rw [List.getD_eq_getElem?_getD, List.getD_eq_getElem?_getD, List.getElem?_take, if_pos hin]
    rw [e1, e2]
    have hm := h.mem i (by rw [chL_len]; exact hiu)
    rw [chL_get8 hiu] at hm
    obtain ⟨_, _, h3, h4⟩ := mem_permV.1 hm
    exact ⟨h3, h4⟩
theorem left_all {l : List Gr} {U : List Us} {a : List Nat} (hl : validG l = true) (hu : validU U = true) (h : IsAs (plN l) (chL l U) a) : leftV l U (zi a) = restN l a := by
  have h1 := left_take hl hu h (Nat.le_refl _)
  have hlen : a.length = U.length := by rw [h.len, chL_len]
  rwa [List.take_length, List.take_of_length_le (by omega)] at h1
theorem restN_len (l : List Gr) (a : List Nat) : (restN l a).length = l.length := by simp [restN]
theorem left_empty {l : List Gr} {U : List Us} (hc : canB l U = false) : leftV l U [] = [] := by
  cases U with
  | nil =>
    have h : canB l [] = true := canB_iff.2 ⟨[], rfl, fun u hu => absurd hu (by simp [chL]), fun g => Nat.zero_le _⟩
    rw [hc] at h
    cases h
  | cons u U =>
    unfold leftV
    rw [if_neg (by simp)]
theorem sum_take {L : List Nat} {k x : Nat} (h : L[k]? = some x) : (L.take (k + 1)).sum = (L.take k).sum + x := by
  rw [List.take_add_one, h, Option.toList_some, List.sum_append]
  simp
theorem plN_get {l : List Gr} {k : Nat} {q : Gr} (hl : validG l = true) (h : l[k]? = some q) : (plN l)[k]? = some q.plays.toNat ∧ 0 ≤ q.plays ∧ q.plays ≤ 100 := by
  have h2 := validG_plays hl q (List.mem_of_getElem? h)
  refine ⟨?_, h2⟩
  unfold plN
  simp [h]
end Go.Proofs.Ytenojfniknjeiaa
