/- The reference's Assign: what its plays that are left say of the uses behind; its two rows. -/
import Derived.Test.YtenojfniknjeiaaRd
namespace Go.Proofs.Ytenojfniknjeiaa
open Go.RowKit Go.Shelf

theorem rest_get (l : List Gr) (a : List Nat) (g : Nat) : (restN l a).getD g 0 = (plN l).getD g 0 - a.count g := by
  rcases Nat.lt_or_ge g l.length with c | c
  · exact restN_getD c
  · have h1 : (restN l a).getD g 0 = 0 := by rw [List.getD_eq_getElem?_getD, List.getElem?_eq_none (by rw [restN_len]; exact c)]; rfl
    have h2 : (plN l).getD g 0 = 0 := by rw [List.getD_eq_getElem?_getD, List.getElem?_eq_none (by rw [plN_length]; exact c)]; rfl
    rw [h1, h2]; omega
theorem chL_drop (l : List Gr) (U : List Us) (k j : Nat) : (chL l (U.drop k)).getD j [] = (chL l U).getD (k + j) [] := by
  unfold chL
  rw [List.map_drop, List.getD_eq_getElem?_getD, List.getElem?_drop, List.getD_eq_getElem?_getD]
theorem count_drop {a L : List Nat} (h : a.take L.length = L) (g : Nat) : a.count g = L.count g + (a.drop L.length).count g := by
  have e : L ++ a.drop L.length = a := by
    have h2 := List.take_append_drop L.length a
    rwa [h] at h2
  have h3 : (L ++ a.drop L.length).count g = a.count g := by rw [e]
  rw [List.count_append] at h3
  omega
theorem rest_can {l : List Gr} {U : List Us} {L : List Nat} (hl : L.length ≤ U.length) (hc : ∀ g, L.count g ≤ (plN l).getD g 0) : Can (restN l L) (chL l (U.drop L.length)) ↔ Can (plN l) (pre L (chL l U)) := by
  rw [can_pre (by rw [chL_len]; exact hl)]
  constructor
  · rintro ⟨b, h1, h2, h3⟩
    rw [chL_len, List.length_drop] at h1
    refine ⟨L ++ b, ?_, ?_, fun u hu hu2 => ?_, fun g => ?_⟩
    · rw [List.length_append, chL_len]; omega
    · rw [List.take_left]
    · rw [chL_len] at hu2
      have e : (L ++ b).getD u 0 = b.getD (u - L.length) 0 := by rw [List.getD_eq_getElem?_getD, List.getElem?_append_right hu, ← List.getD_eq_getElem?_getD]
      have h4 := h2 (u - L.length) (by rw [chL_len, List.length_drop]; omega)
      rw [chL_drop, show L.length + (u - L.length) = u by omega] at h4
      rw [e]; exact h4
    · have h4 := h3 g
      rw [rest_get] at h4
      rw [List.count_append]
      have := hc g
      omega
  · rintro ⟨a, h1, h2, h3, h4⟩
    rw [chL_len] at h1 h3
    refine ⟨a.drop L.length, ?_, fun u hu => ?_, fun g => ?_⟩
    · rw [List.length_drop, chL_len, List.length_drop, h1]
    · rw [chL_len, List.length_drop] at hu
      rw [chL_drop]
      have h5 := h3 (L.length + u) (by omega) (by omega)
      have e : (a.drop L.length).getD u 0 = a.getD (L.length + u) 0 := by rw [List.getD_eq_getElem?_getD, List.getElem?_drop, List.getD_eq_getElem?_getD]
      rw [e]; exact h5
    · rw [rest_get]
      have h5 := h4 g
      rw [count_drop h2 g] at h5
      omega
theorem rest_one {l : List Gr} {L : List Nat} {k x : Nat} (hk : k < l.length) (hx : (restN l L)[k]? = some x) : (restN l L).set k (x - 1) = restN l (L ++ [k]) := by
  rw [restN_snoc hk, List.getD_eq_getElem?_getD, hx]; rfl
theorem rest_back {l : List Gr} {L : List Nat} {k x : Nat} (hk : k < l.length) (hx : (restN l L)[k]? = some x) (_ : x ≠ 0) : (restN l (L ++ [k])).set k x = restN l L := by
  rw [← rest_one hk hx, List.set_set]
  apply List.ext_getElem?
  intro i
  rw [List.getElem?_set]
  by_cases e : k = i
  · subst e
    rw [if_pos rfl, if_pos (by rw [restN_len]; exact hk), hx]
  · rw [if_neg e]
/-- What the reference's Assign knows behind the first uses. -/
structure AsN (l : List Gr) (U : List Us) (L : List Nat) : Prop where
  ai : AsI (plN l) (chL l U) L
  can : Can (plN l) (pre L (chL l U))
theorem AsN.cnt {l : List Gr} {U : List Us} {L : List Nat} (h : AsN l U L) (g : Nat) : L.count g ≤ (plN l).getD g 0 := by
  obtain ⟨a, _, h2, _, h4⟩ := (can_pre h.ai.len).1 h.can
  rw [← h2]
  exact Nat.le_trans ((List.take_sublist _ a).count_le g) (h4 g)
theorem AsN.len {l : List Gr} {U : List Us} {L : List Nat} (h : AsN l U L) : L.length ≤ U.length := by have := h.ai.len; rwa [chL_len] at this
theorem AsN.nil {l : List Gr} {U : List Us} (h : Can (plN l) (chL l U)) : AsN l U [] := ⟨AsI.nil _ _, by rw [pre_nil]; exact h⟩
/-- None of the first grants serves for the next use. -/
def NotY (l : List Gr) (U : List Us) (L : List Nat) (k : Nat) : Prop := ∀ g, g < k → g ∈ (chL l U).getD L.length [] → ¬ Can (plN l) (pre (L ++ [g]) (chL l U))
theorem NotY.next {l : List Gr} {U : List Us} {L : List Nat} {k : Nat} (h : NotY l U L k) (hn : k ∈ (chL l U).getD L.length [] → ¬ Can (plN l) (pre (L ++ [k]) (chL l U))) : NotY l U L (k + 1) := fun g hg hm => by
  by_cases e : g = k
  · subst e; exact hn hm
  · exact h g (by omega) hm
theorem AsN.snoc {l : List Gr} {U : List Us} {L : List Nat} (h : AsN l U L) (hl : L.length < U.length) {g : Nat} (hg : g ∈ (chL l U).getD L.length []) (hc : Can (plN l) (pre (L ++ [g]) (chL l U))) (hn : NotY l U L g) : AsN l U (L ++ [g]) :=
  ⟨h.ai.snoc (by rw [chL_len]; exact hl) hg hc fun x hx hlt => hn x hlt hx, hc⟩
theorem AsN.found {l : List Gr} {U : List Us} {L : List Nat} (h : AsN l U L) (hl : L.length < U.length) (hn : NotY l U L l.length) : False := by
  obtain ⟨g, hg, hc⟩ := can_step (by rw [chL_len]; exact hl) h.can
  have := chL_ok l U L.length g hg
  rw [plN_length] at this
  exact hn g this hg hc
theorem AsN.first {l : List Gr} {U : List Us} {L : List Nat} (h : AsN l U L) (hl : L.length = U.length) : FirstAs (plN l) (chL l U) L := h.ai.done (by rw [chL_len]; exact hl)
theorem no_left {l : List Gr} {U : List Us} {L : List Nat} {k : Nat} (hl : L.length < U.length) (hk : k < l.length) (hx : (restN l L)[k]? = some 0) (hc : ∀ g, L.count g ≤ (plN l).getD g 0) : ¬ Can (plN l) (pre (L ++ [k]) (chL l U)) := fun h => by
  obtain ⟨a, _, h2, _, h4⟩ := (can_pre (by rw [List.length_append, chL_len]; simp; omega)).1 h
  have h5 : (restN l L).getD k 0 = 0 := by rw [List.getD_eq_getElem?_getD, hx]; rfl
  rw [restN_getD hk] at h5
  have h6 := (List.take_sublist (L ++ [k]).length a).count_le k
  rw [h2, List.count_append, List.count_singleton_self] at h6
  have := h4 k
  have := hc k
  omega
theorem mem_ch {l : List Gr} {U : List Us} (hl : validG l = true) (hu : validU U = true) {i k : Nat} (hi : i < U.length) (hk : k < l.length) : k ∈ (chL l U).getD i [] ↔ perB (l.getD k g0) (U.getD i u0) = true := by
  rw [chL_get8 hi, mem_permV]
  have e : U.getD i u0 = U[i] := by simp [List.getD_eq_getElem?_getD, hi]
  exact ⟨fun h => h.2.2.2, fun h => ⟨hl, by rw [e]; exact okU_of hu (List.getElem_mem hi), hk, h⟩⟩
theorem cnt_snoc {l : List Gr} {L : List Nat} {k x : Nat} (hk : k < l.length) (hx : (restN l L)[k]? = some x) (h0 : x ≠ 0) (hc : ∀ g, L.count g ≤ (plN l).getD g 0) (g : Nat) : (L ++ [k]).count g ≤ (plN l).getD g 0 := by
  rw [List.count_append, List.count_singleton]
  by_cases e : k = g
  · subst e
    have h5 : (restN l L).getD k 0 = x := by rw [List.getD_eq_getElem?_getD, hx]; rfl
    rw [restN_getD hk] at h5
    simp only [beq_self_eq_true, if_true]
    omega
  · rw [if_neg (by simpa using e)]
    exact hc g
/-- The first assignment is one. -/
theorem first_unique {P : List Nat} {ch : List (List Nat)} {L M : List Nat} (hL : FirstAs P ch L) (hM : FirstAs P ch M) : L = M := by
  have key : ∀ i, i ≤ ch.length → L.take i = M.take i := by
    intro i
    induction i with
    | zero => intro _; rfl
    | succ i ih =>
      intro hi
      have h1 := ih (by omega)
      have hl := hL.is.len
      have hm := hM.is.len
      have hli : i < L.length := by omega
      have hmi : i < M.length := by omega
      have hno : ∀ {A B : List Nat}, FirstAs P ch A → FirstAs P ch B → A.take i = B.take i → i < A.length → i < B.length → ¬ A.getD i 0 < B.getD i 0 := fun {A B} hA hB he hia hib hlt => by
        refine hB.first i hib (A.getD i 0) (hA.is.mem i (by omega)) hlt ?_
        rw [can_pre (by have := hA.is.len; rw [List.length_append, List.length_take]; simp; omega)]
        refine ⟨A, hA.is.len, ?_, fun u _ hu => hA.is.mem u hu, hA.is.cnt⟩
        rw [← he, List.length_append, List.length_take, Nat.min_eq_left (by omega), List.length_singleton, List.take_add_one, List.getElem?_eq_getElem hia, at_eq hia]
        rfl
      have e : L.getD i 0 = M.getD i 0 := by
        have a := hno hL hM h1 hli hmi
        have b := hno hM hL h1.symm hmi hli
        omega
      rw [List.take_add_one, List.take_add_one, h1, List.getElem?_eq_getElem hli, List.getElem?_eq_getElem hmi]
      rw [at_eq hli, at_eq hmi] at e
      rw [e]
  have h := key ch.length (Nat.le_refl _)
  rwa [List.take_of_length_le (by have := hL.is.len; omega), List.take_of_length_le (by have := hM.is.len; omega)] at h
/-- Two rows of one's own of numbers, apart: the plays that are left, and what has been assigned. -/
structure AsR (w : World) (n : Nat) (R : List Nat) (vl : Value) (L : List Nat) (o : Value) (wr : World) : Prop where
  ol : wr.ownsRow w.heap.size 3 1 vl n (iv1 (zi R))
  oo : wr.ownsRow w.heap.size 3 1 o L.length (iv1 (zi L))
  b : Below w.heap.size w wr
  ln : R.length = n
  ap : ∀ q, o.ownBlock = some q → vl.ownBlock ≠ some q
theorem AsR.next {w : World} {n : Nat} {R L : List Nat} {vl o : Value} {wr wr' : World} (h : AsR w n R vl L o wr) (hb : Below wr.heap.size wr wr') : AsR w n R vl L o wr' := ⟨own_below h.ol hb, own_below h.oo hb, below_to h.b hb, h.ln, h.ap⟩
theorem AsR.left {w : World} {n : Nat} {R L : List Nat} {vl o : Value} {wr : World} (h : AsR w n R vl L o wr) {k x : Nat} (hk : R[k]? = some x) :
    ∃ g c, vl = .slice (some ⟨g, 0, none⟩) n c ∧ w.heap.size ≤ g ∧ g < wr.heap.size ∧ wr.cell? ⟨g, k, none⟩ = some (.int .i64 (x : Int)) ∧ wr.frozen? ⟨g, k, none⟩ = false ∧
      ∀ y : Nat, AsR w n (R.set k y) vl L o (wr.setCell ⟨g, k, none⟩ (.int .i64 (y : Int))) := by
  obtain ⟨g, c, hv, hB, hg, hc, hf, hset⟩ := own_num h.ol h.ln hk
  refine ⟨g, c, hv, hB, hg, hc, hf, fun y => ⟨hset wr y rfl, own_keep h.oo fun q e => Below.heap_setCell wr ⟨g, k, none⟩ _ q (fun e2 => h.ap q e (by rw [hv, e2]; rfl)), h.b.setCell (p := ⟨g, k, none⟩) hB _, by rw [List.length_set]; exact h.ln, h.ap⟩⟩
theorem AsR.push {w : World} {n : Nat} {R L : List Nat} {vl o : Value} {wr : World} (h : AsR w n R vl L o wr) (hl : L.length ≤ 1000) (g : Nat) :
    ∃ A c w', Sem.run Try.prog (appN #[26, 26] 26 #[o, .slice (some ⟨wr.heap.size, 0, none⟩) 1 1]) (wr.alloc (.cells #[.int .i64 (g : Int)] 3)) = .ok (.slice A (L.length + 1) c) w' ∧ AsR w n R vl (L ++ [g]) (.slice A (L.length + 1) c) w' := by
  have hbw := h.b.size
  obtain ⟨A, c, w', hrun, hown, hgr, hloc⟩ := push_one (x := .int .i64 (g : Int)) (B := w.heap.size) Try.underlying26 infoInt rfl rfl (by omega) h.oo (by omega) hbw
  have hz := hgr.size
  rw [World.size_alloc] at hz
  refine ⟨A, c, w', hrun, own_keep h.ol fun q e => ?_, ?_, (h.b.alloc hbw _).grown hgr (by simp; omega) (fun r x => by have := own_ge h.oo r x; omega), h.ln, fun q e e2 => ?_⟩
  · have hq := own_lt h.ol q e
    exact (hgr.block q (by simp; omega) (fun e2 => h.ap q e2.symm e)).trans (Below.heap_alloc wr _ q hq)
  · rw [List.length_append]
    have e5 : iv1 (zi (L ++ [g])) = iv1 (zi L) ++ [Value.int .i64 (g : Int)] := by simp [iv1, zi]
    rw [e5]; exact hown
  · rcases hloc with h1 | h1
    · exact h.ap q (h1.symm.trans e) e2
    · rw [h1] at e
      have e3 : wr.heap.size + 1 = q := Option.some.inj e
      have := own_lt h.ol q e2
      omega
theorem AsR.recs {w : World} {n : Nat} {R L : List Nat} {vl o : Value} {wr : World} (h : AsR w n R vl L o wr) : Recs enc1 1 wr wr.heap.size vl (zi R) := ints_own h.ol (by rw [zi_len]; exact h.ln)
theorem slice_from {t e : TypeId} {z : Value} {k by_ : Nat} (hu : Try.prog.underlying t = some (.slice e)) (hi : (Try.prog.info? e).map (fun i => (i.zero, i.size, i.bytes)) = some (some z, k, by_)) (A : Option Addr) (n c d : Nat) (hd : d ≤ n) (w : World) :
    Sem.run Try.prog (Instr.slice t (.slice A n c) (some (.int .i64 (d : Int))) none none) w = .ok (.slice (if c = d then A else A.map (·.add (d * k))) (n - d) (c - d)) w := by
  have he : Try.prog.elem t = e := by simp [Program.elem, hu]
  rw [run_slice_l w t _ n c (by rw [hu, he]) .i64 (d : Int) (by omega) (by omega), he, size_run hi]
  simp only [Result.andThen, sliced, Int.toNat_natCast]
theorem recs_from {α : Type} {enc : α → List Value} {k : Nat} {w : World} {B n c : Nat} {A : Option Addr} {l : List α} (h : Recs enc k w B (.slice A n c) l) (d : Nat) (hd : d ≤ l.length) : Recs enc k w B (.slice (if c = d then A else A.map (·.add (d * k))) (n - d) (c - d)) (l.drop d) := by
  obtain ⟨hn, h1, h2⟩ := recs_cap h
  refine ⟨_, c - d, by rw [List.length_drop, hn], by rw [List.length_drop]; omega, by unfold maxLen; omega, ?_⟩
  rcases Nat.lt_or_ge d l.length with c2 | c2
  · obtain ⟨g', off', e, hg, hcell⟩ := recs_at h d c2
    subst e
    rw [if_neg (by omega)]
    refine .inr ⟨g', off' + d * k, by simp [Addr.add_lit], hg, fun j x hj i u hu => ?_⟩
    rw [List.getElem?_drop] at hj
    have := hcell (d + j) x hj i u hu
    rw [Nat.add_mul] at this
    rwa [show off' + d * k + j * k + i = off' + (d * k + j * k) + i by omega]
  · exact .inl (List.drop_of_length_le c2)
end Go.Proofs.Ytenojfniknjeiaa
