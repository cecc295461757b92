/- Assign. -/
import Derived.Test.YtenojfniknjeiaaHk
import Derived.Deep.CutBlock
import Derived.WalkMore
namespace Go.Proofs.Ytenojfniknjeiaa
open Go.RowKit
attribute [local go_sem ↓] append_appN

theorem ChO.lower {w : World} {B B' : Nat} {o : Value} {xs : List Value} {ch : List (List Nat)} (h : ChO w B o xs ch) (hb : B' ≤ B) : ChO w B' o xs ch :=
  ⟨own_lower h.own hb, h.len, fun j x L hx hL => ⟨own_lower (h.inn j x L hx hL).1 hb, (h.inn j x L hx hL).2⟩⟩
structure AsS (w : World) (o : Value) (xs : List Value) (ch : List (List Nat)) (v : Value) (L : List Nat) (wr : World) : Prop where
  b : Below w.heap.size w wr
  c : ChO wr w.heap.size o xs ch
  ou : OwnN wr w.heap.size v L
  ap : ∀ g, v.ownBlock = some g → o.ownBlock ≠ some g ∧ ∀ (i : Nat) (x : Value), xs[i]? = some x → x.ownBlock ≠ some g
theorem AsS.next {w : World} {o v : Value} {xs : List Value} {ch : List (List Nat)} {L : List Nat} {wr wr' : World} (h : AsS w o xs ch v L wr) (hb : Below wr.heap.size wr wr') : AsS w o xs ch v L wr' :=
  ⟨below_to h.b hb, h.c.below hb, own_below h.ou hb, h.ap⟩
theorem AsS.set {w : World} {o v : Value} {xs : List Value} {ch : List (List Nat)} {L : List Nat} {wr : World} (h : AsS w o xs ch v L wr) {j : Nat} (hj : j < ch.length) (g : Nat) :
    ∃ go n c x, o = .slice (some ⟨go, 0, none⟩) n c ∧ n = ch.length ∧ go < wr.heap.size ∧ wr.cell? ⟨go, j, none⟩ = some x ∧ wr.frozen? ⟨go, j, none⟩ = false ∧
      AsS w o (xs.set j (.slice (some ⟨wr.heap.size, 0, none⟩) 1 1)) (ch.set j [g]) v L ((wr.alloc (.cells #[.int .i64 (g : Int)] 3)).setCell ⟨go, j, none⟩ (.slice (some ⟨wr.heap.size, 0, none⟩) 1 1)) ∧
      ∀ (y : Value) (M : List Nat), OwnN wr w.heap.size y M → (∀ q, y.ownBlock = some q → o.ownBlock ≠ some q) → OwnN ((wr.alloc (.cells #[.int .i64 (g : Int)] 3)).setCell ⟨go, j, none⟩ (.slice (some ⟨wr.heap.size, 0, none⟩) 1 1)) w.heap.size y M := by
  have hbw := h.b.size
  have hlen := h.c.len
  have hown := h.c.own
  rcases hown.2 with ⟨_, h0⟩ | ⟨go, c, cur, hv, hB, hh, h1, h2, h3, h4⟩
  · omega
  · have hrow : Row wr go 26 cur := hh
    have hgo := hrow.lt
    have hcur : j < cur.size := by omega
    have e1 : (Value.slice (some ⟨go, 0, none⟩) xs.length c).ownBlock = some go := rfl
    have stay : ∀ q, q < wr.heap.size → q ≠ go → ((wr.alloc (.cells #[.int .i64 (g : Int)] 3)).setCell ⟨go, j, none⟩ (.slice (some ⟨wr.heap.size, 0, none⟩) 1 1)).heap[q]? = wr.heap[q]? := fun q hq hne => (Below.heap_setCell _ ⟨go, j, none⟩ _ q (by exact hne)).trans (Below.heap_alloc wr _ q hq)
    have keepN : ∀ (y : Value) (M : List Nat), OwnN wr w.heap.size y M → (∀ q, y.ownBlock = some q → o.ownBlock ≠ some q) → OwnN ((wr.alloc (.cells #[.int .i64 (g : Int)] 3)).setCell ⟨go, j, none⟩ (.slice (some ⟨wr.heap.size, 0, none⟩) 1 1)) w.heap.size y M := fun y M hy hne =>
      own_keep hy fun q e => stay q (own_lt hy q e) fun e2 => hne q e (by rw [hv, e2]; rfl)
    have hnew : Row ((wr.alloc (.cells #[.int .i64 (g : Int)] 3)).setCell ⟨go, j, none⟩ (.slice (some ⟨wr.heap.size, 0, none⟩) 1 1)) wr.heap.size 3 #[.int .i64 (g : Int)] := (Row.new wr _ _).far (by dsimp only; omega) _
    refine ⟨go, _, c, cur[j], hv, hlen, hgo, (hrow.cell j).trans (by simp [hcur]), hrow.free j, ⟨(h.b.alloc hbw _).setCell (p := ⟨go, j, none⟩) (by dsimp only; omega) _, ⟨?_, by simp [hlen], fun i x M hx hM => ?_⟩, keepN v L h.ou fun q e => (h.ap q e).1, fun q e => ⟨(h.ap q e).1, fun i x hx => ?_⟩⟩, keepN⟩
    · rw [List.length_set]
      refine ⟨by simp, .inr ⟨go, c, cur.setIfInBounds j (.slice (some ⟨wr.heap.size, 0, none⟩) 1 1), hv, hB, ?_, h1, h2, by simpa using h3, ?_⟩⟩
      · exact (hrow.alloc _).put _ _
      · rw [Array.toList_setIfInBounds, List.take_set, h4]
    · rw [List.getElem?_set] at hx hM
      by_cases e : j = i
      · subst e
        rw [if_pos rfl, if_pos (by omega)] at hx hM
        obtain rfl := Option.some.inj hx
        obtain rfl := Option.some.inj hM
        refine ⟨⟨by simp [iv1, zi], .inr ⟨wr.heap.size, 1, #[.int .i64 (g : Int)], rfl, hbw, hnew, Nat.le_refl _, by unfold maxLen; omega, rfl, by simp [iv1, zi]⟩⟩, fun q e2 e3 => ?_⟩
        have h7 : wr.heap.size = q := Option.some.inj e2
        rw [hv] at e3
        have h8 : go = q := Option.some.inj e3
        omega
      · rw [if_neg e] at hx hM
        obtain ⟨h5, h6⟩ := h.c.inn i x M hx hM
        exact ⟨keepN x M h5 h6, h6⟩
    · rw [List.getElem?_set] at hx
      by_cases e2 : j = i
      · subst e2
        rw [if_pos rfl, if_pos (by omega)] at hx
        obtain rfl := Option.some.inj hx
        intro e3
        have h7 : wr.heap.size = q := Option.some.inj e3
        have := own_lt h.ou q e
        omega
      · rw [if_neg e2] at hx
        exact (h.ap q e).2 i x hx
theorem AsS.push {w : World} {o v : Value} {xs : List Value} {ch : List (List Nat)} {L : List Nat} {wr : World} (h : AsS w o xs ch v L wr) (hl : L.length ≤ 1000) (g : Nat) :
    ∃ A c w', Sem.run Try.prog (appN #[26, 26] 26 #[v, .slice (some ⟨wr.heap.size, 0, none⟩) 1 1]) (wr.alloc (.cells #[.int .i64 (g : Int)] 3)) = .ok (.slice A (L.length + 1) c) w' ∧ AsS w o xs ch (.slice A (L.length + 1) c) (L ++ [g]) w' := by
  have hbw := h.b.size
  obtain ⟨A, c, w', hrun, hown, hgr, hloc⟩ := push_one (x := .int .i64 (g : Int)) (B := w.heap.size) Try.underlying26 infoInt rfl rfl (by omega) h.ou (by omega) hbw
  have hz := hgr.size
  rw [World.size_alloc] at hz
  have stay : ∀ q, q < wr.heap.size → v.ownBlock ≠ some q → w'.heap[q]? = wr.heap[q]? := fun q hq hne => (hgr.block q (by simp; omega) (fun e => hne e.symm)).trans (Below.heap_alloc wr _ q hq)
  have hnew : ∀ q, (Value.slice A (L.length + 1) c).ownBlock = some q → v.ownBlock = some q ∨ q = wr.heap.size + 1 := fun q e => by
    rcases hloc with h1 | h1
    · exact .inl (h1 ▸ e)
    · rw [h1] at e; exact .inr (Option.some.inj e).symm
  have hol := fun q => own_lt h.c.own q
  refine ⟨A, c, w', hrun, (h.b.alloc hbw _).grown hgr (by simp; omega) (fun r x => by have := own_ge h.ou r x; omega), ⟨own_keep h.c.own fun q e => stay q (hol q e) fun e2 => (h.ap q e2).1 e, h.c.len, fun i x M hx hM => ?_⟩, ?_, fun q e => ⟨fun e2 => ?_, fun i x hx e2 => ?_⟩⟩
  · obtain ⟨h5, h6⟩ := h.c.inn i x M hx hM
    exact ⟨own_keep h5 fun q e => stay q (own_lt h5 q e) fun e2 => (h.ap q e2).2 i x hx e, h6⟩
  · unfold OwnN
    rw [List.length_append]
    have e5 : iv1 (zi (L ++ [g])) = iv1 (zi L) ++ [Value.int .i64 (g : Int)] := by simp [iv1, zi]
    rw [e5]; exact hown
  · rcases hnew q e with h1 | h1
    · exact (h.ap q h1).1 e2
    · have := hol q e2; omega
  · rcases hnew q e with h1 | h1
    · exact (h.ap q h1).2 i x hx e2
    · have hi : i < ch.length := by rw [← h.c.len]; exact (List.getElem?_eq_some_iff.1 hx).1
      have := own_lt (h.c.inn i x _ hx (List.getElem?_eq_getElem hi)).1 q e2
      omega
/-- The choices of the uses. -/
def chL (l : List Gr) (U : List Us) : List (List Nat) := U.map (permV l)
theorem permV_lt {l : List Gr} {u : Us} {g : Nat} (h : g ∈ permV l u) : g < l.length ∧ perB (l.getD g g0) u = true := by
  unfold permV at h
  split at h
  · unfold permL permK at h
    obtain ⟨h1, h2⟩ := List.mem_filter.1 h
    exact ⟨List.mem_range.1 h1, h2⟩
  · cases h
theorem chL_getD {l : List Gr} {U : List Us} {u g : Nat} (h : g ∈ (chL l U).getD u []) : ∃ x, U[u]? = some x ∧ g ∈ permV l x := by
  unfold chL at h
  rw [List.getD_eq_getElem?_getD, List.getElem?_map] at h
  cases hx : U[u]? with
  | none => rw [hx] at h; cases h
  | some x => rw [hx] at h; exact ⟨x, rfl, h⟩
theorem chL_ok (l : List Gr) (U : List Us) : ChOk (plN l) (chL l U) := fun u g hg => by
  obtain ⟨x, _, h⟩ := chL_getD hg
  rw [plN_len]
  exact (permV_lt h).1
theorem okG_plays {g : Gr} (h : okG g = true) : 0 ≤ g.plays ∧ g.plays ≤ 100 := by
  unfold okG at h
  simp only [Bool.and_eq_true, decide_eq_true_eq] at h
  omega
theorem validG_plays {l : List Gr} (h : validG l = true) : ∀ g ∈ l, 0 ≤ g.plays ∧ g.plays ≤ 100 := fun g hg => by
  unfold validG at h
  simp only [Bool.and_eq_true, List.all_eq_true] at h
  exact okG_plays (h.2 g hg)
theorem validU_len {U : List Us} (h : validU U = true) : U.length ≤ 10 := by
  unfold validU at h
  simp only [Bool.and_eq_true, decide_eq_true_eq] at h
  exact h.1
theorem ChO.at_ {w : World} {B : Nat} {o : Value} {xs : List Value} {ch : List (List Nat)} (h : ChO w B o xs ch) {j : Nat} (hj : j < ch.length) : ∃ go n c A np cp, o = .slice (some ⟨go, 0, none⟩) n c ∧ n = ch.length ∧ go < w.heap.size ∧ xs[j]? = some (.slice A np cp) ∧ w.cell? ⟨go, j, none⟩ = some (.slice A np cp) ∧ OwnN w B (.slice A np cp) (ch.getD j []) := by
  have hx := List.getElem?_eq_getElem (l := xs) (i := j) (by rw [h.len]; exact hj)
  have hc : ch[j]? = some (ch.getD j []) := by rw [List.getD_eq_getElem?_getD, List.getElem?_eq_getElem hj]; rfl
  have h1 := (h.inn j _ _ hx hc).1
  obtain ⟨A, cp, e, -⟩ := own_slice h1
  have hown := h.own
  have hlen := h.len
  rcases hown.2 with ⟨_, h0⟩ | ⟨go, c, cur, hv, hB, hh, h5, h2, h3, h4⟩
  · omega
  · subst hv
    have hcell := h.own.cellAt j (by omega)
    rw [e] at hx h1
    exact ⟨go, _, c, A, _, cp, rfl, hlen, Row.lt (w := w) (t := 26) (cs := cur) hh, hx, hcell.trans hx, h1⟩
theorem OwnN.at_ {w : World} {B n c : Nat} {A : Option Addr} {L : List Nat} (h : OwnN w B (.slice A n c) L) {q : Nat} (hq : q < L.length) : ∃ g, A = some ⟨g, 0, none⟩ ∧ g < w.heap.size ∧ w.cell? ⟨g, q, none⟩ = some (.int .i64 ((L.getD q 0 : Nat) : Int)) := by
  have hr := ints_own h (zi_len L)
  rcases h.2 with ⟨_, h0⟩ | ⟨g, c', cur, hv, hB, hh, -⟩
  · omega
  · injection hv with e1 e2 e3
    subst e1 e2
    have h' : w.ownsRow B 3 1 (.slice (some ⟨g, 0, none⟩) L.length c) L.length (iv1 (zi L)) := h
    have hcell := h'.cellAt q (by omega)
    refine ⟨g, rfl, Row.lt (w := w) (t := 3) (cs := cur) hh, hcell.trans ?_⟩
    simp [iv1, zi, hq]
theorem filter_asc (p : Nat → Bool) (n : Nat) : ((List.range n).filter p).Pairwise (· < ·) := List.Pairwise.filter p List.pairwise_lt_range
theorem chL_asc {l : List Gr} {U : List Us} {j : Nat} {M : List Nat} (h : (chL l U).getD j [] = M) {q q' : Nat} (hq : q < M.length) (hq' : q' < M.length) (hlt : M.getD q' 0 < M.getD q 0) : q' < q := by
  have hp : M.Pairwise (· < ·) := by
    rw [← h]
    unfold chL
    rw [List.getD_eq_getElem?_getD, List.getElem?_map]
    cases U[j]? with
    | none => exact List.Pairwise.nil
    | some x =>
      show (permV l x).Pairwise (· < ·)
      unfold permV
      split
      · exact filter_asc _ _
      · exact List.Pairwise.nil
  rcases Nat.lt_trichotomy q' q with h1 | h1 | h1
  · exact h1
  · subst h1; exact absurd hlt (Nat.lt_irrefl _)
  · rw [at_eq hq, at_eq hq'] at hlt
    have := List.pairwise_iff_getElem.1 hp q q' hq hq' h1
    omega
def AssignPost (w : World) (l : List Gr) (U : List Us) (e : Ending) (w' : World) : Prop :=
  ∃ v err, e = .returned (.tuple #[v, .int .i64 err]) ∧ Below w.heap.size w w' ∧ ((err = 80 ∧ v = .slice none 0 0 ∧ (¬ (validG l = true ∧ validU U = true) ∨ ¬ Can (plN l) (chL l U))) ∨ (err = 0 ∧ validG l = true ∧ validU U = true ∧ ∃ L, FirstAs (plN l) (chL l U) L ∧ OwnN w' w.heap.size v L))
set_option maxRecDepth 100000 in
set_option maxHeartbeats 16000000 in
theorem Assign_any (l : List Gr) (U : List Us) (A A2 : Option Addr) (n c n2 c2 : Nat) (w : World) (hr : Recs encG 6 w w.heap.size (.slice A n c) l) (hu : Recs encU 4 w w.heap.size (.slice A2 n2 c2) U) :
    Calls Try.prog 21 #[.slice A n c, .slice A2 n2 c2] w (AssignPost w l U) := by
  obtain ⟨hn2, hc1, hc2⟩ := recs_cap hu
  have HR := Lib.hid hr
  have HU := Lib.hid hu
  have HN := Lib.hid hn2
  have HG := Lib.hid (Valid_any l A n c w hr)
  have HV := Lib.hid (fun u (h : Below w.heap.size w u) => ValidUses_any U A2 n2 c2 u (HU.out.next h))
  obtain ⟨b0, hb0⟩ : ∃ b, validG l = b := ⟨_, rfl⟩
  obtain ⟨b1, hb1⟩ : ∃ b, validU U = b := ⟨_, rfl⟩
  rw [hb0] at HG
  rw [hb1] at HV
  have H0 := Lib.hid hb0
  have H1 := Lib.hid hb1
  clear hr hu hn2 hc1 hc2 hb0 hb1
  cases b0 with
  | false =>
    go_enter Try.func21, Try.ntmps21
    go_wp2
    go_step3
    go_wp2_with (first | (go_at_call 13; (with_reducible refine Calls.mono HG.out ?_); rintro r u1 ⟨rfl, hb⟩; have Bc := Lib.hid hb; clear hb))
    try rw [Exit.noGoto_ret]
    (try simp only [Exit.inBlock, Exit.then])
    refine bodyPost_ret (results_tmp2 rfl _ _ _) rfl ?_
    exact ⟨_, _, rfl, Bc.out, .inl ⟨rfl, rfl, .inl fun h => by have := H0.out; rw [h.1] at this; cases this⟩⟩
  | true =>
    cases b1 with
    | false =>
      go_enter Try.func21, Try.ntmps21
      go_wp2
      go_step3
      go_wp2_with (first | (go_at_call 13; (with_reducible refine Calls.mono HG.out ?_); rintro r u1 ⟨rfl, hb⟩; have Bc := Lib.hid hb; clear hb) | (go_at_call 15; (with_reducible refine Calls.mono (HV.out _ Bc.out) ?_); rintro r u2 ⟨rfl, hb⟩; have Bc := Lib.hid (below_to Bc.out hb); clear hb))
      try rw [Exit.noGoto_ret]
      (try simp only [Exit.inBlock, Exit.then])
      refine bodyPost_ret (results_tmp2 rfl _ _ _) rfl ?_
      exact ⟨_, _, rfl, Bc.out, .inl ⟨rfl, rfl, .inl fun h => by have := H1.out; rw [h.2] at this; cases this⟩⟩
    | true =>
      have HPL := Lib.hid (validG_plays H0.out)
      have HL12 := Lib.hid (validG_len H0.out)
      have HL10 := Lib.hid (validU_len H1.out)
      go_enter Try.func21, Try.ntmps21
      go_wp2
      go_step3
      go_wp2_with (first | (go_at_call 13; (with_reducible refine Calls.mono HG.out ?_); rintro r u1 ⟨rfl, hb⟩; have Bc := Lib.hid hb; clear hb) | (go_at_call 15; (with_reducible refine Calls.mono (HV.out _ Bc.out) ?_); rintro r u2 ⟨rfl, hb⟩; have Bc := Lib.hid (below_to Bc.out hb); clear hb) | (go_at_call 35; (with_reducible refine Calls.mono (choicesOf_any l U A A2 n c n2 c2 _ (HR.out.next Bc.out) (HU.out.next Bc.out) (by have := HL10.out; omega)) ?_); rintro r u3 ⟨o, xs, rfl, hC, hb⟩; have HC := Lib.hid (hC.lower Bc.out.size); have Bc := Lib.hid (below_to Bc.out hb); clear hC hb))
      go_step3
      have HS := Lib.hid (show AsS w o xs (pre [] (chL l U)) (.slice none 0 0) [] u3 from ⟨Bc.out, by rw [pre_nil]; exact HC.out, World.ownsRow_nil _ _ _ _, fun g e => by cases e⟩)
      have hchl : (chL l U).length ≤ 10 := by unfold chL; rw [List.length_map]; exact HL10.out
      have HCL := Lib.hid hchl
      have HOF := Lib.hid (own_slice HC.out.own)
      obtain ⟨Ao, co, hoe, -⟩ := HOF.out
      subst hoe
      obtain ⟨no, hno⟩ : ∃ m, xs.length = m := ⟨_, rfl⟩
      have HNO := Lib.hid (show no = (chL l U).length by rw [← hno]; exact HC.out.len)
      rw [hno] at HS ⊢
      have no9 : no ≤ 10 := by have := HNO.out; omega
      clear hno hchl HOF HC Bc HG HV
      go_wp2
      go_loopw [7, 25] (fun v z wr => ∃ j : Nat, z = .int .i64 (j : Int) ∧ j ≤ no ∧ Hid (∃ xs L, L.length = j ∧ AsI (plN l) (chL l U) L ∧ AsS w (.slice Ao no co) xs (pre L (chL l U)) v L wr)) (fun _ z _ => no - (intOf z).toNat)
      case atStart => exact ⟨0, rfl, Nat.zero_le _, Lib.hid ⟨xs, [], rfl, AsI.nil _ _, HS.out⟩⟩
      case round =>
        clear HS
        obtain ⟨j, rfl, hj, HX⟩ := hrel
        obtain ⟨xs, L, hLj, hA, hS⟩ := HX.out
        have HLJ := Lib.hid hLj
        have HA := Lib.hid hA
        have HS := Lib.hid hS
        clear HX hLj hA hS
        by_cases hjn : j < no
        · have hjc : j < (pre L (chL l U)).length := by rw [pre_len HA.out.len, ← HNO.out]; exact hjn
          obtain ⟨go, no', co', Ap, np, cp, hoe, -, hgo, hxj, y_j, hown⟩ := HS.out.c.at_ hjc
          injection hoe with hAo hno hco
          subst hAo hno hco
          have hgj : (pre L (chL l U)).getD j [] = (chL l U).getD j [] := by rw [pre_getD, if_neg (by have := HLJ.out; omega)]
          rw [hgj] at hown
          obtain ⟨M, hM⟩ : ∃ M, (chL l U).getD j [] = M := ⟨_, rfl⟩
          rw [hM] at hown
          have HM := Lib.hid hM
          have HOW := Lib.hid hown
          have HNP := Lib.hid (own_len hown)
          have hnp9 : np ≤ 9223372036854775807 := by obtain ⟨_, _, e, _, h2, _⟩ := own_slice hown; injection e with _ e2 _; unfold maxLen at h2; omega
          have HXO := Lib.hid (fun q (e : (Value.slice Ap np cp).ownBlock = some q) => (HS.out.c.inn j _ _ hxj (List.getElem?_eq_getElem hjc)).2 q e)
          have j0 : (0 : Int) ≤ (j : Int) := by omega
          have j1 : (j : Int) < (no : Int) := by omega
          clear hjc hxj hgj hM hown
          go_wp2
          clear y_j hgo
          go_loopw [7, 32] (fun v2 z wr => ∃ q : Nat, z = .int .i64 (q : Int) ∧ q ≤ np ∧ Hid (∃ xs2 ch2, AsS w (.slice (some ⟨go, 0, none⟩) no co) xs2 ch2 v2 L wr ∧ (ch2 = pre L (chL l U) ∨ ∃ g, ch2 = (pre L (chL l U)).set j [g]) ∧ OwnN wr w.heap.size (.slice Ap np cp) M ∧ ∀ q', q' < q → ¬ Can (plN l) (pre (L ++ [M.getD q' 0]) (chL l U)))) (fun _ z _ => np - (intOf z).toNat)
          case atStart => exact ⟨0, rfl, Nat.zero_le _, Lib.hid ⟨_, _, HS.out, .inl rfl, HOW.out, fun q' h => absurd h (Nat.not_lt_zero _)⟩⟩
          case round =>
            clear HS HOW
            obtain ⟨q, rfl, hq, HX⟩ := hrel
            obtain ⟨xs2, ch2, hS, hch2, hown, hnot⟩ := HX.out
            have HS := Lib.hid hS
            have HC2 := Lib.hid hch2
            have HOW := Lib.hid hown
            have HNT := Lib.hid hnot
            clear HX hS hch2 hown hnot
            by_cases hqn : q < np
            · obtain ⟨gp, hAp, gp1, y_q⟩ := HOW.out.at_ (q := q) (by have := HNP.out; omega)
              subst hAp
              obtain ⟨g, hg⟩ : ∃ g, M.getD q 0 = g := ⟨_, rfl⟩
              rw [hg] at y_q
              have HGQ := Lib.hid hg
              have HGM := Lib.hid (show g ∈ M by rw [← hg]; exact at_mem (by have := HNP.out; omega))
              have HLL := Lib.hid (show L.length < (chL l U).length by have := HLJ.out; have := HNO.out; omega)
              have HC3 := Lib.hid (show ch2.length = (pre L (chL l U)).length ∧ ch2.set j [g] = pre (L ++ [g]) (chL l U) by
                have e : pre (L ++ [g]) (chL l U) = (pre L (chL l U)).set j [g] := by rw [pre_snoc HLL.out, HLJ.out]
                rcases HC2.out with h | ⟨g', h⟩
                · rw [h]; exact ⟨rfl, e.symm⟩
                · rw [h, List.set_set]; exact ⟨by simp, e.symm⟩)
              obtain ⟨go2, no2, co2, xo, hoe, hno2, hgo, y_o, f_o, hS2, hkeep⟩ := HS.out.set (j := j) (by rw [HC3.out.1, pre_len HA.out.len]; have := HNO.out; omega) g
              injection hoe with e1 e2 e3
              obtain rfl : go = go2 := by injection e1 with e1; injection e1
              have HS2 := Lib.hid hS2
              have HOW2 := Lib.hid (hkeep _ _ HOW.out HXO.out)
              have q0 : (0 : Int) ≤ (q : Int) := by omega
              have q1 : (q : Int) < (np : Int) := by omega
              clear hg e2 e3 hno2 hS2 hkeep
              go_upto_region 12 with fail
              have hcm := World.setCell_alloc_past (w := wr) (.cells #[.int .i64 (g : Int)] 3) go j (.slice (some ⟨wr.heap.size, 0, none⟩) 1 1) hgo
              obtain ⟨V, hV⟩ : ∃ V, (wr.setCell ⟨go, j, none⟩ (.slice (some ⟨wr.heap.size, 0, none⟩) 1 1)).alloc (.cells #[.int .i64 (g : Int)] 3) = V := ⟨_, rfl⟩
              rw [hcm] at HS2 HOW2
              rw [hV] at HS2 HOW2 ⊢
              rw [HC3.out.2] at HS2
              clear hcm hV y_q gp1 y_o f_o hgo HS HOW
              have HCA := Lib.hid (canAssign_any l (pre (L ++ [g]) (chL l U)) HPL.out HL12.out (pre_ok (chL_ok l U) (fun j' hj' => by
                by_cases h : j' < L.length
                · rw [show (L ++ [g]).getD j' 0 = L.getD j' 0 by rw [List.getD_eq_getElem?_getD, List.getD_eq_getElem?_getD, List.getElem?_append_left h]]; exact HA.out.mem j' h
                · have e : j' = j := by have := HLJ.out; simp at hj'; omega
                  rw [e, HM.out, show (L ++ [g]).getD j 0 = g by rw [List.getD_eq_getElem?_getD, ← HLJ.out, List.getElem?_append_right (Nat.le_refl _)]; simp]
                  exact HGM.out)) A n c (some ⟨go, 0, none⟩) no co V HS2.out.c.chAt (HR.out.next HS2.out.b))
              go_upto_if 43 with (go_at_call 36; (with_reducible refine Calls.mono HCA.out ?_); rintro r u4 ⟨b, rfl, hb1, hb2, hb⟩; have HB1 := Lib.hid hb1; have HB2 := Lib.hid hb2; have HS3 := Lib.hid (HS2.out.next hb); have HOW3 := Lib.hid (own_below HOW2.out hb); clear hb1 hb2 hb)
              cases b with
              | true =>
                obtain ⟨A9, c9, w9, hrun, hS9⟩ := HS3.out.push (by have := HLJ.out; omega) g
                have HS9 := Lib.hid hS9
                have HAN := Lib.hid (HA.out.snoc HLL.out (g := g) (by rw [HLJ.out, HM.out]; exact HGM.out) (HB1.out rfl) (fun x hx hlt => by
                  rw [HLJ.out, HM.out] at hx
                  obtain ⟨q', hq', e⟩ := List.getElem_of_mem hx
                  have h1 : q' < q := chL_asc HM.out (by have := HNP.out; omega) hq' (by rw [HGQ.out, at_eq hq', e]; exact hlt)
                  have := HNT.out q' h1
                  rwa [at_eq hq', e] at this))
                clear hS9
                go_wp2_with fail
                go_roundw
                case rel => exact ⟨j + 1, by go_num, by omega, Lib.hid ⟨_, L ++ [g], by rw [List.length_append, HLJ.out]; rfl, HAN.out, HS9.out⟩⟩
                case measure => simp [intOf]; omega
              | false =>
                have HNC := Lib.hid (show ¬ Can (plN l) (pre (L ++ [g]) (chL l U)) from fun hc => by
                  obtain ⟨S, hs⟩ := HB2.out rfl
                  exact hc.no_lack (pre_ok (chL_ok l U) (fun j' hj' => by
                    by_cases h : j' < L.length
                    · rw [show (L ++ [g]).getD j' 0 = L.getD j' 0 by rw [List.getD_eq_getElem?_getD, List.getD_eq_getElem?_getD, List.getElem?_append_left h]]; exact HA.out.mem j' h
                    · have e : j' = j := by have := HLJ.out; simp at hj'; omega
                      rw [e, HM.out, show (L ++ [g]).getD j 0 = g by rw [List.getD_eq_getElem?_getD, ← HLJ.out, List.getElem?_append_right (Nat.le_refl _)]; simp]
                      exact HGM.out)) hs)
                go_wp2_with fail
                go_roundw
                case rel => exact ⟨q + 1, by go_num, by omega, Lib.hid ⟨_, _, HS3.out, .inr ⟨g, by rw [pre_snoc HLL.out, HLJ.out]⟩, HOW3.out, fun q' hq' => by
                  by_cases e : q' = q
                  · rw [e, HGQ.out]; exact HNC.out
                  · exact HNT.out q' (by omega)⟩⟩
                case measure => simp [intOf]; omega
            · have qx : ¬ (q : Int) < (np : Int) := by omega
              have HF := Lib.hid (HA.out.fails (by have := HLJ.out; have := HNO.out; omega) (fun x hx => by
                rw [HLJ.out, HM.out] at hx
                obtain ⟨q', hq', e⟩ := List.getElem_of_mem hx
                have := HNT.out q' (by have := HNP.out; omega)
                rwa [at_eq hq', e] at this))
              go_wp2_with fail
              try rw [Exit.noGoto_ret]
              (try simp only [Exit.inBlock, Exit.then])
              refine bodyPost_ret (results_tmp2 rfl _ _ _) rfl ?_
              exact ⟨_, _, rfl, HS.out.b, .inl ⟨rfl, rfl, .inr HF.out⟩⟩
        · have jx : ¬ (j : Int) < (no : Int) := by omega
          have HD := Lib.hid (HA.out.done (by have := HLJ.out; have := HNO.out; omega))
          go_wp2_with fail
          try rw [Exit.noGoto_ret]
          (try simp only [Exit.inBlock, Exit.then])
          refine bodyPost_ret (results_tmp2 rfl _ _ _) rfl ?_
          exact ⟨_, _, rfl, HS.out.b, .inr ⟨rfl, H0.out, H1.out, L, HD.out, HS.out.ou⟩⟩
end Go.Proofs.Ytenojfniknjeiaa
