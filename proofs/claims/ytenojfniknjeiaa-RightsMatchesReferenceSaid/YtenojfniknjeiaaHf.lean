/- What canAssign keeps in memory: choices, what is tried, what is given. -/
import Derived.Test.YtenojfniknjeiaaHd
namespace Go.Proofs.Ytenojfniknjeiaa
open Go.RowKit

def encV (x : Value) : List Value := [x]
/-- A slice of slices of numbers. -/
def ChAt (w : World) (B : Nat) (v : Value) (ch : List (List Nat)) : Prop := ∃ xs : List Value, Recs encV 1 w B v xs ∧ xs.length = ch.length ∧ ∀ (i : Nat) (x : Value) (L : List Nat), xs[i]? = some x → ch[i]? = some L → ∃ A n c, x = .slice A n c ∧ Recs enc1 1 w B x (zi L)
theorem ChAt.below {w w' : World} {B : Nat} {v : Value} {ch : List (List Nat)} (h : ChAt w B v ch) (hb : Below B w w') : ChAt w' B v ch := by
  obtain ⟨xs, h1, h2, h3⟩ := h
  exact ⟨xs, h1.below hb, h2, fun i x L hx hL => by obtain ⟨A, n, c, e, hr⟩ := h3 i x L hx hL; exact ⟨A, n, c, e, hr.below hb⟩⟩
theorem ChAt.cap {w : World} {B n c : Nat} {A : Option Addr} {ch : List (List Nat)} (h : ChAt w B (.slice A n c) ch) : n = ch.length ∧ n ≤ c ∧ c ≤ 9223372036854775807 := by
  obtain ⟨xs, h1, h2, h3⟩ := h
  have := recs_cap h1
  omega
theorem ChAt.at_ {w : World} {B n c : Nat} {A : Option Addr} {ch : List (List Nat)} (h : ChAt w B (.slice A n c) ch) {u : Nat} {L : List Nat} (hu : ch[u]? = some L) : ∃ g off A' n' c', A = some ⟨g, off, none⟩ ∧ g < B ∧ w.cell? ⟨g, off + u, none⟩ = some (.slice A' n' c') ∧ Recs enc1 1 w B (.slice A' n' c') (zi L) := by
  obtain ⟨xs, h1, h2, h3⟩ := h
  have hul := (List.getElem?_eq_some_iff.1 hu).1
  obtain ⟨g, off, e, hg, hc⟩ := recs_at h1 u (by omega)
  have hx := List.getElem?_eq_getElem (l := xs) (i := u) (by omega)
  obtain ⟨A', n', c', e2, hr⟩ := h3 u _ L hx hu
  have := hc u _ hx 0 _ rfl
  rw [Nat.mul_one, Nat.add_zero, e2] at this
  rw [e2] at hr
  exact ⟨g, off, A', n', c', e, hg, this, hr⟩
/-- How many are left untried. -/
def untr (T : List Bool) : Nat := T.countP (fun b => !b)
theorem untr_set : ∀ {T : List Bool} {i : Nat}, i < T.length → tr T i = false → untr (T.set i true) + 1 = untr T
  | b :: T, 0, _, h => by
    have : b = false := h
    subst this
    simp [untr]
  | b :: T, i + 1, hi, h => by
    have ih := untr_set (T := T) (i := i) (by simpa using hi) h
    unfold untr at ih ⊢
    rw [List.set_cons_succ, List.countP_cons, List.countP_cons]
    omega
theorem untr_le : ∀ {T T' : List Bool}, T'.length = T.length → (∀ g, tr T g = true → tr T' g = true) → untr T' ≤ untr T
  | [], [], _, _ => Nat.le_refl _
  | b :: T, b' :: T', hl, h => by
    have ih := untr_le (T := T) (T' := T') (by simpa using hl) fun g hg => h (g + 1) hg
    have h0 : b = true → b' = true := h 0
    unfold untr at ih ⊢
    rw [List.countP_cons, List.countP_cons]
    cases b <;> cases b' <;> simp_all <;> omega
/-- Where things lie. -/
structure KC where
  bl : Nat
  bc : Nat
  gG : Nat
  bg : Nat
  gT : Nat
  bt : Nat
  bv : Nat
  Ac : Option Addr
  nc : Nat
  cc : Nat
  Al : Option Addr
  nl : Nat
  cl : Nat
abbrev pt (g : Nat) : Value := .pointer (some ⟨g, 0, none⟩)
/-- The state within a search. -/
structure KSt (W0 : World) (k : KC) (l : List Gr) (T : List Bool) (G : List (List Nat)) (xs : List Value) (w : World) : Prop where
  b : Below W0.heap.size W0 w
  o : W0.heap.size ≤ k.bl ∧ k.bl < k.bc ∧ k.bc < k.gG ∧ k.gG < k.bg ∧ k.bg < k.gT ∧ k.gT < k.bt ∧ k.bt < k.bv
  rl : Row w k.bl 22 #[.slice k.Al k.nl k.cl]
  rc : Row w k.bc 63 #[.slice k.Ac k.nc k.cc]
  rg : Row w k.bg 63 #[.slice (some ⟨k.gG, 0, none⟩) l.length l.length]
  rt : Row w k.bt 76 #[.slice (some ⟨k.gT, 0, none⟩) l.length l.length]
  rv : Row w k.bv 77 #[.func (.func 47) #[] #[pt k.bc, pt k.bt, pt k.bg, pt k.bl, pt k.bv]]
  tT : Row w k.gT 4 (T.map Value.bool).toArray
  tG : Row w k.gG 26 xs.toArray
  lT : T.length = l.length
  lG : xs.length = l.length ∧ G.length = l.length
  ow : ∀ (i : Nat) (x : Value) (L : List Nat), xs[i]? = some x → G[i]? = some L → w.ownsRow W0.heap.size 3 1 x L.length (iv1 (zi L))
  far : ∀ (i : Nat) (x : Value) (j : Nat), xs[i]? = some x → x.ownBlock = some j → j ≠ k.bl ∧ j ≠ k.bc ∧ j ≠ k.gG ∧ j ≠ k.bg ∧ j ≠ k.gT ∧ j ≠ k.bt ∧ j ≠ k.bv
  apart : ∀ (i i' : Nat) (x x' : Value) (j : Nat), i ≠ i' → xs[i]? = some x → xs[i']? = some x' → x.ownBlock = some j → x'.ownBlock ≠ some j
theorem KSt.drewN {W0 : World} {k : KC} {l : List Gr} {T : List Bool} {G : List (List Nat)} {xs : List Value} {w : World} (h : KSt W0 k l T G xs w) (n : Nat) : KSt W0 k l T G xs (w.drewN n) :=
  ⟨belowN h.b n, h.o, h.rl, h.rc, h.rg, h.rt, h.rv, h.tT, h.tG, h.lT, h.lG, h.ow, h.far, h.apart⟩
theorem KSt.lt_v {W0 : World} {k : KC} {l : List Gr} {T : List Bool} {G : List (List Nat)} {xs : List Value} {w : World} (h : KSt W0 k l T G xs w) : k.bv < w.heap.size := h.rv.lt
/-- What is not touched but for one own row's block (or a fresh one) and the given cell stays. -/
theorem KSt.tried {W0 : World} {k : KC} {l : List Gr} {T : List Bool} {G : List (List Nat)} {xs : List Value} {w : World} (h : KSt W0 k l T G xs w) {i : Nat} (hi : i < l.length) : w.cell? ⟨k.gT, i, none⟩ = some (.bool (tr T i)) := by
  rw [h.tT.cell i]
  unfold tr
  rw [List.getD_eq_getElem?_getD]
  have : i < T.length := by rw [h.lT]; exact hi
  simp [this]
theorem KSt.mark {W0 : World} {k : KC} {l : List Gr} {T : List Bool} {G : List (List Nat)} {xs : List Value} {w : World} (h : KSt W0 k l T G xs w) (i : Nat) : KSt W0 k l (T.set i true) G xs (w.setCell ⟨k.gT, i, none⟩ (.bool true)) := by
  obtain ⟨o1, o2, o3, o4, o5, o6, o7⟩ := h.o
  refine ⟨h.b.setCell (p := ⟨k.gT, i, none⟩) (by dsimp only; omega) _, h.o, h.rl.far (by dsimp only; omega) _, h.rc.far (by dsimp only; omega) _, h.rg.far (by dsimp only; omega) _, h.rt.far (by dsimp only; omega) _, h.rv.far (by dsimp only; omega) _, ?_, h.tG.far (by dsimp only; omega) _, by rw [List.length_set]; exact h.lT, h.lG, fun j x L hx hL => ?_, h.far, h.apart⟩
  · have := h.tT.put i (.bool true)
    rw [List.map_set, ← List.setIfInBounds_toArray]
    exact this
  · exact own_keep (h.ow j x L hx hL) fun q e => Below.heap_setCell w ⟨k.gT, i, none⟩ _ q (by have := h.far j x q hx e; dsimp only; omega)
theorem KSt.given {W0 : World} {k : KC} {l : List Gr} {T : List Bool} {G : List (List Nat)} {xs : List Value} {w : World} (h : KSt W0 k l T G xs w) {i : Nat} (hi : i < l.length) :
    ∃ A n c L, xs[i]? = some (.slice A n c) ∧ G[i]? = some L ∧ n = L.length ∧ n ≤ c ∧ c ≤ 9223372036854775807 ∧ w.cell? ⟨k.gG, i, none⟩ = some (.slice A n c) ∧ w.ownsRow W0.heap.size 3 1 (.slice A n c) L.length (iv1 (zi L)) := by
  have hx := List.getElem?_eq_getElem (l := xs) (i := i) (by rw [h.lG.1]; exact hi)
  have hL := List.getElem?_eq_getElem (l := G) (i := i) (by rw [h.lG.2]; exact hi)
  have ho := h.ow i _ _ hx hL
  obtain ⟨A, c, e, h1, h2, -⟩ := own_slice ho
  rw [e] at hx ho
  refine ⟨A, _, c, _, hx, hL, rfl, h1, by unfold maxLen at h2; omega, ?_, ho⟩
  rw [h.tG.cell i]
  simpa using hx
theorem own_num {w : World} {B n : Nat} {v : Value} {l : List Nat} (h : w.ownsRow B 3 1 v n (iv1 (zi l))) (hn : l.length = n) {j x : Nat} (hj : l[j]? = some x) :
    ∃ g c, v = .slice (some ⟨g, 0, none⟩) n c ∧ B ≤ g ∧ g < w.heap.size ∧ w.cell? ⟨g, j, none⟩ = some (.int .i64 (x : Int)) ∧ w.frozen? ⟨g, j, none⟩ = false ∧
      ∀ (u : World) (y : Nat), u.heap[g]? = w.heap[g]? → (u.setCell ⟨g, j, none⟩ (.int .i64 (y : Int))).ownsRow B 3 1 v n (iv1 (zi (l.set j y))) := by
  have hk := (List.getElem?_eq_some_iff.1 hj).1
  have hget : (iv1 (zi l))[j]? = some (.int .i64 (x : Int)) := by simp [iv1, zi, hj]
  rcases h.2 with ⟨_, h0⟩ | ⟨g, c, cur, hv, hB, hh, h1, h2, h3, h4⟩
  · omega
  · have hrow : Row w g 3 cur := hh
    have hcur : cur[j]? = some (.int .i64 (x : Int)) := by
      rw [← hget, ← h4, List.getElem?_take, if_pos (by omega), Array.getElem?_toList]
    refine ⟨g, c, hv, hB, hrow.lt, (hrow.cell _).trans hcur, hrow.free _, fun u y hu => ⟨by simp [iv1, zi, hn], .inr ⟨g, c, cur.setIfInBounds j (.int .i64 (y : Int)), hv, hB, ?_, h1, h2, by simpa using h3, ?_⟩⟩⟩
    · exact (show Row u g 3 cur from hu.trans hh).put _ _
    · rw [Array.toList_setIfInBounds, List.take_set, h4]
      simp [iv1, zi, List.map_set]
/-- An element of what a grant has been given is exchanged. -/
theorem KSt.repl {W0 : World} {k : KC} {l : List Gr} {T : List Bool} {G : List (List Nat)} {xs : List Value} {w : World} (h : KSt W0 k l T G xs w) {i : Nat} {A : Option Addr} {n c j x : Nat} {L : List Nat} (hx : xs[i]? = some (.slice A n c)) (hL : G[i]? = some L) (hj : L[j]? = some x) (y : Nat) :
    ∃ g, A = some ⟨g, 0, none⟩ ∧ g < w.heap.size ∧ w.cell? ⟨g, j, none⟩ = some (.int .i64 (x : Int)) ∧ w.frozen? ⟨g, j, none⟩ = false ∧ KSt W0 k l T (G.set i (L.set j y)) xs (w.setCell ⟨g, j, none⟩ (.int .i64 (y : Int))) := by
  obtain ⟨o1, o2, o3, o4, o5, o6, o7⟩ := h.o
  have ho := h.ow i _ L hx hL
  obtain ⟨g, c', hv, hB, hg, hcell, hfr, hset⟩ := own_num ho rfl hj
  obtain ⟨rfl⟩ : A = some ⟨g, 0, none⟩ := by injection hv
  have hf := h.far i _ g hx rfl
  refine ⟨g, rfl, hg, hcell, hfr, h.b.setCell (p := ⟨g, j, none⟩) (by dsimp only; omega) _, h.o, h.rl.far (by dsimp only; omega) _, h.rc.far (by dsimp only; omega) _, h.rg.far (by dsimp only; omega) _, h.rt.far (by dsimp only; omega) _, h.rv.far (by dsimp only; omega) _, h.tT.far (by dsimp only; omega) _, h.tG.far (by dsimp only; omega) _, h.lT, ⟨h.lG.1, by rw [List.length_set]; exact h.lG.2⟩, fun i2 x2 L2 hx2 hL2 => ?_, h.far, h.apart⟩
  · rw [List.getElem?_set] at hL2
    by_cases e : i = i2
    · subst e
      have hlt := (List.getElem?_eq_some_iff.1 hL).1
      rw [if_pos rfl, if_pos hlt] at hL2
      have e2 : L.set j y = L2 := Option.some.inj hL2
      rw [hx] at hx2
      have e3 := Option.some.inj hx2
      subst e2 e3
      rw [List.length_set]
      exact hset w y rfl
    · rw [if_neg e] at hL2
      exact own_keep (h.ow i2 x2 L2 hx2 hL2) fun q eq => Below.heap_setCell w ⟨g, j, none⟩ _ q (fun e4 => h.apart i i2 _ _ g e hx hx2 rfl (by rw [eq]; exact congrArg some e4))
/-- One use more behind what a grant has been given. -/
theorem KSt.push {W0 : World} {k : KC} {l : List Gr} {T : List Bool} {G : List (List Nat)} {xs : List Value} {w : World} (h : KSt W0 k l T G xs w) {i : Nat} {A : Option Addr} {n c : Nat} {L : List Nat} (hx : xs[i]? = some (.slice A n c)) (hL : G[i]? = some L) (hn : n = L.length) (hl : n ≤ 1000) (y : Nat) :
    ∃ A' c' w', Sem.run Try.prog (appN #[26, 26] 26 #[.slice A n c, .slice (some ⟨w.heap.size, 0, none⟩) 1 1]) (w.alloc (.cells #[.int .i64 (y : Int)] 3)) = .ok (.slice A' (n + 1) c') w' ∧
      w'.cell? ⟨k.gG, i, none⟩ = some (.slice A n c) ∧ w'.frozen? ⟨k.gG, i, none⟩ = false ∧ k.gG < w'.heap.size ∧ w'.cell? ⟨k.bg, 0, none⟩ = some (.slice (some ⟨k.gG, 0, none⟩) l.length l.length) ∧ k.bg < w'.heap.size ∧
      KSt W0 k l T (G.set i (L ++ [y])) (xs.set i (.slice A' (n + 1) c')) (w'.setCell ⟨k.gG, i, none⟩ (.slice A' (n + 1) c')) := by
  subst hn
  obtain ⟨o1, o2, o3, o4, o5, o6, o7⟩ := h.o
  have hv := h.rv.lt
  have ho := h.ow i _ L hx hL
  obtain ⟨A', c', w', hrun, hown, hgr, hloc⟩ := push_one (x := .int .i64 (y : Int)) (B := W0.heap.size) Try.underlying26 infoInt rfl rfl (by omega) ho (by omega) h.b.size
  have hz := hgr.size
  rw [World.size_alloc] at hz
  have stay : ∀ q, q < w.heap.size → (Value.slice A L.length c).ownBlock ≠ some q → w'.heap[q]? = w.heap[q]? := fun q hq hne => (hgr.block q (by simp; omega) (fun e => hne e.symm)).trans (Below.heap_alloc w _ q hq)
  have hfar := fun q => h.far i _ q hx
  have stayK : ∀ q, q < w.heap.size → (q = k.bl ∨ q = k.bc ∨ q = k.gG ∨ q = k.bg ∨ q = k.gT ∨ q = k.bt ∨ q = k.bv) → w'.heap[q]? = w.heap[q]? := fun q hq hor => stay q hq fun e => by
    have := hfar q e
    omega
  have hbw : Below W0.heap.size W0 w' := (h.b.alloc h.b.size _).grown hgr (by have := h.b.size; simp; omega) (fun r x => by have := own_ge ho r x; omega)
  have hG : Row w' k.gG 26 xs.toArray := (stayK _ (by omega) (by omega)).trans h.tG
  have hbg : Row w' k.bg 63 #[.slice (some ⟨k.gG, 0, none⟩) l.length l.length] := (stayK _ (by omega) (by omega)).trans h.rg
  have hnew : ∀ q, (Value.slice A' (L.length + 1) c').ownBlock = some q → (Value.slice A L.length c).ownBlock = some q ∨ q = w.heap.size + 1 := fun q e => by
    rcases hloc with h1 | h1
    · exact .inl (h1 ▸ e)
    · rw [h1] at e; exact .inr (Option.some.inj e).symm
  refine ⟨A', c', w', hrun, ?_, hG.free i, hG.lt, hbg.cell 0, hbg.lt, hbw.setCell (p := ⟨k.gG, i, none⟩) (by dsimp only; omega) _, h.o, ?_, ?_, ?_, ?_, ?_, ?_, ?_, h.lT, ⟨by rw [List.length_set]; exact h.lG.1, by rw [List.length_set]; exact h.lG.2⟩, fun i2 x2 L2 hx2 hL2 => ?_, fun i2 x2 q hx2 e => ?_, fun i2 i3 x2 x3 q hne hx2 hx3 e => ?_⟩
  · rw [hG.cell i]; simpa using hx
  · exact Row.far ((stayK _ (by omega) (by omega)).trans h.rl) (by dsimp only; omega) _
  · exact Row.far ((stayK _ (by omega) (by omega)).trans h.rc) (by dsimp only; omega) _
  · exact Row.far hbg (by dsimp only; omega) _
  · exact Row.far ((stayK _ (by omega) (by omega)).trans h.rt) (by dsimp only; omega) _
  · exact Row.far ((stayK _ (by omega) (by omega)).trans h.rv) (by dsimp only; omega) _
  · exact Row.far ((stayK _ (by omega) (by omega)).trans h.tT) (by dsimp only; omega) _
  · have := hG.put i (.slice A' (L.length + 1) c')
    rw [← List.setIfInBounds_toArray]
    exact this
  · rw [List.getElem?_set] at hx2 hL2
    by_cases e : i = i2
    · subst e
      have hlt := (List.getElem?_eq_some_iff.1 hL).1
      have hlt2 := (List.getElem?_eq_some_iff.1 hx).1
      rw [if_pos rfl, if_pos hlt] at hL2
      rw [if_pos rfl, if_pos hlt2] at hx2
      have e2 : L ++ [y] = L2 := Option.some.inj hL2
      have e3 := Option.some.inj hx2
      subst e2 e3
      refine own_keep ?_ fun q eq => Below.heap_setCell w' ⟨k.gG, i, none⟩ _ q fun e4 => ?_
      · rw [List.length_append]
        have e5 : iv1 (zi (L ++ [y])) = iv1 (zi L) ++ [Value.int .i64 (y : Int)] := by simp [iv1, zi]
        rw [e5]; exact hown
      · rcases hnew q eq with h1 | h1
        · have := hfar q h1; dsimp only at e4; omega
        · dsimp only at e4; omega
    · rw [if_neg e] at hL2 hx2
      refine own_keep (h.ow i2 x2 L2 hx2 hL2) fun q eq => (Below.heap_setCell w' ⟨k.gG, i, none⟩ _ q fun e4 => ?_).trans (stay q (own_lt (h.ow i2 x2 L2 hx2 hL2) q eq) fun e4 => h.apart i i2 _ _ q e hx hx2 e4 eq)
      have := h.far i2 x2 q hx2 eq
      dsimp only at e4
      omega
  · rw [List.getElem?_set] at hx2
    by_cases e5 : i = i2
    · have hlt2 := (List.getElem?_eq_some_iff.1 hx).1
      rw [if_pos e5, if_pos hlt2] at hx2
      have e3 := Option.some.inj hx2
      subst e3
      rcases hnew q e with h1 | h1
      · exact hfar q h1
      · omega
    · rw [if_neg e5] at hx2
      exact h.far i2 x2 q hx2 e
  · rw [List.getElem?_set] at hx2 hx3
    have hlt2 := (List.getElem?_eq_some_iff.1 hx).1
    by_cases e5 : i = i2
    · rw [if_pos e5, if_pos hlt2] at hx2
      rw [if_neg (fun e6 => hne (e5 ▸ e6))] at hx3
      have e3 := Option.some.inj hx2
      subst e3
      rcases hnew q e with h1 | h1
      · exact h.apart i i3 _ _ q (fun e6 => hne (e5 ▸ e6)) hx hx3 h1
      · intro e7
        have hi3 : i3 < G.length := by rw [h.lG.2, ← h.lG.1]; exact (List.getElem?_eq_some_iff.1 hx3).1
        have := own_lt (h.ow i3 x3 _ hx3 (List.getElem?_eq_getElem hi3)) q e7
        omega
    · rw [if_neg e5] at hx2
      by_cases e6 : i = i3
      · rw [if_pos e6, if_pos hlt2] at hx3
        have e3 := Option.some.inj hx3
        subst e3
        intro e7
        rcases hnew q e7 with h1 | h1
        · exact h.apart i2 i _ _ q (fun e8 => e5 e8.symm) hx2 hx e h1
        · have hi2 : i2 < G.length := by rw [h.lG.2, ← h.lG.1]; exact (List.getElem?_eq_some_iff.1 hx2).1
          have := own_lt (h.ow i2 x2 _ hx2 (List.getElem?_eq_getElem hi2)) q e
          omega
      · rw [if_neg e6] at hx3
        exact h.apart i2 i3 x2 x3 q hne hx2 hx3 e
end Go.Proofs.Ytenojfniknjeiaa
