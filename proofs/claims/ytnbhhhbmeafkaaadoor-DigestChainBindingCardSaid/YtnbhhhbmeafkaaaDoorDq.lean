/- The law of Dr for a body that may leave: the iterator ends when a round says so. -/
import Derived.Test.YtnbhhhbmeafkaaaDoorDr
namespace Go.Proofs.YtnbhhhbmeafkaaaDoor
open Go.RowKit Go.Shelf

variable {F : Fence} {n : Nat} {P : Program}

def GivesOr {α : Type} (F : Fence) (n : Nat) (P : Program) (g : Nat) (lb : Array Value) (encs : α → Array Value) (no : World → Nat → Prop) (fix : Nat → Prop) (N : Nat) (S Sp : List α → Prop) (w : World) : Prop :=
  ∀ (l : Nat) (J Jx : List α → World → Prop) (W : World), Below w.heap.size w W → W.heap.size = w.heap.size + 2 → l = w.heap.size + 1 →
    (∀ pre X Y, J pre X → Below X.heap.size X Y → J pre Y) →
    (∀ pre X Y k, J pre X → Below X.heap.size X Y → no Y k → k < X.heap.size ∧ ¬ fix k) →
    (∀ pre x W1, J pre W1 → W.heap.size ≤ W1.heap.size → pre.length < N → YieldAt F (n - 1) P l (encs x) W1 fun e W' => (e = .returned (.bool true) ∧ J (pre ++ [x]) W' ∧ Keeps (no W1) W1 W') ∨ (e = .returned (.bool false) ∧ Jx (pre ++ [x]) W')) →
    J [] W →
    CallsIn F n P g (#[.func (.yield l) #[] #[]] ++ lb) W fun e W' => (∃ v, e = .returned v) ∧ ((∃ xs, S xs ∧ J xs W') ∨ (∃ pre, Sp pre ∧ Jx pre W'))

def goesOr {α : Type} (I : List α → World → Prop) (Ix : Code → List α → World → Prop) (no : World → Nat → Prop) (xs : List α) (W : World) : Exit → Act → World → Prop
  | .normal, _, W' => Keeps (no W) W W' ∧ I xs W'
  | .exit id, _, W' => Keeps (no W) W W' ∧ Ix (.exit id) xs W'
  | _, _, _ => False

theorem rangeFunc_or {α : Type} {g : Operand} {ps : Array Tmp} {assign body : Code} {Q : Exit → Act → World → Prop} {a : Act} {w : World}
    (hro : F.round = none) (h1 : 1 ≤ n) {gf : Nat} {lb : Array Value} (hg : a.eval g = .func (.func gf) #[] lb) (hFg : F.fn gf) (eg : ∀ args w, (callFunc gf args).run P w = .ok (.enter gf args) w)
    {encs : α → Array Value} {no : World → Nat → Prop} {fix : Nat → Prop} {N : Nat} {S Sp : List α → Prop} (hseq : GivesOr F (n - 1) P gf lb encs (fun X k => no X k ∨ k = w.heap.size ∨ k = w.heap.size + 1) fix N S Sp w)
    (hps : ∀ x, (encs x).size = ps.size) (hfix : ∀ k, fix k → k < w.heap.size)
    (I : List α → World → Prop) (hno : ∀ pre X Y k, I pre X → Below X.heap.size X Y → no Y k → no X k ∧ k < X.heap.size ∧ ¬ fix k ∧ k ≠ w.heap.size ∧ k ≠ w.heap.size + 1) (hnp : ∀ pre X o k, I pre X → no (X.putObj (w.heap.size + 1) o) k → no X k)
    (Ix : Code → List α → World → Prop) (hIx : ∀ c pre X r o, r = w.heap.size + 1 → Ix c pre X → Ix c pre (X.putObj r o)) (hI : ∀ pre X Y, I pre X → Below X.heap.size X Y → I pre Y) (hIp : ∀ pre X r o, r = w.heap.size + 1 → I pre X → I pre (X.putObj r o)) (h0 : I [] w) (Ax : α → Act → World → Prop)
    (hAx : ∀ x a' W r o, w.heap.size ≤ r → r < w.heap.size + 2 → Ax x a' W → Ax x a' (W.putObj r o))
    (hassign : ∀ (l : Nat) (pre : List α) (x : α) (W : World) (K : Act → World → Prop), w.heap.size + 2 ≤ W.heap.size → I pre W → (∀ a' W', Below W.heap.size W W' → Ax x a' W' → K a' W') →
      assign.wpIn (F.inRound l) (n - 1 - 1) P (Exit.then K (fun _ _ _ => False)) { tmps := (ps.zip (encs x)).foldl (fun t (p, v) => t.setIfInBounds p v) a.tmps, defers := [] } W)
    (hbody : ∀ (l : Nat) (pre : List α) (x : α) (a' : Act) (W : World), w.heap.size + 2 ≤ W.heap.size → I pre W → Ax x a' W → pre.length < N → body.wpIn (F.inRound l) (n - 1 - 1) P (goesOr I Ix no (pre ++ [x]) W) a' W)
    (hdone : ∀ (D : Nat) (xs : List α) (W : World), w.heap.size ≤ D → S xs → I xs W → W.heap[D]? = some (.deferred (some [])) → Q .normal { a with defers := { target := .collected D, args := #[] } :: a.defers } W)
    (hstop : ∀ (D : Nat) (c : Code) (pre : List α) (W : World), w.heap.size ≤ D → Sp pre → Ix c pre W → W.heap[D]? = some (.deferred (some [])) → c.wpIn F n P Q { a with defers := { target := .collected D, args := #[] } :: a.defers } W) :
    (Code.rangeFunc g ps assign body).wpIn F n P Q a w := by
  refine wpIn_rangeFunc ?_
  intro fn hfn
  rw [hro]
  obtain ⟨rec, hrec⟩ : ∃ rec : LoopState → Option Code → Loop, rec = fun st pe => { state := st, pending := pe, fn, tmps := a.tmps, params := ps, assign, body, defers := w.heap.size } := ⟨_, rfl⟩
  obtain ⟨W1, hW1⟩ : ∃ W1, (w.alloc (.deferred (some []))).alloc (.loop (rec .ready none)) = W1 := ⟨_, rfl⟩
  have hL1 : W1.heap[w.heap.size + 1]? = some (.loop (rec .ready none)) := by
    rw [← hW1]; have := World.alloc_heap_new (w.alloc (.deferred (some []))) (.loop (rec .ready none)); rwa [World.size_alloc] at this
  have hK1 : W1.heap[w.heap.size]? = some (.deferred (some [])) := by
    rw [← hW1]; exact (Below.heap_alloc _ _ _ (by simp)).trans (World.alloc_heap_new w _)
  have hb1 : Below w.heap.size w W1 := by
    rw [← hW1]; exact ((Below.refl _ w).alloc (Nat.le_refl _) _).alloc (by simp) _
  have hs1 : W1.heap.size = w.heap.size + 2 := by rw [← hW1]; simp
  have hI1 : I [] W1 := hI _ _ _ h0 hb1
  refine ⟨w.heap.size + 1, [{ target := .collected w.heap.size, args := #[] }], W1, { target := .fn (.func gf) lb, args := #[.func (.yield (w.heap.size + 1)) #[] #[]] }, W1, gf,
    #[.func (.yield (w.heap.size + 1)) #[] #[]] ++ lb, W1, ?_, ?_, ?_, ?_, fun _ => h1, ?_⟩
  · rw [← hW1, hrec]; exact run_enterLoop_outer _ _ _ _ _
  · simp only [resolve, hg]
    simp [go_sem]
  · intro f' hf'; simp [Target.leads] at hf'; subst hf'; exact hFg
  · simp [invoke, go_sem, eg]
  · refine (hseq (w.heap.size + 1)
      (fun pre W => I pre W ∧ W.heap[w.heap.size + 1]? = some (.loop (rec .ready none)) ∧ W.heap[w.heap.size]? = some (.deferred (some [])))
      (fun pre W => ∃ c, Ix c pre W ∧ W.heap[w.heap.size + 1]? = some (.loop (rec .done (some c))) ∧ W.heap[w.heap.size]? = some (.deferred (some [])))
      W1 hb1 hs1 rfl
      (fun s A B hs hb => ⟨hI s A B hs.1 hb, (hb.block _ (Array.getElem?_eq_some_iff.1 hs.2.1).1).trans hs.2.1, (hb.block _ (Array.getElem?_eq_some_iff.1 hs.2.2).1).trans hs.2.2⟩)
      (fun s A B k hs hb hk => by
        have hsz := (Array.getElem?_eq_some_iff.1 hs.2.1).1
        rcases hk with hk | rfl | rfl
        · have := hno s A B k hs.1 hb hk; exact ⟨this.2.1, this.2.2.1⟩
        · exact ⟨by omega, fun e => by have := hfix _ e; omega⟩
        · exact ⟨by omega, fun e => by have := hfix _ e; omega⟩)
      ?_ ⟨hI1, hL1, hK1⟩).mono ?_
    · rintro pre x W ⟨hi, hl, hk⟩ hsz hlen
      have hy := run_yield (P := P) (args := encs x) hl (by rw [hrec]; exact hps x)
      rw [hrec] at hy
      refine ⟨fn, _, assign, body, hy, roundIn_of_wpIn hfn (hassign _ pre x W _ (by omega) hi ?_)⟩
      intro a' Wa hba hax
      have hla := (hba.block (w.heap.size + 1) (by omega)).trans hl
      have hka := (hba.block w.heap.size (by omega)).trans hk
      have hia := hI _ _ _ hi hba
      have hsa := hba.size
      refine ⟨_, run_beginRound hla (by rw [hrec]), ?_⟩
      have hl2 : (Wa.putObj (w.heap.size + 1) (.loop { rec .ready none with state := .busy })).heap[w.heap.size + 1]? = some (.loop { rec .ready none with state := .busy }) := World.putObj_heap_same (by omega)
      have hk2 : (Wa.putObj (w.heap.size + 1) (.loop { rec .ready none with state := .busy })).heap[w.heap.size]? = some (.deferred (some [])) := (World.putObj_heap_other (by omega)).trans hka
      have hib := hIp _ _ (w.heap.size + 1) (.loop { rec .ready none with state := .busy }) rfl hia
      have hnn : ∀ k, no (Wa.putObj (w.heap.size + 1) (.loop { rec .ready none with state := .busy })) k → no W k := fun k hk => (hno _ _ _ _ hi hba (hnp _ _ _ _ hia hk)).1
      refine wpIn_mono (hbody _ pre x a' _ (by simp; omega) hib (hAx _ _ _ _ _ (by omega) (by omega) hax) hlen) ?_
      rintro e a3 W3 hp
      cases e with
      | normal =>
        obtain ⟨hk3, hi3⟩ := hp
        have hl3 := (hk3.block (w.heap.size + 1) (by simp; omega) (fun e => by have := hno _ _ _ _ hib (Below.refl _ _) e; omega)).trans hl2
        have hd3 := (hk3.block w.heap.size (by simp; omega) (fun e => by have := hno _ _ _ _ hib (Below.refl _ _) e; omega)).trans hk2
        have hs3 := hk3.size
        have := run_endRound (P := P) none hl3
        rw [hrec] at this
        refine ⟨_, _, this, .inl ⟨rfl, ⟨hIp _ _ _ _ rfl hi3, ?_, (World.putObj_heap_other (by omega)).trans hd3⟩, ?_⟩⟩
        · rw [hrec]; exact World.putObj_heap_same (by simp at hs3; omega)
        · exact (Keeps.of_below hba).trans ((Keeps.putObj (.inr (.inr rfl))).trans ((Keeps.trans ⟨hk3.os, hk3.tape, hk3.output, hk3.size, fun k hk hn => hk3.block k hk (fun e => hn (.inl (hnn _ e)))⟩ (Keeps.putObj (.inr (.inr rfl))))))
      | ret => exact hp.elim
      | exit id =>
        obtain ⟨hk3, hi3⟩ := hp
        have hl3 := (hk3.block (w.heap.size + 1) (by simp; omega) (fun e => by have := hno _ _ _ _ hib (Below.refl _ _) e; omega)).trans hl2
        have hd3 := (hk3.block w.heap.size (by simp; omega) (fun e => by have := hno _ _ _ _ hib (Below.refl _ _) e; omega)).trans hk2
        have hs3 := hk3.size
        have := run_endRound (P := P) (some (.exit id)) hl3
        rw [hrec] at this
        refine ⟨_, _, this, .inr ⟨rfl, .exit id, hIx _ _ _ _ _ rfl hi3, ?_, (World.putObj_heap_other (by omega)).trans hd3⟩⟩
        rw [hrec]; exact World.putObj_heap_same (by simp at hs3; omega)
      | goto t => exact hp.elim
      | panic ch => exact hp.elim
      | outgrown => exact hp.elim
    · rintro e W2 ⟨⟨v, rfl⟩, (⟨xs, hS, hi, hl, hk⟩ | ⟨pre, hSp, c, hi, hl, hk⟩)⟩
      rotate_left
      · have hlt : w.heap.size + 1 < W2.heap.size := (Array.getElem?_eq_some_iff.1 hl).1
        refine ⟨some c, _, by have := run_endLoop (P := P) hl (by rw [hrec]; simp); rw [hrec] at this; exact this, hstop _ c pre _ (Nat.le_refl _) hSp (hIx _ _ _ _ _ rfl hi) ((World.putObj_heap_other (by omega)).trans hk)⟩
      have hlt : w.heap.size + 1 < W2.heap.size := (Array.getElem?_eq_some_iff.1 hl).1
      refine ⟨none, _, by have := run_endLoop (P := P) hl (by rw [hrec]; simp); rw [hrec] at this; exact this, hdone _ xs _ (Nat.le_refl _) hS (hIp _ _ _ _ rfl hi) ((World.putObj_heap_other (by omega)).trans hk)⟩
end Go.Proofs.YtnbhhhbmeafkaaaDoor
