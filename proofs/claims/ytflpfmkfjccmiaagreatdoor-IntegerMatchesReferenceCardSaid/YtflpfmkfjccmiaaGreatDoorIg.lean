/- A law for 'for i, x := range seq' over an iterator that yields N pairs in a known order, with a body that may leave by a jump or a return; the iterator of slices.Backward. -/
import Derived.RangeFuncNested
import Derived.RangeFuncBound
import Derived.RangeFuncCalls
import Derived.RangeFuncLeaves
import Derived.Shelf.Abstract
import Derived.Shelf.RegionOpen
import Derived.OwnWalkIn
import Derived.TacticsInMore
import Derived.LoopNIn
import Derived.LoopIn
import Derived.Test.YtflpfmkfjccmiaaGreatDoorIa
namespace Go.Proofs.YtflpfmkfjccmiaaGreatDoor
open Go.RowKit Go.Shelf

/-- All blocks that lay keep what they held, but those of which 'no' speaks. -/
structure Keeps (no : Nat → Prop) (W W' : World) : Prop where
  os : W'.os = W.os
  tape : W'.tape = W.tape
  output : W'.output = W.output
  size : W.heap.size ≤ W'.heap.size
  block : ∀ k, k < W.heap.size → ¬ no k → W'.heap[k]? = W.heap[k]?
theorem Keeps.refl (no : Nat → Prop) (W : World) : Keeps no W W := ⟨rfl, rfl, rfl, Nat.le_refl _, fun _ _ _ => rfl⟩
theorem Keeps.trans {no : Nat → Prop} {A B C : World} (h : Keeps no A B) (k : Keeps no B C) : Keeps no A C :=
  ⟨k.os.trans h.os, k.tape.trans h.tape, k.output.trans h.output, Nat.le_trans h.size k.size, fun i hi hn => (k.block i (Nat.lt_of_lt_of_le hi h.size) hn).trans (h.block i hi hn)⟩
theorem Keeps.putObj {no : Nat → Prop} {W : World} {r : Nat} {o : Obj} (h : no r) : Keeps no W (W.putObj r o) :=
  ⟨rfl, rfl, rfl, by simp, fun k _ hn => World.putObj_heap_other (fun e => hn (e ▸ h))⟩
theorem Keeps.of_below {no : Nat → Prop} {W W' : World} (h : Below W.heap.size W W') : Keeps no W W' := ⟨h.os, h.tape, h.output, h.size, fun k hk _ => h.block k hk⟩
theorem Keeps.setCell {no : Nat → Prop} {W : World} {p : Addr} (h : no p.block) (u : Value) : Keeps no W (W.setCell p u) :=
  ⟨rfl, rfl, rfl, by simp [World.setCell], fun k _ hn => Below.heap_setCell _ _ _ _ (fun e => hn (e ▸ h))⟩
theorem Keeps.setRow {no : Nat → Prop} {W : World} {g : Nat} (h : no g) (cs : Array Value) : Keeps no W (W.setRow g cs) :=
  ⟨rfl, rfl, rfl, by simp [World.setRow], fun k _ hn => setRow_other _ _ _ _ (fun e => hn (e ▸ h))⟩
theorem Keeps.below {no : Nat → Prop} {W W' : World} {B : Nat} (h : Keeps no W W') (hn : ∀ k, no k → B ≤ k) (hB : B ≤ W.heap.size) : Below B W W' :=
  ⟨h.os, h.tape, h.output, h.size, fun k hk => h.block k (by omega) (fun e => by have := hn k e; omega)⟩

variable {F : Fence} {n : Nat} {P : Program}

def GivesN (F : Fence) (n : Nat) (P : Program) (g : Nat) (lb : Array Value) (encs : Nat → Array Value) (no : World → Nat → Prop) (fix : Nat → Prop) (N : Nat) (w : World) : Prop :=
  ∀ (l : Nat) (J Jx : Nat → World → Prop) (W : World), Below w.heap.size w W → W.heap.size = w.heap.size + 2 → l = w.heap.size + 1 →
    (∀ k X Y, J k X → Below X.heap.size X Y → J k Y) →
    (∀ k X Y j, J k X → Below X.heap.size X Y → no Y j → j < X.heap.size ∧ ¬ fix j) →
    (∀ k W1, k < N → J k W1 → W.heap.size ≤ W1.heap.size → YieldAt F (n - 1) P l (encs k) W1 fun e W' => (e = .returned (.bool true) ∧ J (k + 1) W' ∧ Keeps (no W1) W1 W') ∨ (e = .returned (.bool false) ∧ Jx k W')) →
    J 0 W →
    CallsIn F n P g (#[.func (.yield l) #[] #[]] ++ lb) W fun e W' => (∃ v, e = .returned v) ∧ (J N W' ∨ ∃ k, k < N ∧ Jx k W')

def goesN (I : Nat → World → Prop) (Ix : Code → Nat → World → Prop) (no : World → Nat → Prop) (k : Nat) (W : World) : Exit → Act → World → Prop
  | .normal, _, W' => Keeps (no W) W W' ∧ I (k + 1) W'
  | .ret, _, W' => Keeps (no W) W W' ∧ Ix .ret k W'
  | .exit id, _, W' => Keeps (no W) W W' ∧ Ix (.exit id) k W'
  | _, _, _ => False

theorem rangeFunc_n {g : Operand} {ps : Array Tmp} {assign body : Code} {Q : Exit → Act → World → Prop} {a : Act} {w : World}
    (hro : F.round = none) (h1 : 1 ≤ n) {gf : Nat} {lb : Array Value} (hg : a.eval g = .func (.func gf) #[] lb) (hFg : F.fn gf) (eg : ∀ args w, (callFunc gf args).run P w = .ok (.enter gf args) w)
    {encs : Nat → Array Value} {no : World → Nat → Prop} {fix : Nat → Prop} {N : Nat} (hseq : GivesN F (n - 1) P gf lb encs (fun X k => no X k ∨ k = w.heap.size ∨ k = w.heap.size + 1) fix N w)
    (hps : ∀ x, (encs x).size = ps.size) (hfix : ∀ k, fix k → k < w.heap.size)
    (I : Nat → World → Prop) (hno : ∀ pre X Y k, I pre X → Below X.heap.size X Y → no Y k → no X k ∧ k < X.heap.size ∧ ¬ fix k ∧ k ≠ w.heap.size ∧ k ≠ w.heap.size + 1) (hnp : ∀ pre X o k, I pre X → no (X.putObj (w.heap.size + 1) o) k → no X k)
    (Ix : Code → Nat → World → Prop) (hIx : ∀ c pre X r o, r = w.heap.size + 1 → (∃ L, X.heap[r]? = some (.loop L)) → Ix c pre X → Ix c pre (X.putObj r o)) (hI : ∀ pre X Y, I pre X → Below X.heap.size X Y → I pre Y) (hIp : ∀ pre X r o, r = w.heap.size + 1 → (∃ L, X.heap[r]? = some (.loop L)) → I pre X → I pre (X.putObj r o)) (h0 : I 0 w) (Ax : Nat → Act → World → Prop)
    (hAx : ∀ x a' W r o, w.heap.size ≤ r → r < w.heap.size + 2 → Ax x a' W → Ax x a' (W.putObj r o))
    (hassign : ∀ (l : Nat) (k : Nat) (W : World) (K : Act → World → Prop), k < N → w.heap.size + 2 ≤ W.heap.size → I k W → (∀ a' W', Below W.heap.size W W' → Ax k a' W' → K a' W') →
      assign.wpIn (F.inRound l) (n - 1 - 1) P (Exit.then K (fun _ _ _ => False)) { tmps := (ps.zip (encs k)).foldl (fun t (p, v) => t.setIfInBounds p v) a.tmps, defers := [] } W)
    (hbody : ∀ (l : Nat) (k : Nat) (a' : Act) (W : World), k < N → w.heap.size + 2 ≤ W.heap.size → I k W → Ax k a' W → body.wpIn (F.inRound l) (n - 1 - 1) P (goesN I Ix no k W) a' W)
    (hdone : ∀ (D : Nat) (W : World), w.heap.size ≤ D → I N W → W.heap[D]? = some (.deferred (some [])) → Q .normal { a with defers := { target := .collected D, args := #[] } :: a.defers } W)
    (hstop : ∀ (D : Nat) (c : Code) (k : Nat) (W : World), w.heap.size ≤ D → k < N → Ix c k W → W.heap[D]? = some (.deferred (some [])) → c.wpIn F n P Q { a with defers := { target := .collected D, args := #[] } :: a.defers } W) :
    (Code.rangeFunc g ps assign body).wpIn F n P Q a w := by
  refine wpIn_rangeFunc ?_
  intro fn hfn
  rw [hro]
  obtain ⟨rec, hrec⟩ : ∃ rec : LoopState → Option Code → Loop, rec = fun st pe => { state := st, pending := pe, fn, tmps := a.tmps, params := ps, assign, body, defers := w.heap.size } := ⟨_, rfl⟩
  obtain ⟨W1, hW1⟩ : ∃ W1, (w.alloc (.deferred (some []))).alloc (.loop (rec .ready none)) = W1 := ⟨_, rfl⟩
  have hL1 : W1.heap[w.heap.size + 1]? = some (.loop (rec .ready none)) := by
    rw [← hW1]; have := World.alloc_heap_new (w.alloc (.deferred (some []))) (.loop (rec .ready none)); rwa [World.size_alloc] at this
  have hK1 : W1.heap[w.heap.size]? = some (.deferred (some [])) := by
    rw [← hW1]; exact (Below.heap_alloc _ _ _ (by simp)).trans (World.alloc_heap_new w _)
  have hb1 : Below w.heap.size w W1 := by
    rw [← hW1]; exact ((Below.refl _ w).alloc (Nat.le_refl _) _).alloc (by simp) _
  have hs1 : W1.heap.size = w.heap.size + 2 := by rw [← hW1]; simp
  have hI1 : I 0 W1 := hI _ _ _ h0 hb1
  refine ⟨w.heap.size + 1, [{ target := .collected w.heap.size, args := #[] }], W1, { target := .fn (.func gf) lb, args := #[.func (.yield (w.heap.size + 1)) #[] #[]] }, W1, gf,
    #[.func (.yield (w.heap.size + 1)) #[] #[]] ++ lb, W1, ?_, ?_, ?_, ?_, fun _ => h1, ?_⟩
  · rw [← hW1, hrec]; exact run_enterLoop_outer _ _ _ _ _
  · simp only [resolve, hg]
    simp [go_sem]
  · intro f' hf'; simp [Target.leads] at hf'; subst hf'; exact hFg
  · simp [invoke, go_sem, eg]
  · refine (hseq (w.heap.size + 1)
      (fun pre W => I pre W ∧ W.heap[w.heap.size + 1]? = some (.loop (rec .ready none)) ∧ W.heap[w.heap.size]? = some (.deferred (some [])))
      (fun pre W => ∃ c, Ix c pre W ∧ W.heap[w.heap.size + 1]? = some (.loop (rec .done (some c))) ∧ W.heap[w.heap.size]? = some (.deferred (some [])))
      W1 hb1 hs1 rfl
      (fun s A B hs hb => ⟨hI s A B hs.1 hb, (hb.block _ (Array.getElem?_eq_some_iff.1 hs.2.1).1).trans hs.2.1, (hb.block _ (Array.getElem?_eq_some_iff.1 hs.2.2).1).trans hs.2.2⟩)
      (fun s A B k hs hb hk => by
        have hsz := (Array.getElem?_eq_some_iff.1 hs.2.1).1
        rcases hk with hk | rfl | rfl
        · have := hno s A B k hs.1 hb hk; exact ⟨this.2.1, this.2.2.1⟩
        · exact ⟨by omega, fun e => by have := hfix _ e; omega⟩
        · exact ⟨by omega, fun e => by have := hfix _ e; omega⟩)
      ?_ ⟨hI1, hL1, hK1⟩).mono ?_
    · rintro k W hkN ⟨hi, hl, hk⟩ hsz
      have hy := run_yield (P := P) (args := encs k) hl (by rw [hrec]; exact hps k)
      rw [hrec] at hy
      refine ⟨fn, _, assign, body, hy, roundIn_of_wpIn hfn (hassign _ k W _ hkN (by omega) hi ?_)⟩
      intro a' Wa hba hax
      have hla := (hba.block (w.heap.size + 1) (by omega)).trans hl
      have hka := (hba.block w.heap.size (by omega)).trans hk
      have hia := hI _ _ _ hi hba
      have hsa := hba.size
      refine ⟨_, run_beginRound hla (by rw [hrec]), ?_⟩
      have hl2 : (Wa.putObj (w.heap.size + 1) (.loop { rec .ready none with state := .busy })).heap[w.heap.size + 1]? = some (.loop { rec .ready none with state := .busy }) := World.putObj_heap_same (by omega)
      have hk2 : (Wa.putObj (w.heap.size + 1) (.loop { rec .ready none with state := .busy })).heap[w.heap.size]? = some (.deferred (some [])) := (World.putObj_heap_other (by omega)).trans hka
      have hib := hIp _ _ (w.heap.size + 1) (.loop { rec .ready none with state := .busy }) rfl ⟨_, hla⟩ hia
      have hnn : ∀ k, no (Wa.putObj (w.heap.size + 1) (.loop { rec .ready none with state := .busy })) k → no W k := fun k hk => (hno _ _ _ _ hi hba (hnp _ _ _ _ hia hk)).1
      refine wpIn_mono (hbody _ k a' _ hkN (by simp; omega) hib (hAx _ _ _ _ _ (by omega) (by omega) hax)) ?_
      rintro e a3 W3 hp
      cases e with
      | normal =>
        obtain ⟨hk3, hi3⟩ := hp
        have hl3 := (hk3.block (w.heap.size + 1) (by simp; omega) (fun e => by have := hno _ _ _ _ hib (Below.refl _ _) e; omega)).trans hl2
        have hd3 := (hk3.block w.heap.size (by simp; omega) (fun e => by have := hno _ _ _ _ hib (Below.refl _ _) e; omega)).trans hk2
        have hs3 := hk3.size
        have := run_endRound (P := P) none hl3
        rw [hrec] at this
        refine ⟨_, _, this, .inl ⟨rfl, ⟨hIp _ _ _ _ rfl ⟨_, hl3⟩ hi3, ?_, (World.putObj_heap_other (by omega)).trans hd3⟩, ?_⟩⟩
        · rw [hrec]; exact World.putObj_heap_same (by simp at hs3; omega)
        · exact (Keeps.of_below hba).trans ((Keeps.putObj (.inr (.inr rfl))).trans ((Keeps.trans ⟨hk3.os, hk3.tape, hk3.output, hk3.size, fun k hk hn => hk3.block k hk (fun e => hn (.inl (hnn _ e)))⟩ (Keeps.putObj (.inr (.inr rfl))))))
      | ret =>
        obtain ⟨hk3, hi3⟩ := hp
        have hl3 := (hk3.block (w.heap.size + 1) (by simp; omega) (fun e => by have := hno _ _ _ _ hib (Below.refl _ _) e; omega)).trans hl2
        have hd3 := (hk3.block w.heap.size (by simp; omega) (fun e => by have := hno _ _ _ _ hib (Below.refl _ _) e; omega)).trans hk2
        have hs3 := hk3.size
        have := run_endRound (P := P) (some .ret) hl3
        rw [hrec] at this
        refine ⟨_, _, this, .inr ⟨rfl, .ret, hIx _ _ _ _ _ rfl ⟨_, hl3⟩ hi3, ?_, (World.putObj_heap_other (by omega)).trans hd3⟩⟩
        rw [hrec]; exact World.putObj_heap_same (by simp at hs3; omega)
      | exit id =>
        obtain ⟨hk3, hi3⟩ := hp
        have hl3 := (hk3.block (w.heap.size + 1) (by simp; omega) (fun e => by have := hno _ _ _ _ hib (Below.refl _ _) e; omega)).trans hl2
        have hd3 := (hk3.block w.heap.size (by simp; omega) (fun e => by have := hno _ _ _ _ hib (Below.refl _ _) e; omega)).trans hk2
        have hs3 := hk3.size
        have := run_endRound (P := P) (some (.exit id)) hl3
        rw [hrec] at this
        refine ⟨_, _, this, .inr ⟨rfl, .exit id, hIx _ _ _ _ _ rfl ⟨_, hl3⟩ hi3, ?_, (World.putObj_heap_other (by omega)).trans hd3⟩⟩
        rw [hrec]; exact World.putObj_heap_same (by simp at hs3; omega)
      | goto t => exact hp.elim
      | panic ch => exact hp.elim
      | outgrown => exact hp.elim
    · rintro e W2 ⟨⟨v, rfl⟩, (⟨hi, hl, hk⟩ | ⟨k, hkN, c, hi, hl, hk⟩)⟩
      rotate_left
      · have hlt : w.heap.size + 1 < W2.heap.size := (Array.getElem?_eq_some_iff.1 hl).1
        refine ⟨some c, _, by have := run_endLoop (P := P) hl (by rw [hrec]; simp); rw [hrec] at this; exact this, hstop _ c k _ (Nat.le_refl _) hkN (hIx _ _ _ _ _ rfl ⟨_, hl⟩ hi) ((World.putObj_heap_other (by omega)).trans hk)⟩
      have hlt : w.heap.size + 1 < W2.heap.size := (Array.getElem?_eq_some_iff.1 hl).1
      refine ⟨none, _, by have := run_endLoop (P := P) hl (by rw [hrec]; simp); rw [hrec] at this; exact this, hdone _ _ (Nat.le_refl _) (hIp _ _ _ _ rfl ⟨_, hl⟩ hi) ((World.putObj_heap_other (by omega)).trans hk)⟩
end Go.Proofs.YtflpfmkfjccmiaaGreatDoor
