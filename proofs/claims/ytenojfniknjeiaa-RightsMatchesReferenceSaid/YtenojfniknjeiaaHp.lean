/- An own law for loops over iterators: what is handed over is known by a relation alone. -/
import Derived.Test.YtenojfniknjeiaaHo
import Derived.Test.YtenojfniknjeiaaShelf
import Derived.RangeFuncNested
import Derived.RangeFuncBound
import Derived.RangeFuncCalls
import Derived.RangeFuncLeaves
import Derived.Shelf.Abstract
import Derived.Shelf.RegionOpen
import Derived.OwnWalkIn
import Derived.TacticsInMore
import Derived.LoopNIn
import Derived.LoopIn
namespace Go.Proofs.Ytenojfniknjeiaa
open Go.RowKit
variable {F : Fence} {n : Nat} {P : Program}

/-- Whatever lay in W lies as it lay in W', but for the blocks that no names. -/
structure Keeps (no : Nat → Prop) (W W' : World) : Prop where
  os : W'.os = W.os
  tape : W'.tape = W.tape
  output : W'.output = W.output
  size : W.heap.size ≤ W'.heap.size
  block : ∀ k, k < W.heap.size → ¬ no k → W'.heap[k]? = W.heap[k]?
theorem Keeps.refl (no : Nat → Prop) (W : World) : Keeps no W W := ⟨rfl, rfl, rfl, Nat.le_refl _, fun _ _ _ => rfl⟩
theorem Keeps.trans {no : Nat → Prop} {A B C : World} (h : Keeps no A B) (k : Keeps no B C) : Keeps no A C :=
  ⟨k.os.trans h.os, k.tape.trans h.tape, k.output.trans h.output, Nat.le_trans h.size k.size, fun i hi hn => (k.block i (Nat.lt_of_lt_of_le hi h.size) hn).trans (h.block i hi hn)⟩
theorem Keeps.more {no no' : Nat → Prop} {W W' : World} (h : Keeps no W W') (hn : ∀ k, k < W.heap.size → no k → no' k) : Keeps no' W W' := ⟨h.os, h.tape, h.output, h.size, fun k hk hk' => h.block k hk (fun e => hk' (hn k hk e))⟩
theorem Keeps.of_below {no : Nat → Prop} {W W' : World} (h : Below W.heap.size W W') : Keeps no W W' := ⟨h.os, h.tape, h.output, h.size, fun k hk _ => h.block k hk⟩
theorem Keeps.of_grown {no : Nat → Prop} {W W' : World} {row : Option Nat} (h : W.grownBy W' row) (hr : ∀ r, row = some r → no r) : Keeps no W W' := ⟨h.os, h.tape, h.output, h.size, fun k hk hn => h.block k hk (fun e => hn (hr k e.symm))⟩
theorem Keeps.setCell {no : Nat → Prop} {W : World} {p : Addr} (h : no p.block) (u : Value) : Keeps no W (W.setCell p u) :=
  ⟨rfl, rfl, rfl, by simp [World.setCell], fun k _ hn => Below.heap_setCell _ _ _ _ (fun e => hn (e ▸ h))⟩
theorem Keeps.cell {no : Nat → Prop} {W W' : World} {k i : Nat} (h : Keeps no W W') (hk : k < W.heap.size) (hn : ¬ no k) : W'.cell? ⟨k, i, none⟩ = W.cell? ⟨k, i, none⟩ := by
  unfold World.cell?; rw [h.block k hk hn]
theorem Keeps.row {no : Nat → Prop} {W W' : World} {g : Nat} {t : TypeId} {cs : Array Value} (h : Keeps no W W') (hr : Row W g t cs) (hn : ¬ no g) : Row W' g t cs := (h.block g hr.lt hn).trans hr
/-- A round's word: only blocks of its own have turned, and its own blocks are those that it had and new ones. -/
structure RoundK (no : World → Nat → Prop) (W W' : World) : Prop where
  keeps : Keeps (no W) W W'
  grow : ∀ k, no W' k → no W k ∨ W.heap.size ≤ k
theorem RoundK.refl (no : World → Nat → Prop) (W : World) : RoundK no W W := ⟨Keeps.refl _ _, fun _ h => .inl h⟩
theorem RoundK.trans {no : World → Nat → Prop} {A B C : World} (h : RoundK no A B) (k : RoundK no B C) : RoundK no A C :=
  ⟨⟨k.keeps.os.trans h.keeps.os, k.keeps.tape.trans h.keeps.tape, k.keeps.output.trans h.keeps.output, Nat.le_trans h.keeps.size k.keeps.size, fun i hi hn => (k.keeps.block i (Nat.lt_of_lt_of_le hi h.keeps.size) (fun e => (h.grow i e).elim hn (fun e => by omega))).trans (h.keeps.block i hi hn)⟩,
    fun i hi => (k.grow i hi).elim (h.grow i) (fun e => .inr (Nat.le_trans h.keeps.size e))⟩
theorem RoundK.keep {no : World → Nat → Prop} {A B C : World} (h : RoundK no A B) (k : Keeps (no B) B C) : Keeps (no A) A C :=
  ⟨k.os.trans h.keeps.os, k.tape.trans h.keeps.tape, k.output.trans h.keeps.output, Nat.le_trans h.keeps.size k.size, fun i hi hn => (k.block i (Nat.lt_of_lt_of_le hi h.keeps.size) (fun e => (h.grow i e).elim hn (fun e => by omega))).trans (h.keeps.block i hi hn)⟩
abbrev Turns (no : World → Nat → Prop) (B : Nat) (X : World) (row : Option Nat) : Prop := ∀ r, row = some r → B ≤ r ∧ ((∃ o : Obj, X.heap[r]? = some o ∧ o.isCells = false) ∨ ¬ no X r)
/-- An invariant that looks at older blocks and at those that no names alone. -/
def OwnNo {β : Type} (no : World → Nat → Prop) (B : Nat) (I : β → World → Prop) : Prop := ∀ s W W' row, I s W → W.grownBy W' row → Turns no B W row → I s W'
theorem OwnNo.from {β : Type} {no : World → Nat → Prop} {B : Nat} {I : β → World → Prop} (h : OwnNo no B I) : OwnFrom B I := fun s W W' row hs hg hr => h s W W' row hs hg (fun r e => ⟨(hr r e).1, .inl (hr r e).2⟩)
theorem OwnNo.alloc {β : Type} {no : World → Nat → Prop} {B : Nat} {I : β → World → Prop} (h : OwnNo no B I) {s : β} {W : World} (o : Obj) (hs : I s W) : I s (W.alloc o) := h.from.alloc o hs
theorem OwnNo.putObj {β : Type} {no : World → Nat → Prop} {B : Nat} {I : β → World → Prop} (h : OwnNo no B I) {s : β} {W : World} {l : Nat} {o : Obj} (o' : Obj) (hs : I s W) (hB : B ≤ l) (hl : W.heap[l]? = some o) (ho : o.isCells = false) : I s (W.putObj l o') := h.from.putObj o' hs hB hl ho
theorem OwnFrom.up {β : Type} {B B' : Nat} {I : β → World → Prop} (h : OwnFrom B I) (hB : B ≤ B') : OwnFrom B' I := fun s W W' row hs hg hr => h s W W' row hs hg (fun r e => ⟨Nat.le_trans hB (hr r e).1, (hr r e).2⟩)

/-- An iterator that hands over the members of full, in order, to whatever loop: a round may be told what has come before; no names the round's own blocks, fix the iterator's. -/
def GivesE {α : Type} (F : Fence) (n : Nat) (P : Program) (g : Nat) (lb : Array Value) (E : World → α → Array Value → Prop) (no : World → Nat → Prop) (fix : Nat → Prop) (full : List α) (w : World) : Prop :=
  ∀ (l : Nat) (J Jx : List α → World → Prop) (W : World), Below w.heap.size w W → OwnNo no W.heap.size J → OwnFrom W.heap.size Jx →
    (∀ s X k, J s X → no X k → k < X.heap.size ∧ ¬ fix k ∧ ((∃ o : Obj, X.heap[k]? = some o ∧ o.isCells = true) ∨ k < W.heap.size)) →
    (∀ s X Y row k, J s X → X.grownBy Y row → Turns no W.heap.size X row → no Y k → no X k) →
    (∀ pre x vs W1, pre ++ [x] <+: full → E W1 x vs → J pre W1 → YieldAt F (n - 1) P l vs W1 fun e W' =>
      (e = .returned (.bool true) ∧ RoundK no W1 W' ∧ J (pre ++ [x]) W') ∨ (e = .returned (.bool false) ∧ Keeps (no W1) W1 W' ∧ Jx (pre ++ [x]) W')) →
    J [] W →
    CallsIn F n P g (#[.func (.yield l) #[] #[]] ++ lb) W fun e W' => (∃ v, e = .returned v) ∧ (J full W' ∨ ∃ pre, pre <+: full ∧ Jx pre W')
/-- How a round's body may be left. -/
def goesE {α : Type} (no : World → Nat → Prop) (I : List α → World → Prop) (Ix : Code → List α → World → Prop) (xs : List α) (W : World) : Exit → Act → World → Prop
  | .normal, _, W' => RoundK no W W' ∧ I xs W'
  | .ret, _, W' => Keeps (no W) W W' ∧ Ix .ret xs W'
  | .exit id, _, W' => Keeps (no W) W W' ∧ Ix (.exit id) xs W'
  | _, _, _ => False

theorem rangeFunc_e {α : Type} {g : Operand} {ps : Array Tmp} {assign body : Code} {Q : Exit → Act → World → Prop} {a : Act} {w : World}
    (hro : F.round = none) (h1 : 1 ≤ n) {gf : Nat} {lb : Array Value} (hg : a.eval g = .func (.func gf) #[] lb) (hFg : F.fn gf) (eg : ∀ args w, (callFunc gf args).run P w = .ok (.enter gf args) w)
    {E : World → α → Array Value → Prop} {no : World → Nat → Prop} {fix : Nat → Prop} {full : List α} (hseq : GivesE F (n - 1) P gf lb E (fun X k => no X k ∨ k = w.heap.size + 1) fix full w) (hps : ∀ W x vs, E W x vs → vs.size = ps.size) (hfix : ∀ k, fix k → k < w.heap.size)
    (I : List α → World → Prop) (Ix : Code → List α → World → Prop) (hI : OwnNo no w.heap.size I) (hIx : ∀ c, OwnFrom w.heap.size (Ix c)) (h0 : I [] w)
    (hno : ∀ s X k, I s X → no X k → k < X.heap.size ∧ ¬ fix k ∧ ((∃ o : Obj, X.heap[k]? = some o ∧ o.isCells = true) ∨ k < w.heap.size))
    (hng : ∀ s X Y row k, I s X → X.grownBy Y row → Turns no w.heap.size X row → no Y k → no X k)
    (Ax : List α → α → Act → World → Prop) (hAx : ∀ pre x a', OwnFrom w.heap.size (fun (_ : Unit) W => Ax pre x a' W))
    (hassign : ∀ (l : Nat) (pre : List α) (x : α) (vs : Array Value) (W : World) (K : Act → World → Prop), pre ++ [x] <+: full → E W x vs → I pre W → (∀ a' W', RoundK no W W' → I pre W' → Ax pre x a' W' → K a' W') →
      assign.wpIn (F.inRound l) (n - 1 - 1) P (Exit.then K (fun _ _ _ => False)) { tmps := (ps.zip vs).foldl (fun t (p, v) => t.setIfInBounds p v) a.tmps, defers := [] } W)
    (hbody : ∀ (l : Nat) (pre : List α) (x : α) (a' : Act) (W : World), w.heap.size ≤ l → (∃ r, W.heap[l]? = some (.loop r)) → pre ++ [x] <+: full → I pre W → Ax pre x a' W →
      body.wpIn (F.inRound l) (n - 1 - 1) P (goesE no I Ix (pre ++ [x]) W) a' W)
    (hdone : ∀ (D : Nat) (W : World), D = w.heap.size → I full W → W.heap[D]? = some (.deferred (some [])) → Q .normal { a with defers := { target := .collected D, args := #[] } :: a.defers } W)
    (hstop : ∀ (D : Nat) (c : Code) (pre : List α) (W : World), D = w.heap.size → pre <+: full → Ix c pre W → W.heap[D]? = some (.deferred (some [])) → c.wpIn F n P Q { a with defers := { target := .collected D, args := #[] } :: a.defers } W) :
    (Code.rangeFunc g ps assign body).wpIn F n P Q a w := by
  refine wpIn_rangeFunc ?_
  intro fn hfn
  rw [hro]
  obtain ⟨rec, hrec⟩ : ∃ rec : LoopState → Option Code → Loop, rec = fun st pe => { state := st, pending := pe, fn, tmps := a.tmps, params := ps, assign, body, defers := w.heap.size } := ⟨_, rfl⟩
  obtain ⟨W1, hW1⟩ : ∃ W1, (w.alloc (.deferred (some []))).alloc (.loop (rec .ready none)) = W1 := ⟨_, rfl⟩
  have hL1 : W1.heap[w.heap.size + 1]? = some (.loop (rec .ready none)) := by
    rw [← hW1]; have := World.alloc_heap_new (w.alloc (.deferred (some []))) (.loop (rec .ready none)); rwa [World.size_alloc] at this
  have hK1 : W1.heap[w.heap.size]? = some (.deferred (some [])) := by
    rw [← hW1]; exact (Below.heap_alloc _ _ _ (by simp)).trans (World.alloc_heap_new w _)
  have hb1 : Below w.heap.size w W1 := by
    rw [← hW1]; exact ((Below.refl _ w).alloc (Nat.le_refl _) _).alloc (by simp) _
  have hs1 : W1.heap.size = w.heap.size + 2 := by rw [← hW1]; simp
  have hI1 : I [] W1 := by rw [← hW1]; exact hI.alloc _ (hI.alloc _ h0)
  have hrow : ∀ {A : World} {row : Option Nat}, Turns (fun X k => no X k ∨ k = w.heap.size + 1) W1.heap.size A row → Turns no w.heap.size A row := fun hr r e => ⟨by have := (hr r e).1; omega, (hr r e).2.imp id (fun h k => h (.inl k))⟩
  have hrow2 : ∀ {A : World} {row : Option Nat}, (∀ r, row = some r → W1.heap.size ≤ r ∧ ∃ o : Obj, A.heap[r]? = some o ∧ o.isCells = false) → (∀ r, row = some r → w.heap.size ≤ r ∧ ∃ o : Obj, A.heap[r]? = some o ∧ o.isCells = false) := fun hr r e => ⟨by have := (hr r e).1; omega, (hr r e).2⟩
  have hstay : ∀ {A B : World} {row : Option Nat} {k : Nat} {o : Obj}, A.grownBy B row → (∀ r, row = some r → W1.heap.size ≤ r) → k < W1.heap.size → A.heap[k]? = some o → B.heap[k]? = some o :=
    fun hg' hr hk ho => (hg'.block _ (Array.getElem?_eq_some_iff.1 ho).1 (fun e => by have := (hr _ e.symm); omega)).trans ho
  have hnl : ∀ {s : List α} {X : World} {k : Nat} {o : Obj}, I s X → X.heap[k]? = some o → o.isCells = false → w.heap.size ≤ k → ¬ no X k := fun hi hk ho hle hn => by
    rcases (hno _ _ _ hi hn).2.2 with ⟨o', ho', hc⟩ | h
    · rw [hk] at ho'; cases ho'; rw [ho] at hc; cases hc
    · omega
  refine ⟨w.heap.size + 1, [{ target := .collected w.heap.size, args := #[] }], W1, { target := .fn (.func gf) lb, args := #[.func (.yield (w.heap.size + 1)) #[] #[]] }, W1, gf,
    #[.func (.yield (w.heap.size + 1)) #[] #[]] ++ lb, W1, ?_, ?_, ?_, ?_, fun _ => h1, ?_⟩
  · rw [← hW1, hrec]; exact run_enterLoop_outer _ _ _ _ _
  · simp only [resolve, hg]
    simp [go_sem]
  · intro f' hf'; simp [Target.leads] at hf'; subst hf'; exact hFg
  · simp [invoke, go_sem, eg]
  · refine (hseq (w.heap.size + 1)
      (fun pre W => I pre W ∧ W.heap[w.heap.size + 1]? = some (.loop (rec .ready none)) ∧ W.heap[w.heap.size]? = some (.deferred (some [])))
      (fun pre W => ∃ c, Ix c pre W ∧ W.heap[w.heap.size + 1]? = some (.loop (rec .done (some c))) ∧ W.heap[w.heap.size]? = some (.deferred (some [])))
      W1 hb1
      (fun s A B row hs hg' hr => ⟨hI s A B row hs.1 hg' (hrow hr), hstay hg' (fun r e => (hr r e).1) (by omega) hs.2.1, hstay hg' (fun r e => (hr r e).1) (by omega) hs.2.2⟩)
      (fun s A B row hs hg' hr => by
        obtain ⟨c, hc, hl, hk⟩ := hs
        exact ⟨c, hIx c s A B row hc hg' (hrow2 hr), hstay hg' (fun r e => (hr r e).1) (by omega) hl, hstay hg' (fun r e => (hr r e).1) (by omega) hk⟩)
      (fun s X k hs hk => by
        rcases hk with hk | rfl
        · obtain ⟨a1, a2, a3⟩ := hno s X k hs.1 hk
          exact ⟨a1, a2, a3.imp id (fun h => by omega)⟩
        · exact ⟨(Array.getElem?_eq_some_iff.1 hs.2.1).1, fun h => by have := hfix _ h; omega, .inr (by omega)⟩)
      (fun s X Y row k hs hg' hr hk => hk.imp (hng s X Y row k hs.1 hg' (hrow hr)) id)
      ?_ ⟨hI1, hL1, hK1⟩).mono ?_
    · rintro pre x vs W hpre hev ⟨hi, hl, hk⟩
      have hlt : w.heap.size + 1 < W.heap.size := (Array.getElem?_eq_some_iff.1 hl).1
      have hy := run_yield (P := P) (args := vs) hl (by rw [hrec]; exact hps _ x vs hev)
      rw [hrec] at hy
      refine ⟨fn, _, assign, body, hy, roundIn_of_wpIn hfn (hassign _ pre x vs W _ hpre hev hi ?_)⟩
      intro a' Wa hra hia hax
      have hla := (hra.keeps.block _ hlt (hnl hi hl rfl (by omega))).trans hl
      have hka := (hra.keeps.block w.heap.size (by omega) (hnl hi hk rfl (Nat.le_refl _))).trans hk
      have hsa := hra.keeps.size
      refine ⟨_, run_beginRound hla (by rw [hrec]), ?_⟩
      have put : ∀ (s : List α) (X : World) (o : Obj), I s X → (∃ r, X.heap[w.heap.size + 1]? = some (.loop r)) → RoundK (fun X k => no X k ∨ k = w.heap.size + 1) X (X.putObj (w.heap.size + 1) o) := fun s X o hs ⟨r, hr⟩ =>
        ⟨Keeps.of_grown (grownBy_putObj' X _ o) (fun j e => by cases e; exact .inr rfl), fun k hk => .inl (hk.imp (hng s X _ (some (w.heap.size + 1)) k hs (grownBy_putObj' X _ o) (fun j e => by cases e; exact ⟨by omega, .inl ⟨_, hr, rfl⟩⟩)) id)⟩
      have up : ∀ {X Y : World}, RoundK no X Y → RoundK (fun X k => no X k ∨ k = w.heap.size + 1) X Y := fun h => ⟨h.keeps.more (fun _ _ e => .inl e), fun k hk => hk.elim (fun e => (h.grow k e).imp .inl id) (fun e => .inl (.inr e))⟩
      have hl2 : (Wa.putObj (w.heap.size + 1) (.loop { rec .ready none with state := .busy })).heap[w.heap.size + 1]? = some (.loop { rec .ready none with state := .busy }) := World.putObj_heap_same (by omega)
      have hk2 : (Wa.putObj (w.heap.size + 1) (.loop { rec .ready none with state := .busy })).heap[w.heap.size]? = some (.deferred (some [])) := (World.putObj_heap_other (by omega)).trans hka
      have hib := hI.putObj (.loop { rec .ready none with state := .busy }) hia (by omega) hla rfl
      have hp1 := put _ Wa (.loop { rec .ready none with state := .busy }) hia ⟨_, hla⟩
      refine wpIn_mono (hbody _ pre x a' _ (by omega) ⟨_, hl2⟩ hpre hib ((hAx pre x a').putObj (s := ()) _ hax (by omega) hla rfl)) ?_
      have fin : ∀ (jump : Option Code) (W3 : World), Keeps (no (Wa.putObj (w.heap.size + 1) (.loop { rec .ready none with state := .busy }))) (Wa.putObj (w.heap.size + 1) (.loop { rec .ready none with state := .busy })) W3 →
          (Instr.endRound (w.heap.size + 1) jump).run P W3 = .ok (.bool jump.isNone) (W3.putObj (w.heap.size + 1) (.loop (rec (if jump.isNone then .ready else .done) jump))) ∧
          W3.heap[w.heap.size + 1]? = some (.loop { rec .ready none with state := .busy }) ∧
          (W3.putObj (w.heap.size + 1) (.loop (rec (if jump.isNone then .ready else .done) jump))).heap[w.heap.size + 1]? = some (.loop (rec (if jump.isNone then .ready else .done) jump)) ∧
          (W3.putObj (w.heap.size + 1) (.loop (rec (if jump.isNone then .ready else .done) jump))).heap[w.heap.size]? = some (.deferred (some [])) ∧
          Keeps (fun k => no W k ∨ k = w.heap.size + 1) W (W3.putObj (w.heap.size + 1) (.loop (rec (if jump.isNone then .ready else .done) jump))) := fun jump W3 hr3 => by
        have hl3 := (hr3.block _ (by simp; omega) (hnl hib hl2 rfl (by omega))).trans hl2
        have hd3 := (hr3.block w.heap.size (by simp; omega) (hnl hib hk2 rfl (Nat.le_refl _))).trans hk2
        have := run_endRound (P := P) jump hl3
        rw [hrec] at this ⊢
        exact ⟨this, by rw [hrec] at hl3; exact hl3, World.putObj_heap_same (Array.getElem?_eq_some_iff.1 hl3).1, (World.putObj_heap_other (by omega)).trans hd3,
          (((up hra).trans hp1).keep (hr3.more (fun _ _ e => .inl e))).trans (Keeps.of_grown (grownBy_putObj' W3 _ _) (fun j e => by cases e; exact .inr rfl))⟩
      rintro e a3 W3 hp
      cases e with
      | normal =>
        obtain ⟨hr3, hi3⟩ := hp
        obtain ⟨hr, hl3, hl4, hk4, hkk⟩ := fin none W3 hr3.keeps
        exact ⟨_, _, hr, .inl ⟨rfl, ((up hra).trans (hp1.trans (up hr3))).trans (put _ W3 _ hi3 ⟨_, hl3⟩), hI.putObj _ hi3 (by omega) hl3 rfl, hl4, hk4⟩⟩
      | ret =>
        obtain ⟨hr3, hi3⟩ := hp
        obtain ⟨hr, hl3, hl4, hk4, hkk⟩ := fin (some .ret) W3 hr3
        exact ⟨_, _, hr, .inr ⟨rfl, hkk, .ret, (hIx _).putObj _ hi3 (by omega) hl3 rfl, hl4, hk4⟩⟩
      | exit id =>
        obtain ⟨hr3, hi3⟩ := hp
        obtain ⟨hr, hl3, hl4, hk4, hkk⟩ := fin (some (.exit id)) W3 hr3
        exact ⟨_, _, hr, .inr ⟨rfl, hkk, .exit id, (hIx _).putObj _ hi3 (by omega) hl3 rfl, hl4, hk4⟩⟩
      | goto t => exact hp.elim
      | panic ch => exact hp.elim
      | outgrown => exact hp.elim
    · rintro e W2 ⟨⟨v, rfl⟩, (⟨hi, hl, hk⟩ | ⟨pre, hSp, c, hi, hl, hk⟩)⟩
      · exact ⟨none, _, by have := run_endLoop (P := P) hl (by rw [hrec]; simp); rw [hrec] at this; exact this, hdone _ _ rfl (hI.putObj _ hi (by omega) hl rfl) ((World.putObj_heap_other (by omega)).trans hk)⟩
      · exact ⟨some c, _, by have := run_endLoop (P := P) hl (by rw [hrec]; simp); rw [hrec] at this; exact this, hstop _ c pre _ rfl hSp ((hIx c).putObj _ hi (by omega) hl rfl) ((World.putObj_heap_other (by omega)).trans hk)⟩

theorem RoundInn.anyDepth {F : Fence} (hd : F.depth = none) {m m' : Nat} {P : Program} {l : Nat} {f : FuncId} {tmps : Array Value} {assign body : Code} {w : World} {R : Ending → World → Prop}
    (h : RoundIn F m P l f tmps assign body w R) : RoundIn F m' P l f tmps assign body w R := ⟨h.1, fun c cs _ => h.2 c cs (fun d e => by rw [hd] at e; cases e)⟩
theorem YieldAt.any {F : Fence} (hd : F.depth = none) {m : Nat} (m' : Nat) {P : Program} {l : Nat} {args : Array Value} {W : World} {R : Ending → World → Prop} (h : YieldAt F m P l args W R) : YieldAt F m' P l args W R := by
  obtain ⟨fn, tmps, assign, body, hy, hR⟩ := h
  exact ⟨fn, tmps, assign, body, hy, RoundInn.anyDepth hd hR⟩
theorem turn_block {no : World → Nat → Prop} {B g : Nat} {Y Z : World} {row : Option Nat} {o : Obj} (hg : Y.grownBy Z row) (hr : Turns no B Y row) (ho : Y.heap[g]? = some o) (hc : o.isCells = true) (hn : no Y g ∨ g < B) : Z.heap[g]? = Y.heap[g]? :=
  hg.block g (Array.getElem?_eq_some_iff.1 ho).1 (fun e => by
    obtain ⟨h1, h2⟩ := hr g e.symm
    rcases hn with hn | hn
    · rcases h2 with ⟨o', h3, h4⟩ | h2
      · rw [ho] at h3; cases h3; rw [hc] at h4; cases h4
      · exact h2 hn
    · omega)
theorem own_turn {w w' : World} {B : Nat} {row : Option Nat} {base : Nat} {e : TypeId} {size n : Nat} {v : Value} {xs : List Value} (h : w.ownsRow base e size v n xs) (hg : w.grownBy w' row) (hr : ∀ r, row = some r → B ≤ r ∧ ∃ o : Obj, w.heap[r]? = some o ∧ o.isCells = false) : w'.ownsRow base e size v n xs := by
  refine own_keep h (fun k hk => ?_)
  rcases h.2 with ⟨rfl, _⟩ | ⟨g, cap, cur, rfl, hB, hh, _⟩
  · cases hk
  · cases hk
    refine hg.block _ (Array.getElem?_eq_some_iff.1 hh).1 (fun e => ?_)
    obtain ⟨-, o, h1, h2⟩ := hr _ e.symm
    rw [hh] at h1; cases h1; cases h2
theorem row_turn {w w' : World} {B g : Nat} {row : Option Nat} {t : TypeId} {cs : Array Value} (h : Row w g t cs) (hg : w.grownBy w' row) (hr : ∀ r, row = some r → B ≤ r ∧ ∃ o : Obj, w.heap[r]? = some o ∧ o.isCells = false) : Row w' g t cs :=
  (hg.block _ h.lt (fun e => by
    obtain ⟨-, o, h1, h2⟩ := hr _ e.symm
    rw [show w.heap[g]? = _ from h] at h1; cases h1; cases h2)).trans h
theorem row_turnN {no : World → Nat → Prop} {w w' : World} {B g : Nat} {row : Option Nat} {t : TypeId} {cs : Array Value} (h : Row w g t cs) (hg : w.grownBy w' row) (hr : Turns no B w row) (hn : no w g ∨ g < B) : Row w' g t cs :=
  (turn_block hg hr h rfl hn).trans h
end Go.Proofs.Ytenojfniknjeiaa
