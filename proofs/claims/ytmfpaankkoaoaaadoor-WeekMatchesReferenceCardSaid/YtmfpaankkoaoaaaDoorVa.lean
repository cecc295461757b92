/- An own law for loops over iterators that have loops over iterators in them; intervals that tile. -/
import Derived.Test.YtmfpaankkoaoaaaDoorUv
namespace Go.Proofs.YtmfpaankkoaoaaaDoor
open Go.RowKit
variable {F : Fence} {n : Nat} {P : Program}

/-- Whatever lay in W lies as it lay in W', but for the blocks that no names. -/
structure Keeps (no : Nat → Prop) (W W' : World) : Prop where
  os : W'.os = W.os
  tape : W'.tape = W.tape
  output : W'.output = W.output
  size : W.heap.size ≤ W'.heap.size
  block : ∀ k, k < W.heap.size → ¬ no k → W'.heap[k]? = W.heap[k]?
theorem Keeps.refl (no : Nat → Prop) (W : World) : Keeps no W W := ⟨rfl, rfl, rfl, Nat.le_refl _, fun _ _ _ => rfl⟩
theorem Keeps.trans {no : Nat → Prop} {A B C : World} (h : Keeps no A B) (k : Keeps no B C) : Keeps no A C :=
  ⟨k.os.trans h.os, k.tape.trans h.tape, k.output.trans h.output, Nat.le_trans h.size k.size, fun i hi hn => (k.block i (Nat.lt_of_lt_of_le hi h.size) hn).trans (h.block i hi hn)⟩
theorem Keeps.more {no no' : Nat → Prop} {W W' : World} (h : Keeps no W W') (hn : ∀ k, k < W.heap.size → no k → no' k) : Keeps no' W W' := ⟨h.os, h.tape, h.output, h.size, fun k hk hk' => h.block k hk (fun e => hk' (hn k hk e))⟩
theorem Keeps.of_below {no : Nat → Prop} {W W' : World} (h : Below W.heap.size W W') : Keeps no W W' := ⟨h.os, h.tape, h.output, h.size, fun k hk _ => h.block k hk⟩
theorem Keeps.of_grown {no : Nat → Prop} {W W' : World} {row : Option Nat} (h : W.grownBy W' row) (hr : ∀ r, row = some r → no r) : Keeps no W W' := ⟨h.os, h.tape, h.output, h.size, fun k hk hn => h.block k hk (fun e => hn (hr k e.symm))⟩
theorem Keeps.setCell {no : Nat → Prop} {W : World} {p : Addr} (h : no p.block) (u : Value) : Keeps no W (W.setCell p u) :=
  ⟨rfl, rfl, rfl, by simp [World.setCell], fun k _ hn => Below.heap_setCell _ _ _ _ (fun e => hn (e ▸ h))⟩
theorem Keeps.cell {no : Nat → Prop} {W W' : World} {k i : Nat} (h : Keeps no W W') (hk : k < W.heap.size) (hn : ¬ no k) : W'.cell? ⟨k, i, none⟩ = W.cell? ⟨k, i, none⟩ := by
  unfold World.cell?; rw [h.block k hk hn]
theorem Keeps.row {no : Nat → Prop} {W W' : World} {g : Nat} {t : TypeId} {cs : Array Value} (h : Keeps no W W') (hr : Row W g t cs) (hn : ¬ no g) : Row W' g t cs := (h.block g hr.lt hn).trans hr
/-- A round's word: only blocks of its own have turned, and its own blocks are those that it had and new ones. -/
structure RoundK (no : World → Nat → Prop) (W W' : World) : Prop where
  keeps : Keeps (no W) W W'
  grow : ∀ k, no W' k → no W k ∨ W.heap.size ≤ k
theorem RoundK.refl (no : World → Nat → Prop) (W : World) : RoundK no W W := ⟨Keeps.refl _ _, fun _ h => .inl h⟩
theorem RoundK.trans {no : World → Nat → Prop} {A B C : World} (h : RoundK no A B) (k : RoundK no B C) : RoundK no A C :=
  ⟨⟨k.keeps.os.trans h.keeps.os, k.keeps.tape.trans h.keeps.tape, k.keeps.output.trans h.keeps.output, Nat.le_trans h.keeps.size k.keeps.size, fun i hi hn => (k.keeps.block i (Nat.lt_of_lt_of_le hi h.keeps.size) (fun e => (h.grow i e).elim hn (fun e => by omega))).trans (h.keeps.block i hi hn)⟩,
    fun i hi => (k.grow i hi).elim (h.grow i) (fun e => .inr (Nat.le_trans h.keeps.size e))⟩
theorem RoundK.keep {no : World → Nat → Prop} {A B C : World} (h : RoundK no A B) (k : Keeps (no B) B C) : Keeps (no A) A C :=
  ⟨k.os.trans h.keeps.os, k.tape.trans h.keeps.tape, k.output.trans h.keeps.output, Nat.le_trans h.keeps.size k.size, fun i hi hn => (k.block i (Nat.lt_of_lt_of_le hi h.keeps.size) (fun e => (h.grow i e).elim hn (fun e => by omega))).trans (h.keeps.block i hi hn)⟩
abbrev Turns (B : Nat) (X : World) (row : Option Nat) : Prop := ∀ r, row = some r → B ≤ r ∧ ∃ o : Obj, X.heap[r]? = some o ∧ o.isCells = false
theorem OwnFrom.up {β : Type} {B B' : Nat} {I : β → World → Prop} (h : OwnFrom B I) (hB : B ≤ B') : OwnFrom B' I := fun s W W' row hs hg hr => h s W W' row hs hg (fun r e => ⟨Nat.le_trans hB (hr r e).1, (hr r e).2⟩)

/-- An iterator that hands over the members of full, in order, to whatever loop: a round may be told what has come before; no names the round's own blocks, fix the iterator's. -/
def GivesP {α : Type} (F : Fence) (n : Nat) (P : Program) (g : Nat) (lb : Array Value) (encs : α → Array Value) (no : World → Nat → Prop) (fix : Nat → Prop) (full : List α) (w : World) : Prop :=
  ∀ (l : Nat) (J Jx : List α → World → Prop) (W : World), Below w.heap.size w W → OwnFrom W.heap.size J → OwnFrom W.heap.size Jx →
    (∀ s X k, J s X → no X k → k < X.heap.size ∧ ¬ fix k ∧ ((∃ o : Obj, X.heap[k]? = some o ∧ o.isCells = true) ∨ k < W.heap.size)) →
    (∀ s X Y row k, J s X → X.grownBy Y row → Turns W.heap.size X row → no Y k → no X k) →
    (∀ pre x W1, pre ++ [x] <+: full → J pre W1 → YieldAt F (n - 1) P l (encs x) W1 fun e W' =>
      (e = .returned (.bool true) ∧ RoundK no W1 W' ∧ J (pre ++ [x]) W') ∨ (e = .returned (.bool false) ∧ Keeps (no W1) W1 W' ∧ Jx (pre ++ [x]) W')) →
    J [] W →
    CallsIn F n P g (#[.func (.yield l) #[] #[]] ++ lb) W fun e W' => (∃ v, e = .returned v) ∧ (J full W' ∨ ∃ pre, pre <+: full ∧ Jx pre W')
/-- How a round's body may be left. -/
def goesP {α : Type} (no : World → Nat → Prop) (I : List α → World → Prop) (Ix : Code → List α → World → Prop) (xs : List α) (W : World) : Exit → Act → World → Prop
  | .normal, _, W' => RoundK no W W' ∧ I xs W'
  | .ret, _, W' => Keeps (no W) W W' ∧ Ix .ret xs W'
  | .exit id, _, W' => Keeps (no W) W W' ∧ Ix (.exit id) xs W'
  | _, _, _ => False

theorem rangeFunc_p {α : Type} {g : Operand} {ps : Array Tmp} {assign body : Code} {Q : Exit → Act → World → Prop} {a : Act} {w : World}
    (hro : F.round = none) (h1 : 1 ≤ n) {gf : Nat} {lb : Array Value} (hg : a.eval g = .func (.func gf) #[] lb) (hFg : F.fn gf) (eg : ∀ args w, (callFunc gf args).run P w = .ok (.enter gf args) w)
    {encs : α → Array Value} {no : World → Nat → Prop} {fix : Nat → Prop} {full : List α} (hseq : GivesP F (n - 1) P gf lb encs (fun X k => no X k ∨ k = w.heap.size + 1) fix full w) (hps : ∀ x, (encs x).size = ps.size) (hfix : ∀ k, fix k → k < w.heap.size)
    (I : List α → World → Prop) (Ix : Code → List α → World → Prop) (hI : OwnFrom w.heap.size I) (hIx : ∀ c, OwnFrom w.heap.size (Ix c)) (h0 : I [] w)
    (hno : ∀ s X k, I s X → no X k → k < X.heap.size ∧ ¬ fix k ∧ ((∃ o : Obj, X.heap[k]? = some o ∧ o.isCells = true) ∨ k < w.heap.size))
    (hng : ∀ s X Y row k, I s X → X.grownBy Y row → Turns w.heap.size X row → no Y k → no X k)
    (Ax : List α → α → Act → World → Prop) (hAx : ∀ pre x a', OwnFrom w.heap.size (fun (_ : Unit) W => Ax pre x a' W))
    (hassign : ∀ (l : Nat) (pre : List α) (x : α) (W : World) (K : Act → World → Prop), pre ++ [x] <+: full → I pre W → (∀ a' W', RoundK no W W' → I pre W' → Ax pre x a' W' → K a' W') →
      assign.wpIn (F.inRound l) (n - 1 - 1) P (Exit.then K (fun _ _ _ => False)) { tmps := (ps.zip (encs x)).foldl (fun t (p, v) => t.setIfInBounds p v) a.tmps, defers := [] } W)
    (hbody : ∀ (l : Nat) (pre : List α) (x : α) (a' : Act) (W : World), w.heap.size ≤ l → (∃ r, W.heap[l]? = some (.loop r)) → pre ++ [x] <+: full → I pre W → Ax pre x a' W →
      body.wpIn (F.inRound l) (n - 1 - 1) P (goesP no I Ix (pre ++ [x]) W) a' W)
    (hdone : ∀ (D : Nat) (W : World), D = w.heap.size → I full W → W.heap[D]? = some (.deferred (some [])) → Q .normal { a with defers := { target := .collected D, args := #[] } :: a.defers } W)
    (hstop : ∀ (D : Nat) (c : Code) (pre : List α) (W : World), D = w.heap.size → pre <+: full → Ix c pre W → W.heap[D]? = some (.deferred (some [])) → c.wpIn F n P Q { a with defers := { target := .collected D, args := #[] } :: a.defers } W) :
    (Code.rangeFunc g ps assign body).wpIn F n P Q a w := by
  refine wpIn_rangeFunc ?_
  intro fn hfn
  rw [hro]
  obtain ⟨rec, hrec⟩ : ∃ rec : LoopState → Option Code → Loop, rec = fun st pe => { state := st, pending := pe, fn, tmps := a.tmps, params := ps, assign, body, defers := w.heap.size } := ⟨_, rfl⟩
  obtain ⟨W1, hW1⟩ : ∃ W1, (w.alloc (.deferred (some []))).alloc (.loop (rec .ready none)) = W1 := ⟨_, rfl⟩
  have hL1 : W1.heap[w.heap.size + 1]? = some (.loop (rec .ready none)) := by
    rw [← hW1]; have := World.alloc_heap_new (w.alloc (.deferred (some []))) (.loop (rec .ready none)); rwa [World.size_alloc] at this
  have hK1 : W1.heap[w.heap.size]? = some (.deferred (some [])) := by
    rw [← hW1]; exact (Below.heap_alloc _ _ _ (by simp)).trans (World.alloc_heap_new w _)
  have hb1 : Below w.heap.size w W1 := by
    rw [← hW1]; exact ((Below.refl _ w).alloc (Nat.le_refl _) _).alloc (by simp) _
  have hs1 : W1.heap.size = w.heap.size + 2 := by rw [← hW1]; simp
  have hI1 : I [] W1 := by rw [← hW1]; exact hI.alloc _ (hI.alloc _ h0)
  have hrow : ∀ {A : World} {row : Option Nat}, Turns W1.heap.size A row → Turns w.heap.size A row := fun hr r e => ⟨by have := (hr r e).1; omega, (hr r e).2⟩
  have hstay : ∀ {A B : World} {row : Option Nat} {k : Nat} {o : Obj}, A.grownBy B row → Turns W1.heap.size A row → k < W1.heap.size → A.heap[k]? = some o → B.heap[k]? = some o :=
    fun hg' hr hk ho => (hg'.block _ (Array.getElem?_eq_some_iff.1 ho).1 (fun e => by have := (hr _ e.symm).1; omega)).trans ho
  have hnl : ∀ {s : List α} {X : World} {k : Nat} {o : Obj}, I s X → X.heap[k]? = some o → o.isCells = false → w.heap.size ≤ k → ¬ no X k := fun hi hk ho hle hn => by
    rcases (hno _ _ _ hi hn).2.2 with ⟨o', ho', hc⟩ | h
    · rw [hk] at ho'; cases ho'; rw [ho] at hc; cases hc
    · omega
  refine ⟨w.heap.size + 1, [{ target := .collected w.heap.size, args := #[] }], W1, { target := .fn (.func gf) lb, args := #[.func (.yield (w.heap.size + 1)) #[] #[]] }, W1, gf,
    #[.func (.yield (w.heap.size + 1)) #[] #[]] ++ lb, W1, ?_, ?_, ?_, ?_, fun _ => h1, ?_⟩
  · rw [← hW1, hrec]; exact run_enterLoop_outer _ _ _ _ _
  · simp only [resolve, hg]
    simp [go_sem]
  · intro f' hf'; simp [Target.leads] at hf'; subst hf'; exact hFg
  · simp [invoke, go_sem, eg]
  · refine (hseq (w.heap.size + 1)
      (fun pre W => I pre W ∧ W.heap[w.heap.size + 1]? = some (.loop (rec .ready none)) ∧ W.heap[w.heap.size]? = some (.deferred (some [])))
      (fun pre W => ∃ c, Ix c pre W ∧ W.heap[w.heap.size + 1]? = some (.loop (rec .done (some c))) ∧ W.heap[w.heap.size]? = some (.deferred (some [])))
      W1 hb1
      (fun s A B row hs hg' hr => ⟨hI s A B row hs.1 hg' (hrow hr), hstay hg' hr (by omega) hs.2.1, hstay hg' hr (by omega) hs.2.2⟩)
      (fun s A B row hs hg' hr => by
        obtain ⟨c, hc, hl, hk⟩ := hs
        exact ⟨c, hIx c s A B row hc hg' (hrow hr), hstay hg' hr (by omega) hl, hstay hg' hr (by omega) hk⟩)
      (fun s X k hs hk => by
        rcases hk with hk | rfl
        · obtain ⟨a1, a2, a3⟩ := hno s X k hs.1 hk
          exact ⟨a1, a2, a3.imp id (fun h => by omega)⟩
        · exact ⟨(Array.getElem?_eq_some_iff.1 hs.2.1).1, fun h => by have := hfix _ h; omega, .inr (by omega)⟩)
      (fun s X Y row k hs hg' hr hk => hk.imp (hng s X Y row k hs.1 hg' (hrow hr)) id)
      ?_ ⟨hI1, hL1, hK1⟩).mono ?_
    · rintro pre x W hpre ⟨hi, hl, hk⟩
      have hlt : w.heap.size + 1 < W.heap.size := (Array.getElem?_eq_some_iff.1 hl).1
      have hy := run_yield (P := P) (args := encs x) hl (by rw [hrec]; exact hps x)
      rw [hrec] at hy
      refine ⟨fn, _, assign, body, hy, roundIn_of_wpIn hfn (hassign _ pre x W _ hpre hi ?_)⟩
      intro a' Wa hra hia hax
      have hla := (hra.keeps.block _ hlt (hnl hi hl rfl (by omega))).trans hl
      have hka := (hra.keeps.block w.heap.size (by omega) (hnl hi hk rfl (Nat.le_refl _))).trans hk
      have hsa := hra.keeps.size
      refine ⟨_, run_beginRound hla (by rw [hrec]), ?_⟩
      have put : ∀ (s : List α) (X : World) (o : Obj), I s X → (∃ r, X.heap[w.heap.size + 1]? = some (.loop r)) → RoundK (fun X k => no X k ∨ k = w.heap.size + 1) X (X.putObj (w.heap.size + 1) o) := fun s X o hs ⟨r, hr⟩ =>
        ⟨Keeps.of_grown (grownBy_putObj' X _ o) (fun j e => by cases e; exact .inr rfl), fun k hk => .inl (hk.imp (hng s X _ (some (w.heap.size + 1)) k hs (grownBy_putObj' X _ o) (fun j e => by cases e; exact ⟨by omega, _, hr, rfl⟩)) id)⟩
      have up : ∀ {X Y : World}, RoundK no X Y → RoundK (fun X k => no X k ∨ k = w.heap.size + 1) X Y := fun h => ⟨h.keeps.more (fun _ _ e => .inl e), fun k hk => hk.elim (fun e => (h.grow k e).imp .inl id) (fun e => .inl (.inr e))⟩
      have hl2 : (Wa.putObj (w.heap.size + 1) (.loop { rec .ready none with state := .busy })).heap[w.heap.size + 1]? = some (.loop { rec .ready none with state := .busy }) := World.putObj_heap_same (by omega)
      have hk2 : (Wa.putObj (w.heap.size + 1) (.loop { rec .ready none with state := .busy })).heap[w.heap.size]? = some (.deferred (some [])) := (World.putObj_heap_other (by omega)).trans hka
      have hib := hI.putObj (.loop { rec .ready none with state := .busy }) hia (by omega) hla rfl
      have hp1 := put _ Wa (.loop { rec .ready none with state := .busy }) hia ⟨_, hla⟩
      refine wpIn_mono (hbody _ pre x a' _ (by omega) ⟨_, hl2⟩ hpre hib ((hAx pre x a').putObj (s := ()) _ hax (by omega) hla rfl)) ?_
      have fin : ∀ (jump : Option Code) (W3 : World), Keeps (no (Wa.putObj (w.heap.size + 1) (.loop { rec .ready none with state := .busy }))) (Wa.putObj (w.heap.size + 1) (.loop { rec .ready none with state := .busy })) W3 →
          (Instr.endRound (w.heap.size + 1) jump).run P W3 = .ok (.bool jump.isNone) (W3.putObj (w.heap.size + 1) (.loop (rec (if jump.isNone then .ready else .done) jump))) ∧
          W3.heap[w.heap.size + 1]? = some (.loop { rec .ready none with state := .busy }) ∧
          (W3.putObj (w.heap.size + 1) (.loop (rec (if jump.isNone then .ready else .done) jump))).heap[w.heap.size + 1]? = some (.loop (rec (if jump.isNone then .ready else .done) jump)) ∧
          (W3.putObj (w.heap.size + 1) (.loop (rec (if jump.isNone then .ready else .done) jump))).heap[w.heap.size]? = some (.deferred (some [])) ∧
          Keeps (fun k => no W k ∨ k = w.heap.size + 1) W (W3.putObj (w.heap.size + 1) (.loop (rec (if jump.isNone then .ready else .done) jump))) := fun jump W3 hr3 => by
        have hl3 := (hr3.block _ (by simp; omega) (hnl hib hl2 rfl (by omega))).trans hl2
        have hd3 := (hr3.block w.heap.size (by simp; omega) (hnl hib hk2 rfl (Nat.le_refl _))).trans hk2
        have := run_endRound (P := P) jump hl3
        rw [hrec] at this ⊢
        exact ⟨this, by rw [hrec] at hl3; exact hl3, World.putObj_heap_same (Array.getElem?_eq_some_iff.1 hl3).1, (World.putObj_heap_other (by omega)).trans hd3,
          (((up hra).trans hp1).keep (hr3.more (fun _ _ e => .inl e))).trans (Keeps.of_grown (grownBy_putObj' W3 _ _) (fun j e => by cases e; exact .inr rfl))⟩
      rintro e a3 W3 hp
      cases e with
      | normal =>
        obtain ⟨hr3, hi3⟩ := hp
        obtain ⟨hr, hl3, hl4, hk4, hkk⟩ := fin none W3 hr3.keeps
        exact ⟨_, _, hr, .inl ⟨rfl, ((up hra).trans (hp1.trans (up hr3))).trans (put _ W3 _ hi3 ⟨_, hl3⟩), hI.putObj _ hi3 (by omega) hl3 rfl, hl4, hk4⟩⟩
      | ret =>
        obtain ⟨hr3, hi3⟩ := hp
        obtain ⟨hr, hl3, hl4, hk4, hkk⟩ := fin (some .ret) W3 hr3
        exact ⟨_, _, hr, .inr ⟨rfl, hkk, .ret, (hIx _).putObj _ hi3 (by omega) hl3 rfl, hl4, hk4⟩⟩
      | exit id =>
        obtain ⟨hr3, hi3⟩ := hp
        obtain ⟨hr, hl3, hl4, hk4, hkk⟩ := fin (some (.exit id)) W3 hr3
        exact ⟨_, _, hr, .inr ⟨rfl, hkk, .exit id, (hIx _).putObj _ hi3 (by omega) hl3 rfl, hl4, hk4⟩⟩
      | goto t => exact hp.elim
      | panic ch => exact hp.elim
      | outgrown => exact hp.elim
    · rintro e W2 ⟨⟨v, rfl⟩, (⟨hi, hl, hk⟩ | ⟨pre, hSp, c, hi, hl, hk⟩)⟩
      · exact ⟨none, _, by have := run_endLoop (P := P) hl (by rw [hrec]; simp); rw [hrec] at this; exact this, hdone _ _ rfl (hI.putObj _ hi (by omega) hl rfl) ((World.putObj_heap_other (by omega)).trans hk)⟩
      · exact ⟨some c, _, by have := run_endLoop (P := P) hl (by rw [hrec]; simp); rw [hrec] at this; exact this, hstop _ c pre _ rfl hSp ((hIx c).putObj _ hi (by omega) hl rfl) ((World.putObj_heap_other (by omega)).trans hk)⟩

/-- L tiles [a, b): its members are in order and cover just the numbers that p has. -/
def Tiles (p : Nat → Bool) : List (Nat × Nat) → Nat → Nat → Prop
  | [], a, b => ∀ t, a ≤ t → t < b → p t = false
  | (x, y) :: L, a, b => a ≤ x ∧ x < y ∧ y ≤ b ∧ (∀ t, a ≤ t → t < x → p t = false) ∧ (∀ t, x ≤ t → t < y → p t = true) ∧ Tiles p L y b
/-- How many numbers from a on, n of them, p has. -/
def cnt (p : Nat → Bool) (a : Nat) : Nat → Nat
  | 0 => 0
  | n + 1 => cnt p a n + (if p (a + n) then 1 else 0)
theorem cnt_add (p : Nat → Bool) (a n : Nat) : ∀ m, cnt p a (n + m) = cnt p a n + cnt p (a + n) m
  | 0 => rfl
  | m + 1 => by
    show cnt p a (n + m) + (if p (a + (n + m)) then 1 else 0) = cnt p a n + (cnt p (a + n) m + (if p (a + n + m) then 1 else 0))
    rw [cnt_add p a n m, Nat.add_assoc, Nat.add_assoc]
theorem cnt_le (p : Nat → Bool) (a : Nat) : ∀ n, cnt p a n ≤ n
  | 0 => Nat.le_refl _
  | n + 1 => by
    have := cnt_le p a n
    show cnt p a n + _ ≤ _
    split <;> omega
theorem cnt_none {p : Nat → Bool} {a : Nat} : ∀ {n : Nat}, (∀ t, a ≤ t → t < a + n → p t = false) → cnt p a n = 0
  | 0, _ => rfl
  | n + 1, h => by
    show cnt p a n + _ = 0
    rw [cnt_none (fun t h1 h2 => h t h1 (by omega)), h (a + n) (by omega) (by omega)]; rfl
theorem cnt_all {p : Nat → Bool} {a : Nat} : ∀ {n : Nat}, (∀ t, a ≤ t → t < a + n → p t = true) → cnt p a n = n
  | 0, _ => rfl
  | n + 1, h => by
    show cnt p a n + _ = n + 1
    rw [cnt_all (fun t h1 h2 => h t h1 (by omega)), h (a + n) (by omega) (by omega)]; rfl
theorem cnt_zero {p : Nat → Bool} {a : Nat} : ∀ {n : Nat}, cnt p a n = 0 → ∀ t, a ≤ t → t < a + n → p t = false
  | 0, _, t, h1, h2 => by omega
  | n + 1, h, t, h1, h2 => by
    have h' : cnt p a n + (if p (a + n) then 1 else 0) = 0 := h
    by_cases e : t = a + n
    · subst e
      cases hp : p (a + n) with
      | false => rfl
      | true => rw [hp] at h'; simp at h'
    · exact cnt_zero (n := n) (by omega) t h1 (by omega)
theorem cnt_compl {p q : Nat → Bool} {a : Nat} : ∀ {n : Nat}, (∀ t, a ≤ t → t < a + n → q t = !p t) → cnt p a n + cnt q a n = n
  | 0, _ => rfl
  | n + 1, h => by
    have h1 := cnt_compl (p := p) (q := q) (a := a) (n := n) (fun t h1 h2 => h t h1 (by omega))
    show cnt p a n + _ + (cnt q a n + _) = n + 1
    rw [h (a + n) (by omega) (by omega)]
    cases p (a + n) <;> simp <;> omega
theorem cnt_congr {p q : Nat → Bool} {a b : Nat} : ∀ {n : Nat}, (∀ i, i < n → p (a + i) = q (b + i)) → cnt p a n = cnt q b n
  | 0, _ => rfl
  | n + 1, h => by
    show cnt p a n + _ = cnt q b n + _
    rw [cnt_congr (n := n) (fun i hi => h i (by omega)), h n (by omega)]
/-- The lengths of the members together. -/
def sumL : List (Nat × Nat) → Nat
  | [] => 0
  | (x, y) :: L => (y - x) + sumL L
theorem sumL_append : ∀ (L M : List (Nat × Nat)), sumL (L ++ M) = sumL L + sumL M
  | [], M => by simp [sumL]
  | (x, y) :: L, M => by
    show (y - x) + sumL (L ++ M) = (y - x) + sumL L + sumL M
    rw [sumL_append L M]; omega
theorem tiles_sum {p : Nat → Bool} : ∀ {L : List (Nat × Nat)} {a b : Nat}, Tiles p L a b → a ≤ b → sumL L = cnt p a (b - a)
  | [], a, b, h, hab => (cnt_none (fun t h1 h2 => h t h1 (by omega))).symm
  | (x, y) :: L, a, b, ⟨h1, h2, h3, h4, h5, h6⟩, hab => by
    show (y - x) + sumL L = _
    rw [tiles_sum h6 h3, show b - a = (x - a) + ((y - x) + (b - y)) by omega, cnt_add, cnt_add, show a + (x - a) = x by omega, show x + (y - x) = y by omega, cnt_none (fun t g1 g2 => h4 t g1 (by omega)), cnt_all (fun t g1 g2 => h5 t g1 (by omega))]
    omega
theorem tiles_wide {p : Nat → Bool} {L : List (Nat × Nat)} {a a' b : Nat} (h : Tiles p L a b) (ha : a' ≤ a) (hg : ∀ t, a' ≤ t → t < a → t < b → p t = false) : Tiles p L a' b := by
  cases L with
  | nil =>
    intro t h1 h2
    by_cases e : a ≤ t
    · exact h t e h2
    · exact hg t h1 (by omega) h2
  | cons q L =>
    obtain ⟨x, y⟩ := q
    obtain ⟨h1, h2, h3, h4, h5, h6⟩ := h
    refine ⟨by omega, h2, h3, fun t g1 g2 => ?_, h5, h6⟩
    by_cases e : a ≤ t
    · exact h4 t e g2
    · exact hg t g1 (by omega) (by omega)
theorem tiles_le {p : Nat → Bool} : ∀ {L : List (Nat × Nat)} {a b : Nat}, Tiles p L a b → L ≠ [] → a < b
  | (x, y) :: L, a, b, ⟨h1, h2, h3, _⟩, _ => by omega
theorem tiles_append {p : Nat → Bool} : ∀ {L M : List (Nat × Nat)} {a b c : Nat}, Tiles p L a b → Tiles p M b c → a ≤ b → b ≤ c → Tiles p (L ++ M) a c
  | [], M, a, b, c, h, k, hab, hbc => tiles_wide k hab (fun t h1 h2 _ => h t h1 h2)
  | (x, y) :: L, M, a, b, c, ⟨h1, h2, h3, h4, h5, h6⟩, k, hab, hbc => ⟨h1, h2, by omega, h4, h5, tiles_append h6 k h3 hbc⟩
/-- What [a, b) has of an interval. -/
def clip (a b : Nat) (q : Nat × Nat) : Option (Nat × Nat) := if max a q.1 < min b q.2 then some (max a q.1, min b q.2) else none
theorem tiles_clip {p : Nat → Bool} (a b : Nat) : ∀ {L : List (Nat × Nat)} {x y : Nat}, Tiles p L x y → Tiles p (L.filterMap (clip a b)) (max a x) (min b y)
  | [], x, y, h => fun t h1 h2 => h t (by omega) (by omega)
  | (u, v) :: L, x, y, ⟨h1, h2, h3, h4, h5, h6⟩ => by
    have ih := tiles_clip a b h6
    rw [List.filterMap_cons]
    by_cases hc : max a u < min b v
    · have e : clip a b (u, v) = some (max a u, min b v) := if_pos hc
      rw [e]
      refine ⟨by omega, hc, by omega, fun t g1 g2 => h4 t (by omega) (by omega), fun t g1 g2 => h5 t (by omega) (by omega), ?_⟩
      rw [show max a v = v by omega] at ih
      by_cases hv : v ≤ b
      · rw [show min b v = v by omega]; exact ih
      · have hn : L.filterMap (clip a b) = [] := by
          cases hL : L.filterMap (clip a b) with
          | nil => rfl
          | cons q M => rw [hL] at ih; have := tiles_le ih (by simp); omega
        rw [hn]
        intro t g1 g2
        omega
    · have e : clip a b (u, v) = none := if_neg hc
      rw [e]
      refine tiles_wide ih (by omega) (fun t g1 g2 g3 => ?_)
      by_cases hu : u ≤ t
      · omega
      · exact h4 t (by omega) (by omega)
theorem tiles_cons {p : Nat → Bool} {x y : Nat} {L : List (Nat × Nat)} {a b : Nat} (h1 : a ≤ x) (h2 : x < y) (h3 : y ≤ b) (h4 : ∀ t, a ≤ t → t < x → p t = false) (h5 : ∀ t, x ≤ t → t < y → p t = true) (h6 : Tiles p L y b) : Tiles p ((x, y) :: L) a b := ⟨h1, h2, h3, h4, h5, h6⟩
theorem tiles_scale {p q : Nat → Bool} (m K : Nat) (hK : 0 < K) (L : List (Nat × Nat)) : ∀ {a b : Nat}, Tiles p L a b → (∀ t, m + a * K ≤ t → t < m + b * K → q t = p ((t - m) / K)) →
    Tiles q (L.map fun r => (m + r.1 * K, m + r.2 * K)) (m + a * K) (m + b * K) := by
  induction L with
  | nil =>
    intro a b h hq t h1 h2
    rw [hq t h1 h2]
    exact h _ ((Nat.le_div_iff_mul_le hK).2 (by omega)) ((Nat.div_lt_iff_lt_mul hK).2 (by omega))
  | cons r L ih =>
    obtain ⟨x, y⟩ := r
    rintro a b ⟨h1, h2, h3, h4, h5, h6⟩ hq
    have e1 := Nat.mul_le_mul_right K h1
    have e2 := Nat.mul_lt_mul_of_pos_right h2 hK
    have e3 := Nat.mul_le_mul_right K h3
    have ih' := ih h6 (fun t g1 g2 => hq t (by omega) g2)
    rw [List.map_cons]
    refine tiles_cons ?_ ?_ ?_ ?_ ?_ ih'
    · dsimp only; omega
    · dsimp only; omega
    · dsimp only; omega
    · intro t g1 g2
      dsimp only at g2
      rw [hq t g1 (by omega)]
      exact h4 _ ((Nat.le_div_iff_mul_le hK).2 (by omega)) ((Nat.div_lt_iff_lt_mul hK).2 (by omega))
    · intro t g1 g2
      dsimp only at g1 g2
      rw [hq t (by omega) (by omega)]
      exact h5 _ ((Nat.le_div_iff_mul_le hK).2 (by omega)) ((Nat.div_lt_iff_lt_mul hK).2 (by omega))
/-- The pieces of a day whose hours are s, between the seconds a and b. -/
def dayP (a b d : Nat) (R : List (Nat × Nat)) : List (Nat × Nat) := (R.map fun r => (d * 86400 + r.1 * 3600, d * 86400 + r.2 * 3600)).filterMap (clip a b)
/-- The pieces from day d on; H gives the runs of a day's hours. -/
def pcl (H : Nat → List (Nat × Nat)) (a b : Nat) : Nat → Nat → List (Nat × Nat)
  | 0, _ => []
  | f + 1, d => if d * 86400 < b then dayP a b d (H (d % 7)) ++ pcl H a b f (d + 1) else []
theorem pcl_nil {H : Nat → List (Nat × Nat)} {a b f d : Nat} (h : ¬ d * 86400 < b) : pcl H a b f d = [] := by
  cases f with
  | zero => rfl
  | succ f => unfold pcl; rw [if_neg h]
theorem pcl_cons {H : Nat → List (Nat × Nat)} {a b f d : Nat} (h : d * 86400 < b) : pcl H a b (f + 1) d = dayP a b d (H (d % 7)) ++ pcl H a b f (d + 1) := by
  show (if d * 86400 < b then _ else _) = _
  rw [if_pos h]
theorem tiles_none {p : Nat → Bool} {a b : Nat} (h : b ≤ a) : Tiles p [] a b := fun t h1 h2 => by omega
set_option maxRecDepth 100000 in
theorem tiles_pcl {H : Nat → List (Nat × Nat)} {s : Nat → Nat} (hH : ∀ k, Tiles (fun i => (s k).testBit i) (H k) 0 24) (a b : Nat) (hb : b ≤ 10000000) (f : Nat) :
    ∀ d : Nat, d + f = 117 → a < (d + 1) * 86400 → Tiles (fun t => (s (t / 86400 % 7)).testBit (t / 3600 % 24)) (pcl H a b f d) (max a (d * 86400)) b := by
  induction f with
  | zero =>
    intro d hd ha
    have hn : ¬ d * 86400 < b := by omega
    have hm : b ≤ max a (d * 86400) := by omega
    rw [pcl_nil hn]
    exact tiles_none hm
  | succ f ih =>
    intro d hd ha
    by_cases hlt : d * 86400 < b
    · have ha2 : a < (d + 1 + 1) * 86400 := Nat.lt_of_lt_of_le ha (Nat.mul_le_mul_right _ (Nat.le_succ _))
      have h3 := ih (d + 1) (by omega) ha2
      have e1 : (d + 1) * 86400 ≤ b → min b (d * 86400 + 24 * 3600) = (d + 1) * 86400 := by omega
      have e2 : max a ((d + 1) * 86400) = (d + 1) * 86400 := by omega
      have e3 : ¬ (d + 1) * 86400 ≤ b → min b (d * 86400 + 24 * 3600) = b := by omega
      have hle : max a (d * 86400) ≤ (d + 1) * 86400 := by omega
      have hn : ¬ (d + 1) * 86400 ≤ b → ¬ (d + 1) * 86400 < b := by omega
      rw [pcl_cons hlt]
      have h1 := tiles_scale (q := fun t => (s (t / 86400 % 7)).testBit (t / 3600 % 24)) (d * 86400) 3600 (by decide) _ (hH (d % 7)) (fun t g1 g2 => by
        show (s (t / 86400 % 7)).testBit (t / 3600 % 24) = (s (d % 7)).testBit ((t - d * 86400) / 3600)
        rw [show t / 86400 = d by omega, show t / 3600 % 24 = (t - d * 86400) / 3600 by omega])
      have h2 := tiles_clip a b h1
      rw [Nat.zero_mul, Nat.add_zero] at h2
      by_cases hM : (d + 1) * 86400 ≤ b
      · rw [e1 hM] at h2
        rw [e2] at h3
        exact tiles_append h2 h3 hle hM
      · rw [e3 hM] at h2
        rw [pcl_nil (hn hM), List.append_nil]
        exact h2
    · have hm : b ≤ max a (d * 86400) := by omega
      rw [pcl_nil hlt]; exact tiles_none hm
end Go.Proofs.YtmfpaankkoaoaaaDoor
