/- The law rangeFunc_n with what lies in the loop's own blocks given to the body; the table of powers; strings cut at one byte. Contract of digits: the decimal text of a magnitude. Contract of digits: the walk. Contract of Valid. Contracts of text and parse. Contract of parseBoth. -/
import Derived.Test.YtabkodpjhpjgnaaGreatDoorA4
import Derived.Test.YtabkodpjhpjgnaaGreatDoorShelf
import Derived.Test.YtabkodpjhpjgnaaGreatDoorA1
import Derived.Lib.SmallJoins
import Derived.Lib.AppendIntMem
namespace Go.Proofs.YtabkodpjhpjgnaaGreatDoor
open Go.RowKit Go.Shelf
variable {F : Fence} {n : Nat} {P : Program}

theorem rangeFunc_m {g : Operand} {ps : Array Tmp} {assign body : Code} {Q : Exit → Act → World → Prop} {a : Act} {w : World}
    (hro : F.round = none) (h1 : 1 ≤ n) {gf : Nat} {lb : Array Value} (hg : a.eval g = .func (.func gf) #[] lb) (hFg : F.fn gf) (eg : ∀ args w, (callFunc gf args).run P w = .ok (.enter gf args) w)
    {encs : Nat → Array Value} {no : World → Nat → Prop} {fix : Nat → Prop} {N : Nat} (hseq : GivesN F (n - 1) P gf lb encs (fun X k => no X k ∨ k = w.heap.size ∨ k = w.heap.size + 1) fix N w)
    (hps : ∀ x, (encs x).size = ps.size) (hfix : ∀ k, fix k → k < w.heap.size)
    (I : Nat → World → Prop) (hno : ∀ pre X Y k, I pre X → Below X.heap.size X Y → no Y k → no X k ∧ k < X.heap.size ∧ ¬ fix k ∧ k ≠ w.heap.size ∧ k ≠ w.heap.size + 1) (hnp : ∀ pre X o k, I pre X → no (X.putObj (w.heap.size + 1) o) k → no X k)
    (Ix : Code → Nat → World → Prop) (hIx : ∀ c pre X r o, r = w.heap.size + 1 → (∃ L, X.heap[r]? = some (.loop L)) → Ix c pre X → Ix c pre (X.putObj r o)) (hI : ∀ pre X Y, I pre X → Below X.heap.size X Y → I pre Y) (hIp : ∀ pre X r o, r = w.heap.size + 1 → (∃ L, X.heap[r]? = some (.loop L)) → I pre X → I pre (X.putObj r o)) (h0 : I 0 w) (Ax : Nat → Act → World → Prop)
    (hAx : ∀ x a' W r o, w.heap.size ≤ r → r < w.heap.size + 2 → Ax x a' W → Ax x a' (W.putObj r o))
    (hassign : ∀ (l : Nat) (k : Nat) (W : World) (K : Act → World → Prop), k < N → w.heap.size + 2 ≤ W.heap.size → I k W → (∀ a' W', Below W.heap.size W W' → Ax k a' W' → K a' W') →
      assign.wpIn (F.inRound l) (n - 1 - 1) P (Exit.then K (fun _ _ _ => False)) { tmps := (ps.zip (encs k)).foldl (fun t (p, v) => t.setIfInBounds p v) a.tmps, defers := [] } W)
    (hbody : ∀ (l : Nat) (k : Nat) (a' : Act) (W : World), k < N → w.heap.size + 2 ≤ W.heap.size → (∃ L, W.heap[w.heap.size + 1]? = some (.loop L)) → (∃ d, W.heap[w.heap.size]? = some (.deferred d)) → I k W → Ax k a' W → body.wpIn (F.inRound l) (n - 1 - 1) P (goesN I Ix no k W) a' W)
    (hdone : ∀ (D : Nat) (W : World), w.heap.size ≤ D → I N W → W.heap[D]? = some (.deferred (some [])) → Q .normal { a with defers := { target := .collected D, args := #[] } :: a.defers } W)
    (hstop : ∀ (D : Nat) (c : Code) (k : Nat) (W : World), w.heap.size ≤ D → k < N → Ix c k W → W.heap[D]? = some (.deferred (some [])) → c.wpIn F n P Q { a with defers := { target := .collected D, args := #[] } :: a.defers } W) :
    (Code.rangeFunc g ps assign body).wpIn F n P Q a w := by
  refine wpIn_rangeFunc ?_
  intro fn hfn
  rw [hro]
  obtain ⟨rec, hrec⟩ : ∃ rec : LoopState → Option Code → Loop, rec = fun st pe => { state := st, pending := pe, fn, tmps := a.tmps, params := ps, assign, body, defers := w.heap.size } := ⟨_, rfl⟩
  obtain ⟨W1, hW1⟩ : ∃ W1, (w.alloc (.deferred (some []))).alloc (.loop (rec .ready none)) = W1 := ⟨_, rfl⟩
  have hL1 : W1.heap[w.heap.size + 1]? = some (.loop (rec .ready none)) := by
    rw [← hW1]; have := World.alloc_heap_new (w.alloc (.deferred (some []))) (.loop (rec .ready none)); rwa [World.size_alloc] at this
  have hK1 : W1.heap[w.heap.size]? = some (.deferred (some [])) := by
    rw [← hW1]; exact (Below.heap_alloc _ _ _ (by simp)).trans (World.alloc_heap_new w _)
  have hb1 : Below w.heap.size w W1 := by
    rw [← hW1]; exact ((Below.refl _ w).alloc (Nat.le_refl _) _).alloc (by simp) _
  have hs1 : W1.heap.size = w.heap.size + 2 := by rw [← hW1]; simp
  have hI1 : I 0 W1 := hI _ _ _ h0 hb1
  refine ⟨w.heap.size + 1, [{ target := .collected w.heap.size, args := #[] }], W1, { target := .fn (.func gf) lb, args := #[.func (.yield (w.heap.size + 1)) #[] #[]] }, W1, gf,
    #[.func (.yield (w.heap.size + 1)) #[] #[]] ++ lb, W1, ?_, ?_, ?_, ?_, fun _ => h1, ?_⟩
  · rw [← hW1, hrec]; exact run_enterLoop_outer _ _ _ _ _
  · simp only [resolve, hg]
    simp [go_sem]
  · intro f' hf'; simp [Target.leads] at hf'; subst hf'; exact hFg
  · simp [invoke, go_sem, eg]
  · refine (hseq (w.heap.size + 1)
      (fun pre W => I pre W ∧ W.heap[w.heap.size + 1]? = some (.loop (rec .ready none)) ∧ W.heap[w.heap.size]? = some (.deferred (some [])))
      (fun pre W => ∃ c, Ix c pre W ∧ W.heap[w.heap.size + 1]? = some (.loop (rec .done (some c))) ∧ W.heap[w.heap.size]? = some (.deferred (some [])))
      W1 hb1 hs1 rfl
      (fun s A B hs hb => ⟨hI s A B hs.1 hb, (hb.block _ (Array.getElem?_eq_some_iff.1 hs.2.1).1).trans hs.2.1, (hb.block _ (Array.getElem?_eq_some_iff.1 hs.2.2).1).trans hs.2.2⟩)
      (fun s A B k hs hb hk => by
        have hsz := (Array.getElem?_eq_some_iff.1 hs.2.1).1
        rcases hk with hk | rfl | rfl
        · have := hno s A B k hs.1 hb hk; exact ⟨this.2.1, this.2.2.1⟩
        · exact ⟨by omega, fun e => by have := hfix _ e; omega⟩
        · exact ⟨by omega, fun e => by have := hfix _ e; omega⟩)
      ?_ ⟨hI1, hL1, hK1⟩).mono ?_
    · rintro k W hkN ⟨hi, hl, hk⟩ hsz
      have hy := run_yield (P := P) (args := encs k) hl (by rw [hrec]; exact hps k)
      rw [hrec] at hy
      refine ⟨fn, _, assign, body, hy, roundIn_of_wpIn hfn (hassign _ k W _ hkN (by omega) hi ?_)⟩
      intro a' Wa hba hax
      have hla := (hba.block (w.heap.size + 1) (by omega)).trans hl
      have hka := (hba.block w.heap.size (by omega)).trans hk
      have hia := hI _ _ _ hi hba
      have hsa := hba.size
      refine ⟨_, run_beginRound hla (by rw [hrec]), ?_⟩
      have hl2 : (Wa.putObj (w.heap.size + 1) (.loop { rec .ready none with state := .busy })).heap[w.heap.size + 1]? = some (.loop { rec .ready none with state := .busy }) := World.putObj_heap_same (by omega)
      have hk2 : (Wa.putObj (w.heap.size + 1) (.loop { rec .ready none with state := .busy })).heap[w.heap.size]? = some (.deferred (some [])) := (World.putObj_heap_other (by omega)).trans hka
      have hib := hIp _ _ (w.heap.size + 1) (.loop { rec .ready none with state := .busy }) rfl ⟨_, hla⟩ hia
      have hnn : ∀ k, no (Wa.putObj (w.heap.size + 1) (.loop { rec .ready none with state := .busy })) k → no W k := fun k hk => (hno _ _ _ _ hi hba (hnp _ _ _ _ hia hk)).1
      refine wpIn_mono (hbody _ k a' _ hkN (by simp; omega) ⟨_, hl2⟩ ⟨_, hk2⟩ hib (hAx _ _ _ _ _ (by omega) (by omega) hax)) ?_
      rintro e a3 W3 hp
      cases e with
      | normal =>
        obtain ⟨hk3, hi3⟩ := hp
        have hl3 := (hk3.block (w.heap.size + 1) (by simp; omega) (fun e => by have := hno _ _ _ _ hib (Below.refl _ _) e; omega)).trans hl2
        have hd3 := (hk3.block w.heap.size (by simp; omega) (fun e => by have := hno _ _ _ _ hib (Below.refl _ _) e; omega)).trans hk2
        have hs3 := hk3.size
        have := run_endRound (P := P) none hl3
        rw [hrec] at this
        refine ⟨_, _, this, .inl ⟨rfl, ⟨hIp _ _ _ _ rfl ⟨_, hl3⟩ hi3, ?_, (World.putObj_heap_other (by omega)).trans hd3⟩, ?_⟩⟩
        · rw [hrec]; exact World.putObj_heap_same (by simp at hs3; omega)
        · exact (Keeps.of_below hba).trans ((Keeps.putObj (.inr (.inr rfl))).trans ((Keeps.trans ⟨hk3.os, hk3.tape, hk3.output, hk3.size, fun k hk hn => hk3.block k hk (fun e => hn (.inl (hnn _ e)))⟩ (Keeps.putObj (.inr (.inr rfl))))))
      | ret =>
        obtain ⟨hk3, hi3⟩ := hp
        have hl3 := (hk3.block (w.heap.size + 1) (by simp; omega) (fun e => by have := hno _ _ _ _ hib (Below.refl _ _) e; omega)).trans hl2
        have hd3 := (hk3.block w.heap.size (by simp; omega) (fun e => by have := hno _ _ _ _ hib (Below.refl _ _) e; omega)).trans hk2
        have hs3 := hk3.size
        have := run_endRound (P := P) (some .ret) hl3
        rw [hrec] at this
        refine ⟨_, _, this, .inr ⟨rfl, .ret, hIx _ _ _ _ _ rfl ⟨_, hl3⟩ hi3, ?_, (World.putObj_heap_other (by omega)).trans hd3⟩⟩
        rw [hrec]; exact World.putObj_heap_same (by simp at hs3; omega)
      | exit id =>
        obtain ⟨hk3, hi3⟩ := hp
        have hl3 := (hk3.block (w.heap.size + 1) (by simp; omega) (fun e => by have := hno _ _ _ _ hib (Below.refl _ _) e; omega)).trans hl2
        have hd3 := (hk3.block w.heap.size (by simp; omega) (fun e => by have := hno _ _ _ _ hib (Below.refl _ _) e; omega)).trans hk2
        have hs3 := hk3.size
        have := run_endRound (P := P) (some (.exit id)) hl3
        rw [hrec] at this
        refine ⟨_, _, this, .inr ⟨rfl, .exit id, hIx _ _ _ _ _ rfl ⟨_, hl3⟩ hi3, ?_, (World.putObj_heap_other (by omega)).trans hd3⟩⟩
        rw [hrec]; exact World.putObj_heap_same (by simp at hs3; omega)
      | goto t => exact hp.elim
      | panic ch => exact hp.elim
      | outgrown => exact hp.elim
    · rintro e W2 ⟨⟨v, rfl⟩, (⟨hi, hl, hk⟩ | ⟨k, hkN, c, hi, hl, hk⟩)⟩
      rotate_left
      · have hlt : w.heap.size + 1 < W2.heap.size := (Array.getElem?_eq_some_iff.1 hl).1
        refine ⟨some c, _, by have := run_endLoop (P := P) hl (by rw [hrec]; simp); rw [hrec] at this; exact this, hstop _ c k _ (Nat.le_refl _) hkN (hIx _ _ _ _ _ rfl ⟨_, hl⟩ hi) ((World.putObj_heap_other (by omega)).trans hk)⟩
      have hlt : w.heap.size + 1 < W2.heap.size := (Array.getElem?_eq_some_iff.1 hl).1
      refine ⟨none, _, by have := run_endLoop (P := P) hl (by rw [hrec]; simp); rw [hrec] at this; exact this, hdone _ _ (Nat.le_refl _) (hIp _ _ _ _ rfl ⟨_, hl⟩ hi) ((World.putObj_heap_other (by omega)).trans hk)⟩

/-- The table of strconv stands. -/
def TabP (w : World) : Prop := Lib.TabIs Tryz.prog w "internal/strconv.uint64pow10" .u64 Lib.pow10Tab
theorem TabP.next {w w' : World} (h : TabP w) (hb : Below w.heap.size w w') : TabP w' :=
  Joins.var_stays (g := 1) (by kernel_rfl) h hb (Nat.le_refl _)
theorem itoa_any (z : Int) (h0 : -9223372036854775808 ≤ z) (h1 : z ≤ 9223372036854775807) (w : World) (ht : TabP w) :
    Calls Tryz.prog 87 #[.int .i64 z] w fun e w' => e = .returned (.string ⟨(Lib.itoa z).toArray⟩) ∧ Below w.heap.size w w' := by
  refine (Tryz.strconv_Itoa z h0 h1 w ht).mono ?_
  rintro e w' ⟨rfl, k, os, rfl⟩
  exact ⟨rfl, Lib.below_grow _ w (Nat.le_refl _) k os⟩

theorem bsx_size (l : List UInt8) : (bs l).size = l.length := by simp [bs, ByteArray.size]
theorem bsx_cut (c : UInt8) (l : List UInt8) : (bs (c :: l)).extract 1 (l.length + 1) = bs l := by
  have h := Lib.extract_data (bs (c :: l)) 1 (l.length + 1)
  have e : (bs (c :: l)).data.toList = c :: l := rfl
  rw [e, List.drop_one, List.tail_cons, Nat.add_sub_cancel, List.take_length] at h
  apply ByteArray.ext
  apply Array.toList_inj.1
  rw [h]; rfl
theorem bsx_cells (l : List UInt8) : Lib.strCells (bs l) = Lib.byteCells l := by
  simp [Lib.strCells, Lib.byteCells, bs]
end Go.Proofs.YtabkodpjhpjgnaaGreatDoor

namespace Go.Proofs.YtabkodpjhpjgnaaGreatDoor
open Go.RowKit Go.Shelf
attribute [local go_sem] Oper.semAt_some

theorem bat_next {T e : TypeId} {B b : Nat} {p : Value} {xs : List Value} {w w' : World} (h : Lib.BuilderAtF T e B b p xs w) (hb : Below w.heap.size w w') : Lib.BuilderAtF T e B b p xs w' := by
  have hlt := h.lt
  obtain ⟨hB, v, hc, hown, hne⟩ := h
  refine ⟨hB, v, (hb.block b hlt).trans hc, hown.kept (row := none) ⟨hb.os, hb.tape, hb.output, hb.size, fun k hk _ => hb.block k hk⟩ ?_, hne⟩
  by_cases e : v.ownBlock = none
  · exact .inl e
  · exact .inr e
theorem noB_back {b j : Nat} {X Y : World} (h : Y.heap[b]? = X.heap[b]?) (hn : noB b Y j) : noB b X j := by
  rcases hn with hn | ⟨p, v, hv, ho⟩
  · exact .inl hn
  · exact .inr ⟨p, v, by rw [← h]; exact hv, ho⟩

/-- What stands between two rounds: the text of the groups that were read. -/
structure DigI (w : World) (Bs Dd : Nat) (A : Option Addr) (top c n k : Nat) (X : World) : Prop where
  bd : Lib.BuilderAtF 115 5 w.heap.size w.heap.size (.pointer (some ⟨w.heap.size, 0, none⟩)) (Lib.byteCells (Lib.decDigits (n / 10000 ^ (top - k)))) X
  sep : ∀ p v, X.heap[w.heap.size]? = some (.cells #[p, v] 115 (0, 0)) → v.ownBlock ≠ some Bs ∧ v.ownBlock ≠ some Dd ∧ v.ownBlock ≠ some (Dd + 1)
  rb : Row X Bs 97 #[.slice A top c]
  bw : Below w.heap.size w X

section
variable {w X Y : World} {Bs Dd top c n k : Nat} {A : Option Addr}
theorem DigI.bsb (h : DigI w Bs Dd A top c n k X) : Bs ≠ w.heap.size := by
  rintro rfl
  obtain ⟨_, v, hv, _⟩ := h.bd
  have := h.rb
  unfold Row at this
  rw [hv] at this
  simp only [Option.some.injEq, Obj.cells.injEq] at this
  exact absurd this.2.1 (by decide)
theorem DigI.below (h : DigI w Bs Dd A top c n k X) (hb : Below X.heap.size X Y) : DigI w Bs Dd A top c n k Y :=
  ⟨bat_next h.bd hb, fun p v hv => h.sep p v (by rw [← hb.block _ h.bd.lt]; exact hv), h.rb.below hb h.rb.lt, h.bw.trans (hb.mono h.bw.size)⟩
theorem DigI.putLoop (h : DigI w Bs Dd A top c n k X) (hD : w.heap.size < Dd) (hBs : Bs < Dd) (o : Obj) : DigI w Bs Dd A top c n k (X.putObj (Dd + 1) o) := by
  have hs := h.sep
  obtain ⟨hB, v, hc, hown, hne⟩ := h.bd
  have e : (X.putObj (Dd + 1) o).heap[w.heap.size]? = X.heap[w.heap.size]? := World.putObj_heap_other (by omega)
  refine ⟨⟨hB, v, e.trans hc, hown.kept (row := some (Dd + 1)) ⟨rfl, rfl, rfl, by simp, fun k _ hk => World.putObj_heap_other (fun e => hk (by rw [e]))⟩ (.inr (hs _ _ hc).2.2), hne⟩, fun p v hv => hs p v (by rw [← e]; exact hv), (World.putObj_heap_other (by omega)).trans h.rb, h.bw.trans ⟨rfl, rfl, rfl, by simp, fun j hj => World.putObj_heap_other (by omega)⟩⟩
theorem DigI.no (h : DigI w Bs Dd A top c n k X) (hD : w.heap.size < Dd) (hA : ∀ j off, A = some ⟨j, off, none⟩ → j < w.heap.size) (hb : Below X.heap.size X Y) (j : Nat) (hj : noB w.heap.size Y j) : noB w.heap.size X j ∧ j < X.heap.size ∧ ¬ fixB Bs A j ∧ j ≠ Dd ∧ j ≠ Dd + 1 := by
  have e := hb.block _ h.bd.lt
  have hn := noB_back e hj
  refine ⟨hn, ?_⟩
  rcases hn with rfl | ⟨p, v, hv, ho⟩
  · refine ⟨h.bd.lt, ?_, by omega, by omega⟩
    rintro (e | ⟨off, e⟩)
    · exact h.bsb e.symm
    · exact absurd (hA _ _ e) (by omega)
  · have hs := h.sep p v hv
    obtain ⟨hB, v', hc, hown, hne⟩ := h.bd
    have ev : v' = v := by
      rw [hv] at hc
      simp only [Option.some.injEq, Obj.cells.injEq, Array.mk.injEq, List.cons.injEq, and_true] at hc
      exact hc.2.symm
    subst ev
    have hl := hown.lt j ho
    refine ⟨hl.2, ?_, fun e => hs.2.1 (by rw [ho, e]), fun e => hs.2.2 (by rw [ho, e])⟩
    rintro (e | ⟨off, e⟩)
    · exact hs.1 (by rw [ho, e])
    · exact absurd (hA _ _ e) (by omega)
end

theorem DigI.step {w W W1 W2 : World} {Bs Dd top c n k q x : Nat} {A : Option Addr} (h : DigI w Bs Dd A top c n k W) (hD : w.heap.size < Dd) (hDd : Dd + 1 < W.heap.size)
    (hl : ∃ L, W.heap[Dd + 1]? = some (.loop L)) (hd : ∃ d, W.heap[Dd]? = some (.deferred d)) (hb : Below W.heap.size W W1)
    (hW : Lib.BuilderAtF 115 5 w.heap.size w.heap.size (.pointer (some ⟨w.heap.size, 0, none⟩)) (Lib.byteCells (Lib.decDigits q) ++ Lib.strCells (bs (Im.dec4 x))) W2)
    (hB2 : Below w.heap.size W1 W2) (hk2 : Keeps (noB w.heap.size W1) W1 W2) (hq : 0 < q) (hx : x < 10000) (hq2 : n / 10000 ^ (top - (k + 1)) = q * 10000 + x) :
    Keeps (noB w.heap.size W) W W2 ∧ DigI w Bs Dd A top c n (k + 1) W2 := by
  have h1 := h.below hb
  have e := hb.block _ h.bd.lt
  refine ⟨(Keeps.of_below hb).trans ⟨hk2.os, hk2.tape, hk2.output, hk2.size, fun j hj hn => hk2.block j hj (fun e2 => hn (noB_back e e2))⟩, ?_⟩
  have hno : ∀ j, j = Bs ∨ j = Dd ∨ j = Dd + 1 → ¬ noB w.heap.size W1 j := by
    rintro j hj (rfl | ⟨p, v, hv, ho⟩)
    · rcases hj with hj | hj | hj
      · exact h.bsb hj.symm
      · omega
      · omega
    · have hs := h1.sep p v hv
      rcases hj with rfl | rfl | rfl
      · exact hs.1 ho
      · exact hs.2.1 ho
      · exact hs.2.2 ho
  have kB : W2.heap[Bs]? = W1.heap[Bs]? := hk2.block Bs h1.rb.lt (hno _ (.inl rfl))
  have hs1 := hb.size
  have kD : W2.heap[Dd]? = W.heap[Dd]? := (hk2.block Dd (by omega) (hno _ (.inr (.inl rfl)))).trans (hb.block Dd (by omega))
  have kL : W2.heap[Dd + 1]? = W.heap[Dd + 1]? := (hk2.block (Dd + 1) (by omega) (hno _ (.inr (.inr rfl)))).trans (hb.block (Dd + 1) (by omega))
  have hrb : Row W2 Bs 97 #[.slice A top c] := kB.trans h1.rb
  refine ⟨?_, ?_, hrb, h1.bw.trans hB2⟩
  · rw [hq2, Im.text_step q x hq hx]
    rw [bsx_cells] at hW
    have : Lib.byteCells (Lib.decDigits q ++ Im.dec4 x) = Lib.byteCells (Lib.decDigits q) ++ Lib.byteCells (Im.dec4 x) := by simp [Lib.byteCells]
    rw [this]; exact hW
  · intro p v hv
    obtain ⟨hB, v', hc, hown, hne⟩ := hW
    have ev : v' = v := by
      rw [hv] at hc
      simp only [Option.some.injEq, Obj.cells.injEq, Array.mk.injEq, List.cons.injEq, and_true] at hc
      exact hc.2.symm
    subst ev
    refine ⟨fun ho => ?_, fun ho => ?_, fun ho => ?_⟩
    · obtain ⟨cc, fz, hh⟩ := Lib.ownsRowF_kind hown Bs ho
      unfold Row at hrb
      rw [hh] at hrb
      simp only [Option.some.injEq, Obj.cells.injEq] at hrb
      exact absurd hrb.2.1 (by decide)
    · obtain ⟨cc, fz, hh⟩ := Lib.ownsRowF_kind hown Dd ho
      obtain ⟨d, hd⟩ := hd
      rw [kD, hd] at hh; cases hh
    · obtain ⟨cc, fz, hh⟩ := Lib.ownsRowF_kind hown (Dd + 1) ho
      obtain ⟨L, hl⟩ := hl
      rw [kL, hl] at hh; cases hh

theorem pow4 (k : Nat) : 10000 ^ k = 10 ^ (4 * k) := by rw [show (10000 : Nat) = 10 ^ 4 from rfl, ← Nat.pow_mul]
theorem dd_short (m n : Nat) (h : m ≤ n) (hn : n ≠ 0) : (Lib.decDigits m).length ≤ 4 * (Im.grp n).length := by
  have h0 : (Im.grp n).length ≠ 0 := fun e => hn ((Im.grp_len0 n).1 e)
  refine (Im.dd_len m _ (by omega)).2 (Nat.lt_of_le_of_lt h ?_)
  have h1 := Im.grp_lt n
  rw [pow4] at h1
  exact h1
theorem bat_fresh (w : World) : Lib.IsBuilderF 115 5 w.heap.size w.heap.size [] (w.alloc (.cells #[.pointer none, .slice none 0 0] 115)) :=
  .inl ⟨Nat.le_refl _, .slice none 0 0, Row.new w _ _, World.ownsRowF_nil _ _ _ _, by simp [Value.ownBlock]⟩
end Go.Proofs.YtabkodpjhpjgnaaGreatDoor

namespace Go.Proofs.YtabkodpjhpjgnaaGreatDoor
open Go.RowKit Go.Shelf
attribute [local go_sem] Oper.semAt_some

set_option maxRecDepth 100000 in
set_option maxHeartbeats 2000000 in
theorem digits_any (v : Value) (n : Nat) (w : World) (hv : Mag w v n) (ht : TabP w) (hl : (Im.grp n).length ≤ 400) :
    Calls Tryz.prog 118 #[v] w fun e w' => e = .returned (strOf (Lib.decDigits n)) ∧ Below w.heap.size w w' := by
  have hz := fun u (hu : Mag u v n) => isZero_any v n u hu
  by_cases h0 : n = 0
  · subst h0
    obtain ⟨A, c, rfl, hc1, hc2⟩ := ints_form hv
    have HZ := Lib.hid (hz w hv)
    go_enter Tryz.func118, Tryz.ntmps118
    go_wp2_with (go_at_call 116; refine HZ.out.mono ?_; rintro e w1 ⟨rfl, rfl⟩)
    go_ret
    exact ⟨by rw [Im.dd_small 0 (by decide)]; rfl, Below.refl _ _⟩
  rw [decide_eq_false h0] at hz
  have hN0 : (Im.grp n).length ≠ 0 := fun e => h0 ((Im.grp_len0 n).1 e)
  have hds := fun m h => dd_short m n h h0
  have hgd := fun i => Im.grp_getD n i
  have hgt := Im.grp_lt n
  have hge := Im.grp_ge n h0
  obtain ⟨A, c, rfl, hc1, hc2⟩ := ints_form hv
  obtain ⟨N, hN⟩ : ∃ N, (Im.grp n).length = N := ⟨_, rfl⟩
  rw [hN] at hN0 hl hds hgt hge hc1
  obtain ⟨top, htop⟩ : ∃ top, N = top + 1 := ⟨N - 1, by omega⟩
  have hpre := ints_pre hv top (by omega)
  obtain ⟨g, off, hAe, hg, hcell⟩ := ints_at hv top (by omega)
  obtain ⟨l, hll⟩ : ∃ l, (Im.grp n).take top = l := ⟨_, rfl⟩
  have hlen : l.length = top := by rw [← hll, List.length_take]; omega
  have hqd : ∀ i, i < top → l.getD i 0 = ((n / 10000 ^ i % 10000 : Nat) : Int) := fun i hi => by
    rw [← Im.grp_getD, List.getD_eq_getElem?_getD, ← hll, List.getElem?_take_of_lt hi, List.getD_eq_getElem?_getD]
  rw [hll] at hpre
  have hxe := hgd top
  have hxl : n / 10000 ^ top < 10000 := Nat.div_lt_of_lt_mul (by rw [← Nat.pow_succ]; show n < 10000 ^ (top + 1); rw [← htop]; exact hgt)
  have hxp : 0 < n / 10000 ^ top := Nat.div_pos (by rw [show N - 1 = top by omega] at hge; exact hge) (Nat.pow_pos (by decide))
  rw [Nat.mod_eq_of_lt hxl] at hxe
  have c0 := hcell top (by omega)
  rw [hxe] at c0
  obtain ⟨x, hx⟩ : ∃ x, n / 10000 ^ top = x := ⟨_, rfl⟩
  rw [hx] at hxl hxp c0
  have hit := fun u (hu : TabP u) => itoa_any (x : Int) (by omega) (by omega) u hu
  rw [Lib.itoa_nonneg] at hit
  have hxd : (Lib.decDigits x).length ≤ 4 := (Im.dd_len x 4 (by decide)).2 hxl
  rw [hN] at hv hz ⊢
  have hqpos : ∀ k, k ≤ top → 0 < n / 10000 ^ k := fun k hk => Nat.div_pos (Nat.le_trans (Nat.pow_le_pow_right (by decide) (by omega)) hge) (Nat.pow_pos (by decide))
  have s1 : IntKind.i64.wrap ((N : Int) - 1) = (top : Int) := by rw [show (N : Int) - 1 = (top : Int) by omega]; exact IntWalk.i64_in _ (by omega)
  have i1 : (0 : Int) ≤ (top : Int) := by omega
  have i2 : (top : Int) < (N : Int) := by omega
  have i4 : (top : Int) ≤ (c : Int) := by omega
  have HAF : Hid (∀ j o, A = some ⟨j, o, none⟩ → j < w.heap.size) := Lib.hid (fun j o e => by
    subst hAe; injection e with e; injection e with e1 e2; omega)
  subst hAe
  have hzw := hz (w.alloc (.cells #[.pointer none, .slice none 0 0] 115)) (hv.next ((Below.refl _ _).alloc (Nat.le_refl _) _))
  have hz0 := hz w hv
  have hbb := (Below.refl w.heap.size w).alloc (Nat.le_refl _) (.cells #[.pointer none, .slice none 0 0] 115)
  have hwr := fun u (hb : Below (w.heap.size + 1) (w.alloc (.cells #[.pointer none, .slice none 0 0] 115)) u) => wstr_any w.heap.size w.heap.size [] (bs (Lib.decDigits x)) u
  have HTOP := Lib.hid htop
  have HZ := Lib.hid hz0; have HIT := Lib.hid hit; have HTW := Lib.hid ht; have HBB := Lib.hid hbb; have HPRE := Lib.hid hpre; have HLEN := Lib.hid hlen; have HQD := Lib.hid hqd; have HX := Lib.hid hx; have HQP := Lib.hid hqpos; have HDS := Lib.hid hds
  have HBF := Lib.hid (bat_fresh w)
  have hc0 := (hbb.cell (p := ⟨g, off + top, none⟩) hg).trans c0
  clear hwr hzw hz0 hz hit hbb hpre hlen hqd hx hqpos hds hll hxe hN hgd hgt hge hcell hv c0 hN0 hc1 htop
  refine (callsIn_wide (n := 3)).1 ?_
  refine callsIn_of_wp_marks Tryz.func118 rfl trivial ?_ rfl
  simp only [Tryz.ntmps118, List.size_toArray, List.length_cons, List.length_nil, Nat.reduceAdd, Nat.reduceSub, Array.replicate_succ, Array.replicate_zero, List.push_toArray, List.append_toArray, List.nil_append, List.cons_append]
  gi_wp2_with (first | (refine ⟨trivial, ?_⟩; gi_at_call 116; refine (callsIn_wide.2 HZ.out).mono ?_; rintro e w1 ⟨rfl, rfl⟩) | (refine ⟨trivial, ?_⟩; gi_at_call 87; refine (callsIn_wide.2 (HIT.out _ (HTW.out.next HBB.out))).mono ?_; rintro e w1 ⟨rfl, hb1⟩; have HB1 := Lib.hid hb1; clear hb1) | (refine ⟨trivial, ?_⟩; gi_at_call 102; refine (callsIn_wide.2 (wstr_any w.heap.size w.heap.size [] (bs (Lib.decDigits x)) _ (.inl (bat_next (HBF.out.elim id (fun h => by obtain ⟨_, v, h, _⟩ := h; have := (Row.new w 115 #[.pointer none, .slice none 0 0]).symm.trans h; simp at this)) HB1.out)) (by rw [bs_size]; simp; omega) (Nat.le_trans HBB.out.size HB1.out.size))).mono ?_; rintro e w2 ⟨rfl, hbd, hb2, hk2⟩; have HBD := Lib.hid hbd; have HB2 := Lib.hid hb2; clear hbd hb2 hk2) | (refine ⟨trivial, ?_⟩; gi_at_call 134; refine (back_in _ _ _ _ _).mono ?_; rintro e w' ⟨rfl, rfl⟩))
  obtain ⟨W0, hW0⟩ : ∃ W0, w2.alloc (.cells #[.slice (some ⟨g, off, none⟩) top c] 97) = W0 := ⟨_, rfl⟩
  have hbw2 : Below w.heap.size w w2 := (HBB.out.trans (HB1.out.mono HBB.out.size)).trans HB2.out
  have hb0 : Below w.heap.size w W0 := by rw [← hW0]; exact hbw2.alloc hbw2.size _
  have hs0 : W0.heap.size = w2.heap.size + 1 := by rw [← hW0]; simp
  have rb0 : Row W0 w2.heap.size 97 #[.slice (some ⟨g, off, none⟩) top c] := by rw [← hW0]; exact Row.new w2 _ _
  have hwlt : w.heap.size < w2.heap.size := HBD.out.lt
  have d0 : DigI w w2.heap.size W0.heap.size (some ⟨g, off, none⟩) top c n 0 W0 := by
    refine ⟨?_, ?_, rb0, hb0⟩
    · rw [Nat.sub_zero, HX.out]
      have := HBD.out
      rw [bsx_cells, List.nil_append] at this
      rw [← hW0]; exact this.alloc _
    · intro p v hv
      have hv2 : w2.heap[w.heap.size]? = some (.cells #[p, v] 115 (0, 0)) := by
        rw [← hW0, Below.heap_alloc _ _ _ hwlt] at hv; exact hv
      obtain ⟨_, v', hc, hown, _⟩ := HBD.out
      have ev : v' = v := by
        rw [hv2] at hc
        simp only [Option.some.injEq, Obj.cells.injEq, Array.mk.injEq, List.cons.injEq, and_true] at hc
        exact hc.2.symm
      subst ev
      refine ⟨fun e => ?_, fun e => ?_, fun e => ?_⟩
      · have := (hown.lt _ e).2; omega
      · have := (hown.lt _ e).2; omega
      · have := (hown.lt _ e).2; omega
  have htw : TabP W0 := HTW.out.next hb0
  rw [hW0]
  have hgv : GivesN Fence.wide (3 - 1) Tryz.prog 159 #[.pointer (some ⟨w2.heap.size, 0, none⟩)] (encB l) (fun X j => noB w.heap.size X j ∨ j = W0.heap.size ∨ j = W0.heap.size + 1) (fixB w2.heap.size (some ⟨g, off, none⟩)) l.length W0 :=
    back_gives (3 - 1) w2.heap.size c (some ⟨g, off, none⟩) l _ W0 (by rw [HLEN.out]; exact rb0) (by rw [HLEN.out]; exact HPRE.out.next hb0)
  have hfx : ∀ j, fixB w2.heap.size (some ⟨g, off, none⟩) j → j < W0.heap.size := by
    rintro j (rfl | ⟨o, e⟩)
    · omega
    · have := HAF.out j o e; omega
  have HD0 := Lib.hid d0; have HT0 := Lib.hid htw
  clear hW0 hb0 rb0 d0 htw hbw2 HB1 HB2 HBD HBB HBF HIT HZ
  rw [HLEN.out] at hgv
  have hDd : w.heap.size < W0.heap.size := by omega
  have hBD : w2.heap.size < W0.heap.size := by omega
  have HSZ := Lib.hid hs0
  clear hs0 hwlt hc0 s1 i1 i2 i4
  refine rangeFunc_m (F := Fence.wide) rfl (by decide) (gf := 159) (lb := #[.pointer (some ⟨w2.heap.size, 0, none⟩)]) rfl trivial (enters_of Tryz.func159 (by kernel_rfl) rfl)
    (no := noB w.heap.size) hgv
    (fun _ => rfl) hfx
    (fun k X => DigI w w2.heap.size W0.heap.size (some ⟨g, off, none⟩) top c n k X)
    (fun k X Y j h hb hj => h.no hDd HAF.out hb j hj)
    (fun k X o j h hj => noB_back (World.putObj_heap_other (by omega)) hj)
    (fun _ _ _ => False) (fun _ _ _ _ _ _ _ h => h)
    (fun k X Y h hb => h.below hb)
    (fun k X r o hr _ h => by rw [hr]; exact h.putLoop hDd hBD o)
    HD0.out
    (fun k a' _ => a' = { tmps := #[.slice (some ⟨g, off, none⟩) N c, undef, .string ⟨#[]⟩, .pointer (some ⟨w.heap.size, 0, none⟩), .int .i64 (top : Int), undef, .int .i64 (l.getD (l.length - 1 - k) 0), .slice (some ⟨g, off, none⟩) N c, .bool false, .slice (some ⟨g, off, none⟩) N c, .int .i64 (N : Int), .int .i64 (top : Int), .slice (some ⟨g, off, none⟩) N c, .int .i64 (top : Int), .pointer (some ⟨g, off + top, none⟩), .int .i64 (x : Int), .string ⟨(Lib.decDigits x).toArray⟩,
      .tuple #[.int .i64 ((bs (Lib.decDigits x)).size : Int), .nilIface], .slice (some ⟨g, off, none⟩) N c, .int .i64 (top : Int), .slice (some ⟨g, off, none⟩) top c, .func (.func 159) #[] #[.pointer (some ⟨w2.heap.size, 0, none⟩)],
      .int .i64 ((l.length : Int) - 1 - (k : Int)), .int .i64 (l.getD (l.length - 1 - k) 0), undef, undef, undef, undef, undef, undef], defers := [] })
    (fun _ _ _ _ _ _ _ h => h) ?assign ?body ?done ?stop
  case stop =>
    intro D c k W _ _ h _
    exact h.elim
  case assign =>
    intro y k W K hkn hsz hI hK
    unfold encB
    have HK := Lib.hid hK
    clear hK
    gi_wp2
    exact HK.out _ _ (Below.refl _ _) rfl
  case body =>
    rintro y k a' W hkn hsz hL hDf hI rfl
    have hx1 := HQD.out (top - 1 - k) (by omega)
    rw [HLEN.out, hx1]
    have hxb : n / 10000 ^ (top - 1 - k) % 10000 < 10000 := Nat.mod_lt _ (by decide)
    have hsh := Im.div_shift n (top - 1 - k)
    rw [show top - 1 - k + 1 = top - k by omega, show top - 1 - k = top - (k + 1) by omega] at hsh
    rw [show top - 1 - k = top - (k + 1) by omega] at hxb ⊢
    have hqp := HQP.out (top - k) (by omega)
    have hdl := HDS.out (n / 10000 ^ (top - k)) (Nat.div_le_self _ _)
    obtain ⟨z, hz⟩ : ∃ z, n / 10000 ^ (top - (k + 1)) % 10000 = z := ⟨_, rfl⟩
    rw [hz] at hsh hxb ⊢
    have s2 : IntKind.i64.wrap (10000 + (z : Int)) = 10000 + (z : Int) := IntWalk.i64_in _ (by omega)
    have hit := itoa_any (10000 + (z : Int)) (by omega) (by omega) W (HTW.out.next hI.bw)
    have hie : Lib.itoa (10000 + (z : Int)) = UInt8.ofNat 49 :: Im.dec4 z := by
      rw [show (10000 + (z : Int)) = ((10000 + z : Nat) : Int) by omega, Lib.itoa_nonneg, Im.dd_pad z hxb]
    rw [hie] at hit
    obtain ⟨S, hS⟩ : ∃ S : ByteArray, { data := (UInt8.ofNat 49 :: Im.dec4 z).toArray } = S := ⟨_, rfl⟩
    rw [hS] at hit
    have hsz5 : S.size = 5 := by rw [← hS]; exact bs_size (UInt8.ofNat 49 :: Im.dec4 z)
    have hcut : S.extract 1 5 = bs (Im.dec4 z) := by rw [← hS]; exact bsx_cut (UInt8.ofNat 49) (Im.dec4 z)
    have hsl : ∀ w, (Instr.slice 9 (.string S) (some (.int .i64 1)) none none).run Tryz.prog w = .ok (.string (bs (Im.dec4 z))) w := fun w => by
      rw [run_slice_string_l (P := Tryz.prog) w 9 S Tryz.underlying9 .i64 1 (by decide) (by rw [hsz5]; decide), hsz5]
      show Result.ok (Value.string (S.extract 1 5)) w = _
      rw [hcut]
    have hlb : (Lib.byteCells (Lib.decDigits (n / 10000 ^ (top - k)))).length + (bs (Im.dec4 z)).size ≤ 140737488355328 := by
      rw [Lib.byteCells_length, bs_size]
      have e4 : (Im.dec4 z).length = 4 := rfl
      omega
    have HII := Lib.hid hI; have HQ := Lib.hid (And.intro hqp (And.intro hxb hsh)); have HLL := Lib.hid (And.intro hL hDf); have HIT2 := Lib.hid hit; have HLB := Lib.hid hlb
    clear hI hqp hxb hsh hL hDf hit hlb hcut hS hie hx1 hz hdl
    gi_wp2_with (first | (refine ⟨trivial, ?_⟩; gi_at_call 87; refine (CallsIn.inRound y (callsIn_wide.2 HIT2.out)).mono ?_; rintro e w3 ⟨rfl, hb3⟩; have HB3 := Lib.hid hb3; clear hb3) | (refine ⟨trivial, ?_⟩; gi_at_call 102; refine (CallsIn.inRound y (callsIn_wide.2 (wstr_any w.heap.size w.heap.size _ (bs (Im.dec4 z)) _ (.inr (bat_next HII.out.bd HB3.out)) HLB.out (Nat.le_trans HII.out.bw.size HB3.out.size)))).mono ?_; rintro e w4 ⟨rfl, hbd, hb4, hk4⟩; have HS4 := Lib.hid (HII.out.step hDd (by omega) HLL.out.1 HLL.out.2 HB3.out hbd hb4 hk4 HQ.out.1 HQ.out.2.1 HQ.out.2.2); clear hbd hb4 hk4))
    exact HS4.out
  case done =>
    rintro D W hD hI hK
    have hbd := hI.bd
    rw [Nat.sub_self, Nat.pow_zero, Nat.div_one] at hbd
    have hst := Tryz.Builder_String_k w.heap.size w.heap.size (Lib.decDigits n) W (.inr hbd) (Im.dd_ne n)
    have HST := Lib.hid hst; have HII := Lib.hid hI
    clear hst hbd hI
    gi_wp2_with (refine ⟨trivial, ?_⟩; gi_at_call 104; refine (callsIn_wide.2 HST.out).mono ?_; rintro e w5 ⟨rfl, -, hb5, hk5⟩)
    have hK5 : w5.heap[D]? = some (.deferred (some [])) := hk5 D _ hK (by intro e; injection e; omega) (by intro c fz e; cases e)
    refine ⟨by simp, .inl ⟨_, _, rfl, run_takeDeferred hK5, ?_⟩⟩
    refine ⟨_, results_tmp rfl _ _ _, rfl, ?_⟩
    exact (HII.out.bw.trans hb5).trans (belowK_b (w := w) (Nat.le_refl _) w5 D _ _ (by omega) hK5 rfl rfl)
end Go.Proofs.YtabkodpjhpjgnaaGreatDoor

namespace Go.Proofs.YtabkodpjhpjgnaaGreatDoor
open Go.RowKit Go.Shelf

def notDigit (x : Nat) : Bool := decide (x < 48) || decide (57 < x)
set_option maxHeartbeats 400000 in
theorem valid1_any (x : Nat) (hx : x ≤ 1114111) (w : World) :
    Calls Tryz.prog 144 #[.int .i32 (x : Int)] w fun e w' => e = .returned (.bool (notDigit x)) ∧ Below w.heap.size w w' := by
  unfold notDigit
  by_cases h1 : x < 48
  · rw [decide_eq_true h1]
    have t1 : decide ((x : Int) < 48) = true := decide_eq_true (by omega)
    go_enter Tryz.func144, Tryz.ntmps144
    go_wp2
    go_ret
    exact ⟨rfl, Below.refl _ _⟩
  · rw [decide_eq_false h1]
    have t1 : decide ((x : Int) < 48) = false := decide_eq_false (by omega)
    have t2 : decide ((57 : Int) < (x : Int)) = decide (57 < x) := decide_eq_decide.2 (by omega)
    go_enter Tryz.func144, Tryz.ntmps144
    go_wp2
    go_ret
    exact ⟨rfl, Below.refl _ _⟩

theorem idx_digs (s : ByteArray) : ∀ (f pos : Nat), s.size ≤ pos + f → decide (0 ≤ Lib.idxFuncFrom notDigit true s f pos) = !(Im.digs (s.data.toList.drop pos))
  | 0, pos, h => by
    rw [List.drop_eq_nil_of_le (by have := Lib.size_eq s; omega)]; rfl
  | f + 1, pos, h => by
    unfold Lib.idxFuncFrom
    by_cases hp : pos < s.size
    · rw [if_pos hp]
      have hl : pos < s.data.toList.length := by have := Lib.size_eq s; omega
      have hd : s.data.toList.drop pos = (s[pos]'hp) :: s.data.toList.drop (pos + 1) := by
        rw [List.drop_eq_getElem_cons hl]; rfl
      rw [hd]
      have hc : Im.digs ((s[pos]'hp) :: s.data.toList.drop (pos + 1)) = ((decide (48 ≤ (s[pos]'hp).toNat) && decide ((s[pos]'hp).toNat ≤ 57)) && Im.digs (s.data.toList.drop (pos + 1))) := rfl
      rw [hc]
      by_cases ha : (s[pos]'hp).toNat < 128
      · rw [decode_ascii s pos hp ha]
        dsimp only
        by_cases hn : notDigit (s[pos]'hp).toNat = true
        · rw [if_pos hn, decide_eq_true (by omega)]
          have : (decide (48 ≤ (s[pos]'hp).toNat) && decide ((s[pos]'hp).toNat ≤ 57)) = false := by
            unfold notDigit at hn
            simp only [Bool.or_eq_true, decide_eq_true_eq] at hn
            simp only [Bool.and_eq_false_iff, decide_eq_false_iff_not]; omega
          rw [this]; rfl
        · rw [if_neg hn, idx_digs s f (pos + 1) (by omega)]
          have : (decide (48 ≤ (s[pos]'hp).toNat) && decide ((s[pos]'hp).toNat ≤ 57)) = true := by
            unfold notDigit at hn
            simp only [Bool.or_eq_true, decide_eq_true_eq] at hn
            simp only [Bool.and_eq_true, decide_eq_true_eq]; omega
          rw [this, Bool.true_and]
      · have hh := decode_high s pos hp (by omega)
        have hn : notDigit (Utf8.decode s pos).1 = true := by
          unfold notDigit
          simp only [Bool.or_eq_true, decide_eq_true_eq]; omega
        rw [if_pos hn, decide_eq_true (by omega)]
        have : (decide (48 ≤ (s[pos]'hp).toNat) && decide ((s[pos]'hp).toNat ≤ 57)) = false := by
          simp only [Bool.and_eq_false_iff, decide_eq_false_iff_not]; omega
        rw [this]; rfl
    · rw [if_neg hp, List.drop_eq_nil_of_le (by have := Lib.size_eq s; omega)]; rfl
theorem trim_strip (s : List UInt8) : Lib.trimPrefix s [45] = Im.strip s := by
  unfold Lib.trimPrefix Lib.hasPrefix Im.strip
  cases s with
  | nil => rfl
  | cons c r =>
    by_cases h : c = 45
    · subst h; simp
    · simp [h, Ne.symm h]

theorem trimP_any (l : List UInt8) (w : World) : Calls Tryz.prog 125 #[strOf l, .string ⟨#[45]⟩] w fun e w' => e = .returned (strOf (Im.strip l)) ∧ w = w' := by
  refine (Tryz.strings_TrimPrefix (bs l) ⟨#[45]⟩ w).mono ?_
  rintro e w' ⟨rfl, rfl⟩
  refine ⟨?_, rfl⟩
  rw [bs_list, show (⟨#[45]⟩ : ByteArray).data.toList = [45] from rfl, trim_strip]; rfl
theorem cont_any (l : List UInt8) (w : World) : Calls Tryz.prog 143 #[strOf l, .func (.func 144) #[] #[]] w fun e w' => e = .returned (.bool (!(Im.digs l))) ∧ Below w.heap.size w w' := by
  refine (Tryz.strings_ContainsFunc_grows 144 #[] (enters_of Tryz.func144 (by kernel_rfl) rfl) notDigit (bs l) w ?_).mono ?_
  · intro W x hx _
    exact valid1_any x hx W
  · rintro e w' ⟨rfl, hb⟩
    refine ⟨?_, hb⟩
    have := idx_digs (bs l) (bs l).size 0 (by omega)
    rw [List.drop_zero, bs_list] at this
    rw [← this]; rfl
theorem bs_eqb (a b : List UInt8) : ((bs a).toList == (bs b).toList) = (a == b) := by
  rw [show (bs a).toList = a from by rw [ByteArray.toList_eq, bs_list], show (bs b).toList = b from by rw [ByteArray.toList_eq, bs_list]]
set_option maxRecDepth 100000 in
set_option maxHeartbeats 1000000 in
theorem valid_any (l : List UInt8) (w : World) : Calls Tryz.prog 119 #[strOf l] w fun e w' => e = .returned (.bool (Im.vld l)) ∧ Below w.heap.size w w' := by
  have hT := trimP_any l
  have hC := cont_any (Im.strip l)
  have hv : Im.vld l = match Im.strip l with
    | [] => false
    | c :: r => decide ((c :: r).length ≤ 200) && (if c = 48 then l == [48] else Im.digs (c :: r)) := rfl
  have hq : ((bs l).toList == [48]) = (l == [48]) := by rw [show (bs l).toList = l from by rw [ByteArray.toList_eq, bs_list]]
  obtain ⟨d, hd⟩ : ∃ d, Im.strip l = d := ⟨_, rfl⟩
  rw [hd] at hT hC hv
  obtain ⟨L, hL⟩ : ∃ L, bs l = L := ⟨_, rfl⟩
  obtain ⟨D, hD⟩ : ∃ D, bs d = D := ⟨_, rfl⟩
  have hDs : D.size = d.length := by rw [← hD, bs_size]
  obtain ⟨b, hb⟩ : ∃ b, Im.vld l = b := ⟨_, rfl⟩
  obtain ⟨q, hqq⟩ : ∃ b, (l == [48]) = b := ⟨_, rfl⟩
  unfold strOf at hT hC ⊢
  rw [hL] at hT ⊢; rw [hD] at hT hC; rw [hL, hqq] at hq; rw [hb] at hv ⊢
  have HT := Lib.hid hT; have HC := Lib.hid hC
  cases d with
  | nil =>
    replace hv : b = false := hv
    subst hv
    replace hDs : D.size = 0 := hDs
    clear hT hC hL hD hb hqq hd hq
    go_enter Tryz.func119, Tryz.ntmps119
    go_wp2_with (go_at_call 125; refine (HT.out _).mono ?_; rintro e w1 ⟨rfl, rfl⟩)
    go_ret
    exact ⟨rfl, Below.refl _ _⟩
  | cons c r =>
    replace hv : b = (decide ((c :: r).length ≤ 200) && (if c = 48 then l == [48] else Im.digs (c :: r))) := hv
    obtain ⟨m, hm⟩ : ∃ m, (c :: r).length = m := ⟨_, rfl⟩
    have hm1 : 1 ≤ m := by rw [← hm]; simp
    rw [hm] at hDs hv
    have t1 : ((m : Int) == 0) = false := by rw [beq_eq_false_iff_ne]; omega
    have hi : ∀ w, (Instr.index 9 (.string D) (.int .i64 0)).run Tryz.prog w = .ok (.int .u8 (c.toNat : Int)) w := fun w => by
      rw [run_index_string w 9 D .i64 0 Tryz.underlying9, dif_pos ⟨by decide, by omega⟩]
      have e : (D[(0 : Int).toNat]'(by show 0 < D.size; omega)) = c := by subst hD; rfl
      rw [e]
    by_cases h2 : m ≤ 200
    · have t2 : decide ((200 : Int) < (m : Int)) = false := decide_eq_false (by omega)
      rw [decide_eq_true h2, Bool.true_and] at hv
      by_cases h3 : c = 48
      · subst h3
        have t3 : (((48 : UInt8).toNat : Int) == 48) = true := rfl
        rw [if_pos rfl, hqq] at hv
        subst hv
        clear hT hC hL hD hb hqq hd hm h2
        go_enter Tryz.func119, Tryz.ntmps119
        go_wp2_with (go_at_call 125; refine (HT.out _).mono ?_; rintro e w1 ⟨rfl, rfl⟩)
        go_ret
        exact ⟨rfl, Below.refl _ _⟩
      · have t3 : ((c.toNat : Int) == 48) = false := by
          rw [beq_eq_false_iff_ne]; intro e
          exact h3 (UInt8.toNat_inj.1 (by have : (48 : UInt8).toNat = 48 := rfl; omega))
        rw [if_neg h3] at hv
        obtain ⟨g, hg⟩ : ∃ g, Im.digs (c :: r) = g := ⟨_, rfl⟩
        rw [hg] at HC hv
        subst hv
        clear hT hC hL hD hb hqq hd hm h2 hg
        cases b
        all_goals
          go_enter Tryz.func119, Tryz.ntmps119
          go_wp2_with (first | (go_at_call 125; refine (HT.out _).mono ?_; rintro e w1 ⟨rfl, rfl⟩) | (go_at_call 143; refine (HC.out _).mono ?_; rintro e w1 ⟨rfl, hb⟩))
          go_ret
          exact ⟨rfl, hb⟩
    · have t2 : decide ((200 : Int) < (m : Int)) = true := decide_eq_true (by omega)
      rw [decide_eq_false h2, Bool.false_and] at hv
      subst hv
      clear hT hC hL hD hb hqq hd hm hq h2
      go_enter Tryz.func119, Tryz.ntmps119
      go_wp2_with (go_at_call 125; refine (HT.out _).mono ?_; rintro e w1 ⟨rfl, rfl⟩)
      go_ret
      exact ⟨rfl, Below.refl _ _⟩
end Go.Proofs.YtabkodpjhpjgnaaGreatDoor

namespace Go.Proofs.YtabkodpjhpjgnaaGreatDoor
open Go.RowKit Go.Shelf

/-- The text of an integer, if it is not too large, and the error. -/
def okz (z : Int) : Bool := decide (z.natAbs < 10 ^ 200)
def outT (z : Int) : List UInt8 := if okz z = true then Lib.itoa z else []
def errT (z : Int) : Int := if okz z = true then 0 else 30
theorem neg_itoa {z : Int} (h : z < 0) : Lib.itoa z = 45 :: Lib.decDigits z.natAbs := by unfold Lib.itoa; rw [if_pos h]
theorem pos_itoa {z : Int} (h : ¬ z < 0) : Lib.itoa z = Lib.decDigits z.natAbs := by unfold Lib.itoa; rw [if_neg h, show z.toNat = z.natAbs by omega]
theorem valid_itoa (z : Int) (w : World) : Calls Tryz.prog 119 #[strOf (Lib.itoa z)] w fun e w' => e = .returned (.bool (okz z)) ∧ Below w.heap.size w w' := by
  have h := valid_any (Lib.itoa z) w
  rw [Im.vld_itoa] at h; exact h

set_option maxRecDepth 100000 in
set_option maxHeartbeats 1000000 in
theorem text_any (x : Value) (z : Int) (w : World) (hx : Num w x z) (ht : TabP w) (hl : (Im.grp z.natAbs).length ≤ 400) :
    Calls Tryz.prog 98 #[x] w fun e w' => e = .returned (.tuple #[strOf (outT z), .int .i64 (errT z)]) ∧ Below w.heap.size w w' := by
  obtain ⟨b, A, n, c, rfl, hb, hv⟩ := hx.parts
  obtain ⟨W, hW⟩ : ∃ W, w.alloc (.cells #[.bool b, .slice A n c] 99) = W := ⟨_, rfl⟩
  have hbw : Below w.heap.size w W := by rw [← hW]; exact (Below.refl _ _).alloc (Nat.le_refl _) _
  have hr : Row W w.heap.size 99 #[.bool b, .slice A n c] := by rw [← hW]; exact Row.new w _ _
  have hd := digits_any (.slice A n c) z.natAbs W (hv.next hbw) (ht.next hbw) hl
  have hva := fun u => valid_itoa z u
  obtain ⟨o, ho⟩ : ∃ o, strOf (outT z) = .string o := ⟨_, rfl⟩
  obtain ⟨er, her⟩ : ∃ er, errT z = er := ⟨_, rfl⟩
  have ho' : bs (outT z) = o := by injection ho
  unfold outT at ho'; unfold errT at her
  rw [ho, show errT z = er from her]
  obtain ⟨k, hk⟩ : ∃ k, okz z = k := ⟨_, rfl⟩
  rw [hk] at hva ho' her
  have HD := Lib.hid hd; have HW := Lib.hid hW; have HB := Lib.hid hbw; have HR := Lib.hid hr
  cases b with
  | true =>
    have hz : z < 0 := of_decide_eq_true hb.symm
    have hcat : (⟨#[45]⟩ : ByteArray) ++ bs (Lib.decDigits z.natAbs) = bs (Lib.itoa z) := by
      rw [neg_itoa hz, show (⟨#[45]⟩ : ByteArray) = bs [45] from rfl, bs_append]; rfl
    have hts : (bs (Lib.decDigits z.natAbs)).size ≤ 1600 := by
      rw [bs_size]; have := dd_short z.natAbs z.natAbs (Nat.le_refl _) (by omega); omega
    unfold strOf at HD hva
    cases k
    · rw [if_neg (by decide)] at ho' her
      subst her; subst ho'
      have HC := Lib.hid hcat; have HVA := Lib.hid hva
      generalize bs (Lib.itoa z) = S at *
      generalize bs (Lib.decDigits z.natAbs) = T at *
      have hts1 : ¬ ((⟨#[45]⟩ : ByteArray).size + T.size > 9223372036854775807) := by show ¬ (1 + T.size > _); omega
      have hts2 : ¬ (9223372036854775807 < 1 + T.size) := by omega
      clear hd hva hW hbw hr hcat hb hz hk hl hv hx ho
      go_enter Tryz.func98, Tryz.ntmps98
      go_wp2_with (first | (go_at_call 118; rw [HW.out]; refine HD.out.mono ?_; rintro e w1 ⟨rfl, hb1⟩; obtain ⟨k0, k1, f0, f1⟩ := box_facts (HR.out.below hb1 HR.out.lt); have HB1 := Lib.hid hb1; clear hb1) | (go_at_call 119; rw [HC.out]; refine (HVA.out _).mono ?_; rintro e w2 ⟨rfl, hb2⟩; have HB2 := Lib.hid hb2; clear hb2))
      go_ret2
      exact ⟨rfl, HB.out.trans ((below_to HB1.out HB2.out).mono HB.out.size)⟩
    · rw [if_pos rfl] at ho' her
      subst her; subst ho'
      have HC := Lib.hid hcat; have HVA := Lib.hid hva
      generalize bs (Lib.itoa z) = S at *
      generalize bs (Lib.decDigits z.natAbs) = T at *
      have hts1 : ¬ ((⟨#[45]⟩ : ByteArray).size + T.size > 9223372036854775807) := by show ¬ (1 + T.size > _); omega
      have hts2 : ¬ (9223372036854775807 < 1 + T.size) := by omega
      clear hd hva hW hbw hr hcat hb hz hk hl hv hx ho
      go_enter Tryz.func98, Tryz.ntmps98
      go_wp2_with (first | (go_at_call 118; rw [HW.out]; refine HD.out.mono ?_; rintro e w1 ⟨rfl, hb1⟩; obtain ⟨k0, k1, f0, f1⟩ := box_facts (HR.out.below hb1 HR.out.lt); have HB1 := Lib.hid hb1; clear hb1) | (go_at_call 119; rw [HC.out]; refine (HVA.out _).mono ?_; rintro e w2 ⟨rfl, hb2⟩; have HB2 := Lib.hid hb2; clear hb2))
      go_ret2
      exact ⟨by rw [← HC.out]; rfl, HB.out.trans ((below_to HB1.out HB2.out).mono HB.out.size)⟩
  | false =>
    have hz : ¬ z < 0 := of_decide_eq_false hb.symm
    have hcat : bs (Lib.decDigits z.natAbs) = bs (Lib.itoa z) := by rw [pos_itoa hz]
    unfold strOf at HD hva
    rw [hcat] at HD
    cases k
    · rw [if_neg (by decide)] at ho' her
      subst her; subst ho'
      have HVA := Lib.hid hva
      generalize bs (Lib.itoa z) = S at *
      clear hd hva hW hbw hr hcat hb hz hk hl hv hx ho
      go_enter Tryz.func98, Tryz.ntmps98
      go_wp2_with (first | (go_at_call 118; rw [HW.out]; refine HD.out.mono ?_; rintro e w1 ⟨rfl, hb1⟩; obtain ⟨k0, k1, f0, f1⟩ := box_facts (HR.out.below hb1 HR.out.lt); have HB1 := Lib.hid hb1; clear hb1) | (go_at_call 119; refine (HVA.out _).mono ?_; rintro e w2 ⟨rfl, hb2⟩; have HB2 := Lib.hid hb2; clear hb2))
      go_ret2
      exact ⟨rfl, HB.out.trans ((below_to HB1.out HB2.out).mono HB.out.size)⟩
    · rw [if_pos rfl] at ho' her
      subst her; subst ho'
      have HVA := Lib.hid hva
      generalize bs (Lib.itoa z) = S at *
      clear hd hva hW hbw hr hcat hb hz hk hl hv hx ho
      go_enter Tryz.func98, Tryz.ntmps98
      go_wp2_with (first | (go_at_call 118; rw [HW.out]; refine HD.out.mono ?_; rintro e w1 ⟨rfl, hb1⟩; obtain ⟨k0, k1, f0, f1⟩ := box_facts (HR.out.below hb1 HR.out.lt); have HB1 := Lib.hid hb1; clear hb1) | (go_at_call 119; refine (HVA.out _).mono ?_; rintro e w2 ⟨rfl, hb2⟩; have HB2 := Lib.hid hb2; clear hb2))
      go_ret2
      exact ⟨rfl, HB.out.trans ((below_to HB1.out HB2.out).mono HB.out.size)⟩

theorem results_num_tmp {fn : Func} {p u : Tmp} (h : fn.results = #[.cell p 99, .tmp u]) (tmps : Array Value) (w : World) (g : Nat) (b v : Value) (hp : tmps.getD p undef = .pointer (some ⟨g, 0, none⟩)) (hg : Row w g 99 #[b, v]) :
    (results fn tmps).run Tryz.prog w = .ok (.tuple #[.agg #[b, v], tmps.getD u undef]) w := by
  have hp' : tmps[p]?.getD undef = .pointer (some ⟨g, 0, none⟩) := by simpa using hp
  have e1 := run_loadVar_row (P := Tryz.prog) w g 99 99 #[b, v] (0, 0) _ hg Tryz.underlying99 rfl (by kernel_rfl)
  simp [results, h, hp', asAddr, e1]

/-- What parse returns: whether the string is valid, and the number if it is. -/
def ParsePost (l : List UInt8) (w : World) (e : Ending) (w' : World) : Prop :=
  ∃ f A n c, e = .returned (.tuple #[.agg #[.bool f, .slice A n c], .bool (Im.vld l)]) ∧ (∀ z, l = Lib.itoa z → Im.vld l = true → Num w' (.agg #[.bool f, .slice A n c]) z) ∧ Below w.heap.size w w'

set_option maxRecDepth 100000 in
set_option maxHeartbeats 1000000 in
theorem parse_any (l : List UInt8) (w : World) : Calls Tryz.prog 107 #[strOf l] w (ParsePost l w) := by
  obtain ⟨W, hW⟩ : ∃ W, w.alloc (.cells #[.bool false, .slice none 0 0] 99) = W := ⟨_, rfl⟩
  have hbw : Below w.heap.size w W := by rw [← hW]; exact (Below.refl _ _).alloc (Nat.le_refl _) _
  have hr : Row W w.heap.size 99 #[.bool false, .slice none 0 0] := by rw [← hW]; exact Row.new w _ _
  have HV := Lib.hid (valid_any l W)
  obtain ⟨k, hk⟩ : ∃ k, Im.vld l = k := ⟨_, rfl⟩
  unfold ParsePost
  rw [hk] at HV ⊢
  have HW := Lib.hid hW; have HB := Lib.hid hbw; have HR := Lib.hid hr
  cases k with
  | false =>
    clear hW hbw hr hk
    go_enter Tryz.func107, Tryz.ntmps107
    go_wp2_with (go_at_call 119; rw [HW.out]; refine HV.out.mono ?_; rintro e w1 ⟨rfl, hb1⟩; have hr1 := HR.out.below hb1 HR.out.lt; obtain ⟨k0, k1, f0, f1⟩ := box_facts hr1; have HR1 := Lib.hid hr1; have HB1 := Lib.hid hb1; clear hb1 hr1)
    refine bodyPost_ret (results_num_tmp rfl _ _ w.heap.size _ _ rfl (box_row HR1.out)) rfl ?_
    exact ⟨_, _, _, _, rfl, fun z _ h => (by cases h), ((HB.out.trans (HB1.out.mono HB.out.size)).setCell (by dsimp only; omega) _).setCell (by dsimp only; omega) _⟩
  | true =>
    obtain ⟨z, rfl, hz⟩ := Im.vld_of l hk
    have hst : Im.strip (Lib.itoa z) = Lib.decDigits z.natAbs := by
      by_cases hn : z < 0
      · rw [neg_itoa hn]; rfl
      · rw [pos_itoa hn, Im.strip_dd]
    have hT := trimP_any (Lib.itoa z)
    rw [hst] at hT
    have hdl : (Lib.decDigits z.natAbs).length ≤ 200 := (Im.dd_len _ 200 (by decide)).2 hz
    have hM := fun u => magOf_any (Lib.decDigits z.natAbs) u (Im.dd_digs _) hdl
    rw [Im.dd_dv] at hM
    have hlt : decide ((bs (Lib.decDigits z.natAbs)).size < (bs (Lib.itoa z)).size) = decide (z < 0) := by
      rw [bs_size, bs_size]
      by_cases hn : z < 0
      · rw [neg_itoa hn, decide_eq_true hn, decide_eq_true (by simp)]
      · rw [pos_itoa hn, decide_eq_false hn, decide_eq_false (by omega)]
    obtain ⟨b, hb⟩ : ∃ b, decide (z < 0) = b := ⟨_, rfl⟩
    rw [hb] at hlt
    have hsg := fun v u (hv : Mag u v z.natAbs) => signed_any b v _ u hv
    have hif : (if b = true then -(z.natAbs : Int) else (z.natAbs : Int)) = z := by
      by_cases hn : z < 0
      · rw [decide_eq_true hn] at hb; subst hb; rw [if_pos rfl]; omega
      · rw [decide_eq_false hn] at hb; subst hb; rw [if_neg (by decide)]; omega
    rw [hif] at hsg
    unfold strOf at HV hT ⊢
    have hinj : ∀ z', Lib.itoa z = Lib.itoa z' → z = z' := fun z' h => Im.itoa_inj h
    generalize Lib.itoa z = li at *
    generalize bs li = S at *
    generalize bs (Lib.decDigits z.natAbs) = D at *
    have HT := Lib.hid hT; have HM := Lib.hid hM; have HSG := Lib.hid hsg; have HINJ := Lib.hid hinj
    clear hW hbw hr hk hz hst hT hdl hM hb hsg hif hinj
    go_enter Tryz.func107, Tryz.ntmps107
    go_wp2_with (first | (go_at_call 119; rw [HW.out]; refine HV.out.mono ?_; rintro e w1 ⟨rfl, hb1⟩; have HR1 := Lib.hid (HR.out.below hb1 HR.out.lt); have HB1 := Lib.hid (HB.out.trans (hb1.mono HB.out.size)); clear hb1) | (go_at_call 125; refine (HT.out _).mono ?_; rintro e w2 ⟨rfl, rfl⟩) | (go_at_call 126; refine (HM.out _).mono ?_; unfold MagPost; rintro e w3 ⟨v, rfl, hm, hb3⟩; have HM3 := Lib.hid hm; have HR3 := Lib.hid (HR1.out.below hb3 HR1.out.lt); have HB3 := Lib.hid (HB1.out.trans (hb3.mono HB1.out.size)); clear hm hb3) | (go_at_call 105; refine (HSG.out _ _ HM3.out).mono ?_; unfold NumPost; rintro e w4 ⟨y, rfl, hn, hb4⟩; obtain ⟨b4, A4, n4, c4, rfl, hbe, hm⟩ := hn.parts; have hr4 := HR3.out.below hb4 HR3.out.lt; obtain ⟨k0, k1, f0, f1⟩ := box_facts hr4; have HR4 := Lib.hid hr4; have HB4 := Lib.hid (HB3.out.trans (hb4.mono HB3.out.size)); have HBE := Lib.hid hbe; have HM4 := Lib.hid hm; clear hn hm hb4 hbe hr4))
    refine bodyPost_ret (results_num_tmp rfl _ _ w.heap.size _ _ rfl (box_row HR4.out)) rfl ?_
    refine ⟨_, _, _, _, rfl, fun z' h _ => ?_, (HB4.out.setCell (by dsimp only; omega) _).setCell (by dsimp only; omega) _⟩
    have := HINJ.out z' h
    subst this
    exact num_of HBE.out rfl (mag_box HM4.out HR4.out)
end Go.Proofs.YtabkodpjhpjgnaaGreatDoor

namespace Go.Proofs.YtabkodpjhpjgnaaGreatDoor
open Go.RowKit Go.Shelf

theorem results_nums_tmp {fn : Func} {p q t : Tmp} (h : fn.results = #[.cell p 99, .cell q 99, .tmp t]) (tmps : Array Value) (w : World) (g k : Nat) (b v c u : Value) (hp : tmps.getD p undef = .pointer (some ⟨g, 0, none⟩)) (hq : tmps.getD q undef = .pointer (some ⟨k, 0, none⟩)) (hg : Row w g 99 #[b, v]) (hk : Row w k 99 #[c, u]) :
    (results fn tmps).run Tryz.prog w = .ok (.tuple #[.agg #[b, v], .agg #[c, u], tmps.getD t undef]) w := by
  have hp' : tmps[p]?.getD undef = .pointer (some ⟨g, 0, none⟩) := by simpa using hp
  have hq' : tmps[q]?.getD undef = .pointer (some ⟨k, 0, none⟩) := by simpa using hq
  have e1 := run_loadVar_row (P := Tryz.prog) w g 99 99 #[b, v] (0, 0) _ hg Tryz.underlying99 rfl (by kernel_rfl)
  have e2 := run_loadVar_row (P := Tryz.prog) w k 99 99 #[c, u] (0, 0) _ hk Tryz.underlying99 rfl (by kernel_rfl)
  simp [results, h, hp', hq', asAddr, e1, e2]

def BothPost (l r : List UInt8) (w : World) (e : Ending) (w' : World) : Prop :=
  ∃ f A n c g B m d, e = .returned (.tuple #[.agg #[.bool f, .slice A n c], .agg #[.bool g, .slice B m d], .bool (Im.vld l && Im.vld r)]) ∧
    (∀ z, l = Lib.itoa z → Im.vld l = true → Num w' (.agg #[.bool f, .slice A n c]) z) ∧ (∀ z, r = Lib.itoa z → Im.vld r = true → Num w' (.agg #[.bool g, .slice B m d]) z) ∧ Below w.heap.size w w'

/-- Two result boxes at the base, then two boxes of numbers. -/
theorem both_fin {w W : World} {f g : Bool} {A B : Option Addr} {n c m d : Nat} (r0 : Row W w.heap.size 99 #[.bool false, .slice none 0 0]) (r1 : Row W (w.heap.size + 1) 99 #[.bool false, .slice none 0 0]) (hb : Below w.heap.size w W) :
    ∃ U, U = ((((W.setCell ⟨w.heap.size, 0, none⟩ (.bool f)).setCell ⟨w.heap.size, 1, none⟩ (.slice A n c)).setCell ⟨w.heap.size + 1, 0, none⟩ (.bool g)).setCell ⟨w.heap.size + 1, 1, none⟩ (.slice B m d)) ∧ Row U w.heap.size 99 #[.bool f, .slice A n c] ∧ Row U (w.heap.size + 1) 99 #[.bool g, .slice B m d] ∧ (∀ v k, Mag W v k → Mag U v k) ∧ Below w.heap.size w U := by
  refine ⟨_, rfl, ?_⟩
  have k2 := box_row (b' := f) (A' := A) (n' := n) (c' := c) r0
  have k3 := (r1.far (p := ⟨w.heap.size, 0, none⟩) (by dsimp only; omega) (.bool f)).far (p := ⟨w.heap.size, 1, none⟩) (by dsimp only; omega) (.slice A n c)
  refine ⟨(k2.far (p := ⟨w.heap.size + 1, 0, none⟩) (by dsimp only; omega) _).far (p := ⟨w.heap.size + 1, 1, none⟩) (by dsimp only; omega) _, box_row k3, fun v k hm => mag_box (mag_box hm r0) k3, ?_⟩
  exact (((hb.setCell (by dsimp only; omega) _).setCell (by dsimp only; omega) _).setCell (by dsimp only; omega) _).setCell (by dsimp only; omega) _
theorem num_any {W U : World} {f : Bool} {A : Option Addr} {n c : Nat} {z : Int} (h : Num W (.agg #[.bool f, .slice A n c]) z) (hU : ∀ v k, Mag W v k → Mag U v k) : Num U (.agg #[.bool f, .slice A n c]) z := by
  obtain ⟨b, X, m, d, e, hb, hm⟩ := h.parts
  obtain ⟨rfl, rfl, rfl, rfl⟩ : f = b ∧ A = X ∧ n = m ∧ c = d := by simpa using e
  exact num_of hb rfl (hU _ _ hm)

set_option maxRecDepth 100000 in
set_option maxHeartbeats 1000000 in
theorem both_any (l r : List UInt8) (w : World) : Calls Tryz.prog 85 #[strOf l, strOf r] w (BothPost l r w) := by
  obtain ⟨W, hW⟩ : ∃ W, (w.alloc (.cells #[.bool false, .slice none 0 0] 99)).alloc (.cells #[.bool false, .slice none 0 0] 99) = W := ⟨_, rfl⟩
  have hbw : Below w.heap.size w W := by rw [← hW]; exact ((Below.refl _ w).alloc (Nat.le_refl _) _).alloc (by simp) _
  have r0 : Row W w.heap.size 99 #[.bool false, .slice none 0 0] := by rw [← hW]; exact (Row.new w _ _).alloc _
  have r1 : Row W (w.heap.size + 1) 99 #[.bool false, .slice none 0 0] := by
    rw [← hW]
    have := Row.new (w.alloc (.cells #[.bool false, .slice none 0 0] 99)) 99 #[.bool false, .slice none 0 0]
    rw [World.size_alloc] at this; exact this
  have hp1 := parse_any l W
  have hp2 := fun u => parse_any r u
  unfold BothPost
  unfold ParsePost at hp1 hp2
  obtain ⟨p, hp⟩ : ∃ p, Im.vld l = p := ⟨_, rfl⟩
  obtain ⟨q, hq⟩ : ∃ p, Im.vld r = p := ⟨_, rfl⟩
  rw [hp] at hp1; rw [hq] at hp2; rw [hp, hq]
  unfold strOf at hp1 hp2 ⊢
  have HP1 := Lib.hid hp1; have HP2 := Lib.hid hp2; have HW := Lib.hid hW; have HB := Lib.hid hbw; have R0 := Lib.hid r0; have R1 := Lib.hid r1
  clear hp1 hp2 hW hbw r0 r1 hp hq
  cases p <;> cases q
  all_goals
    go_enter Tryz.func85, Tryz.ntmps85
    go_wp2_with (first | (go_at_call 107; rw [HW.out]; (with_reducible refine Calls.mono HP1.out ?_); rintro e w1 ⟨f, A, n, c, rfl, hn, hb⟩; have HN1 := Lib.hid hn; have HB1 := Lib.hid hb; clear hn hb) | (go_at_call 107; (with_reducible refine Calls.mono (HP2.out _) ?_); rintro e w2 ⟨g, B, m, d, rfl, hn, hb⟩; have HN2 := Lib.hid hn; have HB2 := Lib.hid hb; clear hn hb))
    obtain ⟨V, hV⟩ : ∃ V, w1.alloc (.cells #[.bool f, .slice A n c] 99) = V := ⟨_, rfl⟩
    have hbV : Below w1.heap.size w1 V := by rw [← hV]; exact (Below.refl _ _).alloc (Nat.le_refl _) _
    have rV : Row V w1.heap.size 99 #[.bool f, .slice A n c] := by rw [← hV]; exact Row.new w1 _ _
    have hb2 := HB2.out
    rw [hV] at hb2
    obtain ⟨X, hX⟩ : ∃ X, w2.alloc (.cells #[.bool g, .slice B m d] 99) = X := ⟨_, rfl⟩
    have hbX : Below w2.heap.size w2 X := by rw [← hX]; exact (Below.refl _ _).alloc (Nat.le_refl _) _
    have rX : Row X w2.heap.size 99 #[.bool g, .slice B m d] := by rw [← hX]; exact Row.new w2 _ _
    have hvx := below_to hb2 hbX
    have h1x := below_to hbV hvx
    have rA := rV.below hvx rV.lt
    have hwx := below_to HB1.out h1x
    have q0 := R0.out.below hwx R0.out.lt
    have q1 := R1.out.below hwx R1.out.lt
    rw [hX]
    obtain ⟨k0, k1, f0, f1⟩ := box_facts rA
    obtain ⟨k2, k3, f2, f3⟩ := box_facts rX
    obtain ⟨k4, k5, f4, f5⟩ := box_facts q0
    obtain ⟨k6, k7, f6, f7⟩ := box_facts q1
    have HF := Lib.hid (both_fin (f := f) (g := g) (A := A) (B := B) (n := n) (c := c) (m := m) (d := d) q0 q1 (HB.out.trans (hwx.mono HB.out.size)))
    have HNX1 := Lib.hid (fun z h1 h2 => (HN1.out z h1 h2).next h1x)
    have HNX2 := Lib.hid (fun z h1 h2 => (HN2.out z h1 h2).next hbX)
    have hz1 : w.heap.size + 2 ≤ w1.heap.size := by
      have h1 := HB1.out.size
      have h2 : W.heap.size = w.heap.size + 2 := by rw [← HW.out, World.size_alloc, World.size_alloc]
      omega
    have hz2 : w1.heap.size + 1 ≤ w2.heap.size := by
      have h1 := hb2.size
      have h2 : V.heap.size = w1.heap.size + 1 := by rw [← hV, World.size_alloc]
      omega
    have n1 : ¬ (w1.heap.size = w.heap.size) := by omega
    have n2 : ¬ (w1.heap.size = w.heap.size + 1) := by omega
    have n3 : ¬ (w2.heap.size = w.heap.size) := by omega
    have n4 : ¬ (w2.heap.size = w.heap.size + 1) := by omega
    have m1 : ¬ (w.heap.size = w1.heap.size) := by omega
    have m2 : ¬ (w.heap.size + 1 = w1.heap.size) := by omega
    have m3 : ¬ (w.heap.size = w2.heap.size) := by omega
    have m4 : ¬ (w.heap.size + 1 = w2.heap.size) := by omega
    clear hz1 hz2 hV hbV rV hb2 hX hbX hvx h1x rA hwx q0 q1 HB1 HB2 HN1 HN2 HP1 HP2 HW HB R0 R1
    go_region
    all_goals
      go_wp2
      obtain ⟨U, hU, s0, s1, hm, hbu⟩ := HF.out
      rw [← hU]
      refine bodyPost_ret (results_nums_tmp rfl _ _ w.heap.size (w.heap.size + 1) _ _ _ _ rfl rfl s0.drew s1.drew) rfl ?_
      exact ⟨_, _, _, _, _, _, _, _, rfl, fun z h1 h2 => (num_any (HNX1.out z h1 h2) hm).next (Below.refl _ _).drew, fun z h1 h2 => (num_any (HNX2.out z h1 h2) hm).next (Below.refl _ _).drew, hbu.drew⟩
end Go.Proofs.YtabkodpjhpjgnaaGreatDoor
