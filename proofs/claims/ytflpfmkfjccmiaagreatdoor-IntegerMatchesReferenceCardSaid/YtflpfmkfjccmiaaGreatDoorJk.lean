/- The law rangeFunc_n with what lies in the loop's own blocks given to the body; the table of powers; strings cut at one byte. -/
import Derived.Test.YtflpfmkfjccmiaaGreatDoorJh
import Derived.Test.YtflpfmkfjccmiaaGreatDoorShelf
import Derived.Test.YtflpfmkfjccmiaaGreatDoorIt
import Derived.Lib.SmallJoins
import Derived.Lib.AppendIntMem
namespace Go.Proofs.YtflpfmkfjccmiaaGreatDoor
open Go.RowKit Go.Shelf
variable {F : Fence} {n : Nat} {P : Program}

theorem rangeFunc_m {g : Operand} {ps : Array Tmp} {assign body : Code} {Q : Exit → Act → World → Prop} {a : Act} {w : World}
    (hro : F.round = none) (h1 : 1 ≤ n) {gf : Nat} {lb : Array Value} (hg : a.eval g = .func (.func gf) #[] lb) (hFg : F.fn gf) (eg : ∀ args w, (callFunc gf args).run P w = .ok (.enter gf args) w)
    {encs : Nat → Array Value} {no : World → Nat → Prop} {fix : Nat → Prop} {N : Nat} (hseq : GivesN F (n - 1) P gf lb encs (fun X k => no X k ∨ k = w.heap.size ∨ k = w.heap.size + 1) fix N w)
    (hps : ∀ x, (encs x).size = ps.size) (hfix : ∀ k, fix k → k < w.heap.size)
    (I : Nat → World → Prop) (hno : ∀ pre X Y k, I pre X → Below X.heap.size X Y → no Y k → no X k ∧ k < X.heap.size ∧ ¬ fix k ∧ k ≠ w.heap.size ∧ k ≠ w.heap.size + 1) (hnp : ∀ pre X o k, I pre X → no (X.putObj (w.heap.size + 1) o) k → no X k)
    (Ix : Code → Nat → World → Prop) (hIx : ∀ c pre X r o, r = w.heap.size + 1 → (∃ L, X.heap[r]? = some (.loop L)) → Ix c pre X → Ix c pre (X.putObj r o)) (hI : ∀ pre X Y, I pre X → Below X.heap.size X Y → I pre Y) (hIp : ∀ pre X r o, r = w.heap.size + 1 → (∃ L, X.heap[r]? = some (.loop L)) → I pre X → I pre (X.putObj r o)) (h0 : I 0 w) (Ax : Nat → Act → World → Prop)
    (hAx : ∀ x a' W r o, w.heap.size ≤ r → r < w.heap.size + 2 → Ax x a' W → Ax x a' (W.putObj r o))
    (hassign : ∀ (l : Nat) (k : Nat) (W : World) (K : Act → World → Prop), k < N → w.heap.size + 2 ≤ W.heap.size → I k W → (∀ a' W', Below W.heap.size W W' → Ax k a' W' → K a' W') →
      assign.wpIn (F.inRound l) (n - 1 - 1) P (Exit.then K (fun _ _ _ => False)) { tmps := (ps.zip (encs k)).foldl (fun t (p, v) => t.setIfInBounds p v) a.tmps, defers := [] } W)
    (hbody : ∀ (l : Nat) (k : Nat) (a' : Act) (W : World), k < N → w.heap.size + 2 ≤ W.heap.size → (∃ L, W.heap[w.heap.size + 1]? = some (.loop L)) → (∃ d, W.heap[w.heap.size]? = some (.deferred d)) → I k W → Ax k a' W → body.wpIn (F.inRound l) (n - 1 - 1) P (goesN I Ix no k W) a' W)
    (hdone : ∀ (D : Nat) (W : World), w.heap.size ≤ D → I N W → W.heap[D]? = some (.deferred (some [])) → Q .normal { a with defers := { target := .collected D, args := #[] } :: a.defers } W)
    (hstop : ∀ (D : Nat) (c : Code) (k : Nat) (W : World), w.heap.size ≤ D → k < N → Ix c k W → W.heap[D]? = some (.deferred (some [])) → c.wpIn F n P Q { a with defers := { target := .collected D, args := #[] } :: a.defers } W) :
    (Code.rangeFunc g ps assign body).wpIn F n P Q a w := by
  refine wpIn_rangeFunc ?_
  intro fn hfn
  rw [hro]
  obtain ⟨rec, hrec⟩ : ∃ rec : LoopState → Option Code → Loop, rec = fun st pe => { state := st, pending := pe, fn, tmps := a.tmps, params := ps, assign, body, defers := w.heap.size } := ⟨_, rfl⟩
  obtain ⟨W1, hW1⟩ : ∃ W1, (w.alloc (.deferred (some []))).alloc (.loop (rec .ready none)) = W1 := ⟨_, rfl⟩
  have hL1 : W1.heap[w.heap.size + 1]? = some (.loop (rec .ready none)) := by
    rw [← hW1]; have := World.alloc_heap_new (w.alloc (.deferred (some []))) (.loop (rec .ready none)); rwa [World.size_alloc] at this
  have hK1 : W1.heap[w.heap.size]? = some (.deferred (some [])) := by
    rw [← hW1]; exact (Below.heap_alloc _ _ _ (by simp)).trans (World.alloc_heap_new w _)
  have hb1 : Below w.heap.size w W1 := by
    rw [← hW1]; exact ((Below.refl _ w).alloc (Nat.le_refl _) _).alloc (by simp) _
  have hs1 : W1.heap.size = w.heap.size + 2 := by rw [← hW1]; simp
  have hI1 : I 0 W1 := hI _ _ _ h0 hb1
  refine ⟨w.heap.size + 1, [{ target := .collected w.heap.size, args := #[] }], W1, { target := .fn (.func gf) lb, args := #[.func (.yield (w.heap.size + 1)) #[] #[]] }, W1, gf,
    #[.func (.yield (w.heap.size + 1)) #[] #[]] ++ lb, W1, ?_, ?_, ?_, ?_, fun _ => h1, ?_⟩
  · rw [← hW1, hrec]; exact run_enterLoop_outer _ _ _ _ _
  · simp only [resolve, hg]
    simp [go_sem]
  · intro f' hf'; simp [Target.leads] at hf'; subst hf'; exact hFg
  · simp [invoke, go_sem, eg]
  · refine (hseq (w.heap.size + 1)
      (fun pre W => I pre W ∧ W.heap[w.heap.size + 1]? = some (.loop (rec .ready none)) ∧ W.heap[w.heap.size]? = some (.deferred (some [])))
      (fun pre W => ∃ c, Ix c pre W ∧ W.heap[w.heap.size + 1]? = some (.loop (rec .done (some c))) ∧ W.heap[w.heap.size]? = some (.deferred (some [])))
      W1 hb1 hs1 rfl
      (fun s A B hs hb => ⟨hI s A B hs.1 hb, (hb.block _ (Array.getElem?_eq_some_iff.1 hs.2.1).1).trans hs.2.1, (hb.block _ (Array.getElem?_eq_some_iff.1 hs.2.2).1).trans hs.2.2⟩)
      (fun s A B k hs hb hk => by
        have hsz := (Array.getElem?_eq_some_iff.1 hs.2.1).1
        rcases hk with hk | rfl | rfl
        · have := hno s A B k hs.1 hb hk; exact ⟨this.2.1, this.2.2.1⟩
        · exact ⟨by omega, fun e => by have := hfix _ e; omega⟩
        · exact ⟨by omega, fun e => by have := hfix _ e; omega⟩)
      ?_ ⟨hI1, hL1, hK1⟩).mono ?_
    · rintro k W hkN ⟨hi, hl, hk⟩ hsz
      have hy := run_yield (P := P) (args := encs k) hl (by rw [hrec]; exact hps k)
      rw [hrec] at hy
      refine ⟨fn, _, assign, body, hy, roundIn_of_wpIn hfn (hassign _ k W _ hkN (by omega) hi ?_)⟩
      intro a' Wa hba hax
      have hla := (hba.block (w.heap.size + 1) (by omega)).trans hl
      have hka := (hba.block w.heap.size (by omega)).trans hk
      have hia := hI _ _ _ hi hba
      have hsa := hba.size
      refine ⟨_, run_beginRound hla (by rw [hrec]), ?_⟩
      have hl2 : (Wa.putObj (w.heap.size + 1) (.loop { rec .ready none with state := .busy })).heap[w.heap.size + 1]? = some (.loop { rec .ready none with state := .busy }) := World.putObj_heap_same (by omega)
      have hk2 : (Wa.putObj (w.heap.size + 1) (.loop { rec .ready none with state := .busy })).heap[w.heap.size]? = some (.deferred (some [])) := (World.putObj_heap_other (by omega)).trans hka
      have hib := hIp _ _ (w.heap.size + 1) (.loop { rec .ready none with state := .busy }) rfl ⟨_, hla⟩ hia
      have hnn : ∀ k, no (Wa.putObj (w.heap.size + 1) (.loop { rec .ready none with state := .busy })) k → no W k := fun k hk => (hno _ _ _ _ hi hba (hnp _ _ _ _ hia hk)).1
      refine wpIn_mono (hbody _ k a' _ hkN (by simp; omega) ⟨_, hl2⟩ ⟨_, hk2⟩ hib (hAx _ _ _ _ _ (by omega) (by omega) hax)) ?_
      rintro e a3 W3 hp
      cases e with
      | normal =>
        obtain ⟨hk3, hi3⟩ := hp
        have hl3 := (hk3.block (w.heap.size + 1) (by simp; omega) (fun e => by have := hno _ _ _ _ hib (Below.refl _ _) e; omega)).trans hl2
        have hd3 := (hk3.block w.heap.size (by simp; omega) (fun e => by have := hno _ _ _ _ hib (Below.refl _ _) e; omega)).trans hk2
        have hs3 := hk3.size
        have := run_endRound (P := P) none hl3
        rw [hrec] at this
        refine ⟨_, _, this, .inl ⟨rfl, ⟨hIp _ _ _ _ rfl ⟨_, hl3⟩ hi3, ?_, (World.putObj_heap_other (by omega)).trans hd3⟩, ?_⟩⟩
        · rw [hrec]; exact World.putObj_heap_same (by simp at hs3; omega)
        · exact (Keeps.of_below hba).trans ((Keeps.putObj (.inr (.inr rfl))).trans ((Keeps.trans ⟨hk3.os, hk3.tape, hk3.output, hk3.size, fun k hk hn => hk3.block k hk (fun e => hn (.inl (hnn _ e)))⟩ (Keeps.putObj (.inr (.inr rfl))))))
      | ret =>
        obtain ⟨hk3, hi3⟩ := hp
        have hl3 := (hk3.block (w.heap.size + 1) (by simp; omega) (fun e => by have := hno _ _ _ _ hib (Below.refl _ _) e; omega)).trans hl2
        have hd3 := (hk3.block w.heap.size (by simp; omega) (fun e => by have := hno _ _ _ _ hib (Below.refl _ _) e; omega)).trans hk2
        have hs3 := hk3.size
        have := run_endRound (P := P) (some .ret) hl3
        rw [hrec] at this
        refine ⟨_, _, this, .inr ⟨rfl, .ret, hIx _ _ _ _ _ rfl ⟨_, hl3⟩ hi3, ?_, (World.putObj_heap_other (by omega)).trans hd3⟩⟩
        rw [hrec]; exact World.putObj_heap_same (by simp at hs3; omega)
      | exit id =>
        obtain ⟨hk3, hi3⟩ := hp
        have hl3 := (hk3.block (w.heap.size + 1) (by simp; omega) (fun e => by have := hno _ _ _ _ hib (Below.refl _ _) e; omega)).trans hl2
        have hd3 := (hk3.block w.heap.size (by simp; omega) (fun e => by have := hno _ _ _ _ hib (Below.refl _ _) e; omega)).trans hk2
        have hs3 := hk3.size
        have := run_endRound (P := P) (some (.exit id)) hl3
        rw [hrec] at this
        refine ⟨_, _, this, .inr ⟨rfl, .exit id, hIx _ _ _ _ _ rfl ⟨_, hl3⟩ hi3, ?_, (World.putObj_heap_other (by omega)).trans hd3⟩⟩
        rw [hrec]; exact World.putObj_heap_same (by simp at hs3; omega)
      | goto t => exact hp.elim
      | panic ch => exact hp.elim
      | outgrown => exact hp.elim
    · rintro e W2 ⟨⟨v, rfl⟩, (⟨hi, hl, hk⟩ | ⟨k, hkN, c, hi, hl, hk⟩)⟩
      rotate_left
      · have hlt : w.heap.size + 1 < W2.heap.size := (Array.getElem?_eq_some_iff.1 hl).1
        refine ⟨some c, _, by have := run_endLoop (P := P) hl (by rw [hrec]; simp); rw [hrec] at this; exact this, hstop _ c k _ (Nat.le_refl _) hkN (hIx _ _ _ _ _ rfl ⟨_, hl⟩ hi) ((World.putObj_heap_other (by omega)).trans hk)⟩
      have hlt : w.heap.size + 1 < W2.heap.size := (Array.getElem?_eq_some_iff.1 hl).1
      refine ⟨none, _, by have := run_endLoop (P := P) hl (by rw [hrec]; simp); rw [hrec] at this; exact this, hdone _ _ (Nat.le_refl _) (hIp _ _ _ _ rfl ⟨_, hl⟩ hi) ((World.putObj_heap_other (by omega)).trans hk)⟩

/-- The table of strconv stands. -/
def TabP (w : World) : Prop := Lib.TabIs Tryz.prog w "internal/strconv.uint64pow10" .u64 Lib.pow10Tab
theorem TabP.next {w w' : World} (h : TabP w) (hb : Below w.heap.size w w') : TabP w' :=
  Joins.var_stays (g := 2) (by kernel_rfl) h hb (Nat.le_refl _)
theorem itoa_any (z : Int) (h0 : -9223372036854775808 ≤ z) (h1 : z ≤ 9223372036854775807) (w : World) (ht : TabP w) :
    Calls Tryz.prog 54 #[.int .i64 z] w fun e w' => e = .returned (.string ⟨(Lib.itoa z).toArray⟩) ∧ Below w.heap.size w w' := by
  refine (Tryz.strconv_Itoa z h0 h1 w ht).mono ?_
  rintro e w' ⟨rfl, k, os, rfl⟩
  exact ⟨rfl, Lib.below_grow _ w (Nat.le_refl _) k os⟩

theorem bsx_size (l : List UInt8) : (bs l).size = l.length := by simp [bs, ByteArray.size]
theorem bsx_cut (c : UInt8) (l : List UInt8) : (bs (c :: l)).extract 1 (l.length + 1) = bs l := by
  have h := Lib.extract_data (bs (c :: l)) 1 (l.length + 1)
  have e : (bs (c :: l)).data.toList = c :: l := rfl
  rw [e, List.drop_one, List.tail_cons, Nat.add_sub_cancel, List.take_length] at h
  apply ByteArray.ext
  apply Array.toList_inj.1
  rw [h]; rfl
theorem bsx_cells (l : List UInt8) : Lib.strCells (bs l) = Lib.byteCells l := by
  simp [Lib.strCells, Lib.byteCells, bs]
end Go.Proofs.YtflpfmkfjccmiaaGreatDoor
