/- Contract of digits: the decimal text of a magnitude. -/
import Derived.Test.YtflpfmkfjccmiaaGreatDoorJk
namespace Go.Proofs.YtflpfmkfjccmiaaGreatDoor
open Go.RowKit Go.Shelf
attribute [local go_sem] Oper.semAt_some

theorem bat_next {T e : TypeId} {B b : Nat} {p : Value} {xs : List Value} {w w' : World} (h : Lib.BuilderAtF T e B b p xs w) (hb : Below w.heap.size w w') : Lib.BuilderAtF T e B b p xs w' := by
  have hlt := h.lt
  obtain ⟨hB, v, hc, hown, hne⟩ := h
  refine ⟨hB, v, (hb.block b hlt).trans hc, hown.kept (row := none) ⟨hb.os, hb.tape, hb.output, hb.size, fun k hk _ => hb.block k hk⟩ ?_, hne⟩
  by_cases e : v.ownBlock = none
  · exact .inl e
  · exact .inr e
theorem noB_back {b j : Nat} {X Y : World} (h : Y.heap[b]? = X.heap[b]?) (hn : noB b Y j) : noB b X j := by
  rcases hn with hn | ⟨p, v, hv, ho⟩
  · exact .inl hn
  · exact .inr ⟨p, v, by rw [← h]; exact hv, ho⟩

/-- What stands between two rounds: the text of the groups that were read. -/
structure DigI (w : World) (Bs Dd : Nat) (A : Option Addr) (top c n k : Nat) (X : World) : Prop where
  bd : Lib.BuilderAtF 96 5 w.heap.size w.heap.size (.pointer (some ⟨w.heap.size, 0, none⟩)) (Lib.byteCells (Lib.decDigits (n / 10000 ^ (top - k)))) X
  sep : ∀ p v, X.heap[w.heap.size]? = some (.cells #[p, v] 96 (0, 0)) → v.ownBlock ≠ some Bs ∧ v.ownBlock ≠ some Dd ∧ v.ownBlock ≠ some (Dd + 1)
  rb : Row X Bs 45 #[.slice A top c]
  bw : Below w.heap.size w X

section
variable {w X Y : World} {Bs Dd top c n k : Nat} {A : Option Addr}
theorem DigI.bsb (h : DigI w Bs Dd A top c n k X) : Bs ≠ w.heap.size := by
  rintro rfl
  obtain ⟨_, v, hv, _⟩ := h.bd
  have := h.rb
  unfold Row at this
  rw [hv] at this
  simp only [Option.some.injEq, Obj.cells.injEq] at this
  exact absurd this.2.1 (by decide)
theorem DigI.below (h : DigI w Bs Dd A top c n k X) (hb : Below X.heap.size X Y) : DigI w Bs Dd A top c n k Y :=
  ⟨bat_next h.bd hb, fun p v hv => h.sep p v (by rw [← hb.block _ h.bd.lt]; exact hv), h.rb.below hb h.rb.lt, h.bw.trans (hb.mono h.bw.size)⟩
theorem DigI.putLoop (h : DigI w Bs Dd A top c n k X) (hD : w.heap.size < Dd) (hBs : Bs < Dd) (o : Obj) : DigI w Bs Dd A top c n k (X.putObj (Dd + 1) o) := by
  have hs := h.sep
  obtain ⟨hB, v, hc, hown, hne⟩ := h.bd
  have e : (X.putObj (Dd + 1) o).heap[w.heap.size]? = X.heap[w.heap.size]? := World.putObj_heap_other (by omega)
  refine ⟨⟨hB, v, e.trans hc, hown.kept (row := some (Dd + 1)) ⟨rfl, rfl, rfl, by simp, fun k _ hk => World.putObj_heap_other (fun e => hk (by rw [e]))⟩ (.inr (hs _ _ hc).2.2), hne⟩, fun p v hv => hs p v (by rw [← e]; exact hv), (World.putObj_heap_other (by omega)).trans h.rb, h.bw.trans ⟨rfl, rfl, rfl, by simp, fun j hj => World.putObj_heap_other (by omega)⟩⟩
theorem DigI.no (h : DigI w Bs Dd A top c n k X) (hD : w.heap.size < Dd) (hA : ∀ j off, A = some ⟨j, off, none⟩ → j < w.heap.size) (hb : Below X.heap.size X Y) (j : Nat) (hj : noB w.heap.size Y j) : noB w.heap.size X j ∧ j < X.heap.size ∧ ¬ fixB Bs A j ∧ j ≠ Dd ∧ j ≠ Dd + 1 := by
  have e := hb.block _ h.bd.lt
  have hn := noB_back e hj
  refine ⟨hn, ?_⟩
  rcases hn with rfl | ⟨p, v, hv, ho⟩
  · refine ⟨h.bd.lt, ?_, by omega, by omega⟩
    rintro (e | ⟨off, e⟩)
    · exact h.bsb e.symm
    · exact absurd (hA _ _ e) (by omega)
  · have hs := h.sep p v hv
    obtain ⟨hB, v', hc, hown, hne⟩ := h.bd
    have ev : v' = v := by
      rw [hv] at hc
      simp only [Option.some.injEq, Obj.cells.injEq, Array.mk.injEq, List.cons.injEq, and_true] at hc
      exact hc.2.symm
    subst ev
    have hl := hown.lt j ho
    refine ⟨hl.2, ?_, fun e => hs.2.1 (by rw [ho, e]), fun e => hs.2.2 (by rw [ho, e])⟩
    rintro (e | ⟨off, e⟩)
    · exact hs.1 (by rw [ho, e])
    · exact absurd (hA _ _ e) (by omega)
end

theorem DigI.step {w W W1 W2 : World} {Bs Dd top c n k q x : Nat} {A : Option Addr} (h : DigI w Bs Dd A top c n k W) (hD : w.heap.size < Dd) (hDd : Dd + 1 < W.heap.size)
    (hl : ∃ L, W.heap[Dd + 1]? = some (.loop L)) (hd : ∃ d, W.heap[Dd]? = some (.deferred d)) (hb : Below W.heap.size W W1)
    (hW : Lib.BuilderAtF 96 5 w.heap.size w.heap.size (.pointer (some ⟨w.heap.size, 0, none⟩)) (Lib.byteCells (Lib.decDigits q) ++ Lib.strCells (bs (Im.dec4 x))) W2)
    (hB2 : Below w.heap.size W1 W2) (hk2 : Keeps (noB w.heap.size W1) W1 W2) (hq : 0 < q) (hx : x < 10000) (hq2 : n / 10000 ^ (top - (k + 1)) = q * 10000 + x) :
    Keeps (noB w.heap.size W) W W2 ∧ DigI w Bs Dd A top c n (k + 1) W2 := by
  have h1 := h.below hb
  have e := hb.block _ h.bd.lt
  refine ⟨(Keeps.of_below hb).trans ⟨hk2.os, hk2.tape, hk2.output, hk2.size, fun j hj hn => hk2.block j hj (fun e2 => hn (noB_back e e2))⟩, ?_⟩
  have hno : ∀ j, j = Bs ∨ j = Dd ∨ j = Dd + 1 → ¬ noB w.heap.size W1 j := by
    rintro j hj (rfl | ⟨p, v, hv, ho⟩)
    · rcases hj with hj | hj | hj
      · exact h.bsb hj.symm
      · omega
      · omega
    · have hs := h1.sep p v hv
      rcases hj with rfl | rfl | rfl
      · exact hs.1 ho
      · exact hs.2.1 ho
      · exact hs.2.2 ho
  have kB : W2.heap[Bs]? = W1.heap[Bs]? := hk2.block Bs h1.rb.lt (hno _ (.inl rfl))
  have hs1 := hb.size
  have kD : W2.heap[Dd]? = W.heap[Dd]? := (hk2.block Dd (by omega) (hno _ (.inr (.inl rfl)))).trans (hb.block Dd (by omega))
  have kL : W2.heap[Dd + 1]? = W.heap[Dd + 1]? := (hk2.block (Dd + 1) (by omega) (hno _ (.inr (.inr rfl)))).trans (hb.block (Dd + 1) (by omega))
  have hrb : Row W2 Bs 45 #[.slice A top c] := kB.trans h1.rb
  refine ⟨?_, ?_, hrb, h1.bw.trans hB2⟩
  · rw [hq2, Im.text_step q x hq hx]
    rw [bsx_cells] at hW
    have : Lib.byteCells (Lib.decDigits q ++ Im.dec4 x) = Lib.byteCells (Lib.decDigits q) ++ Lib.byteCells (Im.dec4 x) := by simp [Lib.byteCells]
    rw [this]; exact hW
  · intro p v hv
    obtain ⟨hB, v', hc, hown, hne⟩ := hW
    have ev : v' = v := by
      rw [hv] at hc
      simp only [Option.some.injEq, Obj.cells.injEq, Array.mk.injEq, List.cons.injEq, and_true] at hc
      exact hc.2.symm
    subst ev
    refine ⟨fun ho => ?_, fun ho => ?_, fun ho => ?_⟩
    · obtain ⟨cc, fz, hh⟩ := Lib.ownsRowF_kind hown Bs ho
      unfold Row at hrb
      rw [hh] at hrb
      simp only [Option.some.injEq, Obj.cells.injEq] at hrb
      exact absurd hrb.2.1 (by decide)
    · obtain ⟨cc, fz, hh⟩ := Lib.ownsRowF_kind hown Dd ho
      obtain ⟨d, hd⟩ := hd
      rw [kD, hd] at hh; cases hh
    · obtain ⟨cc, fz, hh⟩ := Lib.ownsRowF_kind hown (Dd + 1) ho
      obtain ⟨L, hl⟩ := hl
      rw [kL, hl] at hh; cases hh

theorem pow4 (k : Nat) : 10000 ^ k = 10 ^ (4 * k) := by rw [show (10000 : Nat) = 10 ^ 4 from rfl, ← Nat.pow_mul]
theorem dd_short (m n : Nat) (h : m ≤ n) (hn : n ≠ 0) : (Lib.decDigits m).length ≤ 4 * (Im.grp n).length := by
  have h0 : (Im.grp n).length ≠ 0 := fun e => hn ((Im.grp_len0 n).1 e)
  refine (Im.dd_len m _ (by omega)).2 (Nat.lt_of_le_of_lt h ?_)
  have h1 := Im.grp_lt n
  rw [pow4] at h1
  exact h1
theorem bat_fresh (w : World) : Lib.IsBuilderF 96 5 w.heap.size w.heap.size [] (w.alloc (.cells #[.pointer none, .slice none 0 0] 96)) :=
  .inl ⟨Nat.le_refl _, .slice none 0 0, Row.new w _ _, World.ownsRowF_nil _ _ _ _, by simp [Value.ownBlock]⟩
end Go.Proofs.YtflpfmkfjccmiaaGreatDoor
