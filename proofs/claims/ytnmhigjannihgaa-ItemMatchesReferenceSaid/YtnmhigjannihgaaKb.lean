/- The queue of cuts in memory: a slice that may begin anywhere in its row. -/
import Derived.Test.YtnmhigjannihgaaKa
import Derived.Deep.Upon
namespace Go.Proofs.Ytnmhigjannihgaa
open Go.RowKit Go.Shelf
attribute [local go_sem ↓] append_appN

theorem grown_below {w w' : World} (h : Below w.heap.size w w') : w.grownBy w' none := ⟨h.os, h.tape, h.output, h.size, fun k hk _ => h.block k hk⟩
theorem grown_setCells (b : Nat) : ∀ (vs : List Value) (o : Nat) (w : World), w.grownBy (w.setCells b o vs) (some b)
  | [], _, w => ⟨rfl, rfl, rfl, Nat.le_refl _, fun _ _ _ => rfl⟩
  | v :: vs, o, w => by
    have h := grown_setCells b vs (o + 1) (w.setCell ⟨b, o, none⟩ v)
    have hz : (w.setCell ⟨b, o, none⟩ v).heap.size = w.heap.size := by simp [World.setCell]
    have hs : (w.setCells b o (v :: vs)) = (w.setCell ⟨b, o, none⟩ v).setCells b (o + 1) vs := rfl
    rw [hs]
    exact ⟨h.os, h.tape, h.output, by have := h.size; omega, fun k hk hn => (h.block k (by omega) hn).trans (Below.heap_setCell w ⟨b, o, none⟩ _ k (fun e => hn (by rw [e])))⟩
/-- A slice of one-celled values anywhere in a row; what lies behind its length is free. -/
structure QAt (w : World) (A : Option Addr) (b off n c : Nat) (xs : List Value) : Prop where
  le : n ≤ c
  max : c ≤ maxLen
  lt : b < w.heap.size
  addr : 0 < c → A = some ⟨b, off, none⟩
  len : xs.length = n
  at_ : ∀ j u, xs[j]? = some u → w.cell? ⟨b, off + j, none⟩ = some u
  spare : ∀ j, n ≤ j → j < c → (w.cell? ⟨b, off + j, none⟩).isSome = true ∧ w.frozen? ⟨b, off + j, none⟩ = false
theorem QAt.keep {w w' : World} {A : Option Addr} {b off n c : Nat} {xs : List Value} (h : QAt w A b off n c xs) (hs : w.heap.size ≤ w'.heap.size) (hb : w'.heap[b]? = w.heap[b]?) : QAt w' A b off n c xs :=
  ⟨h.le, h.max, Nat.lt_of_lt_of_le h.lt hs, h.addr, h.len, fun j u hj => (World.cell?_of_block (a := ⟨b, off + j, none⟩) hb).trans (h.at_ j u hj),
    fun j h1 h2 => ⟨by rw [World.cell?_of_block (a := ⟨b, off + j, none⟩) hb]; exact (h.spare j h1 h2).1, (World.frozen?_of_block (a := ⟨b, off + j, none⟩) hb).trans (h.spare j h1 h2).2⟩⟩
theorem QAt.tail {w : World} {A A' : Option Addr} {b off n c : Nat} {x : Value} {xs : List Value} (h : QAt w A b off (n + 1) c (x :: xs)) (hA : 0 < c - 1 → A' = some ⟨b, off + 1, none⟩) : QAt w A' b (off + 1) n (c - 1) xs :=
  ⟨by have := h.le; omega, by have := h.max; omega, h.lt, hA, by have := h.len; simpa using this, fun j u hj => by rw [show off + 1 + j = off + (j + 1) by omega]; exact h.at_ (j + 1) u (by simpa using hj),
    fun j h1 h2 => by rw [show off + 1 + j = off + (j + 1) by omega]; exact h.spare (j + 1) (by omega) (by omega)⟩
theorem QAt.head {w : World} {A : Option Addr} {b off n c : Nat} {x : Value} {xs : List Value} (h : QAt w A b off (n + 1) c (x :: xs)) : A = some ⟨b, off, none⟩ ∧ w.cell? ⟨b, off, none⟩ = some x :=
  ⟨h.addr (by have := h.le; omega), h.at_ 0 x rfl⟩
/-- Some more behind it. -/
theorem QAt.append {w : World} {A : Option Addr} {b off n c : Nat} {xs : List Value} (h : QAt w A b off n c xs) {B m c2 : Nat} {A2 : Option Addr} {ys : List Value} (hm : ys.length = m) (ho : w.ownsRow B 26 1 (.slice A2 m c2) m ys) (h1 : ∀ u ∈ ys, u.oneCell' = true) (hnm : n + m ≤ 100000) :
    ∃ A' c' w', Sem.run Try.prog (appN #[42, 42] 42 #[.slice A n c, .slice A2 m c2]) w = .ok (.slice A' (n + m) c') w' ∧ ∃ b' off', QAt w' A' b' off' (n + m) c' (xs ++ ys) ∧ (b' = b ∨ w.heap.size ≤ b') ∧ w.grownBy w' (some b) := by
  subst hm
  obtain ⟨i, hi, hz0, hz1, hz2⟩ := info_parts infoInts
  have hs : Src Try.prog i.size 42 (.slice A2 ys.length c2) ys.length ys w := by
    obtain ⟨A3, c3, e, -, -, h4⟩ := own_slice ho
    injection e with e1 e2 e3
    subst e1
    rcases h4 with ⟨rfl, h0⟩ | ⟨g, rfl, -⟩
    · have := List.eq_nil_of_length_eq_zero h0
      subst this
      exact Src.ofNil w Try.underlying42 _
    · refine Src.ofSlice w Try.underlying42 _ _ _ _ (by rw [hz1]; omega) (fun j u hj => ?_) h1
      rw [Addr.add_lit, Nat.zero_add]
      have := ho.cellAt j (by have := (List.getElem?_eq_some_iff.1 hj).1; omega)
      rw [this]; exact hj
  by_cases hfit : n + ys.length ≤ c
  · by_cases hc : 0 < c
    · have hA := h.addr hc
      subst hA
      have hsome : ∀ j, j < ys.length → (w.cell? ⟨b, off + n * i.size + j, none⟩).isSome = true := fun j hj => by
        rw [hz1, Nat.mul_one, Nat.add_assoc]; exact (h.spare (n + j) (by omega) (by omega)).1
      have hrun := run_append_room_src (P := Try.prog) w 42 42 42 26 i Try.underlying42 hi b off n c _ _ ys hs hfit hsome
        (fun j hj => by rw [hz1, Nat.mul_one, Nat.add_assoc]; exact (h.spare (n + j) (by omega) (by omega)).2)
      rw [hz1, Nat.mul_one] at hrun hsome
      refine ⟨_, _, _, hrun, b, off, ⟨hfit, h.max, Nat.lt_of_lt_of_le h.lt (grown_setCells b ys _ w).size, fun _ => rfl, by rw [List.length_append, h.len], fun j u hj => ?_, fun j g1 g2 => ⟨?_, ?_⟩⟩, .inl rfl, grown_setCells b ys _ w⟩
      · by_cases hjn : j < n
        · rw [List.getElem?_append_left (by rw [h.len]; exact hjn)] at hj
          rw [World.cell?_setCells_out b _ _ _ _ (fun _ _ => .inl (by show off + j < off + n; omega))]
          exact h.at_ j u hj
        · rw [List.getElem?_append_right (by rw [h.len]; omega), h.len] at hj
          have hlt := (List.getElem?_eq_some_iff.1 hj).1
          have := World.cell?_setCells_in b ys (off + n) w hsome (j - n) hlt
          rw [show off + n + (j - n) = off + j by omega] at this
          rw [this, ← hj, List.getElem?_eq_getElem hlt]
      · rw [World.cell?_setCells_out b _ _ _ _ (fun _ _ => .inr (by show off + n + ys.length ≤ off + j; omega))]
        exact (h.spare j (by omega) g2).1
      · rw [World.frozen?_setCells]
        exact (h.spare j (by omega) g2).2
    · have e0 : n = 0 := by have := h.le; omega
      have e1 : ys = [] := List.eq_nil_of_length_eq_zero (by omega)
      subst e1
      have hrun := run_append_nothing (P := Try.prog) w 42 42 42 26 i Try.underlying42 hi A n c h.le _ hs
      exact ⟨_, _, _, hrun, b, off, by rw [List.append_nil]; exact h, .inl rfl, ⟨rfl, rfl, rfl, Nat.le_refl _, fun _ _ _ => rfl⟩⟩
  · have hold : (Builtin.firstCells i.size n (.slice A n c)).run Try.prog w.drew = .ok xs.toArray w.drew := by
      by_cases hc : 0 < c
      · rw [h.addr hc]
        refine run_firstCells_some w.drew i.size n _ n c xs (by rw [hz1, h.len]; omega) (fun j u hj => ?_)
        rw [Addr.add_lit]
        exact h.at_ j u hj
      · have e0 : n = 0 := by have := h.le; omega
        have e1 : xs = [] := List.eq_nil_of_length_eq_zero (by rw [h.len, e0])
        subst e1
        subst e0
        cases A with
        | none => exact run_firstCells_none w.drew i.size 0 0 c
        | some a => exact run_firstCells_some w.drew i.size 0 a 0 c [] (by simp) (by intro _ _ h'; simp at h')
    have hbb : (n + ys.length) * i.bytes ≤ 140737488355328 := by rw [hz2]; omega
    have hrun := run_append_grow_src (P := Try.prog) w 42 42 42 26 i _ Try.underlying42 hi hz0 A n c xs hold _ _ ys hs (by omega) (by omega) (growslice_fits (by omega) hbb)
    have hge := grownCap_ge w (n + ys.length) c 26
    have hle := grownCap_le_maxLen w (n + ys.length) c 26 (by unfold maxLen; omega)
    obtain ⟨C, hC⟩ : ∃ C, grownCap w (n + ys.length) c 26 = C := ⟨_, rfl⟩
    rw [hC] at hrun hge hle
    have hxl := h.len
    refine ⟨_, _, _, hrun, w.heap.size, 0, ⟨hge, hle, by simp, fun _ => rfl, by rw [List.length_append, h.len], fun j u hj => ?_, fun j g1 g2 => ⟨?_, ?_⟩⟩, .inr (Nat.le_refl _), ⟨rfl, rfl, rfl, by simp, fun k hk _ => Below.heap_alloc w.drew _ k hk⟩⟩
    · have e1 : (w.drew.alloc (.cells ((xs ++ ys).toArray ++ Builtin.zeroCells (Value.slice none 0 0).cells (C - (n + ys.length))) 26)).cell? ⟨w.heap.size, j, none⟩ = _ := World.cell?_alloc_new w.drew _ _ j
      have hjl := (List.getElem?_eq_some_iff.1 hj).1
      rw [Nat.zero_add, e1, Array.getElem?_append_left (by simpa using hjl), List.getElem?_toArray, hj]
    · have e1 : (w.drew.alloc (.cells ((xs ++ ys).toArray ++ Builtin.zeroCells (Value.slice none 0 0).cells (C - (n + ys.length))) 26)).cell? ⟨w.heap.size, j, none⟩ = _ := World.cell?_alloc_new w.drew _ _ j
      have hsz : ((xs ++ ys).toArray ++ Builtin.zeroCells (Value.slice none 0 0).cells (C - (n + ys.length))).size = C := by
        rw [Array.size_append, List.size_toArray, size_zeroCells, List.length_append, hxl]
        show n + ys.length + (C - (n + ys.length)) * 1 = C
        omega
      rw [Nat.zero_add, e1, Array.getElem?_eq_getElem (by rw [hsz]; exact g2)]
      rfl
    · rw [Nat.zero_add]; exact World.frozen?_alloc_new w.drew _ _ j
/-- The cuts of a queue: rows of one's own, none of them in the queue's block. -/
def QCuts (B : Nat) (w : World) (b : Nat) (xs : List Value) (ll : List (List Int)) : Prop := xs.length = ll.length ∧ ∀ (j : Nat) (x : Value) (l : List Int), xs[j]? = some x → ll[j]? = some l → w.ownsRow B 3 1 x l.length (iv1 l) ∧ x.ownBlock ≠ some b
theorem QCuts.tail {B : Nat} {w : World} {b : Nat} {x : Value} {xs : List Value} {l : List Int} {ll : List (List Int)} (h : QCuts B w b (x :: xs) (l :: ll)) : QCuts B w b xs ll :=
  ⟨by have := h.1; simpa using this, fun j y m hy hm => h.2 (j + 1) y m (by simpa using hy) (by simpa using hm)⟩
theorem QCuts.keep {B : Nat} {w w' : World} {b : Nat} {xs : List Value} {ll : List (List Int)} (h : QCuts B w b xs ll) (hk : ∀ x ∈ xs, ∀ g, x.ownBlock = some g → w'.heap[g]? = w.heap[g]?) : QCuts B w' b xs ll :=
  ⟨h.1, fun j x l hx hl => ⟨own_keep (h.2 j x l hx hl).1 (fun k e => hk x (List.mem_of_getElem? hx) k e), (h.2 j x l hx hl).2⟩⟩
theorem QCuts.lt {B : Nat} {w : World} {b : Nat} {xs : List Value} {ll : List (List Int)} (h : QCuts B w b xs ll) : ∀ x ∈ xs, ∀ g, x.ownBlock = some g → B ≤ g ∧ g < w.heap.size ∧ g ≠ b := by
  intro x hx g hg
  obtain ⟨j, hj⟩ := List.getElem?_of_mem hx
  have hjl := (List.getElem?_eq_some_iff.1 hj).1
  have hl : ll[j]? = some (ll[j]'(by rw [← h.1]; exact hjl)) := List.getElem?_eq_getElem _
  obtain ⟨h1, h2⟩ := h.2 j x _ hj hl
  exact ⟨own_ge h1 g hg, own_lt h1 g hg, fun e => h2 (e ▸ hg)⟩
theorem QCuts.one {B : Nat} {w : World} {b : Nat} {xs : List Value} {ll : List (List Int)} (h : QCuts B w b xs ll) : ∀ x ∈ xs, x.oneCell' = true := by
  intro x hx
  obtain ⟨j, hj⟩ := List.getElem?_of_mem hx
  have hjl := (List.getElem?_eq_some_iff.1 hj).1
  have hl : ll[j]? = some (ll[j]'(by rw [← h.1]; exact hjl)) := List.getElem?_eq_getElem _
  obtain ⟨A, c, rfl, -⟩ := own_slice (h.2 j x _ hj hl).1
  rfl
theorem QCuts.append {B : Nat} {w : World} {b : Nat} {xs ys : List Value} {ll mm : List (List Int)} (h : QCuts B w b xs ll) (k : QCuts B w b ys mm) : QCuts B w b (xs ++ ys) (ll ++ mm) := by
  refine ⟨by simp [h.1, k.1], fun j x l hx hl => ?_⟩
  by_cases hj : j < xs.length
  · rw [List.getElem?_append_left hj] at hx
    rw [List.getElem?_append_left (by rw [← h.1]; exact hj)] at hl
    exact h.2 j x l hx hl
  · rw [List.getElem?_append_right (by omega)] at hx
    rw [List.getElem?_append_right (by rw [← h.1]; omega), ← h.1] at hl
    exact k.2 _ x l hx hl
theorem QCuts.other {B : Nat} {w : World} {b b' : Nat} {xs : List Value} {ll : List (List Int)} (h : QCuts B w b xs ll) (hb : ∀ x ∈ xs, x.ownBlock ≠ some b') : QCuts B w b' xs ll :=
  ⟨h.1, fun j x l hx hl => ⟨(h.2 j x l hx hl).1, hb x (List.mem_of_getElem? hx)⟩⟩
theorem QCuts.down {B B' : Nat} {w : World} {b : Nat} {xs : List Value} {ll : List (List Int)} (h : QCuts B w b xs ll) (hB : B' ≤ B) : QCuts B' w b xs ll :=
  ⟨h.1, fun j x l hx hl => ⟨⟨(h.2 j x l hx hl).1.1, (h.2 j x l hx hl).1.2.imp id fun ⟨g, cap, cur, h1, h2, h3⟩ => ⟨g, cap, cur, h1, Nat.le_trans hB h2, h3⟩⟩, (h.2 j x l hx hl).2⟩⟩
end Go.Proofs.Ytnmhigjannihgaa
