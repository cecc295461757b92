/- cuts as what GivesE asks; sorted lists without doubles. -/
import Derived.Test.YtnmhigjannihgaaKd
import Derived.Lib.SlicesCompact
namespace Go.Proofs.Ytnmhigjannihgaa
open Go.RowKit Go.Shelf

theorem CutE.down {B B' : Nat} {i : ItemP} {W : World} {c : List Nat} {vs : Array Value} (h : CutE B i W c vs) (hB : B' ≤ B) : CutE B' i W c vs := by
  obtain ⟨A, cp, h1, h2⟩ := h
  exact ⟨A, cp, h1, h2.1, h2.2.imp id fun ⟨g, cap, cur, k1, k2, k3⟩ => ⟨g, cap, cur, k1, Nat.le_trans hB k2, k3⟩⟩
theorem cuts_e (n : Nat) (hn : 2 ≤ n) (Bi B0 : Nat) (i : ItemP) (hi : validI i = true) (A1 A2 : Option Addr) (n1 c1 n2 c2 : Nat) (no : World → Nat → Prop) (w : World)
    (hBi : Row w Bi 24 #[.int .i64 i.id, .int .i64 i.kind, .int .i64 i.len, .slice A1 n1 c1, .slice A2 n2 c2, .int .i64 i.artist, .int .i64 i.tempo, .int .i64 i.lang]) (hit : ItAt i A1 n1 c1 A2 n2 c2 B0 w) (hB0 : B0 ≤ w.heap.size) :
    GivesE Fence.wide n Try.prog 65 #[.pointer (some ⟨Bi, 0, none⟩)] (CutE w.heap.size i) no (fun k => k = Bi ∨ k < B0) (cutsL i.trims.length) w :=
  fun l J Jx W hW hJ _ hno hng hY h0 =>
    cuts1_e n hn l Bi B0 i hi A1 A2 n1 c1 n2 c2 J Jx no W hJ (fun s X k hs hk => ⟨(hno s X k hs hk).1, (hno s X k hs hk).2.1⟩) hng (fun pre x vs W1 h1 h2 h3 => hY pre x vs W1 h1 (h2.down hW.size) h3)
      (hBi.below hW hBi.lt) ⟨hit.t.keep fun p hp => hW.cell (by omega), hit.k.keep fun p hp => hW.cell (by omega)⟩ (Nat.le_trans hB0 hW.size) h0
set_option maxHeartbeats 400000 in
theorem cuts_call (i : ItemP) (A1 A2 : Option Addr) (n1 c1 n2 c2 : Nat) (w : World) : Calls Try.prog 45 #[.agg #[.int .i64 i.id, .int .i64 i.kind, .int .i64 i.len, .slice A1 n1 c1, .slice A2 n2 c2, .int .i64 i.artist, .int .i64 i.tempo, .int .i64 i.lang]] w fun e w' => e = .returned (.func (.func 65) #[] #[.pointer (some ⟨w.heap.size, 0, none⟩)]) ∧ w' = w.alloc (.cells #[.int .i64 i.id, .int .i64 i.kind, .int .i64 i.len, .slice A1 n1 c1, .slice A2 n2 c2, .int .i64 i.artist, .int .i64 i.tempo, .int .i64 i.lang] 24) := by
  obtain ⟨id, kind, len, trims, talks, artist, tempo, lang⟩ := i
  dsimp only
  go_enter Try.func45, Try.ntmps45
  go_wp2
  go_ret
  exact ⟨rfl, rfl⟩
/-- A block that keeps its content, since it is one of those that no names. -/
theorem turn_block {no : World → Nat → Prop} {B g : Nat} {Y Z : World} {row : Option Nat} {o : Obj} (hg : Y.grownBy Z row) (hr : Turns no B Y row) (ho : Y.heap[g]? = some o) (hc : o.isCells = true) (hn : no Y g ∨ g < B) : Z.heap[g]? = Y.heap[g]? :=
  hg.block g (Array.getElem?_eq_some_iff.1 ho).1 (fun e => by
    obtain ⟨h1, h2⟩ := hr g e.symm
    rcases hn with hn | hn
    · rcases h2 with ⟨o', h3, h4⟩ | h2
      · rw [ho] at h3; cases h3; rw [hc] at h4; cases h4
      · exact h2 hn
    · omega)
/-- A list of numbers without doubles, ascending. -/
def sortC (l : List Int) : List Int := Lib.compact (l.mergeSort fun x y => decide (x ≤ y))
theorem sorted_ms (l : List Int) : (l.mergeSort fun x y => decide (x ≤ y)).Pairwise (· ≤ ·) := by
  have h := List.pairwise_mergeSort (le := fun (x y : Int) => decide (x ≤ y)) (fun a b c h1 h2 => by simp only [decide_eq_true_eq] at *; omega) (fun a b => by simp only [Bool.or_eq_true, decide_eq_true_eq]; omega) l
  exact h.imp (fun {a b} hab => by simpa using hab)
theorem mem_ms (l : List Int) (x : Int) : x ∈ (l.mergeSort fun x y => decide (x ≤ y)) ↔ x ∈ l := (List.mergeSort_perm l _).mem_iff
theorem compact_up (d : List Int) (hs : d.Pairwise (· ≤ ·)) : ∀ m, m ≤ d.length → Asc (Lib.compactUpTo d.toArray m) ∧ ∀ x, x ∈ Lib.compactUpTo d.toArray m ↔ x ∈ d.take m := by
  intro m
  induction m with
  | zero => intro _; exact ⟨List.Pairwise.nil, fun x => by simp [Lib.compactUpTo]⟩
  | succ m ih =>
    intro hm
    obtain ⟨h1, h2⟩ := ih (by omega)
    have hget : d.toArray[m]! = d[m] := by simp [show m < d.length by omega]
    have htake : d.take (m + 1) = d.take m ++ [d[m]] := by rw [List.take_add_one, List.getElem?_eq_getElem (by omega)]; rfl
    rw [Lib.compactUpTo_succ, htake]
    by_cases hk : Lib.keeps d.toArray m = true
    · rw [if_pos hk, hget]
      refine ⟨List.pairwise_append.2 ⟨h1, List.pairwise_singleton _ _, fun a ha b hb => ?_⟩, fun x => by rw [List.mem_append, List.mem_append, h2]⟩
      rw [List.mem_singleton.1 hb]
      have ha2 := (h2 a).1 ha
      obtain ⟨j, hj, rfl⟩ := List.getElem_of_mem ha2
      rw [List.length_take] at hj
      rw [List.getElem_take]
      simp only [Lib.keeps, decide_eq_true_eq] at hk
      rcases hk with hk | hk
      · omega
      · rw [hget] at hk
        have hget1 : d.toArray[m - 1]! = d[m - 1] := by simp [show m - 1 < d.length by omega]
        rw [hget1] at hk
        have hle : d[j] ≤ d[m - 1] := by
          rcases Nat.lt_or_ge j (m - 1) with c | c
          · exact List.pairwise_iff_getElem.1 hs j (m - 1) (by omega) (by omega) c
          · have : j = m - 1 := by omega
            subst this; exact Int.le_refl _
        have hle2 : d[m - 1] ≤ d[m] := List.pairwise_iff_getElem.1 hs (m - 1) m (by omega) (by omega) (by omega)
        omega
    · rw [if_neg hk, List.append_nil]
      refine ⟨h1, fun x => ?_⟩
      rw [h2, List.mem_append, List.mem_singleton]
      refine ⟨.inl, fun h => h.elim id fun e => ?_⟩
      simp only [Lib.keeps, decide_eq_true_eq] at hk
      have hm0 : ¬ m = 0 := fun e => hk (.inl e)
      have he : d.toArray[m]! = d.toArray[m - 1]! := Classical.byContradiction fun e => hk (.inr e)
      have hget1 : d.toArray[m - 1]! = d[m - 1] := by simp [show m - 1 < d.length by omega]
      rw [hget, hget1] at he
      rw [e, he]
      exact List.mem_of_getElem? (i := m - 1) (by rw [List.getElem?_take_of_lt (by omega), List.getElem?_eq_getElem (by omega)])
theorem sortC_asc (l : List Int) : Asc (sortC l) := (compact_up _ (sorted_ms l) _ (Nat.le_refl _)).1
theorem sortC_mem (l : List Int) (x : Int) : x ∈ sortC l ↔ x ∈ l := by
  have := (compact_up _ (sorted_ms l) _ (Nat.le_refl _)).2 x
  rw [List.take_of_length_le (Nat.le_refl _), mem_ms] at this
  exact this
/-- The lengths that an item can have. -/
def lenI (i : ItemP) (c : List Nat) : Int := (lengthV i (zi c)).1
def lensV (i : ItemP) : List Int := if validI i then sortC ((cutsL i.trims.length).map (lenI i)) else []
end Go.Proofs.Ytnmhigjannihgaa
