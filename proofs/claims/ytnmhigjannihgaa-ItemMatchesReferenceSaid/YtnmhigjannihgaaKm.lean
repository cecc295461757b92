/- Facts of a shortened item; calls at known values. -/
import Derived.Test.YtnmhigjannihgaaKl
namespace Go.Proofs.Ytnmhigjannihgaa
open Go.RowKit Go.Shelf

theorem bits_cut {n : Nat} (hn : n ≤ 4) {z : Nat} (hz : z < 16) : isCutN n (bitsL n z) = true :=
  (cuts_all ⟨n, by omega⟩).1 _ ((cuts_all ⟨n, by omega⟩).2.1 ⟨z, hz⟩)
theorem bits_all : ∀ n : Fin 5, bitsL n.val 15 = List.range n.val := by decide +kernel
theorem gone_range (trims : List (Int × Int)) : ∀ n, n ≤ trims.length → goneL trims (List.range n) = trims.take n := by
  intro n
  induction n with
  | zero => intro _; rfl
  | succ n ih =>
    intro hn
    have hk : trims[n]? = some trims[n] := List.getElem?_eq_getElem (by omega)
    rw [List.range_succ, List.take_add_one, hk, ← ih (by omega)]
    unfold goneL
    rw [List.filterMap_append]
    simp [hk]
theorem gone_all {trims : List (Int × Int)} (h : trims.length ≤ 4) : goneL trims (bitsL trims.length 15) = trims := by
  rw [bits_all ⟨trims.length, by omega⟩, gone_range _ _ (Nat.le_refl _), List.take_length]
theorem sum_le {α : Type} (f g : α → Int) : ∀ (l : List α), (∀ x ∈ l, f x ≤ g x) → (l.map f).sum ≤ (l.map g).sum
  | [], _ => Int.le_refl _
  | x :: l, h => by
    rw [List.map_cons, List.map_cons, List.sum_cons, List.sum_cons]
    have h1 := h x (by simp)
    have h2 := sum_le f g l (fun y hy => h y (by simp [hy]))
    omega
theorem part_len {len : Int} {trims : List (Int × Int)} (ht : partsF len 0 trims) (k : Nat) : 0 ≤ (trims[k]?.getD (0, 0)).2 - (trims[k]?.getD (0, 0)).1 := by
  cases hk : trims[k]? with
  | none => simp
  | some q => have := part_at ht hk; simp; omega
theorem tot_some {len : Int} {trims : List (Int × Int)} (ht : partsF len 0 trims) (h4 : trims.length ≤ 4) (z : Nat) : tot (goneL trims (bitsL trims.length z)) ≤ tot trims := by
  have h1 := tot_bits trims trims.length z (Nat.le_refl _)
  have h2 := tot_bits trims trims.length 15 (Nat.le_refl _)
  rw [gone_all h4] at h2
  rw [h1, h2]
  refine sum_le _ _ _ (fun k hk => ?_)
  have hk4 : k < 4 := by have := List.mem_range.1 hk; omega
  have hb : Nat.testBit 15 k = true := by
    have : k = 0 ∨ k = 1 ∨ k = 2 ∨ k = 3 := by omega
    rcases this with rfl | rfl | rfl | rfl <;> rfl
  have := part_len ht k
  rw [hb]
  split
  · simp
  · simpa using this
/-- A cut by bits: it is one, and what it leaves. -/
structure CutF (i : ItemP) (z : Nat) (G : List (Int × Int)) (n : Int) : Prop where
  ok : okC i (zi (bitsL i.trims.length z)) = true
  g : goneI i.trims (zi (bitsL i.trims.length z)) = G
  gl : goneL i.trims (bitsL i.trims.length z) = G
  p : partsF i.len 0 G
  nn : bef i.len G = n
  lo : 1 ≤ n
  hi : n ≤ i.len
  len : i.len ≤ 3600
theorem cutF_of {i : ItemP} (h : OkItem i) {z : Nat} (hz : z < 16) : ∃ G n, CutF i z G n := by
  have hc := bits_cut h.n1 hz
  have hp := gone_ok h.p1 hc
  refine ⟨goneL i.trims (bitsL i.trims.length z), bef i.len (goneL i.trims (bitsL i.trims.length z)), ?_, goneI_nat _ _, rfl, hp, rfl, ?_, ?_, h.len.2⟩
  · unfold okC
    rw [(validI_iff i).2 h, Bool.true_and]
    exact nat_cutB hc
  · have h1 := h.left
    rw [bef_len h.p1] at h1
    rw [bef_len hp]
    have := tot_some h.p1 h.n1 z
    omega
  · rw [bef_len hp]
    have := tot_pos hp
    omega
section
variable {i : ItemP} {z : Nat} {G : List (Int × Int)} {n : Int}
theorem CutF.length (h : CutF i z G n) : lengthV i (zi (bitsL i.trims.length z)) = (n, 0) := by
  unfold lengthV; rw [h.ok, if_pos rfl, h.g, h.nn]
theorem CutF.place (h : CutF i z G n) {x : Int} (h0 : 0 ≤ x) (h1 : x < n) : placeV i (zi (bitsL i.trims.length z)) x = (pl G x, 0) := by
  unfold placeV; rw [h.ok, h.g, h.nn, decide_eq_true h0, decide_eq_true h1]; rfl
theorem CutF.far (h : CutF i z G n) : placeV i (zi (bitsL i.trims.length z)) n = (0, 70) := by
  unfold placeV; rw [h.ok, h.g, h.nn, decide_eq_false (Int.lt_irrefl n)]; simp
theorem CutF.heard (h : CutF i z G n) {s : Int} (h0 : 0 ≤ s) (h1 : s < i.len) : heardV i (zi (bitsL i.trims.length z)) s = (if inP G s then -1 else bef s G, 0) := by
  unfold heardV
  rw [h.ok, h.g, decide_eq_true h0, decide_eq_true h1]
  have := bef_step h.p s
  cases hs : inP G s with
  | true => rw [hs] at this; simp at this; simp [this]
  | false =>
    rw [hs] at this
    simp only [Bool.false_eq_true, if_false] at this
    rw [if_neg (show ¬ bef (s + 1) G = bef s G by omega)]
    simp
theorem CutF.pl_lt (h : CutF i z G n) {x : Int} (h0 : 0 ≤ x) (h1 : x < n) : x ≤ pl G x ∧ pl G x < i.len ∧ inP G (pl G x) = false ∧ bef (pl G x) G = x ∧ bef (pl G x + 1) G = x + 1 := by
  obtain ⟨a, b, c, d⟩ := pl_bef h.p h0
  refine ⟨c, ?_, d, a, b⟩
  rcases Int.lt_or_le (pl G x) i.len with k | k
  · exact k
  · have := bef_le h.p k
    have := h.nn
    omega
theorem CutF.back (h : CutF i z G n) {x : Int} (h0 : 0 ≤ x) (h1 : x < n) : heardV i (zi (bitsL i.trims.length z)) (pl G x) = (x, 0) := by
  obtain ⟨a, b, c, d, e⟩ := h.pl_lt h0 h1
  rw [h.heard (by omega) b, c, d]; rfl
theorem CutF.ascends (h : CutF i z G n) {x : Int} (h0 : 0 ≤ x) (h1 : x + 1 < n) : pl G x < pl G (x + 1) := by
  obtain ⟨a, b, c, d, e⟩ := h.pl_lt h0 (show x < n by omega)
  obtain ⟨a', b', c', d', e'⟩ := h.pl_lt (show 0 ≤ x + 1 by omega) h1
  rcases Int.lt_or_le (pl G x) (pl G (x + 1)) with k | k
  · exact k
  · have := bef_le h.p k
    omega
theorem CutF.skipped (h : CutF i z G n) {x k : Int} (h0 : 0 ≤ x) (h1 : x + 1 < n) (h2 : pl G x < k) (h3 : k < pl G (x + 1)) : heardV i (zi (bitsL i.trims.length z)) k = (-1, 0) := by
  obtain ⟨a, b, c, d, e⟩ := h.pl_lt h0 (show x < n by omega)
  obtain ⟨a', b', c', d', e'⟩ := h.pl_lt (show 0 ≤ x + 1 by omega) h1
  have g1 := bef_le h.p (show pl G x + 1 ≤ k by omega)
  have g2 := bef_le h.p (show k + 1 ≤ pl G (x + 1) by omega)
  have g3 := bef_step h.p k
  have hk : inP G k = true := by
    cases hs : inP G k with
    | true => rfl
    | false => rw [hs] at g3; simp only [Bool.false_eq_true, if_false] at g3; omega
  rw [h.heard (by omega) (by omega), hk]; rfl
/-- What is heard at a second of the recording. -/
theorem CutF.second (h : CutF i z G n) {s : Int} (h0 : 0 ≤ s) (h1 : s < i.len) : ∃ m : Int, heardV i (zi (bitsL i.trims.length z)) s = (m, 0) ∧ (m = -1 ↔ inP G s = true) ∧ m < n := by
  refine ⟨_, h.heard h0 h1, ?_, ?_⟩
  · have h2 := bef_le h.p h0
    rw [bef_zero h.p (Int.le_refl _)] at h2
    cases inP G s with
    | true => simp
    | false => simp; omega
  · have h2 := bef_step h.p s
    have h3 := bef_le h.p (show s + 1 ≤ i.len by omega)
    have h4 := h.nn
    have h5 := h.lo
    cases hs : inP G s with
    | true => simp; omega
    | false => rw [hs] at h2; simp at h2; simp; omega
end
section
variable {i : ItemP} {C : List Int} {A1 A2 A3 : Option Addr} {n1 c1 n2 c2 n3 c3 : Nat} {u : World} {a b s : Int}
theorem length_at (h : lengthV i C = (a, b)) (hr : ItAt i A1 n1 c1 A2 n2 c2 u.heap.size u) (h3 : Recs enc1 1 u u.heap.size (.slice A3 n3 c3) C) : Calls Try.prog 24 #[.agg #[.int .i64 i.id, .int .i64 i.kind, .int .i64 i.len, .slice A1 n1 c1, .slice A2 n2 c2, .int .i64 i.artist, .int .i64 i.tempo, .int .i64 i.lang], .slice A3 n3 c3] u fun e w' => e = .returned (.tuple #[.int .i64 a, .int .i64 b]) ∧ Below u.heap.size u w' := by
  have k := length_any i C A1 A2 A3 n1 c1 n2 c2 n3 c3 u hr h3
  rwa [h] at k
theorem place_at (h : placeV i C s = (a, b)) (hr : ItAt i A1 n1 c1 A2 n2 c2 u.heap.size u) (h3 : Recs enc1 1 u u.heap.size (.slice A3 n3 c3) C) : Calls Try.prog 29 #[.agg #[.int .i64 i.id, .int .i64 i.kind, .int .i64 i.len, .slice A1 n1 c1, .slice A2 n2 c2, .int .i64 i.artist, .int .i64 i.tempo, .int .i64 i.lang], .slice A3 n3 c3, .int .i64 s] u fun e w' => e = .returned (.tuple #[.int .i64 a, .int .i64 b]) ∧ Below u.heap.size u w' := by
  have k := place_any i C s A1 A2 A3 n1 c1 n2 c2 n3 c3 u hr h3
  rwa [h] at k
theorem heard_at (h : heardV i C s = (a, b)) (hr : ItAt i A1 n1 c1 A2 n2 c2 u.heap.size u) (h3 : Recs enc1 1 u u.heap.size (.slice A3 n3 c3) C) : Calls Try.prog 31 #[.agg #[.int .i64 i.id, .int .i64 i.kind, .int .i64 i.len, .slice A1 n1 c1, .slice A2 n2 c2, .int .i64 i.artist, .int .i64 i.tempo, .int .i64 i.lang], .slice A3 n3 c3, .int .i64 s] u fun e w' => e = .returned (.tuple #[.int .i64 a, .int .i64 b]) ∧ Below u.heap.size u w' := by
  have k := heard_any i C s A1 A2 A3 n1 c1 n2 c2 n3 c3 u hr h3
  rwa [h] at k
theorem pick_at {c m k : Int} (h : pickI c m = k) (hm : 0 < m) (hm2 : m ≤ 9223372036854775807) (hc : I64 c) (u : World) : Calls Try.prog 19 #[.int .i64 c, .int .i64 m] u fun e w' => e = .returned (.int .i64 k) ∧ u = w' := by
  rw [← h]; exact pick_any c m hm hm2 hc.1 hc.2 u
end
theorem asc_lt {n : Nat} : ∀ {c : List Nat} {a k : Nat} (_ : ascB n a c = true) (hk : k < c.length), c[k] < n
  | x :: c, a, k, h, hk => by
    have h' : (decide (a ≤ x) && decide (x < n) && ascB n (x + 1) c) = true := h
    simp only [Bool.and_eq_true, decide_eq_true_eq] at h'
    cases k with
    | zero => exact h'.1.2
    | succ k => exact asc_lt h'.2 (by simpa using hk)
theorem isCut_at {n : Nat} {c : List Nat} (h : isCutN n c = true) {k : Nat} (hk : k < c.length) : c[k] < n := asc_lt h hk
theorem gone_snoc (trims : List (Int × Int)) (D : List Nat) {K d : Nat} {q : Int × Int} (hK : D[K]? = some d) (hd : trims[d]? = some q) (s : Int) : inP (goneL trims (D.take (K + 1))) s = (inP (goneL trims (D.take K)) s || (decide (q.1 ≤ s) && decide (s < q.2))) := by
  have e : D.take (K + 1) = D.take K ++ [d] := by rw [List.take_add_one, hK]; rfl
  have e2 : goneL trims (D.take (K + 1)) = goneL trims (D.take K) ++ [q] := by
    rw [e]; unfold goneL; rw [List.filterMap_append]; simp [hd]
  rw [e2, inP_append, inP_one]
theorem zi_get {a : List Nat} {k d : Nat} (h : a[k]? = some d) : (zi a)[k]? = some (d : Int) := by simp [zi, h]
theorem cell1_at {w : World} {l : List Int} {n c : Nat} {A : Option Addr} (h : Recs enc1 1 w w.heap.size (.slice A n c) l) {k : Nat} {x : Int} (hx : l[k]? = some x) : ∃ g o, A = some ⟨g, o, none⟩ ∧ g < w.heap.size ∧ w.cell? ⟨g, o + k, none⟩ = some (.int .i64 x) := by
  have hk := (List.getElem?_eq_some_iff.1 hx).1
  obtain ⟨g, o, e, hg, hc⟩ := recs_at h k hk
  have := cells1 hc k hk
  rw [(List.getElem?_eq_some_iff.1 hx).2] at this
  exact ⟨g, o, e, hg, this⟩
theorem cell2_at {w : World} {l : List (Int × Int)} {n c : Nat} {A : Option Addr} (h : Recs enc2 2 w w.heap.size (.slice A n c) l) {k : Nat} {q : Int × Int} (hx : l[k]? = some q) : ∃ g o, A = some ⟨g, o, none⟩ ∧ g < w.heap.size ∧ w.cell? ⟨g, o + k * 2, none⟩ = some (.int .i64 q.1) ∧ w.cell? ⟨g, o + k * 2 + 1, none⟩ = some (.int .i64 q.2) := by
  have hk := (List.getElem?_eq_some_iff.1 hx).1
  obtain ⟨g, o, e, hg, hc⟩ := recs_at h k hk
  have := cells2 hc k hk
  rw [(List.getElem?_eq_some_iff.1 hx).2] at this
  exact ⟨g, o, e, hg, this.1, this.2⟩
/-- What a law's walk knows of memory: an item in a box, and a cut of it. -/
structure StL (w : World) (i : ItemP) (A1 : Option Addr) (n1 c1 : Nat) (A2 : Option Addr) (n2 c2 : Nat) (g : Nat) (C : List Int) (A3 : Option Addr) (n3 c3 : Nat) (wr : World) : Prop where
  it : ItAt i A1 n1 c1 A2 n2 c2 wr.heap.size wr
  c : Recs enc1 1 wr wr.heap.size (.slice A3 n3 c3) C
  box : Row wr g 24 #[.int .i64 i.id, .int .i64 i.kind, .int .i64 i.len, .slice A1 n1 c1, .slice A2 n2 c2, .int .i64 i.artist, .int .i64 i.tempo, .int .i64 i.lang]
  b : Below w.heap.size w wr
theorem StL.next {w : World} {i : ItemP} {A1 : Option Addr} {n1 c1 : Nat} {A2 : Option Addr} {n2 c2 g : Nat} {C : List Int} {A3 : Option Addr} {n3 c3 : Nat} {wr wr' : World} (h : StL w i A1 n1 c1 A2 n2 c2 g C A3 n3 c3 wr) (hb : Below wr.heap.size wr wr') : StL w i A1 n1 c1 A2 n2 c2 g C A3 n3 c3 wr' :=
  ⟨h.it.next hb, h.c.next hb, h.box.below hb h.box.lt, below_to h.b hb⟩
end Go.Proofs.Ytnmhigjannihgaa
