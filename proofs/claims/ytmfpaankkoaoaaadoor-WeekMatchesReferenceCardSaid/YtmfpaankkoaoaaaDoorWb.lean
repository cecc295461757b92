/- What a law's walk of layer 6 asks of its calls, in the weeks' own numbers. -/
import Derived.Test.YtmfpaankkoaoaaaDoorWa
import Derived.IntWalk
namespace Go.Proofs.YtmfpaankkoaoaaaDoor
open Go.RowKit Go.Shelf

/-- A valid week in its seven numbers. -/
structure Wk (l : List Int) (a b c d e f g : Int) : Prop where
  eq : l = [a, b, c, d, e, f, g]
  v : validW l = true
section
variable {l : List Int} {a b c d e f g : Int}
theorem Wk.len (h : Wk l a b c d e f g) : l.length = 7 := by rw [h.eq]; rfl
theorem Wk.wv (h : Wk l a b c d e f g) : wv l = .agg #[.int .i64 a, .int .i64 b, .int .i64 c, .int .i64 d, .int .i64 e, .int .i64 f, .int .i64 g] := by rw [h.eq]; rfl
theorem Wk.ints (h : Wk l a b c d e f g) : ints l = #[.int .i64 a, .int .i64 b, .int .i64 c, .int .i64 d, .int .i64 e, .int .i64 f, .int .i64 g] := by rw [h.eq]; rfl
theorem Wk.at (h : Wk l a b c d e f g) (k : Nat) (hk : k < 7) : (#[.int .i64 a, .int .i64 b, .int .i64 c, .int .i64 d, .int .i64 e, .int .i64 f, .int .i64 g] : Array Value)[k]? = some (.int .i64 ((hrs l k : Nat) : Int)) := by
  rw [← h.ints, ints_get, (hrs_at h.v (show k < l.length by rw [h.len]; exact hk)).1]; rfl
end
theorem wk_of {l : List Int} (h7 : l.length = 7) (hv : validW l = true) : ∃ a b c d e f g, Wk l a b c d e f g := by
  obtain ⟨a, b, c, d, e, f, g, h⟩ := seven h7
  exact ⟨a, b, c, d, e, f, g, h, hv⟩
theorem made_k (x0 x1 x2 x3 x4 x5 x6 : Int) (hx : ∀ x ∈ [x0, x1, x2, x3, x4, x5, x6], -9223372036854775808 ≤ x ∧ x ≤ 9223372036854775807) (u : World) :
    Calls Tryd.prog 5 #[.agg #[.int .i64 x0, .int .i64 x1, .int .i64 x2, .int .i64 x3, .int .i64 x4, .int .i64 x5, .int .i64 x6]] u fun r w' => ∃ (l : List Int) (a b c d e f g : Int), Wk l a b c d e f g ∧ r = .returned (.agg #[.int .i64 a, .int .i64 b, .int .i64 c, .int .i64 d, .int .i64 e, .int .i64 f, .int .i64 g]) ∧ Below u.heap.size u w' := by
  refine (made_any x0 x1 x2 x3 x4 x5 x6 hx u).mono ?_
  rintro r w' ⟨l, h7, hv, rfl, hb⟩
  obtain ⟨a, b, c, d, e, f, g, K⟩ := wk_of h7 hv
  exact ⟨l, a, b, c, d, e, f, g, K, by rw [K.wv], hb⟩
section
variable {l la lb lc : List Int} {a b c d e f g a1 b1 c1 d1 e1 f1 g1 a2 b2 c2 d2 e2 f2 g2 : Int}
theorem in_k (h : Wk l a b c d e f g) (t : Nat) (ht : t < 10000000) (u : World) : Calls Tryd.prog 11 #[.agg #[.int .i64 a, .int .i64 b, .int .i64 c, .int .i64 d, .int .i64 e, .int .i64 f, .int .i64 g], .int .i64 (t : Int)] u fun r w' => r = .returned (.bool (hasS l t)) ∧ Below u.heap.size u w' := by
  have := in_any l h.len (t : Int) u
  rwa [in_ok h.v ht, h.wv] at this
theorem secs_k (h : Wk l a b c d e f g) (x y : Nat) (h1 : x < y) (h2 : y ≤ 10000000) (u : World) (hu : Tabs u) : Calls Tryd.prog 16 #[.agg #[.int .i64 a, .int .i64 b, .int .i64 c, .int .i64 d, .int .i64 e, .int .i64 f, .int .i64 g], .agg #[.int .i64 (x : Int), .int .i64 (y : Int)]] u fun r w' => r = .returned (.tuple #[.int .i64 ((cnt (hasS l) x (y - x) : Nat) : Int), .int .i64 0]) ∧ Below u.heap.size u w' := by
  have := seconds_any l h.len (x : Int) (y : Int) u hu.t (tz4 hu)
  rwa [secs_ok h.v ((isSpl_iff _ _).2 ⟨by omega, by omega, by omega⟩), h.wv] at this
theorem next_k (h : Wk l a b c d e f g) (t : Nat) (u : World) (hu : Tabs u) : Calls Tryd.prog 9 #[.agg #[.int .i64 a, .int .i64 b, .int .i64 c, .int .i64 d, .int .i64 e, .int .i64 f, .int .i64 g], .int .i64 (t : Int)] u fun r w' => r = .returned (.tuple #[.int .i64 (nextV l (t : Int)).1, .bool (nextV l (t : Int)).2]) ∧ Below u.heap.size u w' := by
  have := next_any l h.len (t : Int) u hu.t (tz4 hu)
  rwa [h.wv] at this
theorem and_k (h : Wk la a b c d e f g) (h1 : Wk lb a1 b1 c1 d1 e1 f1 g1) (h2 : Wk (combL fA la lb) a2 b2 c2 d2 e2 f2 g2) (u : World) : Calls Tryd.prog 19 #[.agg #[.int .i64 a, .int .i64 b, .int .i64 c, .int .i64 d, .int .i64 e, .int .i64 f, .int .i64 g], .agg #[.int .i64 a1, .int .i64 b1, .int .i64 c1, .int .i64 d1, .int .i64 e1, .int .i64 f1, .int .i64 g1]] u fun r w' => r = .returned (.tuple #[.agg #[.int .i64 a2, .int .i64 b2, .int .i64 c2, .int .i64 d2, .int .i64 e2, .int .i64 f2, .int .i64 g2], .int .i64 0]) ∧ Below u.heap.size u w' := by
  have := And_any la lb h.len h1.len u
  rw [h.wv, h1.wv] at this
  refine this.mono ?_
  rintro r w' ⟨rfl, hb⟩
  refine ⟨?_, hb⟩
  rw [show combM (fun x y => x &&& y) la lb = (combL fA la lb, 0) from comb_ok h.v h1.v, h2.wv]
theorem or_k (h : Wk la a b c d e f g) (h1 : Wk lb a1 b1 c1 d1 e1 f1 g1) (h2 : Wk (combL fO la lb) a2 b2 c2 d2 e2 f2 g2) (u : World) : Calls Tryd.prog 21 #[.agg #[.int .i64 a, .int .i64 b, .int .i64 c, .int .i64 d, .int .i64 e, .int .i64 f, .int .i64 g], .agg #[.int .i64 a1, .int .i64 b1, .int .i64 c1, .int .i64 d1, .int .i64 e1, .int .i64 f1, .int .i64 g1]] u fun r w' => r = .returned (.tuple #[.agg #[.int .i64 a2, .int .i64 b2, .int .i64 c2, .int .i64 d2, .int .i64 e2, .int .i64 f2, .int .i64 g2], .int .i64 0]) ∧ Below u.heap.size u w' := by
  have := Or_any la lb h.len h1.len u
  rw [h.wv, h1.wv] at this
  refine this.mono ?_
  rintro r w' ⟨rfl, hb⟩
  refine ⟨?_, hb⟩
  rw [show combM (fun x y => x ||| y) la lb = (combL fO la lb, 0) from comb_ok h.v h1.v, h2.wv]
theorem not_k (h : Wk la a b c d e f g) (h2 : Wk (combL fN la la) a2 b2 c2 d2 e2 f2 g2) (u : World) : Calls Tryd.prog 23 #[.agg #[.int .i64 a, .int .i64 b, .int .i64 c, .int .i64 d, .int .i64 e, .int .i64 f, .int .i64 g]] u fun r w' => r = .returned (.tuple #[.agg #[.int .i64 a2, .int .i64 b2, .int .i64 c2, .int .i64 d2, .int .i64 e2, .int .i64 f2, .int .i64 g2], .int .i64 0]) ∧ Below u.heap.size u w' := by
  have := Not_any la h.len u
  rw [h.wv] at this
  refine this.mono ?_
  rintro r w' ⟨rfl, hb⟩
  refine ⟨?_, hb⟩
  rw [show combM (fun x _ => 16777215 - x) la la = (combL fN la la, 0) from comb_ok h.v h.v, h2.wv]
end
/-- The second, or the spell, that integers determine, as natural numbers. -/
theorem pick_nat (t n : Int) (hn : 0 < n) : ∃ T : Nat, pickI t n = (T : Int) ∧ (T : Int) < n := by
  obtain ⟨h1, h2⟩ := pickI_lt t n hn
  obtain ⟨T, hT⟩ := Int.eq_ofNat_of_zero_le h1
  exact ⟨T, hT, by omega⟩
theorem pick_q (c n : Int) (hn : 0 < n) (hn2 : n ≤ 9223372036854775807) (h : I64 c) (w : World) : Calls Tryd.prog 8 #[.int .i64 c, .int .i64 n] w fun e w' => e = .returned (.int .i64 (pickI c n)) ∧ w' = w :=
  (pick_any c n hn hn2 h.1 h.2 w).mono fun _ _ ⟨h1, h2⟩ => ⟨h1, h2.symm⟩
theorem mk_nat (p q : Int) : ∃ x y : Nat, mkFrom p = (x : Int) ∧ mkTo p q = (y : Int) ∧ x < y ∧ y ≤ 10000000 := by
  obtain ⟨h1, h2, h3⟩ := (isSpl_iff _ _).1 (mk_spl p q)
  obtain ⟨x, hx⟩ := Int.eq_ofNat_of_zero_le h1
  obtain ⟨y, hy⟩ := Int.eq_ofNat_of_zero_le (show 0 ≤ mkTo p q by omega)
  exact ⟨x, y, hx, hy, by omega, by omega⟩
theorem hold7 {W u u' : World} {g : Nat} {c0 c1 c2 c3 c4 c5 c6 : Value} (h : Below W.heap.size W u ∧ u.cell? ⟨g, 0, none⟩ = some c0 ∧ u.cell? ⟨g, 1, none⟩ = some c1 ∧ u.cell? ⟨g, 2, none⟩ = some c2 ∧ u.cell? ⟨g, 3, none⟩ = some c3 ∧ u.cell? ⟨g, 4, none⟩ = some c4 ∧ u.cell? ⟨g, 5, none⟩ = some c5 ∧ u.cell? ⟨g, 6, none⟩ = some c6) (hb : Below u.heap.size u u') (hg : g < W.heap.size) :
    Below W.heap.size W u' ∧ u'.cell? ⟨g, 0, none⟩ = some c0 ∧ u'.cell? ⟨g, 1, none⟩ = some c1 ∧ u'.cell? ⟨g, 2, none⟩ = some c2 ∧ u'.cell? ⟨g, 3, none⟩ = some c3 ∧ u'.cell? ⟨g, 4, none⟩ = some c4 ∧ u'.cell? ⟨g, 5, none⟩ = some c5 ∧ u'.cell? ⟨g, 6, none⟩ = some c6 := by
  obtain ⟨a, h0, h1, h2, h3, h4, h5, h6⟩ := h
  have hs := a.size
  have hk : ∀ i, u'.cell? ⟨g, i, none⟩ = u.cell? ⟨g, i, none⟩ := fun i => hb.cell (by show g < _; omega)
  exact ⟨below_to a hb, (hk 0).trans h0, (hk 1).trans h1, (hk 2).trans h2, (hk 3).trans h3, (hk 4).trans h4, (hk 5).trans h5, (hk 6).trans h6⟩
end Go.Proofs.YtmfpaankkoaoaaaDoor
