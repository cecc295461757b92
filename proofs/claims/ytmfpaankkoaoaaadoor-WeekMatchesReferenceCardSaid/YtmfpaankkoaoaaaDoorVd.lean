/- The runs of a set tile its bits; spells that touch are joined. -/
import Derived.Test.YtmfpaankkoaoaaaDoorVc
namespace Go.Proofs.YtmfpaankkoaoaaaDoor
open Go.RowKit

theorem bits_low {x : Nat} (k m : Nat) (hx : x = 2 ^ k * (2 * m + 1)) (i : Nat) (hi : i < k) : x.testBit i = false := by
  rw [hx, Nat.testBit_two_pow_mul, decide_eq_false (by omega)]; rfl
theorem rfrom_zero (s e : Nat) (hs : s ≤ 16777215) (h0 : s / 2 ^ e ≠ 0) (t : Nat) (h1 : e ≤ t) (h2 : t < rfrom s e) : s.testBit t = false := by
  obtain ⟨m, hm⟩ := ctz_spec (s / 2 ^ e) h0 (Nat.lt_of_le_of_lt (Nat.div_le_self _ _) (by omega))
  have := bits_low _ m hm (t - e) (by unfold rfrom at h2; omega)
  rw [Nat.testBit_div_two_pow, show t - e + e = t by omega] at this
  exact this
theorem rto_ones (s a : Nat) (hs : s ≤ 16777215) (ha : a < 24) (ho : (s / 2 ^ a) % 2 = 1) (t : Nat) (h1 : a ≤ t) (h2 : t < rto s a) : s.testBit t = true := by
  have hb := (rto_facts s a hs ha ho).2
  have hy : s / 2 ^ a < 16777216 := Nat.lt_of_le_of_lt (Nat.div_le_self _ _) (by omega)
  have h2' : t < a + Lib.ctz 64 (18446744073709551615 - s / 2 ^ a) := h2
  have hd : (s / 2 ^ a).testBit (t - a) = s.testBit (t - a + a) := Nat.testBit_div_two_pow ..
  obtain ⟨y, hyy⟩ : ∃ y, s / 2 ^ a = y := ⟨_, rfl⟩
  rw [hyy] at hy h2' hd ho
  obtain ⟨m, hm⟩ := ctz_spec (18446744073709551615 - y) (by omega) (by omega)
  have h3 := bits_low _ m hm (t - a) (by omega)
  rw [show 18446744073709551615 - y = 2 ^ 64 - (y + 1) by omega, Nat.testBit_two_pow_sub_succ (show y < 2 ^ 64 by omega), hd, show t - a + a = t by omega, decide_eq_true (show t - a < 64 by omega)] at h3
  simpa using h3
theorem tiles_rl (s : Nat) (hs : s ≤ 16777215) (f : Nat) : ∀ e, e ≤ 24 → 25 ≤ e + f → Tiles (fun i => s.testBit i) (rl f s e) e 24 := by
  induction f with
  | zero => intro e h1 h2; omega
  | succ f ih =>
    intro e h1 h2
    by_cases h0 : s / 2 ^ e = 0
    · rw [rl_nil _ _ _ h0]
      intro t g1 g2
      have : (s / 2 ^ e).testBit (t - e) = false := by rw [h0]; exact Nat.zero_testBit _
      rw [Nat.testBit_div_two_pow, show t - e + e = t by omega] at this
      exact this
    · obtain ⟨f1, f2, f3⟩ := rfrom_facts s e hs h1 h0
      obtain ⟨f4, f5⟩ := rto_facts s _ hs f2 f3
      have h3 := ih (rto s (rfrom s e)) f5 (by omega)
      rw [rl_cons _ _ _ h0 (by omega), Nat.add_sub_cancel]
      exact tiles_cons f1 f4 f5 (fun t g1 g2 => rfrom_zero s e hs h0 t g1 g2) (fun t g1 g2 => rto_ones s _ hs f2 f3 t g1 g2) h3

/-- The pieces that the week l has of [a, b). -/
def pcs (l : List Int) (a b : Nat) : List (Nat × Nat) := pcl (fun k => rl 25 (hrs l k) 0) a b (117 - a / 86400) (a / 86400)
theorem tiles_pcs (l : List Int) (h7 : l.length = 7) (hv : validW l = true) (a b : Nat) (hb : b ≤ 10000000) (hab : a < b) : Tiles (hasS l) (pcs l a b) a b := by
  have h := tiles_pcl (H := fun k => rl 25 (hrs l k) 0) (s := fun k => hrs l k) (fun k => tiles_rl _ (by
    by_cases hk : k < 7
    · exact (hrs_at hv (show k < l.length by omega)).2
    · simp [hrs, List.getElem?_eq_none (show l.length ≤ k by omega)]) 25 0 (by omega) (by omega)) a b hb (117 - a / 86400) (a / 86400) (by omega) (by omega)
  rw [show max a (a / 86400 * 86400) = a by omega] at h
  exact h

/-- A further piece: it makes the last spell longer if it touches it. -/
def addSp (out : List (Nat × Nat)) (p : Nat × Nat) : List (Nat × Nat) :=
  match out.getLast? with
  | some q => if q.2 = p.1 then out.dropLast ++ [(q.1, p.2)] else out ++ [p]
  | none => [p]
theorem addSp_nil (p : Nat × Nat) : addSp [] p = [p] := rfl
theorem addSp_join (out : List (Nat × Nat)) (q p : Nat × Nat) (h : q.2 = p.1) : addSp (out ++ [q]) p = out ++ [(q.1, p.2)] := by
  unfold addSp; rw [List.getLast?_concat]; simp [h]
theorem addSp_more (out : List (Nat × Nat)) (q p : Nat × Nat) (h : q.2 ≠ p.1) : addSp (out ++ [q]) p = out ++ [q] ++ [p] := by
  unfold addSp; rw [List.getLast?_concat]; simp [h]
theorem tiles_split {p : Nat → Bool} : ∀ {L M : List (Nat × Nat)} {a b : Nat}, Tiles p (L ++ M) a b → a ≤ b → ∃ c, a ≤ c ∧ c ≤ b ∧ Tiles p L a c ∧ Tiles p M c b ∧ (L = [] → c = a) ∧ (∀ q, L.getLast? = some q → c = q.2)
  | [], M, a, b, h, hab => ⟨a, Nat.le_refl _, hab, fun t h1 h2 => by omega, h, fun _ => rfl, fun q e => by cases e⟩
  | (x, y) :: L, M, a, b, ⟨h1, h2, h3, h4, h5, h6⟩, hab => by
    obtain ⟨c, k1, k2, k3, k4, k5, k6⟩ := tiles_split (L := L) h6 h3
    refine ⟨c, by omega, k2, ⟨h1, h2, k1, h4, h5, k3⟩, k4, fun e => (by cases e), fun q e => ?_⟩
    cases L with
    | nil => rw [k5 rfl]; simp at e; rw [← e]
    | cons r L => exact k6 q (by rwa [List.getLast?_cons_cons] at e)
/-- Between two neighbours there is a number. -/
def Gaps : List (Nat × Nat) → Prop
  | [] => True
  | (_, y) :: L => (∀ q, L.head? = some q → y < q.1) ∧ Gaps L
theorem gaps_snoc : ∀ {L : List (Nat × Nat)} {p : Nat × Nat}, Gaps L → (∀ q, L.getLast? = some q → q.2 < p.1) → Gaps (L ++ [p])
  | [], p, _, _ => ⟨fun q e => (by cases e), trivial⟩
  | (x, y) :: L, p, ⟨h1, h2⟩, h => by
    cases L with
    | nil => exact ⟨fun q e => by cases e; exact h _ rfl, gaps_snoc (L := []) trivial (fun q e => (by cases e))⟩
    | cons r L => exact ⟨h1, gaps_snoc (L := r :: L) h2 (fun q e => h q (by rwa [List.getLast?_cons_cons]))⟩
theorem gaps_turn : ∀ {L : List (Nat × Nat)} {x y z : Nat}, Gaps (L ++ [(x, y)]) → Gaps (L ++ [(x, z)])
  | [], x, y, z, _ => ⟨fun q e => (by cases e), trivial⟩
  | (u, v) :: L, x, y, z, ⟨h1, h2⟩ => by
    refine ⟨fun q e => ?_, gaps_turn (L := L) h2⟩
    cases L with
    | nil => cases e; exact h1 (x, y) rfl
    | cons r L => exact h1 q e
theorem spells_fold {p : Nat → Bool} {a b : Nat} (hab : a ≤ b) : ∀ (rest out : List (Nat × Nat)), Tiles p (out ++ rest) a b → Gaps out → Tiles p (rest.foldl addSp out) a b ∧ Gaps (rest.foldl addSp out)
  | [], out, h, hg => ⟨by rwa [List.append_nil] at h, hg⟩
  | (x, y) :: rest, out, h, hg => by
    rcases List.eq_nil_or_concat out with rfl | ⟨init, ⟨u, v⟩, rfl⟩
    · exact spells_fold hab rest [(x, y)] h ⟨fun q e => (by cases e), trivial⟩
    · rw [List.concat_eq_append] at h hg ⊢
      obtain ⟨c, k1, k2, k3, k4, k5, k6⟩ := tiles_split h hab
      have hc : c = v := k6 (u, v) (by simp)
      subst hc
      obtain ⟨j1, j2, j3, j4, j5, j6⟩ := k4
      by_cases e : c = x
      · subst e
        show Tiles p (rest.foldl addSp (addSp (init ++ [(u, c)]) (c, y))) a b ∧ Gaps (rest.foldl addSp (addSp (init ++ [(u, c)]) (c, y)))
        rw [addSp_join _ _ _ rfl]
        refine spells_fold hab rest _ ?_ (gaps_turn hg)
        rw [List.append_assoc] at h ⊢
        obtain ⟨d, m1, m2, m3, ⟨n1, n2, n3, n4, n5, n6, n7, n8, n9, n10, n11⟩, m5, m6⟩ := tiles_split h hab
        exact tiles_append m3 (tiles_cons n1 (by dsimp only; omega) n8 n4 (fun t g1 g2 => if ht : t < c then n5 t g1 ht else n10 t (by omega) g2) n11) m1 m2
      · show Tiles p (rest.foldl addSp (addSp (init ++ [(u, c)]) (x, y))) a b ∧ Gaps (rest.foldl addSp (addSp (init ++ [(u, c)]) (x, y)))
        rw [addSp_more _ _ _ e]
        refine spells_fold hab rest _ (by rwa [List.append_assoc (init ++ [(u, c)])]) (gaps_snoc hg (fun q hq => ?_))
        rw [List.getLast?_concat] at hq
        cases hq
        show c < x
        omega
end Go.Proofs.YtmfpaankkoaoaaaDoor
