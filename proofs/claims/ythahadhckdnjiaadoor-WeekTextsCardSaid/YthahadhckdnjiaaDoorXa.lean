/- Texts in plain words: the pieces of a text and their joining; sets as their runs. -/
import Derived.Test.YthahadhckdnjiaaDoorVo
import Derived.Lib.IndexMore
namespace Go.Proofs.YthahadhckdnjiaaDoor
open Go.RowKit Go.Shelf

theorem ba_ext {a b : ByteArray} (h : a.data.toList = b.data.toList) : a = b := by
  cases a; cases b
  congr
  exact Array.toList_inj.1 h
theorem occ_pre {c : UInt8} {tl p : List UInt8} (hp : c ∉ p) (r : List UInt8) (j : Nat) (hj : j < p.length) : Lib.occAt (p ++ r) (c :: tl) j = false := by
  unfold Lib.occAt
  rw [List.drop_append_of_le_length (by omega)]
  cases hd : p.drop j with
  | nil => have := congrArg List.length hd; rw [List.length_drop] at this; simp at this; omega
  | cons b q =>
    have hb : b ∈ p := List.mem_of_mem_drop (i := j) (by rw [hd]; simp)
    have hne : c ≠ b := fun e => hp (e ▸ hb)
    show (c == b && tl.isPrefixOf (q ++ r)) = false
    rw [beq_false_of_ne hne]; rfl
theorem occ_none {c : UInt8} {tl p : List UInt8} (hp : c ∉ p) (j : Nat) : Lib.occAt p (c :: tl) j = false := by
  by_cases hj : j < p.length
  · have := occ_pre (tl := tl) hp [] j hj
    rwa [List.append_nil] at this
  · unfold Lib.occAt
    rw [List.drop_eq_nil_of_le (by omega)]
    rfl
theorem cut_miss {c : UInt8} {tl p : List UInt8} (hp : c ∉ p) : Lib.cut p (c :: tl) = (p, [], false) := by
  unfold Lib.cut
  rw [Lib.index_none (fun j _ => occ_none hp j)]
  rfl
theorem cut_hit {c : UInt8} {tl p : List UInt8} (hp : c ∉ p) (r : List UInt8) : Lib.cut (p ++ ((c :: tl) ++ r)) (c :: tl) = (p, r, true) := by
  have hi : Lib.index (p ++ ((c :: tl) ++ r)) (c :: tl) = (p.length : Int) :=
    Lib.index_first (by simp) (by
      unfold Lib.occAt
      rw [List.drop_left]
      exact List.isPrefixOf_iff_prefix.2 (List.prefix_append _ _)) (fun j hj => occ_pre hp _ j hj)
  unfold Lib.cut
  rw [hi, if_pos (by omega)]
  have e : ((p.length : Int)).toNat = p.length := by omega
  rw [e, List.take_left, ← List.drop_drop, List.drop_left, List.drop_left]
theorem cut_whole (s sep : List UInt8) : ((Lib.cut s sep).2.2 = true ∧ s = (Lib.cut s sep).1 ++ (sep ++ (Lib.cut s sep).2.1)) ∨ ((Lib.cut s sep).2.2 = false ∧ s = (Lib.cut s sep).1) := by
  rcases Lib.index_spec s sep with ⟨h, -⟩ | ⟨i, h, hi, ho, -⟩
  · right
    unfold Lib.cut
    rw [h]
    exact ⟨rfl, rfl⟩
  · left
    unfold Lib.cut
    rw [h, if_pos (by omega)]
    refine ⟨rfl, ?_⟩
    unfold Lib.occAt at ho
    obtain ⟨r, hr⟩ := List.isPrefixOf_iff_prefix.1 ho
    have e : ((i : Int)).toNat = i := by omega
    show s = s.take (i : Int).toNat ++ (sep ++ s.drop ((i : Int).toNat + sep.length))
    rw [e, ← List.drop_drop, ← hr, List.drop_left, hr, List.take_append_drop]
theorem cut_of {s sep : ByteArray} {a b : List UInt8} {t : Bool} (h : Lib.cut s.data.toList sep.data.toList = (a, b, t)) : cut1 s sep = ⟨a.toArray⟩ ∧ cut2 s sep = ⟨b.toArray⟩ ∧ cut3 s sep = t := by
  unfold cut1 cut2 cut3; rw [h]; exact ⟨rfl, rfl, rfl⟩
theorem cutB_true {s sep : ByteArray} (h : cut3 s sep = true) : s.data.toList = (cut1 s sep).data.toList ++ (sep.data.toList ++ (cut2 s sep).data.toList) := by
  rcases cut_whole s.data.toList sep.data.toList with ⟨_, h2⟩ | ⟨h1, _⟩
  · exact h2
  · unfold cut3 at h; rw [h1] at h; cases h
theorem cutB_false {s sep : ByteArray} (h : cut3 s sep = false) : cut1 s sep = s := by
  rcases cut_whole s.data.toList sep.data.toList with ⟨h1, _⟩ | ⟨_, h2⟩
  · unfold cut3 at h; rw [h1] at h; cases h
  · exact ba_ext h2.symm
theorem join_two (x y : List UInt8) (l : List (List UInt8)) (sep : List UInt8) : Lib.join (x :: y :: l) sep = x ++ (sep ++ Lib.join (y :: l) sep) := by simp [Lib.join, List.intercalate]
theorem ptl_join {sep : ByteArray} {c : UInt8} {tl : List UInt8} (hs : sep.data.toList = c :: tl) : ∀ (L : List ByteArray) (f : Nat), L ≠ [] → (∀ x ∈ L, c ∉ x.data.toList) → L.length ≤ f → ptl sep f ⟨(Lib.join (L.map (·.data.toList)) (c :: tl)).toArray⟩ = L
  | [], _, h, _, _ => absurd rfl h
  | [x], f, _, hx, hf => by
    have hc : Lib.cut (⟨(Lib.join ([x].map (·.data.toList)) (c :: tl)).toArray⟩ : ByteArray).data.toList sep.data.toList = (x.data.toList, [], false) := by
      rw [hs]
      simp only [List.map_cons, List.map_nil, Lib.join_one]
      exact cut_miss (hx x (by simp))
    obtain ⟨h1, -, h3⟩ := cut_of hc
    rw [ptl_cons _ _ _ (by simp at hf; omega), h1, h3]
    rfl
  | x :: y :: l, f, _, hx, hf => by
    have hc : Lib.cut (⟨(Lib.join ((x :: y :: l).map (·.data.toList)) (c :: tl)).toArray⟩ : ByteArray).data.toList sep.data.toList = (x.data.toList, Lib.join ((y :: l).map (·.data.toList)) (c :: tl), true) := by
      rw [hs]
      simp only [List.map_cons, join_two]
      exact cut_hit (hx x (by simp)) _
    obtain ⟨h1, h2, h3⟩ := cut_of hc
    rw [ptl_cons _ _ _ (by simp at hf; omega), h1, h2, h3, if_pos rfl]
    rw [ptl_join hs (y :: l) (f - 1) (by simp) (fun z hz => hx z (by simp [hz])) (by simp at hf ⊢; omega)]
theorem ptl_ne (sep : ByteArray) (f : Nat) (s : ByteArray) (hf : 0 < f) : ∃ x L, ptl sep f s = x :: L := by
  rw [ptl_cons _ _ _ hf]
  exact ⟨_, _, rfl⟩
theorem join_ptl {sep : ByteArray} (h0 : sep.data.toList ≠ []) : ∀ (f : Nat) (s : ByteArray), s.size < f → Lib.join ((ptl sep f s).map (·.data.toList)) sep.data.toList = s.data.toList
  | 0, _, h => by omega
  | f + 1, s, h => by
    rw [ptl_cons _ _ _ (by omega)]
    cases h3 : cut3 s sep with
    | false =>
      rw [if_neg (by simp), cutB_false h3]
      exact Lib.join_one _ _
    | true =>
      have hlt := cut2_lt s sep h0 h3
      obtain ⟨x, L, hx⟩ := ptl_ne sep f (cut2 s sep) (by omega)
      have ih := join_ptl h0 f (cut2 s sep) (by omega)
      rw [if_pos rfl, show f + 1 - 1 = f from rfl, hx]
      rw [hx] at ih
      simp only [List.map_cons] at ih ⊢
      rw [join_two, ih, ← cutB_true h3]
theorem join_many : ∀ (L : List (List UInt8)) (c : UInt8) (tl : List UInt8), L.length ≤ (Lib.join L (c :: tl)).length + 1
  | [], _, _ => by simp
  | [x], _, _ => by simp
  | x :: y :: l, c, tl => by
    have := join_many (y :: l) c tl
    rw [join_two]
    simp only [List.length_append, List.length_cons] at this ⊢
    omega
theorem join_mem {c : UInt8} : ∀ (L : List (List UInt8)) (sep : List UInt8), c ∉ sep → (∀ x ∈ L, c ∉ x) → c ∉ Lib.join L sep
  | [], _, _, _ => by simp [Lib.join]
  | [x], sep, _, h => by rw [Lib.join_one]; exact h x (by simp)
  | x :: y :: l, sep, hs, h => by
    have ih := join_mem (y :: l) sep hs (fun z hz => h z (by simp [hz]))
    rw [join_two, List.mem_append, List.mem_append]
    rintro (h1 | h1 | h1)
    · exact h x (by simp) h1
    · exact hs h1
    · exact ih h1

/-! Sets as runs. -/
theorem bit_run (a b i : Nat) (h : a ≤ b) : (2 ^ b - 2 ^ a).testBit i = (decide (a ≤ i) && decide (i < b)) := by
  have e : 2 ^ b - 2 ^ a = 2 ^ a * (2 ^ (b - a) - 1) := by
    rw [Nat.mul_sub, ← Nat.pow_add, show a + (b - a) = b by omega, Nat.mul_one]
  rw [e, Nat.testBit_two_pow_mul, Nat.testBit_two_pow_sub_one]
  by_cases h1 : a ≤ i
  · rw [decide_eq_true (show i ≥ a from h1), Bool.true_and, Bool.true_and]
    congr 1
    exact propext ⟨fun _ => by omega, fun _ => by omega⟩
  · rw [decide_eq_false (show ¬ i ≥ a from h1)]; rfl
def unR : List (Nat × Nat) → Nat
  | [] => 0
  | r :: R => (2 ^ r.2 - 2 ^ r.1) ||| unR R
def inR (R : List (Nat × Nat)) (i : Nat) : Bool := R.any fun r => decide (r.1 ≤ i) && decide (i < r.2)
/-- Runs in order, with gaps, from behind e on, up to N. -/
def Chn (N : Nat) : Int → List (Nat × Nat) → Prop
  | _, [] => True
  | e, r :: R => e < (r.1 : Int) ∧ r.1 < r.2 ∧ r.2 ≤ N ∧ Chn N (r.2 : Int) R
theorem unR_bit {N : Nat} : ∀ {R : List (Nat × Nat)} {e : Int}, Chn N e R → ∀ i, (unR R).testBit i = inR R i
  | [], _, _, i => by simp [unR, inR]
  | r :: R, e, ⟨h1, h2, h3, h4⟩, i => by
    show ((2 ^ r.2 - 2 ^ r.1) ||| unR R).testBit i = ((decide (r.1 ≤ i) && decide (i < r.2)) || inR R i)
    rw [Nat.testBit_or, bit_run _ _ _ (by omega), unR_bit h4]
theorem chn_low {N : Nat} : ∀ {R : List (Nat × Nat)} {e : Int}, Chn N e R → ∀ i : Nat, (i : Int) ≤ e → inR R i = false
  | [], _, _, _, _ => rfl
  | r :: R, e, ⟨h1, h2, h3, h4⟩, i, hi => by
    show ((decide (r.1 ≤ i) && decide (i < r.2)) || inR R i) = false
    rw [decide_eq_false (by omega), chn_low h4 i (by omega)]; rfl
theorem chn_high {N : Nat} : ∀ {R : List (Nat × Nat)} {e : Int}, Chn N e R → ∀ i : Nat, N ≤ i → inR R i = false
  | [], _, _, _, _ => rfl
  | r :: R, e, ⟨h1, h2, h3, h4⟩, i, hi => by
    show ((decide (r.1 ≤ i) && decide (i < r.2)) || inR R i) = false
    rw [decide_eq_false (show ¬ i < r.2 by omega), chn_high h4 i hi, Bool.and_false]; rfl
theorem tiles_ext {p q : Nat → Bool} : ∀ {L : List (Nat × Nat)} {a b : Nat}, (∀ t, a ≤ t → t < b → p t = q t) → Tiles p L a b → Tiles q L a b
  | [], _, _, h, ht => fun t h1 h2 => (h t h1 h2).symm.trans (ht t h1 h2)
  | (x, y) :: L, a, b, h, ⟨h1, h2, h3, h4, h5, h6⟩ => ⟨h1, h2, h3, fun t g1 g2 => (h t g1 (by omega)).symm.trans (h4 t g1 g2), fun t g1 g2 => (h t (by omega) (by omega)).symm.trans (h5 t g1 g2), tiles_ext (fun t g1 g2 => h t (by omega) g2) h6⟩
theorem chn_tiles {N : Nat} : ∀ {R : List (Nat × Nat)} {e : Int} {a : Nat}, Chn N e R → (a : Int) ≤ e + 1 → a ≤ N → Tiles (inR R) R a N
  | [], _, _, _, _, _ => fun t _ _ => rfl
  | (x, y) :: R, e, a, h, ha, haN => by
    obtain ⟨h1, h2, h3, h4⟩ := id h
    dsimp only at h1 h2 h3 h4
    refine ⟨by omega, h2, h3, fun t g1 g2 => ?_, fun t g1 g2 => ?_, ?_⟩
    · show ((decide (x ≤ t) && decide (t < y)) || inR R t) = false
      rw [decide_eq_false (by omega), chn_low h4 t (by omega)]; rfl
    · show ((decide (x ≤ t) && decide (t < y)) || inR R t) = true
      rw [decide_eq_true g1, decide_eq_true g2]; rfl
    · refine tiles_ext (fun t g1 g2 => ?_) (chn_tiles (a := y) h4 (by omega) h3)
      show inR R t = ((decide (x ≤ t) && decide (t < y)) || inR R t)
      rw [decide_eq_false (show ¬ t < y by omega), Bool.and_false]; rfl
theorem chn_gaps {N : Nat} : ∀ {R : List (Nat × Nat)} {e : Int}, Chn N e R → Gaps R
  | [], _, _ => trivial
  | (x, y) :: R, e, ⟨h1, h2, h3, h4⟩ => by
    refine ⟨fun q hq => ?_, chn_gaps h4⟩
    cases R with
    | nil => cases hq
    | cons r R => cases hq; have := h4.1; dsimp only at this; omega
theorem chn_of {p : Nat → Bool} {N : Nat} : ∀ {R : List (Nat × Nat)} {e : Int} {a b : Nat}, Tiles p R a b → Gaps R → (∀ q ∈ R, q.2 ≤ N) → (∀ q, R.head? = some q → e < (q.1 : Int)) → Chn N e R
  | [], _, _, _, _, _, _, _ => trivial
  | (x, y) :: R, e, a, b, ⟨h1, h2, h3, h4, h5, h6⟩, ⟨g1, g2⟩, hN, he =>
    ⟨he (x, y) rfl, h2, hN (x, y) (by simp), chn_of h6 g2 (fun q hq => hN q (by simp [hq])) (fun q hq => by have := g1 q hq; show ((y : Nat) : Int) < _; omega)⟩
theorem tiles_uniq {p : Nat → Bool} : ∀ {L M : List (Nat × Nat)} {a b : Nat}, Tiles p L a b → Gaps L → Tiles p M a b → Gaps M → L = M
  | [], [], _, _, _, _, _, _ => rfl
  | [], (x, y) :: M, a, b, h, _, ⟨h1, h2, h3, h4, h5, h6⟩, _ => by
    have e1 := h x h1 (by omega)
    rw [h5 x (Nat.le_refl _) h2] at e1; cases e1
  | (x, y) :: L, [], a, b, ⟨h1, h2, h3, h4, h5, h6⟩, _, h, _ => by
    have e1 := h x h1 (by omega)
    rw [h5 x (Nat.le_refl _) h2] at e1; cases e1
  | (x, y) :: L, (u, v) :: M, a, b, ⟨h1, h2, h3, h4, h5, h6⟩, ⟨g1, g2⟩, ⟨k1, k2, k3, k4, k5, k6⟩, ⟨j1, j2⟩ => by
    have ends : ∀ {y v b : Nat} {L : List (Nat × Nat)}, Tiles p L y b → (∀ q, L.head? = some q → y < q.1) → y < v → v ≤ b → p y = true → False := by
      intro y v b L h6 g1 hlt hv hp
      cases L with
      | nil => rw [h6 y (Nat.le_refl _) (by omega)] at hp; cases hp
      | cons q L =>
        obtain ⟨m, n⟩ := q
        have := g1 (m, n) rfl
        rw [h6.2.2.2.1 y (Nat.le_refl _) this] at hp; cases hp
    have e1 : x = u := by
      rcases Nat.lt_trichotomy x u with h | h | h
      · have e := k4 x h1 h; rw [h5 x (Nat.le_refl _) h2] at e; cases e
      · exact h
      · have e := h4 u k1 h; rw [k5 u (Nat.le_refl _) k2] at e; cases e
    subst e1
    have e2 : y = v := by
      rcases Nat.lt_trichotomy y v with h | h | h
      · exact (ends h6 g1 h k3 (k5 y (by omega) h)).elim
      · exact h
      · exact (ends k6 j1 h h3 (h5 v (by omega) h)).elim
    subst e2
    rw [tiles_uniq h6 g2 k6 j2]
theorem rto_zero (s a : Nat) (hs : s ≤ 16777215) (_ : a < 24) (ho : (s / 2 ^ a) % 2 = 1) : s.testBit (rto s a) = false := by
  have h0 : 18446744073709551615 - s / 2 ^ a ≠ 0 := by
    have : s / 2 ^ a ≤ s := Nat.div_le_self _ _
    omega
  obtain ⟨m, hm⟩ := ctz_spec (18446744073709551615 - s / 2 ^ a) h0 (Nat.lt_of_le_of_lt (Nat.sub_le _ _) (by decide))
  unfold rto
  generalize Lib.ctz 64 (18446744073709551615 - s / 2 ^ a) = k at *
  have hq : s / 2 ^ a < 2 ^ 64 := Nat.lt_of_le_of_lt (Nat.div_le_self _ _) (by omega)
  have h1 := Nat.testBit_two_pow_sub_succ hq k
  rw [show 2 ^ 64 - (s / 2 ^ a + 1) = 18446744073709551615 - s / 2 ^ a by omega, hm] at h1
  rw [Nat.testBit_two_pow_mul, decide_eq_true (Nat.le_refl k), Nat.sub_self, Nat.testBit_zero] at h1
  have h2 : (2 * m + 1) % 2 = 1 := by omega
  rw [h2] at h1
  simp at h1
  rw [Nat.add_comm, ← Nat.testBit_div_two_pow]
  exact h1.2
theorem gaps_rl (s : Nat) (hs : s ≤ 16777215) : ∀ (f e : Nat), e ≤ 24 → Gaps (rl f s e)
  | 0, _, _ => trivial
  | f + 1, e, he => by
    by_cases h0 : s / 2 ^ e = 0
    · rw [rl_nil _ _ _ h0]; trivial
    · rw [rl_cons _ _ _ h0 (by omega)]
      obtain ⟨f1, f2, f3⟩ := rfrom_facts s e hs he h0
      obtain ⟨t1, t2⟩ := rto_facts s (rfrom s e) hs f2 f3
      refine ⟨fun q hq => ?_, gaps_rl s hs f _ t2⟩
      have hz := rto_zero s (rfrom s e) hs f2 f3
      show rto s (rfrom s e) < q.1
      generalize rto s (rfrom s e) = y at *
      rw [show f + 1 - 1 = f from rfl] at hq
      cases f with
      | zero => cases hq
      | succ f =>
        by_cases hy : s / 2 ^ y = 0
        · rw [rl_nil _ _ _ hy] at hq; cases hq
        · rw [rl_cons _ _ _ hy (by omega)] at hq
          cases hq
          obtain ⟨g1, g2, g3⟩ := rfrom_facts s y hs t2 hy
          show y < rfrom s y
          rcases Nat.lt_or_eq_of_le g1 with h | h
          · exact h
          · rw [← h] at g3
            rw [Nat.testBit_eq_decide_div_mod_eq, g3] at hz
            cases hz
theorem rl_chn (s N : Nat) (hs : s ≤ 16777215) (hN : ∀ q ∈ rl 25 s 0, q.2 ≤ N) : Chn N (-1) (rl 25 s 0) :=
  chn_of (tiles_rl s hs 25 0 (by omega) (by omega)) (gaps_rl s hs 25 0 (by omega)) hN (fun q _ => by omega)
theorem unR_rl (s : Nat) (hs : s ≤ 16777215) : unR (rl 25 s 0) = s := by
  have hc := rl_chn s 24 hs (fun q hq => (rl_mem s hs 25 0 (by omega) q hq).2.2)
  have ht := chn_tiles (a := 0) hc (by omega) (by omega)
  have hr := tiles_rl s hs 25 0 (by omega) (by omega)
  apply Nat.eq_of_testBit_eq
  intro i
  rw [unR_bit hc]
  by_cases hi : i < 24
  · have two : ∀ {p q : Nat → Bool} {L : List (Nat × Nat)} {a b : Nat}, Tiles p L a b → Tiles q L a b → ∀ t, a ≤ t → t < b → p t = q t := by
      intro p q L
      induction L with
      | nil => intro a b h h' t g1 g2; rw [h t g1 g2, h' t g1 g2]
      | cons r L ih =>
        obtain ⟨x, y⟩ := r
        rintro a b ⟨h1, h2, h3, h4, h5, h6⟩ ⟨k1, k2, k3, k4, k5, k6⟩ t g1 g2
        by_cases c1 : t < x
        · rw [h4 t g1 c1, k4 t g1 c1]
        · by_cases c2 : t < y
          · rw [h5 t (by omega) c2, k5 t (by omega) c2]
          · exact ih h6 k6 t (by omega) g2
    exact two ht hr i (by omega) hi
  · rw [chn_high hc i (by omega), Nat.testBit_lt_two_pow (Nat.lt_of_lt_of_le (show s < 2 ^ 24 by omega) (Nat.pow_le_pow_right (by decide) (by omega)))]
theorem unR_lt {N : Nat} {R : List (Nat × Nat)} {e : Int} (h : Chn N e R) : unR R < 2 ^ N := by
  apply Nat.lt_pow_two_of_testBit
  intro i hi
  rw [unR_bit h, chn_high h i hi]
theorem rl_unR {N : Nat} (hN : N ≤ 24) {R : List (Nat × Nat)} (h : Chn N (-1) R) : rl 25 (unR R) 0 = R := by
  have hlt := unR_lt h
  have h24 : (2 : Nat) ^ N ≤ 2 ^ 24 := Nat.pow_le_pow_right (by decide) hN
  have h' : Chn 24 (-1) R := by
    have : ∀ {R : List (Nat × Nat)} {e : Int}, Chn N e R → Chn 24 e R := by
      intro R
      induction R with
      | nil => intro e _; trivial
      | cons r R ih => rintro e ⟨h1, h2, h3, h4⟩; exact ⟨h1, h2, by omega, ih h4⟩
    exact this h
  have ht := tiles_ext (q := fun i => (unR R).testBit i) (fun t _ _ => (unR_bit h t).symm) (chn_tiles (a := 0) h' (by omega) (by omega))
  exact tiles_uniq (tiles_rl _ (by omega) 25 0 (by omega) (by omega)) (gaps_rl _ (by omega) 25 0 (by omega)) ht (chn_gaps h)
/-- Reading what was written. -/
theorem read_write {N : Nat} {rd : ByteArray → Int × Int} {wr : Nat → Nat → ByteArray} (hrw : ∀ a b, a < b → b ≤ N → rd (wr a b) = ((a : Int), (b : Int))) : ∀ (R : List (Nat × Nat)) (s : Nat) (e : Int), Chn N e R → rdStep rd (R.map fun r => wr r.1 r.2) s e = s ||| unR R
  | [], s, _, _ => by simp [rdStep, unR]
  | r :: R, s, e, ⟨h1, h2, h3, h4⟩ => by
    have hr := hrw r.1 r.2 h2 h3
    rw [List.map_cons, rdStep_ok (by rw [hr]; dsimp only; omega), hr]
    dsimp only
    rw [read_write hrw R _ _ h4, Int.toNat_natCast, Int.toNat_natCast, unR, Nat.or_assoc]
/-- What was read had been written so. -/
theorem write_read {N : Nat} {rd : ByteArray → Int × Int} {wr : Nat → Nat → ByteArray} (hi : ∀ x, ¬ (rd x).2 ≤ (rd x).1 → ∃ a b : Nat, a < b ∧ b ≤ N ∧ rd x = ((a : Int), (b : Int)) ∧ x = wr a b) : ∀ (L : List ByteArray) (s : Nat) (e : Int), rdStep rd L s e ≠ 0 → ∃ R, Chn N e R ∧ L = (R.map fun r => wr r.1 r.2) ∧ rdStep rd L s e = s ||| unR R
  | [], s, e, _ => ⟨[], trivial, rfl, by simp [rdStep, unR]⟩
  | x :: L, s, e, h => by
    by_cases hb : (rd x).2 ≤ (rd x).1 ∨ (rd x).1 ≤ e
    · exact absurd (rdStep_bad hb) h
    · obtain ⟨a, b, h1, h2, h3, h4⟩ := hi x (fun hh => hb (.inl hh))
      rw [rdStep_ok hb] at h ⊢
      rw [h3] at h hb ⊢
      dsimp only at h hb ⊢
      obtain ⟨R, r1, r2, r3⟩ := write_read hi L _ _ h
      refine ⟨(a, b) :: R, ⟨by dsimp only; omega, h1, h2, r1⟩, by rw [r2, h4]; rfl, ?_⟩
      rw [r3, Int.toNat_natCast, Int.toNat_natCast, unR, Nat.or_assoc]
theorem runs_read {N : Nat} {rd : ByteArray → Int × Int} {wr : Nat → Nat → ByteArray} (hrw : ∀ a b, a < b → b ≤ N → rd (wr a b) = ((a : Int), (b : Int))) (s : Nat) (hs : s ≤ 16777215) (hN : ∀ q ∈ rl 25 s 0, q.2 ≤ N) : rdStep rd ((rl 25 s 0).map fun r => wr r.1 r.2) 0 (-1) = s := by
  rw [read_write hrw _ _ _ (rl_chn s N hs hN), unR_rl s hs, Nat.zero_or]
theorem runs_write {N : Nat} (hN : N ≤ 24) {rd : ByteArray → Int × Int} {wr : Nat → Nat → ByteArray} (hi : ∀ x, ¬ (rd x).2 ≤ (rd x).1 → ∃ a b : Nat, a < b ∧ b ≤ N ∧ rd x = ((a : Int), (b : Int)) ∧ x = wr a b) (L : List ByteArray) (h : rdStep rd L 0 (-1) ≠ 0) : L = ((rl 25 (rdStep rd L 0 (-1)) 0).map fun r => wr r.1 r.2) ∧ rdStep rd L 0 (-1) < 2 ^ N := by
  obtain ⟨R, h1, h2, h3⟩ := write_read hi L 0 (-1) h
  rw [h3, Nat.zero_or]
  exact ⟨by rw [rl_unR hN h1]; exact h2, unR_lt h1⟩
end Go.Proofs.YthahadhckdnjiaaDoor
