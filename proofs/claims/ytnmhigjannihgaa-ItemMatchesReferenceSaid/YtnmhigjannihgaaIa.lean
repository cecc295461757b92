/- Plain mathematics of recordings: parts, what comes before a second, places. -/
import Derived.Lib.Hide
namespace Go.Proofs.Ytnmhigjannihgaa

/-- A list of parts of a recording, from a second on. -/
def partsF (len : Int) : Int → List (Int × Int) → Prop
  | _, [] => True
  | e, q :: l => e ≤ q.1 ∧ q.1 < q.2 ∧ q.2 ≤ len ∧ partsF len q.2 l
/-- The fold of areParts: whether all is well so far, and the end of the last part. -/
def parSt (len : Int) (s : Bool × Int) (q : Int × Int) : Bool × Int := (s.1 && decide (s.2 ≤ q.1) && decide (q.1 < q.2) && decide (q.2 ≤ len), q.2)
def parB (len : Int) (l : List (Int × Int)) : Bool := (l.foldl (parSt len) (true, 0)).1
theorem parSt_false (len : Int) : ∀ (l : List (Int × Int)) (e : Int), (l.foldl (parSt len) (false, e)).1 = false
  | [], _ => rfl
  | q :: l, e => by
    show (l.foldl (parSt len) (parSt len (false, e) q)).1 = false
    have : parSt len (false, e) q = (false, q.2) := by simp [parSt]
    rw [this]; exact parSt_false len l _
theorem parF_iff (len : Int) : ∀ (l : List (Int × Int)) (e : Int), (l.foldl (parSt len) (true, e)).1 = true ↔ partsF len e l
  | [], _ => by simp [partsF]
  | q :: l, e => by
    show (l.foldl (parSt len) (parSt len (true, e) q)).1 = true ↔ _
    by_cases h : e ≤ q.1 ∧ q.1 < q.2 ∧ q.2 ≤ len
    · have : parSt len (true, e) q = (true, q.2) := by simp [parSt, h.1, h.2.1, h.2.2]
      rw [this, parF_iff len l]
      simp only [partsF]
      exact ⟨fun k => ⟨h.1, h.2.1, h.2.2, k⟩, fun k => k.2.2.2⟩
    · have : parSt len (true, e) q = (false, q.2) := by
        simp only [parSt, Bool.true_and, Prod.mk.injEq, and_true]
        by_cases h1 : e ≤ q.1
        · by_cases h2 : q.1 < q.2
          · rw [decide_eq_false (show ¬ q.2 ≤ len from fun h3 => h ⟨h1, h2, h3⟩)]; simp
          · rw [decide_eq_false h2]; simp
        · rw [decide_eq_false h1]; simp
      rw [this, parSt_false]
      simp only [Bool.false_eq_true, false_iff, partsF]
      exact fun k => h ⟨k.1, k.2.1, k.2.2.1⟩
theorem parB_iff (len : Int) (l : List (Int × Int)) : parB len l = true ↔ partsF len 0 l := parF_iff len l 0
/-- How much of a part comes before a second. -/
def ov (s : Int) (q : Int × Int) : Int := min (max (s - q.1) 0) (q.2 - q.1)
def befS (s n : Int) (q : Int × Int) : Int := n - ov s q
/-- How many seconds come before a second when some parts are left out. -/
def bef (s : Int) (l : List (Int × Int)) : Int := l.foldl (befS s) s
def ovs (s : Int) : List (Int × Int) → Int
  | [] => 0
  | q :: l => ov s q + ovs s l
theorem bef_from (s : Int) : ∀ (l : List (Int × Int)) (n : Int), l.foldl (befS s) n = n - ovs s l
  | [], n => by simp [ovs]
  | q :: l, n => by
    show l.foldl (befS s) (befS s n q) = _
    rw [bef_from s l]
    simp only [befS, ovs]; omega
theorem bef_eq (s : Int) (l : List (Int × Int)) : bef s l = s - ovs s l := bef_from s l s
theorem ov_mono {s t : Int} (h : s ≤ t) (q : Int × Int) : ov s q ≤ ov t q := by unfold ov; omega
theorem ov_step (s : Int) (q : Int × Int) (hq : q.1 < q.2) : ov (s + 1) q = ov s q + (if q.1 ≤ s ∧ s < q.2 then 1 else 0) := by
  unfold ov; split <;> omega
/-- Is a second in one of the parts? -/
def inP (l : List (Int × Int)) (s : Int) : Bool := l.any fun q => decide (q.1 ≤ s) && decide (s < q.2)
theorem inP_cons (q : Int × Int) (l : List (Int × Int)) (s : Int) : inP (q :: l) s = ((decide (q.1 ≤ s) && decide (s < q.2)) || inP l s) := rfl
theorem inP_low {len : Int} : ∀ {l : List (Int × Int)} {e s : Int}, partsF len e l → s < e → inP l s = false
  | [], _, _, _, _ => rfl
  | q :: l, e, s, h, hs => by
    obtain ⟨h1, h2, h3, h4⟩ := h
    rw [inP_cons, decide_eq_false (by omega), inP_low h4 (by omega)]; rfl
theorem ovs_step {len : Int} : ∀ {l : List (Int × Int)} {e : Int} (s : Int), partsF len e l → ovs (s + 1) l = ovs s l + (if inP l s = true then 1 else 0)
  | [], _, _, _ => by simp [ovs, inP]
  | q :: l, e, s, h => by
    obtain ⟨h1, h2, h3, h4⟩ := h
    simp only [ovs]
    rw [ovs_step s h4, ov_step s q h2, inP_cons]
    by_cases c : q.1 ≤ s ∧ s < q.2
    · rw [if_pos c, inP_low h4 c.2, decide_eq_true c.1, decide_eq_true c.2]; simp; omega
    · rw [if_neg c]
      have : (decide (q.1 ≤ s) && decide (s < q.2)) = false := by
        by_cases c1 : q.1 ≤ s
        · rw [decide_eq_false (show ¬ s < q.2 from fun c2 => c ⟨c1, c2⟩)]; simp
        · rw [decide_eq_false c1]; rfl
      rw [this, Bool.false_or]; omega
theorem bef_step {len e : Int} {l : List (Int × Int)} (h : partsF len e l) (s : Int) : bef (s + 1) l = bef s l + (if inP l s = true then 0 else 1) := by
  rw [bef_eq, bef_eq, ovs_step s h]
  split <;> omega
theorem bef_mono {len e : Int} {l : List (Int × Int)} (h : partsF len e l) (s : Int) (n : Nat) : bef s l ≤ bef (s + n) l ∧ bef (s + n) l ≤ bef s l + n := by
  induction n with
  | zero => simp
  | succ n ih =>
    have := bef_step h (s + n)
    rw [show s + ((n + 1 : Nat) : Int) = s + (n : Int) + 1 by omega, this]
    split <;> omega
theorem bef_le {len e : Int} {l : List (Int × Int)} (h : partsF len e l) {s t : Int} (hst : s ≤ t) : bef s l ≤ bef t l := by
  have := (bef_mono h s (t - s).toNat).1
  rwa [show s + ((t - s).toNat : Int) = t by omega] at this
theorem bef_gap {len e : Int} {l : List (Int × Int)} (h : partsF len e l) {s t : Int} (hst : s ≤ t) : bef t l - bef s l ≤ t - s := by
  have := (bef_mono h s (t - s).toNat).2
  rw [show s + ((t - s).toNat : Int) = t by omega] at this
  omega
theorem ovs_low {len : Int} : ∀ {l : List (Int × Int)} {e s : Int}, partsF len e l → s ≤ e → ovs s l = 0
  | [], _, _, _, _ => rfl
  | q :: l, e, s, h, hs => by
    obtain ⟨h1, h2, h3, h4⟩ := h
    simp only [ovs]
    rw [ovs_low h4 (by omega)]
    unfold ov; omega
theorem bef_zero {len e : Int} {l : List (Int × Int)} (h : partsF len e l) (he : 0 ≤ e) : bef 0 l = 0 := by
  rw [bef_eq, ovs_low h he]; omega
/-- All the seconds of some parts. -/
def tot : List (Int × Int) → Int
  | [] => 0
  | q :: l => (q.2 - q.1) + tot l
theorem ovs_top {len : Int} : ∀ {l : List (Int × Int)} {e : Int}, partsF len e l → ovs len l = tot l
  | [], _, _ => rfl
  | q :: l, e, h => by
    obtain ⟨h1, h2, h3, h4⟩ := h
    simp only [ovs, tot]
    rw [ovs_top h4]
    unfold ov; omega
theorem bef_len {len e : Int} {l : List (Int × Int)} (h : partsF len e l) : bef len l = len - tot l := by rw [bef_eq, ovs_top h]
/-- The place of a second of the shortened recording. -/
def plS (x : Int) (q : Int × Int) : Int := if x < q.1 then x else x + q.2 - q.1
def pl (l : List (Int × Int)) (x : Int) : Int := l.foldl plS x
theorem pl_low {len : Int} : ∀ {l : List (Int × Int)} {e x : Int}, partsF len e l → x < e → pl l x = x
  | [], _, _, _, _ => rfl
  | q :: l, e, x, h, hx => by
    obtain ⟨h1, h2, h3, h4⟩ := h
    show pl l (plS x q) = x
    rw [plS, if_pos (by omega)]
    exact pl_low h4 (by omega)
theorem pl_facts {len : Int} : ∀ {l : List (Int × Int)} {e x : Int}, partsF len e l → e ≤ x → x ≤ pl l x ∧ ovs (pl l x) l = pl l x - x ∧ inP l (pl l x) = false
  | [], _, x, _, _ => ⟨Int.le_refl _, by simp [ovs, pl], rfl⟩
  | q :: l, e, x, h, hx => by
    obtain ⟨h1, h2, h3, h4⟩ := h
    have hd : pl (q :: l) x = pl l (plS x q) := rfl
    by_cases c : x < q.1
    · have e1 : pl (q :: l) x = x := by rw [hd, plS, if_pos c]; exact pl_low h4 (by omega)
      rw [e1]
      refine ⟨Int.le_refl _, ?_, ?_⟩
      · simp only [ovs]
        rw [ovs_low h4 (by omega)]
        unfold ov; omega
      · rw [inP_cons, decide_eq_false (by omega), inP_low h4 (by omega)]; rfl
    · have e1 : pl (q :: l) x = pl l (x + q.2 - q.1) := by rw [hd, plS, if_neg c]
      obtain ⟨a, b, d⟩ := pl_facts h4 (x := x + q.2 - q.1) (by omega)
      rw [e1]
      refine ⟨by omega, ?_, ?_⟩
      · simp only [ovs]
        rw [b]
        unfold ov; omega
      · rw [inP_cons, decide_eq_false (show ¬ pl l (x + q.2 - q.1) < q.2 by omega), d]; simp
/-- A place and what is heard there. -/
theorem pl_bef {len e : Int} {l : List (Int × Int)} (h : partsF len e l) {x : Int} (hx : e ≤ x) : bef (pl l x) l = x ∧ bef (pl l x + 1) l = x + 1 ∧ x ≤ pl l x ∧ inP l (pl l x) = false := by
  obtain ⟨a, b, c⟩ := pl_facts h hx
  have h1 : bef (pl l x) l = x := by rw [bef_eq, b]; omega
  refine ⟨h1, ?_, a, c⟩
  rw [bef_step h, h1, c]; rfl
end Go.Proofs.Ytnmhigjannihgaa
