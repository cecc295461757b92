/- Contract of over of numbers. -/
import Derived.Test.YtflpfmkfjccmiaaGreatDoorJe
namespace Go.Proofs.YtflpfmkfjccmiaaGreatDoor
open Go.RowKit

theorem results_nums {fn : Func} {p q : Tmp} (h : fn.results = #[.cell p 47, .cell q 47]) (tmps : Array Value) (w : World) (g k : Nat) (b v c u : Value) (hp : tmps.getD p undef = .pointer (some ⟨g, 0, none⟩)) (hq : tmps.getD q undef = .pointer (some ⟨k, 0, none⟩)) (hg : Row w g 47 #[b, v]) (hk : Row w k 47 #[c, u]) :
    (results fn tmps).run Tryz.prog w = .ok (.tuple #[.agg #[b, v], .agg #[c, u]]) w := by
  have hp' : tmps[p]?.getD undef = .pointer (some ⟨g, 0, none⟩) := by simpa using hp
  have hq' : tmps[q]?.getD undef = .pointer (some ⟨k, 0, none⟩) := by simpa using hq
  have e1 := run_loadVar_row (P := Tryz.prog) w g 47 47 #[b, v] (0, 0) _ hg Tryz.underlying47 rfl (by kernel_rfl)
  have e2 := run_loadVar_row (P := Tryz.prog) w k 47 47 #[c, u] (0, 0) _ hk Tryz.underlying47 rfl (by kernel_rfl)
  simp [results, h, hp', hq', asAddr, e1, e2]

theorem euc_uniq (a b q r : Int) (hb : b ≠ 0) (h1 : b * q + r = a) (h2 : 0 ≤ r) (h3 : r < b.natAbs) : q = a / b ∧ r = a % b := by
  rcases Int.lt_or_gt_of_ne hb with hn | hp
  · have hc : 0 < -b := by omega
    obtain ⟨e1, e2⟩ := (Int.ediv_emod_unique (a := a) (r := r) (q := -q) hc).2 ⟨by rw [Int.neg_mul_neg]; omega, h2, by omega⟩
    rw [Int.ediv_neg] at e1; rw [Int.emod_neg] at e2
    exact ⟨by omega, e2.symm⟩
  · obtain ⟨e1, e2⟩ := (Int.ediv_emod_unique (a := a) (r := r) (q := q) hp).2 ⟨by omega, h2, by omega⟩
    exact ⟨e1.symm, e2.symm⟩
theorem nat_parts (A B : Nat) : (A : Int) = (B : Int) * ((A / B : Nat) : Int) + ((A % B : Nat) : Int) := by
  exact_mod_cast (Nat.div_add_mod A B).symm
theorem euc_not (a b : Int) (hb : b ≠ 0) (f : Bool) (hf : f = !(decide (a < 0) == decide (b < 0))) (h : ¬ (a < 0 ∧ a.natAbs % b.natAbs ≠ 0)) :
    (if f = true then -((a.natAbs / b.natAbs : Nat) : Int) else ((a.natAbs / b.natAbs : Nat) : Int)) = a / b ∧ ((a.natAbs % b.natAbs : Nat) : Int) = a % b := by
  have e := nat_parts a.natAbs b.natAbs
  have hlt := Nat.mod_lt a.natAbs (show 0 < b.natAbs by omega)
  refine euc_uniq a b _ _ hb ?_ (by omega) (by omega)
  generalize (a.natAbs / b.natAbs : Nat) = Q at *
  generalize (a.natAbs % b.natAbs : Nat) = R at *
  rcases Int.lt_or_le a 0 with ha | ha <;> rcases Int.lt_or_le b 0 with hb' | hb'
  · rw [decide_eq_true ha, decide_eq_true hb'] at hf; subst hf
    rw [show (b.natAbs : Int) = -b by omega, Int.neg_mul] at e; simp; omega
  · rw [decide_eq_true ha, decide_eq_false (by omega)] at hf; subst hf
    rw [show (b.natAbs : Int) = b by omega] at e; simp [Int.mul_neg]; omega
  · rw [decide_eq_false (by omega), decide_eq_true hb'] at hf; subst hf
    rw [show (b.natAbs : Int) = -b by omega, Int.neg_mul] at e; simp [Int.mul_neg]; omega
  · rw [decide_eq_false (by omega), decide_eq_false (by omega)] at hf; subst hf
    rw [show (b.natAbs : Int) = b by omega] at e; simp; omega
theorem euc_fix (a b : Int) (hb : b ≠ 0) (f : Bool) (hf : f = !(decide (a < 0) == decide (b < 0))) (ha : a < 0) (hr : a.natAbs % b.natAbs ≠ 0) :
    (if f = true then -((a.natAbs / b.natAbs + 1 : Nat) : Int) else ((a.natAbs / b.natAbs + 1 : Nat) : Int)) = a / b ∧ ((b.natAbs - a.natAbs % b.natAbs : Nat) : Int) = a % b := by
  have e := nat_parts a.natAbs b.natAbs
  have hlt := Nat.mod_lt a.natAbs (show 0 < b.natAbs by omega)
  refine euc_uniq a b _ _ hb ?_ (by omega) (by omega)
  generalize (a.natAbs / b.natAbs : Nat) = Q at *
  generalize (a.natAbs % b.natAbs : Nat) = R at *
  rcases Int.lt_or_le b 0 with hb' | hb'
  · rw [decide_eq_true ha, decide_eq_true hb'] at hf; subst hf
    rw [show (b.natAbs : Int) = -b by omega, Int.neg_mul] at e; simp [Int.mul_add]; omega
  · rw [decide_eq_true ha, decide_eq_false (by omega)] at hf; subst hf
    rw [show (b.natAbs : Int) = b by omega] at e; simp [Int.mul_neg, Int.mul_add]; omega

/-- Two boxed numbers and two boxes for the results. -/
structure Quad (w W : World) (b1 b2 : Bool) (A1 A2 : Option Addr) (n1 c1 n2 c2 : Nat) : Prop where
  r0 : Row W w.heap.size 47 #[.bool b1, .slice A1 n1 c1]
  r1 : Row W (w.heap.size + 1) 47 #[.bool b2, .slice A2 n2 c2]
  r2 : Row W (w.heap.size + 1 + 1) 47 #[.bool false, .slice none 0 0]
  r3 : Row W (w.heap.size + 1 + 1 + 1) 47 #[.bool false, .slice none 0 0]
  bw : Below w.heap.size w W
theorem quad_new (w : World) (b1 b2 : Bool) (A1 A2 : Option Addr) (n1 c1 n2 c2 : Nat) : Quad w ((((w.alloc (.cells #[.bool b1, .slice A1 n1 c1] 47)).alloc (.cells #[.bool b2, .slice A2 n2 c2] 47)).alloc (.cells #[.bool false, .slice none 0 0] 47)).alloc (.cells #[.bool false, .slice none 0 0] 47)) b1 b2 A1 A2 n1 c1 n2 c2 := by
  have h := two_new w b1 b2 A1 A2 n1 c1 n2 c2
  generalize hW : (((w.alloc (.cells #[.bool b1, .slice A1 n1 c1] 47)).alloc (.cells #[.bool b2, .slice A2 n2 c2] 47)).alloc (.cells #[.bool false, .slice none 0 0] 47)) = W at h
  have hs : W.heap.size = w.heap.size + 1 + 1 + 1 := by rw [← hW, World.size_alloc, World.size_alloc, World.size_alloc]
  refine ⟨h.r0.alloc _, h.r1.alloc _, h.r2.alloc _, ?_, h.bw.alloc h.bw.size _⟩
  rw [← hs]; exact Row.new W _ _
theorem Quad.below {w W U : World} {b1 b2 : Bool} {A1 A2 : Option Addr} {n1 c1 n2 c2 : Nat} (h : Quad w W b1 b2 A1 A2 n1 c1 n2 c2) (hb : Below W.heap.size W U) : Quad w U b1 b2 A1 A2 n1 c1 n2 c2 := ⟨h.r0.below hb h.r0.lt, h.r1.below hb h.r1.lt, h.r2.below hb h.r2.lt, h.r3.below hb h.r3.lt, h.bw.trans (hb.mono h.bw.size)⟩
theorem Quad.fin {w W : World} {b1 b2 f g : Bool} {A1 A2 A A' : Option Addr} {n1 c1 n2 c2 n c n' c' : Nat} {p q : Int} (h : Quad w W b1 b2 A1 A2 n1 c1 n2 c2) (hp : Num W (.agg #[.bool f, .slice A n c]) p) (hq : Num W (.agg #[.bool g, .slice A' n' c']) q) :
    ∃ U, U = ((((W.setCell ⟨w.heap.size + 1 + 1, 0, none⟩ (.bool f)).setCell ⟨w.heap.size + 1 + 1, 1, none⟩ (.slice A n c)).setCell ⟨w.heap.size + 1 + 1 + 1, 0, none⟩ (.bool g)).setCell ⟨w.heap.size + 1 + 1 + 1, 1, none⟩ (.slice A' n' c')) ∧ Row U (w.heap.size + 1 + 1) 47 #[.bool f, .slice A n c] ∧ Row U (w.heap.size + 1 + 1 + 1) 47 #[.bool g, .slice A' n' c'] ∧ Num U (.agg #[.bool f, .slice A n c]) p ∧ Num U (.agg #[.bool g, .slice A' n' c']) q ∧ Below w.heap.size w U := by
  refine ⟨_, rfl, ?_⟩
  obtain ⟨b, X, m, d, e, hb, hm⟩ := hp.parts
  obtain ⟨rfl, rfl, rfl, rfl⟩ : f = b ∧ A = X ∧ n = m ∧ c = d := by simpa using e
  obtain ⟨b', X', m', d', e', hb', hm'⟩ := hq.parts
  obtain ⟨rfl, rfl, rfl, rfl⟩ : g = b' ∧ A' = X' ∧ n' = m' ∧ c' = d' := by simpa using e'
  have k2 := box_row (b' := f) (A' := A) (n' := n) (c' := c) h.r2
  have k3 := (h.r3.far (p := ⟨w.heap.size + 1 + 1, 0, none⟩) (by dsimp only; omega) (.bool f)).far (p := ⟨w.heap.size + 1 + 1, 1, none⟩) (by dsimp only; omega) (.slice A n c)
  refine ⟨(k2.far (p := ⟨w.heap.size + 1 + 1 + 1, 0, none⟩) (by dsimp only; omega) _).far (p := ⟨w.heap.size + 1 + 1 + 1, 1, none⟩) (by dsimp only; omega) _, box_row k3, num_of hb rfl (mag_box (mag_box hm h.r2) k3), num_of hb' rfl (mag_box (mag_box hm' h.r2) k3), ?_⟩
  exact (((h.bw.setCell (by dsimp only; omega) _).setCell (by dsimp only; omega) _).setCell (by dsimp only; omega) _).setCell (by dsimp only; omega) _
theorem one_box (w : World) : Mag (w.alloc (.cells #[.int .i64 1] 3)) (.slice (some ⟨w.heap.size, 0, none⟩) 1 1) 1 := by
  refine ⟨some ⟨w.heap.size, 0, none⟩, 1, rfl, by decide, by decide, .inr ⟨_, _, rfl, by simp, ?_⟩⟩
  intro j x hj
  have := (Row.new w 3 #[.int .i64 1]).cell j
  match j, hj with
  | 0, hj =>
    have e : x = 1 := by
      have h1 : (Im.grp 1)[0]? = some 1 := rfl
      rw [h1] at hj; injection hj with hj; exact hj.symm
    subst e; exact this.trans rfl
  | j + 1, hj =>
    have h1 : (Im.grp 1)[j + 1]? = none := rfl
    rw [h1] at hj; cases hj

def NumsPost (p q : Int) (w : World) (e : Ending) (w' : World) : Prop := ∃ f g A A' n n' c c', e = .returned (.tuple #[.agg #[.bool f, .slice A n c], .agg #[.bool g, .slice A' n' c']]) ∧ Num w' (.agg #[.bool f, .slice A n c]) p ∧ Num w' (.agg #[.bool g, .slice A' n' c']) q ∧ Below w.heap.size w w'
end Go.Proofs.YtflpfmkfjccmiaaGreatDoor
