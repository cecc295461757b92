/- The reference's numbers: plain mathematics of digits in base ten. The reference's order and plus. The reference's plus and minus. The reference's minus. The reference's digits. The reference's Valid. The reference's text of any length, checked, sum, Compare, Add and Sub. The reference's Compare, Add and Sub. The reference's times. The reference's divided. The reference's divided: the walk. The reference's Mul. The reference's Gcd. The reference's Div at integers that are not too long, the divisor not 0. The reference at strings that are no integers, and at the divisor 0. The reference's trimmed. The reference's Root: plain part. The reference's Root: the walk. The reference's Root at strings that are no integers and at negative integers. The reference's FromInt. The reference's ToInt. The reference's ToInt at strings that are no integers, and outside the machine's range. Package integer and the reference answer alike, at every two strings. -/
import Derived.Test.YtabkodpjhpjgnaaGreatDoorA6
import Derived.Test.YtabkodpjhpjgnaaGreatDoorA2
namespace Go.Proofs.YtabkodpjhpjgnaaGreatDoor
namespace Im

theorem dval_append : ∀ (l r : List Int), dval (l ++ r) = dval l + 10 ^ l.length * dval r
  | [], r => by simp [dval]
  | x :: l, r => by
    have ih := dval_append l r
    show x + 10 * dval (l ++ r) = x + 10 * dval l + 10 ^ (l.length + 1) * dval r
    rw [ih, Int.pow_succ, Int.mul_add, Int.mul_comm (10 ^ l.length) 10, Int.mul_assoc]; omega
theorem dval_snoc (l : List Int) (x : Int) : dval (l ++ [x]) = dval l + 10 ^ l.length * x := by rw [dval_append]; simp [dval]
theorem dval_zeros (n : Nat) : dval (List.replicate n 0) = 0 := by
  induction n with
  | zero => rfl
  | succ n ih => rw [List.replicate_succ]; show 0 + 10 * dval (List.replicate n 0) = 0; rw [ih]; rfl
theorem Dg.append {l r : List Int} (h : Dg l) (k : Dg r) : Dg (l ++ r) := fun y hy => by
  rcases List.mem_append.1 hy with h1 | h1
  · exact h y h1
  · exact k y h1
theorem Dg.one {x : Int} (h0 : 0 ≤ x) (h1 : x < 10) : Dg [x] := fun y hy => by
  have := List.mem_singleton.1 hy
  subst this; exact ⟨h0, h1⟩
theorem Dg.take {l : List Int} (h : Dg l) (n : Nat) : Dg (l.take n) := fun y hy => h y (List.mem_of_mem_take hy)
theorem Dg.drop {l : List Int} (h : Dg l) (n : Nat) : Dg (l.drop n) := fun y hy => h y (List.mem_of_mem_drop hy)
theorem Dg.getD {l : List Int} (h : Dg l) (k : Nat) : 0 ≤ l.getD k 0 ∧ l.getD k 0 ≤ 9 := by
  rw [List.getD_eq_getElem?_getD]
  by_cases hk : k < l.length
  · rw [List.getElem?_eq_getElem hk]
    have := h l[k] (List.getElem_mem hk)
    simp; omega
  · rw [List.getElem?_eq_none (by omega)]; simp
theorem dval_ltI {l : List Int} (h : Dg l) : dval l < 10 ^ l.length := by
  have h1 := dval_lt h
  have h2 := dval_nonneg h
  have e : ((10 ^ l.length : Nat) : Int) = 10 ^ l.length := Int.natCast_pow _ _
  rw [← e]; omega
/-- The digits of a number, the lowest one first; none for 0. -/
def dglF : Nat → Nat → List Int
  | 0, _ => []
  | k + 1, n => if n = 0 then [] else ((n % 10 : Nat) : Int) :: dglF k (n / 10)
def dgl (n : Nat) : List Int := dglF n n
theorem dglF_ok : ∀ (k n : Nat), n ≤ k → Dg (dglF k n) ∧ Top (dglF k n) ∧ dval (dglF k n) = n
  | 0, n, h => by
    obtain rfl : n = 0 := by omega
    exact ⟨(fun x hx => by cases hx), (fun r x e => by simp [dglF] at e), rfl⟩
  | k + 1, n, h => by
    unfold dglF
    by_cases h0 : n = 0
    · rw [if_pos h0, h0]
      exact ⟨(fun x hx => by cases hx), (fun r x e => by simp at e), rfl⟩
    · rw [if_neg h0]
      obtain ⟨a, b, c⟩ := dglF_ok k (n / 10) (by omega)
      refine ⟨fun x hx => ?_, fun r x e => ?_, ?_⟩
      · rcases List.mem_cons.1 hx with rfl | hx
        · omega
        · exact a x hx
      · cases r with
        | nil =>
          injection e with e1 e2
          rw [e2] at c
          have hz : n / 10 = 0 := by
            have : dval [] = 0 := rfl
            omega
          rw [← e1]; omega
        | cons y r =>
          injection e with e1 e2
          exact b r x e2
      · show ((n % 10 : Nat) : Int) + 10 * dval (dglF k (n / 10)) = n
        rw [c]; omega
theorem dgl_dg (n : Nat) : Dg (dgl n) := (dglF_ok n n (Nat.le_refl _)).1
theorem dgl_top (n : Nat) : Top (dgl n) := (dglF_ok n n (Nat.le_refl _)).2.1
theorem dgl_val (n : Nat) : dval (dgl n) = n := (dglF_ok n n (Nat.le_refl _)).2.2
/-- Digits without a zero at the top are those of their number. -/
theorem dgl_uniq : ∀ (l m : List Int), Dg l → Dg m → Top l → Top m → dval l = dval m → l = m
  | [], [], _, _, _, _, _ => rfl
  | [], y :: m, _, hm, _, tm, e => by
    have := dval_pos hm (by simp) tm
    have e0 : dval [] = 0 := rfl
    omega
  | x :: l, [], hl, _, tl, _, e => by
    have := dval_pos hl (by simp) tl
    have e0 : dval [] = 0 := rfl
    omega
  | x :: l, y :: m, hl, hm, tl, tm, e => by
    have h1 := hl x (by simp)
    have h2 := hm y (by simp)
    have e' : x + 10 * dval l = y + 10 * dval m := e
    obtain rfl : x = y := by omega
    rw [dgl_uniq l m hl.tail hm.tail tl.tail tm.tail (by omega)]
theorem dgl_of {l : List Int} {n : Nat} (h : Dg l) (t : Top l) (e : dval l = n) : l = dgl n := dgl_uniq l _ h (dgl_dg n) t (dgl_top n) (by rw [e, dgl_val])
theorem dgl_zero : dgl 0 = [] := rfl
theorem dgl_nil {n : Nat} (h : dgl n = []) : n = 0 := by
  have := dgl_val n
  rw [h] at this
  have e0 : dval [] = 0 := rfl
  omega
theorem dgl_len (n k : Nat) (h : n < 10 ^ k) : (dgl n).length ≤ k := by
  rcases Nat.eq_zero_or_pos (dgl n).length with e | e
  · omega
  · have hne : dgl n ≠ [] := fun h => by rw [h] at e; simp at e
    obtain ⟨r, x, hx⟩ := snoc_of _ hne
    have h1 := dgl_top n r x hx
    have h2 := dgl_dg n x (by rw [hx]; simp)
    have h3 := dgl_val n
    rw [hx, dval_snoc] at h3
    have h4 : 0 ≤ dval r := dval_nonneg (fun y hy => dgl_dg n y (by rw [hx]; simp [hy]))
    have h5 : ((10 ^ r.length : Nat) : Int) = 10 ^ r.length := Int.natCast_pow _ _
    rw [← h5] at h3
    have h6 : ((10 ^ r.length : Nat) : Int) ≤ ((10 ^ r.length : Nat) : Int) * x := by
      have h7 : ((10 ^ r.length : Nat) : Int) * 1 ≤ ((10 ^ r.length : Nat) : Int) * x := Int.mul_le_mul_of_nonneg_left (by omega) (Int.natCast_nonneg _)
      rw [Int.mul_one] at h7; exact h7
    have h8 : 10 ^ r.length ≤ n := by omega
    have h9 : r.length < k := (Nat.pow_lt_pow_iff_right (by decide : 1 < 10)).1 (Nat.lt_of_le_of_lt h8 h)
    rw [hx, List.length_append]; simp; omega
theorem dgl_lt (n : Nat) : n < 10 ^ (dgl n).length := by
  have h := dval_lt (dgl_dg n)
  rw [dgl_val] at h; simpa using h
/-- The text of digits. -/
theorem rtxt_dgl (neg : Bool) (n : Nat) : rtxt neg (dgl n) = Lib.itoa (if neg then -(n : Int) else (n : Int)) := by
  rw [rtxt_itoa neg (dgl_dg n) (dgl_top n)]
  unfold sgn
  rw [dgl_val]
theorem trim_dval (l : List Int) : ∀ n, l.length = n → dval (trim l) = dval l := by
  intro n
  induction n generalizing l with
  | zero => intro h; rw [List.eq_nil_of_length_eq_zero h]; rfl
  | succ n ih =>
    intro h
    obtain ⟨r, x, rfl⟩ := snoc_of l (by intro e; rw [e] at h; simp at h)
    by_cases hx : x = 0
    · subst hx
      rw [trim_snoc0, ih r (by simpa using h), dval_snoc, Int.mul_zero, Int.add_zero]
    · rw [trim_snoc r x hx]
theorem trim_dgl {l : List Int} {n : Nat} (h : Dg l) (e : dval l = n) : trim l = dgl n := dgl_of (trim_dg h) (trim_top l) (by rw [trim_dval l _ rfl]; exact e)
end Im
end Go.Proofs.YtabkodpjhpjgnaaGreatDoor

namespace Go.Proofs.YtabkodpjhpjgnaaGreatDoor
open Go.RowKit
attribute [local go_sem ↓] append_appN

/-- A slice that reads as the digits of n. -/
def Dig (w : World) (v : Value) (n : Nat) : Prop := Ints w w.heap.size v (Im.dgl n)
theorem Dig.next {w w' : World} {v : Value} {n : Nat} (h : Dig w v n) (hb : Below w.heap.size w w') : Dig w' v n := Ints.next h hb
def DigPost (n : Nat) (w : World) (e : Ending) (w' : World) : Prop := ∃ v, e = .returned v ∧ Dig w' v n ∧ Below w.heap.size w w'

namespace Im
theorem dval_take_succ (l : List Int) (k : Nat) : dval (l.take (k + 1)) = dval (l.take k) + 10 ^ k * l.getD k 0 := by
  by_cases h : k < l.length
  · rw [List.take_succ_eq_append_getElem h, dval_snoc, List.length_take, Nat.min_eq_left (by omega), List.getD_eq_getElem?_getD, List.getElem?_eq_getElem h]; rfl
  · rw [List.take_of_length_le (by omega), List.take_of_length_le (by omega), List.getD_eq_getElem?_getD, List.getElem?_eq_none (by omega)]
    show dval l = dval l + 10 ^ k * 0
    omega
theorem dgl_ge (n k : Nat) (h : k < (dgl n).length) : 10 ^ k ≤ n := by
  rcases Nat.lt_or_ge n (10 ^ k) with h1 | h1
  · have := dgl_len n k h1; omega
  · exact h1
theorem dval_split (l : List Int) (k : Nat) (h : k ≤ l.length) : dval l = dval (l.take k) + 10 ^ k * dval (l.drop k) := by
  have := dval_append (l.take k) (l.drop k)
  rw [List.take_append_drop, List.length_take, Nat.min_eq_left h] at this
  exact this
theorem dval_cmp (a b : List Int) (k : Nat) (ha : Dg a) (hb : Dg b) (hl : a.length = b.length) (hk : k < a.length) (he : a.drop (k + 1) = b.drop (k + 1)) (hlt : a.getD k 0 < b.getD k 0) : dval a < dval b := by
  have h1 := dval_split a (k + 1) (by omega)
  have h2 := dval_split b (k + 1) (by omega)
  rw [dval_take_succ] at h1 h2
  rw [he] at h1
  have h3 := dval_ltI (ha.take k)
  rw [List.length_take, Nat.min_eq_left (by omega)] at h3
  have h4 := dval_nonneg (hb.take k)
  have h5 : (10 : Int) ^ k * (a.getD k 0 + 1) ≤ 10 ^ k * b.getD k 0 := Int.mul_le_mul_of_nonneg_left (by omega) (Int.le_of_lt (by exact_mod_cast Nat.pow_pos (by decide : 0 < 10)))
  rw [Int.mul_add, Int.mul_one] at h5
  omega
theorem dgl_len_lt (a b : Nat) (h : (dgl a).length < (dgl b).length) : a < b := by
  have h1 := dgl_lt a
  have h2 := dgl_ge b ((dgl b).length - 1) (by omega)
  exact Nat.lt_of_lt_of_le h1 (Nat.le_trans (Nat.pow_le_pow_right (by decide) (by omega)) h2)
theorem dgl_inj {a b : Nat} (h : dgl a = dgl b) : a = b := by
  have h1 := dgl_val a
  rw [h, dgl_val] at h1; omega
end Im
theorem dgl_same_len {a b : Nat} (hl : (Im.dgl a).length = (Im.dgl b).length) (i : Nat) (hi : i < (Im.dgl a).length) (he : (Im.dgl a).drop (i + 1) = (Im.dgl b).drop (i + 1)) (hne : (Im.dgl a).getD i 0 ≠ (Im.dgl b).getD i 0) :
    sg ((Im.dgl a).getD i 0) ((Im.dgl b).getD i 0) = sg (a : Int) (b : Int) := by
  have ha := Im.dgl_val a; have hb := Im.dgl_val b
  rcases Int.lt_trichotomy ((Im.dgl a).getD i 0) ((Im.dgl b).getD i 0) with h | h | h
  · have := Im.dval_cmp _ _ i (Im.dgl_dg a) (Im.dgl_dg b) hl hi he h
    rw [sg_lt h, sg_lt (by omega)]
  · exact absurd h hne
  · have := Im.dval_cmp _ _ i (Im.dgl_dg b) (Im.dgl_dg a) hl.symm (by omega) he.symm h
    rw [sg_gt h, sg_gt (by omega)]

set_option maxRecDepth 100000 in
set_option maxHeartbeats 2000000 in
theorem order_any (va vb : Value) (a b : Nat) (w : World) (ha : Dig w va a) (hb : Dig w vb b) :
    Calls Tryz.prog 80 #[va, vb] w fun e w' => e = .returned (.int .i64 (sg (a : Int) (b : Int))) ∧ Below w.heap.size w w' := by
  obtain ⟨A, ca, rfl, hca1, hca2⟩ := ints_form ha
  obtain ⟨B, cb, rfl, hcb1, hcb2⟩ := ints_form hb
  have hgl := Im.dgl_len_lt a b; have hgl2 := Im.dgl_len_lt b a
  have hfin := fun hl i hi he hne => dgl_same_len (a := a) (b := b) hl i hi he hne
  have hinj := fun (h : Im.dgl a = Im.dgl b) => Im.dgl_inj h
  obtain ⟨la, hla⟩ : ∃ l, Im.dgl a = l := ⟨_, rfl⟩
  obtain ⟨lb, hlb⟩ : ∃ l, Im.dgl b = l := ⟨_, rfl⟩
  unfold Dig at ha hb
  rw [hla] at ha hgl hgl2 hfin hinj hca1 ⊢; rw [hlb] at hb hgl hgl2 hfin hinj hcb1 ⊢
  obtain ⟨N, hN⟩ : ∃ n, la.length = n := ⟨_, rfl⟩
  obtain ⟨M, hM⟩ : ∃ n, lb.length = n := ⟨_, rfl⟩
  have HVA := Lib.hid (fun k hk => ints_at ha k hk); have HVB := Lib.hid (fun k hk => ints_at hb k hk); have HN := Lib.hid hN; have HM := Lib.hid hM
  rw [hN] at hgl hgl2 hca1 ⊢; rw [hM] at hgl hgl2 hcb1 ⊢
  have HFIN := Lib.hid hfin; have HINJ := Lib.hid hinj
  clear ha hb hN hM hla hlb hfin hinj
  by_cases hne : N = M
  · subst hne
    clear hgl hgl2
    have d1 : ((N : Int) != (N : Int)) = false := by simp
    have s0 : IntKind.i64.wrap ((N : Int) - 1) = (N : Int) - 1 := IntWalk.i64_in _ (by omega)
    go_enter Tryz.func80, Tryz.ntmps80
    go_wp2
    go_loopw [5] (fun i wr => ∃ k : Nat, k ≤ N ∧ i = .int .i64 ((N : Int) - 1 - (k : Int)) ∧ Hid (la.drop (N - k) = lb.drop (N - k)) ∧ Hid (Below w.heap.size w wr)) (fun i _ => (intOf i + 1).toNat)
    case atStart => exact ⟨0, by omega, by go_num, Lib.hid (by rw [Nat.sub_zero, List.drop_eq_nil_of_le (by rw [HN.out]; exact Nat.le_refl _), List.drop_eq_nil_of_le (by rw [HM.out]; exact Nat.le_refl _)]), Lib.hid (Below.refl _ _)⟩
    case round =>
      obtain ⟨k, hk, rfl, HE, HB⟩ := hrel
      by_cases hlt : k < N
      · obtain ⟨g, off, rfl, hg, hcell⟩ := HVA.out (N - 1 - k) (by have := HN.out; omega)
        obtain ⟨g2, off2, rfl, hg2, hcell2⟩ := HVB.out (N - 1 - k) (by have := HM.out; omega)
        have c0 := (HB.out.cell (p := ⟨g, off + (N - 1 - k), none⟩) hg).trans (hcell (N - 1 - k) (by have := HN.out; omega))
        have c1 := (HB.out.cell (p := ⟨g2, off2 + (N - 1 - k), none⟩) hg2).trans (hcell2 (N - 1 - k) (by have := HM.out; omega))
        have he := HE.out
        rw [show N - k = N - 1 - k + 1 by omega] at he
        have hst := drop_eq_step (a := la) (b := lb) (by rw [HN.out, HM.out]) (N - 1 - k) (by rw [HN.out]; omega) he
        have hfn := HFIN.out (by rw [HN.out, HM.out]) (N - 1 - k) (by rw [HN.out]; omega) he
        obtain ⟨x, hx⟩ : ∃ x, la.getD (N - 1 - k) 0 = x := ⟨_, rfl⟩
        obtain ⟨z, hz⟩ : ∃ x, lb.getD (N - 1 - k) 0 = x := ⟨_, rfl⟩
        rw [hx, hz] at hst hfn; rw [hz] at c1; rw [hx] at c0
        have i1 : (0 : Int) ≤ (N : Int) - 1 - (k : Int) := by omega
        have i2 : (N : Int) - 1 - (k : Int) < (N : Int) := by omega
        have i3 : ((N : Int) - 1 - (k : Int)).toNat = N - 1 - k := by omega
        have HST := Lib.hid hst; have HFN := Lib.hid hfn
        clear hst hfn he hx hz hcell hcell2
        by_cases hxz : x = z
        · have t1 : (x != z) = false := by simpa using hxz
          have HXZ := Lib.hid hxz
          have s1 : IntKind.i64.wrap ((N : Int) - 1 - (k : Int) - 1) = (N : Int) - 1 - (k : Int) - 1 := IntWalk.i64_in _ (by omega)
          clear hxz
          go_wp2
          go_region
          all_goals
            go_wp2
            go_roundw
            case rel => exact ⟨k + 1, by omega, by go_num, Lib.hid (by rw [show N - (k + 1) = N - 1 - k by omega]; exact HST.out HXZ.out), Lib.hid (HB.out.drew)⟩
            case measure => simp [intOf]; omega
        · have t1 : (x != z) = true := by simpa using hxz
          have hsg := HFN.out hxz
          have HSG := Lib.hid hsg
          rcases Int.lt_or_gt_of_ne hxz with hlt2 | hlt2
          · have t2 : decide (x < z) = true := decide_eq_true hlt2
            have HS2 := Lib.hid (sg_lt hlt2)
            clear hxz hsg
            go_wp2
            go_region
            all_goals
              go_wp2
              go_region
              all_goals
                go_wp2
                go_ret
                exact ⟨by rw [← HSG.out, HS2.out]; rfl, HB.out.drew.drew⟩
          · have t2 : decide (x < z) = false := decide_eq_false (by omega)
            have HS2 := Lib.hid (sg_gt hlt2)
            clear hxz hsg
            go_wp2
            go_region
            all_goals
              go_wp2
              go_region
              all_goals
                go_wp2
                go_ret
                exact ⟨by rw [← HSG.out, HS2.out]; rfl, HB.out.drew.drew⟩
      · obtain rfl : k = N := by omega
        have he := HE.out
        rw [Nat.sub_self, List.drop_zero, List.drop_zero] at he
        have hab := HINJ.out he
        have HSG := Lib.hid (show sg (a : Int) (b : Int) = 0 from sg_eq (by omega))
        clear he hab
        go_wp2
        go_ret
        exact ⟨by rw [HSG.out]; rfl, HB.out⟩
  · rcases Nat.lt_or_gt_of_ne hne with h | h
    · have t1 : ((N : Int) != (M : Int)) = true := by simp; omega
      have t2 : decide ((N : Int) < (M : Int)) = true := decide_eq_true (by omega)
      have HSG := Lib.hid (show sg (a : Int) (b : Int) = -1 from sg_lt (by have := hgl h; omega))
      clear hgl hgl2
      go_enter Tryz.func80, Tryz.ntmps80
      go_wp2
      go_ret
      exact ⟨by rw [HSG.out]; rfl, Below.refl _ _⟩
    · have t1 : ((N : Int) != (M : Int)) = true := by simp; omega
      have t2 : decide ((N : Int) < (M : Int)) = false := decide_eq_false (by omega)
      have HSG := Lib.hid (show sg (a : Int) (b : Int) = 1 from sg_gt (by have := hgl2 h; omega))
      clear hgl hgl2
      go_enter Tryz.func80, Tryz.ntmps80
      go_wp2
      go_ret
      exact ⟨by rw [HSG.out]; rfl, Below.refl _ _⟩
end Go.Proofs.YtabkodpjhpjgnaaGreatDoor

namespace Go.Proofs.YtabkodpjhpjgnaaGreatDoor
open Go.RowKit
attribute [local go_sem ↓] append_appN

/-- What stands between two rounds of a sum: digits L, carry c. -/
structure SumI (a b : Nat) (k : Nat) (c : Int) (L : List Int) : Prop where
  len : L.length = k
  dg : Im.Dg L
  c0 : 0 ≤ c
  c1 : c ≤ 1
  val : Im.dval L + 10 ^ k * c = Im.dval ((Im.dgl a).take k) + Im.dval ((Im.dgl b).take k)
  big : 1 ≤ k → 10 ^ (k - 1) ≤ a + b
theorem sumI_start (a b : Nat) : SumI a b 0 0 [] := ⟨rfl, (fun x h => by cases h), by decide, by decide, by simp [Im.dval], (fun h => by omega)⟩
theorem castP (k : Nat) : ((10 ^ k : Nat) : Int) = 10 ^ k := Int.natCast_pow _ _
theorem dval_take_le (n k : Nat) : Im.dval ((Im.dgl n).take k) ≤ n := by
  by_cases h : k ≤ (Im.dgl n).length
  · have h1 := Im.dval_split (Im.dgl n) k h
    rw [Im.dgl_val] at h1
    have h2 := Im.dval_nonneg ((Im.dgl_dg n).drop k)
    have h3 : 0 ≤ (10 : Int) ^ k * Im.dval ((Im.dgl n).drop k) := Int.mul_nonneg (by rw [← castP]; exact Int.natCast_nonneg _) h2
    omega
  · rw [List.take_of_length_le (by omega), Im.dgl_val]; exact Int.le_refl _
theorem sumI_step {a b k : Nat} {c : Int} {L : List Int} (h : SumI a b k c L) (hg : k < (Im.dgl a).length ∨ k < (Im.dgl b).length ∨ 0 < c) :
    SumI a b (k + 1) ((c + (Im.dgl a).getD k 0 + (Im.dgl b).getD k 0) / 10) (L ++ [(c + (Im.dgl a).getD k 0 + (Im.dgl b).getD k 0) % 10]) := by
  have ha := (Im.dgl_dg a).getD k
  have hb := (Im.dgl_dg b).getD k
  have h0 := h.c0; have h1 := h.c1
  obtain ⟨x, hx⟩ : ∃ x, (Im.dgl a).getD k 0 = x := ⟨_, rfl⟩
  obtain ⟨y, hy⟩ : ∃ y, (Im.dgl b).getD k 0 = y := ⟨_, rfl⟩
  have hv := h.val
  refine ⟨by rw [List.length_append, h.len]; rfl, h.dg.append (Im.Dg.one (by omega) (by omega)), by omega, by omega, ?_, fun _ => ?_⟩
  · rw [Im.dval_take_succ, Im.dval_take_succ, Im.dval_snoc, h.len, hx, hy]
    have e : c + x + y = (c + x + y) % 10 + 10 * ((c + x + y) / 10) := by omega
    have e2 : (10 : Int) ^ k * (c + x + y) = 10 ^ k * ((c + x + y) % 10) + 10 ^ (k + 1) * ((c + x + y) / 10) := by
      rw [Int.pow_succ, Int.mul_assoc, ← Int.mul_add, ← e]
    rw [Int.mul_add, Int.mul_add] at e2
    omega
  · rw [Nat.add_sub_cancel]
    rcases hg with hg | hg | hg
    · have := Im.dgl_ge a k hg; omega
    · have := Im.dgl_ge b k hg; omega
    · have e : c = 1 := by omega
      subst e
      have h2 := Im.dval_nonneg h.dg
      have h3 := dval_take_le a k
      have h4 := dval_take_le b k
      have h5 := castP k
      omega
theorem sumI_end {a b k : Nat} {L : List Int} (h : SumI a b k 0 L) (ha : (Im.dgl a).length ≤ k) (hb : (Im.dgl b).length ≤ k) : L = Im.dgl (a + b) := by
  have hv := h.val
  rw [List.take_of_length_le ha, List.take_of_length_le hb, Im.dgl_val, Im.dgl_val, Int.mul_zero, Int.add_zero] at hv
  refine Im.dgl_of h.dg (fun r x e => ?_) (by rw [hv]; omega)
  intro hx
  subst hx
  have h1 := h.len
  rw [e, List.length_append] at h1
  have hbig := h.big (by simp at h1; omega)
  have h2 : Im.dval L = Im.dval r := by rw [e, Im.dval_snoc, Int.mul_zero, Int.add_zero]
  have h3 := Im.dval_ltI (l := r) (fun y hy => h.dg y (by rw [e]; simp [hy]))
  have h4 : r.length = k - 1 := by simp at h1; omega
  rw [h4, ← castP] at h3
  omega

theorem sumI_no {a b k : Nat} {c : Int} {L : List Int} (h : SumI a b k c L) (ha : (Im.dgl a).length < k) (hb : (Im.dgl b).length < k) : c = 0 := by
  have hv := h.val
  rw [List.take_of_length_le (by omega), List.take_of_length_le (by omega), Im.dgl_val, Im.dgl_val] at hv
  have h0 := h.c0; have h1 := h.c1
  rcases Int.lt_or_le 0 c with hc | hc
  · obtain rfl : c = 1 := by omega
    have h2 := Im.dval_nonneg h.dg
    have h3 : a < 10 ^ (k - 1) := Nat.lt_of_lt_of_le (Im.dgl_lt a) (Nat.pow_le_pow_right (by decide) (by omega))
    have h4 : b < 10 ^ (k - 1) := Nat.lt_of_lt_of_le (Im.dgl_lt b) (Nat.pow_le_pow_right (by decide) (by omega))
    have h5 : 10 ^ k = 10 ^ (k - 1) * 10 := by rw [← Nat.pow_succ, Nat.succ_eq_add_one, show k - 1 + 1 = k by omega]
    have h6 := castP k
    omega
  · omega
set_option maxRecDepth 100000 in
set_option maxHeartbeats 4000000 in
theorem rplus_any (va vb : Value) (a b : Nat) (w : World) (ha : Dig w va a) (hb : Dig w vb b) (la : (Im.dgl a).length ≤ 1000) (lb : (Im.dgl b).length ≤ 1000) :
    Calls Tryz.prog 78 #[va, vb] w (DigPost (a + b) w) := by
  obtain ⟨i0, hi0, hz0, hz1, hz2⟩ := info_parts Tryz.infoInt
  obtain ⟨A, ca, rfl, hca1, hca2⟩ := ints_form ha
  obtain ⟨B, cb, rfl, hcb1, hcb2⟩ := ints_form hb
  have HVA := Lib.hid (fun k hk => ints_at ha k hk); have HVB := Lib.hid (fun k hk => ints_at hb k hk)
  have HDA := Lib.hid (fun k => (Im.dgl_dg a).getD k); have HDB := Lib.hid (fun k => (Im.dgl_dg b).getD k)
  have hs0 := sumI_start a b
  have hstep := fun k c L (h : SumI a b k c L) hg => sumI_step h hg
  have hend := fun k L (h : SumI a b k 0 L) h1 h2 => sumI_end h h1 h2
  have hno := fun k c L (h : SumI a b k c L) h1 h2 => sumI_no h h1 h2
  obtain ⟨la', hla⟩ : ∃ l, Im.dgl a = l := ⟨_, rfl⟩
  obtain ⟨lb', hlb⟩ : ∃ l, Im.dgl b = l := ⟨_, rfl⟩
  rw [hla] at HVA HDA hstep hend hno la hca1 ⊢; rw [hlb] at HVB HDB hstep hend hno lb hcb1 ⊢
  obtain ⟨N, hN⟩ : ∃ n, la'.length = n := ⟨_, rfl⟩
  obtain ⟨M, hM⟩ : ∃ n, lb'.length = n := ⟨_, rfl⟩
  rw [hN] at HVA hstep hend hno la hca1 ⊢; rw [hM] at HVB hstep hend hno lb hcb1 ⊢
  have HS0 := Lib.hid hs0; have HST := Lib.hid hstep; have HEND := Lib.hid hend; have HNO := Lib.hid hno
  have HNM : Hid (la'.length = N ∧ lb'.length = M) := Lib.hid ⟨hN, hM⟩
  clear ha hb hs0 hstep hend hno hla hlb hN hM
  go_enter Tryz.func78, Tryz.ntmps78
  go_wp2
  go_loopw [5, 6, 7, 8] (fun o c i _ wr => ∃ (k : Nat) (cc : Int) (L : List Int), k ≤ N + M + 1 ∧ i = .int .i64 (k : Int) ∧ c = .int .i64 cc ∧ Hid (SumI a b k cc L) ∧ Hid (wr.ownsRow w.heap.size 3 1 o k (intCells L)) ∧ Hid (Below w.heap.size w wr)) (fun _ _ i _ _ => N + M + 2 - (intOf i).toNat)
  case atStart => exact ⟨0, 0, [], by omega, by go_num, by go_num, HS0, Lib.hid (World.ownsRow_nil _ _ _ _), Lib.hid (Below.refl _ _)⟩
  case round =>
    obtain ⟨k, cc, L, hk, rfl, rfl, HI, HO, HB⟩ := hrel
    have hc0 := HI.out.c0; have hc1 := HI.out.c1
    obtain ⟨Ao, co, rfl⟩ := own_slice HO.out
    have hda := HDA.out k; have hdb := HDB.out k
    by_cases hg : k < N ∨ k < M ∨ 0 < cc
    · have hkl : k ≤ N + M := by
        rcases hg with h | h | h
        · omega
        · omega
        · rcases Nat.lt_or_ge (N + M) k with h2 | h2
          · exfalso
            exact absurd hc1 (by have := HNO.out k cc L HI.out (by omega) (by omega); omega)
          · exact h2
      have hst := HST.out k cc L HI.out hg
      obtain ⟨x, hx⟩ : ∃ x, la'.getD k 0 = x := ⟨_, rfl⟩
      obtain ⟨y, hy⟩ : ∃ y, lb'.getD k 0 = y := ⟨_, rfl⟩
      rw [hx, hy] at hst
      rw [hx] at hda; rw [hy] at hdb
      obtain ⟨s, hs⟩ : ∃ s, cc + x + y = s := ⟨_, rfl⟩
      rw [hs] at hst
      have hs0 : 0 ≤ s := by omega
      have hs1 : s ≤ 19 := by omega
      obtain ⟨v2, w2, hrun, hown2, hgr⟩ := snoc_int (x := s % 10) hi0 hz0 hz1 hz2 HO.out (by omega) HB.out.size
      have hb2 := grown_below HO.out HB.out.size hgr
      have HS2 := Lib.hid hst; have HO2 := Lib.hid hown2; have HB2 := Lib.hid (HB.out.trans hb2)
      have e1 : s.tmod 10 = s % 10 := Int.tmod_eq_emod_of_nonneg hs0
      have e2 : s.tdiv 10 = s / 10 := Int.tdiv_eq_ediv_of_nonneg hs0
      have e3 : IntKind.i64.wrap (s % 10) = s % 10 := IntWalk.i64_in _ (by omega)
      have e4 : IntKind.i64.wrap (s / 10) = s / 10 := IntWalk.i64_in _ (by omega)
      have u1 : IntKind.i64.wrap (cc + x) = cc + x := IntWalk.i64_in _ (by omega)
      have u2 : IntKind.i64.wrap (cc + y) = cc + y := IntWalk.i64_in _ (by omega)
      have u3 : IntKind.i64.wrap s = s := IntWalk.i64_in _ (by omega)
      have i0' : (0 : Int) ≤ (k : Int) := by omega
      have HX := Lib.hid hx; have HY := Lib.hid hy
      clear hst hown2 hgr hb2 hx hy
      by_cases hN : k < N
      · obtain ⟨g, off, rfl, hga, hcell⟩ := HVA.out k (by have := HNM.out.1; omega)
        have c0 := (HB.out.cell (p := ⟨g, off + k, none⟩) hga).trans (hcell k (by have := HNM.out.1; omega))
        rw [HX.out] at c0
        have i1 : (k : Int) < (N : Int) := by omega
        clear hcell
        by_cases hM : k < M
        · obtain ⟨g2, off2, rfl, hgb, hcell2⟩ := HVB.out k (by have := HNM.out.2; omega)
          have c2 := (HB.out.cell (p := ⟨g2, off2 + k, none⟩) hgb).trans (hcell2 k (by have := HNM.out.2; omega))
          rw [HY.out] at c2
          have i2 : (k : Int) < (M : Int) := by omega
          clear hcell2 hg
          go_wp2
          go_roundw
          case rel => exact ⟨k + 1, s / 10, L ++ [s % 10], by omega, by go_num, by go_num, HS2, HO2, HB2⟩
          case measure => simp [intOf]; omega
        · have hy0 : y = 0 := by rw [← HY.out, List.getD_eq_getElem?_getD, List.getElem?_eq_none (by have := HNM.out.2; omega)]; rfl
          have hs' : cc + x = s := by omega
          have i2 : decide ((k : Int) < (M : Int)) = false := decide_eq_false (by omega)
          clear hg hs hy0 HY
          go_wp2
          go_roundw
          case rel => exact ⟨k + 1, s / 10, L ++ [s % 10], by omega, by go_num, by go_num, HS2, HO2, HB2⟩
          case measure => simp [intOf]; omega
      · have hx0 : x = 0 := by rw [← HX.out, List.getD_eq_getElem?_getD, List.getElem?_eq_none (by have := HNM.out.1; omega)]; rfl
        by_cases hM : k < M
        · obtain ⟨g2, off2, rfl, hgb, hcell2⟩ := HVB.out k (by have := HNM.out.2; omega)
          have c2 := (HB.out.cell (p := ⟨g2, off2 + k, none⟩) hgb).trans (hcell2 k (by have := HNM.out.2; omega))
          rw [HY.out] at c2
          have i2 : (k : Int) < (M : Int) := by omega
          have hs' : cc + y = s := by omega
          clear hcell2 hg hs hx0 HX
          go_wp2
          go_roundw
          case rel => exact ⟨k + 1, s / 10, L ++ [s % 10], by omega, by go_num, by go_num, HS2, HO2, HB2⟩
          case measure => simp [intOf]; omega
        · have hy0 : y = 0 := by rw [← HY.out, List.getD_eq_getElem?_getD, List.getElem?_eq_none (by have := HNM.out.2; omega)]; rfl
          have hs' : cc = s := by omega
          have hcp : 0 < cc := by omega
          subst hs'
          clear hg hs hx0 hy0 HX HY
          go_wp2
          go_roundw
          case rel => exact ⟨k + 1, cc / 10, L ++ [cc % 10], by omega, by go_num, by go_num, HS2, HO2, HB2⟩
          case measure => simp [intOf]; omega
    · obtain rfl : cc = 0 := by omega
      have he := HEND.out k L HI.out (by omega) (by omega)
      have hv := ints_of_own HO.out HI.out.len
      rw [he] at hv
      have HV := Lib.hid hv
      have hkN : ¬ k < N := by omega
      have hkM : ¬ k < M := by omega
      clear he hv hg hda hdb
      go_wp2
      go_ret
      exact ⟨_, rfl, HV.out, HB.out⟩
end Go.Proofs.YtabkodpjhpjgnaaGreatDoor

namespace Go.Proofs.YtabkodpjhpjgnaaGreatDoor
open Go.RowKit
attribute [local go_sem ↓] append_appN

/-- What stands between two rounds of a difference: digits L, borrow c. -/
structure DifI (a b : Nat) (k : Nat) (c : Int) (L : List Int) : Prop where
  len : L.length = k
  dg : Im.Dg L
  c0 : 0 ≤ c
  c1 : c ≤ 1
  val : Im.dval L - 10 ^ k * c = Im.dval ((Im.dgl a).take k) - Im.dval ((Im.dgl b).take k)
theorem difI_start (a b : Nat) : DifI a b 0 0 [] := ⟨rfl, (fun x h => by cases h), by decide, by decide, by simp [Im.dval]⟩
theorem difI_step {a b k : Nat} {c : Int} {L : List Int} (h : DifI a b k c L) (d : Int) (hd : (Im.dgl a).getD k 0 - c - (Im.dgl b).getD k 0 = d) :
    DifI a b (k + 1) (if d < 0 then 1 else 0) (L ++ [if d < 0 then d + 10 else d]) := by
  have ha := (Im.dgl_dg a).getD k
  have hb := (Im.dgl_dg b).getD k
  have h0 := h.c0; have h1 := h.c1
  obtain ⟨x, hx⟩ : ∃ x, (Im.dgl a).getD k 0 = x := ⟨_, rfl⟩
  obtain ⟨y, hy⟩ : ∃ y, (Im.dgl b).getD k 0 = y := ⟨_, rfl⟩
  rw [hx, hy] at hd
  rw [hx] at ha; rw [hy] at hb
  have hv := h.val
  have e2 : (10 : Int) ^ k * (x - c - y) = 10 ^ k * d := by rw [hd]
  rw [Int.mul_sub, Int.mul_sub] at e2
  by_cases hn : d < 0
  · rw [if_pos hn, if_pos hn]
    refine ⟨by rw [List.length_append, h.len]; rfl, h.dg.append (Im.Dg.one (by omega) (by omega)), by omega, by omega, ?_⟩
    rw [Im.dval_take_succ, Im.dval_take_succ, Im.dval_snoc, h.len, hx, hy, Int.mul_add, Int.pow_succ]
    omega
  · rw [if_neg hn, if_neg hn]
    refine ⟨by rw [List.length_append, h.len]; rfl, h.dg.append (Im.Dg.one (by omega) (by omega)), by omega, by omega, ?_⟩
    rw [Im.dval_take_succ, Im.dval_take_succ, Im.dval_snoc, h.len, hx, hy]
    omega
theorem difI_end {a b : Nat} {c : Int} {L : List Int} (h : DifI a b (Im.dgl a).length c L) (hab : b ≤ a) : Im.trim L = Im.dgl (a - b) := by
  have hlen : (Im.dgl b).length ≤ (Im.dgl a).length := by
    rcases Nat.lt_or_ge (Im.dgl a).length (Im.dgl b).length with h1 | h1
    · have := Im.dgl_len_lt a b h1; omega
    · exact h1
  have hv := h.val
  rw [List.take_of_length_le (Nat.le_refl _), List.take_of_length_le hlen, Im.dgl_val, Im.dgl_val] at hv
  have h0 := h.c0; have h1 := h.c1
  have h2 := Im.dval_ltI h.dg
  rw [h.len] at h2
  have hc : c = 0 := by
    rcases Int.lt_or_le 0 c with hc | hc
    · obtain rfl : c = 1 := by omega
      omega
    · omega
  subst hc
  exact Im.trim_dgl h.dg (by omega)

/-- A slice in blocks from B on. -/
def Far (B : Nat) (v : Value) : Prop := ∀ g o n c, v = .slice (some ⟨g, o, none⟩) n c → B ≤ g
theorem far_own {w : World} {B n m : Nat} {A : Option Addr} {c : Nat} {xs : List Value} (h : w.ownsRow B 3 1 (.slice A n c) n xs) : Far B (.slice A m c) := fun g o n' c' e => by
  injection e with e1 e2 e3
  subst e1
  exact own_ge h g rfl
def NewPost (n : Nat) (w : World) (e : Ending) (w' : World) : Prop := ∃ v, e = .returned v ∧ Dig w' v n ∧ Far w.heap.size v ∧ Below w.heap.size w w'
set_option maxRecDepth 100000 in
set_option maxHeartbeats 4000000 in
theorem rminus_new (va vb : Value) (a b : Nat) (w : World) (ha : Dig w va a) (hb : Dig w vb b) (hab : b ≤ a) (la : (Im.dgl a).length ≤ 1000) :
    Calls Tryz.prog 79 #[va, vb] w (NewPost (a - b) w) := by
  obtain ⟨i0, hi0, hz0, hz1, hz2⟩ := info_parts Tryz.infoInt
  obtain ⟨A, ca, rfl, hca1, hca2⟩ := ints_form ha
  obtain ⟨B, cb, rfl, hcb1, hcb2⟩ := ints_form hb
  have HVA := Lib.hid (fun k hk => ints_at ha k hk); have HVB := Lib.hid (fun k hk => ints_at hb k hk)
  have HDA := Lib.hid (fun k => (Im.dgl_dg a).getD k); have HDB := Lib.hid (fun k => (Im.dgl_dg b).getD k)
  have hs0 := difI_start a b
  have hstep := fun k c L (h : DifI a b k c L) d hd => difI_step h d hd
  have hend := fun c L (h : DifI a b (Im.dgl a).length c L) => difI_end h hab
  obtain ⟨la', hla⟩ : ∃ l, Im.dgl a = l := ⟨_, rfl⟩
  obtain ⟨lb', hlb⟩ : ∃ l, Im.dgl b = l := ⟨_, rfl⟩
  rw [hla] at HVA HDA hstep hend la hca1 ⊢; rw [hlb] at HVB HDB hstep hcb1 ⊢
  obtain ⟨N, hN⟩ : ∃ n, la'.length = n := ⟨_, rfl⟩
  obtain ⟨M, hM⟩ : ∃ n, lb'.length = n := ⟨_, rfl⟩
  rw [hN] at HVA hend la hca1 ⊢; rw [hM] at HVB hcb1 ⊢
  have HS0 := Lib.hid hs0; have HST := Lib.hid hstep; have HEND := Lib.hid hend
  have HNM : Hid (la'.length = N ∧ lb'.length = M) := Lib.hid ⟨hN, hM⟩
  clear ha hb hs0 hstep hend hla hlb hN hM hab
  go_enter Tryz.func79, Tryz.ntmps79
  go_wp2
  go_loopw [5, 6, 7, 8] (fun o c i _ wr => ∃ (k : Nat) (cc : Int) (L : List Int), k ≤ N ∧ i = .int .i64 (k : Int) ∧ c = .int .i64 cc ∧ Hid (DifI a b k cc L) ∧ Hid (wr.ownsRow w.heap.size 3 1 o k (intCells L)) ∧ Hid (Below w.heap.size w wr)) (fun _ _ i _ _ => N - (intOf i).toNat)
  case atStart => exact ⟨0, 0, [], by omega, by go_num, by go_num, HS0, Lib.hid (World.ownsRow_nil _ _ _ _), Lib.hid (Below.refl _ _)⟩
  case round =>
    obtain ⟨k, cc, L, hk, rfl, rfl, HI, HO, HB⟩ := hrel
    have hc0 := HI.out.c0; have hc1 := HI.out.c1
    obtain ⟨Ao, co, rfl⟩ := own_slice HO.out
    have hda := HDA.out k; have hdb := HDB.out k
    by_cases hN : k < N
    · obtain ⟨x, hx⟩ : ∃ x, la'.getD k 0 = x := ⟨_, rfl⟩
      obtain ⟨y, hy⟩ : ∃ y, lb'.getD k 0 = y := ⟨_, rfl⟩
      rw [hx] at hda; rw [hy] at hdb
      obtain ⟨d, hd⟩ : ∃ d, x - cc - y = d := ⟨_, rfl⟩
      have hst := HST.out k cc L HI.out d (by rw [hx, hy]; exact hd)
      obtain ⟨g, off, rfl, hga, hcell⟩ := HVA.out k (by have := HNM.out.1; omega)
      have c0 := (HB.out.cell (p := ⟨g, off + k, none⟩) hga).trans (hcell k (by have := HNM.out.1; omega))
      rw [hx] at c0
      have i0' : (0 : Int) ≤ (k : Int) := by omega
      have i1 : (k : Int) < (N : Int) := by omega
      have u1 : IntKind.i64.wrap (x - cc) = x - cc := IntWalk.i64_in _ (by omega)
      have u2 : IntKind.i64.wrap d = d := IntWalk.i64_in _ (by omega)
      have u3 : IntKind.i64.wrap (d + 10) = d + 10 := IntWalk.i64_in _ (by omega)
      have HY := Lib.hid hy
      clear hcell hx hy
      by_cases hn : d < 0
      · rw [if_pos hn, if_pos hn] at hst
        obtain ⟨v2, w2, hrun, hown2, hgr⟩ := snoc_int (x := d + 10) hi0 hz0 hz1 hz2 HO.out (by omega) HB.out.size
        have hb2 := grown_below HO.out HB.out.size hgr
        have HS2 := Lib.hid hst; have HO2 := Lib.hid hown2; have HB2 := Lib.hid (HB.out.trans hb2)
        have t1 : decide (d < 0) = true := decide_eq_true hn
        clear hst hown2 hgr hb2
        by_cases hM : k < M
        · obtain ⟨g2, off2, rfl, hgb, hcell2⟩ := HVB.out k (by have := HNM.out.2; omega)
          have c2 := (HB.out.cell (p := ⟨g2, off2 + k, none⟩) hgb).trans (hcell2 k (by have := HNM.out.2; omega))
          rw [HY.out] at c2
          have i2 : (k : Int) < (M : Int) := by omega
          clear hcell2
          go_wp2
          go_roundw
          case rel => exact ⟨k + 1, 1, L ++ [d + 10], by omega, by go_num, by go_num, HS2, HO2, HB2⟩
          case measure => simp [intOf]; omega
        · have hy0 : y = 0 := by rw [← HY.out, List.getD_eq_getElem?_getD, List.getElem?_eq_none (by have := HNM.out.2; omega)]; rfl
          have hs' : x - cc = d := by omega
          have i2 : decide ((k : Int) < (M : Int)) = false := decide_eq_false (by omega)
          clear hd hy0 HY
          go_wp2
          go_roundw
          case rel => exact ⟨k + 1, 1, L ++ [d + 10], by omega, by go_num, by go_num, HS2, HO2, HB2⟩
          case measure => simp [intOf]; omega
      · rw [if_neg hn, if_neg hn] at hst
        obtain ⟨v2, w2, hrun, hown2, hgr⟩ := snoc_int (x := d) hi0 hz0 hz1 hz2 HO.out (by omega) HB.out.size
        have hb2 := grown_below HO.out HB.out.size hgr
        have HS2 := Lib.hid hst; have HO2 := Lib.hid hown2; have HB2 := Lib.hid (HB.out.trans hb2)
        have t1 : decide (d < 0) = false := decide_eq_false hn
        clear hst hown2 hgr hb2
        by_cases hM : k < M
        · obtain ⟨g2, off2, rfl, hgb, hcell2⟩ := HVB.out k (by have := HNM.out.2; omega)
          have c2 := (HB.out.cell (p := ⟨g2, off2 + k, none⟩) hgb).trans (hcell2 k (by have := HNM.out.2; omega))
          rw [HY.out] at c2
          have i2 : (k : Int) < (M : Int) := by omega
          clear hcell2
          go_wp2
          go_roundw
          case rel => exact ⟨k + 1, 0, L ++ [d], by omega, by go_num, by go_num, HS2, HO2, HB2⟩
          case measure => simp [intOf]; omega
        · have hy0 : y = 0 := by rw [← HY.out, List.getD_eq_getElem?_getD, List.getElem?_eq_none (by have := HNM.out.2; omega)]; rfl
          have hs' : x - cc = d := by omega
          have i2 : decide ((k : Int) < (M : Int)) = false := decide_eq_false (by omega)
          clear hd hy0 HY
          go_wp2
          go_roundw
          case rel => exact ⟨k + 1, 0, L ++ [d], by omega, by go_num, by go_num, HS2, HO2, HB2⟩
          case measure => simp [intOf]; omega
    · obtain rfl : k = N := by omega
      have he := HEND.out cc L HI.out
      have hv := ints_of_own HO.out HI.out.len
      have hl := HI.out.len
      have htr := trim3_any L Ao co wr (by rw [hl]; exact hv)
      rw [hl] at htr
      have hp := ints_pre hv (Im.trim L).length (Im.trim_len_le L)
      rw [← Im.trim_take, he] at hp
      rw [he] at htr
      have HP := Lib.hid hp; have HTR := Lib.hid htr; have HFR := Lib.hid (fun m => far_own (m := m) HO.out)
      clear he hv hl htr hp hda hdb
      go_wp2_with (go_at_call 95; refine HTR.out.mono ?_; rintro e w5 ⟨rfl, rfl⟩)
      go_ret
      exact ⟨_, rfl, HP.out, HFR.out _, HB.out⟩
theorem rminus_any (va vb : Value) (a b : Nat) (w : World) (ha : Dig w va a) (hb : Dig w vb b) (hab : b ≤ a) (la : (Im.dgl a).length ≤ 1000) :
    Calls Tryz.prog 79 #[va, vb] w (DigPost (a - b) w) :=
  (rminus_new va vb a b w ha hb hab la).mono fun _ _ ⟨v, h1, h2, _, h4⟩ => ⟨v, h1, h2, h4⟩
end Go.Proofs.YtabkodpjhpjgnaaGreatDoor

namespace Go.Proofs.YtabkodpjhpjgnaaGreatDoor
open Go.RowKit
attribute [local go_sem ↓] append_appN

theorem dd_dtxt (n : Nat) (h : n ≠ 0) : Lib.decDigits n = Im.dtxt (Im.dgl n) := by
  have h1 := Im.dtxt_dd (Im.dgl_dg n) (fun e => h (Im.dgl_nil e)) (Im.dgl_top n)
  rw [Im.dgl_val] at h1; simpa using h1
theorem dtxt_get (l : List Int) (k : Nat) (hk : k < l.length) (hd : Im.Dg l) : (Im.dtxt l)[l.length - 1 - k]? = some (UInt8.ofNat (48 + (l.getD k 0).toNat)) ∧ ((UInt8.ofNat (48 + (l.getD k 0).toNat)).toNat : Int) = 48 + l.getD k 0 := by
  have hx := hd.getD k
  refine ⟨?_, by rw [u8_ofNat _ (by omega)]; omega⟩
  unfold Im.dtxt
  rw [List.getElem?_map, List.getElem?_reverse (by omega), show l.length - 1 - (l.length - 1 - k) = k by omega, List.getElem?_eq_getElem hk, List.getD_eq_getElem?_getD, List.getElem?_eq_getElem hk]
  rfl
theorem bs_at (d : List UInt8) (j : Nat) (c : UInt8) (h : d[j]? = some c) : ∀ w, (Instr.index 9 (.string (bs d)) (.int .i64 (j : Int))).run Tryz.prog w = .ok (.int .u8 (c.toNat : Int)) w := fun w => by
  have hl := (List.getElem?_eq_some_iff.1 h).1
  have hs := bs_size d
  rw [run_index_string w 9 (bs d) .i64 (j : Int) Tryz.underlying9, dif_pos ⟨by omega, by omega⟩]
  have e : ((bs d)[(j : Int).toNat]'(by rw [Int.toNat_natCast]; omega)) = c := by
    have h2 := (List.getElem?_eq_some_iff.1 h).2
    rw [← h2]; rfl
  rw [e]
def NegPost (z : Int) (w : World) (e : Ending) (w' : World) : Prop := ∃ v, e = .returned (.tuple #[.bool (decide (z < 0)), v]) ∧ Dig w' v z.natAbs ∧ Below w.heap.size w w'

set_option maxRecDepth 100000 in
set_option maxHeartbeats 4000000 in
theorem rdigits_any (z : Int) (w : World) (hz : okz z = true) : Calls Tryz.prog 72 #[strOf (Lib.itoa z)] w (NegPost z w) := by
  obtain ⟨i0, hi0, hz0, hz1, hz2⟩ := info_parts Tryz.infoInt
  obtain ⟨n, hn⟩ : ∃ n, z.natAbs = n := ⟨_, rfl⟩
  by_cases hn0 : n = 0
  · obtain rfl : z = 0 := by omega
    rw [lit0]
    have hv : Dig w (.slice none 0 0) (0 : Int).natAbs := ints_nil _ _
    have HV := Lib.hid hv
    clear hv
    go_enter Tryz.func72, Tryz.ntmps72
    go_wp2
    go_loopw [5, 6] (fun o i wr => o = .slice none 0 0 ∧ i = .int .i64 0 ∧ wr = w) (fun _ _ _ => 0)
    case atStart => exact ⟨rfl, by go_num, rfl⟩
    case round =>
      obtain ⟨rfl, rfl, rfl⟩ := hrel
      go_wp2
      go_ret2
      exact ⟨_, rfl, HV.out, Below.refl _ _⟩
  have hlen : (Im.dgl n).length ≤ 200 := Im.dgl_len n 200 (by rw [← hn]; exact of_decide_eq_true hz)
  have hdd := dd_dtxt n hn0
  have hget := fun k hk => dtxt_get (Im.dgl n) k hk (Im.dgl_dg n)
  have hlen2 := dtxt_len (Im.dgl n)
  have htk := fun k (hk : k < (Im.dgl n).length) => (show (Im.dgl n).take (k + 1) = (Im.dgl n).take k ++ [(Im.dgl n).getD k 0] from by
    rw [List.take_succ_eq_append_getElem hk, List.getD_eq_getElem?_getD, List.getElem?_eq_getElem hk]; rfl)
  have hdg := fun k => (Im.dgl_dg n).getD k
  have htop : ((Im.dgl n).getD ((Im.dgl n).length - 1) 0) = ((Im.dgl n).getD ((Im.dgl n).length - 1) 0) := rfl
  have hne : ((bs (Lib.decDigits n)).toList == [48]) = false := by
    have h1 := txt_zero (n : Int)
    rw [Lib.itoa_nonneg] at h1
    rw [h1]; exact decide_eq_false (by omega)
  obtain ⟨l, hl⟩ : ∃ l, Im.dgl n = l := ⟨_, rfl⟩
  unfold NegPost Dig
  rw [hn]
  rw [hl] at hlen hdd hget hlen2 htk hdg ⊢
  obtain ⟨N, hN⟩ : ∃ N, l.length = N := ⟨_, rfl⟩
  rw [hN] at hlen hget hlen2 htk
  have hN1 : 1 ≤ N := by
    rcases Nat.eq_zero_or_pos N with e | e
    · exfalso
      have : l = [] := List.eq_nil_of_length_eq_zero (by omega)
      rw [this] at hl
      exact hn0 (Im.dgl_nil hl)
    · exact e
  have hix := fun k (hk : k < N) => bs_at (Im.dtxt l) (N - 1 - k) _ (hget k hk).1
  have hh := fun k (hk : k < N) => (hget k hk).2
  rw [hdd] at hne
  have hDs : (bs (Im.dtxt l)).size = N := by rw [bs_size, hlen2]
  have hta : l.take N = l := List.take_of_length_le (by omega)
  have hfirst : (0 : Nat) < N ∧ ∀ w, (Instr.index 9 (.string (bs (Im.dtxt l))) (.int .i64 0)).run Tryz.prog w = .ok (.int .u8 (48 + l.getD (N - 1) 0)) w := ⟨hN1, fun w => by
    have h1 := hix (N - 1) (by omega) w
    rw [show N - 1 - (N - 1) = 0 by omega, hh (N - 1) (by omega)] at h1
    exact h1⟩
  obtain ⟨D, hD⟩ : ∃ D, bs (Im.dtxt l) = D := ⟨_, rfl⟩
  have hdx := hdg (N - 1)
  obtain ⟨tp, htp⟩ : ∃ tp, l.getD (N - 1) 0 = tp := ⟨_, rfl⟩
  rw [htp] at hfirst hdx
  rw [hD] at hne hDs hix hfirst
  have HNN := Lib.hid hN; have HTK := Lib.hid htk; have HIX := Lib.hid hix; have HH := Lib.hid hh; have HDG := Lib.hid hdg; have HTA := Lib.hid hta
  by_cases hneg : z < 0
  · have hit : Lib.itoa z = 45 :: Im.dtxt l := by rw [neg_itoa hneg, hn, hdd]
    have hS : (bs (Lib.itoa z)).size = N + 1 := by rw [hit, bs_size, List.length_cons, hlen2]
    have hf : ∀ w, (Instr.index 9 (.string (bs (Lib.itoa z))) (.int .i64 0)).run Tryz.prog w = .ok (.int .u8 45) w := fun w => by
      have h1 := bs_at (Lib.itoa z) 0 45 (by rw [hit]; rfl) w
      exact h1
    have hsl : ∀ w, (Instr.slice 9 (.string (bs (Lib.itoa z))) (some (.int .i64 1)) none none).run Tryz.prog w = .ok (.string D) w := fun w => by
      rw [run_slice_string_l (P := Tryz.prog) w 9 (bs (Lib.itoa z)) Tryz.underlying9 .i64 1 (by decide) (by rw [hS]; omega), hS, hit]
      show Result.ok (Value.string ((bs (45 :: Im.dtxt l)).extract 1 (N + 1))) w = _
      have h1 := bsx_cut 45 (Im.dtxt l)
      rw [hlen2] at h1
      rw [h1, hD]
    rw [decide_eq_true hneg]
    unfold strOf
    generalize bs (Lib.itoa z) = S at *
    have s0 : IntKind.i64.wrap ((N : Int) - 1) = (N : Int) - 1 := IntWalk.i64_in _ (by omega)
    clear hix hh hdg htk hta hget hN hl hlen2 hit hz hn hn0 hdd htop hD htp hneg
    go_enter Tryz.func72, Tryz.ntmps72
    go_wp2
    go_loopw [5, 6] (fun o i wr => ∃ k : Nat, k ≤ N ∧ i = .int .i64 ((N : Int) - 1 - (k : Int)) ∧ Hid (wr.ownsRow w.heap.size 3 1 o k (intCells (l.take k))) ∧ Hid (Below w.heap.size w wr)) (fun _ i _ => (intOf i + 1).toNat)
    case atStart => exact ⟨0, by omega, by go_num, Lib.hid (World.ownsRow_nil _ _ _ _), Lib.hid (Below.refl _ _)⟩
    case round =>
      obtain ⟨k, hk, rfl, HO, HB⟩ := hrel
      obtain ⟨Ao, co, rfl⟩ := own_slice HO.out
      by_cases hlt : k < N
      · have hi := HIX.out k hlt
        have hv := HH.out k hlt
        have hx := HDG.out k
        have ht := HTK.out k hlt
        obtain ⟨x, hxx⟩ : ∃ x, l.getD k 0 = x := ⟨_, rfl⟩
        rw [hxx] at hi hv hx ht
        rw [hv, show ((N - 1 - k : Nat) : Int) = (N : Int) - 1 - (k : Int) by omega] at hi
        obtain ⟨v2, w2, hrun, hown2, hgr⟩ := snoc_int (x := x) hi0 hz0 hz1 hz2 HO.out (by omega) HB.out.size
        have hb2 := grown_below HO.out HB.out.size hgr
        rw [← ht] at hown2
        have HO2 := Lib.hid hown2; have HB2 := Lib.hid (HB.out.trans hb2)
        have i1 : (0 : Int) ≤ (N : Int) - 1 - (k : Int) := by omega
        have i4 : IntKind.u8.wrap (48 + x - 48) = x := by rw [IntKind.wrap_u8]; omega
        have i5 : IntKind.i64.wrap x = x := IntWalk.i64_in _ (by omega)
        clear hxx hv ht hown2 hgr hb2
        go_wp2
        go_roundw
        case rel => exact ⟨k + 1, by omega, by go_num, HO2, HB2⟩
        case measure => simp [intOf]; omega
      · obtain rfl : k = N := by omega
        have hown := HO.out
        rw [HTA.out] at hown
        have hv := ints_of_own hown HNN.out
        have HV := Lib.hid hv
        have i1 : decide ((0 : Int) ≤ (k : Int) - 1 - (k : Int)) = false := decide_eq_false (by omega)
        clear hown hv
        go_wp2
        go_ret2
        exact ⟨_, rfl, HV.out, HB.out⟩
  · have hit : Lib.itoa z = Im.dtxt l := by rw [pos_itoa hneg, hn, hdd]
    rw [decide_eq_false hneg]
    unfold strOf
    rw [hit, hD]
    have t0 : (48 + tp == 45) = false := by rw [beq_eq_false_iff_ne]; omega
    have s0 : IntKind.i64.wrap ((N : Int) - 1) = (N : Int) - 1 := IntWalk.i64_in _ (by omega)
    have hf := hfirst.2
    clear hix hh hdg htk hta hget hN hl hlen2 hit hz hn hn0 hdd htop hD htp hneg
    go_enter Tryz.func72, Tryz.ntmps72
    go_wp2
    clear hf
    go_loopw [5, 6] (fun o i wr => ∃ k : Nat, k ≤ N ∧ i = .int .i64 ((N : Int) - 1 - (k : Int)) ∧ Hid (wr.ownsRow w.heap.size 3 1 o k (intCells (l.take k))) ∧ Hid (Below w.heap.size w wr)) (fun _ i _ => (intOf i + 1).toNat)
    case atStart => exact ⟨0, by omega, by go_num, Lib.hid (World.ownsRow_nil _ _ _ _), Lib.hid (Below.refl _ _)⟩
    case round =>
      obtain ⟨k, hk, rfl, HO, HB⟩ := hrel
      obtain ⟨Ao, co, rfl⟩ := own_slice HO.out
      by_cases hlt : k < N
      · have hi := HIX.out k hlt
        have hv := HH.out k hlt
        have hx := HDG.out k
        have ht := HTK.out k hlt
        obtain ⟨x, hxx⟩ : ∃ x, l.getD k 0 = x := ⟨_, rfl⟩
        rw [hxx] at hi hv hx ht
        rw [hv, show ((N - 1 - k : Nat) : Int) = (N : Int) - 1 - (k : Int) by omega] at hi
        obtain ⟨v2, w2, hrun, hown2, hgr⟩ := snoc_int (x := x) hi0 hz0 hz1 hz2 HO.out (by omega) HB.out.size
        have hb2 := grown_below HO.out HB.out.size hgr
        rw [← ht] at hown2
        have HO2 := Lib.hid hown2; have HB2 := Lib.hid (HB.out.trans hb2)
        have i1 : (0 : Int) ≤ (N : Int) - 1 - (k : Int) := by omega
        have i4 : IntKind.u8.wrap (48 + x - 48) = x := by rw [IntKind.wrap_u8]; omega
        have i5 : IntKind.i64.wrap x = x := IntWalk.i64_in _ (by omega)
        clear hxx hv ht hown2 hgr hb2
        go_wp2
        go_roundw
        case rel => exact ⟨k + 1, by omega, by go_num, HO2, HB2⟩
        case measure => simp [intOf]; omega
      · obtain rfl : k = N := by omega
        have hown := HO.out
        rw [HTA.out] at hown
        have hv := ints_of_own hown HNN.out
        have HV := Lib.hid hv
        have i1 : decide ((0 : Int) ≤ (k : Int) - 1 - (k : Int)) = false := decide_eq_false (by omega)
        clear hown hv
        go_wp2
        go_ret2
        exact ⟨_, rfl, HV.out, HB.out⟩
end Go.Proofs.YtabkodpjhpjgnaaGreatDoor

namespace Go.Proofs.YtabkodpjhpjgnaaGreatDoor
open Go.RowKit

theorem digs_at {d : List UInt8} (k : Nat) (hk : k < d.length) : Im.digs (d.take (k + 1)) = (Im.digs (d.take k) && (decide (48 ≤ d[k].toNat) && decide (d[k].toNat ≤ 57))) := by
  rw [List.take_succ_eq_append_getElem hk]
  unfold Im.digs
  rw [List.all_append]
  simp only [List.all_cons, List.all_nil, Bool.and_true]
theorem digs_no {d : List UInt8} (k : Nat) (hk : k < d.length) (h : ¬ (48 ≤ d[k].toNat ∧ d[k].toNat ≤ 57)) : Im.digs d = false := by
  rcases hd : Im.digs d with _ | _
  · rfl
  · exact absurd (List.all_eq_true.1 hd d[k] (List.getElem_mem hk)) (by simp; omega)
/-- What Valid says of the rest behind the sign. -/
theorem vld_nodig {l d : List UInt8} (hs : Im.strip l = d) (h : Im.digs d = false) : Im.vld l = false := by
  unfold Im.vld
  rw [hs]
  cases d with
  | nil => rfl
  | cons c r =>
    dsimp only
    rw [h]
    by_cases hc : c = 48
    · rw [if_pos hc]
      have : (l == [48]) = false := by
        rw [beq_eq_false_iff_ne]; intro e
        subst e
        have : (48 : UInt8) :: [] = c :: r := hs
        injection this with e1 e2
        subst e1; subst e2
        exact absurd h (by decide)
      rw [this, Bool.and_false]
    · rw [if_neg hc, Bool.and_false]
theorem vld_dig {l d : List UInt8} (hs : Im.strip l = d) (h : Im.digs d = true) (hz : (l == [48]) = (d == [48])) : Im.vld l = (decide (0 < d.length) && (decide (d.length ≤ 200) && ((d == [48]) || !(d.head? == some 48)))) := by
  unfold Im.vld
  rw [hs]
  cases d with
  | nil => rfl
  | cons c r =>
    dsimp only
    rw [h, hz]
    have h1 : decide (0 < (c :: r).length) = true := by simp
    rw [h1, Bool.true_and]
    by_cases hc : c = 48
    · rw [if_pos hc, hc]
      simp
    · rw [if_neg hc]
      have : ((c :: r).head? == some 48) = false := by simp [hc]
      rw [this]; simp

set_option maxRecDepth 100000 in
set_option maxHeartbeats 8000000 in
theorem rvalid_any (l : List UInt8) (hl : l.length ≤ 9223372036854775000) (w : World) : Calls Tryz.prog 60 #[strOf l] w fun e w' => e = .returned (.bool (Im.vld l)) ∧ w = w' := by
  obtain ⟨d, hs⟩ : ∃ d, Im.strip l = d := ⟨_, rfl⟩
  obtain ⟨b, hb⟩ : ∃ b, Im.vld l = b := ⟨_, rfl⟩
  have hnb : d.length ≤ 9223372036854775000 := by
    rw [← hs]; unfold Im.strip; split
    · rw [List.length_tail]; omega
    · exact hl
  clear hl
  have hno := fun h => vld_nodig (l := l) hs h
  have hyes := fun h hz => vld_dig (l := l) hs h hz
  rw [hb] at hno hyes ⊢
  have hat := fun k (hk : k < d.length) => bs_at d k d[k] (List.getElem?_eq_getElem hk)
  have hdat := fun k (hk : k < d.length) => digs_at (d := d) k hk
  have hdno := fun k (hk : k < d.length) h => digs_no (d := d) k hk h
  have hsz := bs_size d
  have hq : ((bs d).toList == [48]) = (d == [48]) := by rw [show (bs d).toList = d from by rw [ByteArray.toList_eq, bs_list]]
  obtain ⟨n, hn⟩ : ∃ n, d.length = n := ⟨_, rfl⟩
  obtain ⟨D, hD⟩ : ∃ D, bs d = D := ⟨_, rfl⟩
  rw [hD] at hat hsz hq
  rw [hn] at hsz hnb
  have HNO := Lib.hid hno; have HYES := Lib.hid hyes; have HAT := Lib.hid hat; have HDAT := Lib.hid hdat; have HDNO := Lib.hid hdno; have HN := Lib.hid hn
  by_cases h45 : l.head? = some 45
  · obtain ⟨r, rfl⟩ : ∃ r, l = 45 :: r := by
      cases l with
      | nil => cases h45
      | cons c r => injection h45 with h45; exact ⟨r, by rw [h45]⟩
    have hr : r = d := hs
    subst hr
    have hS : (bs (45 :: r)).size = n + 1 := by rw [bs_size, List.length_cons, hn]
    have hf : ∀ w, (Instr.index 9 (.string (bs (45 :: r))) (.int .i64 0)).run Tryz.prog w = .ok (.int .u8 45) w := fun w => bs_at (45 :: r) 0 45 rfl w
    have hsl : ∀ w, (Instr.slice 9 (.string (bs (45 :: r))) (some (.int .i64 1)) none none).run Tryz.prog w = .ok (.string D) w := fun w => by
      rw [run_slice_string_l (P := Tryz.prog) w 9 (bs (45 :: r)) Tryz.underlying9 .i64 1 (by decide) (by rw [hS]; omega), hS]
      show Result.ok (Value.string ((bs (45 :: r)).extract 1 (n + 1))) w = _
      have h1 := bsx_cut 45 r
      rw [hn] at h1
      rw [h1, hD]
    have hz : (((45 : UInt8) :: r) == [48]) = false := by rw [beq_eq_false_iff_ne]; intro e; injection e with e1 _; exact absurd e1 (by decide)
    unfold strOf
    generalize bs (45 :: r) = S at *
    by_cases hd0 : r = [48]
    · have hqq : (D.toList == [48]) = true := by rw [hq, hd0]; rfl
      have hbf : b = false := by
        rw [← hb, hd0]; decide
      subst hbf
      clear hno hyes hat hdat hdno hD hs h45 hb hd0 hq hsz hn hz
      go_enter Tryz.func60, Tryz.ntmps60
      go_wp2
      go_ret
      exact ⟨rfl, rfl⟩
    · have hqq : (D.toList == [48]) = false := by rw [hq, beq_eq_false_iff_ne]; exact hd0
      have hdd : (r == [48]) = false := by rw [beq_eq_false_iff_ne]; exact hd0
      have HZ : Hid (((45 : UInt8) :: r == [48]) = (r == [48])) := Lib.hid (by rw [hz, hdd])
      have HQ := Lib.hid hdd
      clear hno hyes hat hdat hdno hD hs h45 hb hd0 hq hn hz hdd
      go_enter Tryz.func60, Tryz.ntmps60
      go_wp2
      clear hf hsl hS
      go_loopw [3] (fun i wr => ∃ k : Nat, k ≤ n ∧ i = .int .i64 (k : Int) ∧ Hid (Im.digs (r.take k) = true) ∧ wr = w) (fun i _ => n - (intOf i).toNat)
      case atStart => exact ⟨0, by omega, by go_num, Lib.hid rfl, rfl⟩
      case round =>
        obtain ⟨k, hk, rfl, HDk, rfl⟩ := hrel
        by_cases hlt : k < n
        · have hkl : k < r.length := by have := HN.out; omega
          have hi := HAT.out k hkl
          have hda := HDAT.out k hkl
          have hdn := HDNO.out k hkl
          obtain ⟨c, hc⟩ : ∃ c, (r[k]'hkl).toNat = c := ⟨_, rfl⟩
          rw [hc] at hi hda hdn
          have i1 : (k : Int) < (n : Int) := by omega
          by_cases h1 : c < 48
          · have t1 : decide (c < 48) = true := decide_eq_true h1
            have t1' : decide ((c : Int) < 48) = true := decide_eq_true (by omega)
            have hbf := HNO.out (hdn (by omega))
            subst hbf
            clear hda hdn hc
            go_wp2
            go_ret
            exact ⟨rfl, rfl⟩
          · have t1 : decide (c < 48) = false := decide_eq_false h1
            have t1' : decide ((c : Int) < 48) = false := decide_eq_false (by omega)
            by_cases h2 : 57 < c
            · have t2 : decide (57 < c) = true := decide_eq_true h2
              have t2' : decide ((57 : Int) < (c : Int)) = true := decide_eq_true (by omega)
              have hbf := HNO.out (hdn (by omega))
              subst hbf
              clear hda hdn hc
              go_wp2
              go_ret
              exact ⟨rfl, rfl⟩
            · have t2 : decide (57 < c) = false := decide_eq_false h2
              have t2' : decide ((57 : Int) < (c : Int)) = false := decide_eq_false (by omega)
              rw [HDk.out, decide_eq_true (show 48 ≤ c by omega), decide_eq_true (show c ≤ 57 by omega)] at hda
              have HD2 := Lib.hid hda
              clear hda hdn hc
              go_wp2
              go_roundw
              case rel => exact ⟨k + 1, by omega, by go_num, HD2, trivial⟩
              case measure => simp [intOf]; omega
        · obtain rfl : k = n := by omega
          have hdk := HDk.out
          rw [List.take_of_length_le (by have := HN.out; omega)] at hdk
          have hy := HYES.out hdk HZ.out
          rw [HN.out] at hy
          by_cases hk0 : 0 < k
          · have h0 : ∀ w, (Instr.index 9 (.string D) (.int .i64 0)).run Tryz.prog w = .ok (.int .u8 (((r[0]'(by have := HN.out; omega)).toNat : Nat) : Int)) w := HAT.out 0 (by have := HN.out; omega)
            have hhd : r.head? = some (r[0]'(by have := HN.out; omega)) := by rw [List.head?_eq_getElem?, List.getElem?_eq_getElem (by have := HN.out; omega)]
            rw [hhd] at hy
            obtain ⟨c, hc⟩ : ∃ c, (r[0]'(by have := HN.out; omega)) = c := ⟨_, rfl⟩
            rw [hc] at h0 hy
            have hc48 : ((some c : Option UInt8) == some 48) = ((c.toNat : Int) == 48) := by
              by_cases e : c = 48
              · subst e; rfl
              · have e2 : ((c.toNat : Int) == 48) = false := by
                  rw [beq_eq_false_iff_ne]; intro h
                  exact e (UInt8.toNat_inj.1 (by have : (48 : UInt8).toNat = 48 := rfl; omega))
                rw [e2]; simp [e]
            rw [hc48, HQ.out, decide_eq_true hk0, Bool.true_and] at hy
            obtain ⟨f, hf⟩ : ∃ f, ((c.toNat : Int) == 48) = f := ⟨_, rfl⟩
            rw [hf] at hy
            have hf2 : ((c.toNat : Int) != 48) = !f := by rw [← hf]; rfl
            by_cases h200 : k ≤ 200
            · rw [decide_eq_true h200, Bool.true_and] at hy
              have t3 : decide ((k : Int) ≤ 200) = true := decide_eq_true (by omega)
              subst hy
              clear hdk hhd hc hc48
              cases f
              all_goals
                go_wp2
                go_ret
                exact ⟨rfl, rfl⟩
            · rw [decide_eq_false h200, Bool.false_and] at hy
              subst hy
              have t3 : decide ((k : Int) ≤ 200) = false := decide_eq_false (by omega)
              clear hdk hhd hc hc48
              go_wp2
              go_ret
              exact ⟨rfl, rfl⟩
          · rw [decide_eq_false hk0, Bool.false_and] at hy
            subst hy
            clear hdk
            go_wp2
            go_ret
            exact ⟨rfl, rfl⟩
  · have hr : l = d := by rw [← hs]; unfold Im.strip; rw [if_neg h45]
    subst hr
    have hf : 0 < n → ∃ c : UInt8, (∀ w, (Instr.index 9 (.string D) (.int .i64 0)).run Tryz.prog w = .ok (.int .u8 (c.toNat : Int)) w) ∧ ((c.toNat : Int) == 45) = false := fun h => by
      have h1 := hat 0 (by omega)
      refine ⟨_, h1, ?_⟩
      rw [beq_eq_false_iff_ne]; intro e
      refine h45 ?_
      have h2 : l[0]'(by omega) = 45 := UInt8.toNat_inj.1 (by have : (45 : UInt8).toNat = 45 := rfl; omega)
      rw [List.head?_eq_getElem?, List.getElem?_eq_getElem (by omega), h2]
    have HZ : Hid ((l == [48]) = (l == [48])) := Lib.hid rfl
    unfold strOf
    rw [hD]
    obtain ⟨qq, hqv⟩ : ∃ q, (l == [48]) = q := ⟨_, rfl⟩
    have hqq : (D.toList == [48]) = qq := by rw [hq, hqv]
    have HQ := Lib.hid hqv
    by_cases hn0 : 0 < n
    · obtain ⟨c, hfc, hc45⟩ := hf hn0
      clear hno hyes hat hdat hdno hD hs h45 hb hq hn hf hqv
      go_enter Tryz.func60, Tryz.ntmps60
      go_wp2
      clear hfc hc45
      go_loopw [3] (fun i wr => ∃ k : Nat, k ≤ n ∧ i = .int .i64 (k : Int) ∧ Hid (Im.digs (l.take k) = true) ∧ wr = w) (fun i _ => n - (intOf i).toNat)
      case atStart => exact ⟨0, by omega, by go_num, Lib.hid rfl, rfl⟩
      case round =>
        obtain ⟨k, hk, rfl, HDk, rfl⟩ := hrel
        by_cases hlt : k < n
        · have hkl : k < l.length := by have := HN.out; omega
          have hi := HAT.out k hkl
          have hda := HDAT.out k hkl
          have hdn := HDNO.out k hkl
          obtain ⟨c, hc⟩ : ∃ c, (l[k]'hkl).toNat = c := ⟨_, rfl⟩
          rw [hc] at hi hda hdn
          have i1 : (k : Int) < (n : Int) := by omega
          by_cases h1 : c < 48
          · have t1 : decide (c < 48) = true := decide_eq_true h1
            have t1' : decide ((c : Int) < 48) = true := decide_eq_true (by omega)
            have hbf := HNO.out (hdn (by omega))
            subst hbf
            clear hda hdn hc
            go_wp2
            go_ret
            exact ⟨rfl, rfl⟩
          · have t1 : decide (c < 48) = false := decide_eq_false h1
            have t1' : decide ((c : Int) < 48) = false := decide_eq_false (by omega)
            by_cases h2 : 57 < c
            · have t2 : decide (57 < c) = true := decide_eq_true h2
              have t2' : decide ((57 : Int) < (c : Int)) = true := decide_eq_true (by omega)
              have hbf := HNO.out (hdn (by omega))
              subst hbf
              clear hda hdn hc
              go_wp2
              go_ret
              exact ⟨rfl, rfl⟩
            · have t2 : decide (57 < c) = false := decide_eq_false h2
              have t2' : decide ((57 : Int) < (c : Int)) = false := decide_eq_false (by omega)
              rw [HDk.out, decide_eq_true (show 48 ≤ c by omega), decide_eq_true (show c ≤ 57 by omega)] at hda
              have HD2 := Lib.hid hda
              clear hda hdn hc
              go_wp2
              go_roundw
              case rel => exact ⟨k + 1, by omega, by go_num, HD2, trivial⟩
              case measure => simp [intOf]; omega
        · obtain rfl : k = n := by omega
          have hdk := HDk.out
          rw [List.take_of_length_le (by have := HN.out; omega)] at hdk
          have hy := HYES.out hdk HZ.out
          rw [HN.out] at hy
          by_cases hk0 : 0 < k
          · have h0 : ∀ w, (Instr.index 9 (.string D) (.int .i64 0)).run Tryz.prog w = .ok (.int .u8 (((l[0]'(by have := HN.out; omega)).toNat : Nat) : Int)) w := HAT.out 0 (by have := HN.out; omega)
            have hhd : l.head? = some (l[0]'(by have := HN.out; omega)) := by rw [List.head?_eq_getElem?, List.getElem?_eq_getElem (by have := HN.out; omega)]
            rw [hhd] at hy
            obtain ⟨c, hc⟩ : ∃ c, (l[0]'(by have := HN.out; omega)) = c := ⟨_, rfl⟩
            rw [hc] at h0 hy
            have hc48 : ((some c : Option UInt8) == some 48) = ((c.toNat : Int) == 48) := by
              by_cases e : c = 48
              · subst e; rfl
              · have e2 : ((c.toNat : Int) == 48) = false := by
                  rw [beq_eq_false_iff_ne]; intro h
                  exact e (UInt8.toNat_inj.1 (by have : (48 : UInt8).toNat = 48 := rfl; omega))
                rw [e2]; simp [e]
            rw [hc48, HQ.out, decide_eq_true hk0, Bool.true_and] at hy
            obtain ⟨f, hf⟩ : ∃ f, ((c.toNat : Int) == 48) = f := ⟨_, rfl⟩
            rw [hf] at hy
            have hf2 : ((c.toNat : Int) != 48) = !f := by rw [← hf]; rfl
            by_cases h200 : k ≤ 200
            · rw [decide_eq_true h200, Bool.true_and] at hy
              have t3 : decide ((k : Int) ≤ 200) = true := decide_eq_true (by omega)
              subst hy
              clear hdk hhd hc hc48
              cases qq <;> cases f
              all_goals
                go_wp2
                go_ret
                exact ⟨rfl, rfl⟩
            · rw [decide_eq_false h200, Bool.false_and] at hy
              subst hy
              have t3 : decide ((k : Int) ≤ 200) = false := decide_eq_false (by omega)
              clear hdk hhd hc hc48
              go_wp2
              go_ret
              exact ⟨rfl, rfl⟩
          · exact absurd hn0 hk0
    · have hbf : b = false := by
        have : l = [] := List.eq_nil_of_length_eq_zero (by omega)
        rw [← hb, this]; rfl
      subst hbf
      have hz0 : D.size = 0 := by omega
      clear hno hyes hat hdat hdno hD hs h45 hb hq hn hf hqv hsz hn0
      go_enter Tryz.func60, Tryz.ntmps60
      go_wp2
      go_loopw [3] (fun i wr => i = .int .i64 0 ∧ wr = w) (fun _ _ => 0)
      case atStart => exact ⟨by go_num, rfl⟩
      case round =>
        obtain ⟨rfl, rfl⟩ := hrel
        go_wp2
        go_ret
        exact ⟨rfl, rfl⟩
end Go.Proofs.YtabkodpjhpjgnaaGreatDoor

namespace Go.Proofs.YtabkodpjhpjgnaaGreatDoor
open Go.RowKit
attribute [local go_sem ↓] append_appN

set_option maxRecDepth 100000 in
set_option maxHeartbeats 1000000 in
theorem text4_any (neg : Bool) (l : List Int) (A : Option Addr) (c : Nat) (w : World) (hv : Ints w w.heap.size (.slice A l.length c) l) (hd : Im.Dg l) (hl : l.length ≤ 1000) :
    Calls Tryz.prog 71 #[.bool neg, .slice A l.length c] w fun e w' => e = .returned (.tuple #[strOf (Im.rtxt neg l), .bool (decide (l.length ≤ 200))]) ∧ Below w.heap.size w w' := by
  obtain ⟨i0, hi0, hz0, hz1, hz2⟩ := info_parts infoB
  by_cases h0 : l = []
  · subst h0
    cases neg
    all_goals
      go_enter Tryz.func71, Tryz.ntmps71
      go_wp2
      go_ret2
      exact ⟨rfl, Below.refl _ _⟩
  obtain ⟨fl, hfl⟩ : ∃ f, decide (l.length ≤ 200) = f := ⟨_, rfl⟩
  rw [hfl]
  have hflI : decide ((l.length : Int) ≤ 200) = fl := by rw [← hfl]; exact decide_eq_decide.2 (by omega)
  obtain ⟨pre, hpre⟩ : ∃ pre : List UInt8, (if neg then [45] else []) = pre := ⟨_, rfl⟩
  have hr : Im.rtxt neg l = pre ++ Im.dtxt l := by
    unfold Im.rtxt
    rw [if_neg h0, ← hpre]
    cases neg <;> rfl
  have hn1 : 1 ≤ l.length := by
    rcases Nat.eq_zero_or_pos l.length with e | e
    · exact absurd (List.eq_nil_of_length_eq_zero e) h0
    · exact e
  rw [hr]
  have hdl := dtxt_len l
  have hdt := fun k (hk : k < l.length) => dtxt_take (l := l) k hk
  have hdg := fun k (hk : k < l.length) => hd (l.getD k 0) (by rw [List.getD_eq_getElem?_getD, List.getElem?_eq_getElem hk]; simp)
  have hvi := fun k hk => ints_at hv k hk
  obtain ⟨-, hc1, hc2⟩ := ints_cap hv
  obtain ⟨n, hn⟩ : ∃ n, l.length = n := ⟨_, rfl⟩
  rw [hn] at hdt hdl hl hn1 hc1 hflI ⊢
  obtain ⟨T, hT⟩ : ∃ T, Im.dtxt l = T := ⟨_, rfl⟩
  rw [hT] at hdl hdt ⊢
  have hta : T.take n = T := List.take_of_length_le (by omega)
  have HN := Lib.hid hn; have HDT := Lib.hid hdt; have HDG := Lib.hid hdg; have HVI := Lib.hid hvi; have HTA := Lib.hid hta; have HDL := Lib.hid hdl
  have e0 : ((n : Int) == 0) = false := by rw [beq_eq_false_iff_ne]; omega
  have hs0 := snoc_u8 (B := w.heap.size) (w := w) (v := .slice none 0 0) (l := []) (n := 0) (b := 45) (x := 45) hi0 hz0 hz1 hz2 (World.ownsRow_nil _ _ _ _) (Nat.le_refl _) (by decide) rfl
  have s0 : IntKind.i64.wrap ((n : Int) - 1) = (n : Int) - 1 := IntWalk.i64_in _ (by omega)
  clear hn hdt hdg hvi hta hdl hv hd hT hr h0 hfl
  have LOOP : ∀ (v : Value) (W : World), W.ownsRow w.heap.size 5 1 v pre.length (Lib.byteCells pre) → Below w.heap.size w W → True := fun _ _ _ _ => trivial
  clear LOOP
  cases neg with
  | true =>
    obtain rfl : [45] = pre := hpre
    obtain ⟨v1, w1, hrun1, hown1, hb1⟩ := hs0
    have HO1 := Lib.hid hown1; have HB1 := Lib.hid hb1
    clear hown1 hb1
    go_enter Tryz.func71, Tryz.ntmps71
    go_wp2
    clear hrun1
    go_loopw [6, 7] (fun o i wr => ∃ k : Nat, k ≤ n ∧ i = .int .i64 ((n : Int) - 1 - (k : Int)) ∧ Hid (wr.ownsRow w.heap.size 5 1 o (1 + k) (Lib.byteCells ([45] ++ T.take k))) ∧ Hid (Below w.heap.size w wr)) (fun _ i _ => (intOf i + 1).toNat)
    case atStart => exact ⟨0, by omega, by go_num, HO1, HB1⟩
    case round =>
      obtain ⟨k, hk, rfl, HO, HB⟩ := hrel
      by_cases hlt : k < n
      · obtain ⟨g, off, rfl, hg, hcell⟩ := HVI.out (n - 1 - k) (by have := HN.out; omega)
        have c0 := (HB.out.cell (p := ⟨g, off + (n - 1 - k), none⟩) hg).trans (hcell (n - 1 - k) (by have := HN.out; omega))
        have hx := HDG.out (n - 1 - k) (by have := HN.out; omega)
        have ht := HDT.out k hlt
        obtain ⟨x, hxx⟩ : ∃ x, l.getD (n - 1 - k) 0 = x := ⟨_, rfl⟩
        rw [hxx] at c0 hx ht
        obtain ⟨b, hb⟩ : ∃ b, UInt8.ofNat (48 + x.toNat) = b := ⟨_, rfl⟩
        rw [hb] at ht
        have hbn : (b.toNat : Int) = 48 + x := by rw [← hb, u8_ofNat _ (by omega)]; omega
        obtain ⟨v2, w2, hrun, hown2, hb2⟩ := snoc_u8 (b := b) (x := 48 + x) hi0 hz0 hz1 hz2 HO.out HB.out.size (by omega) hbn.symm
        rw [List.append_assoc, ← ht] at hown2
        have HO2 := Lib.hid hown2; have HB2 := Lib.hid (HB.out.trans hb2)
        have i1 : (0 : Int) ≤ (n : Int) - 1 - (k : Int) := by omega
        have i2 : (n : Int) - 1 - (k : Int) < (n : Int) := by omega
        have i3 : ((n : Int) - 1 - (k : Int)).toNat = n - 1 - k := by omega
        have i5 : IntKind.u8.wrap (48 + x) = 48 + x := by rw [IntKind.wrap_u8]; omega
        have i6 : IntKind.i64.wrap (48 + x) = 48 + x := IntWalk.i64_in _ (by omega)
        clear hcell hxx hb hbn hown2 hb2 ht
        go_wp2
        go_roundw
        case rel => exact ⟨k + 1, by omega, by go_num, by rw [show 1 + (k + 1) = 1 + k + 1 by omega]; exact HO2, HB2⟩
        case measure => simp [intOf]; omega
      · obtain rfl : k = n := by omega
        have hown := HO.out
        rw [HTA.out, show 1 + k = k + 1 by omega] at hown
        obtain ⟨g, cap, rfl⟩ := ownsRow_succ hown
        have hcv := own_string ([45] ++ T) hown (by rw [List.length_append, HDL.out]; simp; omega)
        have i1 : decide ((k : Int) ≤ 200) = fl := hflI
        clear hown
        go_wp2
        go_ret2
        exact ⟨rfl, HB.out⟩
  | false =>
    obtain rfl : [] = pre := hpre
    clear hs0
    go_enter Tryz.func71, Tryz.ntmps71
    go_wp2
    go_loopw [6, 7] (fun o i wr => ∃ k : Nat, k ≤ n ∧ i = .int .i64 ((n : Int) - 1 - (k : Int)) ∧ Hid (wr.ownsRow w.heap.size 5 1 o k (Lib.byteCells (T.take k))) ∧ Hid (Below w.heap.size w wr)) (fun _ i _ => (intOf i + 1).toNat)
    case atStart => exact ⟨0, by omega, by go_num, Lib.hid (World.ownsRow_nil _ _ _ _), Lib.hid (Below.refl _ _)⟩
    case round =>
      obtain ⟨k, hk, rfl, HO, HB⟩ := hrel
      by_cases hlt : k < n
      · obtain ⟨g, off, rfl, hg, hcell⟩ := HVI.out (n - 1 - k) (by have := HN.out; omega)
        have c0 := (HB.out.cell (p := ⟨g, off + (n - 1 - k), none⟩) hg).trans (hcell (n - 1 - k) (by have := HN.out; omega))
        have hx := HDG.out (n - 1 - k) (by have := HN.out; omega)
        have ht := HDT.out k hlt
        obtain ⟨x, hxx⟩ : ∃ x, l.getD (n - 1 - k) 0 = x := ⟨_, rfl⟩
        rw [hxx] at c0 hx ht
        obtain ⟨b, hb⟩ : ∃ b, UInt8.ofNat (48 + x.toNat) = b := ⟨_, rfl⟩
        rw [hb] at ht
        have hbn : (b.toNat : Int) = 48 + x := by rw [← hb, u8_ofNat _ (by omega)]; omega
        obtain ⟨v2, w2, hrun, hown2, hb2⟩ := snoc_u8 (b := b) (x := 48 + x) hi0 hz0 hz1 hz2 HO.out HB.out.size (by omega) hbn.symm
        rw [← ht] at hown2
        have HO2 := Lib.hid hown2; have HB2 := Lib.hid (HB.out.trans hb2)
        have i1 : (0 : Int) ≤ (n : Int) - 1 - (k : Int) := by omega
        have i2 : (n : Int) - 1 - (k : Int) < (n : Int) := by omega
        have i3 : ((n : Int) - 1 - (k : Int)).toNat = n - 1 - k := by omega
        have i5 : IntKind.u8.wrap (48 + x) = 48 + x := by rw [IntKind.wrap_u8]; omega
        have i6 : IntKind.i64.wrap (48 + x) = 48 + x := IntWalk.i64_in _ (by omega)
        clear hcell hxx hb hbn hown2 hb2 ht
        go_wp2
        go_roundw
        case rel => exact ⟨k + 1, by omega, by go_num, HO2, HB2⟩
        case measure => simp [intOf]; omega
      · obtain ⟨m, hm⟩ : ∃ m, n = m + 1 := ⟨n - 1, by omega⟩
        obtain rfl : k = n := by omega
        have hown := HO.out
        rw [HTA.out] at hown
        have hown' := hown
        rw [hm] at hown'
        obtain ⟨g, cap, rfl⟩ := ownsRow_succ hown'
        rw [← hm] at hown ⊢
        have hcv := own_string T hown HDL.out
        have i1 : decide ((k : Int) ≤ 200) = fl := hflI
        clear hown hown' hm
        go_wp2
        go_ret2
        exact ⟨rfl, HB.out⟩

/-- The integer of a sign and a size. -/
def sz (neg : Bool) (n : Nat) : Int := if neg then -(n : Int) else (n : Int)
theorem okz_len (neg : Bool) (n : Nat) : decide ((Im.dgl n).length ≤ 200) = okz (sz neg n) := by
  have e : (sz neg n).natAbs = n := by unfold sz; split <;> omega
  unfold okz
  rw [e]
  refine decide_eq_decide.2 ⟨fun h => ?_, fun h => Im.dgl_len n 200 h⟩
  exact Nat.lt_of_lt_of_le (Im.dgl_lt n) (Nat.pow_le_pow_right (by decide) h)
set_option maxRecDepth 100000 in
set_option maxHeartbeats 1000000 in
theorem rchecked_any (neg : Bool) (v : Value) (n : Nat) (w : World) (hv : Dig w v n) (hl : (Im.dgl n).length ≤ 1000) :
    Calls Tryz.prog 73 #[.bool neg, v] w (TextP (sz neg n) w) := by
  obtain ⟨A, c, rfl, hc1, hc2⟩ := ints_form hv
  have ht := text4_any neg (Im.dgl n) A c w hv (Im.dgl_dg n) hl
  rw [okz_len neg n, Im.rtxt_dgl, show (if neg = true then -(n : Int) else (n : Int)) = sz neg n from rfl] at ht
  unfold TextP outT errT
  obtain ⟨k, hk⟩ : ∃ k, okz (sz neg n) = k := ⟨_, rfl⟩
  rw [hk] at ht ⊢
  unfold strOf at ht ⊢
  have HT := Lib.hid ht
  clear ht hv hl hk
  cases k
  · rw [if_neg (by decide), if_neg (by decide)]
    generalize bs (Lib.itoa (sz neg n)) = S at *
    go_enter Tryz.func73, Tryz.ntmps73
    go_wp2_with (go_at_call 71; refine HT.out.mono ?_; rintro e w1 ⟨rfl, hb⟩)
    go_ret2
    exact ⟨rfl, hb⟩
  · rw [if_pos rfl, if_pos rfl]
    generalize bs (Lib.itoa (sz neg n)) = S at *
    go_enter Tryz.func73, Tryz.ntmps73
    go_wp2_with (go_at_call 71; refine HT.out.mono ?_; rintro e w1 ⟨rfl, hb⟩)
    go_ret2
    exact ⟨rfl, hb⟩
theorem dgl_add_len (a b : Nat) (ha : (Im.dgl a).length ≤ 400) (hb : (Im.dgl b).length ≤ 400) : (Im.dgl (a + b)).length ≤ 401 := by
  refine Im.dgl_len _ _ ?_
  have h1 := Nat.lt_of_lt_of_le (Im.dgl_lt a) (Nat.pow_le_pow_right (by decide) ha)
  have h2 := Nat.lt_of_lt_of_le (Im.dgl_lt b) (Nat.pow_le_pow_right (by decide) hb)
  obtain ⟨E, hE⟩ : ∃ E : Nat, 400 = E := ⟨_, rfl⟩
  rw [hE] at h1 h2
  rw [show 401 = E + 1 by omega, Nat.pow_succ]
  omega
theorem dgl_mono {a b : Nat} (h : a ≤ b) : (Im.dgl a).length ≤ (Im.dgl b).length := Im.dgl_len _ _ (Nat.lt_of_le_of_lt h (Im.dgl_lt b))
set_option maxRecDepth 100000 in
set_option maxHeartbeats 2000000 in
theorem rsum_any (x y : Bool) (vk vl : Value) (a b : Nat) (w : World) (hk : Dig w vk a) (hl : Dig w vl b) (la : (Im.dgl a).length ≤ 400) (lb : (Im.dgl b).length ≤ 400) :
    Calls Tryz.prog 75 #[.bool x, vk, .bool y, vl] w (TextP (sz x a + sz y b) w) := by
  by_cases hxy : x = y
  · subst hxy
    have hz : sz x a + sz x b = sz x (a + b) := by unfold sz; cases x <;> simp <;> omega
    rw [hz]
    have HP := Lib.hid (rplus_any vk vl a b w hk hl (by omega) (by omega))
    have hs := dgl_add_len a b la lb
    have HC := Lib.hid (fun v u (hv : Dig u v (a + b)) => rchecked_any x v (a + b) u hv (by omega))
    obtain ⟨A, ca, rfl, -, -⟩ := ints_form hk
    obtain ⟨B, cb, rfl, -, -⟩ := ints_form hl
    unfold TextP at *
    unfold strOf at *
    generalize bs (outT (sz x (a + b))) = S at *
    generalize errT (sz x (a + b)) = er at *
    have t1 : (x == x) = true := by simp
    clear hk hl la lb hz hs
    go_enter Tryz.func75, Tryz.ntmps75
    go_wp2_with (first | (go_at_call 78; refine HP.out.mono ?_; unfold DigPost; rintro e w1 ⟨v, rfl, hv, hb⟩; have HV := Lib.hid hv; have HB := Lib.hid hb; clear hv hb) | (go_at_call 73; refine (HC.out _ _ HV.out).mono ?_; rintro e w2 ⟨rfl, hb2⟩; have HB2 := Lib.hid (below_to HB.out hb2); clear hb2))
    go_ret2
    exact ⟨rfl, HB2.out⟩
  · have t1 : (x == y) = false := by simpa using hxy
    have HO := Lib.hid (order_any vk vl a b w hk hl)
    by_cases hab : b ≤ a
    · have hz : sz x a + sz y b = sz x (a - b) := by
        unfold sz
        cases x <;> cases y <;> simp at hxy ⊢ <;> omega
      rw [hz]
      have hs := dgl_mono (show a - b ≤ a by omega)
      have HM := Lib.hid (fun u (hu : Below w.heap.size w u) => rminus_any vk vl a b u (hk.next hu) (hl.next hu) hab (by omega))
      have HC := Lib.hid (fun v u (hv : Dig u v (a - b)) => rchecked_any x v (a - b) u hv (by omega))
      obtain ⟨g, hg⟩ : ∃ g, sg (a : Int) (b : Int) = g := ⟨_, rfl⟩
      rw [hg] at HO
      have t2 : decide (0 ≤ g) = true := by
        rw [← hg]
        rcases Nat.lt_or_ge b a with h | h
        · rw [sg_gt (by omega)]; decide
        · rw [sg_eq (by omega)]; decide
      obtain ⟨A, ca, rfl, -, -⟩ := ints_form hk
      obtain ⟨B, cb, rfl, -, -⟩ := ints_form hl
      unfold TextP at *
      unfold strOf at *
      generalize bs (outT (sz x (a - b))) = S at *
      generalize errT (sz x (a - b)) = er at *
      clear hk hl la lb hz hs hg hab hxy
      go_enter Tryz.func75, Tryz.ntmps75
      go_wp2_with (first | (go_at_call 80; refine HO.out.mono ?_; rintro e w0 ⟨rfl, hb0⟩; have HB0 := Lib.hid hb0; clear hb0) | (go_at_call 79; refine (HM.out _ HB0.out).mono ?_; unfold DigPost; rintro e w1 ⟨v, rfl, hv, hb⟩; have HV := Lib.hid hv; have HB := Lib.hid (below_to HB0.out hb); clear hv hb) | (go_at_call 73; refine (HC.out _ _ HV.out).mono ?_; rintro e w2 ⟨rfl, hb2⟩; have HB2 := Lib.hid (below_to HB.out hb2); clear hb2))
      go_ret2
      exact ⟨rfl, HB2.out⟩
    · have hz : sz x a + sz y b = sz y (b - a) := by
        unfold sz
        cases x <;> cases y <;> simp at hxy ⊢ <;> omega
      rw [hz]
      have hs := dgl_mono (show b - a ≤ b by omega)
      have HM := Lib.hid (fun u (hu : Below w.heap.size w u) => rminus_any vl vk b a u (hl.next hu) (hk.next hu) (by omega) (by omega))
      have HC := Lib.hid (fun v u (hv : Dig u v (b - a)) => rchecked_any y v (b - a) u hv (by omega))
      have hg : sg (a : Int) (b : Int) = -1 := sg_lt (by omega)
      rw [hg] at HO
      obtain ⟨A, ca, rfl, -, -⟩ := ints_form hk
      obtain ⟨B, cb, rfl, -, -⟩ := ints_form hl
      unfold TextP at *
      unfold strOf at *
      generalize bs (outT (sz y (b - a))) = S at *
      generalize errT (sz y (b - a)) = er at *
      clear hk hl la lb hz hs hg hab hxy
      go_enter Tryz.func75, Tryz.ntmps75
      go_wp2_with (first | (go_at_call 80; refine HO.out.mono ?_; rintro e w0 ⟨rfl, hb0⟩; have HB0 := Lib.hid hb0; clear hb0) | (go_at_call 79; refine (HM.out _ HB0.out).mono ?_; unfold DigPost; rintro e w1 ⟨v, rfl, hv, hb⟩; have HV := Lib.hid hv; have HB := Lib.hid (below_to HB0.out hb); clear hv hb) | (go_at_call 73; refine (HC.out _ _ HV.out).mono ?_; rintro e w2 ⟨rfl, hb2⟩; have HB2 := Lib.hid (below_to HB.out hb2); clear hb2))
      go_ret2
      exact ⟨rfl, HB2.out⟩
end Go.Proofs.YtabkodpjhpjgnaaGreatDoor

namespace Go.Proofs.YtabkodpjhpjgnaaGreatDoor
open Go.RowKit

theorem sz_natAbs (z : Int) : sz (decide (z < 0)) z.natAbs = z := by
  unfold sz
  by_cases h : z < 0
  · rw [decide_eq_true h, if_pos rfl]; omega
  · rw [decide_eq_false h, if_neg (by decide)]; omega
theorem sz_neg (z : Int) : sz (!(decide (z < 0))) z.natAbs = -z := by
  unfold sz
  by_cases h : z < 0
  · rw [decide_eq_true h]; simp; omega
  · rw [decide_eq_false h]; simp; omega
theorem ok200 {z : Int} (h : okz z = true) : (Im.dgl z.natAbs).length ≤ 200 := Im.dgl_len _ 200 (of_decide_eq_true h)
theorem rval_ok (z : Int) (w : World) (h : okz z = true) : Calls Tryz.prog 60 #[strOf (Lib.itoa z)] w fun e w' => e = .returned (.bool true) ∧ w = w' := by
  have hl : (Lib.itoa z).length ≤ 300 := by
    have h2 : (Lib.decDigits z.natAbs).length ≤ 200 := (Im.dd_len _ 200 (by decide)).2 (of_decide_eq_true h)
    by_cases hn : z < 0
    · rw [neg_itoa hn, List.length_cons]; omega
    · rw [pos_itoa hn]; omega
  have h1 := rvalid_any (Lib.itoa z) (by omega) w
  rw [vld_ok h] at h1; exact h1


set_option maxRecDepth 100000 in
set_option maxHeartbeats 2000000 in
theorem rAdd_ok (a b : Int) (w : World) (ha : okz a = true) (hb : okz b = true) :
    Calls Tryz.prog 48 #[strOf (Lib.itoa a), strOf (Lib.itoa b)] w (TextP (a + b) w) := by
  have HV1 := Lib.hid (fun u => rval_ok a u ha); have HV2 := Lib.hid (fun u => rval_ok b u hb)
  have hd1 := rdigits_any a w ha
  have hd2 := fun u => rdigits_any b u hb
  have la := ok200 ha
  have lb := ok200 hb
  have hs := fun v1 v2 u (h1 : Dig u v1 a.natAbs) (h2 : Dig u v2 b.natAbs) => rsum_any (decide (a < 0)) (decide (b < 0)) v1 v2 a.natAbs b.natAbs u h1 h2 (by omega) (by omega)
  rw [sz_natAbs, sz_natAbs] at hs
  rw [show a + b = a + b by omega] at hs
  unfold NegPost at hd1 hd2
  obtain ⟨x, hx⟩ : ∃ x, decide (a < 0) = x := ⟨_, rfl⟩
  obtain ⟨y, hy⟩ : ∃ y, decide (b < 0) = y := ⟨_, rfl⟩
  rw [hx] at hd1 hs; rw [hy] at hd2 hs
  have HD1 := Lib.hid hd1; have HD2 := Lib.hid hd2; have HS := Lib.hid hs
  unfold TextP at *
  unfold strOf at *
  by_cases hab : Lib.itoa a = Lib.itoa b
  · rw [hab] at HV1 HD1 ⊢
    generalize bs (Lib.itoa b) = R at *
    generalize bs (outT (a + b)) = S at *
    generalize errT (a + b) = er at *
    clear ha hb hd1 hd2 la lb hs hx hy hab
    go_enter Tryz.func48, Tryz.ntmps48
    go_wp2_with (first | (go_at_call 60; (with_reducible refine Calls.mono (HV1.out _) ?_); rintro e w1 ⟨rfl, rfl⟩) | (go_at_call 60; (with_reducible refine Calls.mono (HV2.out _) ?_); rintro e w1 ⟨rfl, rfl⟩) | (go_at_call 72; (with_reducible refine Calls.mono HD1.out ?_); rintro e w2 ⟨v1, rfl, hd1, hb2⟩; have HV3 := Lib.hid hd1; have HB2 := Lib.hid hb2; clear hd1 hb2) | (go_at_call 72; (with_reducible refine Calls.mono (HD2.out _) ?_); rintro e w3 ⟨v2, rfl, hd2, hb3⟩; have HV4 := Lib.hid hd2; have HV5 := Lib.hid (HV3.out.next hb3); have HB3 := Lib.hid (below_to HB2.out hb3); clear hd2 hb3) | (go_at_call 75; (with_reducible refine Calls.mono (HS.out _ _ _ HV5.out HV4.out) ?_); rintro e w4 ⟨rfl, hb4⟩; have HB4 := Lib.hid (below_to HB3.out hb4); clear hb4))
    go_ret2
    exact ⟨rfl, HB4.out⟩
  · have hne : bs (Lib.itoa a) ≠ bs (Lib.itoa b) := fun e => hab ((bs_inj _ _).1 e)
    generalize bs (Lib.itoa a) = L at *
    generalize bs (Lib.itoa b) = R at *
    generalize bs (outT (a + b)) = S at *
    generalize errT (a + b) = er at *
    clear ha hb hd1 hd2 la lb hs hx hy hab hne
    go_enter Tryz.func48, Tryz.ntmps48
    go_wp2_with (first | (go_at_call 60; (with_reducible refine Calls.mono (HV1.out _) ?_); rintro e w1 ⟨rfl, rfl⟩) | (go_at_call 60; (with_reducible refine Calls.mono (HV2.out _) ?_); rintro e w1 ⟨rfl, rfl⟩) | (go_at_call 72; (with_reducible refine Calls.mono HD1.out ?_); rintro e w2 ⟨v1, rfl, hd1, hb2⟩; have HV3 := Lib.hid hd1; have HB2 := Lib.hid hb2; clear hd1 hb2) | (go_at_call 72; (with_reducible refine Calls.mono (HD2.out _) ?_); rintro e w3 ⟨v2, rfl, hd2, hb3⟩; have HV4 := Lib.hid hd2; have HV5 := Lib.hid (HV3.out.next hb3); have HB3 := Lib.hid (below_to HB2.out hb3); clear hd2 hb3) | (go_at_call 75; (with_reducible refine Calls.mono (HS.out _ _ _ HV5.out HV4.out) ?_); rintro e w4 ⟨rfl, hb4⟩; have HB4 := Lib.hid (below_to HB3.out hb4); clear hb4))
    go_ret2
    exact ⟨rfl, HB4.out⟩

set_option maxRecDepth 100000 in
set_option maxHeartbeats 2000000 in
theorem rSub_ok (a b : Int) (w : World) (ha : okz a = true) (hb : okz b = true) :
    Calls Tryz.prog 49 #[strOf (Lib.itoa a), strOf (Lib.itoa b)] w (TextP (a - b) w) := by
  have HV1 := Lib.hid (fun u => rval_ok a u ha); have HV2 := Lib.hid (fun u => rval_ok b u hb)
  have hd1 := rdigits_any a w ha
  have hd2 := fun u => rdigits_any b u hb
  have la := ok200 ha
  have lb := ok200 hb
  have hs := fun v1 v2 u (h1 : Dig u v1 a.natAbs) (h2 : Dig u v2 b.natAbs) => rsum_any (decide (a < 0)) (!(decide (b < 0))) v1 v2 a.natAbs b.natAbs u h1 h2 (by omega) (by omega)
  rw [sz_natAbs, sz_neg] at hs
  rw [show a + -b = a - b by omega] at hs
  unfold NegPost at hd1 hd2
  obtain ⟨x, hx⟩ : ∃ x, decide (a < 0) = x := ⟨_, rfl⟩
  obtain ⟨y, hy⟩ : ∃ y, decide (b < 0) = y := ⟨_, rfl⟩
  rw [hx] at hd1 hs; rw [hy] at hd2 hs
  have HD1 := Lib.hid hd1; have HD2 := Lib.hid hd2; have HS := Lib.hid hs
  unfold TextP at *
  unfold strOf at *
  by_cases hab : Lib.itoa a = Lib.itoa b
  · rw [hab] at HV1 HD1 ⊢
    generalize bs (Lib.itoa b) = R at *
    generalize bs (outT (a - b)) = S at *
    generalize errT (a - b) = er at *
    clear ha hb hd1 hd2 la lb hs hx hy hab
    go_enter Tryz.func49, Tryz.ntmps49
    go_wp2_with (first | (go_at_call 60; (with_reducible refine Calls.mono (HV1.out _) ?_); rintro e w1 ⟨rfl, rfl⟩) | (go_at_call 60; (with_reducible refine Calls.mono (HV2.out _) ?_); rintro e w1 ⟨rfl, rfl⟩) | (go_at_call 72; (with_reducible refine Calls.mono HD1.out ?_); rintro e w2 ⟨v1, rfl, hd1, hb2⟩; have HV3 := Lib.hid hd1; have HB2 := Lib.hid hb2; clear hd1 hb2) | (go_at_call 72; (with_reducible refine Calls.mono (HD2.out _) ?_); rintro e w3 ⟨v2, rfl, hd2, hb3⟩; have HV4 := Lib.hid hd2; have HV5 := Lib.hid (HV3.out.next hb3); have HB3 := Lib.hid (below_to HB2.out hb3); clear hd2 hb3) | (go_at_call 75; (with_reducible refine Calls.mono (HS.out _ _ _ HV5.out HV4.out) ?_); rintro e w4 ⟨rfl, hb4⟩; have HB4 := Lib.hid (below_to HB3.out hb4); clear hb4))
    go_ret2
    exact ⟨rfl, HB4.out⟩
  · have hne : bs (Lib.itoa a) ≠ bs (Lib.itoa b) := fun e => hab ((bs_inj _ _).1 e)
    generalize bs (Lib.itoa a) = L at *
    generalize bs (Lib.itoa b) = R at *
    generalize bs (outT (a - b)) = S at *
    generalize errT (a - b) = er at *
    clear ha hb hd1 hd2 la lb hs hx hy hab hne
    go_enter Tryz.func49, Tryz.ntmps49
    go_wp2_with (first | (go_at_call 60; (with_reducible refine Calls.mono (HV1.out _) ?_); rintro e w1 ⟨rfl, rfl⟩) | (go_at_call 60; (with_reducible refine Calls.mono (HV2.out _) ?_); rintro e w1 ⟨rfl, rfl⟩) | (go_at_call 72; (with_reducible refine Calls.mono HD1.out ?_); rintro e w2 ⟨v1, rfl, hd1, hb2⟩; have HV3 := Lib.hid hd1; have HB2 := Lib.hid hb2; clear hd1 hb2) | (go_at_call 72; (with_reducible refine Calls.mono (HD2.out _) ?_); rintro e w3 ⟨v2, rfl, hd2, hb3⟩; have HV4 := Lib.hid hd2; have HV5 := Lib.hid (HV3.out.next hb3); have HB3 := Lib.hid (below_to HB2.out hb3); clear hd2 hb3) | (go_at_call 75; (with_reducible refine Calls.mono (HS.out _ _ _ HV5.out HV4.out) ?_); rintro e w4 ⟨rfl, hb4⟩; have HB4 := Lib.hid (below_to HB3.out hb4); clear hb4))
    go_ret2
    exact ⟨rfl, HB4.out⟩

set_option maxRecDepth 100000 in
set_option maxHeartbeats 2000000 in
theorem rCompare_ok (a b : Int) (w : World) (ha : okz a = true) (hb : okz b = true) :
    Calls Tryz.prog 52 #[strOf (Lib.itoa a), strOf (Lib.itoa b)] w fun e w' => e = .returned (.int .i64 (sg a b)) ∧ Below w.heap.size w w' := by
  have HV1 := Lib.hid (fun u => rval_ok a u ha); have HV2 := Lib.hid (fun u => rval_ok b u hb)
  have hd1 := rdigits_any a w ha
  have hd2 := fun u => rdigits_any b u hb
  have HO1 := Lib.hid (fun v1 v2 u (h1 : Dig u v1 a.natAbs) (h2 : Dig u v2 b.natAbs) => order_any v1 v2 a.natAbs b.natAbs u h1 h2)
  have HO2 := Lib.hid (fun v1 v2 u (h1 : Dig u v1 b.natAbs) (h2 : Dig u v2 a.natAbs) => order_any v1 v2 b.natAbs a.natAbs u h1 h2)
  unfold NegPost at hd1 hd2
  obtain ⟨x, hx⟩ : ∃ x, decide (a < 0) = x := ⟨_, rfl⟩
  obtain ⟨y, hy⟩ : ∃ y, decide (b < 0) = y := ⟨_, rfl⟩
  rw [hx] at hd1; rw [hy] at hd2
  have hs : sg a b = if x then (if y then sg (b.natAbs : Int) (a.natAbs : Int) else -1) else (if y then 1 else sg (a.natAbs : Int) (b.natAbs : Int)) := by
    by_cases h1 : a < 0
    · rw [decide_eq_true h1] at hx; subst hx
      by_cases h2 : b < 0
      · rw [decide_eq_true h2] at hy; subst hy
        rw [if_pos rfl, if_pos rfl]
        rcases Int.lt_trichotomy a b with h | h | h
        · rw [sg_lt h, sg_lt (by omega)]
        · rw [sg_eq h, sg_eq (by omega)]
        · rw [sg_gt h, sg_gt (by omega)]
      · rw [decide_eq_false h2] at hy; subst hy
        rw [if_pos rfl, if_neg (by decide), sg_lt (by omega)]
    · rw [decide_eq_false h1] at hx; subst hx
      by_cases h2 : b < 0
      · rw [decide_eq_true h2] at hy; subst hy
        rw [if_neg (by decide), if_pos rfl, sg_gt (by omega)]
      · rw [decide_eq_false h2] at hy; subst hy
        rw [if_neg (by decide), if_neg (by decide), show (a.natAbs : Int) = a by omega, show (b.natAbs : Int) = b by omega]
  rw [hs]
  obtain ⟨g1, hg1⟩ : ∃ g, sg (a.natAbs : Int) (b.natAbs : Int) = g := ⟨_, rfl⟩
  obtain ⟨g2, hg2⟩ : ∃ g, sg (b.natAbs : Int) (a.natAbs : Int) = g := ⟨_, rfl⟩
  rw [hg1] at HO1 ⊢; rw [hg2] at HO2 ⊢
  have HD1 := Lib.hid hd1; have HD2 := Lib.hid hd2
  unfold strOf at *
  generalize bs (Lib.itoa a) = L at *
  generalize bs (Lib.itoa b) = R at *
  clear ha hb hd1 hd2 hx hy hs hg1 hg2
  cases x <;> cases y
  all_goals
    go_enter Tryz.func52, Tryz.ntmps52
    go_wp2_with (first | (go_at_call 60; (with_reducible refine Calls.mono (HV1.out _) ?_); rintro e w1 ⟨rfl, rfl⟩) | (go_at_call 60; (with_reducible refine Calls.mono (HV2.out _) ?_); rintro e w1 ⟨rfl, rfl⟩) | (go_at_call 72; (with_reducible refine Calls.mono HD1.out ?_); rintro e w2 ⟨v1, rfl, hd1, hb2⟩; have HV3 := Lib.hid hd1; have HB2 := Lib.hid hb2; clear hd1 hb2) | (go_at_call 72; (with_reducible refine Calls.mono (HD2.out _) ?_); rintro e w3 ⟨v2, rfl, hd2, hb3⟩; have HV4 := Lib.hid hd2; have HV5 := Lib.hid (HV3.out.next hb3); have HB3 := Lib.hid (below_to HB2.out hb3); clear hd2 hb3) | (go_at_call 80; (with_reducible refine Calls.mono (HO1.out _ _ _ HV5.out HV4.out) ?_); rintro e w4 ⟨rfl, hb4⟩; have HB4 := Lib.hid (below_to HB3.out hb4); clear hb4) | (go_at_call 80; (with_reducible refine Calls.mono (HO2.out _ _ _ HV4.out HV5.out) ?_); rintro e w4 ⟨rfl, hb4⟩; have HB4 := Lib.hid (below_to HB3.out hb4); clear hb4))
    go_ret
    first | exact ⟨rfl, HB4.out⟩ | exact ⟨rfl, HB3.out⟩
end Go.Proofs.YtabkodpjhpjgnaaGreatDoor

namespace Go.Proofs.YtabkodpjhpjgnaaGreatDoor
open Go.RowKit

namespace Im
theorem dval_set : ∀ (l : List Int) (k : Nat) (v : Int), k < l.length → dval (l.set k v) = dval l + 10 ^ k * (v - l.getD k 0)
  | [], _, _, h => by simp at h
  | x :: l, 0, v, _ => by
    show v + 10 * dval l = x + 10 * dval l + 10 ^ 0 * (v - x)
    omega
  | x :: l, k + 1, v, h => by
    have ih := dval_set l k v (by simpa using h)
    show x + 10 * dval (l.set k v) = x + 10 * dval l + 10 ^ (k + 1) * (v - l.getD k 0)
    rw [ih, Int.pow_succ, Int.mul_comm (10 ^ k) 10, Int.mul_assoc]; omega
theorem Dg.set {l : List Int} (h : Dg l) (k : Nat) {v : Int} (h0 : 0 ≤ v) (h1 : v < 10) : Dg (l.set k v) := fun y hy => by
  rcases List.mem_or_eq_of_mem_set hy with h2 | h2
  · exact h y h2
  · subst h2; exact ⟨h0, h1⟩
theorem dg_zeros (n : Nat) : Dg (List.replicate n 0) := fun y hy => by rw [List.eq_of_mem_replicate hy]; omega
/-- What stands in the inner loop of a product. -/
structure TimI (ga gb : List Int) (T i k : Nat) (c : Int) (L : List Int) : Prop where
  len : L.length = T
  dg : Dg L
  c0 : 0 ≤ c
  c1 : c ≤ 9
  val : dval L + 10 ^ (i + k) * c = dval (ga.take i) * dval gb + 10 ^ i * (ga.getD i 0 * dval (gb.take k))
theorem timI_start (ga gb : List Int) (T : Nat) : TimI ga gb T 0 0 0 (List.replicate T 0) :=
  ⟨by simp, dg_zeros T, by decide, by decide, by rw [dval_zeros]; simp [dval]⟩
theorem timI_step {ga gb : List Int} {T i k : Nat} {c : Int} {L : List Int} (h : TimI ga gb T i k c L) (ha : Dg ga) (hb : Dg gb) (hT : i + k < T) (p s : Int) (hp : ga.getD i 0 * gb.getD k 0 = p) (hs : L.getD (i + k) 0 + c + p = s) :
    0 ≤ s ∧ s ≤ 99 ∧ TimI ga gb T i (k + 1) (s / 10) (L.set (i + k) (s % 10)) := by
  have hx := ha.getD i; have hy := hb.getD k; have hz := h.dg.getD (i + k)
  have h0 := h.c0; have h1 := h.c1
  have hp0 : 0 ≤ p := by rw [← hp]; exact Int.mul_nonneg hx.1 hy.1
  have hp1 : p ≤ 9 * 9 := by rw [← hp]; exact Int.mul_le_mul hx.2 hy.2 hy.1 (by omega)
  refine ⟨by omega, by omega, by rw [List.length_set, h.len], h.dg.set _ (by omega) (by omega), by omega, by omega, ?_⟩
  have hv := h.val
  have e1 : s = s % 10 + 10 * (s / 10) := by omega
  rw [dval_set _ _ _ (by rw [h.len]; exact hT), dval_take_succ, Int.mul_add (ga.getD i 0), Int.mul_add (10 ^ i), show i + (k + 1) = i + k + 1 by omega, Int.pow_succ]
  have e2 : (10 : Int) ^ i * (ga.getD i 0 * (10 ^ k * gb.getD k 0)) = 10 ^ (i + k) * p := by
    rw [Int.pow_add, ← hp, Int.mul_left_comm (ga.getD i 0) (10 ^ k) (gb.getD k 0), Int.mul_assoc]
  rw [e2]
  have e3 : (10 : Int) ^ (i + k) * 10 * (s / 10) = 10 ^ (i + k) * (10 * (s / 10)) := Int.mul_assoc _ _ _
  have e4 : (10 : Int) ^ (i + k) * (s % 10 - L.getD (i + k) 0) + 10 ^ (i + k) * (10 * (s / 10)) = 10 ^ (i + k) * c + 10 ^ (i + k) * p := by
    rw [← Int.mul_add, ← Int.mul_add]
    congr 1; omega
  rw [e3]; omega
theorem timI_le {ga gb : List Int} {T i k : Nat} {c : Int} {L : List Int} (h : TimI ga gb T i k c L) (hk : gb.length ≤ k) : dval L + 10 ^ (i + k) * c = dval (ga.take (i + 1)) * dval gb := by
  have hv := h.val
  rw [List.take_of_length_le hk] at hv
  rw [hv, dval_take_succ, Int.add_mul, Int.mul_assoc]
theorem timI_no {ga gb : List Int} {T i k : Nat} {c : Int} {L : List Int} (h : TimI ga gb T i k c L) (ha : Dg ga) (hb : Dg gb) (hk : gb.length < k) : c = 0 := by
  have hv := timI_le h (by omega)
  have h1 := dval_ltI (ha.take (i + 1))
  have h2 := dval_ltI hb
  have h3 := dval_nonneg (ha.take (i + 1))
  have h4 := dval_nonneg hb
  have h5 := dval_nonneg h.dg
  have h0 := h.c0
  rcases Int.lt_or_le 0 c with hc | hc
  · exfalso
    obtain ⟨u, hu⟩ : ∃ u : Nat, dval (ga.take (i + 1)) = (u : Int) := ⟨(dval (ga.take (i + 1))).toNat, by omega⟩
    obtain ⟨v, hv'⟩ : ∃ v : Nat, dval gb = (v : Int) := ⟨(dval gb).toNat, by omega⟩
    rw [hu] at h1 hv; rw [hv'] at h2 hv
    have h1' : u < 10 ^ (ga.take (i + 1)).length := by
      have e : ((10 ^ (ga.take (i + 1)).length : Nat) : Int) = 10 ^ (ga.take (i + 1)).length := Int.natCast_pow _ _
      rw [← e] at h1; omega
    have h2' : v < 10 ^ gb.length := by
      have e : ((10 ^ gb.length : Nat) : Int) = 10 ^ gb.length := Int.natCast_pow _ _
      rw [← e] at h2; omega
    have hl : (ga.take (i + 1)).length ≤ i + 1 := by rw [List.length_take]; omega
    have h6 : u * v < 10 ^ (i + 1) * 10 ^ gb.length := Nat.mul_lt_mul'' (Nat.lt_of_lt_of_le h1' (Nat.pow_le_pow_right (by decide) hl)) h2'
    rw [← Nat.pow_add] at h6
    have h7 : 10 ^ (i + 1 + gb.length) ≤ 10 ^ (i + k) := Nat.pow_le_pow_right (by decide) (by omega)
    have h8 : ((10 ^ (i + k) : Nat) : Int) ≤ ((10 ^ (i + k) : Nat) : Int) * c := by
      have h9 : ((10 ^ (i + k) : Nat) : Int) * 1 ≤ ((10 ^ (i + k) : Nat) : Int) * c := Int.mul_le_mul_of_nonneg_left (by omega) (Int.natCast_nonneg _)
      rw [Int.mul_one] at h9; exact h9
    have e : ((10 ^ (i + k) : Nat) : Int) = 10 ^ (i + k) := Int.natCast_pow _ _
    rw [← e, ← Int.natCast_mul] at hv
    omega
  · omega
theorem timI_row {ga gb : List Int} {T i k : Nat} {L : List Int} (h : TimI ga gb T i k 0 L) (hk : gb.length ≤ k) : TimI ga gb T (i + 1) 0 0 L := by
  have hv := timI_le h hk
  refine ⟨h.len, h.dg, by decide, by decide, ?_⟩
  rw [Int.mul_zero, Int.add_zero] at hv ⊢
  rw [hv, List.take_zero]
  show _ = _ + 10 ^ (i + 1) * (ga.getD (i + 1) 0 * 0)
  rw [Int.mul_zero, Int.mul_zero, Int.add_zero]
theorem timI_end {a b T i : Nat} {L : List Int} (h : TimI (dgl a) (dgl b) T i 0 0 L) (hi : (dgl a).length ≤ i) : trim L = dgl (a * b) := by
  have hv := h.val
  rw [List.take_of_length_le hi, dgl_val, dgl_val, Int.mul_zero, Int.add_zero, List.take_zero] at hv
  have e0 : dval [] = 0 := rfl
  rw [e0, Int.mul_zero, Int.mul_zero, Int.add_zero] at hv
  exact trim_dgl h.dg (by rw [hv, Int.natCast_mul])
end Im

set_option maxRecDepth 100000 in
set_option maxHeartbeats 8000000 in
theorem rtimes_any (va vb : Value) (a b : Nat) (w : World) (ha : Dig w va a) (hb : Dig w vb b) (la : (Im.dgl a).length ≤ 1000) (lb : (Im.dgl b).length ≤ 1000) :
    Calls Tryz.prog 74 #[va, vb] w (DigPost (a * b) w) := by
  obtain ⟨A, ca, rfl, hca1, hca2⟩ := ints_form ha
  obtain ⟨B, cb, rfl, hcb1, hcb2⟩ := ints_form hb
  have HVA := Lib.hid (fun k hk => ints_at ha k hk)
  have HVB := Lib.hid (fun k hk => ints_at hb k hk)
  have hga' := Im.dgl_dg a
  have hgb' := Im.dgl_dg b
  have hend := fun (T i : Nat) (L : List Int) => Im.timI_end (a := a) (b := b) (T := T) (i := i) (L := L)
  obtain ⟨ga, hga⟩ : ∃ g, Im.dgl a = g := ⟨_, rfl⟩
  obtain ⟨gb, hgb⟩ : ∃ g, Im.dgl b = g := ⟨_, rfl⟩
  rw [hga] at HVA hga' hend hca1 la ⊢
  rw [hgb] at HVB hgb' hend hcb1 lb ⊢
  obtain ⟨M, hM⟩ : ∃ n, ga.length = n := ⟨_, rfl⟩
  obtain ⟨N, hN⟩ : ∃ n, gb.length = n := ⟨_, rfl⟩
  rw [hM] at hend hca1 la ⊢; rw [hN] at hcb1 lb ⊢
  have hmk : ∀ w, (Instr.makeSlice 40 (.int .i64 ((M : Int) + (N : Int))) (.int .i64 ((M : Int) + (N : Int)))).run Tryz.prog w = .ok (.slice (some ⟨w.heap.size, 0, none⟩) (M + N) (M + N)) (w.alloc (.cells (intRow (List.replicate (M + N) 0)) 3)) := fun w => mk_int (M + N) (M + N) w (Nat.le_refl _) (by omega)
  have HST := Lib.hid (Im.timI_start ga gb (M + N))
  have HARR := Lib.hid (Arr.of_row (Row.new w 3 (intRow (List.replicate (M + N) 0))))
  have HB := Lib.hid ((Below.refl w.heap.size w).alloc (Nat.le_refl _) (.cells (intRow (List.replicate (M + N) 0)) 3))
  have HM := Lib.hid hM; have HN := Lib.hid hN; have HEND := Lib.hid hend; have HGA := Lib.hid hga'; have HGB := Lib.hid hgb'
  clear hM hN hend hga' hgb' ha hb hga hgb
  go_enter Tryz.func74, Tryz.ntmps74
  go_wp2
  clear hmk
  go_loopw [6, 7, 8, 9] (fun i _ _ _ wr => ∃ (k : Nat) (L : List Int), k ≤ M ∧ i = .int .i64 (k : Int) ∧ Hid (Im.TimI ga gb (M + N) k 0 0 L) ∧ Hid (Arr wr w.heap.size L) ∧ Hid (Below w.heap.size w wr)) (fun i _ _ _ _ => M - (intOf i).toNat)
  case atStart => exact ⟨0, _, by omega, by go_num, HST, HARR, HB⟩
  case round =>
    obtain ⟨i, L, hi, rfl, HI, HA, HW⟩ := hrel
    by_cases hlt : i < M
    · have hil : i < ga.length := by have := HM.out; omega
      obtain ⟨g, off, rfl, hg, hcell⟩ := HVA.out i hil
      have hgx := HGA.out.getD i
      obtain ⟨x, hx⟩ : ∃ x, ga.getD i 0 = x := ⟨_, rfl⟩
      rw [hx] at hgx
      have HX := Lib.hid hx
      have HC0 := Lib.hid (hcell i hil)
      clear hcell hx hil
      have i1 : (0 : Int) ≤ (i : Int) := by omega
      have i2 : (i : Int) < (M : Int) := by omega
      obtain ⟨wo, hwo⟩ : ∃ wo : World, wo = wr := ⟨_, rfl⟩
      subst hwo
      go_wp2
      go_loopw [7, 8, 9] (fun c jj _ wr => ∃ (j : Nat) (cc : Int) (L : List Int), j ≤ N + 1 ∧ jj = .int .i64 (j : Int) ∧ c = .int .i64 cc ∧ Hid (Im.TimI ga gb (M + N) i j cc L) ∧ Hid (Arr wr w.heap.size L) ∧ Hid (Below w.heap.size w wr)) (fun _ jj _ _ => N + 2 - (intOf jj).toNat)
      case atStart => exact ⟨0, 0, L, by omega, by go_num, by go_num, HI, HA, HW⟩
      case round =>
        obtain ⟨j, cc, L, hj, rfl, rfl, HI, HA, HW⟩ := hrel
        have hc0 := HI.out.c0; have hc1 := HI.out.c1
        by_cases hg2 : j < N ∨ 0 < cc
        · have hjN : j ≤ N := by
            rcases hg2 with h | h
            · omega
            · rcases Nat.lt_or_ge N j with h2 | h2
              · have := Im.timI_no HI.out HGA.out HGB.out (by rw [HN.out]; exact h2); omega
              · exact h2
          have hkL : i + j < L.length := by have := HI.out.len; omega
          have c2 := HA.out.cell (i + j) hkL
          have f2 := HA.out.free (i + j)
          have hgz := HI.out.dg.getD (i + j)
          have hgy := HGB.out.getD j
          obtain ⟨z, hz⟩ : ∃ x, L.getD (i + j) 0 = x := ⟨_, rfl⟩
          obtain ⟨y, hy⟩ : ∃ x, gb.getD j 0 = x := ⟨_, rfl⟩
          obtain ⟨p, hp⟩ : ∃ p, x * y = p := ⟨_, rfl⟩
          obtain ⟨s, hs⟩ : ∃ s, z + cc + p = s := ⟨_, rfl⟩
          have hstep := Im.timI_step HI.out HGA.out HGB.out (by omega) p s (by rw [HX.out, hy]; exact hp) (by rw [hz]; exact hs)
          have hput := HA.out.put (i + j) hkL (s % 10)
          rw [hz] at c2 hgz; rw [hy] at hgy
          have hp0 : 0 ≤ p := by rw [← hp]; exact Int.mul_nonneg hgx.1 hgy.1
          have hp1 : p ≤ 9 * 9 := by rw [← hp]; exact Int.mul_le_mul hgx.2 hgy.2 hgy.1 (by omega)
          obtain ⟨hs0, hs1, hstep⟩ := hstep
          have HS := Lib.hid hstep; have HP := Lib.hid hput
          have j1 : (0 : Int) ≤ (j : Int) := by omega
          have j3 : (i : Int) + (j : Int) < (M : Int) + (N : Int) := by omega
          have j4 : (0 : Int) ≤ (i : Int) + (j : Int) := by omega
          have j5 : ((i : Int) + (j : Int)).toNat = i + j := by omega
          have j6 : (i : Int) + (j : Int) < ((M + N : Nat) : Int) := by omega
          have w0 : IntKind.i64.wrap ((i : Int) + (j : Int)) = (i : Int) + (j : Int) := IntWalk.i64_in _ (by omega)
          have w1 : IntKind.i64.wrap (z + cc) = z + cc := IntWalk.i64_in _ (by omega)
          have w2 : IntKind.i64.wrap p = p := IntWalk.i64_in _ (by omega)
          have w3 : IntKind.i64.wrap s = s := IntWalk.i64_in _ (by omega)
          have e1 : s.tmod 10 = s % 10 := Int.tmod_eq_emod_of_nonneg hs0
          have e2 : s.tdiv 10 = s / 10 := Int.tdiv_eq_ediv_of_nonneg hs0
          have w4 : IntKind.i64.wrap (s % 10) = s % 10 := IntWalk.i64_in _ (by omega)
          have w5 : IntKind.i64.wrap (s / 10) = s / 10 := IntWalk.i64_in _ (by omega)
          have HY := Lib.hid hy
          clear hstep hput hz hy hkL
          by_cases hltj : j < N
          · have hjl : j < gb.length := by have := HN.out; omega
            obtain ⟨g2, off2, rfl, hgb2, hcell2⟩ := HVB.out j hjl
            have c1 := (HW.out.cell (p := ⟨g2, off2 + j, none⟩) hgb2).trans (hcell2 j hjl)
            rw [HY.out] at c1
            have c0 := (HW.out.cell (p := ⟨g, off + i, none⟩) hg).trans HC0.out
            rw [HX.out] at c0
            have j2 : (j : Int) < (N : Int) := by omega
            clear hcell2 hjl hg2
            go_wp2
            go_region
            all_goals
              go_wp2
              go_roundw
              case rel => exact ⟨j + 1, s / 10, L.set (i + j) (s % 10), by omega, by go_num, by go_num, HS, Lib.hid (HP.out.drew), Lib.hid ((HW.out.drew).setCell (Nat.le_refl _) _)⟩
              case measure => simp [intOf]; omega
          · have hy0 : y = 0 := by rw [← HY.out, List.getD_eq_getElem?_getD, List.getElem?_eq_none (by have := HN.out; omega)]; rfl
            have hps : p = 0 := by rw [← hp, hy0, Int.mul_zero]
            have hs' : z + cc = s := by omega
            have j2 : decide ((j : Int) < (N : Int)) = false := decide_eq_false (by omega)
            have hcp : 0 < cc := by omega
            clear hy0 hps hs hp HY hg2
            go_wp2
            go_roundw
            case rel => exact ⟨j + 1, s / 10, L.set (i + j) (s % 10), by omega, by go_num, by go_num, HS, HP, Lib.hid (HW.out.setCell (Nat.le_refl _) _)⟩
            case measure => simp [intOf]; omega
        · obtain rfl : cc = 0 := by omega
          have hjN : ¬ j < N := by omega
          have HI2 := Lib.hid (Im.timI_row HI.out (by rw [HN.out]; omega))
          clear hg2
          go_wp2
          go_roundw
          case rel => exact ⟨i + 1, L, by omega, by go_num, HI2, HA, HW⟩
          case measure => simp [intOf]; omega
    · obtain rfl : i = M := by omega
      have he := HEND.out _ _ _ HI.out (Nat.le_refl _)
      have hl := HI.out.len
      have hv := HA.out.ints (c := i + N) (by rw [hl]; exact Nat.le_refl _) (by unfold maxLen; omega)
      have htr := trim3_any L (some ⟨w.heap.size, 0, none⟩) (i + N) wr hv
      have hp := ints_pre hv (Im.trim L).length (Im.trim_len_le L)
      rw [← Im.trim_take, he] at hp
      rw [he, hl] at htr
      have HP := Lib.hid hp; have HTR := Lib.hid htr
      clear he hv hl htr hp hlt
      go_wp2_with (go_at_call 95; refine HTR.out.mono ?_; rintro e w5 ⟨rfl, rfl⟩)
      go_ret
      exact ⟨_, rfl, HP.out, HW.out⟩
end Go.Proofs.YtabkodpjhpjgnaaGreatDoor

namespace Go.Proofs.YtabkodpjhpjgnaaGreatDoor
open Go.RowKit
attribute [local go_sem ↓] append_appN

theorem ints_far {w : World} {B g j : Nat} {v x : Value} {l : List Int} (h : Ints w B v l) (hf : Far (g + 1) v) : Ints (w.setCell ⟨g, j, none⟩ x) B v l := by
  obtain ⟨A, c, rfl, h2, h3, h4⟩ := h
  refine ⟨A, c, rfl, h2, h3, ?_⟩
  rcases h4 with h4 | ⟨g', off, h4, h5, h6⟩
  · exact .inl h4
  · refine .inr ⟨g', off, h4, h5, fun k y hj => ?_⟩
    subst h4
    have hg := hf g' off _ _ rfl
    rw [← h6 k y hj]
    exact World.cell?_of_block (Below.heap_setCell w ⟨g, j, none⟩ x g' (by dsimp only; omega))
theorem dig_far {w : World} {g j n : Nat} {v x : Value} (h : Dig w v n) (hf : Far (g + 1) v) : Dig (w.setCell ⟨g, j, none⟩ x) v n := by
  have h1 := ints_far (j := j) (x := x) h hf
  unfold Dig
  exact h1.more (by simp [World.setCell])
theorem Far.mono {B C : Nat} {v : Value} (h : Far B v) (hc : C ≤ B) : Far C v := fun g o n c e => Nat.le_trans hc (h g o n c e)
theorem far_none (B n c : Nat) : Far B (.slice none n c) := fun g o n' c' e => by injection e with e1; cases e1
theorem own_one (w : World) (x : Int) : (w.alloc (.cells #[.int .i64 x] 3)).ownsRow w.heap.size 3 1 (.slice (some ⟨w.heap.size, 0, none⟩) 1 1) 1 (intCells [x]) :=
  ⟨rfl, .inr ⟨w.heap.size, 1, #[.int .i64 x], rfl, Nat.le_refl _, heap_alloc_new w _, Nat.le_refl _, by decide, rfl, rfl⟩⟩

/-- What stands between two rounds: the quotient's digits from place j on. -/
structure QuoI (n b N j : Nat) (L : List Int) : Prop where
  len : L.length = N
  dg : Im.Dg L
  zer : ∀ m, m < j → L.getD m 0 = 0
  val : Im.dval L = 10 ^ j * ((n / 10 ^ j / b : Nat) : Int)
theorem quoI_start (n b : Nat) : QuoI n b (Im.dgl n).length (Im.dgl n).length (List.replicate (Im.dgl n).length 0) := by
  refine ⟨by simp, Im.dg_zeros _, fun m hm => by simp [List.getD_eq_getElem?_getD, hm], ?_⟩
  rw [Im.dval_zeros, Nat.div_eq_of_lt (Im.dgl_lt n), Nat.zero_div]
  show 0 = _ * (0 : Int)
  rw [Int.mul_zero]
theorem dgl_getD (n i : Nat) : (Im.dgl n).getD i 0 = ((n / 10 ^ i % 10 : Nat) : Int) := by
  have h1 : ∀ j m, (Im.dgl m).getD j 0 = ((m / 10 ^ j % 10 : Nat) : Int) := by
    intro j
    induction j with
    | zero =>
      intro m
      by_cases h0 : m = 0
      · subst h0; rfl
      · have e : Im.dgl m = ((m % 10 : Nat) : Int) :: Im.dgl (m / 10) := by
          refine (Im.dgl_of (n := m) ?_ ?_ ?_).symm
          · intro y hy
            rcases List.mem_cons.1 hy with rfl | hy
            · omega
            · exact Im.dgl_dg _ y hy
          · intro r x e
            cases r with
            | nil =>
              injection e with e1 e2
              have := Im.dgl_nil e2
              omega
            | cons y r =>
              injection e with e1 e2
              exact Im.dgl_top _ r x e2
          · show ((m % 10 : Nat) : Int) + 10 * Im.dval (Im.dgl (m / 10)) = m
            rw [Im.dgl_val]; omega
        rw [e]; simp
    | succ j ih =>
      intro m
      by_cases h0 : m = 0
      · subst h0; simp [Im.dgl_zero]
      · have e : Im.dgl m = ((m % 10 : Nat) : Int) :: Im.dgl (m / 10) := by
          refine (Im.dgl_of (n := m) ?_ ?_ ?_).symm
          · intro y hy
            rcases List.mem_cons.1 hy with rfl | hy
            · omega
            · exact Im.dgl_dg _ y hy
          · intro r x e
            cases r with
            | nil =>
              injection e with e1 e2
              have := Im.dgl_nil e2
              omega
            | cons y r =>
              injection e with e1 e2
              exact Im.dgl_top _ r x e2
          · show ((m % 10 : Nat) : Int) + 10 * Im.dval (Im.dgl (m / 10)) = m
            rw [Im.dgl_val]; omega
        rw [e]
        show (Im.dgl (m / 10)).getD j 0 = _
        rw [ih, Nat.div_div_eq_div_mul, Nat.pow_succ, Nat.mul_comm 10]
  exact h1 i n
theorem quot_step (P b d : Nat) (hb : 0 < b) : (P * 10 + d) / b = P / b * 10 + (P % b * 10 + d) / b ∧ (P * 10 + d) % b = (P % b * 10 + d) % b := by
  have h := Nat.div_add_mod P b
  have e : P * 10 + d = (P % b * 10 + d) + b * (P / b * 10) := by
    have e2 : b * (P / b * 10) = b * (P / b) * 10 := by rw [Nat.mul_assoc]
    omega
  constructor
  · rw [e, Nat.add_mul_div_left _ _ hb]; omega
  · rw [e, Nat.add_mul_mod_self_left]
theorem quoI_step {n b N j : Nat} {L : List Int} (h : QuoI n b N (j + 1) L) (hb : 0 < b) (hj : j < N) (t : Nat) (ht : t = (n / 10 ^ (j + 1) % b * 10 + n / 10 ^ j % 10) / b) (ht9 : t ≤ 9) :
    QuoI n b N j (L.set j (t : Int)) ∧ n / 10 ^ j % b = (n / 10 ^ (j + 1) % b * 10 + n / 10 ^ j % 10) % b := by
  have hP : n / 10 ^ j = n / 10 ^ (j + 1) * 10 + n / 10 ^ j % 10 := by
    rw [Nat.pow_succ, ← Nat.div_div_eq_div_mul]; omega
  have hq := quot_step (n / 10 ^ (j + 1)) b (n / 10 ^ j % 10) hb
  rw [← hP, ← ht] at hq
  refine ⟨⟨by rw [List.length_set, h.len], h.dg.set _ (by omega) (by omega), fun m hm => ?_, ?_⟩, hq.2⟩
  · rw [List.getD_eq_getElem?_getD, List.getElem?_set_ne (by omega), ← List.getD_eq_getElem?_getD]
    exact h.zer m (by omega)
  · rw [Im.dval_set _ _ _ (by rw [h.len]; exact hj), h.val, h.zer j (by omega), hq.1, Int.sub_zero, Int.pow_succ, Int.natCast_add, Int.natCast_mul, Int.mul_add, Int.mul_assoc]
    rw [Int.mul_comm 10]; rfl
theorem quoI_end {n b N : Nat} {L : List Int} (h : QuoI n b N 0 L) : Im.trim L = Im.dgl (n / b) := by
  have hv := h.val
  rw [Nat.pow_zero, Nat.div_one] at hv
  exact Im.trim_dgl h.dg (by rw [hv]; omega)
end Go.Proofs.YtabkodpjhpjgnaaGreatDoor

namespace Go.Proofs.YtabkodpjhpjgnaaGreatDoor
open Go.RowKit
attribute [local go_sem ↓] append_appN

def cellN (g j : Nat) (w : World) : Nat := match w.cell? ⟨g, j, none⟩ with
  | some (.int _ x) => x.toNat
  | _ => 0
theorem set_same (L : List Int) (j : Nat) (h : j < L.length) : L.set j (L.getD j 0) = L := by
  rw [List.getD_eq_getElem?_getD, List.getElem?_eq_getElem h]; simp
def QuoPost (p q : Nat) (w : World) (e : Ending) (w' : World) : Prop := ∃ v u, e = .returned (.tuple #[v, u]) ∧ Dig w' v p ∧ Dig w' u q ∧ Below w.heap.size w w'

set_option maxRecDepth 100000 in
set_option maxHeartbeats 8000000 in
theorem rdivided_any (va vb : Value) (a b : Nat) (w : World) (ha : Dig w va a) (hb : Dig w vb b) (hb0 : 0 < b) (la : (Im.dgl a).length ≤ 400) (lb : (Im.dgl b).length ≤ 400) :
    Calls Tryz.prog 77 #[va, vb] w (QuoPost (a / b) (a % b) w) := by
  obtain ⟨i0, hi0, hz0, hz1, hz2⟩ := info_parts Tryz.infoInt
  obtain ⟨A, ca, rfl, hca1, hca2⟩ := ints_form ha
  obtain ⟨B, cb, rfl, hcb1, hcb2⟩ := ints_form hb
  have HVA := Lib.hid (fun k hk => ints_at ha k hk)
  have HDB := Lib.hid hb
  have hst0 := quoI_start a b
  have hgd := fun i => dgl_getD a i
  obtain ⟨N, hN⟩ : ∃ n, (Im.dgl a).length = n := ⟨_, rfl⟩
  obtain ⟨M, hM⟩ : ∃ n, (Im.dgl b).length = n := ⟨_, rfl⟩
  have ha0 : a / 10 ^ N % b = 0 := by
    rw [← hN, Nat.div_eq_of_lt (Im.dgl_lt a), Nat.zero_mod]
  rw [hN] at hst0 hca1 la ⊢; rw [hM] at HDB hcb1 lb ⊢
  have hmk : ∀ w, (Instr.makeSlice 40 (.int .i64 (N : Int)) (.int .i64 (N : Int))).run Tryz.prog w = .ok (.slice (some ⟨w.heap.size, 0, none⟩) N N) (w.alloc (.cells (intRow (List.replicate N 0)) 3)) := fun w => mk_int N N w (Nat.le_refl _) (by omega)
  have HST := Lib.hid hst0; have HGD := Lib.hid hgd
  have HARR := Lib.hid (Arr.of_row (Row.new w 3 (intRow (List.replicate N 0))))
  have HB := Lib.hid ((Below.refl w.heap.size w).alloc (Nat.le_refl _) (.cells (intRow (List.replicate N 0)) 3))
  have HN := Lib.hid hN; have HM := Lib.hid hM
  have HR0 : Hid (∀ u : World, Dig u (.slice none 0 0) (a / 10 ^ N % b)) := Lib.hid (fun u => by rw [ha0]; exact ints_nil _ _)
  clear hst0 hgd hN hM ha hb ha0
  have s0 : IntKind.i64.wrap ((N : Int) - 1) = (N : Int) - 1 := IntWalk.i64_in _ (by omega)
  go_enter Tryz.func77, Tryz.ntmps77
  go_wp2
  clear hmk s0
  go_loopw [7, 8] (fun r i wr => ∃ (j : Nat) (L : List Int), j ≤ N ∧ i = .int .i64 ((j : Int) - 1) ∧ Hid (Dig wr r (a / 10 ^ j % b)) ∧ Hid (Far (w.heap.size + 1) r) ∧ Hid (QuoI a b N j L) ∧ Hid (Arr wr w.heap.size L) ∧ Hid (Below w.heap.size w wr)) (fun _ i _ => (intOf i + 1).toNat)
  case atStart => exact ⟨N, _, Nat.le_refl _, by go_num, Lib.hid (HR0.out _), Lib.hid (far_none _ _ _), HST, HARR, HB⟩
  case round =>
    obtain ⟨j, L, hj, rfl, HR, HF, HQ, HA, HW⟩ := hrel
    obtain ⟨Ar, cr, rfl, hcr1, hcr2⟩ := ints_form HR.out
    by_cases h0 : 0 < j
    · obtain ⟨i, rfl⟩ : ∃ i, j = i + 1 := ⟨j - 1, by omega⟩
      have hil : i < (Im.dgl a).length := by have := HN.out; omega
      obtain ⟨g, off, rfl, hg, hcell⟩ := HVA.out i hil
      have c0 := (HW.out.cell (p := ⟨g, off + i, none⟩) hg).trans (hcell i hil)
      rw [HGD.out i] at c0
      have hdl : a / 10 ^ i % 10 < 10 := Nat.mod_lt _ (by decide)
      have hrl : a / 10 ^ (i + 1) % b < b := Nat.mod_lt _ hb0
      have hqs := fun t ht ht9 => quoI_step HQ.out hb0 (by omega) t ht ht9
      obtain ⟨d, hd⟩ : ∃ d, a / 10 ^ i % 10 = d := ⟨_, rfl⟩
      obtain ⟨r, hr⟩ : ∃ r, a / 10 ^ (i + 1) % b = r := ⟨_, rfl⟩
      rw [hd] at c0 hdl hqs; rw [hr] at hrl hqs
      have HRr := HR.out
      rw [hr] at HRr hcr1
      obtain ⟨m, hm⟩ : ∃ m, (Im.dgl r).length = m := ⟨_, rfl⟩
      have hlm : m ≤ 400 := by
        have := dgl_mono (Nat.le_of_lt hrl)
        have := HM.out
        omega
      rw [hr, hm]
      rw [hm] at HRr hcr1
      have hbo := (Below.refl wr.heap.size wr).alloc (Nat.le_refl _) (.cells #[.int .i64 (d : Int)] 3)
      obtain ⟨v1, w1, hrun, hown, hb1⟩ := app_ints (t := 40) Tryz.underlying40 hi0 hz0 hz1 hz2 (own_one wr (d : Int)) (HRr.next hbo) (by omega) (by simp)
      have hb1' : Below wr.heap.size wr w1 := hbo.trans hb1
      have hll : ([(d : Int)] ++ Im.dgl r).length = 1 + m := by rw [List.length_append, hm]; rfl
      have hii := ints_of_own hown hll
      obtain ⟨A1, k1, rfl⟩ := own_slice hown
      have htr := trim3_any ([(d : Int)] ++ Im.dgl r) A1 k1 w1 (by rw [hll]; exact hii)
      have hdg : Im.Dg ([(d : Int)] ++ Im.dgl r) := (Im.Dg.one (by omega) (by omega)).append (Im.dgl_dg r)
      have htd : Im.trim ([(d : Int)] ++ Im.dgl r) = Im.dgl (r * 10 + d) := Im.trim_dgl hdg (by
        show (d : Int) + 10 * Im.dval (Im.dgl r) = _
        rw [Im.dgl_val]; omega)
      have hp := ints_pre hii (Im.trim ([(d : Int)] ++ Im.dgl r)).length (Im.trim_len_le _)
      rw [← Im.trim_take, htd] at hp
      rw [htd, hll] at htr
      obtain ⟨R, hR⟩ : ∃ R, r * 10 + d = R := ⟨_, rfl⟩
      rw [hR] at hp htr hqs
      have hRb : R < 10 * b := by omega
      have hlt := HA.out.lt
      have HFR := Lib.hid ((far_own (m := (Im.dgl R).length) hown).mono (C := w.heap.size + 1) hlt)
      have HTR := Lib.hid htr; have HP := Lib.hid hp; have HQS := Lib.hid hqs
      have HA1 := Lib.hid (HA.out.below hb1' hlt)
      have HW1 := Lib.hid (HW.out.trans (hb1'.mono HW.out.size))
      have HL0 : Hid (L.set i 0 = L) := Lib.hid (by
        have h1 := set_same L i (by rw [HQ.out.len]; omega)
        rw [HQ.out.zer i (by omega)] at h1; exact h1)
      have i1 : (0 : Int) ≤ ((i + 1 : Nat) : Int) - 1 := by omega
      have i2 : ((i + 1 : Nat) : Int) - 1 = (i : Int) := by omega
      have i3 : (i : Int) < (N : Int) := by omega
      have i4 : (0 : Int) ≤ (i : Int) := by omega
      have hiL : i < L.length := by rw [HQ.out.len]; omega
      rw [i2]
      clear hcell hqs hown hb1 hbo hii htr htd hp hdg hll HRr hil i1 i2 hm hr hd hb1' hcr1
      go_wp2_with (go_at_call 95; refine HTR.out.mono ?_; rintro e w5 ⟨rfl, rfl⟩)
      clear hrun
      go_loopw [7] (fun rv wi => ∃ t : Nat, t ≤ 9 ∧ t * b ≤ R ∧ Hid (Dig wi rv (R - t * b)) ∧ Hid (Far (w.heap.size + 1) rv) ∧ Hid (Arr wi w.heap.size (L.set i (t : Int))) ∧ Hid (Below w.heap.size w wi)) (fun _ wi => 10 - cellN w.heap.size i wi)
      case atStart => exact ⟨0, by omega, by omega, Lib.hid (by rw [Nat.zero_mul, Nat.sub_zero]; exact HP.out), HFR, Lib.hid (by rw [show ((0 : Nat) : Int) = 0 from rfl, HL0.out]; exact HA1.out), HW1⟩
      case round =>
        obtain ⟨t, ht9, htb, HDr, HFr, HAr, HWr⟩ := hrel
        have hcq := HAr.out.cell i (by rw [List.length_set]; exact hiL)
        have hfq := HAr.out.free i
        rw [List.getD_eq_getElem?_getD, List.getElem?_set_self hiL] at hcq
        have hcq' : wr.cell? ⟨w.heap.size, i, none⟩ = some (.int .i64 (t : Int)) := hcq
        have hcn : cellN w.heap.size i wr = t := by unfold cellN; rw [hcq']; rfl
        have hor := order_any _ _ (R - t * b) b wr HDr.out (HDB.out.next HWr.out)
        have hlr := dgl_mono (show R - t * b ≤ 10 * b by omega)
        have hl10 : (Im.dgl (10 * b)).length ≤ 401 := by
          have h1 : b < 10 ^ M := by have := Im.dgl_lt b; rw [HM.out] at this; exact this
          have h2 := Im.dgl_len (10 * b) (M + 1) (by rw [Nat.pow_succ]; omega)
          omega
        by_cases hge : b ≤ R - t * b
        · obtain ⟨gg, hgg⟩ : ∃ gg, sg ((R - t * b : Nat) : Int) (b : Int) = gg := ⟨_, rfl⟩
          rw [hgg] at hor
          have t2 : decide (0 ≤ gg) = true := by
            rw [← hgg]
            rcases Nat.lt_or_ge b (R - t * b) with h | h
            · rw [sg_gt (by omega)]; decide
            · rw [sg_eq (by omega)]; decide
          have ht1 : (t + 1) * b ≤ R := by rw [Nat.add_mul, Nat.one_mul]; omega
          have ht9' : t + 1 ≤ 9 := by
            have h1 : (t + 1) * b < 10 * b := Nat.lt_of_le_of_lt ht1 hRb
            have h2 := Nat.lt_of_mul_lt_mul_right h1
            omega
          have HOR := Lib.hid hor; have HT1 := Lib.hid ht1
          have HMN := Lib.hid (fun u (hu : Below wr.heap.size wr u) => rminus_new _ _ (R - t * b) b u (HDr.out.next hu) ((HDB.out.next HWr.out).next hu) hge (by omega))
          have HT := Lib.hid (show R - t * b - b = R - (t + 1) * b by rw [Nat.add_mul, Nat.one_mul, Nat.sub_sub])
          have w6 : IntKind.i64.wrap ((t : Int) + 1) = (t : Int) + 1 := IntWalk.i64_in _ (by omega)
          have hwz := HAr.out.lt
          clear hor hcq hgg hge hlr hl10 hcq' hfq ht1
          go_wp2_with (first | (go_at_call 80; refine HOR.out.mono ?_; rintro e w6 ⟨rfl, hb6⟩; have HB6 := Lib.hid hb6; clear hb6) | (go_at_call 79; refine (HMN.out _ HB6.out).mono ?_; unfold NewPost; rintro e w7 ⟨v7, rfl, hd7, hf7, hb7⟩; have hbb := below_to HB6.out hb7; have HA7 := Lib.hid (HAr.out.below hbb hwz); have k7 := HA7.out.cell i (by rw [List.length_set]; exact hiL); have f7 := HA7.out.free i; rw [List.getD_eq_getElem?_getD, List.getElem?_set_self hiL] at k7; have k8 : w7.cell? ⟨w.heap.size, i, none⟩ = some (.int .i64 (t : Int)) := k7; have HD7 := Lib.hid hd7; have HF7 := Lib.hid (hf7.mono (C := w.heap.size + 1) (by have := HB6.out.size; omega)); have HW7 := Lib.hid (HWr.out.trans (hbb.mono HWr.out.size)); clear hd7 hf7 hb7 hbb k7))
          go_roundw
          case rel =>
            refine ⟨t + 1, ht9', HT1.out, Lib.hid (by rw [← HT.out]; exact dig_far HD7.out HF7.out), HF7, Lib.hid ?_, Lib.hid (HW7.out.setCell (Nat.le_refl _) _)⟩
            have := HA7.out.put i (by rw [List.length_set]; exact hiL) ((t : Int) + 1)
            rw [List.set_set] at this
            exact this
          case measure =>
            have e : cellN w.heap.size i (w7.setCell ⟨w.heap.size, i, none⟩ (.int .i64 ((t : Int) + 1))) = t + 1 := by
              unfold cellN
              rw [World.cell?_setCell_same _ _ _ k8]
              show ((t : Int) + 1).toNat = t + 1
              omega
            rw [hcn, e]; omega
        · have hg : sg ((R - t * b : Nat) : Int) (b : Int) = -1 := sg_lt (by omega)
          rw [hg] at hor
          have htq : t = R / b := by
            have h1 : R / b = t := Nat.div_eq_of_lt_le htb (by rw [Nat.succ_mul]; omega)
            exact h1.symm
          have hqq := HQS.out t htq ht9
          have hmod : R - t * b = R % b := by
            rw [htq]; have := Nat.div_add_mod R b; rw [Nat.mul_comm] at this; omega
          have HOR := Lib.hid hor; have HQQ := Lib.hid hqq; have HMD := Lib.hid hmod
          clear hor hcq hg hge hlr hl10 hcq' hfq htq hqq hmod hcn
          go_wp2_with (go_at_call 80; refine HOR.out.mono ?_; rintro e w6 ⟨rfl, hb6⟩; have HB6 := Lib.hid hb6; clear hb6)
          go_roundw
          case rel => exact ⟨i, L.set i (t : Int), by omega, by go_num, Lib.hid (by rw [HQQ.out.2, ← HMD.out]; exact HDr.out.next HB6.out), HFr, Lib.hid HQQ.out.1, Lib.hid (HAr.out.below HB6.out HAr.out.lt), Lib.hid (HWr.out.trans (HB6.out.mono HWr.out.size))⟩
          case measure => simp [intOf]
    · obtain rfl : j = 0 := by omega
      have he := quoI_end HQ.out
      have hl := HQ.out.len
      have hv := HA.out.ints (c := N) (by rw [hl]; exact Nat.le_refl _) (by unfold maxLen; omega)
      have htr := trim3_any L (some ⟨w.heap.size, 0, none⟩) N wr hv
      have hp := ints_pre hv (Im.trim L).length (Im.trim_len_le L)
      rw [← Im.trim_take, he] at hp
      rw [he, hl] at htr
      have hr := HR.out
      rw [Nat.pow_zero, Nat.div_one] at hr
      have HP := Lib.hid hp; have HTR := Lib.hid htr; have HRR := Lib.hid hr
      clear he hv hl htr hp hr h0
      go_wp2_with (go_at_call 95; refine HTR.out.mono ?_; rintro e w5 ⟨rfl, rfl⟩)
      go_ret2
      exact ⟨_, _, rfl, HP.out, HRR.out, HW.out⟩
end Go.Proofs.YtabkodpjhpjgnaaGreatDoor

namespace Go.Proofs.YtabkodpjhpjgnaaGreatDoor
open Go.RowKit

theorem dgl_mul_len (m n : Nat) : (Im.dgl (m * n)).length ≤ (Im.dgl m).length + (Im.dgl n).length :=
  Im.dgl_len _ _ (by rw [Nat.pow_add]; exact Nat.mul_lt_mul'' (Im.dgl_lt m) (Im.dgl_lt n))
set_option maxRecDepth 100000 in
set_option maxHeartbeats 2000000 in
theorem rMul_ok (a b : Int) (w : World) (ha : okz a = true) (hb : okz b = true) :
    Calls Tryz.prog 44 #[strOf (Lib.itoa a), strOf (Lib.itoa b)] w (TextP (a * b) w) := by
  have HV1 := Lib.hid (fun u => rval_ok a u ha); have HV2 := Lib.hid (fun u => rval_ok b u hb)
  have hd1 := rdigits_any a w ha
  have hd2 := fun u => rdigits_any b u hb
  have la := ok200 ha
  have lb := ok200 hb
  have lm := dgl_mul_len a.natAbs b.natAbs
  have HTM := Lib.hid (fun v1 v2 u (h1 : Dig u v1 a.natAbs) (h2 : Dig u v2 b.natAbs) => rtimes_any v1 v2 a.natAbs b.natAbs u h1 h2 (by omega) (by omega))
  unfold NegPost at hd1 hd2
  obtain ⟨x, hx⟩ : ∃ x, decide (a < 0) = x := ⟨_, rfl⟩
  obtain ⟨y, hy⟩ : ∃ y, decide (b < 0) = y := ⟨_, rfl⟩
  have hm : sz (!(x == y)) (a.natAbs * b.natAbs) = a * b := mul_if a b x y hx.symm hy.symm
  have hs := fun v u (hv : Dig u v (a.natAbs * b.natAbs)) => rchecked_any (!(x == y)) v _ u hv (by omega)
  rw [hm] at hs
  rw [hx] at hd1; rw [hy] at hd2
  have HD1 := Lib.hid hd1; have HD2 := Lib.hid hd2; have HS := Lib.hid hs
  unfold TextP at *
  unfold strOf at *
  by_cases hab : Lib.itoa a = Lib.itoa b
  · rw [hab] at HV1 HD1 ⊢
    generalize bs (Lib.itoa b) = R at *
    generalize bs (outT (a * b)) = S at *
    generalize errT (a * b) = er at *
    clear ha hb hd1 hd2 la lb lm hs hx hy hab hm
    go_enter Tryz.func44, Tryz.ntmps44
    go_wp2_with (first | (go_at_call 60; (with_reducible refine Calls.mono (HV1.out _) ?_); rintro e w1 ⟨rfl, rfl⟩) | (go_at_call 60; (with_reducible refine Calls.mono (HV2.out _) ?_); rintro e w1 ⟨rfl, rfl⟩) | (go_at_call 72; (with_reducible refine Calls.mono HD1.out ?_); rintro e w2 ⟨v1, rfl, hd1, hb2⟩; have HV3 := Lib.hid hd1; have HB2 := Lib.hid hb2; clear hd1 hb2) | (go_at_call 72; (with_reducible refine Calls.mono (HD2.out _) ?_); rintro e w3 ⟨v2, rfl, hd2, hb3⟩; have HV4 := Lib.hid hd2; have HV5 := Lib.hid (HV3.out.next hb3); have HB3 := Lib.hid (below_to HB2.out hb3); clear hd2 hb3) | (go_at_call 74; (with_reducible refine Calls.mono (HTM.out _ _ _ HV5.out HV4.out) ?_); unfold DigPost; rintro e w4 ⟨v4, rfl, hd4, hb4⟩; have HV6 := Lib.hid hd4; have HB4 := Lib.hid (below_to HB3.out hb4); clear hd4 hb4) | (go_at_call 73; (with_reducible refine Calls.mono (HS.out _ _ HV6.out) ?_); rintro e w5 ⟨rfl, hb5⟩; have HB5 := Lib.hid (below_to HB4.out hb5); clear hb5))
    go_ret2
    exact ⟨rfl, HB5.out⟩
  · generalize bs (Lib.itoa a) = L at *
    generalize bs (Lib.itoa b) = R at *
    generalize bs (outT (a * b)) = S at *
    generalize errT (a * b) = er at *
    clear ha hb hd1 hd2 la lb lm hs hx hy hab hm
    go_enter Tryz.func44, Tryz.ntmps44
    go_wp2_with (first | (go_at_call 60; (with_reducible refine Calls.mono (HV1.out _) ?_); rintro e w1 ⟨rfl, rfl⟩) | (go_at_call 60; (with_reducible refine Calls.mono (HV2.out _) ?_); rintro e w1 ⟨rfl, rfl⟩) | (go_at_call 72; (with_reducible refine Calls.mono HD1.out ?_); rintro e w2 ⟨v1, rfl, hd1, hb2⟩; have HV3 := Lib.hid hd1; have HB2 := Lib.hid hb2; clear hd1 hb2) | (go_at_call 72; (with_reducible refine Calls.mono (HD2.out _) ?_); rintro e w3 ⟨v2, rfl, hd2, hb3⟩; have HV4 := Lib.hid hd2; have HV5 := Lib.hid (HV3.out.next hb3); have HB3 := Lib.hid (below_to HB2.out hb3); clear hd2 hb3) | (go_at_call 74; (with_reducible refine Calls.mono (HTM.out _ _ _ HV5.out HV4.out) ?_); unfold DigPost; rintro e w4 ⟨v4, rfl, hd4, hb4⟩; have HV6 := Lib.hid hd4; have HB4 := Lib.hid (below_to HB3.out hb4); clear hd4 hb4) | (go_at_call 73; (with_reducible refine Calls.mono (HS.out _ _ HV6.out) ?_); rintro e w5 ⟨rfl, hb5⟩; have HB5 := Lib.hid (below_to HB4.out hb5); clear hb5))
    go_ret2
    exact ⟨rfl, HB5.out⟩
end Go.Proofs.YtabkodpjhpjgnaaGreatDoor

namespace Go.Proofs.YtabkodpjhpjgnaaGreatDoor
open Go.RowKit

theorem dig_uniq {w : World} {v : Value} {m n : Nat} (h : Dig w v m) (h' : Dig w v n) : m = n := by
  have e := congrArg Im.dval (ints_uniq h h')
  rw [Im.dgl_val, Im.dgl_val] at e
  exact_mod_cast e
open Classical in
/-- The number that a slice of digits reads as. -/
noncomputable def digOf (w : World) (v : Value) : Nat := if h : ∃ n, Dig w v n then h.choose else 0
theorem digOf_eq {w : World} {v : Value} {n : Nat} (h : Dig w v n) : digOf w v = n := by
  have hx : ∃ n, Dig w v n := ⟨n, h⟩
  unfold digOf
  rw [dif_pos hx]
  exact dig_uniq hx.choose_spec h
theorem dgl_pos {n : Nat} (h : n ≠ 0) : 0 < (Im.dgl n).length := by
  rcases Nat.eq_zero_or_pos (Im.dgl n).length with h1 | h1
  · have h2 := Im.dgl_lt n
    rw [h1] at h2
    omega
  · exact h1
theorem dgl_nil : (Im.dgl 0).length = 0 := by
  have := Im.dgl_len 0 0 (by decide)
  omega

set_option maxRecDepth 100000 in
set_option maxHeartbeats 2000000 in
theorem rGcd_ok (a b : Int) (w : World) (ha : okz a = true) (hb : okz b = true) :
    Calls Tryz.prog 61 #[strOf (Lib.itoa a), strOf (Lib.itoa b)] w (TextP ((Nat.gcd a.natAbs b.natAbs : Nat) : Int) w) := by
  have HV1 := Lib.hid (fun u => rval_ok a u ha); have HV2 := Lib.hid (fun u => rval_ok b u hb)
  have hd1 := rdigits_any a w ha
  have hd2 := fun u => rdigits_any b u hb
  have la := ok200 ha
  have lb := ok200 hb
  have HDV := Lib.hid (fun v1 v2 x y u (h1 : Dig u v1 x) (h2 : Dig u v2 y) (h0 : 0 < y) (l1 : (Im.dgl x).length ≤ 200) (l2 : (Im.dgl y).length ≤ 200) => rdivided_any v1 v2 x y u h1 h2 h0 (by omega) (by omega))
  unfold NegPost at hd1 hd2
  have HC := Lib.hid (fun v n u (hv : Dig u v n) (hl : (Im.dgl n).length ≤ 200) => rchecked_any false v n u hv (by omega))
  generalize a.natAbs = p at *
  generalize b.natAbs = q at *
  obtain ⟨x, hx⟩ : ∃ x, decide (a < 0) = x := ⟨_, rfl⟩
  obtain ⟨y, hy⟩ : ∃ y, decide (b < 0) = y := ⟨_, rfl⟩
  rw [hx] at hd1; rw [hy] at hd2
  have HD1 := Lib.hid hd1; have HD2 := Lib.hid hd2
  unfold strOf at *
  obtain ⟨L, hL⟩ : ∃ L, bs (Lib.itoa a) = L := ⟨_, rfl⟩
  obtain ⟨R, hR⟩ : ∃ R, bs (Lib.itoa b) = R := ⟨_, rfl⟩
  rw [hL] at HV1 HD1 ⊢
  rw [hR] at HV2 HD2 ⊢
  clear ha hb hd1 hd2 hx hy hL hR
  go_enter Tryz.func61, Tryz.ntmps61
  go_wp2_with (first | (go_at_call 60; (with_reducible refine Calls.mono (HV1.out _) ?_); rintro e w1 ⟨rfl, rfl⟩) | (go_at_call 60; (with_reducible refine Calls.mono (HV2.out _) ?_); rintro e w1 ⟨rfl, rfl⟩) | (go_at_call 72; (with_reducible refine Calls.mono HD1.out ?_); rintro e w2 ⟨v1, rfl, hd1, hb2⟩; have HV3 := Lib.hid hd1; have HB2 := Lib.hid hb2; clear hd1 hb2) | (go_at_call 72; (with_reducible refine Calls.mono (HD2.out _) ?_); rintro e w3 ⟨v2, rfl, hd2, hb3⟩; have HV4 := Lib.hid hd2; have HV5 := Lib.hid (HV3.out.next hb3); have HB3 := Lib.hid (below_to HB2.out hb3); clear hd2 hb3))
  go_loopw [7, 9, 10, 11] (fun vx vy _ _ wr => ∃ x y : Nat, Hid (Dig wr vx x) ∧ Hid (Dig wr vy y) ∧ (Im.dgl x).length ≤ 200 ∧ (Im.dgl y).length ≤ 200 ∧ Nat.gcd x y = Nat.gcd p q ∧ Hid (Below w.heap.size w wr)) (fun _ vy _ _ wr => digOf wr vy)
  case atStart => exact ⟨p, q, HV5, HV4, la, lb, rfl, HB3⟩
  case round =>
    obtain ⟨x, y, HX, HY, lx, ly, hg, HB⟩ := hrel
    obtain ⟨Ay, cy, rfl, hcy1, hcy2⟩ := ints_form HY.out
    by_cases h0 : y = 0
    · subst h0
      rw [dgl_nil] at hcy1 ⊢
      have hc := HC.out _ x wr HX.out lx
      rw [Nat.gcd_zero_right] at hg
      rw [hg, show sz false (Nat.gcd p q) = ((Nat.gcd p q : Nat) : Int) from rfl] at hc
      unfold TextP strOf at hc
      obtain ⟨S, hS⟩ : ∃ S, bs (outT ((Nat.gcd p q : Nat) : Int)) = S := ⟨_, rfl⟩
      obtain ⟨er, her⟩ : ∃ er, errT ((Nat.gcd p q : Nat) : Int) = er := ⟨_, rfl⟩
      rw [hS, her] at hc
      have HC1 := Lib.hid hc
      clear hc
      go_wp2_with (go_at_call 73; (with_reducible refine Calls.mono HC1.out ?_); rintro e w5 ⟨rfl, hb5⟩; have HB5 := Lib.hid (below_to HB.out hb5); clear hb5)
      go_ret2
      unfold TextP strOf
      rw [hS, her]
      exact ⟨rfl, HB5.out⟩
    · have HV := Lib.hid (HDV.out _ _ x y wr HX.out HY.out (by omega) lx ly)
      obtain ⟨m, hm⟩ : ∃ m, (Im.dgl y).length = m := ⟨_, rfl⟩
      have hmp : 0 < m := by rw [← hm]; exact dgl_pos h0
      have hml : m ≤ 200 := by rw [← hm]; exact ly
      have HYy := Lib.hid HY.out
      rw [hm] at HV HYy hcy1 ⊢
      go_wp2_with (go_at_call 77; refine HV.out.mono ?_; unfold QuoPost; rintro e w2 ⟨vq, vr, rfl, hq, hr, hb2⟩; have HR := Lib.hid hr; have HB2 := Lib.hid hb2; clear hq hr hb2)
      go_roundw
      case rel =>
        refine ⟨y, x % y, Lib.hid (HYy.out.next HB2.out), HR, ly, ?_, ?_, Lib.hid (below_to HB.out HB2.out)⟩
        · have := dgl_mono (Nat.le_of_lt (Nat.mod_lt x (by omega : 0 < y))); omega
        · rw [← hg, Nat.gcd_comm x y, Nat.gcd_rec y x, Nat.gcd_comm]
      case measure =>
        rw [digOf_eq HYy.out]
        have := digOf_eq HR.out
        simp only [this]
        exact Nat.mod_lt _ (by omega)
end Go.Proofs.YtabkodpjhpjgnaaGreatDoor

namespace Go.Proofs.YtabkodpjhpjgnaaGreatDoor
open Go.RowKit

theorem rone_box (w : World) : Dig (w.alloc (.cells #[.int .i64 1] 3)) (.slice (some ⟨w.heap.size, 0, none⟩) 1 1) 1 := by
  have h : Ints (w.alloc (.cells #[.int .i64 1] 3)) _ _ [(1 : Int)] := ints_of_own (own_one w 1) rfl
  exact h
theorem rtext_any (v : Value) (n : Nat) (w : World) (hv : Dig w v n) (hl : (Im.dgl n).length ≤ 1000) :
    Calls Tryz.prog 71 #[.bool false, v] w fun e w' => e = .returned (.tuple #[strOf (Lib.itoa (n : Int)), .bool (decide ((Im.dgl n).length ≤ 200))]) ∧ Below w.heap.size w w' := by
  obtain ⟨A, c, rfl, hc1, hc2⟩ := ints_form hv
  have ht := text4_any false (Im.dgl n) A c w hv (Im.dgl_dg n) hl
  rw [Im.rtxt_dgl] at ht
  exact ht
theorem rquo_any (va vb : Value) (a b m : Nat) (w : World) (ha : Dig w va a) (hb : Dig w vb b) (hb0 : 0 < b) (la : (Im.dgl a).length ≤ 400) (lb : (Im.dgl b).length ≤ 400) (hm : (Im.dgl (a % b)).length = m) :
    Calls Tryz.prog 77 #[va, vb] w fun e w' => ∃ v A c, e = .returned (.tuple #[v, .slice A m c]) ∧ Dig w' v (a / b) ∧ Dig w' (.slice A m c) (a % b) ∧ Below w.heap.size w w' := by
  refine (rdivided_any va vb a b w ha hb hb0 la lb).mono ?_
  unfold QuoPost
  rintro e w' ⟨v, u, rfl, h1, h2, h3⟩
  obtain ⟨A, c, rfl, hc1, hc2⟩ := ints_form h2
  rw [hm] at *
  exact ⟨v, A, c, rfl, h1, h2, h3⟩

set_option maxRecDepth 100000 in
set_option maxHeartbeats 4000000 in
theorem rDiv_ok (a b : Int) (w : World) (ha : okz a = true) (hb : okz b = true) (h0 : b ≠ 0) :
    Calls Tryz.prog 51 #[strOf (Lib.itoa a), strOf (Lib.itoa b)] w fun e w' => e = .returned (.tuple #[strOf (outT (a / b)), strOf (outT (a % b)), .int .i64 0]) ∧ Below w.heap.size w w' := by
  have HV1 := Lib.hid (fun u => rval_ok a u ha); have HV2 := Lib.hid (fun u => rval_ok b u hb)
  have hd1 := rdigits_any a w ha
  have hd2 := fun u => rdigits_any b u hb
  have la := ok200 ha
  have lb := ok200 hb
  have hbn : 0 < b.natAbs := by omega
  have hlt := Nat.mod_lt a.natAbs hbn
  have hlq := Nat.div_le_self a.natAbs b.natAbs
  obtain ⟨m, hm⟩ : ∃ m, (Im.dgl (a.natAbs % b.natAbs)).length = m := ⟨_, rfl⟩
  have lr : m ≤ 200 := by
    have := dgl_mono (Nat.le_of_lt hlt)
    omega
  have lq := dgl_mono hlq
  have oq : okz (a / b) = true := by
    have h3 := Int.natAbs_ediv_le_natAbs a b
    exact decide_eq_true (Nat.lt_of_le_of_lt h3 (of_decide_eq_true ha))
  have or' : okz (a % b) = true := by
    have h3 := Int.emod_lt a h0
    have h4 := Int.emod_nonneg a h0
    exact decide_eq_true (Nat.lt_of_le_of_lt (by omega : (a % b).natAbs ≤ b.natAbs) (of_decide_eq_true hb))
  have eq0 : errT (a / b) = 0 := by unfold errT; rw [oq, if_pos rfl]
  have er0 : outT (a % b) = Lib.itoa (a % b) := by unfold outT; rw [or', if_pos rfl]
  have hfl : (!(decide (a < 0) == decide (b < 0))) = !(decide (a < 0) == decide (b < 0)) := rfl
  have hR0 : ((bs (Lib.itoa b)).toList == [48]) = false := by rw [txt_zero]; exact decide_eq_false h0
  have HDV := Lib.hid (fun v1 v2 u (h1 : Dig u v1 a.natAbs) (h2 : Dig u v2 b.natAbs) => rquo_any v1 v2 a.natAbs b.natAbs m u h1 h2 hbn (by omega) (by omega) hm)
  rw [er0]
  unfold NegPost at hd1 hd2
  unfold strOf at *
  obtain ⟨y, hy⟩ : ∃ y, decide (b < 0) = y := ⟨_, rfl⟩
  obtain ⟨L, hL⟩ : ∃ L, bs (Lib.itoa a) = L := ⟨_, rfl⟩
  obtain ⟨R, hR⟩ : ∃ R, bs (Lib.itoa b) = R := ⟨_, rfl⟩
  rw [hL] at HV1 hd1 ⊢
  rw [hR] at HV2 hd2 hR0 ⊢
  by_cases hfix : a < 0 ∧ a.natAbs % b.natAbs ≠ 0
  · obtain ⟨e1, e2⟩ := euc_fix a b h0 _ rfl hfix.1 hfix.2
    have hx : decide (a < 0) = true := decide_eq_true hfix.1
    have hmp : 0 < m := by rw [← hm]; exact dgl_pos hfix.2
    rw [hx] at hd1 e1; rw [hy] at hd2 e1
    have lq1 := dgl_add_len (a.natAbs / b.natAbs) 1 (by omega) (by decide)
    have lr1 : (Im.dgl (b.natAbs - a.natAbs % b.natAbs)).length ≤ 200 := Nat.le_trans (dgl_mono (Nat.sub_le _ _)) lb
    have HP := Lib.hid (fun v u (hv : Dig u v (a.natAbs / b.natAbs)) => rplus_any v _ (a.natAbs / b.natAbs) 1 _ (hv.next ((Below.refl _ u).alloc (Nat.le_refl _) _)) (rone_box u) (by omega) (by decide))
    have HM := Lib.hid (fun v1 v2 u (h1 : Dig u v1 b.natAbs) (h2 : Dig u v2 (a.natAbs % b.natAbs)) => rminus_any v1 v2 b.natAbs (a.natAbs % b.natAbs) u h1 h2 (by omega) (by omega))
    have hc : ∀ (f : Bool) (v : Value) (u : World), f = (!(true == y)) → Dig u v (a.natAbs / b.natAbs + 1) → Calls Tryz.prog 73 #[.bool f, v] u fun e w' => e = .returned (.tuple #[.string (bs (outT (a / b))), .int .i64 0]) ∧ Below u.heap.size u w' := by
      intro f v u hf hv
      have := rchecked_any f v _ u hv (by omega)
      rw [show sz f (a.natAbs / b.natAbs + 1) = a / b from by rw [hf]; exact e1] at this
      unfold TextP strOf at this
      rw [eq0] at this
      exact this
    have ht : ∀ (v : Value) (u : World), Dig u v (b.natAbs - a.natAbs % b.natAbs) → Calls Tryz.prog 71 #[.bool false, v] u fun e w' => ∃ f, e = .returned (.tuple #[.string (bs (Lib.itoa (a % b))), .bool f]) ∧ Below u.heap.size u w' := by
      intro v u hv
      have := rtext_any v _ u hv (by omega)
      rw [e2] at this
      exact this.mono fun _ _ h => ⟨_, h⟩
    have HD1 := Lib.hid hd1; have HD2 := Lib.hid hd2; have HC := Lib.hid hc; have HTX := Lib.hid ht
    clear ha hb hd1 hd2 hy hL hR hc ht e1 e2 hx hfix la lb hlt hlq hm lq oq or' eq0 er0 hfl lq1 lr1 h0 hbn
    generalize bs (outT (a / b)) = S1 at *
    generalize bs (Lib.itoa (a % b)) = S2 at *
    generalize a.natAbs = p at *
    generalize b.natAbs = q at *
    go_enter Tryz.func51, Tryz.ntmps51
    go_wp2_with (first | (go_at_call 60; (with_reducible refine Calls.mono (HV1.out _) ?_); rintro e w1 ⟨rfl, rfl⟩) | (go_at_call 60; (with_reducible refine Calls.mono (HV2.out _) ?_); rintro e w1 ⟨rfl, rfl⟩) | (go_at_call 72; (with_reducible refine Calls.mono HD1.out ?_); rintro e w2 ⟨v1, rfl, hd1, hb2⟩; have HV3 := Lib.hid hd1; have HB2 := Lib.hid hb2; clear hd1 hb2) | (go_at_call 72; (with_reducible refine Calls.mono (HD2.out _) ?_); rintro e w3 ⟨v2, rfl, hd2, hb3⟩; have HL := Lib.hid hd2; have HK := Lib.hid (HV3.out.next hb3); have HB3 := Lib.hid (below_to HB2.out hb3); clear hd2 hb3) | (go_at_call 77; (with_reducible refine Calls.mono (HDV.out _ _ _ HK.out HL.out) ?_); rintro e w4 ⟨vq, Ar, cr, rfl, hq, hr, hb4⟩; have HQ := Lib.hid hq; have HR := Lib.hid hr; have HL4 := Lib.hid (HL.out.next hb4); have HB4 := Lib.hid (below_to HB3.out hb4); clear hq hr hb4) | (go_at_call 78; refine (HP.out _ _ HQ.out).mono ?_; unfold DigPost; rintro e w5 ⟨v5, rfl, hd, hb⟩; have hb5 := ((Below.refl _ w4).alloc (Nat.le_refl _) (.cells #[.int .i64 1] 3)).trans (hb.mono (by simp)); have HQ5 := Lib.hid hd; have HR5 := Lib.hid (HR.out.next hb5); have HL5 := Lib.hid (HL4.out.next hb5); have HB5 := Lib.hid (below_to HB4.out hb5); clear hd hb hb5) | (go_at_call 79; (with_reducible refine Calls.mono (HM.out _ _ _ HL5.out HR5.out) ?_); unfold DigPost; rintro e w6 ⟨v6, rfl, hd, hb⟩; have HR6 := Lib.hid hd; have HQ6 := Lib.hid (HQ5.out.next hb); have HB6 := Lib.hid (below_to HB5.out hb); clear hd hb) | (go_at_call 73; refine Calls.mono (HC.out _ _ _ (by cases y <;> rfl) HQ6.out) ?_; rintro e w7 ⟨rfl, hb⟩; have HR7 := Lib.hid (HR6.out.next hb); have HB7 := Lib.hid (below_to HB6.out hb); clear hb) | (go_at_call 71; (with_reducible refine Calls.mono (HTX.out _ _ HR7.out) ?_); rintro e w8 ⟨f8, rfl, hb⟩; have HB8 := Lib.hid (below_to HB7.out hb); clear hb))
    go_ret3
    exact ⟨rfl, HB8.out⟩
  · obtain ⟨e1, e2⟩ := euc_not a b h0 _ rfl hfix
    obtain ⟨x, hx⟩ : ∃ x, decide (a < 0) = x := ⟨_, rfl⟩
    have hxm : x = false ∨ m = 0 := by
      by_cases h1 : a < 0
      · refine .inr ?_
        have h2 : a.natAbs % b.natAbs = 0 := by
          rcases Nat.eq_zero_or_pos (a.natAbs % b.natAbs) with h3 | h3
          · exact h3
          · exact absurd ⟨h1, by omega⟩ hfix
        rw [← hm, h2, dgl_nil]
      · exact .inl (by rw [← hx]; exact decide_eq_false h1)
    rw [hx] at hd1 e1; rw [hy] at hd2 e1
    have hc : ∀ (f : Bool) (v : Value) (u : World), f = (!(x == y)) → Dig u v (a.natAbs / b.natAbs) → Calls Tryz.prog 73 #[.bool f, v] u fun e w' => e = .returned (.tuple #[.string (bs (outT (a / b))), .int .i64 0]) ∧ Below u.heap.size u w' := by
      intro f v u hf hv
      have := rchecked_any f v _ u hv (by omega)
      rw [show sz f (a.natAbs / b.natAbs) = a / b from by rw [hf]; exact e1] at this
      unfold TextP strOf at this
      rw [eq0] at this
      exact this
    have ht : ∀ (v : Value) (u : World), Dig u v (a.natAbs % b.natAbs) → Calls Tryz.prog 71 #[.bool false, v] u fun e w' => ∃ f, e = .returned (.tuple #[.string (bs (Lib.itoa (a % b))), .bool f]) ∧ Below u.heap.size u w' := by
      intro v u hv
      have := rtext_any v _ u hv (by omega)
      rw [e2] at this
      exact this.mono fun _ _ h => ⟨_, h⟩
    have HD1 := Lib.hid hd1; have HD2 := Lib.hid hd2; have HC := Lib.hid hc; have HTX := Lib.hid ht
    clear ha hb hd1 hd2 hx hy hL hR hc ht e1 e2 hfix la lb hlt hlq hm lq oq or' eq0 er0 hfl h0 hbn
    generalize bs (outT (a / b)) = S1 at *
    generalize bs (Lib.itoa (a % b)) = S2 at *
    generalize a.natAbs = p at *
    generalize b.natAbs = q at *
    rcases hxm with rfl | rfl
    · clear lr
      go_enter Tryz.func51, Tryz.ntmps51
      go_wp2_with (first | (go_at_call 60; (with_reducible refine Calls.mono (HV1.out _) ?_); rintro e w1 ⟨rfl, rfl⟩) | (go_at_call 60; (with_reducible refine Calls.mono (HV2.out _) ?_); rintro e w1 ⟨rfl, rfl⟩) | (go_at_call 72; (with_reducible refine Calls.mono HD1.out ?_); rintro e w2 ⟨v1, rfl, hd1, hb2⟩; have HV3 := Lib.hid hd1; have HB2 := Lib.hid hb2; clear hd1 hb2) | (go_at_call 72; (with_reducible refine Calls.mono (HD2.out _) ?_); rintro e w3 ⟨v2, rfl, hd2, hb3⟩; have HL := Lib.hid hd2; have HK := Lib.hid (HV3.out.next hb3); have HB3 := Lib.hid (below_to HB2.out hb3); clear hd2 hb3) | (go_at_call 77; (with_reducible refine Calls.mono (HDV.out _ _ _ HK.out HL.out) ?_); rintro e w4 ⟨vq, Ar, cr, rfl, hq, hr, hb4⟩; have HQ := Lib.hid hq; have HR := Lib.hid hr; have HL4 := Lib.hid (HL.out.next hb4); have HB4 := Lib.hid (below_to HB3.out hb4); clear hq hr hb4) | (go_at_call 73; refine Calls.mono (HC.out _ _ _ (by cases y <;> rfl) HQ.out) ?_; rintro e w7 ⟨rfl, hb⟩; have HR7 := Lib.hid (HR.out.next hb); have HB7 := Lib.hid (below_to HB4.out hb); clear hb) | (go_at_call 71; (with_reducible refine Calls.mono (HTX.out _ _ HR7.out) ?_); rintro e w8 ⟨f8, rfl, hb⟩; have HB8 := Lib.hid (below_to HB7.out hb); clear hb))
      go_ret3
      exact ⟨rfl, HB8.out⟩
    · clear lr
      cases x
      · skip
        go_enter Tryz.func51, Tryz.ntmps51
        go_wp2_with (first | (go_at_call 60; (with_reducible refine Calls.mono (HV1.out _) ?_); rintro e w1 ⟨rfl, rfl⟩) | (go_at_call 60; (with_reducible refine Calls.mono (HV2.out _) ?_); rintro e w1 ⟨rfl, rfl⟩) | (go_at_call 72; (with_reducible refine Calls.mono HD1.out ?_); rintro e w2 ⟨v1, rfl, hd1, hb2⟩; have HV3 := Lib.hid hd1; have HB2 := Lib.hid hb2; clear hd1 hb2) | (go_at_call 72; (with_reducible refine Calls.mono (HD2.out _) ?_); rintro e w3 ⟨v2, rfl, hd2, hb3⟩; have HL := Lib.hid hd2; have HK := Lib.hid (HV3.out.next hb3); have HB3 := Lib.hid (below_to HB2.out hb3); clear hd2 hb3) | (go_at_call 77; (with_reducible refine Calls.mono (HDV.out _ _ _ HK.out HL.out) ?_); rintro e w4 ⟨vq, Ar, cr, rfl, hq, hr, hb4⟩; have HQ := Lib.hid hq; have HR := Lib.hid hr; have HL4 := Lib.hid (HL.out.next hb4); have HB4 := Lib.hid (below_to HB3.out hb4); clear hq hr hb4) | (go_at_call 73; refine Calls.mono (HC.out _ _ _ (by cases y <;> rfl) HQ.out) ?_; rintro e w7 ⟨rfl, hb⟩; have HR7 := Lib.hid (HR.out.next hb); have HB7 := Lib.hid (below_to HB4.out hb); clear hb) | (go_at_call 71; (with_reducible refine Calls.mono (HTX.out _ _ HR7.out) ?_); rintro e w8 ⟨f8, rfl, hb⟩; have HB8 := Lib.hid (below_to HB7.out hb); clear hb))
        go_ret3
        exact ⟨rfl, HB8.out⟩
      · skip
        go_enter Tryz.func51, Tryz.ntmps51
        go_wp2_with (first | (go_at_call 60; (with_reducible refine Calls.mono (HV1.out _) ?_); rintro e w1 ⟨rfl, rfl⟩) | (go_at_call 60; (with_reducible refine Calls.mono (HV2.out _) ?_); rintro e w1 ⟨rfl, rfl⟩) | (go_at_call 72; (with_reducible refine Calls.mono HD1.out ?_); rintro e w2 ⟨v1, rfl, hd1, hb2⟩; have HV3 := Lib.hid hd1; have HB2 := Lib.hid hb2; clear hd1 hb2) | (go_at_call 72; (with_reducible refine Calls.mono (HD2.out _) ?_); rintro e w3 ⟨v2, rfl, hd2, hb3⟩; have HL := Lib.hid hd2; have HK := Lib.hid (HV3.out.next hb3); have HB3 := Lib.hid (below_to HB2.out hb3); clear hd2 hb3) | (go_at_call 77; (with_reducible refine Calls.mono (HDV.out _ _ _ HK.out HL.out) ?_); rintro e w4 ⟨vq, Ar, cr, rfl, hq, hr, hb4⟩; have HQ := Lib.hid hq; have HR := Lib.hid hr; have HL4 := Lib.hid (HL.out.next hb4); have HB4 := Lib.hid (below_to HB3.out hb4); clear hq hr hb4) | (go_at_call 73; refine Calls.mono (HC.out _ _ _ (by cases y <;> rfl) HQ.out) ?_; rintro e w7 ⟨rfl, hb⟩; have HR7 := Lib.hid (HR.out.next hb); have HB7 := Lib.hid (below_to HB4.out hb); clear hb) | (go_at_call 71; (with_reducible refine Calls.mono (HTX.out _ _ HR7.out) ?_); rintro e w8 ⟨f8, rfl, hb⟩; have HB8 := Lib.hid (below_to HB7.out hb); clear hb))
        go_ret3
        exact ⟨rfl, HB8.out⟩
end Go.Proofs.YtabkodpjhpjgnaaGreatDoor

namespace Go.Proofs.YtabkodpjhpjgnaaGreatDoor
open Go.RowKit
theorem and_false_cases {x y : Bool} (h : (x && y) = false) : x = false ∨ (x = true ∧ y = false) := by
  cases x <;> cases y <;> simp_all

set_option maxRecDepth 100000 in
set_option maxHeartbeats 1000000 in
theorem rAdd_bad (l r : List UInt8) (w : World) (hl : l.length ≤ 9223372036854775000) (hr : r.length ≤ 9223372036854775000) (h : (Im.vld l && Im.vld r) = false) :
    Calls Tryz.prog 48 #[strOf l, strOf r] w (BadP w) := by
  have hv1 := fun u => rvalid_any l hl u
  have hv2 := fun u => rvalid_any r hr u
  have HB := Lib.hid (Below.refl w.heap.size w)
  unfold strOf at *
  unfold BadP strOf
  rcases and_false_cases h with h1 | ⟨h1, h2⟩
  · rw [h1] at hv1
    have HV1 := Lib.hid hv1
    generalize bs l = L at *
    generalize bs r = R at *
    clear h h1 hv1 hv2 hl hr
    go_enter Tryz.func48, Tryz.ntmps48
    go_wp2_with (go_at_call 60; (with_reducible refine Calls.mono (HV1.out _) ?_); rintro e w1 ⟨rfl, rfl⟩)
    go_ret2
    exact ⟨rfl, HB.out⟩
  · rw [h1] at hv1; rw [h2] at hv2
    have HV1 := Lib.hid hv1; have HV2 := Lib.hid hv2
    generalize bs l = L at *
    generalize bs r = R at *
    clear h h1 h2 hv1 hv2 hl hr
    go_enter Tryz.func48, Tryz.ntmps48
    go_wp2_with (first | (go_at_call 60; (with_reducible refine Calls.mono (HV1.out _) ?_); rintro e w1 ⟨rfl, rfl⟩) | (go_at_call 60; (with_reducible refine Calls.mono (HV2.out _) ?_); rintro e w1 ⟨rfl, rfl⟩))
    go_ret2
    exact ⟨rfl, HB.out⟩
set_option maxRecDepth 100000 in
set_option maxHeartbeats 1000000 in
theorem rSub_bad (l r : List UInt8) (w : World) (hl : l.length ≤ 9223372036854775000) (hr : r.length ≤ 9223372036854775000) (h : (Im.vld l && Im.vld r) = false) :
    Calls Tryz.prog 49 #[strOf l, strOf r] w (BadP w) := by
  have hv1 := fun u => rvalid_any l hl u
  have hv2 := fun u => rvalid_any r hr u
  have HB := Lib.hid (Below.refl w.heap.size w)
  unfold strOf at *
  unfold BadP strOf
  rcases and_false_cases h with h1 | ⟨h1, h2⟩
  · rw [h1] at hv1
    have HV1 := Lib.hid hv1
    generalize bs l = L at *
    generalize bs r = R at *
    clear h h1 hv1 hv2 hl hr
    go_enter Tryz.func49, Tryz.ntmps49
    go_wp2_with (go_at_call 60; (with_reducible refine Calls.mono (HV1.out _) ?_); rintro e w1 ⟨rfl, rfl⟩)
    go_ret2
    exact ⟨rfl, HB.out⟩
  · rw [h1] at hv1; rw [h2] at hv2
    have HV1 := Lib.hid hv1; have HV2 := Lib.hid hv2
    generalize bs l = L at *
    generalize bs r = R at *
    clear h h1 h2 hv1 hv2 hl hr
    go_enter Tryz.func49, Tryz.ntmps49
    go_wp2_with (first | (go_at_call 60; (with_reducible refine Calls.mono (HV1.out _) ?_); rintro e w1 ⟨rfl, rfl⟩) | (go_at_call 60; (with_reducible refine Calls.mono (HV2.out _) ?_); rintro e w1 ⟨rfl, rfl⟩))
    go_ret2
    exact ⟨rfl, HB.out⟩
set_option maxRecDepth 100000 in
set_option maxHeartbeats 1000000 in
theorem rMul_bad (l r : List UInt8) (w : World) (hl : l.length ≤ 9223372036854775000) (hr : r.length ≤ 9223372036854775000) (h : (Im.vld l && Im.vld r) = false) :
    Calls Tryz.prog 44 #[strOf l, strOf r] w (BadP w) := by
  have hv1 := fun u => rvalid_any l hl u
  have hv2 := fun u => rvalid_any r hr u
  have HB := Lib.hid (Below.refl w.heap.size w)
  unfold strOf at *
  unfold BadP strOf
  rcases and_false_cases h with h1 | ⟨h1, h2⟩
  · rw [h1] at hv1
    have HV1 := Lib.hid hv1
    generalize bs l = L at *
    generalize bs r = R at *
    clear h h1 hv1 hv2 hl hr
    go_enter Tryz.func44, Tryz.ntmps44
    go_wp2_with (go_at_call 60; (with_reducible refine Calls.mono (HV1.out _) ?_); rintro e w1 ⟨rfl, rfl⟩)
    go_ret2
    exact ⟨rfl, HB.out⟩
  · rw [h1] at hv1; rw [h2] at hv2
    have HV1 := Lib.hid hv1; have HV2 := Lib.hid hv2
    generalize bs l = L at *
    generalize bs r = R at *
    clear h h1 h2 hv1 hv2 hl hr
    go_enter Tryz.func44, Tryz.ntmps44
    go_wp2_with (first | (go_at_call 60; (with_reducible refine Calls.mono (HV1.out _) ?_); rintro e w1 ⟨rfl, rfl⟩) | (go_at_call 60; (with_reducible refine Calls.mono (HV2.out _) ?_); rintro e w1 ⟨rfl, rfl⟩))
    go_ret2
    exact ⟨rfl, HB.out⟩
set_option maxRecDepth 100000 in
set_option maxHeartbeats 1000000 in
theorem rGcd_bad (l r : List UInt8) (w : World) (hl : l.length ≤ 9223372036854775000) (hr : r.length ≤ 9223372036854775000) (h : (Im.vld l && Im.vld r) = false) :
    Calls Tryz.prog 61 #[strOf l, strOf r] w (BadP w) := by
  have hv1 := fun u => rvalid_any l hl u
  have hv2 := fun u => rvalid_any r hr u
  have HB := Lib.hid (Below.refl w.heap.size w)
  unfold strOf at *
  unfold BadP strOf
  rcases and_false_cases h with h1 | ⟨h1, h2⟩
  · rw [h1] at hv1
    have HV1 := Lib.hid hv1
    generalize bs l = L at *
    generalize bs r = R at *
    clear h h1 hv1 hv2 hl hr
    go_enter Tryz.func61, Tryz.ntmps61
    go_wp2_with (go_at_call 60; (with_reducible refine Calls.mono (HV1.out _) ?_); rintro e w1 ⟨rfl, rfl⟩)
    go_ret2
    exact ⟨rfl, HB.out⟩
  · rw [h1] at hv1; rw [h2] at hv2
    have HV1 := Lib.hid hv1; have HV2 := Lib.hid hv2
    generalize bs l = L at *
    generalize bs r = R at *
    clear h h1 h2 hv1 hv2 hl hr
    go_enter Tryz.func61, Tryz.ntmps61
    go_wp2_with (first | (go_at_call 60; (with_reducible refine Calls.mono (HV1.out _) ?_); rintro e w1 ⟨rfl, rfl⟩) | (go_at_call 60; (with_reducible refine Calls.mono (HV2.out _) ?_); rintro e w1 ⟨rfl, rfl⟩))
    go_ret2
    exact ⟨rfl, HB.out⟩
set_option maxRecDepth 100000 in
set_option maxHeartbeats 1000000 in
theorem rCompare_bad (l r : List UInt8) (w : World) (hl : l.length ≤ 9223372036854775000) (hr : r.length ≤ 9223372036854775000) (h : (Im.vld l && Im.vld r) = false) :
    Calls Tryz.prog 52 #[strOf l, strOf r] w (fun e w' => e = .returned (.int .i64 0) ∧ Below w.heap.size w w') := by
  have hv1 := fun u => rvalid_any l hl u
  have hv2 := fun u => rvalid_any r hr u
  have HB := Lib.hid (Below.refl w.heap.size w)
  unfold strOf at *
  skip
  rcases and_false_cases h with h1 | ⟨h1, h2⟩
  · rw [h1] at hv1
    have HV1 := Lib.hid hv1
    generalize bs l = L at *
    generalize bs r = R at *
    clear h h1 hv1 hv2 hl hr
    go_enter Tryz.func52, Tryz.ntmps52
    go_wp2_with (go_at_call 60; (with_reducible refine Calls.mono (HV1.out _) ?_); rintro e w1 ⟨rfl, rfl⟩)
    go_ret
    exact ⟨rfl, HB.out⟩
  · rw [h1] at hv1; rw [h2] at hv2
    have HV1 := Lib.hid hv1; have HV2 := Lib.hid hv2
    generalize bs l = L at *
    generalize bs r = R at *
    clear h h1 h2 hv1 hv2 hl hr
    go_enter Tryz.func52, Tryz.ntmps52
    go_wp2_with (first | (go_at_call 60; (with_reducible refine Calls.mono (HV1.out _) ?_); rintro e w1 ⟨rfl, rfl⟩) | (go_at_call 60; (with_reducible refine Calls.mono (HV2.out _) ?_); rintro e w1 ⟨rfl, rfl⟩))
    go_ret
    exact ⟨rfl, HB.out⟩
set_option maxRecDepth 100000 in
set_option maxHeartbeats 1000000 in
theorem rDiv_bad (l r : List UInt8) (w : World) (hl : l.length ≤ 9223372036854775000) (hr : r.length ≤ 9223372036854775000) (h : (Im.vld l && Im.vld r) = false) :
    Calls Tryz.prog 51 #[strOf l, strOf r] w (Bad3 w) := by
  have hv1 := fun u => rvalid_any l hl u
  have hv2 := fun u => rvalid_any r hr u
  have HB := Lib.hid (Below.refl w.heap.size w)
  unfold strOf at *
  unfold Bad3 strOf
  rcases and_false_cases h with h1 | ⟨h1, h2⟩
  · rw [h1] at hv1
    have HV1 := Lib.hid hv1
    generalize bs l = L at *
    generalize bs r = R at *
    clear h h1 hv1 hv2 hl hr
    go_enter Tryz.func51, Tryz.ntmps51
    go_wp2_with (go_at_call 60; (with_reducible refine Calls.mono (HV1.out _) ?_); rintro e w1 ⟨rfl, rfl⟩)
    go_ret3
    exact ⟨rfl, HB.out⟩
  · rw [h1] at hv1; rw [h2] at hv2
    have HV1 := Lib.hid hv1; have HV2 := Lib.hid hv2
    generalize bs l = L at *
    generalize bs r = R at *
    clear h h1 h2 hv1 hv2 hl hr
    go_enter Tryz.func51, Tryz.ntmps51
    go_wp2_with (first | (go_at_call 60; (with_reducible refine Calls.mono (HV1.out _) ?_); rintro e w1 ⟨rfl, rfl⟩) | (go_at_call 60; (with_reducible refine Calls.mono (HV2.out _) ?_); rintro e w1 ⟨rfl, rfl⟩))
    go_ret3
    exact ⟨rfl, HB.out⟩
set_option maxRecDepth 100000 in
set_option maxHeartbeats 1000000 in
theorem rDiv_zero (a : Int) (w : World) (ha : okz a = true) :
    Calls Tryz.prog 51 #[strOf (Lib.itoa a), strOf (Lib.itoa 0)] w (Bad3 w) := by
  have HV1 := Lib.hid (fun u => rval_ok a u ha); have HV2 := Lib.hid (fun u => rval_ok 0 u (by decide))
  have hR0 : ((bs (Lib.itoa 0)).toList == [48]) = true := by rw [txt_zero]; rfl
  have HB := Lib.hid (Below.refl w.heap.size w)
  unfold Bad3 strOf at *
  generalize bs (Lib.itoa a) = L at *
  generalize bs (Lib.itoa 0) = R at *
  clear ha
  go_enter Tryz.func51, Tryz.ntmps51
  go_wp2_with (first | (go_at_call 60; (with_reducible refine Calls.mono (HV1.out _) ?_); rintro e w1 ⟨rfl, rfl⟩) | (go_at_call 60; (with_reducible refine Calls.mono (HV2.out _) ?_); rintro e w1 ⟨rfl, rfl⟩))
  go_ret3
  exact ⟨rfl, HB.out⟩
end Go.Proofs.YtabkodpjhpjgnaaGreatDoor

namespace Go.Proofs.YtabkodpjhpjgnaaGreatDoor
open Go.RowKit
attribute [local go_sem ↓] append_appN
theorem own_zero (w : World) : (w.alloc (.cells #[] 3)).ownsRow w.heap.size 3 1 (.slice (some ⟨w.heap.size, 0, none⟩) 0 0) 0 (intCells []) :=
  ⟨rfl, .inr ⟨w.heap.size, 0, #[], rfl, Nat.le_refl _, heap_alloc_new w _, Nat.le_refl _, by decide, rfl, rfl⟩⟩
end Go.Proofs.YtabkodpjhpjgnaaGreatDoor

namespace Go.Proofs.YtabkodpjhpjgnaaGreatDoor
open Go.RowKit

/-- What stands between two rounds: the root's digits from place j on. -/
structure RqI (n N j : Nat) (L : List Int) : Prop where
  len : L.length = N
  dg : Im.Dg L
  zer : ∀ m, m < j → L.getD m 0 = 0
  val : ∃ V : Nat, Im.dval L = (V : Int) ∧ V * V ≤ n ∧ n < (V + 10 ^ j) * (V + 10 ^ j)
theorem rqI_start (n N : Nat) (hN : (Im.dgl n).length ≤ N + N) : RqI n N N (List.replicate N 0) := by
  refine ⟨by simp, Im.dg_zeros _, fun m hm => by simp [List.getD_eq_getElem?_getD, hm], 0, Im.dval_zeros _, by omega, ?_⟩
  rw [Nat.zero_add, ← Nat.pow_add]
  exact Nat.lt_of_lt_of_le (Im.dgl_lt n) (Nat.pow_le_pow_right (by decide) hN)
structure RqS (n N i V : Nat) (L : List Int) : Prop where
  dv : ∀ t : Nat, t ≤ 9 → Im.dval (L.set i (t : Int)) = ((V + 10 ^ i * t : Nat) : Int) ∧ Im.Dg (L.set i (t : Int)) ∧ (Im.dgl (V + 10 ^ i * t)).length ≤ N
  lo : V * V ≤ n
  hi : n < (V + 10 ^ i * (9 + 1)) * (V + 10 ^ i * (9 + 1))
  nx : ∀ t : Nat, t ≤ 9 → (V + 10 ^ i * t) * (V + 10 ^ i * t) ≤ n → n < (V + 10 ^ i * (t + 1)) * (V + 10 ^ i * (t + 1)) → RqI n N i (L.set i (t : Int))
theorem rqI_step {n N i : Nat} {L : List Int} (h : RqI n N (i + 1) L) (hi : i < N) : ∃ V, RqS n N i V L := by
  obtain ⟨V, hV, h1, h2⟩ := h.val
  have hd : ∀ t : Nat, t ≤ 9 → Im.dval (L.set i (t : Int)) = ((V + 10 ^ i * t : Nat) : Int) ∧ Im.Dg (L.set i (t : Int)) ∧ (Im.dgl (V + 10 ^ i * t)).length ≤ N := fun t ht => by
    have e1 : Im.dval (L.set i (t : Int)) = ((V + 10 ^ i * t : Nat) : Int) := by
      rw [Im.dval_set _ _ _ (by rw [h.len]; exact hi), hV, h.zer i (by omega), Int.sub_zero, Int.natCast_add, Int.natCast_mul, Int.natCast_pow]
      rfl
    have e2 : Im.Dg (L.set i (t : Int)) := h.dg.set _ (by omega) (by omega)
    refine ⟨e1, e2, ?_⟩
    rw [← Im.trim_dgl e2 e1]
    have := Im.trim_len_le (L.set i (t : Int))
    rw [List.length_set, h.len] at this
    exact this
  refine ⟨V, hd, h1, ?_, fun t ht h3 h4 => ⟨by rw [List.length_set, h.len], (hd t ht).2.1, fun m hm => ?_, _, (hd t ht).1, h3, ?_⟩⟩
  · have e : 10 ^ i * (9 + 1) = 10 ^ (i + 1) := by rw [Nat.pow_succ]
    rw [e]; exact h2
  · rw [List.getD_eq_getElem?_getD, List.getElem?_set_ne (by omega), ← List.getD_eq_getElem?_getD]
    exact h.zer m (by omega)
  · have e : V + 10 ^ i * t + 10 ^ i = V + 10 ^ i * (t + 1) := by rw [Nat.mul_add, Nat.mul_one, Nat.add_assoc]
    rw [e]; exact h4
theorem rqI_end {n N : Nat} {L : List Int} (h : RqI n N 0 L) : Im.trim L = Im.dgl (Im.isqrt n) := by
  obtain ⟨V, hV, h1, h2⟩ := h.val
  rw [Nat.pow_zero] at h2
  rw [Im.isqrt_uniq n V h1 h2]
  exact Im.trim_dgl h.dg hV
theorem first_pos (a : Int) (h : ¬ a < 0) : ∃ c : Int, 48 ≤ c ∧ ∀ w, (Instr.index 9 (.string (bs (Lib.itoa a))) (.int .i64 0)).run Tryz.prog w = .ok (.int .u8 c) w := by
  obtain ⟨n, hn⟩ : ∃ n, a.natAbs = n := ⟨_, rfl⟩
  by_cases h0 : n = 0
  · obtain rfl : a = 0 := by omega
    exact ⟨48, by decide, fun w => bs_at (Lib.itoa 0) 0 48 (by rw [show Lib.itoa 0 = [48] from by decide +kernel]; rfl) w⟩
  · rw [pos_itoa h, hn, dd_dtxt n h0]
    obtain ⟨l, hl⟩ : ∃ l, Im.dgl n = l := ⟨_, rfl⟩
    have hp := dgl_pos h0
    have hd := Im.dgl_dg n
    rw [hl] at hp hd ⊢
    have h1 := dtxt_get l (l.length - 1) (by omega) hd
    rw [show l.length - 1 - (l.length - 1) = 0 by omega] at h1
    refine ⟨_, ?_, fun w => bs_at _ 0 _ h1.1 w⟩
    have := hd.getD (l.length - 1)
    rw [h1.2]; omega
theorem rdig_form (z : Int) (w : World) (m : Nat) (hz : okz z = true) (hm : (Im.dgl z.natAbs).length = m) : Calls Tryz.prog 72 #[strOf (Lib.itoa z)] w fun e w' =>
    ∃ A c, e = .returned (.tuple #[.bool (decide (z < 0)), .slice A m c]) ∧ Dig w' (.slice A m c) z.natAbs ∧ Below w.heap.size w w' := by
  refine (rdigits_any z w hz).mono ?_
  unfold NegPost
  rintro e w' ⟨v, rfl, h1, h2⟩
  obtain ⟨A, c, rfl, -, -⟩ := ints_form h1
  rw [hm] at *
  exact ⟨A, c, rfl, h1, h2⟩
theorem sq_lt {n a b : Nat} (h : n < a * a) (hab : a ≤ b) : n < b * b := Nat.lt_of_lt_of_le h (Nat.mul_le_mul hab hab)
end Go.Proofs.YtabkodpjhpjgnaaGreatDoor

namespace Go.Proofs.YtabkodpjhpjgnaaGreatDoor
open Go.RowKit

end Go.Proofs.YtabkodpjhpjgnaaGreatDoor

namespace Go.Proofs.YtabkodpjhpjgnaaGreatDoor
open Go.RowKit

end Go.Proofs.YtabkodpjhpjgnaaGreatDoor

namespace Go.Proofs.YtabkodpjhpjgnaaGreatDoor
open Go.RowKit
attribute [local go_sem ↓] append_appN

theorem dgl_take (n k : Nat) (hk : k < (Im.dgl n).length) : (Im.dgl n).take (k + 1) = (Im.dgl n).take k ++ [((n / 10 ^ k % 10 : Nat) : Int)] := by
  rw [List.take_succ_eq_append_getElem hk, ← dgl_getD, List.getD_eq_getElem?_getD, List.getElem?_eq_getElem hk]; rfl
theorem dgl_more (n k : Nat) (h : n / 10 ^ k ≠ 0) : k < (Im.dgl n).length := by
  rcases Nat.lt_or_ge k (Im.dgl n).length with h1 | h1
  · exact h1
  · exfalso
    refine h (Nat.div_eq_of_lt (Nat.lt_of_lt_of_le (Im.dgl_lt n) (Nat.pow_le_pow_right (by decide) h1)))
theorem dgl_all (n k : Nat) (hk : k ≤ (Im.dgl n).length) (h : n / 10 ^ k = 0) : k = (Im.dgl n).length := by
  have h1 : n < 10 ^ k := by
    rcases Nat.lt_or_ge n (10 ^ k) with h2 | h2
    · exact h2
    · have := Nat.div_pos h2 (Nat.pow_pos (by decide) : 0 < 10 ^ k); omega
  have := Im.dgl_len n k h1
  omega
/-- What stands in m: the number without its last k digits, with the sign. -/
def Cut (z m : Int) (k : Nat) : Prop := m.natAbs = z.natAbs / 10 ^ k ∧ (z < 0 → m ≤ 0) ∧ (¬ z < 0 → 0 ≤ m)
theorem cut_step {z m : Int} {k : Nat} (h : Cut z m k) : Cut z (m.tdiv 10) (k + 1) ∧ (m.tmod 10).natAbs = z.natAbs / 10 ^ k % 10 := by
  obtain ⟨h1, h2, h3⟩ := h
  have e : z.natAbs / 10 ^ (k + 1) = m.natAbs / 10 := by rw [h1, Nat.pow_succ, Nat.div_div_eq_div_mul]
  unfold Cut
  rw [e, ← h1]
  rcases Int.lt_or_le m 0 with hm | hm
  · obtain ⟨y, rfl⟩ : ∃ y : Nat, m = -(y : Int) := ⟨m.natAbs, by omega⟩
    have e1 : (-(y : Int)).tdiv 10 = -((y / 10 : Nat) : Int) := by
      rw [Int.neg_tdiv, Int.tdiv_eq_ediv_of_nonneg (by omega)]; omega
    have e2 : (-(y : Int)).tmod 10 = -((y % 10 : Nat) : Int) := by
      rw [Int.neg_tmod, Int.tmod_eq_emod_of_nonneg (by omega)]; omega
    rw [e1, e2]
    refine ⟨⟨by omega, fun hz => by omega, fun hz => ?_⟩, by omega⟩
    have := h3 hz
    omega
  · rw [Int.tdiv_eq_ediv_of_nonneg hm, Int.tmod_eq_emod_of_nonneg hm]
    refine ⟨⟨by omega, fun hz => ?_, fun hz => by omega⟩, by omega⟩
    have := h2 hz
    omega

set_option maxRecDepth 100000 in
set_option maxHeartbeats 2000000 in
theorem rFromInt_ok (z : Int) (w : World) (h0 : -9223372036854775808 ≤ z) (h1 : z ≤ 9223372036854775807) :
    Calls Tryz.prog 43 #[.int .i64 z] w fun e w' => e = .returned (strOf (Lib.itoa z)) ∧ Below w.heap.size w w' := by
  obtain ⟨i0, hi0, hz0, hz1, hz2⟩ := info_parts Tryz.infoInt
  obtain ⟨n, hn⟩ : ∃ n, z.natAbs = n := ⟨_, rfl⟩
  have hlen : (Im.dgl n).length ≤ 19 := Im.dgl_len n 19 (by rw [← hn]; omega)
  have htx := fun A c u (hv : Ints u u.heap.size (.slice A (Im.dgl n).length c) (Im.dgl n)) => text4_any (decide (z < 0)) (Im.dgl n) A c u hv (Im.dgl_dg n) (by omega)
  rw [Im.rtxt_dgl] at htx
  have e0 : (if decide (z < 0) = true then -(n : Int) else (n : Int)) = z := by
    have := sz_natAbs z
    rw [hn] at this; exact this
  rw [e0] at htx
  unfold strOf at *
  obtain ⟨S, hS⟩ : ∃ S, bs (Lib.itoa z) = S := ⟨_, rfl⟩
  obtain ⟨f, hf⟩ : ∃ f, decide ((Im.dgl n).length ≤ 200) = f := ⟨_, rfl⟩
  rw [hS, hf] at htx
  rw [hS]
  have HTX := Lib.hid htx
  have HTK := Lib.hid (dgl_take n)
  have HMO := Lib.hid (dgl_more n); have HAL := Lib.hid (dgl_all n)
  have HST := Lib.hid (fun m k (h : Cut z m k) => cut_step h)
  rw [hn] at HST
  have HCN := Lib.hid (fun m k (h : Cut z m k) => h.1)
  rw [hn] at HCN
  have HC0 : Hid (Cut z z 0) := Lib.hid ⟨by rw [Nat.pow_zero, Nat.div_one], fun h => by omega, fun h => by omega⟩
  have HZ := Lib.hid (show z.natAbs ≤ 9223372036854775808 by omega)
  have HZ2 := Lib.hid (show ¬ z < 0 → z.natAbs ≤ 9223372036854775807 by omega)
  clear htx e0 hS hf
  go_enter Tryz.func43, Tryz.ntmps43
  go_wp2
  go_loopw [3, 4, 5] (fun o m _ wr => ∃ (k : Nat) (x : Int), k ≤ (Im.dgl n).length ∧ m = .int .i64 x ∧ -9223372036854775808 ≤ x ∧ x ≤ 9223372036854775807 ∧ Hid (Cut z x k) ∧ Hid (wr.ownsRow w.heap.size 3 1 o k (intCells ((Im.dgl n).take k))) ∧ Hid (Below w.heap.size w wr)) (fun _ m _ _ => (intOf m).natAbs)
  case atStart => exact ⟨0, z, by omega, by go_num, h0, h1, HC0, Lib.hid (World.ownsRow_nil _ _ _ _), Lib.hid (Below.refl _ _)⟩
  case round =>
    obtain ⟨k, x, hk, rfl, x0, x1, HC, HO, HB⟩ := hrel
    obtain ⟨Ao, co, rfl⟩ := own_slice HO.out
    have hcn := HCN.out x k HC.out
    by_cases hx : x = 0
    · subst hx
      obtain rfl : k = (Im.dgl n).length := HAL.out k hk (by rw [← hcn]; rfl)
      have hown := HO.out
      rw [List.take_length] at hown
      have hv := ints_of_own hown rfl
      have HT := Lib.hid (HTX.out Ao co wr (Ints.next hv (Below.refl _ _)))
      clear hown hv hcn
      go_wp2_with (go_at_call 71; refine HT.out.mono ?_; rintro e w5 ⟨rfl, hb⟩; have HB5 := Lib.hid (below_to HB.out hb); clear hb)
      go_ret
      exact ⟨rfl, HB5.out⟩
    · obtain ⟨hc1, hc2⟩ := HST.out x k HC.out
      have hkl := HMO.out k (by rw [← hcn]; omega)
      have htk := HTK.out k hkl
      obtain ⟨d, hd⟩ : ∃ d, n / 10 ^ k % 10 = d := ⟨_, rfl⟩
      rw [hd] at hc2 htk
      have hd9 : d ≤ 9 := by omega
      obtain ⟨v2, w2, hrun, hown2, hgr⟩ := snoc_int (x := (d : Int)) hi0 hz0 hz1 hz2 HO.out (by omega) HB.out.size
      have hb2 := grown_below HO.out HB.out.size hgr
      rw [← htk] at hown2
      have hq1 : -922337203685477580 ≤ x.tdiv 10 ∧ x.tdiv 10 ≤ 922337203685477580 ∧ (x.tdiv 10).natAbs < x.natAbs := by
        rcases Int.lt_or_le x 0 with hm | hm
        · obtain ⟨y, rfl⟩ : ∃ y : Nat, x = -(y : Int) := ⟨x.natAbs, by omega⟩
          rw [Int.neg_tdiv, Int.tdiv_eq_ediv_of_nonneg (by omega)]; omega
        · rw [Int.tdiv_eq_ediv_of_nonneg hm]; omega
      obtain ⟨q, hq⟩ : ∃ q, x.tdiv 10 = q := ⟨_, rfl⟩
      obtain ⟨r, hr⟩ : ∃ r, x.tmod 10 = r := ⟨_, rfl⟩
      rw [hq] at hq1 hc1
      rw [hr] at hc2
      have HC2 := Lib.hid hc1; have HO2 := Lib.hid hown2; have HB2 := Lib.hid (HB.out.trans hb2)
      have i1 : IntKind.i64.wrap q = q := IntWalk.i64_in _ (by omega)
      have i2 : IntKind.i64.wrap r = r := IntWalk.i64_in _ (by omega)
      have i3 : IntKind.i64.wrap (-r) = -r := IntWalk.i64_in _ (by omega)
      obtain ⟨q1, q2, q3⟩ := hq1
      clear hc1 hown2 hgr hb2 htk hcn hd
      by_cases hrn : r < 0
      · have i4 : -r = (d : Int) := by omega
        rw [i4] at i3
        go_wp2
        go_roundw
        case rel => exact ⟨k + 1, q, hkl, by go_num, by omega, by omega, HC2, HO2, HB2⟩
        case measure => simp [intOf]; omega
      · obtain rfl : r = (d : Int) := by omega
        go_wp2
        go_roundw
        case rel => exact ⟨k + 1, q, hkl, by go_num, by omega, by omega, HC2, HO2, HB2⟩
        case measure => simp [intOf]; omega
end Go.Proofs.YtabkodpjhpjgnaaGreatDoor

namespace Go.Proofs.YtabkodpjhpjgnaaGreatDoor
open Go.RowKit

theorem dd_str (n : Nat) : ∃ K : Nat, 1 ≤ K ∧ n < 10 ^ K ∧ (bs (Lib.decDigits n)).size = K ∧ (Lib.decDigits n).length = K ∧
    ∀ j, j < K → ∃ c : UInt8, (Lib.decDigits n)[j]? = some c ∧ (c.toNat : Int) = 48 + ((n / 10 ^ (K - 1 - j) % 10 : Nat) : Int) := by
  by_cases h0 : n = 0
  · subst h0
    have e : Lib.decDigits 0 = [48] := by decide +kernel
    rw [e]
    refine ⟨1, by decide, by decide, by rw [bs_size]; rfl, rfl, fun j hj => ?_⟩
    obtain rfl : j = 0 := by omega
    exact ⟨48, rfl, rfl⟩
  · rw [dd_dtxt n h0]
    have hl := dtxt_len (Im.dgl n)
    refine ⟨_, dgl_pos h0, Im.dgl_lt n, by rw [bs_size, hl], hl, fun j hj => ?_⟩
    have h1 := dtxt_get (Im.dgl n) ((Im.dgl n).length - 1 - j) (by omega) (Im.dgl_dg n)
    rw [show (Im.dgl n).length - 1 - ((Im.dgl n).length - 1 - j) = j by omega] at h1
    exact ⟨_, h1.1, by rw [h1.2, dgl_getD]⟩
theorem up_digit (n K j : Nat) (hj : j < K) : n / 10 ^ (K - (j + 1)) = 10 * (n / 10 ^ (K - j)) + n / 10 ^ (K - 1 - j) % 10 := by
  obtain ⟨i, hi⟩ : ∃ i, K - 1 - j = i := ⟨_, rfl⟩
  rw [hi, show K - (j + 1) = i by omega, show K - j = i + 1 by omega, Nat.pow_succ, ← Nat.div_div_eq_div_mul]
  omega
theorem lit_min : strOf (Lib.itoa (-9223372036854775808)) = Value.string { data := #[45, 57, 50, 50, 51, 51, 55, 50, 48, 51, 54, 56, 53, 52, 55, 55, 53, 56, 48, 56] } := by
  rw [show Lib.itoa (-9223372036854775808) = [45, 57, 50, 50, 51, 51, 55, 50, 48, 51, 54, 56, 53, 52, 55, 55, 53, 56, 48, 56] from by decide +kernel]; rfl
theorem lit_max : strOf (Lib.itoa 9223372036854775807) = Value.string { data := #[57, 50, 50, 51, 51, 55, 50, 48, 51, 54, 56, 53, 52, 55, 55, 53, 56, 48, 55] } := by
  rw [show Lib.itoa 9223372036854775807 = [57, 50, 50, 51, 51, 55, 50, 48, 51, 54, 56, 53, 52, 55, 55, 53, 56, 48, 55] from by decide +kernel]; rfl

set_option maxRecDepth 100000 in
set_option maxHeartbeats 2000000 in
theorem rToInt_ok (z : Int) (w : World) (h0 : -9223372036854775808 ≤ z) (h1 : z ≤ 9223372036854775807) :
    Calls Tryz.prog 37 #[strOf (Lib.itoa z)] w fun e w' => e = .returned (.tuple #[.int .i64 z, .int .i64 0]) ∧ Below w.heap.size w w' := by
  have hz := ok_int z h0 h1
  have HV1 := Lib.hid (fun u => rval_ok z u hz)
  have hc1 := fun u => rCompare_ok z (-9223372036854775808) u hz (by decide +kernel)
  have hc2 := fun u => rCompare_ok z 9223372036854775807 u hz (by decide +kernel)
  rw [lit_min] at hc1; rw [lit_max] at hc2
  obtain ⟨g1, hg1⟩ : ∃ g, sg z (-9223372036854775808) = g := ⟨_, rfl⟩
  obtain ⟨g2, hg2⟩ : ∃ g, sg z 9223372036854775807 = g := ⟨_, rfl⟩
  rw [hg1] at hc1; rw [hg2] at hc2
  have b1 : decide (g1 < 0) = false := by
    rw [← hg1]
    rcases Int.lt_or_le (-9223372036854775808) z with h | h
    · rw [sg_gt h]; decide
    · rw [sg_eq (by omega)]; decide
  have b2 : decide (0 < g2) = false := by
    rw [← hg2]
    rcases Int.lt_or_le z 9223372036854775807 with h | h
    · rw [sg_lt h]; decide
    · rw [sg_eq (by omega)]; decide
  obtain ⟨n, hn⟩ : ∃ n, z.natAbs = n := ⟨_, rfl⟩
  obtain ⟨K, hK1, hnK, hsz, hlen, hat⟩ := dd_str n
  have HUP := Lib.hid (up_digit n K)
  have hle := fun j => Nat.div_le_self n (10 ^ j)
  have HK0 := Lib.hid (show n / 10 ^ (K - 0) = 0 by rw [Nat.sub_zero]; exact Nat.div_eq_of_lt hnK)
  have HKK := Lib.hid (show n / 10 ^ (K - K) = n by rw [Nat.sub_self, Nat.pow_zero, Nat.div_one])
  have HLE := Lib.hid hle
  have hKb : K ≤ 20 := by
    rcases Nat.lt_or_ge 20 K with h | h
    · exfalso
      have h2 := hat 0 (by omega)
      have h3 : n < 10 ^ 20 := by omega
      have h4 : (Im.dgl n).length ≤ 20 := Im.dgl_len n 20 h3
      by_cases h5 : n = 0
      · subst h5
        have : (Lib.decDigits 0).length = 1 := by decide +kernel
        omega
      · rw [dd_dtxt n h5, dtxt_len] at hlen
        omega
    · exact h
  by_cases hneg : z < 0
  · have hit : Lib.itoa z = 45 :: Lib.decDigits n := by rw [neg_itoa hneg, hn]
    have hS : (bs (Lib.itoa z)).size = K + 1 := by rw [hit, bs_size, List.length_cons, hlen]
    have hf : ∀ w, (Instr.index 9 (.string (bs (Lib.itoa z))) (.int .i64 0)).run Tryz.prog w = .ok (.int .u8 45) w := fun w => by
      have h1 := bs_at (Lib.itoa z) 0 45 (by rw [hit]; rfl) w
      exact h1
    have hix : ∀ j, j < K → ∀ w, (Instr.index 9 (.string (bs (Lib.itoa z))) (.int .i64 ((j : Int) + 1))).run Tryz.prog w = .ok (.int .u8 (48 + ((n / 10 ^ (K - 1 - j) % 10 : Nat) : Int))) w := fun j hj w => by
      obtain ⟨c, h2, h3⟩ := hat j hj
      have h1 := bs_at (Lib.itoa z) (j + 1) c (by rw [hit]; exact h2) w
      rw [h3] at h1
      exact h1
    unfold strOf at *
    generalize bs (Lib.itoa z) = S at *
    have HIX := Lib.hid hix
    have HC1 := Lib.hid hc1; have HC2 := Lib.hid hc2
    have HZ := Lib.hid (show -(n : Int) = z by omega)
    have hnb : n ≤ 9223372036854775808 := by omega
    clear hix hc1 hc2 hg1 hg2 hz hit hat hsz hlen hnK hle hn h0 h1 hneg
    go_enter Tryz.func37, Tryz.ntmps37
    go_wp2_with (first | (go_at_call 60; (with_reducible refine Calls.mono (HV1.out _) ?_); rintro e w1 ⟨rfl, rfl⟩) | (go_at_call 52; (with_reducible refine Calls.mono (HC1.out _) ?_); rintro e w2 ⟨rfl, hb2⟩; have HB2 := Lib.hid hb2; clear hb2) | (go_at_call 52; (with_reducible refine Calls.mono (HC2.out _) ?_); rintro e w3 ⟨rfl, hb3⟩; have HB3 := Lib.hid (below_to HB2.out hb3); clear hb3))
    go_loopw [4, 5, 6] (fun v i _ wr => ∃ (k x : Int), v = .int .i64 x ∧ i = .int .i64 k ∧ ((k = 0 ∧ x = 0) ∨ (∃ j : Nat, j ≤ K ∧ k = (j : Int) + 1 ∧ x = -((n / 10 ^ (K - j) : Nat) : Int))) ∧ wr = w3) (fun _ i _ _ => (22 - intOf i).toNat)
    case atStart => exact ⟨0, 0, by go_num, by go_num, .inl ⟨rfl, rfl⟩, rfl⟩
    case round =>
      obtain ⟨k, x, rfl, rfl, hx, rfl⟩ := hrel
      rcases hx with ⟨rfl, rfl⟩ | ⟨j, hj0, rfl, rfl⟩
      · have i1 : (0 : Int) < (K : Int) + 1 := by omega
        go_wp2
        go_roundw
        case rel => exact ⟨1, 0, by go_num, by go_num, .inr ⟨0, by omega, rfl, by rw [HK0.out]; rfl⟩, trivial⟩
        case measure => simp [intOf]
      · by_cases hj : j < K
        · have hi := HIX.out j hj
          have hu := HUP.out j hj
          have hl1 := HLE.out (K - (j + 1))
          obtain ⟨d, hd⟩ : ∃ d, n / 10 ^ (K - 1 - j) % 10 = d := ⟨_, rfl⟩
          have hd9 : d ≤ 9 := by omega
          rw [hd] at hi hu
          obtain ⟨p, hp⟩ : ∃ p, n / 10 ^ (K - j) = p := ⟨_, rfl⟩
          rw [hp] at hu ⊢
          have i1 : (j : Int) + 1 < (K : Int) + 1 := by omega
          have i2 : (48 + (d : Int) == 45) = false := by rw [beq_eq_false_iff_ne]; omega
          have i3 : IntKind.u8.wrap (48 + (d : Int) - 48) = (d : Int) := by rw [IntKind.wrap_u8]; omega
          have i4 : IntKind.i64.wrap (d : Int) = (d : Int) := IntWalk.i64_in _ (by omega)
          have i5 : IntKind.i64.wrap (-(d : Int)) = -(d : Int) := IntWalk.i64_in _ (by omega)
          have i6 : IntKind.i64.wrap (10 * -(p : Int)) = 10 * -(p : Int) := IntWalk.i64_in _ (by omega)
          have i7 : IntKind.i64.wrap (10 * -(p : Int) + -(d : Int)) = 10 * -(p : Int) + -(d : Int) := IntWalk.i64_in _ (by omega)
          have i8 : IntKind.i64.wrap ((j : Int) + 1 + 1) = (j : Int) + 1 + 1 := IntWalk.i64_in _ (by omega)
          go_wp2
          go_roundw
          case rel => exact ⟨(j : Int) + 1 + 1, 10 * -(p : Int) + -(d : Int), by go_num, by go_num, .inr ⟨j + 1, by omega, by omega, by rw [hu]; omega⟩, trivial⟩
          case measure => simp [intOf]; omega
        · obtain rfl : j = K := by omega
          rw [HKK.out, HZ.out]
          have i1 : decide ((j : Int) + 1 < (j : Int) + 1) = false := decide_eq_false (by omega)
          go_wp2
          go_ret2
          exact ⟨rfl, HB3.out⟩
  · have hit : Lib.itoa z = Lib.decDigits n := by rw [pos_itoa hneg, hn]
    have hS : (bs (Lib.itoa z)).size = K := by rw [hit]; exact hsz
    have hix : ∀ j, j < K → ∀ w, (Instr.index 9 (.string (bs (Lib.itoa z))) (.int .i64 (j : Int))).run Tryz.prog w = .ok (.int .u8 (48 + ((n / 10 ^ (K - 1 - j) % 10 : Nat) : Int))) w := fun j hj w => by
      obtain ⟨c, h2, h3⟩ := hat j hj
      have h1 := bs_at (Lib.itoa z) j c (by rw [hit]; exact h2) w
      rw [h3] at h1
      exact h1
    obtain ⟨d0, hd0⟩ : ∃ d0 : Nat, n / 10 ^ (K - 1 - 0) % 10 = d0 := ⟨_, rfl⟩
    have hf := fun w => hix 0 (by omega) w
    rw [hd0] at hf
    have hf2 : ∀ w, (Instr.index 9 (.string (bs (Lib.itoa z))) (.int .i64 0)).run Tryz.prog w = .ok (.int .u8 (48 + (d0 : Int))) w := hf
    have t0 : (48 + (d0 : Int) == 45) = false := by rw [beq_eq_false_iff_ne]; omega
    clear hf
    unfold strOf at *
    generalize bs (Lib.itoa z) = S at *
    have HIX := Lib.hid hix
    have HC1 := Lib.hid hc1; have HC2 := Lib.hid hc2
    have HZ := Lib.hid (show (n : Int) = z by omega)
    have hnb : n ≤ 9223372036854775807 := by omega
    clear hix hc1 hc2 hg1 hg2 hz hit hat hsz hlen hnK hle hn h0 h1 hneg hd0
    go_enter Tryz.func37, Tryz.ntmps37
    go_wp2_with (first | (go_at_call 60; (with_reducible refine Calls.mono (HV1.out _) ?_); rintro e w1 ⟨rfl, rfl⟩) | (go_at_call 52; (with_reducible refine Calls.mono (HC1.out _) ?_); rintro e w2 ⟨rfl, hb2⟩; have HB2 := Lib.hid hb2; clear hb2) | (go_at_call 52; (with_reducible refine Calls.mono (HC2.out _) ?_); rintro e w3 ⟨rfl, hb3⟩; have HB3 := Lib.hid (below_to HB2.out hb3); clear hb3))
    go_loopw [4, 5, 6] (fun v i _ wr => ∃ (j : Nat), j ≤ K ∧ v = .int .i64 ((n / 10 ^ (K - j) : Nat) : Int) ∧ i = .int .i64 (j : Int) ∧ wr = w3) (fun _ i _ _ => (22 - intOf i).toNat)
    case atStart => exact ⟨0, by omega, by rw [HK0.out]; go_num, by go_num, rfl⟩
    case round =>
      obtain ⟨j, hj0, rfl, rfl, rfl⟩ := hrel
      by_cases hj : j < K
      · have hi := HIX.out j hj
        have hu := HUP.out j hj
        have hl1 := HLE.out (K - (j + 1))
        obtain ⟨d, hd⟩ : ∃ d, n / 10 ^ (K - 1 - j) % 10 = d := ⟨_, rfl⟩
        have hd9 : d ≤ 9 := by omega
        rw [hd] at hi hu
        obtain ⟨p, hp⟩ : ∃ p, n / 10 ^ (K - j) = p := ⟨_, rfl⟩
        rw [hp] at hu ⊢
        have i1 : (j : Int) < (K : Int) := by omega
        have i2 : (48 + (d : Int) == 45) = false := by rw [beq_eq_false_iff_ne]; omega
        have i3 : IntKind.u8.wrap (48 + (d : Int) - 48) = (d : Int) := by rw [IntKind.wrap_u8]; omega
        have i4 : IntKind.i64.wrap (d : Int) = (d : Int) := IntWalk.i64_in _ (by omega)
        have i6 : IntKind.i64.wrap (10 * (p : Int)) = 10 * (p : Int) := IntWalk.i64_in _ (by omega)
        have i7 : IntKind.i64.wrap (10 * (p : Int) + (d : Int)) = 10 * (p : Int) + (d : Int) := IntWalk.i64_in _ (by omega)
        have i8 : IntKind.i64.wrap ((j : Int) + 1) = (j : Int) + 1 := IntWalk.i64_in _ (by omega)
        go_wp2
        go_roundw
        case rel => exact ⟨j + 1, by omega, by rw [hu]; go_num, by go_num, trivial⟩
        case measure => simp [intOf]; omega
      · obtain rfl : j = K := by omega
        rw [HKK.out, HZ.out]
        have i1 : decide ((j : Int) < (j : Int)) = false := decide_eq_false (by omega)
        go_wp2
        go_ret2
        exact ⟨rfl, HB3.out⟩
end Go.Proofs.YtabkodpjhpjgnaaGreatDoor

namespace Go.Proofs.YtabkodpjhpjgnaaGreatDoor
open Go.RowKit

set_option maxRecDepth 100000 in
set_option maxHeartbeats 1000000 in
theorem rToInt_bad (l : List UInt8) (w : World) (hl : l.length ≤ 9223372036854775000) (h : Im.vld l = false) :
    Calls Tryz.prog 37 #[strOf l] w fun e w' => e = .returned (.tuple #[.int .i64 0, .int .i64 30]) ∧ Below w.heap.size w w' := by
  have hv1 := fun u => rvalid_any l hl u
  rw [h] at hv1
  have HV1 := Lib.hid hv1
  have HB := Lib.hid (Below.refl w.heap.size w)
  unfold strOf at *
  generalize bs l = L at *
  clear h hv1 hl
  go_enter Tryz.func37, Tryz.ntmps37
  go_wp2_with (go_at_call 60; (with_reducible refine Calls.mono (HV1.out _) ?_); rintro e w1 ⟨rfl, rfl⟩)
  go_ret2
  exact ⟨rfl, HB.out⟩
set_option maxRecDepth 100000 in
set_option maxHeartbeats 1000000 in
theorem rToInt_far (z : Int) (w : World) (hz : okz z = true) (h : z < -9223372036854775808 ∨ 9223372036854775807 < z) :
    Calls Tryz.prog 37 #[strOf (Lib.itoa z)] w fun e w' => e = .returned (.tuple #[.int .i64 0, .int .i64 30]) ∧ Below w.heap.size w w' := by
  have HV1 := Lib.hid (fun u => rval_ok z u hz)
  have hc1 := fun u => rCompare_ok z (-9223372036854775808) u hz (by decide +kernel)
  have hc2 := fun u => rCompare_ok z 9223372036854775807 u hz (by decide +kernel)
  rw [lit_min] at hc1; rw [lit_max] at hc2
  obtain ⟨g1, hg1⟩ : ∃ g, sg z (-9223372036854775808) = g := ⟨_, rfl⟩
  obtain ⟨g2, hg2⟩ : ∃ g, sg z 9223372036854775807 = g := ⟨_, rfl⟩
  rw [hg1] at hc1; rw [hg2] at hc2
  have HC1 := Lib.hid hc1; have HC2 := Lib.hid hc2
  unfold strOf at *
  generalize bs (Lib.itoa z) = S at *
  rcases h with h | h
  · have b1 : decide (g1 < 0) = true := by rw [← hg1, sg_lt h]; decide
    clear hc1 hc2 hg1 hg2 hz h HC2
    go_enter Tryz.func37, Tryz.ntmps37
    go_wp2_with (first | (go_at_call 60; (with_reducible refine Calls.mono (HV1.out _) ?_); rintro e w1 ⟨rfl, rfl⟩) | (go_at_call 52; (with_reducible refine Calls.mono (HC1.out _) ?_); rintro e w2 ⟨rfl, hb2⟩; have HB2 := Lib.hid hb2; clear hb2))
    go_ret2
    exact ⟨rfl, HB2.out⟩
  · have b1 : decide (g1 < 0) = false := by rw [← hg1, sg_gt (by omega)]; decide
    have b2 : decide (0 < g2) = true := by rw [← hg2, sg_gt h]; decide
    clear hc1 hc2 hg1 hg2 hz h
    go_enter Tryz.func37, Tryz.ntmps37
    go_wp2_with (first | (go_at_call 60; (with_reducible refine Calls.mono (HV1.out _) ?_); rintro e w1 ⟨rfl, rfl⟩) | (go_at_call 52; (with_reducible refine Calls.mono (HC1.out _) ?_); rintro e w2 ⟨rfl, hb2⟩; have HB2 := Lib.hid hb2; clear hb2) | (go_at_call 52; (with_reducible refine Calls.mono (HC2.out _) ?_); rintro e w3 ⟨rfl, hb3⟩; have HB3 := Lib.hid (below_to HB2.out hb3); clear hb3))
    go_ret2
    exact ⟨rfl, HB3.out⟩
end Go.Proofs.YtabkodpjhpjgnaaGreatDoor

namespace Go.Proofs.YtabkodpjhpjgnaaGreatDoor
open Go.RowKit

theorem both_split (l r : List UInt8) : (Im.vld l && Im.vld r) = false ∨ ∃ a b : Int, l = Lib.itoa a ∧ r = Lib.itoa b ∧ okz a = true ∧ okz b = true := by
  by_cases h : (Im.vld l && Im.vld r) = true
  · rw [Bool.and_eq_true] at h
    obtain ⟨a, h1, ha⟩ := Im.vld_of l h.1
    obtain ⟨b, h2, hb⟩ := Im.vld_of r h.2
    exact .inr ⟨a, b, h1, h2, decide_eq_true ha, decide_eq_true hb⟩
  · exact .inl (by simpa using h)
theorem one_split (l : List UInt8) : Im.vld l = false ∨ ∃ a : Int, l = Lib.itoa a ∧ okz a = true := by
  by_cases h : Im.vld l = true
  · obtain ⟨a, h1, ha⟩ := Im.vld_of l h
    exact .inr ⟨a, h1, decide_eq_true ha⟩
  · exact .inl (by simpa using h)
theorem same_Add (l r : List UInt8) (hl : l.length ≤ 9223372036854775000) (hr : r.length ≤ 9223372036854775000) : ∃ (s : ByteArray) (e : Int),
    CallT 67 #[strOf l, strOf r] (.tuple #[.string s, .int .i64 e]) ∧ CallT 48 #[strOf l, strOf r] (.tuple #[.string s, .int .i64 e]) := by
  rcases both_split l r with h | ⟨a, b, rfl, rfl, ha, hb⟩
  · exact ⟨bs [], 30, fun u _ => Add_bad l r u h, fun u _ => rAdd_bad l r u hl hr h⟩
  · exact ⟨bs (outT (a + b)), errT (a + b), fun u hu => Add_ok a b u hu ha hb, fun u _ => rAdd_ok a b u ha hb⟩
theorem same_Sub (l r : List UInt8) (hl : l.length ≤ 9223372036854775000) (hr : r.length ≤ 9223372036854775000) : ∃ (s : ByteArray) (e : Int),
    CallT 70 #[strOf l, strOf r] (.tuple #[.string s, .int .i64 e]) ∧ CallT 49 #[strOf l, strOf r] (.tuple #[.string s, .int .i64 e]) := by
  rcases both_split l r with h | ⟨a, b, rfl, rfl, ha, hb⟩
  · exact ⟨bs [], 30, fun u _ => Sub_bad l r u h, fun u _ => rSub_bad l r u hl hr h⟩
  · exact ⟨bs (outT (a - b)), errT (a - b), fun u hu => Sub_ok a b u hu ha hb, fun u _ => rSub_ok a b u ha hb⟩
theorem same_Mul (l r : List UInt8) (hl : l.length ≤ 9223372036854775000) (hr : r.length ≤ 9223372036854775000) : ∃ (s : ByteArray) (e : Int),
    CallT 93 #[strOf l, strOf r] (.tuple #[.string s, .int .i64 e]) ∧ CallT 44 #[strOf l, strOf r] (.tuple #[.string s, .int .i64 e]) := by
  rcases both_split l r with h | ⟨a, b, rfl, rfl, ha, hb⟩
  · exact ⟨bs [], 30, fun u _ => Mul_bad l r u h, fun u _ => rMul_bad l r u hl hr h⟩
  · exact ⟨bs (outT (a * b)), errT (a * b), fun u hu => Mul_ok a b u hu ha hb, fun u _ => rMul_ok a b u ha hb⟩
theorem same_Gcd (l r : List UInt8) (hl : l.length ≤ 9223372036854775000) (hr : r.length ≤ 9223372036854775000) : ∃ (s : ByteArray) (e : Int),
    CallT 62 #[strOf l, strOf r] (.tuple #[.string s, .int .i64 e]) ∧ CallT 61 #[strOf l, strOf r] (.tuple #[.string s, .int .i64 e]) := by
  rcases both_split l r with h | ⟨a, b, rfl, rfl, ha, hb⟩
  · exact ⟨bs [], 30, fun u _ => Gcd_bad l r u h, fun u _ => rGcd_bad l r u hl hr h⟩
  · exact ⟨bs (outT (((Nat.gcd a.natAbs b.natAbs : Nat) : Int))), errT (((Nat.gcd a.natAbs b.natAbs : Nat) : Int)), fun u hu => Gcd_ok a b u hu ha hb, fun u _ => rGcd_ok a b u ha hb⟩
theorem same_Compare (l r : List UInt8) (hl : l.length ≤ 9223372036854775000) (hr : r.length ≤ 9223372036854775000) : ∃ (e : Int),
    CallT 63 #[strOf l, strOf r] (.int .i64 e) ∧ CallT 52 #[strOf l, strOf r] (.int .i64 e) := by
  rcases both_split l r with h | ⟨a, b, rfl, rfl, ha, hb⟩
  · exact ⟨0, fun u _ => cmpI_bad l r u h, fun u _ => rCompare_bad l r u hl hr h⟩
  · exact ⟨sg a b, fun u hu => cmpI_ok a b u ha hb, fun u _ => rCompare_ok a b u ha hb⟩
theorem same_Div (l r : List UInt8) (hl : l.length ≤ 9223372036854775000) (hr : r.length ≤ 9223372036854775000) : ∃ (s t : ByteArray) (e : Int),
    CallT 76 #[strOf l, strOf r] (.tuple #[.string s, .string t, .int .i64 e]) ∧ CallT 51 #[strOf l, strOf r] (.tuple #[.string s, .string t, .int .i64 e]) := by
  rcases both_split l r with h | ⟨a, b, rfl, rfl, ha, hb⟩
  · exact ⟨bs [], bs [], 30, fun u _ => div_bad l r u h, fun u _ => rDiv_bad l r u hl hr h⟩
  · by_cases h0 : b = 0
    · subst h0
      exact ⟨bs [], bs [], 30, fun u hu => div_zero a u ha, fun u _ => rDiv_zero a u ha⟩
    · exact ⟨bs (outT (a / b)), bs (outT (a % b)), 0, fun u hu => div_ok a b u hu ha hb h0, fun u _ => rDiv_ok a b u ha hb h0⟩
theorem same_Valid (l : List UInt8) (hl : l.length ≤ 9223372036854775000) : ∃ (x : Bool),
    CallT 119 #[strOf l] (.bool x) ∧ CallT 60 #[strOf l] (.bool x) :=
  ⟨Im.vld l, fun u _ => valid_any l u, fun u _ => (rvalid_any l hl u).mono fun _ _ ⟨h1, h2⟩ => ⟨h1, h2 ▸ Below.refl _ _⟩⟩
theorem same_FromInt (z : Int) (h0 : -9223372036854775808 ≤ z) (h1 : z ≤ 9223372036854775807) : ∃ (s : ByteArray),
    CallT 64 #[.int .i64 z] (.string s) ∧ CallT 43 #[.int .i64 z] (.string s) :=
  ⟨bs (Lib.itoa z), fun u hu => fromInt_ok z u hu h0 h1, fun u _ => rFromInt_ok z u h0 h1⟩
end Go.Proofs.YtabkodpjhpjgnaaGreatDoor
