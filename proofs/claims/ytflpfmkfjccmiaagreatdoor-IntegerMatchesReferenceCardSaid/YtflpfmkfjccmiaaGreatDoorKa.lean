/- The reference's numbers digit by digit: plain mathematics; contract of its trim. -/
import Derived.Test.YtflpfmkfjccmiaaGreatDoorJs
namespace Go.Proofs.YtflpfmkfjccmiaaGreatDoor
open Go.RowKit

namespace Im
/-- The number of some digits, the lowest one first. -/
def dval : List Int → Int
  | [] => 0
  | x :: r => x + 10 * dval r
def Dg (l : List Int) : Prop := ∀ x ∈ l, 0 ≤ x ∧ x < 10
def Top (l : List Int) : Prop := ∀ r x, l = r ++ [x] → x ≠ 0
def dtxt (l : List Int) : List UInt8 := l.reverse.map fun x => UInt8.ofNat (48 + x.toNat)
theorem dtxt_cons (x : Int) (l : List Int) : dtxt (x :: l) = dtxt l ++ [UInt8.ofNat (48 + x.toNat)] := by simp [dtxt]
theorem Dg.tail {x : Int} {l : List Int} (h : Dg (x :: l)) : Dg l := fun y hy => h y (List.mem_cons_of_mem _ hy)
theorem Top.tail {x : Int} {l : List Int} (h : Top (x :: l)) : Top l := fun r y e => h (x :: r) y (by rw [e]; rfl)
theorem dval_nonneg : ∀ {l : List Int}, Dg l → 0 ≤ dval l
  | [], _ => Int.le_refl _
  | x :: r, h => by
    have h1 := (h x (by simp)).1
    have h2 := dval_nonneg h.tail
    show 0 ≤ x + 10 * dval r
    omega
theorem dval_lt : ∀ {l : List Int}, Dg l → (dval l).toNat < 10 ^ l.length
  | [], _ => by decide
  | x :: r, h => by
    have h1 := h x (by simp)
    have h2 := dval_lt h.tail
    have h3 := dval_nonneg h.tail
    show (x + 10 * dval r).toNat < 10 ^ (r.length + 1)
    rw [Nat.pow_succ]; omega
theorem dval_pos : ∀ {l : List Int}, Dg l → l ≠ [] → Top l → 0 < dval l
  | [], _, h, _ => absurd rfl h
  | [x], hd, _, ht => by
    have h1 := (hd x (by simp)).1
    have h2 := ht [] x rfl
    show 0 < x + 10 * 0
    omega
  | x :: y :: r, hd, _, ht => by
    have h1 := (hd x (by simp)).1
    have h2 := dval_pos hd.tail (by simp) ht.tail
    show 0 < x + 10 * dval (y :: r)
    omega
theorem dtxt_dd : ∀ {l : List Int}, Dg l → l ≠ [] → Top l → Lib.decDigits (dval l).toNat = dtxt l
  | [], _, h, _ => absurd rfl h
  | [x], hd, _, _ => by
    have h1 := hd x (by simp)
    show Lib.decDigits (x + 10 * 0).toNat = _
    rw [dd_small _ (by omega), show x + 10 * 0 = x by omega]; rfl
  | x :: y :: r, hd, _, ht => by
    have h1 := hd x (by simp)
    have h2 := dval_pos hd.tail (by simp) ht.tail
    have ih := dtxt_dd hd.tail (by simp) ht.tail
    rw [dtxt_cons, ← ih]
    have e : dval (x :: y :: r) = x + 10 * dval (y :: r) := rfl
    rw [e]
    generalize dval (y :: r) = v at *
    rw [dd_big _ (by omega), show (x + 10 * v).toNat / 10 = v.toNat by omega, show (x + 10 * v).toNat % 10 = x.toNat by omega]
/-- The integer of a sign and digits. -/
def sgn (neg : Bool) (l : List Int) : Int := if neg then -(dval l) else dval l
def rtxt (neg : Bool) (l : List Int) : List UInt8 := if l = [] then [48] else if neg then 45 :: dtxt l else dtxt l
theorem rtxt_itoa (neg : Bool) {l : List Int} (hd : Dg l) (ht : Top l) : rtxt neg l = Lib.itoa (sgn neg l) := by
  unfold rtxt
  by_cases h : l = []
  · subst h
    rw [if_pos rfl]
    cases neg <;> decide +kernel
  · rw [if_neg h]
    have hp := dval_pos hd h ht
    have hx := dtxt_dd hd h ht
    cases neg with
    | true =>
      have e : sgn true l = -(dval l) := rfl
      rw [if_pos rfl, e]
      unfold Lib.itoa
      rw [if_pos (by omega), Int.natAbs_neg, ← hx, show (dval l).natAbs = (dval l).toNat by omega]
    | false =>
      have e : sgn false l = dval l := rfl
      rw [if_neg (by decide), e]
      unfold Lib.itoa
      rw [if_neg (by omega), hx]
theorem sgn_lt (neg : Bool) {l : List Int} (hd : Dg l) : (sgn neg l).natAbs < 10 ^ l.length := by
  have h := dval_lt hd
  have h2 := dval_nonneg hd
  unfold sgn
  split <;> omega
theorem trim_dg {l : List Int} (h : Dg l) : Dg (trim l) := fun x hx => h x (by
  rw [trim_take l] at hx; exact List.mem_of_mem_take hx)
theorem trim_top (l : List Int) : Top (trim l) := fun r x e => trim_nil_or l x r e
end Im

def lenV3 : Value → Nat
  | .slice _ m _ => m
  | _ => 0
set_option maxRecDepth 100000 in
set_option maxHeartbeats 1000000 in
theorem trim3_any (l : List Int) (A : Option Addr) (c : Nat) (w : World) (hv : Ints w w.heap.size (.slice A l.length c) l) :
    Calls Tryz.prog 27 #[.slice A l.length c] w fun e w' => e = .returned (.slice A (Im.trim l).length c) ∧ w = w' := by
  obtain ⟨-, hc1, hc2⟩ := ints_cap hv
  have HV := Lib.hid (fun k hk => ints_at hv k hk)
  obtain ⟨N, hN⟩ : ∃ N, l.length = N := ⟨_, rfl⟩
  have HN := Lib.hid hN
  rw [hN] at hc1 ⊢
  clear hv hN
  go_enter Tryz.func27, Tryz.ntmps27
  go_wp2
  go_loop [0] (fun n => ∃ k : Nat, k ≤ N ∧ n = .slice A k c ∧ Hid (∀ j, k ≤ j → j < l.length → l.getD j 0 = 0)) (fun n => lenV3 n)
  case atStart => exact ⟨N, by omega, rfl, Lib.hid fun j h1 h2 => by have := HN.out; omega⟩
  case round =>
    obtain ⟨k, hk, rfl, HZ⟩ := hrel
    by_cases h0 : 0 < k
    · obtain ⟨g, off, rfl, hg, hcell⟩ := HV.out (k - 1) (by have := HN.out; omega)
      have c0 := hcell (k - 1) (by have := HN.out; omega)
      obtain ⟨x, hx⟩ : ∃ x, l.getD (k - 1) 0 = x := ⟨_, rfl⟩
      rw [hx] at c0
      have HX := Lib.hid hx
      obtain ⟨j, rfl⟩ : ∃ j, k = j + 1 := ⟨k - 1, by omega⟩
      rw [Nat.add_sub_cancel] at c0 HX
      have e1 : ((j + 1 : Nat) : Int) - 1 = (j : Int) := by omega
      have i1 : (0 : Int) ≤ (j : Int) := by omega
      have i2 : (j : Int) < (N : Int) := by omega
      have i3 : (0 : Int) < ((j + 1 : Nat) : Int) := by omega
      have i4 : (j : Int) ≤ (c : Int) := by omega
      have i5 : (j : Int) < ((j + 1 : Nat) : Int) := by omega
      clear hcell hx
      by_cases hz : x = 0
      · have t1 : (x == 0) = true := by simpa using hz
        have HZ2 : Hid (∀ i, j ≤ i → i < l.length → l.getD i 0 = 0) := Lib.hid fun i h1 h2 => by
          by_cases e : i = j
          · rw [e, HX.out, hz]
          · exact HZ.out i (by omega) h2
        clear hz
        go_wp2
        go_round
        case rel => exact ⟨j, by omega, by first | rfl | simp, HZ2⟩
        case measure => simp [lenV3]
      · have t1 : (x == 0) = false := by simpa using hz
        have hl : (Im.trim l).length = j + 1 := by
          rw [Im.trim_at l (j + 1) (by have := HN.out; omega) HZ.out (fun _ => by rw [Nat.add_sub_cancel, HX.out]; exact hz), List.length_take]
          have := HN.out; omega
        have HL := Lib.hid hl
        clear hz hl
        go_wp2
        go_ret
        exact ⟨by rw [HL.out]; rfl, rfl⟩
    · obtain rfl : k = 0 := by omega
      have hl : (Im.trim l).length = 0 := by
        rw [Im.trim_at l 0 (by omega) HZ.out (fun h => by omega)]; rfl
      have HL := Lib.hid hl
      clear hl h0
      go_wp2
      go_ret
      exact ⟨by rw [HL.out]; rfl, rfl⟩
end Go.Proofs.YtflpfmkfjccmiaaGreatDoor
