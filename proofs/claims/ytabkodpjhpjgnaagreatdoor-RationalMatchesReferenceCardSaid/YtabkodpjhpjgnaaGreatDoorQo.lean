/- Print and Parse. -/
import Derived.Test.YtabkodpjhpjgnaaGreatDoorQn
namespace Go.Proofs.YtabkodpjhpjgnaaGreatDoor
open Go.RowKit Go.Shelf

/-- The text of a fraction. -/
def qtxt (q : Rat) : List UInt8 := if q.den = 1 then Lib.itoa q.num else Lib.itoa q.num ++ 47 :: Lib.itoa ((q.den : Nat) : Int)
theorem qtxt_len {q : Rat} (h : okq q = true) : (qtxt q).length ≤ 700 := by
  have h1 := itoa_len (okq_iff.1 h).1
  have h2 := itoa_len (okq_iff.1 h).2
  unfold qtxt
  split
  · omega
  · rw [List.length_append, List.length_cons]; omega

set_option maxRecDepth 100000 in
set_option maxHeartbeats 1000000 in
theorem print_no (l r : List UInt8) (h : vldR l r = false) : CallT 33 #[rv l r] (.string ⟨#[]⟩) := fun w hw => by
  have hv := valid_r l r
  rw [h] at hv
  have HV := Lib.hid hv; have HT := Lib.hid hw
  have HB := Lib.hid (new_below w (.cells #[strOf l, strOf r] 23))
  clear h hv hw
  unfold rv strOf at *
  generalize bs l = L at *
  generalize bs r = R at *
  go_enter Tryz.func33, Tryz.ntmps33
  go_wp2_with (go_at_call 29; (with_reducible refine Calls.mono (HV.out _ (HT.out.next HB.out)) ?_); rintro e w1 ⟨rfl, hb1⟩; replace HB := Lib.hid (below_to HB.out hb1); clear hb1)
  go_ret
  exact ⟨rfl, HB.out⟩
set_option maxRecDepth 100000 in
set_option maxHeartbeats 1000000 in
theorem print_q (q : Rat) (h : okq q = true) : CallT 33 #[qv q] (strOf (qtxt q)) := fun w hw => by
  have hv := valid_r (Lib.itoa q.num) (Lib.itoa ((q.den : Nat) : Int))
  rw [vldR_q h] at hv
  have HV := Lib.hid hv; have HT := Lib.hid hw
  have t1 : ((bs (Lib.itoa ((q.den : Nat) : Int))).toList == [49]) = decide (q.den = 1) := by rw [txt_one]; exact decide_eq_decide.2 (by omega)
  have l1 : (bs (Lib.itoa q.num)).size ≤ 300 := by rw [bs_size]; exact itoa_len (okq_iff.1 h).1
  have l2 : (bs (Lib.itoa ((q.den : Nat) : Int))).size ≤ 300 := by rw [bs_size]; exact itoa_len (okq_iff.1 h).2
  have HC : Hid (bs (Lib.itoa q.num) ++ (⟨#[47]⟩ : ByteArray) ++ bs (Lib.itoa ((q.den : Nat) : Int)) = bs (Lib.itoa q.num ++ 47 :: Lib.itoa ((q.den : Nat) : Int))) := Lib.hid (by
    rw [show (⟨#[47]⟩ : ByteArray) = bs [47] from rfl, bs_append, bs_append, List.append_assoc]; rfl)
  have hx := Row.new w 23 #[strOf (Lib.itoa q.num), strOf (Lib.itoa ((q.den : Nat) : Int))]
  have HX := Lib.hid hx
  have HB := Lib.hid (new_below w (.cells #[strOf (Lib.itoa q.num), strOf (Lib.itoa ((q.den : Nat) : Int))] 23))
  clear hv hw hx h
  unfold qtxt qv rv strOf at *
  by_cases hd : q.den = 1
  · rw [if_pos hd]
    rw [decide_eq_true hd] at t1
    clear HC l1 l2 hd
    generalize bs (Lib.itoa q.num) = L at *
    generalize bs (Lib.itoa ((q.den : Nat) : Int)) = R at *
    go_enter Tryz.func33, Tryz.ntmps33
    go_wp2_with (go_at_call 29; (with_reducible refine Calls.mono (HV.out _ (HT.out.next HB.out)) ?_); rintro e w1 ⟨rfl, hb1⟩; replace HX := Lib.hid (HX.out.below hb1 HX.out.lt); obtain ⟨x0, x1, -, -⟩ := rat_facts HX.out; replace HB := Lib.hid (below_to HB.out hb1); clear hb1)
    go_ret
    exact ⟨rfl, HB.out⟩
  · rw [if_neg hd]
    rw [decide_eq_false hd] at t1
    clear hd
    generalize bs (Lib.itoa q.num ++ 47 :: Lib.itoa ((q.den : Nat) : Int)) = C at *
    generalize bs (Lib.itoa q.num) = L at *
    generalize bs (Lib.itoa ((q.den : Nat) : Int)) = R at *
    have k1 : ¬ (L.size + (⟨#[47]⟩ : ByteArray).size > 9223372036854775807) := by show ¬ (_ + 1 > _); omega
    have k2 : ¬ (9223372036854775807 < L.size + 1) := by omega
    have k3 : (L ++ (⟨#[47]⟩ : ByteArray)).size = L.size + 1 := by rw [ByteArray.size_append]; rfl
    have k4 : ¬ ((L ++ (⟨#[47]⟩ : ByteArray)).size + R.size > 9223372036854775807) := by rw [k3]; omega
    have k5 : ¬ (9223372036854775807 < L.size + 1 + R.size) := by omega
    clear k3
    go_enter Tryz.func33, Tryz.ntmps33
    go_wp2_with (go_at_call 29; (with_reducible refine Calls.mono (HV.out _ (HT.out.next HB.out)) ?_); rintro e w1 ⟨rfl, hb1⟩; replace HX := Lib.hid (HX.out.below hb1 HX.out.lt); obtain ⟨x0, x1, -, -⟩ := rat_facts HX.out; replace HB := Lib.hid (below_to HB.out hb1); clear hb1)
    rw [HC.out]
    go_ret
    exact ⟨rfl, HB.out⟩
end Go.Proofs.YtabkodpjhpjgnaaGreatDoor
