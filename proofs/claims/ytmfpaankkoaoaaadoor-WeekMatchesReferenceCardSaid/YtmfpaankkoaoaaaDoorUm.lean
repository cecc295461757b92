/- Small contracts of the texts: hours. -/
import Derived.Lib.SmallJoins
import Derived.Lib.AppendIntMem
import Derived.Test.YtmfpaankkoaoaaaDoorUh
import Derived.Test.YtmfpaankkoaoaaaDoorShelf
namespace Go.Proofs.YtmfpaankkoaoaaaDoor
open Go.RowKit Go.Shelf

/-- The table of strconv stands. -/
def TabP (w : World) : Prop := Lib.TabIs Tryd.prog w "internal/strconv.uint64pow10" .u64 Lib.pow10Tab
theorem TabP.next {w w' : World} (h : TabP w) (hb : Below w.heap.size w w') : TabP w' :=
  Joins.var_stays (g := 4) (by kernel_rfl) h hb (Nat.le_refl _)
/-- The decimal text. -/
def itoaB (k : Nat) : ByteArray := ⟨(Lib.itoa (k : Int)).toArray⟩
theorem itoaB_size (k : Nat) (h : k ≤ 25) : (itoaB k).size ≤ 2 := by
  have hh : ∀ k : Fin 26, (itoaB k.val).size ≤ 2 := by decide +kernel
  exact hh ⟨k, by omega⟩
theorem itoa_any (k : Nat) (h1 : k ≤ 9223372036854775807) (w : World) (ht : TabP w) :
    Calls Tryd.prog 75 #[.int .i64 (k : Int)] w fun e w' => e = .returned (.string (itoaB k)) ∧ Below w.heap.size w w' := by
  refine (Tryd.strconv_Itoa (k : Int) (by omega) (by omega) w ht).mono ?_
  rintro e w' ⟨rfl, n, os, rfl⟩
  exact ⟨rfl, Lib.below_grow _ w (Nat.le_refl _) n os⟩

theorem str_eqb (a b : ByteArray) : (a.toList == b.toList) = decide (a = b) := by
  by_cases h : a = b
  · subst h; simp
  · rw [decide_eq_false h, ByteArray.toList_eq, ByteArray.toList_eq]
    refine beq_eq_false_iff_ne.2 fun h2 => h ?_
    exact ByteArray.ext (Array.toList_inj.1 h2)
/-- The hour whose number the text is; -1 if it is none. -/
def hourN (s : ByteArray) : Int := ((List.range 25).find? (fun k => decide (itoaB k = s))).elim (-1) (fun k => (k : Int))
theorem hourN_some {s : ByteArray} {k : Nat} (hk : k < 25) (h : itoaB k = s) (hb : ∀ j, j < k → itoaB j ≠ s) : hourN s = (k : Int) := by
  unfold hourN
  rw [List.find?_range_eq_some.2 ⟨by simpa using h, by simpa using hk, fun j hj => by simpa using hb j hj⟩]
  rfl
theorem hourN_none {s : ByteArray} (hb : ∀ j, j < 25 → itoaB j ≠ s) : hourN s = -1 := by
  unfold hourN
  rw [List.find?_range_eq_none.2 (fun j hj => by simpa using hb j hj)]
  rfl
set_option maxHeartbeats 1000000 in
theorem hourNumber_any (s : ByteArray) (w : World) (ht : TabP w) : Calls Tryd.prog 80 #[.string s] w fun e w' => e = .returned (.int .i64 (hourN s)) ∧ Below w.heap.size w w' := by
  have HT := Lib.hid ht
  have HB := Lib.hid (Below.refl w.heap.size w)
  clear ht
  go_enter Tryd.func80, Tryd.ntmps80
  go_wp2
  go_loopw [3, 4] (fun _ i wr => ∃ k : Nat, k ≤ 25 ∧ i = .int .i64 (k : Int) ∧ Hid (∀ j, j < k → itoaB j ≠ s) ∧ Hid (Below w.heap.size w wr)) (fun _ i _ => 25 - (intOf i).toNat)
  case atStart => exact ⟨0, by omega, rfl, Lib.hid (fun j hj => absurd hj (Nat.not_lt_zero _)), HB⟩
  case round =>
    obtain ⟨k, hk, rfl, HN, HBW⟩ := hrel
    have i1 : (0 : Int) ≤ (k : Int) := by omega
    by_cases hlt : k < 25
    · have i2 : (k : Int) < 25 := by omega
      have T1 := Lib.hid (itoa_any k (by omega) wr (HT.out.next HBW.out))
      by_cases he : itoaB k = s
      · have HE := Lib.hid (hourN_some hlt he HN.out)
        have t1 : ((itoaB k).toList == s.toList) = true := by rw [str_eqb]; exact decide_eq_true he
        clear he
        obtain ⟨b, hb⟩ : ∃ b, itoaB k = b := ⟨_, rfl⟩
        rw [hb] at T1 t1
        go_wp2_with (go_at_call 75; ((with_reducible refine Calls.mono T1.out ?_); rintro e' w1 ⟨rfl, hb1⟩; have HB1 := Lib.hid hb1; clear hb1))
        go_ret
        exact ⟨by rw [HE.out]; rfl, HBW.out.trans (HB1.out.mono HBW.out.size)⟩
      · have HE := Lib.hid he
        have t1 : ((itoaB k).toList == s.toList) = false := by rw [str_eqb]; exact decide_eq_false he
        clear he
        obtain ⟨b, hb⟩ : ∃ b, itoaB k = b := ⟨_, rfl⟩
        rw [hb] at T1 t1
        have Hb := Lib.hid hb
        clear hb
        go_wp2_with (go_at_call 75; ((with_reducible refine Calls.mono T1.out ?_); rintro e' w1 ⟨rfl, hb1⟩; have HB1 := Lib.hid hb1; clear hb1))
        go_roundw
        case rel => exact ⟨k + 1, by omega, by go_num, Lib.hid (fun j hj => if h : j = k then by rw [h]; exact HE.out else HN.out j (by omega)), Lib.hid (HBW.out.trans (HB1.out.mono HBW.out.size))⟩
        case measure => simp [intOf]; omega
    · obtain rfl : k = 25 := by omega
      have HE := Lib.hid (hourN_none HN.out)
      go_wp2
      go_ret
      exact ⟨by rw [HE.out]; rfl, HBW.out⟩
set_option maxHeartbeats 400000 in
theorem writeHours_any (a b : Nat) (ha : a ≤ 25) (hb : b ≤ 25) (w : World) (ht : TabP w) : Calls Tryd.prog 59 #[.int .i64 (a : Int), .int .i64 (b : Int)] w fun e w' => e = .returned (.string (itoaB a ++ ⟨#[45]⟩ ++ itoaB b)) ∧ Below w.heap.size w w' := by
  have HT := Lib.hid ht
  have T1 := Lib.hid (fun u hu => itoa_any a (by omega) u hu)
  have T2 := Lib.hid (fun u hu => itoa_any b (by omega) u hu)
  have z1 := itoaB_size a ha
  have z2 := itoaB_size b hb
  clear ht
  go_enter Tryd.func59, Tryd.ntmps59
  go_wp2_with (first | (go_at_call 75; ((with_reducible refine Calls.mono (T1.out _ HT.out) ?_); clear T1; rintro e' w1 ⟨rfl, hb1⟩; have HB1 := Lib.hid hb1; clear hb1)) | (go_at_call 75; ((with_reducible refine Calls.mono (T2.out _ (HT.out.next HB1.out)) ?_); rintro e' w2 ⟨rfl, hb2⟩; have HB2 := Lib.hid hb2; clear hb2)))
  go_ret
  exact ⟨rfl, HB1.out.trans (HB2.out.mono HB1.out.size)⟩
end Go.Proofs.YtmfpaankkoaoaaaDoor
