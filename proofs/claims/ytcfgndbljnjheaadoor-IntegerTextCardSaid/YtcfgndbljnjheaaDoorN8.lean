/- The walk of IntegerText. -/
import Derived.Test.YtcfgndbljnjheaaDoorKi
namespace Go.Proofs.YtcfgndbljnjheaaDoor
open Go.RowKit

set_option maxRecDepth 100000 in
set_option maxHeartbeats 40000000 in
theorem text_walk (n : Int) (s : ByteArray) (w : World) (ht : TabP w) (he : ErrP w) (h0 : -9223372036854775808 ≤ n) (h1 : n ≤ 9223372036854775807) : Calls Tryd.prog 4 #[.int .i64 n, .string s] w fun e w' => e = .returned (.bool true) ∧ Below w.heap.size w w' := by
  have okn := ok_int n h0 h1
  obtain ⟨k, hk⟩ : ∃ k, min s.size 30 = k := ⟨_, rfl⟩
  obtain ⟨l, hl⟩ : ∃ l, (s.extract 0 k).data.toList = l := ⟨_, rfl⟩
  have hp : s.extract 0 k = bs l := by rw [← hl, bs_of]
  have hmn := fun (w : World) => run_min2 (P := Tryd.prog) (w := w) #[3, 3] 3 .i64 .i64 (s.size : Int) 30 (k : Int) (by omega)
  have hsl : ∀ w, (Instr.slice 9 (.string s) none (some (.int .i64 (k : Int))) none).run Tryd.prog w = .ok (.string (bs l)) w := fun w => by
    rw [run_slice_string_h (P := Tryd.prog) w 9 s Tryd.underlying9 .i64 (k : Int) (by omega) (by omega), Int.toNat_natCast, hp]
  have S0 : Hid (CallT 11 #[] (.bool true)) := Lib.hid (sane_c)
  have C1 : Hid (CallT 12 #[.int .i64 n] (strOf (Lib.itoa n))) := Lib.hid (from_c n h0 h1)
  have C2 : Hid (CallT 13 #[strOf (Lib.itoa n)] (.tuple #[.int .i64 n, .int .i64 0])) := Lib.hid (toInt_c n okn h0 h1)
  have C3 : Hid (CallT 19 #[strOf (Lib.itoa n)] (.bool true)) := Lib.hid (val_c n okn)
  obtain ⟨v, hv⟩ : ∃ v, Im.vld l = v := ⟨_, rfl⟩
  cases v with
  | false =>
    have C4 : Hid (CallT 13 #[.string (bs l)] (.tuple #[.int .i64 0, .int .i64 30])) := Lib.hid (toIntb_c l hv)
    have HT := Lib.hid ht
    have HB := Lib.hid (Below.refl w.heap.size w)
    clear ht h0 h1 okn hk hl hp hv
    go_enter Tryd.func4, Tryd.ntmps4
    go_wp2_with (first | (go_at_call 11; (with_reducible refine Calls.mono (S0.out _ (HT.out.next HB.out)) ?_); rintro e w1 ⟨rfl, hb⟩; replace HB := Lib.hid (HB.out.trans (hb.mono HB.out.size)); clear hb) | (go_at_call 12; (with_reducible refine Calls.mono (C1.out _ (HT.out.next HB.out)) ?_); rintro e w1 ⟨rfl, hb⟩; replace HB := Lib.hid (HB.out.trans (hb.mono HB.out.size)); clear hb) | (go_at_call 13; (with_reducible refine Calls.mono (C2.out _ (HT.out.next HB.out)) ?_); rintro e w1 ⟨rfl, hb⟩; replace HB := Lib.hid (HB.out.trans (hb.mono HB.out.size)); clear hb) | (go_at_call 19; (with_reducible refine Calls.mono (C3.out _ (HT.out.next HB.out)) ?_); rintro e w1 ⟨rfl, hb⟩; replace HB := Lib.hid (HB.out.trans (hb.mono HB.out.size)); clear hb) | (go_at_call 13; (with_reducible refine Calls.mono (C4.out _ (HT.out.next HB.out)) ?_); rintro e w1 ⟨rfl, hb⟩; replace HB := Lib.hid (HB.out.trans (hb.mono HB.out.size)); clear hb))
    go_ret
    exact ⟨rfl, HB.out⟩
  | true =>
    obtain ⟨z, hz, hzl⟩ := Im.vld_of l hv
    have okz' : okz z = true := decide_eq_true hzl
    rw [hz] at hsl
    by_cases hr : -9223372036854775808 ≤ z ∧ z ≤ 9223372036854775807
    · have C4 : Hid (CallT 13 #[strOf (Lib.itoa z)] (.tuple #[.int .i64 z, .int .i64 0])) := Lib.hid (toInt_c z okz' hr.1 hr.2)
      have C5 : Hid (CallT 19 #[strOf (Lib.itoa z)] (.bool true)) := Lib.hid (val_c z okz')
      have C6 : Hid (CallT 12 #[.int .i64 z] (strOf (Lib.itoa z))) := Lib.hid (from_c z hr.1 hr.2)
      have HT := Lib.hid ht
      have HB := Lib.hid (Below.refl w.heap.size w)
      clear ht h0 h1 okn hk hl hp hv hz hzl okz' hr
      go_enter Tryd.func4, Tryd.ntmps4
      go_wp2_with (first | (go_at_call 11; (with_reducible refine Calls.mono (S0.out _ (HT.out.next HB.out)) ?_); rintro e w1 ⟨rfl, hb⟩; replace HB := Lib.hid (HB.out.trans (hb.mono HB.out.size)); clear hb) | (go_at_call 12; (with_reducible refine Calls.mono (C1.out _ (HT.out.next HB.out)) ?_); rintro e w1 ⟨rfl, hb⟩; replace HB := Lib.hid (HB.out.trans (hb.mono HB.out.size)); clear hb) | (go_at_call 13; (with_reducible refine Calls.mono (C2.out _ (HT.out.next HB.out)) ?_); rintro e w1 ⟨rfl, hb⟩; replace HB := Lib.hid (HB.out.trans (hb.mono HB.out.size)); clear hb) | (go_at_call 19; (with_reducible refine Calls.mono (C3.out _ (HT.out.next HB.out)) ?_); rintro e w1 ⟨rfl, hb⟩; replace HB := Lib.hid (HB.out.trans (hb.mono HB.out.size)); clear hb) | (go_at_call 13; (with_reducible refine Calls.mono (C4.out _ (HT.out.next HB.out)) ?_); rintro e w1 ⟨rfl, hb⟩; replace HB := Lib.hid (HB.out.trans (hb.mono HB.out.size)); clear hb) | (go_at_call 19; (with_reducible refine Calls.mono (C5.out _ (HT.out.next HB.out)) ?_); rintro e w1 ⟨rfl, hb⟩; replace HB := Lib.hid (HB.out.trans (hb.mono HB.out.size)); clear hb) | (go_at_call 12; (with_reducible refine Calls.mono (C6.out _ (HT.out.next HB.out)) ?_); rintro e w1 ⟨rfl, hb⟩; replace HB := Lib.hid (HB.out.trans (hb.mono HB.out.size)); clear hb))
      go_ret
      exact ⟨rfl, HB.out⟩
    · have C4 := Lib.hid (fun u hu => toInt_out z u okz' hu hr)
      have HE := Lib.hid he
      have HT := Lib.hid ht
      have HB := Lib.hid (Below.refl w.heap.size w)
      clear ht h0 h1 okn hk hl hp hv hz hzl okz' hr he
      go_enter Tryd.func4, Tryd.ntmps4
      go_wp2_with (first | (go_at_call 11; (with_reducible refine Calls.mono (S0.out _ (HT.out.next HB.out)) ?_); rintro e w1 ⟨rfl, hb⟩; replace HB := Lib.hid (HB.out.trans (hb.mono HB.out.size)); clear hb) | (go_at_call 12; (with_reducible refine Calls.mono (C1.out _ (HT.out.next HB.out)) ?_); rintro e w1 ⟨rfl, hb⟩; replace HB := Lib.hid (HB.out.trans (hb.mono HB.out.size)); clear hb) | (go_at_call 13; (with_reducible refine Calls.mono (C2.out _ (HT.out.next HB.out)) ?_); rintro e w1 ⟨rfl, hb⟩; replace HB := Lib.hid (HB.out.trans (hb.mono HB.out.size)); clear hb) | (go_at_call 19; (with_reducible refine Calls.mono (C3.out _ (HT.out.next HB.out)) ?_); rintro e w1 ⟨rfl, hb⟩; replace HB := Lib.hid (HB.out.trans (hb.mono HB.out.size)); clear hb) | (go_at_call 13; (with_reducible refine Calls.mono (C4.out _ (HE.out.next HB.out)) ?_); rintro e w1 ⟨rfl, hb⟩; replace HB := Lib.hid (HB.out.trans (hb.mono HB.out.size)); clear hb))
      go_ret
      exact ⟨rfl, HB.out⟩
end Go.Proofs.YtcfgndbljnjheaaDoor
