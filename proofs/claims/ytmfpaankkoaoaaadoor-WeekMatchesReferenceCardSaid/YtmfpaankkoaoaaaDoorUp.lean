/- A text cut in two; readHours. -/
import Derived.Test.YtmfpaankkoaoaaaDoorUo
namespace Go.Proofs.YtmfpaankkoaoaaaDoor
open Go.RowKit Go.Shelf

/-- The variable that strings.Cut reads. -/
def CutT (w : World) : Prop := ∃ m, w.cell? ⟨3, 0, none⟩ = some (.int .i64 m)
theorem CutT.keep {w w' : World} {n : Nat} (h : CutT w) (hb : Below n w w') (hn : 3 < n) : CutT w' := h.imp fun _ hm => (hb.cell (p := ⟨3, 0, none⟩) hn).trans hm
def cut1 (s sep : ByteArray) : ByteArray := ⟨(Lib.cut s.data.toList sep.data.toList).1.toArray⟩
def cut2 (s sep : ByteArray) : ByteArray := ⟨(Lib.cut s.data.toList sep.data.toList).2.1.toArray⟩
def cut3 (s sep : ByteArray) : Bool := (Lib.cut s.data.toList sep.data.toList).2.2
theorem cut_any (s sep : ByteArray) (w : World) (hs : s.size < 4294967281) (ht : CutT w) : Calls Tryd.prog 66 #[.string s, .string sep] w fun e w' => e = .returned (.tuple #[.string (cut1 s sep), .string (cut2 s sep), .bool (cut3 s sep)]) ∧ Below w.heap.size w w' := by
  obtain ⟨m, hm⟩ := ht
  refine (Tryd.strings_Cut s sep m w hs hm).mono ?_
  rintro e w' ⟨rfl, n, rfl⟩
  exact ⟨rfl, belowN (Below.refl _ _) _⟩

def dash : ByteArray := ⟨#[45]⟩
/-- The hours that the text says; 0 and 0 if it says none. -/
def rdH (s : ByteArray) : Int × Int := if hourN (cut1 s dash) < 0 ∨ hourN (cut2 s dash) ≤ hourN (cut1 s dash) then (0, 0) else (hourN (cut1 s dash), hourN (cut2 s dash))
set_option maxHeartbeats 1000000 in
theorem readHours_any (s : ByteArray) (hs : s.size < 4294967281) (w : World) (ht : TabP w) (hc : CutT w) : Calls Tryd.prog 69 #[.string s] w fun e w' => e = .returned (.tuple #[.int .i64 (rdH s).1, .int .i64 (rdH s).2]) ∧ Below w.heap.size w w' := by
  have HT := Lib.hid ht
  have T0 := Lib.hid (cut_any s dash w hs hc)
  have T1 := Lib.hid (fun u hu => hourNumber_any (cut1 s dash) u hu)
  have T2 := Lib.hid (fun u hu => hourNumber_any (cut2 s dash) u hu)
  clear ht hc
  unfold rdH
  obtain ⟨f, hf⟩ : ∃ f, hourN (cut1 s dash) = f := ⟨_, rfl⟩
  obtain ⟨t, h2⟩ : ∃ t, hourN (cut2 s dash) = t := ⟨_, rfl⟩
  rw [hf] at T1 ⊢
  rw [h2] at T2 ⊢
  obtain ⟨A, hA⟩ : ∃ A, cut1 s dash = A := ⟨_, rfl⟩
  obtain ⟨B, hB⟩ : ∃ B, cut2 s dash = B := ⟨_, rfl⟩
  rw [hA] at T0 T1
  rw [hB] at T0 T2
  unfold dash at T0
  clear hf h2 hA hB
  by_cases c1 : f < 0
  · rw [if_pos (.inl c1)]
    go_enter Tryd.func69, Tryd.ntmps69
    go_wp2_with (first | (go_at_call 66; ((with_reducible refine Calls.mono T0.out ?_); rintro e' w1 ⟨rfl, hb1⟩; have HB1 := Lib.hid hb1; clear hb1)) | (go_at_call 80; ((with_reducible refine Calls.mono (T1.out _ (HT.out.next HB1.out)) ?_); clear T1; rintro e' w2 ⟨rfl, hb2⟩; have HB2 := Lib.hid (below_to HB1.out hb2); clear hb2)) | (go_at_call 80; ((with_reducible refine Calls.mono (T2.out _ (HT.out.next HB2.out)) ?_); rintro e' w3 ⟨rfl, hb3⟩; have HB3 := Lib.hid (below_to HB2.out hb3); clear hb3)))
    refine bodyPost_ret (results_tmp2 rfl _ _ _) rfl ?_
    exact ⟨rfl, HB3.out⟩
  · by_cases c2 : t ≤ f
    · rw [if_pos (.inr c2)]
      go_enter Tryd.func69, Tryd.ntmps69
      go_wp2_with (first | (go_at_call 66; ((with_reducible refine Calls.mono T0.out ?_); rintro e' w1 ⟨rfl, hb1⟩; have HB1 := Lib.hid hb1; clear hb1)) | (go_at_call 80; ((with_reducible refine Calls.mono (T1.out _ (HT.out.next HB1.out)) ?_); clear T1; rintro e' w2 ⟨rfl, hb2⟩; have HB2 := Lib.hid (below_to HB1.out hb2); clear hb2)) | (go_at_call 80; ((with_reducible refine Calls.mono (T2.out _ (HT.out.next HB2.out)) ?_); rintro e' w3 ⟨rfl, hb3⟩; have HB3 := Lib.hid (below_to HB2.out hb3); clear hb3)))
      refine bodyPost_ret (results_tmp2 rfl _ _ _) rfl ?_
      exact ⟨rfl, HB3.out⟩
    · rw [if_neg (by rintro (h | h) <;> omega)]
      go_enter Tryd.func69, Tryd.ntmps69
      go_wp2_with (first | (go_at_call 66; ((with_reducible refine Calls.mono T0.out ?_); rintro e' w1 ⟨rfl, hb1⟩; have HB1 := Lib.hid hb1; clear hb1)) | (go_at_call 80; ((with_reducible refine Calls.mono (T1.out _ (HT.out.next HB1.out)) ?_); clear T1; rintro e' w2 ⟨rfl, hb2⟩; have HB2 := Lib.hid (below_to HB1.out hb2); clear hb2)) | (go_at_call 80; ((with_reducible refine Calls.mono (T2.out _ (HT.out.next HB2.out)) ?_); rintro e' w3 ⟨rfl, hb3⟩; have HB3 := Lib.hid (below_to HB2.out hb3); clear hb3)))
      refine bodyPost_ret (results_tmp2 rfl _ _ _) rfl ?_
      exact ⟨rfl, HB3.out⟩
end Go.Proofs.YtmfpaankkoaoaaaDoor
