/- readDays. -/
import Derived.Test.YtmfpaankkoaoaaaDoorUp
namespace Go.Proofs.YtmfpaankkoaoaaaDoor
open Go.RowKit Go.Shelf

theorem dayN_bd (s : ByteArray) : -1 ≤ dayN s ∧ dayN s ≤ 6 := by
  unfold dayN
  cases h : (List.range 7).find? (fun k => decide (dayS k = s)) with
  | none => simp
  | some k =>
    have := List.mem_range.1 (List.mem_of_find?_eq_some h)
    simp; omega
/-- The days that the text says; 0 and 0 if it says none. -/
def rdD (s : ByteArray) : Int × Int :=
  if dayN (cut1 s dash) < 0 then (0, 0)
  else if cut3 s dash = false then (dayN (cut1 s dash), dayN (cut1 s dash) + 1)
  else if dayN (cut2 s dash) + 1 ≤ dayN (cut1 s dash) + 1 then (0, 0)
  else (dayN (cut1 s dash), dayN (cut2 s dash) + 1)
set_option maxHeartbeats 1000000 in
theorem readDays_any (s : ByteArray) (hs : s.size < 4294967281) (w : World) (ht : DayT w) (hc : CutT w) (hg : 0 < w.heap.size) : Calls Tryd.prog 68 #[.string s] w fun e w' => e = .returned (.tuple #[.int .i64 (rdD s).1, .int .i64 (rdD s).2]) ∧ Below w.heap.size w w' := by
  have HT := Lib.hid ht
  have T0 := Lib.hid (cut_any s dash w hs hc)
  have T1 := Lib.hid (fun u hu => dayNumber_any (cut1 s dash) u hu)
  have T2 := Lib.hid (fun u hu => dayNumber_any (cut2 s dash) u hu)
  obtain ⟨b1, b2⟩ := dayN_bd (cut1 s dash)
  obtain ⟨b3, b4⟩ := dayN_bd (cut2 s dash)
  clear ht hc
  unfold rdD
  obtain ⟨f, hf⟩ : ∃ f, dayN (cut1 s dash) = f := ⟨_, rfl⟩
  obtain ⟨t, h2⟩ : ∃ t, dayN (cut2 s dash) = t := ⟨_, rfl⟩
  obtain ⟨more, h3⟩ : ∃ m, cut3 s dash = m := ⟨_, rfl⟩
  rw [hf] at T1 b1 b2 ⊢
  rw [h2] at T2 b3 b4 ⊢
  rw [h3] at T0 ⊢
  obtain ⟨A, hA⟩ : ∃ A, cut1 s dash = A := ⟨_, rfl⟩
  obtain ⟨B, hB⟩ : ∃ B, cut2 s dash = B := ⟨_, rfl⟩
  rw [hA] at T0 T1
  rw [hB] at T0 T2
  unfold dash at T0
  clear hf h2 h3 hA hB
  by_cases c1 : f < 0
  · rw [if_pos c1]
    go_enter Tryd.func68, Tryd.ntmps68
    go_wp2_with (first | (go_at_call 66; ((with_reducible refine Calls.mono T0.out ?_); rintro e' w1 ⟨rfl, hb1⟩; have HB1 := Lib.hid hb1; have HD1 := Lib.hid (HT.out.keep hb1 hg); clear hb1)) | (go_at_call 79; ((with_reducible refine Calls.mono (T1.out _ HD1.out) ?_); clear T1; rintro e' w2 ⟨rfl, rfl⟩)) | (go_at_call 79; ((with_reducible refine Calls.mono (T2.out _ HD1.out) ?_); rintro e' w3 ⟨rfl, rfl⟩)))
    refine bodyPost_ret (results_tmp2 rfl _ _ _) rfl ?_
    exact ⟨rfl, HB1.out⟩
  · rw [if_neg c1]
    cases more with
    | false =>
      rw [if_pos rfl]
      go_enter Tryd.func68, Tryd.ntmps68
      go_wp2_with (first | (go_at_call 66; ((with_reducible refine Calls.mono T0.out ?_); rintro e' w1 ⟨rfl, hb1⟩; have HB1 := Lib.hid hb1; have HD1 := Lib.hid (HT.out.keep hb1 hg); clear hb1)) | (go_at_call 79; ((with_reducible refine Calls.mono (T1.out _ HD1.out) ?_); clear T1; rintro e' w2 ⟨rfl, rfl⟩)) | (go_at_call 79; ((with_reducible refine Calls.mono (T2.out _ HD1.out) ?_); rintro e' w3 ⟨rfl, rfl⟩)))
      refine bodyPost_ret (results_tmp2 rfl _ _ _) rfl ?_
      exact ⟨rfl, HB1.out⟩
    | true =>
      rw [if_neg (by decide)]
      by_cases c2 : t + 1 ≤ f + 1
      · rw [if_pos c2]
        go_enter Tryd.func68, Tryd.ntmps68
        go_wp2_with (first | (go_at_call 66; ((with_reducible refine Calls.mono T0.out ?_); rintro e' w1 ⟨rfl, hb1⟩; have HB1 := Lib.hid hb1; have HD1 := Lib.hid (HT.out.keep hb1 hg); clear hb1)) | (go_at_call 79; ((with_reducible refine Calls.mono (T1.out _ HD1.out) ?_); clear T1; rintro e' w2 ⟨rfl, rfl⟩)) | (go_at_call 79; ((with_reducible refine Calls.mono (T2.out _ HD1.out) ?_); rintro e' w3 ⟨rfl, rfl⟩)))
        refine bodyPost_ret (results_tmp2 rfl _ _ _) rfl ?_
        exact ⟨rfl, HB1.out⟩
      · rw [if_neg c2]
        go_enter Tryd.func68, Tryd.ntmps68
        go_wp2_with (first | (go_at_call 66; ((with_reducible refine Calls.mono T0.out ?_); rintro e' w1 ⟨rfl, hb1⟩; have HB1 := Lib.hid hb1; have HD1 := Lib.hid (HT.out.keep hb1 hg); clear hb1)) | (go_at_call 79; ((with_reducible refine Calls.mono (T1.out _ HD1.out) ?_); clear T1; rintro e' w2 ⟨rfl, rfl⟩)) | (go_at_call 79; ((with_reducible refine Calls.mono (T2.out _ HD1.out) ?_); rintro e' w3 ⟨rfl, rfl⟩)))
        refine bodyPost_ret (results_tmp2 rfl _ _ _) rfl ?_
        exact ⟨rfl, HB1.out⟩
end Go.Proofs.YtmfpaankkoaoaaaDoor
