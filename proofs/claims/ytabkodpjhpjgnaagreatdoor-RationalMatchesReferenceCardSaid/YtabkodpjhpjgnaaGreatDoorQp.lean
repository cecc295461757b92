/- Parse: it accepts just the texts of fractions. -/
import Derived.Test.YtabkodpjhpjgnaaGreatDoorQo
namespace Go.Proofs.YtabkodpjhpjgnaaGreatDoor
open Go.RowKit Go.Shelf

set_option maxRecDepth 100000 in
set_option maxHeartbeats 2000000 in
theorem parse_walk (found f g : Bool) (L N D S T P : ByteArray) (er : Int) (w : World) (ht : TabP w)
    (hc : ∀ u, TabP u → Calls Tryz.prog 65 #[.string L, .string ⟨#[47]⟩] u fun e w' => e = .returned (.tuple #[.string N, .string D, .bool found]) ∧ Below u.heap.size u w')
    (hm : CallT 27 #[.string N, .string (if found = true then D else ⟨#[49]⟩)] (.tuple #[rvB S T, .int .i64 er])) (hf : decide (er = 0) = f)
    (hp : f = true → CallT 33 #[rvB S T] (.string P)) (hg : (P.toList == L.toList) = g) :
    Calls Tryz.prog 34 #[.string L] w (BuildP (f && g) (rvB S T) w) := by
  have HC := Lib.hid hc; have HT := Lib.hid ht
  have ho := Row.new w 23 #[.string ⟨#[]⟩, .string ⟨#[]⟩]
  have HO := Lib.hid ho
  have HB := Lib.hid (new_below w (.cells #[.string ⟨#[]⟩, .string ⟨#[]⟩] 23))
  have hlt : w.heap.size < w.heap.size + 1 := by omega
  clear hc ht ho
  obtain ⟨E, hE⟩ : ∃ E, (if found = true then D else ⟨#[49]⟩) = E := ⟨_, rfl⟩
  rw [hE] at hm
  have HM := Lib.hid hm
  clear hm
  cases f with
  | false =>
    have k1 : (er != 0) = true := by simpa using hf
    cases found
    all_goals
      rw [Bool.false_and]
      simp at hE
      subst hE
      clear hp hg hf
      go_enter Tryz.func34, Tryz.ntmps34
      go_wp2_with (first | (go_at_call 65; (with_reducible refine Calls.mono (HC.out _ (HT.out.next HB.out)) ?_); rintro e w1 ⟨rfl, hb1⟩; replace HO := Lib.hid (HO.out.below hb1 HO.out.lt); replace HB := Lib.hid (below_to HB.out hb1); clear hb1) | (go_at_call 27; (with_reducible refine Calls.mono (HM.out _ (HT.out.next HB.out)) ?_); rintro e w2 ⟨rfl, hb1⟩; replace HO := Lib.hid ((HO.out.below hb1 HO.out.lt).alloc (.cells #[.string S, .string T] 23)); replace HB := Lib.hid (below_to (below_to HB.out hb1) (new_below _ (.cells #[.string S, .string T] 23))); obtain ⟨o0, o1, f0, f1⟩ := rat_facts HO.out; have hz2 := HO.out.lt; simp only [World.size_alloc] at hz2; clear hb1))
      refine bodyPost_ret (results_rat_tmp rfl _ _ w.heap.size _ _ rfl (rat_row HO.out)) rfl ?_
      exact ⟨_, _, _, rfl, .inr ⟨rfl, rfl, rfl, rfl⟩, (HB.out.setCell (by dsimp only; omega) _).setCell (by dsimp only; omega) _⟩
  | true =>
    have k1 : (er != 0) = false := by simpa using hf
    have k0 : er = 0 := of_decide_eq_true hf
    have HP := Lib.hid (hp rfl)
    cases found
    all_goals
      cases g
      all_goals
        first | rw [Bool.true_and] | skip
        simp at hE
        subst hE
        have K0 := Lib.hid k0
        clear hp hf k0
        go_enter Tryz.func34, Tryz.ntmps34
        go_wp2_with (first | (go_at_call 65; (with_reducible refine Calls.mono (HC.out _ (HT.out.next HB.out)) ?_); rintro e w1 ⟨rfl, hb1⟩; replace HO := Lib.hid (HO.out.below hb1 HO.out.lt); replace HB := Lib.hid (below_to HB.out hb1); clear hb1) | (go_at_call 27; (with_reducible refine Calls.mono (HM.out _ (HT.out.next HB.out)) ?_); rintro e w2 ⟨rfl, hb1⟩; have HR := Lib.hid (Row.new w2 23 #[.string S, .string T]); replace HO := Lib.hid ((HO.out.below hb1 HO.out.lt).alloc (.cells #[.string S, .string T] 23)); replace HB := Lib.hid (below_to (below_to HB.out hb1) (new_below _ (.cells #[.string S, .string T] 23))); clear hb1) | (go_at_call 33; (with_reducible refine Calls.mono (HP.out _ (HT.out.next HB.out)) ?_); rintro e w3 ⟨rfl, hb1⟩; replace HO := Lib.hid (HO.out.below hb1 HO.out.lt); replace HR := Lib.hid (HR.out.below hb1 HR.out.lt); replace HB := Lib.hid (below_to HB.out hb1); obtain ⟨x0, x1, -, -⟩ := rat_facts HR.out; obtain ⟨o0, o1, f0, f1⟩ := rat_facts HO.out; clear hb1))
        refine bodyPost_ret (results_rat_tmp rfl _ _ w.heap.size _ _ rfl (rat_row HO.out)) rfl ?_
        first | exact ⟨_, _, _, rfl, .inr ⟨rfl, rfl, rfl, rfl⟩, (HB.out.setCell (by dsimp only; omega) _).setCell (by dsimp only; omega) _⟩ | exact ⟨_, _, _, rfl, .inl ⟨rfl, rfl, rfl⟩, (HB.out.setCell (by dsimp only; omega) _).setCell (by dsimp only; omega) _⟩
end Go.Proofs.YtabkodpjhpjgnaaGreatDoor
