/- WireSequence returns true for every input, its arguments as they were: the row, and its card, tied to the program's text. Conditions: none beyond the row's own. -/
import Derived.Test.YtihifbhfgdifeaaDoorKit
import Derived.Test.YtihifbhfgdifeaaDoorWm8
import Derived.SliceStrings
import Derived.Test.YtihifbhfgdifeaaDoorCards
import Derived.SevenTiedAt
namespace Go.Proofs.YtihifbhfgdifeaaDoor
open Go.ChangeShapes Go.WideShapes Go.ChangeAt Go.WideMaps Go.WideElems Go.RowKit
open Go.ChangeMaps (open_string shut_string)

theorem cInt : Tryd.prog.cellsOf 3 = 1 := by kernel_rfl
theorem cStr : Tryd.prog.cellsOf 9 = 1 := by kernel_rfl
theorem strs_at {w : World} {a : Addr} {zs : List ByteArray} (h : ∀ i, i < zs.length → w.cell? (a.add i) = some (.string (zs.getD i ByteArray.empty))) (hp : 0 < zs.length) :
    ∃ b off, a = ⟨b, off, none⟩ ∧ ∀ j, j < zs.length → w.cell? ⟨b, off + j, none⟩ = some (.string (zs.getD j ByteArray.empty)) := by
  obtain ⟨b, off, spot⟩ := a
  have hspot : spot = none := by simpa [Addr.add] using World.cell?_spot (h 0 hp)
  subst hspot
  exact ⟨b, off, rfl, fun j hj => by rw [← Go.WideShapes.add_plain]; exact h j hj⟩
theorem getD_mem {α : Type} (l : List α) (i : Nat) (d : α) (h : i < l.length) : l.getD i d ∈ l := by
  rw [List.getD_eq_getElem?_getD, List.getElem?_eq_getElem h]
  exact List.getElem_mem h

set_option maxRecDepth 100000 in
theorem wireSequence_lifted (os : Os) (started : os.Started) (H : Type) (enc : TypeId × Value → H) :
    ReturnsInHanded {} Tryd.checked os 6 .any (fun w args => (Rows.wireSequenceSpec.pre enc Tryd.prog Tryd.f6 [] false w args ∧ laidMetH Tryd.prog tabLaid w) ∧ sizedMet enc Tryd.prog Tryd.f6 (OpenSpec.ofChange Rows.wireSequenceSpec) false w args)
      (Rows.wireSequenceSpec.post enc Tryd.prog Tryd.f6 false true false false) := by
  refine returnsInHanded_of_change_and (C := Tryd.checked) (X := fun w _ => laidMetH Tryd.prog tabLaid w) (fun _ _ _ hh h => h.of_heap hh) own started (by kernel_rfl) Tryd.func6
    (ChangeSpec.witness_shaped (enc := enc) (C := Tryd.checked) (os := os) (X := fun w _ => laidMetH Tryd.prog tabLaid w) false (World.doorLaid Tryd.prog 400 os) #[.slice none 0 0, .slice none 0 0] 8 rfl (World.shaped_of_RefB (by kernel_rfl) (by kernel_rfl)) (by kernel_rfl) (by kernel_rfl) (by kernel_rfl) (door_met os _)) ?_
  intro W base args ds gs before hval0 hW _ _ hL _
  have hval : ∀ (j : Nat) t v, Tryd.f6.params[j]? = some t → args[j]? = some v → Value.okWide Tryd.prog W .any base t v := hval0
  have hW' := hW
  obtain ⟨p, q, hA0, hV, rfl, _, _⟩ := hW
  have hA : DataW.TrodAll enc Tryd.prog W 0 (fun _ => true) true Tryd.f6.params.toList args.toList ds p := hA0
  rw [Tryd.params6] at hA hval
  obtain ⟨v0, vs0, d0, ds0, p0, q0, hargs, rfl, rfl, h0, r0⟩ := trodAll_cons hA
  obtain ⟨v1, vs1, d1, ds1, p1, q1, rfl, rfl, rfl, h1, r1⟩ := trodAll_cons r0
  obtain ⟨rfl, rfl, rfl⟩ := trodAll_nil r1
  obtain rfl : args = #[v0, v1] := by cases args; simp_all
  obtain ⟨a0, l1, c1, rfl⟩ := okWide_slice Tryd.underlying24 (hval 0 24 v0 rfl rfl)
  obtain ⟨a1, l2, c2, rfl⟩ := okWide_slice Tryd.underlying40 (hval 1 40 v1 rfl rfl)
  clear hA0 hval0
  have fin : ∀ e W', e = Ending.returned (.bool true) ∧ Below W.heap.size W W' → ∃ v, e = Ending.returned v ∧ Rows.wireSequenceSpec.post enc Tryd.prog Tryd.f6 false true false false W #[.slice a0 l1 c1, .slice a1 l2 c2] v W' := fun e W' ⟨he, hb⟩ => by
    subst he
    exact ⟨_, rfl, law_post laidOut rfl (by rw [Tryd.params6]; decide +kernel) hW' (fun _ _ => trodAll_mk1 (shut_bool Tryd.underlying4 _)) rfl rfl hb⟩
  by_cases hz : l1 = 0 ∨ l2 = 0
  · exact (seq_zero a0 a1 l1 c1 l2 c2 W (tab_of_laid hL) hz).mono fin
  · obtain ⟨f0, e0⟩ := h0
    obtain ⟨f1, e1⟩ := h1
    rcases open_ints Tryd.underlying24 Tryd.underlying3 cInt e0 with ⟨hcs, _⟩ | ⟨a, len, cap, zs, hcs, _, hl, hm, hlen, _, hcell, hwf⟩
    · simp [Value.cells] at hcs; omega
    rcases open_strings Tryd.underlying40 Tryd.underlying9 cStr e1 with ⟨hcs2, _⟩ | ⟨a', len', cap', ss, hcs2, _, hl2, hm2, hlen2, _, hcell2, hws⟩
    · simp [Value.cells] at hcs2; omega
    simp only [Value.cells, List.cons.injEq, Value.slice.injEq, and_true] at hcs hcs2
    obtain ⟨rfl, rfl, rfl⟩ := hcs
    obtain ⟨rfl, rfl, rfl⟩ := hcs2
    rw [if_pos rfl] at hlen hlen2
    obtain ⟨b, off, rfl, hc⟩ := ints_at hcell (by omega)
    obtain ⟨b', off', rfl, hc'⟩ := strs_at hcell2 (by omega)
    have g1 := World.block_lt_of_cell? W _ (hc 0 (by omega))
    have g2 := World.block_lt_of_cell? W _ (hc' 0 (by omega))
    refine (seq_walk b off l1 c1 b' off' l2 c2 (fun i => zs.getD i 0) (fun i => ss.getD i ByteArray.empty) W (tab_of_laid hL) (by omega) (by omega) (by omega) (by omega) g1 g2 (fun i hi => ⟨hc i (by omega), ?_⟩) (fun i hi => ⟨hc' i (by omega), ?_⟩)).mono fin
    · have := hwf _ (getD_mem zs i 0 (by omega))
      simp only [Lit.wf, Bool.and_eq_true, decide_eq_true_eq] at this
      exact this
    · exact hws _ (getD_mem ss i _ (by omega))

theorem wireSequence_row : Rows.WireSequenceSaid :=
  OpenClaim.holds_of_wide 6 Tryd.f6 rfl rfl rfl rfl rfl rfl rfl ⟨rfl, rfl, rfl, rfl, rfl⟩ rfl rfl rfl rfl rfl (by kernel_rfl) Tryd.func6 (by kernel_rfl)
    (of_decide_eq_true (by kernel_rfl)) (by unfold Func.isWrapper; first | (rw [if_pos (by decide +kernel)]; kernel_rfl) | (rw [if_neg (by decide +kernel)]; exact ⟨rfl, rfl⟩))
    (fun os started H enc _ => wireSequence_lifted os started H enc)

theorem wireSequence_card : Rows.WireSequenceCardSaid :=
  Claim7.holds_tied_plain_at .later _ _ _ _ _
    wireSequence_row (fun _ h => by cases h) (by kernel_rfl) (fun _ h => by cases h) wireSequence_row_tie rfl ⟨rfl, rfl⟩ (by kernel_rfl) rfl
    (fun f fn hf hfn => by
      obtain rfl : f = 6 := Option.some.inj ((show Tryd.prog.funcNamed "aircheck/airchecklaw01.WireSequence" = some 6 by kernel_rfl).symm.trans hf) |>.symm
      obtain rfl : fn = Tryd.f6 := (Option.some.inj (Tryd.func6.symm.trans hfn)).symm
      exact ⟨by kernel_rfl, fun j t ht => by
        rw [Tryd.params6] at ht
        have hm : t ∈ [24, 40] := by simpa using Array.mem_of_getElem? ht
        have hall : ([24, 40].all fun u => !Tryd.prog.wantsStandIn u) = true := by kernel_rfl
        exact (show Tryd.prog.wantsStandIn t = false by simpa using List.all_eq_true.1 hall t hm)⟩)
    (by kernel_rfl)
#print axioms wireSequence_card
end Go.Proofs.YtihifbhfgdifeaaDoor
