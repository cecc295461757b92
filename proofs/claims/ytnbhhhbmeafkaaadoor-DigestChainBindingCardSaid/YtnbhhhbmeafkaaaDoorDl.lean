/- Contract of Root: the root of a list of strings. -/
import Derived.Test.YtnbhhhbmeafkaaaDoorDk
import Derived.Test.YtnbhhhbmeafkaaaDoorDq
import Derived.Deep.RegionWith
namespace Go.Proofs.YtnbhhhbmeafkaaaDoor
open Go.RowKit

/-- A contract that leaves what lay, said of a world further back. -/
theorem calls_on {P : Program} {f : FuncId} {args : Array Value} {w u : World} {v : Value} (hb : Below w.heap.size w u) (h : Calls P f args u fun e u' => e = .returned v ∧ Below u.heap.size u u') :
    Calls P f args u fun e u' => e = .returned v ∧ Below w.heap.size w u' := h.mono fun _ _ ⟨h1, h2⟩ => ⟨h1, hb.trans (h2.mono hb.size)⟩

set_option maxRecDepth 100000 in
set_option maxHeartbeats 1000000 in
theorem root_at (n : Nat) : ∀ (v : Value) (ps : List (List UInt8)) (w : World), ps.length ≤ n → Strs w w.heap.size v ps → (∀ s ∈ ps, s.length ≤ 1000) → TabOk w →
    Calls Tryd.prog 27 #[v] w fun e w' => e = .returned (strOf (Dm.root ps)) ∧ Below w.heap.size w w' := by
  induction n with
  | zero =>
    intro _ ps w hn hv _ ht
    obtain rfl := List.eq_nil_of_length_eq_zero (by omega : ps.length = 0)
    obtain ⟨A, c, rfl, hc1, hc2, hA⟩ := hv
    have hsum := Lib.hid (sum_any [] w (by simp) ht)
    go_enter Tryd.func27, Tryd.ntmps27
    go_wp2_with (go_at_call 13; refine hsum.out.mono ?_; rintro e w' ⟨rfl, hb⟩)
    go_ret
    exact ⟨rfl, hb⟩
  | succ n ih =>
    intro v ps w hn hv hl ht
    by_cases h0 : ps.length ≤ n
    · exact ih v ps w h0 hv hl ht
    obtain ⟨A, c, rfl, hc1, hc2, hA⟩ := hv
    by_cases h1 : ps.length = 1
    · obtain ⟨s, rfl⟩ : ∃ s, ps = [s] := List.length_eq_one_iff.1 h1
      rcases hA with ⟨_, h⟩ | ⟨g, off, rfl, hg, hcell⟩
      · cases h
      have c0 := hcell 0 s rfl
      have hlf := Lib.hid (leaf_any s w (by have := hl s (by simp); omega) ht)
      rw [Nat.add_zero] at c0
      clear ih hcell
      go_enter Tryd.func27, Tryd.ntmps27
      go_wp2_with (go_at_call 15; refine hlf.out.mono ?_; rintro e w' ⟨rfl, hb⟩)
      go_ret
      exact ⟨rfl, hb⟩
    have h2 : 2 ≤ ps.length := by omega
    rcases hA with ⟨_, rfl⟩ | ⟨g, off, rfl, hg, hcell⟩
    · simp at h2
    have hlt := Dm.lft_lt ps.length h2
    have hpos := Dm.lft_pos ps.length
    have hr2 := Dm.root_two ps h2
    obtain ⟨k, hk⟩ : ∃ k, Dm.lft ps.length = k := ⟨_, rfl⟩
    have hh := fun w => half_any ps.length w h2 (by unfold maxLen at hc2; omega)
    rw [hk] at hlt hpos hr2 hh
    have s1 := strs_sub (B := w.heap.size) 0 k hg rfl hcell (by omega) (by omega) hc1 hc2
    have s2 := strs_sub (B := w.heap.size) k ps.length hg rfl hcell (by omega) (by omega) hc1 hc2
    rw [Nat.sub_zero, Nat.sub_zero, List.drop_zero, Nat.add_zero] at s1
    have e2 : (ps.drop k).take (ps.length - k) = ps.drop k := List.take_of_length_le (by rw [List.length_drop]; omega)
    rw [e2] at s2
    have r1 := fun u (hb : Below w.heap.size w u) => calls_on hb (ih _ (ps.take k) u (by rw [List.length_take]; omega) (s1.next hb) (fun s hs => hl s (List.mem_of_mem_take hs)) (ht.next hb))
    have r2 := fun u (hb : Below w.heap.size w u) => calls_on hb (ih _ (ps.drop k) u (by rw [List.length_drop]; omega) (s2.next hb) (fun s hs => hl s (List.mem_of_mem_drop hs)) (ht.next hb))
    have nd := fun u (hb : Below w.heap.size w u) => calls_on hb (node_any (Dm.root (ps.take k)) (Dm.root (ps.drop k)) u (by rw [Dm.root_len, Dm.root_len]; omega) (ht.next hb))
    obtain ⟨x1, hx1⟩ : ∃ x, Dm.root (ps.take k) = x := ⟨_, rfl⟩
    obtain ⟨x2, hx2⟩ : ∃ x, Dm.root (ps.drop k) = x := ⟨_, rfl⟩
    rw [hx1] at r1 nd hr2; rw [hx2] at r2 nd hr2
    obtain ⟨m, hm⟩ : ∃ m, ps.length = m := ⟨_, rfl⟩
    rw [hm] at hh h2 hc1 hlt r2 ⊢
    have R1 := Lib.hid r1; have R2 := Lib.hid r2; have ND := Lib.hid nd; have HR := Lib.hid hr2; have HH := Lib.hid hh
    unfold maxLen at hc2
    clear r1 r2 nd hr2 hh hx1 hx2 hm s1 s2 hcell hl ih hk e2
    have i1 : (0 : Int) ≤ (k : Int) := by omega
    have i2 : (k : Int) ≤ (c : Int) := by omega
    have i3 : (k : Int) ≤ (m : Int) := by omega
    have i4 : ¬ c = k := by omega
    have i5 : ((m : Int) == 0) = false := by rw [beq_eq_false_iff_ne]; omega
    have i6 : ((m : Int) == 1) = false := by rw [beq_eq_false_iff_ne]; omega
    clear h0 h1 hn
    go_enter Tryd.func27, Tryd.ntmps27
    go_wp2_with (go_at_call 49; refine (HH.out _).mono ?_; rintro e w' ⟨rfl, rfl⟩)
    have hb0 : Below w.heap.size w w := Below.refl _ _
    go_region_with (first | (go_at_call 27; ((with_reducible refine Calls.mono (R1.out _ ?hb1) ?_); (case hb1 => (first | assumption | exact Below.drew (by assumption))); rintro e w1 ⟨rfl, hb1⟩)) | (go_at_call 27; ((with_reducible refine Calls.mono (R2.out _ ?hb2) ?_); (case hb2 => (first | assumption | exact Below.drew (by assumption))); rintro e w2 ⟨rfl, hb2⟩)) | (go_at_call 17; ((with_reducible refine Calls.mono (ND.out _ ?hb3) ?_); (case hb3 => (first | assumption | exact Below.drew (by assumption))); rintro e w3 ⟨rfl, hb3⟩)))
    all_goals
      go_wp2
      go_ret
      exact ⟨by rw [HR.out]; rfl, hb3⟩
theorem root_any (v : Value) (ps : List (List UInt8)) (w : World) (hv : Strs w w.heap.size v ps) (hl : ∀ s ∈ ps, s.length ≤ 1000) (ht : TabOk w) :
    Calls Tryd.prog 27 #[v] w fun e w' => e = .returned (strOf (Dm.root ps)) ∧ Below w.heap.size w w' := root_at ps.length v ps w (Nat.le_refl _) hv hl ht
end Go.Proofs.YtnbhhhbmeafkaaaDoor
