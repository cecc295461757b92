/- Contracts of root's function and of root of magnitudes. -/
import Derived.Test.YtflpfmkfjccmiaaGreatDoorIx
namespace Go.Proofs.YtflpfmkfjccmiaaGreatDoor
open Go.RowKit Go.Shelf

/-- What holds while a group of the root is sought: the boxes of root's variables, and its array but for that group. -/
structure RootJ (w W0 : World) (vm : Value) (Bi N i : Nat) (L : List Int) (W : World) : Prop where
  rm : Row W w.heap.size 45 #[vm]
  rr : Row W (w.heap.size + 1 + 1) 38 #[.slice (some ⟨w.heap.size + 1, 0, none⟩) N N]
  ri : Row W Bi 3 #[.int .i64 (i : Int)]
  arr : ∃ g : Int, Arr W (w.heap.size + 1) (L.set i g)
  bw : Below w.heap.size w W
  kp : Keeps (fun j => j = w.heap.size + 1) W0 W
theorem RootJ.below {w W0 X Y : World} {vm : Value} {Bi N i : Nat} {L : List Int} (h : RootJ w W0 vm Bi N i L X) (hb : Below X.heap.size X Y) : RootJ w W0 vm Bi N i L Y := by
  obtain ⟨g, hg⟩ := h.arr
  exact ⟨h.rm.below hb h.rm.lt, h.rr.below hb h.rr.lt, h.ri.below hb h.ri.lt, ⟨g, hg.below hb hg.lt⟩, h.bw.trans (hb.mono h.bw.size), h.kp.trans (Keeps.of_below hb)⟩
theorem ints_same {X Y : World} {B : Nat} {v : Value} {l : List Int} (h : Ints X B v l) (hh : Y.heap = X.heap) : Ints Y B v l := ints_heap h hh

set_option maxRecDepth 100000 in
set_option maxHeartbeats 1000000 in
theorem root1_any {w W0 : World} {vm : Value} {Bi N i m x : Nat} {L : List Int} (g : Nat) (W : World) (hJ : RootJ w W0 vm Bi N i L W) (hm : Mag w vm m) (hL : L.length = N) (hi : i < N) (hN : N ≤ 200) (hgs : Im.Gs (L.set i (g : Int))) (hv : Im.val (L.set i (g : Int)) = (x : Int)) (hBi : w.heap.size + 2 < Bi) :
    Calls Tryz.prog 66 #[.int .i64 (g : Int), .pointer (some ⟨w.heap.size + 1 + 1, 0, none⟩), .pointer (some ⟨Bi, 0, none⟩), .pointer (some ⟨w.heap.size, 0, none⟩)] W fun e W' => e = .returned (.bool (decide (x * x ≤ m))) ∧ RootJ w W0 vm Bi N i L W' ∧ Keeps (fun j => j = w.heap.size + 1) W W' := by
  obtain ⟨g0, harr⟩ := hJ.arr
  have hput := harr.put i (by rw [List.length_set, hL]; exact hi) (g : Int)
  rw [List.set_set] at hput
  obtain ⟨W1, hW1⟩ : ∃ W1, W.setCell ⟨w.heap.size + 1, i, none⟩ (.int .i64 (g : Int)) = W1 := ⟨_, rfl⟩
  have hbw1 : Below w.heap.size w W1 := by rw [← hW1]; exact hJ.bw.setCell (by dsimp only; omega) _
  have r1 : Row W1 w.heap.size 45 #[vm] := by rw [← hW1]; exact hJ.rm.far (by dsimp only; omega) _
  have r2 : Row W1 (w.heap.size + 1 + 1) 38 #[.slice (some ⟨w.heap.size + 1, 0, none⟩) N N] := by rw [← hW1]; exact hJ.rr.far (by dsimp only; omega) _
  have r3 : Row W1 Bi 3 #[.int .i64 (i : Int)] := by rw [← hW1]; exact hJ.ri.far (by dsimp only; omega) _
  have hkk : Keeps (fun j => j = w.heap.size + 1) W W1 := by rw [← hW1]; exact Keeps.setCell (no := fun j => j = w.heap.size + 1) (p := ⟨w.heap.size + 1, i, none⟩) rfl _
  rw [hW1] at hput
  have hii := hput.ints (c := N) (by rw [List.length_set, hL]; exact Nat.le_refl _) (by unfold maxLen; omega)
  have hlx : (Im.grp x).length ≤ 400 := by
    have := Im.trim_grp _ x hgs hv
    rw [← this]; have := Im.trim_len_le (L.set i (g : Int)); rw [List.length_set, hL] at this; omega
  have ht := fun u (hu : u.heap = W1.heap) => trimmed_any _ (some ⟨w.heap.size + 1, 0, none⟩) N u (by have := (ints_heap hii hu); rw [hu]; exact this)
  have htm := trimmed_ints hii x hgs hv
  have hsq := fun (n : Nat) (u : World) (hu : u.heap = W1.heap) (h : Mag W1 (.slice (some ⟨w.heap.size + 1, 0, none⟩) n N) x) => square_any (.slice (some ⟨w.heap.size + 1, 0, none⟩) n N) x u (by have := ints_heap h hu; unfold Mag; rw [hu]; exact this) hlx
  rw [List.length_set, hL] at ht
  obtain ⟨nt, hnt⟩ : ∃ n, (Im.trim (L.set i (g : Int))).length = n := ⟨_, rfl⟩
  rw [hnt] at ht htm
  have hcm := fun u v (hv : Mag u v (x * x)) (hu : Below W1.heap.size W1 u) => compare_any v vm (x * x) m u hv (hm.next (hbw1.trans (hu.mono hbw1.size)))
  have c1 := hJ.rr.cell 0; have c2 := hJ.ri.cell 0
  have c3 := harr.cell i (by rw [List.length_set, hL]; exact hi)
  have f3 := harr.free i
  have d1 := r2.cell 0; have d2 := r1.cell 0
  simp only [List.getElem?_toArray, List.getElem?_cons_zero] at c1 c2 d1 d2
  have l1 := r2.lt; have l2 := r1.lt
  have i1 : (0 : Int) ≤ (i : Int) := by omega
  have i2 : (i : Int) < (N : Int) := by omega
  have HT := Lib.hid ht; have HS := Lib.hid (fun u (hu : u.heap = W1.heap) => hsq nt u hu htm); have HC := Lib.hid hcm; have HE := Lib.hid (sg_leq (x * x) m); have HW1 := Lib.hid hW1
  have HF := Lib.hid (show ∀ u, Below W1.heap.size W1 u → RootJ w W0 vm Bi N i L u ∧ Keeps (fun j => j = w.heap.size + 1) W u from fun u hu => ⟨⟨r1.below hu r1.lt, r2.below hu r2.lt, r3.below hu r3.lt, ⟨_, hput.below hu hput.lt⟩, hbw1.trans (hu.mono hbw1.size), hJ.kp.trans (hkk.trans (Keeps.of_below hu))⟩, hkk.trans (Keeps.of_below hu)⟩)
  clear hJ harr hput hW1 hbw1 r1 r2 r3 hkk hii hlx ht htm hsq hcm hgs hv hnt hm
  go_enter Tryz.func66, Tryz.ntmps66
  go_wp2
  rw [HW1.out]
  go_region_held3 (fun u => Below W1.heap.size W1 u ∧ u.cell? ⟨w.heap.size + 1 + 1, 0, none⟩ = some (.slice (some ⟨w.heap.size + 1, 0, none⟩) N N) ∧ u.cell? ⟨w.heap.size, 0, none⟩ = some vm) (first | assumption | (exact ⟨Below.drew (Below.refl _ _), d1, d2⟩) | (exact hold2 (by assumption) b5 l1 l2)) (first | (go_at_call 67; ((with_reducible refine Calls.mono (HT.out _ rfl) ?_); rintro e w7 ⟨rfl, rfl⟩)) | (go_at_call 68; ((with_reducible refine Calls.mono (HS.out _ rfl) ?_); unfold MagPost; rintro e w8 ⟨v1, rfl, hm1, b5⟩)) | (go_at_call 56; ((with_reducible refine Calls.mono (HC.out _ _ ?h1 ?h2) ?_); (case h1 => assumption); (case h2 => exact (‹Below W1.heap.size W1 _ ∧ _ ∧ _›).1); rintro e w9 ⟨rfl, b5⟩)))
  all_goals
    go_wp2
    go_ret
    have := HF.out _ (‹Below W1.heap.size W1 _ ∧ _ ∧ _›).1
    exact ⟨by rw [← HE.out]; rfl, this.1, this.2⟩
end Go.Proofs.YtflpfmkfjccmiaaGreatDoor
