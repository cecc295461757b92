/- Closed facts that sane asks for. -/
import Derived.Test.YtmfpaankkoaoaaaDoorVp
import Derived.BigQuiet
namespace Go.Proofs.YtmfpaankkoaoaaaDoor
open Go.RowKit Go.Shelf

def wkS : List Int := [787392, 787392, 787392, 787392, 787392, 3840, 0]
def tx1 : ByteArray := ⟨#[109, 111, 110, 45, 102, 114, 105, 32, 54, 45, 49, 48, 32, 49, 56, 45, 50, 48, 59, 32, 115, 97, 116, 32, 56, 45, 49, 50]⟩
def tx2 : ByteArray := ⟨#[109, 111, 110, 32, 54, 45, 49, 48, 59, 32, 116, 117, 101, 32, 54, 45, 49, 48]⟩
def tx3 : ByteArray := ⟨#[109, 111, 110, 32, 54, 45, 56, 32, 56, 45, 49, 48]⟩
theorem k_valid : validW wkS = true := by decide +kernel
theorem k_in1 : inW wkS 21600 = true := by decide +kernel
theorem k_in2 : inW wkS 36000 = false := by decide +kernel
theorem k_n1 : nextV wkS 36000 = (64800, true) := by decide +kernel
theorem k_n2 : nextV wkS 417600 = (460800, true) := by decide +kernel
theorem k_n3 : nextV zeroW 0 = (0, false) := by decide +kernel
theorem k_sps : spsV wkS 30000 70000 = ([(30000, 36000), (64800, 70000)], 0) := by decide +kernel
theorem k_sum : sumL (pcs wkS 0 604800) = 122400 := by decide +kernel
theorem k_print : printV wkS = (tx1, 0) := by decide +kernel
theorem k_p1 : parseV tx1 = (wkS, 2, 0) := by decide +kernel
theorem k_p2 : parseV tx2 = (zeroW, 1, 60) := by decide +kernel
theorem k_p3 : parseV tx3 = (zeroW, 0, 60) := by decide +kernel

set_option maxRecDepth 100000 in
set_option maxHeartbeats 4000000 in
theorem same_eq (x : List (Int × Int)) (v u : Value) (w : World) (hv : Recs enc2 2 w w.heap.size v x) (hu : Recs enc2 2 w w.heap.size u x) :
    Calls Tryd.prog 18 #[v, u] w fun e w' => e = .returned (.bool true) ∧ Below w.heap.size w w' := by
  obtain ⟨A, c, e, -⟩ := id hv
  subst e
  obtain ⟨A2, c2, e, -⟩ := id hu
  subst e
  obtain ⟨-, hc1, hc2⟩ := recs_cap hv
  have HV := Lib.hid (fun k hk => recs_at hv k hk)
  have HU := Lib.hid (fun k hk => recs_at hu k hk)
  obtain ⟨N, hN⟩ : ∃ N, x.length = N := ⟨_, rfl⟩
  have HN := Lib.hid hN
  rw [hN] at hc1 ⊢
  clear hv hu hN
  go_enter Tryd.func18, Tryd.ntmps18
  go_wp2
  go_loopw [5] (fun i wr => ∃ k : Nat, k ≤ N ∧ i = .int .i64 (k : Int) ∧ Below w.heap.size w wr) (fun i _ => N - (intOf i).toNat)
  case atStart => exact ⟨0, by omega, rfl, Below.refl _ _⟩
  case round =>
    obtain ⟨k, hk, rfl, hbw⟩ := hrel
    by_cases hlt : k < N
    · have hkl : k < x.length := by have := HN.out; omega
      obtain ⟨g, off, rfl, hg, hcell⟩ := HV.out k hkl
      obtain ⟨g2, off2, rfl, hg2, hcell2⟩ := HU.out k hkl
      obtain ⟨a0, a1⟩ := cells2 hcell k hkl
      obtain ⟨b0, b1⟩ := cells2 hcell2 k hkl
      rw [← hbw.cell (p := ⟨g, off + k * 2, none⟩) hg] at a0
      rw [← hbw.cell (p := ⟨g, off + k * 2 + 1, none⟩) hg] at a1
      rw [← hbw.cell (p := ⟨g2, off2 + k * 2, none⟩) hg2] at b0
      rw [← hbw.cell (p := ⟨g2, off2 + k * 2 + 1, none⟩) hg2] at b1
      obtain ⟨y, hy⟩ : ∃ y, x[k] = y := ⟨_, rfl⟩
      rw [hy] at a0 a1 b0 b1
      obtain ⟨p, q⟩ := y
      dsimp only at a0 a1 b0 b1
      have j1 : (k : Int) < (N : Int) := by omega
      have j2 : (0 : Int) ≤ (k : Int) := by omega
      have j3 : ¬ (k : Int) < 0 := by omega
      clear hcell hcell2
      go_wp2
      go_quiet (fail)
      go_wp2
      go_roundw
      case rel => exact ⟨k + 1, by omega, by go_num, belowN hbw _⟩
      case measure => simp [intOf]; omega
    · have j1 : decide ((k : Int) < (N : Int)) = false := decide_eq_false (by omega)
      go_wp2
      go_ret
      exact ⟨rfl, hbw⟩
end Go.Proofs.YtmfpaankkoaoaaaDoor
