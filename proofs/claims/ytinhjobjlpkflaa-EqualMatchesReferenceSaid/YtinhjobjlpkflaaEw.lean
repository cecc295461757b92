/- The law's greatest. -/
import Derived.Test.YtinhjobjlpkflaaEv
namespace Go.Proofs.Ytinhjobjlpkflaa
open Go.RowKit

set_option maxRecDepth 100000 in
set_option maxHeartbeats 4000000 in
theorem greatest_any (l : List Int) (A : Option Addr) (n c : Nat) (w : World) (hr : Recs enc1 1 w w.heap.size (.slice A n c) l) :
    Calls Try.prog 28 #[.slice A n c] w fun e w' => e = .returned (.int .i64 (greatL l)) ∧ w = w' := by
  obtain ⟨hn, hc1, hc2⟩ := recs_cap hr
  have HR := Lib.hid hr
  have HN := Lib.hid hn
  have hn9 : n ≤ 9223372036854775807 := by omega
  clear hr hn
  go_enter Try.func28, Try.ntmps28
  go_wp2
  go_loop [3, 4] (fun s j => ∃ k : Nat, j = .int .i64 (k : Int) ∧ k ≤ n ∧ s = .int .i64 (greatL (l.take k))) (fun _ j => n - (intOf j).toNat)
  case atStart => exact ⟨0, rfl, Nat.zero_le _, rfl⟩
  case round =>
    obtain ⟨k, rfl, hk, rfl⟩ := hrel
    have k0 : (0 : Int) ≤ (k : Int) := by omega
    by_cases hlt : k < n
    · have k1 : (k : Int) < (n : Int) := by omega
      have e7 : IntKind.i64.wrap ((k : Int) + 1) = (k : Int) + 1 := IntWalk.i64_in _ (by omega)
      have hka : k < l.length := by have := HN.out; omega
      obtain ⟨g, o, rfl, hg, hcell⟩ := recs_at HR.out k hka
      have a0 := cells1 hcell k hka
      obtain ⟨x, hx⟩ : ∃ x, l[k] = x := ⟨_, rfl⟩
      rw [hx] at a0
      have HS := Lib.hid (greatL_step (l := l) (k := k) (x := x) (by rw [← hx]; exact List.getElem?_eq_getElem hka))
      obtain ⟨u, hu⟩ : ∃ u, greatL (l.take k) = u := ⟨_, rfl⟩
      rw [hu] at HS ⊢
      obtain ⟨m, hm⟩ : ∃ m, max u x = m := ⟨_, rfl⟩
      have MX := fun w : World => run_max2 (P := Try.prog) (w := w) #[3, 3] 3 .i64 .i64 u x m hm
      rw [hm] at HS
      clear hcell hx hu hm hka hc1 hc2
      go_wp2
      go_round
      case rel => exact ⟨k + 1, by go_num, by omega, by rw [HS.out]⟩
      case measure => simp [intOf]; omega
    · have k1 : ¬ (k : Int) < (n : Int) := by omega
      have HE := Lib.hid (show greatL (l.take k) = greatL l by rw [List.take_of_length_le (by have := HN.out; omega)])
      go_wp2
      go_ret
      exact ⟨by rw [← HE.out]; rfl, rfl⟩
end Go.Proofs.Ytinhjobjlpkflaa
