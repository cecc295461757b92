/- writeDays. -/
import Derived.BigQuiet
import Derived.Test.YtmfpaankkoaoaaaDoorUq
namespace Go.Proofs.YtmfpaankkoaoaaaDoor
open Go.RowKit Go.Shelf

theorem dayS_size (k : Nat) : (dayS k).size ≤ 3 := by
  by_cases h : k < 7
  · have hh : ∀ k : Fin 7, (dayS k.val).size ≤ 3 := by decide +kernel
    exact hh ⟨k, h⟩
  · unfold dayS
    rw [List.getElem?_eq_none (by simp [dayL]; omega)]
    decide
/-- How the days from a on, up to but not including b, are written. -/
def wrD (a b : Nat) : ByteArray := if b = a + 1 then dayS a else dayS a ++ ⟨#[45]⟩ ++ dayS (b - 1)
set_option maxHeartbeats 1000000 in
theorem writeDays_any (a b : Nat) (hab : a < b) (hb : b ≤ 7) (w : World) (ht : DayT w) : Calls Tryd.prog 58 #[.int .i64 (a : Int), .int .i64 (b : Int)] w fun e w' => e = .returned (.string (wrD a b)) ∧ Below w.heap.size w w' := by
  have p0 := ht a (by omega)
  have z0 := dayS_size a
  have i1 : (0 : Int) ≤ (a : Int) := by omega
  have i2 : (a : Int) < 7 := by omega
  unfold wrD
  by_cases h : b = a + 1
  · subst h
    rw [if_pos rfl]
    obtain ⟨A, hA⟩ : ∃ A, dayS a = A := ⟨_, rfl⟩
    rw [hA] at p0 z0 ⊢
    clear ht hA
    go_enter Tryd.func58, Tryd.ntmps58
    go_wp2
    go_ret
    exact ⟨rfl, Below.refl _ _⟩
  · rw [if_neg h]
    have p1 := ht (b - 1) (by omega)
    have z1 := dayS_size (b - 1)
    obtain ⟨c, rfl⟩ : ∃ c, b = c + 1 := ⟨b - 1, by omega⟩
    rw [Nat.add_sub_cancel] at p1 z1 ⊢
    have i3 : (0 : Int) ≤ (c : Int) := by omega
    have i4 : (c : Int) < 7 := by omega
    have i5 : ((c + 1 : Nat) : Int) - 1 = (c : Int) := by omega
    have t1 : ((c : Int) == (a : Int)) = false := by simp; omega
    have t2 : (((c + 1 : Nat) : Int) == (a : Int) + 1) = false := by simp; omega
    obtain ⟨A, hA⟩ : ∃ A, dayS a = A := ⟨_, rfl⟩
    rw [hA] at p0 z0 ⊢
    obtain ⟨B, hB⟩ : ∃ B, dayS c = B := ⟨_, rfl⟩
    rw [hB] at p1 z1 ⊢
    clear ht hA hB
    go_enter Tryd.func58, Tryd.ntmps58
    go_wp2
    go_quiet (fail)
    go_wp2
    go_ret
    exact ⟨rfl, belowN (Below.refl _ _) _⟩
end Go.Proofs.YtmfpaankkoaoaaaDoor
