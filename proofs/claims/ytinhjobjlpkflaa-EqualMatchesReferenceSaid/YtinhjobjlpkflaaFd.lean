/- What the calls of the laws answer, by name. -/
import Derived.Test.YtinhjobjlpkflaaFa
import Derived.Test.YtinhjobjlpkflaaFc
namespace Go.Proofs.Ytinhjobjlpkflaa
open Go.RowKit Go.Shelf

theorem quiet_same {P : Program} {f : FuncId} {args : Array Value} {w : World} {n : Nat} {v : Value} (h : Calls P f args (w.drewN n) fun e w' => e = .returned v ∧ w.drewN n = w') : Calls P f args (w.drewN n) fun e w'' => e = .returned v ∧ ∃ m, w'' = w.drewN m := h.mono fun _ _ ⟨he, hm⟩ => ⟨he, n, hm.symm⟩
theorem Recs.drewN {α : Type} {enc : α → List Value} {k : Nat} {w : World} {v : Value} {l : List α} (h : Recs enc k w w.heap.size v l) (n : Nat) : Recs enc k (w.drewN n) (w.drewN n).heap.size v l := h.next (belowN (Below.refl _ w) n)
theorem count_nat (n : Int) : ∃ m : Nat, countV n = (m : Int) ∧ 2 ≤ m ∧ m ≤ 5 := ⟨(countV n).toNat, by have := countV_bd n; omega⟩
theorem made_at2 (nn : Int) (hnn : I64 nn) (xs : List I4) (hx : ∀ x ∈ xs, OkI4 x) {L : List Ap} (hL : madeA nn xs = L) (A : Option Addr) (n c : Nat) (w : World) (hr : Recs enc4 4 w w.heap.size (.slice A n c) xs) :
    Calls Try.prog 11 #[.int .i64 nn, .slice A n c] w fun e w' => ∃ A2 c2, e = .returned (.slice A2 L.length c2) ∧ w'.ownsRow w.heap.size 49 4 (.slice A2 L.length c2) L.length (flatE encP L) ∧ Recs encP 4 w' w'.heap.size (.slice A2 L.length c2) L ∧ Below w.heap.size w w' := by
  refine (made_any nn hnn xs hx A n c w hr).mono ?_
  rintro e w' ⟨v, rfl, hg⟩
  rw [hL] at hg
  have hr := hg.recs
  have ho := hg.own
  obtain ⟨A2, c2, rfl, -⟩ := own_slice hg.own
  exact ⟨A2, c2, rfl, ho, hr, hg.b⟩
section
variable (m : Nat) (now : Int) (l : List Ap) (A : Option Addr) (n c : Nat) (w : World) (hr : Recs encP 4 w w.heap.size (.slice A n c) l) (hv : validA (m : Int) l = true) (hnow : nowB now = true)
include hr hv hnow
theorem tot_at {T : List Int} (hT : totV m l now = T) (hl : T.length = m) : Calls Try.prog 23 #[.int .i64 (m : Int), .slice A n c, .int .i64 now] w fun e w' => ∃ A2 c2, e = .returned (.tuple #[.slice A2 m c2, .int .i64 0]) ∧ Recs enc1 1 w' w'.heap.size (.slice A2 m c2) T ∧ Below w.heap.size w w' := by
  refine (Totals_ok m now l A n c w hr hv hnow).mono ?_
  rintro e w' ⟨v, rfl, hg⟩
  rw [hT] at hg
  have hr := hg.recs
  have hb := hg.b
  obtain ⟨A2, c2, rfl, -⟩ := own_slice hg.own
  rw [hl] at hr
  exact ⟨A2, c2, by rw [hl], hr, hb⟩
theorem owed_at {T : List Int} (hT : owV m l now = T) : Calls Try.prog 21 #[.int .i64 (m : Int), .slice A n c, .int .i64 now] w fun e w' => ∃ A2 c2, e = .returned (.tuple #[.slice A2 m c2, .int .i64 0]) ∧ Recs enc1 1 w' w'.heap.size (.slice A2 m c2) T ∧ Below w.heap.size w w' := by
  have hl : T.length = m := by rw [← hT]; exact owV_len m l now
  refine (Owed_ok m now l A n c w hr hv hnow).mono ?_
  rintro e w' ⟨v, rfl, hg⟩
  rw [hT] at hg
  have hr := hg.recs
  have hb := hg.b
  obtain ⟨A2, c2, rfl, -⟩ := own_slice hg.own
  rw [hl] at hr
  exact ⟨A2, c2, by rw [hl], hr, hb⟩
theorem claims_at {C : List Cl} (hC : clV m l now = C) : Calls Try.prog 16 #[.int .i64 (m : Int), .slice A n c, .int .i64 now] w fun e w' => ∃ A2 c2, e = .returned (.tuple #[.slice A2 C.length c2, .int .i64 0]) ∧ Recs encC 4 w' w'.heap.size (.slice A2 C.length c2) C ∧ Below w.heap.size w w' := by
  refine (Claims_ok m now l A n c w hr hv hnow).mono ?_
  rintro e w' ⟨v, rfl, hg⟩
  rw [hC] at hg
  have hr := hg.recs
  have hb := hg.b
  obtain ⟨A2, c2, rfl, -⟩ := own_slice hg.own
  exact ⟨A2, c2, rfl, hr, hb⟩
theorem over_at {C : List Cl} (hC : (clV m l now).filter (late now) = C) : Calls Try.prog 18 #[.int .i64 (m : Int), .slice A n c, .int .i64 now] w fun e w' => ∃ A2 c2, e = .returned (.tuple #[.slice A2 C.length c2, .int .i64 0]) ∧ Recs encC 4 w' w'.heap.size (.slice A2 C.length c2) C ∧ Below w.heap.size w w' := by
  refine (Overdue_ok m now l A n c w hr hv hnow).mono ?_
  rintro e w' ⟨v, rfl, hg⟩
  rw [hC] at hg
  have hr := hg.recs
  have hb := hg.b
  obtain ⟨A2, c2, rfl, -⟩ := own_slice hg.own
  exact ⟨A2, c2, rfl, hr, hb⟩
end
end Go.Proofs.Ytinhjobjlpkflaa
