/- Contracts of Valid, isSecond, isSpell. -/
import Derived.Test.YtmfpaankkoaoaaaDoorUc
namespace Go.Proofs.YtmfpaankkoaoaaaDoor
open Go.RowKit

def okH (x : Int) : Bool := decide (0 ≤ x) && decide (x ≤ 16777215)
def validW (l : List Int) : Bool := l.all okH
theorem okH_iff (x : Int) : okH x = true ↔ 0 ≤ x ∧ x ≤ 16777215 := by simp [okH]
theorem validW_at {l : List Int} (h : validW l = true) {k : Nat} {x : Int} (hx : l[k]? = some x) : 0 ≤ x ∧ x ≤ 16777215 := (okH_iff x).1 (List.all_eq_true.1 h x (List.mem_of_getElem? hx))
theorem valid_step {l : List Int} {k : Nat} {x : Int} (hx : l[k]? = some x) (h : validW (l.take k) = true) (ho : okH x = true) : validW (l.take (k + 1)) = true := by
  have hk := (List.getElem?_eq_some_iff.1 hx)
  obtain ⟨hk, he⟩ := hk
  rw [List.take_succ_eq_append_getElem hk, he]
  simp only [validW, List.all_append, List.all_cons, List.all_nil, Bool.and_true, Bool.and_eq_true] at h ⊢
  exact ⟨h, ho⟩
theorem valid_bad {l : List Int} {k : Nat} {x : Int} (hx : l[k]? = some x) (ho : okH x = false) : validW l = false := by
  cases e : validW l with
  | false => rfl
  | true => have := List.all_eq_true.1 e x (List.mem_of_getElem? hx); rw [ho] at this; cases this

set_option maxRecDepth 100000 in
set_option maxHeartbeats 4000000 in
theorem valid_any (l : List Int) (h7 : l.length = 7) (w : World) : Calls Tryd.prog 6 #[wv l] w fun e w' => e = .returned (.bool (validW l)) ∧ Below w.heap.size w w' := by
  have HI := Lib.hid (fun k x (hx : l[k]? = some x) (w : World) => run_index_week l h7 k x hx w)
  have HG := Lib.hid (fun k (hk : k < 7) => (⟨_, List.getElem?_eq_getElem (l := l) (i := k) (by omega)⟩ : ∃ x, l[k]? = some x))
  have HT := Lib.hid (show l.take 7 = l from List.take_of_length_le (by omega))
  obtain ⟨L, hL⟩ : ∃ L, l = L := ⟨_, rfl⟩
  obtain ⟨a, b, c, d, e, f, g, rfl⟩ := seven h7
  rw [hL] at HI HG HT ⊢
  have hwv : wv L = .agg #[.int .i64 a, .int .i64 b, .int .i64 c, .int .i64 d, .int .i64 e, .int .i64 f, .int .i64 g] := by rw [← hL]; rfl
  rw [hwv] at HI ⊢
  clear hwv h7 hL
  go_enter Tryd.func6, Tryd.ntmps6
  go_wp2
  go_loop [4, 6] (fun _ i => ∃ k : Nat, k ≤ 7 ∧ i = .int .i64 (k : Int) ∧ Hid (validW (L.take k) = true)) (fun _ i => 7 - (intOf i).toNat)
  case atStart => exact ⟨0, by omega, rfl, Lib.hid rfl⟩
  case round =>
    obtain ⟨k, hk, rfl, HV⟩ := hrel
    have i1 : (0 : Int) ≤ (k : Int) := by omega
    by_cases hlt : k < 7
    · have hg := HG.out k hlt
      obtain ⟨x, hx⟩ := hg
      have hidx := fun w => HI.out k x hx w
      have i2 : (k : Int) < 7 := by omega
      by_cases x1 : x < 0
      · have HB := Lib.hid (valid_bad hx (show okH x = false by simp [okH]; omega))
        clear hx
        go_wp2
        go_ret
        exact ⟨by rw [HB.out]; rfl, (Below.refl _ _).alloc (Nat.le_refl _) _⟩
      by_cases x2 : 16777215 < x
      · have HB := Lib.hid (valid_bad hx (show okH x = false by simp [okH]; omega))
        clear hx
        go_wp2
        go_ret
        exact ⟨by rw [HB.out]; rfl, (Below.refl _ _).alloc (Nat.le_refl _) _⟩
      have HS := Lib.hid (valid_step hx HV.out ((okH_iff x).2 ⟨by omega, by omega⟩))
      clear hx
      go_wp2
      go_round
      case rel => exact ⟨k + 1, by omega, by go_num, HS⟩
      case measure => simp [intOf]; omega
    · have hk7 : k = 7 := by omega
      subst hk7
      have hv := HV.out
      rw [HT.out] at hv
      have HVV := Lib.hid hv
      clear hv
      go_wp2
      go_ret
      exact ⟨by rw [HVV.out]; rfl, (Below.refl _ _).alloc (Nat.le_refl _) _⟩
def isSec (t : Int) : Bool := decide (0 ≤ t) && decide (t < 10000000)
theorem isSec_iff (t : Int) : isSec t = true ↔ 0 ≤ t ∧ t < 10000000 := by simp [isSec]
theorem isSecond_any (t : Int) (w : World) : Calls Tryd.prog 30 #[.int .i64 t] w fun e w' => e = .returned (.bool (isSec t)) ∧ w = w' := by
  unfold isSec
  by_cases h1 : 0 ≤ t <;> by_cases h2 : t < 10000000 <;> simp only [h1, h2, decide_true, decide_false, Bool.and_true, Bool.and_false, Bool.and_self]
  all_goals go_enter Tryd.func30, Tryd.ntmps30
  all_goals go_wp2
  all_goals go_ret
  all_goals exact ⟨rfl, rfl⟩
def isSpl (a b : Int) : Bool := decide (0 ≤ a) && decide (a < b) && decide (b ≤ 10000000)
theorem isSpl_iff (a b : Int) : isSpl a b = true ↔ 0 ≤ a ∧ a < b ∧ b ≤ 10000000 := by simp [isSpl, and_assoc]
theorem isSpell_any (a b : Int) (w : World) : Calls Tryd.prog 34 #[.agg #[.int .i64 a, .int .i64 b]] w fun e w' => e = .returned (.bool (isSpl a b)) ∧ Below w.heap.size w w' := by
  unfold isSpl
  by_cases h1 : 0 ≤ a
  · by_cases h2 : a < b
    · by_cases h3 : b ≤ 10000000
      · rw [decide_eq_true h1, decide_eq_true h2, decide_eq_true h3]
        go_enter Tryd.func34, Tryd.ntmps34
        go_wp2
        go_ret
        exact ⟨rfl, (Below.refl _ _).alloc (Nat.le_refl _) _⟩
      · rw [decide_eq_true h1, decide_eq_true h2, decide_eq_false h3]
        go_enter Tryd.func34, Tryd.ntmps34
        go_wp2
        go_ret
        exact ⟨rfl, (Below.refl _ _).alloc (Nat.le_refl _) _⟩
    · rw [decide_eq_true h1, decide_eq_false h2]
      have d2 : decide (a < b) = false := decide_eq_false h2
      go_enter Tryd.func34, Tryd.ntmps34
      go_wp2
      go_ret
      exact ⟨rfl, (Below.refl _ _).alloc (Nat.le_refl _) _⟩
  · rw [decide_eq_false h1]
    have d1 : decide (0 ≤ a) = false := decide_eq_false h1
    go_enter Tryd.func34, Tryd.ntmps34
    go_wp2
    go_ret
    exact ⟨rfl, (Below.refl _ _).alloc (Nat.le_refl _) _⟩
end Go.Proofs.YtmfpaankkoaoaaaDoor
