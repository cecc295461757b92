/- The number of a day's name. -/
import Derived.Test.YtmfpaankkoaoaaaDoorUn
namespace Go.Proofs.YtmfpaankkoaoaaaDoor
open Go.RowKit Go.Shelf

/-- The names of the days, as bytes. -/
def dayL : List ByteArray := [⟨#[109, 111, 110]⟩, ⟨#[116, 117, 101]⟩, ⟨#[119, 101, 100]⟩, ⟨#[116, 104, 117]⟩, ⟨#[102, 114, 105]⟩, ⟨#[115, 97, 116]⟩, ⟨#[115, 117, 110]⟩]
def dayS (k : Nat) : ByteArray := dayL[k]?.getD ⟨#[]⟩
/-- The table of the names stands. -/
def DayT (w : World) : Prop := ∀ j, j < 7 → w.cell? ⟨0, j, none⟩ = some (.string (dayS j))
theorem DayT.keep {w w' : World} {n : Nat} (h : DayT w) (hb : Below n w w') (hn : 0 < n) : DayT w' := fun j hj => (hb.cell (p := ⟨_, j, none⟩) hn).trans (h j hj)
def dayV : Value := .agg #[.string (dayS 0), .string (dayS 1), .string (dayS 2), .string (dayS 3), .string (dayS 4), .string (dayS 5), .string (dayS 6)]
theorem run_index_name (k : Nat) (hk : k < 7) (w : World) : (Instr.index 101 dayV (.int .i64 (k : Int))).run Tryd.prog w = .ok (.string (dayS k)) w := by
  have hc : #[Value.string (dayS 0), .string (dayS 1), .string (dayS 2), .string (dayS 3), .string (dayS 4), .string (dayS 5), .string (dayS 6)][k]? = some (.string (dayS k)) := by
    obtain rfl | rfl | rfl | rfl | rfl | rfl | rfl : k = 0 ∨ k = 1 ∨ k = 2 ∨ k = 3 ∨ k = 4 ∨ k = 5 ∨ k = 6 := by omega
    all_goals rfl
  unfold dayV Instr.index
  obtain ⟨A, hA⟩ : ∃ A, #[Value.string (dayS 0), .string (dayS 1), .string (dayS 2), .string (dayS 3), .string (dayS 4), .string (dayS 5), .string (dayS 6)] = A := ⟨_, rfl⟩
  rw [hA] at hc ⊢
  clear hA
  simp [asIntOf, run_underlying Tryd.underlying101, part, isAgg, hk, hc]
/-- The day whose name the text is; -1 if it is none. -/
def dayN (s : ByteArray) : Int := ((List.range 7).find? (fun k => decide (dayS k = s))).elim (-1) (fun k => (k : Int))
theorem dayN_some {s : ByteArray} {k : Nat} (hk : k < 7) (h : dayS k = s) (hb : ∀ j, j < k → dayS j ≠ s) : dayN s = (k : Int) := by
  unfold dayN
  rw [List.find?_range_eq_some.2 ⟨by simpa using h, by simpa using hk, fun j hj => by simpa using hb j hj⟩]
  rfl
theorem dayN_none {s : ByteArray} (hb : ∀ j, j < 7 → dayS j ≠ s) : dayN s = -1 := by
  unfold dayN
  rw [List.find?_range_eq_none.2 (fun j hj => by simpa using hb j hj)]
  rfl
set_option maxHeartbeats 1000000 in
theorem dayNumber_any (s : ByteArray) (w : World) (ht : DayT w) : Calls Tryd.prog 79 #[.string s] w fun e w' => e = .returned (.int .i64 (dayN s)) ∧ w = w' := by
  have p0 := ht 0 (by decide)
  have p1 := ht 1 (by decide)
  have p2 := ht 2 (by decide)
  have p3 := ht 3 (by decide)
  have p4 := ht 4 (by decide)
  have p5 := ht 5 (by decide)
  have p6 := ht 6 (by decide)
  have HI := Lib.hid run_index_name
  unfold dayV at HI
  have HE1 := Lib.hid (fun k (hk : k < 7) (h : dayS k = s) (hb : ∀ j, j < k → dayS j ≠ s) => dayN_some hk h hb)
  have HE2 := Lib.hid (fun (hb : ∀ j, j < 7 → dayS j ≠ s) => dayN_none hb)
  have HQ := Lib.hid (fun k => str_eqb (dayS k) s)
  obtain ⟨D, hD⟩ : ∃ D : Nat → ByteArray, dayS = D := ⟨_, rfl⟩
  rw [hD] at p0 p1 p2 p3 p4 p5 p6 HI HE1 HE2 HQ
  clear ht hD
  go_enter Tryd.func79, Tryd.ntmps79
  go_wp2
  go_loop [3, 4, 6] (fun _ _ i => ∃ k : Nat, k ≤ 7 ∧ i = .int .i64 (k : Int) ∧ Hid (∀ j, j < k → D j ≠ s)) (fun _ _ i => 7 - (intOf i).toNat)
  case atStart => exact ⟨0, by omega, rfl, Lib.hid (fun j hj => absurd hj (Nat.not_lt_zero _))⟩
  case round =>
    obtain ⟨k, hk, rfl, HN⟩ := hrel
    have i1 : (0 : Int) ≤ (k : Int) := by omega
    by_cases hlt : k < 7
    · have i2 : (k : Int) < 7 := by omega
      have hidx := fun w => HI.out k hlt w
      have t1 := HQ.out k
      by_cases he : D k = s
      · have HE := Lib.hid (HE1.out k hlt he HN.out)
        rw [decide_eq_true he] at t1
        clear he
        obtain ⟨b, hb⟩ : ∃ b, D k = b := ⟨_, rfl⟩
        rw [hb] at t1 hidx
        go_wp2
        go_ret
        exact ⟨by rw [HE.out]; rfl, rfl⟩
      · have HE := Lib.hid he
        rw [decide_eq_false he] at t1
        clear he
        obtain ⟨b, hb⟩ : ∃ b, D k = b := ⟨_, rfl⟩
        rw [hb] at t1 hidx
        have Hb := Lib.hid hb
        clear hb
        go_wp2
        go_round
        case rel => exact ⟨k + 1, by omega, by go_num, Lib.hid (fun j hj => if h : j = k then by rw [h]; exact HE.out else HN.out j (by omega))⟩
        case measure => simp [intOf]; omega
    · obtain rfl : k = 7 := by omega
      have HE := Lib.hid (HE2.out HN.out)
      go_wp2
      go_ret
      exact ⟨by rw [HE.out]; rfl, rfl⟩
end Go.Proofs.YtmfpaankkoaoaaaDoor
