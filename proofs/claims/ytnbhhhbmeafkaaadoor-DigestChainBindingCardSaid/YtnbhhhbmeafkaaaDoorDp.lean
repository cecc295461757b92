/- Contract of Reverse of a row of forks that the call before has made. -/
import Derived.Test.YtnbhhhbmeafkaaaDoorDo
namespace Go.Proofs.YtnbhhhbmeafkaaaDoor
open Go.RowKit

theorem keepsPut {w W : World} {g o : Nat} {u : Value} (h : Keeps (fun k => k = g) w W) : Keeps (fun k => k = g) w (W.setCell ⟨g, o, none⟩ u) := h.trans (Keeps.setCell (no := fun k => k = g) rfl _)
theorem keepsDrew {no : Nat → Prop} {w W : World} (h : Keeps no w W) : Keeps no w W.drew := ⟨h.os, h.tape, h.output, h.size, h.block⟩
theorem row_swap (L : List Dm.Fk) (rest : List Value) (k m : Nat) (a b : Dm.Fk) {M : List Dm.Fk} (hk : k < L.length) (hm : m < L.length) (h : (L.set k b).set m a = M) :
    ((((((((fkRowA L rest).setIfInBounds (k * 4) (.int .i64 (b.fr : Int))).setIfInBounds (k * 4 + 1) (.int .i64 (b.mid : Int))).setIfInBounds (k * 4 + 2) (.int .i64 (b.to : Int))).setIfInBounds (k * 4 + 3) (.bool b.sec)).setIfInBounds (m * 4) (.int .i64 (a.fr : Int))).setIfInBounds (m * 4 + 1) (.int .i64 (a.mid : Int))).setIfInBounds (m * 4 + 2) (.int .i64 (a.to : Int))).setIfInBounds (m * 4 + 3) (.bool a.sec) = fkRowA M rest := by
  have hm2 : m < (L.set k b).length := by rw [List.length_set]; exact hm
  rw [Nat.mul_comm k, Nat.mul_comm m, fkRowA_set L rest k b hk, fkRowA_set (L.set k b) rest m a hm2, h]

set_option maxRecDepth 100000 in
set_option maxHeartbeats 2000000 in
theorem revFk_in (fs : List Dm.Fk) (g c : Nat) (rest : List Value) (hn : fs.length ≤ 1000) (w : World) (hr : Row w g 57 (fkRowA fs rest)) :
    Calls Tryd.prog 52 #[.slice (some ⟨g, 0, none⟩) fs.length c] w fun e w' =>
      e = .returned (.tuple #[]) ∧ Row w' g 57 (fkRowA fs.reverse rest) ∧ Keeps (fun k => k = g) w w' := by
  obtain ⟨n, hnn⟩ : ∃ n, fs.length = n := ⟨_, rfl⟩
  rw [hnn] at hn ⊢
  have HR := Lib.hid hr; have HN := Lib.hid hnn
  clear hr hnn
  go_enter Tryd.func52, Tryd.ntmps52
  go_wp2
  go_loopw [2, 3] (fun i j wr => ∃ k : Nat, 2 * k ≤ n + 1 ∧ i = .int .i64 (k : Int) ∧ j = .int .i64 ((n : Int) - 1 - (k : Int)) ∧ Row wr g 57 (fkRowA (rev fs k) rest) ∧ Keeps (fun k => k = g) w wr) (fun i _ _ => n - (intOf i).toNat)
  case atStart => exact ⟨0, by omega, rfl, by simp, by rw [rev_0]; exact HR.out, Keeps.refl _ _⟩
  case round =>
    obtain ⟨k, hk, rfl, rfl, hr, hkp⟩ := hrel
    have hnn := HN.out
    by_cases hlt : k < n - 1 - k
    · obtain ⟨m, hm⟩ : ∃ m, n - 1 - k = m := ⟨_, rfl⟩
      have hmI : (n : Int) - 1 - (k : Int) = (m : Int) := by omega
      have hlk : k < (rev fs k).length := by rw [rev_len]; omega
      have hlm : m < (rev fs k).length := by rw [rev_len]; omega
      obtain ⟨a, ha⟩ : ∃ a, (rev fs k)[k] = a := ⟨_, rfl⟩
      obtain ⟨b, hb⟩ : ∃ b, (rev fs k)[m] = b := ⟨_, rfl⟩
      have hka : fs.getD k ⟨0, 0, 0, false⟩ = a := by
        have := rev_at fs k k (by omega)
        rw [List.getElem?_eq_getElem hlk, ha, if_neg (by omega)] at this
        exact (Option.some.inj this).symm
      have hmb : fs.getD m ⟨0, 0, 0, false⟩ = b := by
        have := rev_at fs k m (by omega)
        rw [List.getElem?_eq_getElem hlm, hb, if_neg (by omega)] at this
        exact (Option.some.inj this).symm
      have hst := rev_step fs k (by omega)
      rw [hnn, hm, hka, hmb] at hst
      have ca0 := (hr.cell (4 * k)).trans (fkRowA_get _ rest k 0 (by omega) hlk)
      have ca1 := (hr.cell (4 * k + 1)).trans (fkRowA_get _ rest k 1 (by omega) hlk)
      have ca2 := (hr.cell (4 * k + 2)).trans (fkRowA_get _ rest k 2 (by omega) hlk)
      have ca3 := (hr.cell (4 * k + 3)).trans (fkRowA_get _ rest k 3 (by omega) hlk)
      have cb0 := (hr.cell (4 * m)).trans (fkRowA_get _ rest m 0 (by omega) hlm)
      have cb1 := (hr.cell (4 * m + 1)).trans (fkRowA_get _ rest m 1 (by omega) hlm)
      have cb2 := (hr.cell (4 * m + 2)).trans (fkRowA_get _ rest m 2 (by omega) hlm)
      have cb3 := (hr.cell (4 * m + 3)).trans (fkRowA_get _ rest m 3 (by omega) hlm)
      rw [ha] at ca0 ca1 ca2 ca3; rw [hb] at cb0 cb1 cb2 cb3
      simp only [List.getElem?_cons_zero, List.getElem?_cons_succ] at ca0 ca1 ca2 ca3 cb0 cb1 cb2 cb3
      rw [Nat.mul_comm 4 k] at ca0 ca1 ca2 ca3
      rw [Nat.mul_comm 4 m] at cb0 cb1 cb2 cb3
      have fa0 := hr.free (k * 4); have fa1 := hr.free (k * 4 + 1); have fa2 := hr.free (k * 4 + 2); have fa3 := hr.free (k * 4 + 3)
      have fb0 := hr.free (m * 4); have fb1 := hr.free (m * 4 + 1); have fb2 := hr.free (m * 4 + 2); have fb3 := hr.free (m * 4 + 3)
      have HRR := Lib.hid hr; have HST := Lib.hid hst; have HLK := Lib.hid hlk; have HLM := Lib.hid hlm; have HM := Lib.hid hmI
      clear hr hst hka hmb ha hb hlk hlm hnn hm
      rw [hmI]
      clear hmI
      have i1 : (0 : Int) ≤ (k : Int) := by omega
      have i2 : (0 : Int) ≤ (m : Int) := by omega
      have i3 : (k : Int) < (n : Int) := by omega
      have i4 : (m : Int) < (n : Int) := by have := HM.out; omega
      have i5 : decide ((k : Int) < (m : Int)) = true := by have := HM.out; simp; omega
      have i6 : k < m := by have := HM.out; omega
      go_wp2
      go_region
      go_wp2
      go_roundw
      case rel =>
        refine ⟨k + 1, by have := HM.out; omega, by go_num, ?_, ?_, ?_⟩
        · have := HM.out
          rw [show (m : Int) - 1 = (n : Int) - 1 - ((k + 1 : Nat) : Int) from by omega]
        · have e := row_swap (rev fs k) rest k m a b HLK.out HLM.out HST.out
          have q := ((((((((HRR.out.put (k * 4) (.int .i64 (b.fr : Int))).put (k * 4 + 1) (.int .i64 (b.mid : Int))).put (k * 4 + 2) (.int .i64 (b.to : Int))).put (k * 4 + 3) (.bool b.sec)).put (m * 4) (.int .i64 (a.fr : Int))).put (m * 4 + 1) (.int .i64 (a.mid : Int))).put (m * 4 + 2) (.int .i64 (a.to : Int))).put (m * 4 + 3) (.bool a.sec))
          rw [e] at q
          exact q.drew
        · exact keepsDrew (keepsPut (keepsPut (keepsPut (keepsPut (keepsPut (keepsPut (keepsPut (keepsPut hkp))))))))
      case measure => simp [intOf]; omega
    · have hd : decide ((k : Int) < (n : Int) - 1 - (k : Int)) = false := by simp; omega
      rw [rev_end fs k (by rw [hnn]; omega)] at hr
      have HRR := Lib.hid hr
      clear hr
      go_wp2
      go_end0
      exact ⟨rfl, HRR.out, hkp⟩
/-- The same of an owned row. -/
theorem revFk_own (fs : List Dm.Fk) (v : Value) (base : Nat) (hn : fs.length ≤ 1000) (w : World) (h : w.ownsRow base 57 4 v fs.length (fkCells fs)) :
    Calls Tryd.prog 52 #[v] w fun e w' =>
      e = .returned (.tuple #[]) ∧ w'.ownsRow base 57 4 v fs.length (fkCells fs.reverse) ∧ Keeps (fun k => v.ownBlock = some k) w w' := by
  rcases h.2 with ⟨rfl, h0⟩ | ⟨g, cap, cur, rfl, hb, hg, h1, h2, h3, h4⟩
  · have hfs : fs = [] := List.eq_nil_of_length_eq_zero h0
    subst hfs
    go_enter Tryd.func52, Tryd.ntmps52
    go_wp2
    go_loopw [2, 3] (fun i j wr => i = .int .i64 0 ∧ j = .int .i64 (-1) ∧ wr = w) (fun _ _ _ => 0)
    case atStart => exact ⟨rfl, rfl, rfl⟩
    case round =>
      obtain ⟨rfl, rfl, rfl⟩ := hrel
      go_wp2
      go_end0
      exact ⟨rfl, h, Keeps.refl _ _⟩
  · have hcur : cur = fkRowA fs (cur.toList.drop (fs.length * 4)) := by
      unfold fkRowA
      rw [← h4, List.take_append_drop]
    rw [hcur] at hg
    refine (revFk_in fs g cap _ hn w hg).mono fun e w' ⟨he, hr, hk⟩ => ⟨he, ⟨by rw [fkCells_len, List.length_reverse, Nat.mul_comm], .inr ⟨g, cap, _, rfl, hb, hr, h1, h2, ?_, ?_⟩⟩, ?_⟩
    · unfold fkRowA
      have hcl : cur.toList.length = cap * 4 := by rw [Array.length_toList]; exact h3
      rw [List.size_toArray, List.length_append, fkCells_len, List.length_reverse, List.length_drop, hcl]; omega
    · unfold fkRowA
      rw [List.take_append_of_le_length (by rw [fkCells_len, List.length_reverse]; omega), List.take_of_length_le (by rw [fkCells_len, List.length_reverse]; omega)]
    · exact ⟨hk.os, hk.tape, hk.output, hk.size, fun k hk2 hn2 => hk.block k hk2 (fun e => hn2 (by rw [e]; rfl))⟩
end Go.Proofs.YtnbhhhbmeafkaaaDoor
