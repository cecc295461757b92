/- Contract of collide. -/
import Derived.Test.YtnbhhhbmeafkaaaDoorE2
import Derived.Test.YtnbhhhbmeafkaaaDoorM5
import Derived.Deep.RegionWith
import Derived.BigQuiet
import Derived.Deep.RegionHeld3
namespace Go.Proofs.YtnbhhhbmeafkaaaDoor
open Go.RowKit

theorem col_take (a b : List (List UInt8)) (k : Nat) (h1 : k < a.length) (h2 : k < b.length) : Dm.col (a.take (k + 1)) (b.take (k + 1)) = (Dm.col (a.take k) (b.take k) || (a[k] != b[k] && Dm.sha a[k] == Dm.sha b[k])) := by
  unfold Dm.col
  rw [List.take_succ_eq_append_getElem h1, List.take_succ_eq_append_getElem h2, List.zip_append (by simp; omega), List.any_append]
  simp
theorem col_all (a b : List (List UInt8)) (k : Nat) (h : a.length ≤ k ∨ b.length ≤ k) : Dm.col (a.take k) (b.take k) = Dm.col a b := by
  unfold Dm.col
  congr 1
  have h1 := List.take_zipWith (f := Prod.mk) (l := a) (l' := b) (i := k)
  rw [← List.zip_eq_zipWith, ← List.zip_eq_zipWith] at h1
  rw [← h1]
  exact List.take_of_length_le (by rw [List.length_zip]; omega)
theorem col_hit (a b : List (List UInt8)) (k : Nat) (h1 : k < a.length) (h2 : k < b.length) (h : a[k] ≠ b[k]) (hs : Dm.sha a[k] = Dm.sha b[k]) : Dm.col a b = true := by
  unfold Dm.col
  rw [List.any_eq_true]
  refine ⟨(a[k], b[k]), ?_, by simp [h, hs]⟩
  rw [List.mem_iff_getElem]
  exact ⟨k, by rw [List.length_zip]; omega, by simp⟩

theorem hold_next {w w1 w2 : World} {p q : Addr} {u v : Value} (h : Below w.heap.size w w1 ∧ w1.cell? p = some u ∧ w1.cell? q = some v) (hb : Below w1.heap.size w1 w2) (hp : p.block < w.heap.size) (hq : q.block < w.heap.size) :
    Below w.heap.size w w2 ∧ w2.cell? p = some u ∧ w2.cell? q = some v := by
  obtain ⟨h1, h2, h3⟩ := h
  have hs := h1.size
  exact ⟨h1.trans (hb.mono hs), (hb.cell (p := p) (by omega)).trans h2, (hb.cell (p := q) (by omega)).trans h3⟩
theorem fin_of {w wr W : World} {C : Prop} (h : Below w.heap.size w wr) (S : Below wr.heap.size wr W ∧ C) : Below w.heap.size w W := h.trans (S.1.mono h.size)
set_option maxRecDepth 100000 in
set_option maxHeartbeats 2000000 in
theorem col_any (v1 v2 : Value) (a b : List (List UInt8)) (w : World) (ha : Strs w w.heap.size v1 a) (hb : Strs w w.heap.size v2 b) (hla : ∀ s ∈ a, s.length ≤ 10000) (hlb : ∀ s ∈ b, s.length ≤ 10000) (ht : TabOk w) :
    Calls Tryd.prog 35 #[v1, v2] w fun e w' => e = .returned (.bool (Dm.col a b)) ∧ Below w.heap.size w w' := by
  obtain ⟨A, c1, rfl, hc1, hc2, hA⟩ := ha
  obtain ⟨B, c2, rfl, hd1, hd2, hB⟩ := hb
  obtain ⟨N, hN⟩ : ∃ N, a.length = N := ⟨_, rfl⟩
  obtain ⟨M, hM⟩ : ∃ M, b.length = M := ⟨_, rfl⟩
  rw [hN] at hc1 ⊢; rw [hM] at hd1 ⊢
  unfold maxLen at hc2 hd2
  have HN := Lib.hid hN; have HM := Lib.hid hM
  clear hN hM
  go_enter Tryd.func35, Tryd.ntmps35
  go_wp2
  go_loopw [5] (fun i wr => ∃ k : Nat, k ≤ N ∧ k ≤ M ∧ i = .int .i64 (k : Int) ∧ Dm.col (a.take k) (b.take k) = false ∧ Below w.heap.size w wr) (fun i _ => N - (intOf i).toNat)
  case atStart => exact ⟨0, by omega, by omega, rfl, rfl, Below.refl _ _⟩
  case round =>
    obtain ⟨k, hkN, hkM, rfl, hcol, hbw⟩ := hrel
    have HC := Lib.hid hcol; have HBW := Lib.hid hbw
    clear hcol hbw
    by_cases hlt : k < N ∧ k < M
    · obtain ⟨g1, g2⟩ := hlt
      have k1 : k < a.length := by have := HN.out; omega
      have k2 : k < b.length := by have := HM.out; omega
      rcases hA with ⟨_, hp⟩ | ⟨ga, oa, rfl, hga, hca⟩
      · rw [hp] at k1; simp at k1
      rcases hB with ⟨_, hp⟩ | ⟨gb, ob, rfl, hgb, hcb⟩
      · rw [hp] at k2; simp at k2
      have ca := (HBW.out.cell (p := ⟨ga, oa + k, none⟩) hga).trans (hca k _ (List.getElem?_eq_getElem k1))
      have cb := (HBW.out.cell (p := ⟨gb, ob + k, none⟩) hgb).trans (hcb k _ (List.getElem?_eq_getElem k2))
      have la := hla a[k] (List.getElem_mem k1)
      have lb := hlb b[k] (List.getElem_mem k2)
      have hst := col_take a b k k1 k2
      have hhit := col_hit a b k k1 k2
      rw [HC.out, Bool.false_or] at hst
      obtain ⟨x, hx⟩ : ∃ x, a[k] = x := ⟨_, rfl⟩
      obtain ⟨y, hy⟩ : ∃ y, b[k] = y := ⟨_, rfl⟩
      rw [hx] at ca la hst hhit; rw [hy] at cb lb hst hhit
      have hwa : ga < wr.heap.size := by have := HBW.out.size; omega
      have hwb : gb < wr.heap.size := by have := HBW.out.size; omega
      have HST := Lib.hid hst; have HHIT := Lib.hid hhit
      have HSX := Lib.hid (fun u (hu : Below wr.heap.size wr u) => sum_any x u (by omega) (ht.next (HBW.out.trans (hu.mono HBW.out.size))))
      have HSY := Lib.hid (fun u (hu : Below wr.heap.size wr u) => sum_any y u (by omega) (ht.next (HBW.out.trans (hu.mono HBW.out.size))))
      clear hx hy hst hhit hca hcb hla hlb
      have i1 : (k : Int) < (N : Int) := by omega
      have i2 : (k : Int) < (M : Int) := by omega
      have i3 : (0 : Int) ≤ (k : Int) := by omega
      by_cases hxy : x = y
      · subst hxy
        have e1 : ((bs x).toList == (bs x).toList) = true := by simp
        have e2 : ((bs x).toList != (bs x).toList) = false := by simp
        clear HHIT HSX HSY
        go_wp2
        go_quiet (fail)
        go_wp2
        go_roundw
        case rel => exact ⟨k + 1, by omega, by omega, by go_num, by rw [HST.out]; simp, (belowN HBW.out _)⟩
        case measure => simp [intOf]; omega
      · have HXY := Lib.hid hxy
        have e1 : ((bs x).toList == (bs y).toList) = false := by rw [bs_eqb]; simpa using hxy
        have e2 : ((bs x).toList != (bs y).toList) = true := by rw [bne, e1]; rfl
        clear hxy
        obtain ⟨SX, hSX⟩ : ∃ SX, bs (Dm.sha x) = SX := ⟨_, rfl⟩
        obtain ⟨SY, hSY⟩ : ∃ SY, bs (Dm.sha y) = SY := ⟨_, rfl⟩
        have e3 : (SX.toList == SY.toList) = (Dm.sha x == Dm.sha y) := by rw [← hSX, ← hSY, bs_eqb]
        have hsx := HSX.out; have hsy := HSY.out
        unfold strOf at hsx hsy
        rw [hSX] at hsx; rw [hSY] at hsy
        have HSX' := Lib.hid hsx; have HSY' := Lib.hid hsy
        clear hsx hsy
        clear hSX hSY HSX HSY
        by_cases hsh : Dm.sha x = Dm.sha y
        · have e4 : (SX.toList == SY.toList) = true := by rw [e3]; simpa using hsh
          have HTR := Lib.hid (HHIT.out HXY.out hsh)
          clear e3 hsh HHIT HST
          have hb0 : Below wr.heap.size wr wr := Below.refl _ _
          go_wp2
          go_region_held3 (fun w' => Below wr.heap.size wr w' ∧ w'.cell? ⟨ga, oa + k, none⟩ = some (.string (bs x)) ∧ w'.cell? ⟨gb, ob + k, none⟩ = some (.string (bs y))) (first | assumption | (exact ⟨Below.drew (by assumption), by assumption, by assumption⟩) | (exact ⟨by assumption, by assumption, by assumption⟩) | (exact hold_next (‹Below wr.heap.size wr _ ∧ _ ∧ _›) b5 hwa hwb)) (first | (go_at_call 13; ((with_reducible refine Calls.mono (HSX'.out _ ?hb1) ?_); (case hb1 => (first | assumption | exact (‹Below wr.heap.size wr _ ∧ _ ∧ _›).1)); rintro e w5 ⟨rfl, b5⟩)) | (go_at_call 13; ((with_reducible refine Calls.mono (HSY'.out _ ?hb1) ?_); (case hb1 => (first | assumption | exact (‹Below wr.heap.size wr _ ∧ _ ∧ _›).1)); rintro e w5 ⟨rfl, b5⟩)))
          go_wp2
          go_ret
          exact ⟨ret_bool HTR.out.symm, fin_of HBW.out (by assumption)⟩
        · have e4 : (SX.toList == SY.toList) = false := by rw [e3]; simpa using hsh
          have HNO := Lib.hid (show (x != y && Dm.sha x == Dm.sha y) = false by rw [show (Dm.sha x == Dm.sha y) = false from by simpa using hsh, Bool.and_false])
          clear e3 hsh HHIT
          have hb0 : Below wr.heap.size wr wr := Below.refl _ _
          go_wp2
          go_region_held3 (fun w' => Below wr.heap.size wr w' ∧ w'.cell? ⟨ga, oa + k, none⟩ = some (.string (bs x)) ∧ w'.cell? ⟨gb, ob + k, none⟩ = some (.string (bs y))) (first | assumption | (exact ⟨Below.drew (by assumption), by assumption, by assumption⟩) | (exact ⟨by assumption, by assumption, by assumption⟩) | (exact hold_next (‹Below wr.heap.size wr _ ∧ _ ∧ _›) b5 hwa hwb)) (first | (go_at_call 13; ((with_reducible refine Calls.mono (HSX'.out _ ?hb1) ?_); (case hb1 => (first | assumption | exact (‹Below wr.heap.size wr _ ∧ _ ∧ _›).1)); rintro e w5 ⟨rfl, b5⟩)) | (go_at_call 13; ((with_reducible refine Calls.mono (HSY'.out _ ?hb1) ?_); (case hb1 => (first | assumption | exact (‹Below wr.heap.size wr _ ∧ _ ∧ _›).1)); rintro e w5 ⟨rfl, b5⟩)))
          go_wp2
          go_roundw
          case rel => exact ⟨k + 1, by omega, by omega, by go_num, by rw [HST.out, HNO.out], fin_of HBW.out (by assumption)⟩
          case measure => simp [intOf]; omega
    · have he := col_all a b k (by have := HN.out; have := HM.out; omega)
      have HE := Lib.hid he
      clear he
      by_cases h1 : k < N
      · have h2 : ¬ k < M := by omega
        go_wp2
        go_ret
        exact ⟨ret_bool (by rw [← HE.out, HC.out]), HBW.out⟩
      · go_wp2
        go_ret
        exact ⟨ret_bool (by rw [← HE.out, HC.out]), HBW.out⟩
end Go.Proofs.YtnbhhhbmeafkaaaDoor
