/- Grow and Concat of claims. -/
import Derived.Test.YtinhjobjlpkflaaEn
import Derived.Lib.AppendZeros
namespace Go.Proofs.Ytinhjobjlpkflaa
open Go.RowKit Go.Shelf
attribute [local go_sem ↓] append_appN

def GrowPost (w : World) (e : Ending) (w' : World) : Prop := ∃ A c, e = .returned (.slice A 0 c) ∧ w'.ownsRow w.heap.size 39 4 (.slice A 0 c) 0 (flatE encC []) ∧ Below w.heap.size w w'
set_option maxRecDepth 100000 in
set_option maxHeartbeats 4000000 in
theorem grow_any (n : Nat) (w : World) (hn : n ≤ 10000) :
    Calls Try.prog 48 #[.slice none 0 0, .int .i64 (n : Int)] w (GrowPost w) := by
  by_cases h0 : 0 < n
  · obtain ⟨i0, hi0, hz0, hz1, hz2⟩ := info_parts infoClaim
    have hrun : Sem.run Try.prog (appN #[31, 3] 31 #[.slice none 0 0, .int .i64 (n : Int)]) w = .ok (.slice (some ⟨w.heap.size, 0, none⟩) n (grownCap w n 0 39)) _ :=
      Lib.run_append_nil_zeros (P := Try.prog) w 31 3 31 39 i0 _ .i64 .i64 Try.underlying31 (by kernel_rfl) hi0 hz0 n h0 (by omega) (by omega) (by rw [hz2]; omega)
    have hge := grownCap_ge w n 0 39
    have hle := grownCap_le_maxLen w n 0 39 (by unfold maxLen; omega)
    obtain ⟨c, hc⟩ : ∃ c, grownCap w n 0 39 = c := ⟨_, rfl⟩
    rw [hc] at hrun hge hle
    obtain ⟨z, hz⟩ : ∃ z, Value.agg #[.int .i64 0, .int .i64 0, .int .i64 0, .int .i64 0] = z := ⟨_, rfl⟩
    obtain ⟨W, hW⟩ : ∃ W, w.drew.alloc (.cells (Builtin.zeroCells (Value.agg #[.int .i64 0, .int .i64 0, .int .i64 0, .int .i64 0]).cells n ++ Builtin.zeroCells (Value.agg #[.int .i64 0, .int .i64 0, .int .i64 0, .int .i64 0]).cells (c - n)) 39) = W := ⟨_, rfl⟩
    rw [hW] at hrun
    have hb : Below w.heap.size w W := by rw [← hW]; exact ((Below.refl _ w).drew).alloc (Nat.le_refl _) _
    have hown : W.ownsRow w.heap.size 39 4 (.slice (some ⟨w.heap.size, 0, none⟩) 0 c) 0 (flatE encC []) := by
      rw [← hW]
      refine ⟨rfl, .inr ⟨w.heap.size, c, _, rfl, Nat.le_refl _, heap_alloc_new w.drew _, Nat.zero_le _, hle, ?_, by simp [flatE]⟩⟩
      rw [Array.size_append, size_zeroCells, size_zeroCells]; simp [Value.cells]; omega
    unfold maxLen at hle
    have HB := Lib.hid hb; have HO := Lib.hid hown
    clear hc hW hb hown hi0 hz0 hz1 hz2 hz
    go_enter Try.func48, Try.ntmps48
    go_wp2
    go_ret
    exact ⟨_, _, rfl, HO.out, HB.out⟩
  · obtain rfl : n = 0 := by omega
    go_enter Try.func48, Try.ntmps48
    go_wp2
    go_ret
    exact ⟨_, _, rfl, World.ownsRow_nil _ _ _ _, Below.refl _ _⟩
theorem GatC.app {w wr : World} {L M : List Cl} {o : Value} (h : GatC w L o wr) (hl : L.length ≤ 100000) {B : Nat} {A : Option Addr} {n c : Nat} (hq : wr.ownsRow B 39 4 (.slice A n c) n (flatE encC M)) (hn : M.length = n) (hm : n ≤ 100000) :
    ∃ A' c' w', Sem.run Try.prog (appN #[31, 31] 31 #[o, .slice A n c]) wr = .ok (.slice A' (L.length + n) c') w' ∧ GatC w (L ++ M) (.slice A' (L.length + n) c') w' := by
  obtain ⟨i0, hi0, hz0, hz1, hz2⟩ := info_parts infoClaim
  subst hn
  rcases hq.2 with ⟨hv, h0⟩ | ⟨g, cap, cur, hv, hb, hg, h1, h2, h3, h4⟩
  · obtain rfl : M = [] := List.eq_nil_of_length_eq_zero h0
    injection hv with e1 e2 e3
    subst e1; subst e3
    obtain ⟨A', c', rfl, -⟩ := own_slice h.own
    exact ⟨A', c', wr, run_append_owned_none (P := Try.prog) wr w.heap.size 31 31 39 i0 4 Try.underlying31 hi0 _ L.length _ h.own, by simpa using h⟩
  · injection hv with e1 e2 e3
    subst e1; subst e3
    obtain ⟨v', w', hrun, hown, hgr, -, hloc⟩ := run_append_own_at (P := Try.prog) (w := wr) w.heap.size 31 31 39 i0 _ 4 32 Try.underlying31 hi0 hz0 hz1 hz2 rfl (by decide)
      o L.length _ h.own ⟨g, 0, none⟩ M.length c (flatE encC M) (by rw [flatE_len encC_len]) (fun j u hj => by
        have hlt := (List.getElem?_eq_some_iff.1 hj).1
        rw [flatE_len encC_len] at hlt
        have := hq.cellAt j hlt
        rw [Addr.add_lit, Nat.zero_add, this]
        exact hj) (fun u hu => by
        obtain ⟨q, _, hq2⟩ := List.mem_flatMap.1 hu
        exact encC_one q u hq2) (by unfold maxLen; omega) (by omega) h.b.size
    obtain ⟨A', c', rfl, -⟩ := own_slice hown
    refine ⟨A', c', w', hrun, ⟨?_, h.b.grown hgr h.b.size (fun r x => by have := own_ge h.own r x; omega)⟩⟩
    rw [flatE_append, List.length_append]
    exact hown
theorem flat_step {α : Type} {l : List (List α)} {k : Nat} {x : List α} (h : l[k]? = some x) : (l.take (k + 1)).flatten = (l.take k).flatten ++ x := by
  rw [List.take_add_one, h, Option.toList_some, List.flatten_append]; simp
theorem flat_bound {α : Type} {l : List (List α)} (h : ∀ x ∈ l, x.length ≤ 1000) : ∀ k, ((l.take k).flatten).length ≤ k * 1000
  | 0 => by simp
  | k + 1 => by
    have ih := flat_bound h k
    by_cases hk : k < l.length
    · have hq : l[k]? = some l[k] := List.getElem?_eq_getElem hk
      have h2 := h l[k] (List.getElem_mem _)
      rw [flat_step hq, List.length_append]
      omega
    · have e1 : l.take (k + 1) = l := List.take_of_length_le (by omega)
      have e2 : l.take k = l := List.take_of_length_le (by omega)
      rw [e2] at ih
      rw [e1]
      exact Nat.le_trans ih (Nat.mul_le_mul_right _ (Nat.le_succ k))
set_option maxRecDepth 100000 in
set_option maxHeartbeats 8000000 in
theorem concat_any (w : World) (g n : Nat) (s : Ac) (xs : List Value) (w0 : World) (h : AcS w g n s xs w0) (hl : ∀ x ∈ s.op, x.length ≤ 1000) :
    Calls Try.prog 40 #[.slice (some ⟨g, 9, none⟩) 8 8] w0 fun e w' => ∃ v, e = .returned v ∧ GatC w0 s.op.flatten v w' := by
  have HS := Lib.hid h
  have HL := Lib.hid hl
  have HFB := Lib.hid (flat_bound hl)
  have HGR := Lib.hid (fun n u h => grow_any n u h)
  clear h hl
  go_enter Try.func40, Try.ntmps40
  go_wp2
  go_loop [3, 5, 11] (fun u _ z => ∃ k : Nat, z = .int .i64 (k : Int) ∧ k ≤ 8 ∧ u = .int .i64 (((s.op.take k).flatten.length : Nat) : Int)) (fun _ _ z => 8 - (intOf z).toNat)
  case atStart => exact ⟨0, rfl, by omega, rfl⟩
  case round =>
    obtain ⟨k, rfl, hk, rfl⟩ := hrel
    have k0 : (0 : Int) ≤ (k : Int) := by omega
    have e7 : IntKind.i64.wrap ((k : Int) + 1) = (k : Int) + 1 := IntWalk.i64_in _ (by omega)
    have hfb := HFB.out k
    obtain ⟨X, hX⟩ : ∃ X, ((s.op.take k).flatten).length = X := ⟨_, rfl⟩
    by_cases hlt : k < 8
    · have k1 : (k : Int) < 8 := by omega
      obtain ⟨v, hv⟩ : ∃ v, xs[k]? = some v := ⟨_, List.getElem?_eq_getElem (by rw [HS.out.lx]; omega)⟩
      obtain ⟨L, hL⟩ : ∃ L, s.op[k]? = some L := ⟨_, List.getElem?_eq_getElem (by rw [HS.out.lo]; omega)⟩
      have hLl := HL.out L (List.mem_of_getElem? hL)
      have HN := Lib.hid (show ((s.op.take (k + 1)).flatten).length = X + L.length by rw [flat_step hL, List.length_append, hX])
      obtain ⟨Av, cv, rfl, -⟩ := own_slice (HS.out.own k v L hv hL)
      have z0 := HS.out.cellS hv
      have lg := HS.out.row.lt
      rw [hX] at hfb ⊢
      have i1 : ¬ ((X : Int) + (L.length : Int) < 0) := by omega
      clear hX hv hL
      go_wp2
      go_round
      case rel => exact ⟨k + 1, by go_num, by omega, by rw [HN.out]; go_num⟩
      case measure => simp [intOf]; omega
    · obtain rfl : k = 8 := by omega
      have HG := Lib.hid (HGR.out X w0 (by omega))
      rw [hX] at hfb ⊢
      clear hX
      go_wp2_with (go_at_call 48; refine HG.out.mono ?_; unfold GrowPost; rintro e w1 ⟨A1, c1, rfl, hown, hb⟩; have HG1 := Lib.hid (GatC.mk (L := []) hown hb); clear hown hb)
      go_loopw [6, 8, 27] (fun o _ z wi => ∃ k : Nat, z = .int .i64 (k : Int) ∧ k ≤ 8 ∧ Hid (GatC w0 ((s.op.take k).flatten) o wi)) (fun _ _ z _ => 8 - (intOf z).toNat)
      case atStart => exact ⟨0, rfl, by omega, HG1⟩
      case round =>
        obtain ⟨k, rfl, hk, HG⟩ := hrel
        have k0 : (0 : Int) ≤ (k : Int) := by omega
        have e7 : IntKind.i64.wrap ((k : Int) + 1) = (k : Int) + 1 := IntWalk.i64_in _ (by omega)
        by_cases hlt : k < 8
        · have k1 : (k : Int) < 8 := by omega
          have hS2 := HS.out.next HG.out.b
          obtain ⟨v, hv⟩ : ∃ v, xs[k]? = some v := ⟨_, List.getElem?_eq_getElem (by rw [HS.out.lx]; omega)⟩
          obtain ⟨L, hL⟩ : ∃ L, s.op[k]? = some L := ⟨_, List.getElem?_eq_getElem (by rw [HS.out.lo]; omega)⟩
          have hLl := HL.out L (List.mem_of_getElem? hL)
          have hox := hS2.own k v L hv hL
          obtain ⟨Av, cv, rfl, -⟩ := own_slice hox
          have z0 := hS2.cellS hv
          have lg := hS2.row.lt
          have HN := Lib.hid (flat_step hL)
          have HXB := Lib.hid (HFB.out k)
          obtain ⟨F, hF⟩ : ∃ F, (s.op.take k).flatten = F := ⟨_, rfl⟩
          rw [hF] at HG HN HXB
          obtain ⟨A5, c5, rfl, -⟩ := own_slice HG.out.own
          obtain ⟨A6, c6, w6, hrun, hG⟩ := HG.out.app (by have := HXB.out; omega) hox rfl (by omega)
          have HG6 := Lib.hid hG
          clear hG hS2 hv hL hox hF
          go_wp2
          go_roundw
          case rel => exact ⟨k + 1, by go_num, by omega, by rw [HN.out]; exact HG6⟩
          case measure => simp [intOf]; omega
        · obtain rfl : k = 8 := by omega
          have HE := Lib.hid (show (s.op.take 8).flatten = s.op.flatten by rw [List.take_of_length_le (by rw [HS.out.lo]; omega)])
          obtain ⟨A5, c5, ho5, -⟩ := own_slice HG.out.own
          subst ho5
          go_wp2
          go_ret
          exact ⟨_, rfl, by rw [← HE.out]; exact HG.out⟩
end Go.Proofs.Ytinhjobjlpkflaa
