/- Contracts of minus, times, square and timesGroup of magnitudes. -/
import Derived.Test.YtflpfmkfjccmiaaGreatDoorIe
namespace Go.Proofs.YtflpfmkfjccmiaaGreatDoor
open Go.RowKit

theorem magPost_nil {n : Nat} (h : n = 0) (w : World) : MagPost n w (.returned (.slice none 0 0)) w := by
  subst h; exact ⟨_, rfl, ints_nil _ _, Below.refl _ _⟩

set_option maxRecDepth 100000 in
set_option maxHeartbeats 1000000 in
theorem minus_any (va vb : Value) (a b : Nat) (w : World) (ha : Mag w va a) (hb : Mag w vb b) (hab : b ≤ a) (la : (Im.grp a).length ≤ 400) :
    Calls Tryz.prog 57 #[va, vb] w (MagPost (a - b) w) := by
  have hlen := Im.len_mono hab
  have hcl := clone_any (Im.grp a) va w ha (by omega)
  have hst := Im.colI_own (-1) a (Im.grp b)
  have hgs := Im.grp_gs b
  have hgb := Im.grp_val b
  have halt := Im.grp_lt a
  have hcar := fun L v u hv hl hc hval hn => carried_any L (a - b) v u hv hl hc hval hn
  obtain ⟨A, ca, rfl, hca1, hca2⟩ := ints_form ha
  obtain ⟨B, cb, rfl, hcb1, hcb2⟩ := ints_form hb
  have HV := Lib.hid (fun k hk => ints_at hb k hk)
  obtain ⟨ga, hga⟩ : ∃ g, Im.grp a = g := ⟨_, rfl⟩
  obtain ⟨gb, hgbe⟩ : ∃ g, Im.grp b = g := ⟨_, rfl⟩
  rw [hga] at hlen hcl hst hca1 la halt ⊢
  rw [hgbe] at hlen hst hgs HV hgb hcb1 ⊢
  obtain ⟨M, hM⟩ : ∃ n, ga.length = n := ⟨_, rfl⟩
  obtain ⟨N, hN⟩ : ∃ n, gb.length = n := ⟨_, rfl⟩
  rw [hM] at hlen hcl hst hca1 la halt ⊢; rw [hN] at hlen hcb1 ⊢
  have HST := Lib.hid hst; have HGS := Lib.hid hgs; have HN := Lib.hid hN; have HCAR := Lib.hid hcar; have HGB := Lib.hid hgb; have HCL := Lib.hid hcl; have HALT := Lib.hid halt; have HMM := Lib.hid hM
  clear hst hgs hN hcar hgb hcl halt hM ha hb hga hgbe
  go_enter Tryz.func57, Tryz.ntmps57
  go_wp2_with (go_at_call 77; refine HCL.out.mono ?_; unfold OwnInts; rintro e W ⟨v, rfl, hown, hbW⟩; have HO := Lib.hid hown; have HB := Lib.hid hbW; clear hown hbW)
  by_cases hN0 : N = 0
  · have hv := HST.out.val
    obtain ⟨A1, c1, rfl⟩ := own_slice HO.out
    have hown := HO.out
    rw [HMM.out] at hown
    obtain ⟨hk1, hk2, hk3⟩ := ints_cap (ints_of_own hown HMM.out)
    have hcr := HCAR.out ga (.slice A1 ga.length c1) W (ints_of_own HO.out rfl) (by rw [HMM.out]; omega) (Im.colI_small HST.out) (by rw [hv, List.take_zero]; have := HGB.out; rw [List.eq_nil_of_length_eq_zero (show gb.length = 0 by rw [HN.out]; exact hN0)] at this; simp [Im.val] at this ⊢; omega)
      (by have := HALT.out; rw [HMM.out]; exact Im.cast_lt (Nat.lt_of_le_of_lt (Nat.sub_le _ _) this))
    subst hN0
    have HC := Lib.hid hcr
    clear hv hown hk1 hk2 hk3 hcr
    go_wp2
    go_loopw [6, 7, 12] (fun _ _ i wr => i = .int .i64 0 ∧ wr = W) (fun _ _ _ _ => 0)
    case atStart => exact ⟨rfl, rfl⟩
    case round =>
      obtain ⟨rfl, rfl⟩ := hrel
      go_wp2_with (go_at_call 74; refine HC.out.mono ?_; unfold MagPost; rintro e w2 ⟨v2, rfl, hm2, hb2⟩)
      go_ret
      exact ⟨_, rfl, hm2, below_to HB.out hb2⟩
  · obtain ⟨g0, c0, rfl, harr, hge, hgc, hgm, hgl⟩ := Arr.of_own HO.out (by have := HMM.out; omega)
    unfold maxLen at hgm
    have HA0 := Lib.hid harr
    rw [HMM.out] at hgc
    have hM0 := HMM.out
    have HGE := Lib.hid hge
    clear harr hgl HO
    rw [hM0]
    clear hM0
    go_wp2
    go_loopw [6, 7, 12] (fun _ _ i wr => ∃ (k : Nat) (L : List Int), k ≤ N ∧ i = .int .i64 (k : Int) ∧ Hid (Im.ColI (-1) a gb M k L) ∧ Hid (Arr wr g0 L) ∧ Hid (Below w.heap.size w wr)) (fun _ _ i _ => N - (intOf i).toNat)
    case atStart => exact ⟨0, ga, by omega, rfl, HST, HA0, HB⟩
    case round =>
      obtain ⟨k, L, hk, rfl, HI, HA, HW⟩ := hrel
      by_cases hlt : k < N
      · have hkl : k < gb.length := by have := HN.out; omega
        obtain ⟨g, off, rfl, hg, hcell⟩ := HV.out k hkl
        have c0 := (HW.out.cell (p := ⟨g, off + k, none⟩) hg).trans (hcell k hkl)
        have hkL : k < L.length := by have := HI.out.len; omega
        have c1 := HA.out.cell k hkL
        have f1 := HA.out.free k
        have hgy := Im.gs_getD HGS.out k
        have hgx := HI.out.rest k (by omega) (Nat.le_refl _)
        have hstep := Im.colI_step HI.out (.inr rfl) HGS.out hkl (by omega)
        have e1 : L.getD k 0 + -1 * gb.getD k 0 = L.getD k 0 - gb.getD k 0 := by omega
        have hput := HA.out.put k hkL (L.getD k 0 - gb.getD k 0)
        rw [e1] at hstep
        obtain ⟨x, hx⟩ : ∃ x, L.getD k 0 = x := ⟨_, rfl⟩
        obtain ⟨y, hy⟩ : ∃ x, gb.getD k 0 = x := ⟨_, rfl⟩
        rw [hx] at c1 hgx hstep hput; rw [hy] at c0 hgy hstep hput
        obtain ⟨gx1, gx2⟩ := hgx
        obtain ⟨gy1, gy2⟩ := hgy
        have HS := Lib.hid hstep; have HP := Lib.hid hput
        clear hstep hput hx hy hcell hkl hkL e1
        have i1 : (0 : Int) ≤ (k : Int) := by omega
        have i2 : (k : Int) < (N : Int) := by omega
        have i3 : (k : Int) < (M : Int) := by omega
        go_wp2
        go_roundw
        case rel => exact ⟨k + 1, L.set k (x - y), by omega, by go_num, HS, HP, Lib.hid (HW.out.setCell HGE.out _)⟩
        case measure => simp [intOf]; omega
      · obtain rfl : k = N := by omega
        have hI := HI.out
        have hv := hI.val
        rw [List.take_of_length_le (by have := HN.out; omega), HGB.out] at hv
        have hcr := HCAR.out L (.slice (some ⟨g0, 0, none⟩) M c0) wr (by have := HA.out.ints (c := c0) (by rw [hI.len]; exact hgc) (by unfold maxLen; omega); rwa [hI.len] at this) (by rw [hI.len]; omega) (Im.colI_small hI) (by rw [hv]; omega)
          (by rw [hI.len]; exact Im.cast_lt (Nat.lt_of_le_of_lt (Nat.sub_le _ _) HALT.out))
        have HC := Lib.hid hcr
        clear hI hv hcr hlt
        go_wp2_with (go_at_call 74; refine HC.out.mono ?_; unfold MagPost; rintro e w2 ⟨v2, rfl, hm2, hb2⟩)
        go_ret
        exact ⟨_, rfl, hm2, below_to HW.out hb2⟩

set_option maxRecDepth 100000 in
set_option maxHeartbeats 2000000 in
theorem times_any (va vb : Value) (a b : Nat) (w : World) (ha : Mag w va a) (hb : Mag w vb b) (la : (Im.grp a).length ≤ 400) (lb : (Im.grp b).length ≤ 400) :
    Calls Tryz.prog 59 #[va, vb] w (MagPost (a * b) w) := by
  obtain ⟨A, ca, rfl, hca1, hca2⟩ := ints_form ha
  obtain ⟨B, cb, rfl, hcb1, hcb2⟩ := ints_form hb
  have hlt := Im.times_lt a b
  have HVA := Lib.hid (fun k hk => ints_at ha k hk)
  have HVB := Lib.hid (fun k hk => ints_at hb k hk)
  have hgsa := Im.grp_gs a
  have hgsb := Im.grp_gs b
  have hend := fun (N : Nat) (L : List Int) => Im.mulI_end (a := a) (b := b) (N := N) (L := L)
  have hcar := fun L v u hv hl hc hval hn => carried_any L (a * b) v u hv hl hc hval hn
  obtain ⟨ga, hga⟩ : ∃ g, Im.grp a = g := ⟨_, rfl⟩
  obtain ⟨gb, hgb⟩ : ∃ g, Im.grp b = g := ⟨_, rfl⟩
  rw [hga] at hlt HVA hgsa hend hca1 la ⊢
  rw [hgb] at hlt HVB hgsb hend hcb1 lb ⊢
  obtain ⟨M, hM⟩ : ∃ n, ga.length = n := ⟨_, rfl⟩
  obtain ⟨N, hN⟩ : ∃ n, gb.length = n := ⟨_, rfl⟩
  rw [hM] at hlt hend hca1 la ⊢; rw [hN] at hlt hcb1 lb ⊢
  have hmk : ∀ w, (Instr.makeSlice 38 (.int .i64 ((M : Int) + (N : Int))) (.int .i64 ((M : Int) + (N : Int)))).run Tryz.prog w = .ok (.slice (some ⟨w.heap.size, 0, none⟩) (M + N) (M + N)) (w.alloc (.cells (intRow (List.replicate (M + N) 0)) 3)) := fun w => mk_int (M + N) (M + N) w (Nat.le_refl _) (by omega)
  have HST := Lib.hid (Im.mulI_start ga gb (M + N))
  have HARR := Lib.hid (Arr.of_row (Row.new w 3 (intRow (List.replicate (M + N) 0))))
  have HB := Lib.hid ((Below.refl w.heap.size w).alloc (Nat.le_refl _) (.cells (intRow (List.replicate (M + N) 0)) 3))
  have HM := Lib.hid hM; have HN := Lib.hid hN; have HLT := Lib.hid hlt; have HCAR := Lib.hid hcar; have HEND := Lib.hid hend; have HGA := Lib.hid hgsa; have HGB := Lib.hid hgsb
  clear hM hN hlt hcar hend hgsa hgsb ha hb hga hgb
  go_enter Tryz.func59, Tryz.ntmps59
  go_wp2
  clear hmk
  go_loopw [6, 7, 8, 9, 18, 23, 24, 25] (fun _ _ _ _ i _ _ _ wr => ∃ (k : Nat) (L : List Int), k ≤ M ∧ i = .int .i64 (k : Int) ∧ Hid (Im.MulI ga gb (M + N) k 0 L) ∧ Hid (Arr wr w.heap.size L) ∧ Hid (Below w.heap.size w wr)) (fun _ _ _ _ i _ _ _ _ => M - (intOf i).toNat)
  case atStart => exact ⟨0, _, by omega, rfl, HST, HARR, HB⟩
  case round =>
    obtain ⟨i, L, hi, rfl, HI, HA, HW⟩ := hrel
    by_cases hlt : i < M
    · have hil : i < ga.length := by have := HM.out; omega
      obtain ⟨g, off, rfl, hg, hcell⟩ := HVA.out i hil
      have c0 := (HW.out.cell (p := ⟨g, off + i, none⟩) hg).trans (hcell i hil)
      have hgx := Im.gs_getD HGA.out i
      obtain ⟨x, hx⟩ : ∃ x, ga.getD i 0 = x := ⟨_, rfl⟩
      rw [hx] at c0 hgx
      have HX := Lib.hid hx
      obtain ⟨gx1, gx2⟩ := hgx
      clear hcell hx hil
      have i1 : (0 : Int) ≤ (i : Int) := by omega
      have i2 : (i : Int) < (M : Int) := by omega
      obtain ⟨wo, hwo⟩ : ∃ wo : World, wo = wr := ⟨_, rfl⟩
      subst hwo
      go_wp2
      go_loopw [8, 9, 25] (fun _ _ jj wr => ∃ (j : Nat) (L : List Int), j ≤ N ∧ jj = .int .i64 (j : Int) ∧ Hid (Im.MulI ga gb (M + N) i j L) ∧ Hid (Arr wr w.heap.size L) ∧ Hid (Below w.heap.size w wr)) (fun _ _ jj _ => N - (intOf jj).toNat)
      case atStart => exact ⟨0, L, by omega, rfl, HI, HA, HW⟩
      case round =>
        obtain ⟨j, L, hj, rfl, HI, HA, HW⟩ := hrel
        by_cases hltj : j < N
        · have hjl : j < gb.length := by have := HN.out; omega
          obtain ⟨g2, off2, rfl, hg2, hcell2⟩ := HVB.out j hjl
          have c1 := (HW.out.cell (p := ⟨g2, off2 + j, none⟩) hg2).trans (hcell2 j hjl)
          have hkL : i + j < L.length := by have := HI.out.len; omega
          have c2 := HA.out.cell (i + j) hkL
          have f2 := HA.out.free (i + j)
          have hgy := Im.gs_getD HGB.out j
          have hgz := Im.mulI_cell HI.out (by omega) (by omega) (by have := HN.out; omega) (i + j) (by omega)
          have hstep := Im.mulI_step HI.out HGA.out HGB.out hjl (by omega)
          have hput := HA.out.put (i + j) hkL (L.getD (i + j) 0 + ga.getD i 0 * gb.getD j 0)
          rw [HX.out] at hstep hput
          obtain ⟨z, hz⟩ : ∃ x, L.getD (i + j) 0 = x := ⟨_, rfl⟩
          obtain ⟨y, hy⟩ : ∃ x, gb.getD j 0 = x := ⟨_, rfl⟩
          rw [hz] at c2 hgz hstep hput; rw [hy] at c1 hgy hstep hput
          obtain ⟨gy1, gy2⟩ := hgy
          obtain ⟨gz1, gz2⟩ := hgz
          have hp1 : 0 ≤ x * y := Int.mul_nonneg gx1 gy1
          have hp2 : x * y ≤ 9999 * 9999 := Int.mul_le_mul gx2 gy2 gy1 (by omega)
          obtain ⟨p, hp⟩ : ∃ p, x * y = p := ⟨_, rfl⟩
          rw [hp] at hstep hput hp1 hp2
          have hw1 : IntKind.i64.wrap p = p := IntWalk.i64_in _ (by omega)
          have hw2 : IntKind.i64.wrap (x * y) = p := by rw [hp]; exact hw1
          have hw3 : IntKind.i64.wrap (z + p) = z + p := IntWalk.i64_in _ (by omega)
          have HS := Lib.hid hstep; have HP := Lib.hid hput
          clear hstep hput hz hy hcell2 hjl hkL
          have j1 : (0 : Int) ≤ (j : Int) := by omega
          have j2 : (j : Int) < (N : Int) := by omega
          have j3 : (i : Int) + (j : Int) < (M : Int) + (N : Int) := by omega
          have j4 : (0 : Int) ≤ (i : Int) + (j : Int) := by omega
          have j5 : ((i : Int) + (j : Int)).toNat = i + j := by omega
          have j6 : (i : Int) + (j : Int) < ((M + N : Nat) : Int) := by omega
          go_wp2
          go_roundw
          case rel => exact ⟨j + 1, L.set (i + j) (z + p), by omega, by go_num, HS, HP, Lib.hid (HW.out.setCell (Nat.le_refl _) _)⟩
          case measure => simp [intOf]; omega
        · obtain rfl : j = N := by omega
          have HI2 := Lib.hid (Im.mulI_row (N := M + j) (i := i) (L := L) (ga := ga) (gb := gb) (by rw [HN.out]; exact HI.out) (by rw [HM.out]; exact hlt))
          clear hltj
          go_wp2
          go_roundw
          case rel => exact ⟨i + 1, L, by omega, by go_num, HI2, HA, HW⟩
          case measure => simp [intOf]; omega
    · obtain rfl : i = M := by omega
      have hI := HI.out
      have hv := HEND.out _ _ hI
      have hcr := HCAR.out L (.slice (some ⟨w.heap.size, 0, none⟩) (i + N) (i + N)) wr (by have := HA.out.ints (c := i + N) (by rw [hI.len]; exact Nat.le_refl _) (by unfold maxLen; omega); rwa [hI.len] at this) (by rw [hI.len]; omega) (Im.mulI_small hI (by omega) (by omega) (by rw [HN.out]; omega)) hv
        (by rw [hI.len]; exact Im.cast_lt HLT.out)
      have HC := Lib.hid hcr
      clear hI hv hcr hlt
      go_wp2_with (go_at_call 74; refine HC.out.mono ?_; unfold MagPost; rintro e w2 ⟨v2, rfl, hm2, hb2⟩)
      go_ret
      exact ⟨_, rfl, hm2, below_to HW.out hb2⟩

set_option maxHeartbeats 400000 in
theorem square_any (va : Value) (a : Nat) (w : World) (ha : Mag w va a) (la : (Im.grp a).length ≤ 400) :
    Calls Tryz.prog 68 #[va] w (MagPost (a * a) w) := by
  have H := Lib.hid (times_any va va a a w ha ha la la)
  go_enter Tryz.func68, Tryz.ntmps68
  go_wp2_with (go_at_call 59; refine H.out.mono ?_; unfold MagPost; rintro e w1 ⟨v1, rfl, hm, hb⟩)
  go_ret
  exact ⟨_, rfl, hm, hb⟩

set_option maxHeartbeats 400000 in
theorem timesGroup_any (va : Value) (a g : Nat) (w : World) (ha : Mag w va a) (la : (Im.grp a).length ≤ 400) (hg : g < 10000) :
    Calls Tryz.prog 78 #[va, .int .i64 (g : Int)] w (MagPost (a * g) w) := by
  obtain ⟨W, hW⟩ : ∃ W, w.alloc (.cells #[.int .i64 (g : Int)] 3) = W := ⟨_, rfl⟩
  have hb0 : Below w.heap.size w W := by rw [← hW]; exact (Below.refl _ w).alloc (Nat.le_refl _) _
  have hii : Ints W W.heap.size (.slice (some ⟨w.heap.size, 0, none⟩) [(g : Int)].length 1) [(g : Int)] := by
    rw [← hW]; exact ints_of_row (l := [(g : Int)]) (Row.new w 3 _) (by simp)
  have hgs : Im.Gs [(g : Int)] := Im.Gs.cons (by omega) (by omega) Im.Gs.nil
  have htr := trimmed_any [(g : Int)] (some ⟨w.heap.size, 0, none⟩) 1 W hii
  have hmg := trimmed_ints hii g hgs (by simp [Im.val])
  have htm := times_any va _ a g W (ha.next hb0) hmg la (by have := Im.grp_len g 1 (by omega); omega)
  have HW := Lib.hid hW; have HT := Lib.hid htr; have HM := Lib.hid htm; have HB := Lib.hid hb0
  clear hW htr htm hb0 hii hmg hgs ha
  go_enter Tryz.func78, Tryz.ntmps78
  go_wp2_with (first | (go_at_call 67; rw [HW.out]; refine HT.out.mono ?_; rintro e w1 ⟨rfl, rfl⟩) | (go_at_call 59; refine HM.out.mono ?_; unfold MagPost; rintro e w1 ⟨v1, rfl, hm, hb⟩))
  go_ret
  exact ⟨_, rfl, hm, below_to HB.out hb⟩
end Go.Proofs.YtflpfmkfjccmiaaGreatDoor
