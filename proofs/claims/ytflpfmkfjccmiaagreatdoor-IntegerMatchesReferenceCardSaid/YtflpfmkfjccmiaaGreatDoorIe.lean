/- Contracts of plus, minus, times, square and timesGroup of magnitudes. -/
import Derived.Test.YtflpfmkfjccmiaaGreatDoorId
import Derived.Test.YtflpfmkfjccmiaaGreatDoorIw
import Derived.Laws.CopyOwn
namespace Go.Proofs.YtflpfmkfjccmiaaGreatDoor
open Go.RowKit

/-- Copy under a name that the walk doesn't unfold. -/
def copyN (ts : Array TypeId) (t : TypeId) (vs : Array Value) := Builtin.copy_ ts t vs
theorem copy_copyN (ts : Array TypeId) (t : TypeId) (vs : Array Value) : Builtin.copy_ ts t vs = copyN ts t vs := rfl
attribute [local go_sem ↓] copy_copyN

theorem copy_ints (l : List Int) (A : Option Addr) (c N : Nat) (w0 : World) (hv : Ints w0 w0.heap.size (.slice A l.length c) l) (hN : l.length ≤ N) :
    ∃ W' : World, Sem.run Tryz.prog (copyN #[38, 45] 3 #[.slice (some ⟨w0.heap.size, 0, none⟩) N N, .slice A l.length c]) (w0.alloc (.cells (intRow (List.replicate N 0)) 3)) = .ok (.int .i64 (l.length : Int)) W' ∧
      Arr W' w0.heap.size (l ++ List.replicate (N - l.length) 0) ∧ Below w0.heap.size w0 W' := by
  have hb0 : Below w0.heap.size w0 (w0.alloc (.cells (intRow (List.replicate N 0)) 3)) := (Below.refl _ w0).alloc (Nat.le_refl _) _
  have hsz : (Tryz.prog.info? 3).map (·.size) = some 1 := by kernel_rfl
  have hrow := Row.new w0 3 (intRow (List.replicate N 0))
  obtain ⟨A', c', h1, h2, h3, h4⟩ := hv
  injection h1 with e1 e2 e3
  subst e1; subst e3
  by_cases h0 : l.length = 0
  · obtain rfl : l = [] := List.eq_nil_of_length_eq_zero h0
    refine ⟨_, run_copy_none (P := Tryz.prog) _ 38 45 3 3 _ A N N 0 c Tryz.underlying38 hsz (by simp), ?_, hb0⟩
    rw [List.nil_append, List.length_nil, Nat.sub_zero]
    exact Arr.of_row hrow
  · rcases h4 with ⟨_, rfl⟩ | ⟨g, off, rfl, hg, hc⟩
    · simp at h0
    · have := run_copy_row (P := Tryz.prog) (w0.alloc (.cells (intRow (List.replicate N 0)) 3)) 38 45 3 3 w0.heap.size 0 N N ⟨g, off, none⟩ l.length c (intRow (List.replicate N 0)) 3 (intCells l)
        Tryz.underlying38 hsz hrow (by rw [intCells_len]; exact (Nat.min_eq_left hN).symm) (fun j x hj => by
          rw [show (⟨g, off, none⟩ : Addr).add j = ⟨g, off + j, none⟩ from by unfold Addr.add; split <;> simp_all]
          simp only [intCells, List.getElem?_map, Option.map_eq_some_iff] at hj
          obtain ⟨y, hy, rfl⟩ := hj
          exact (hb0.cell (p := ⟨g, off + j, none⟩) hg).trans (hc j y hy)) (by rw [intCells_len, intRow_size, List.length_replicate]; omega)
        (fun x hx => by obtain ⟨t, _, rfl⟩ := List.mem_map.1 hx; rfl)
      rw [intCells_len] at this
      refine ⟨_, this, ?_, ?_⟩
      · have e : ((intRow (List.replicate N 0)).toList.take 0 ++ intCells l ++ (intRow (List.replicate N 0)).toList.drop (0 + l.length)).toArray = intRow (l ++ List.replicate (N - l.length) 0) := by
          simp [intRow, intCells]
        rw [e]
        exact Arr.of_row (setRow_heap _ _ _ _ _ _ hrow)
      · exact below_setRow hb0 (Nat.le_refl _) _

theorem run_max2 {P : Program} {w : World} (ts : Array TypeId) (t : TypeId) (k k1 : IntKind) (x y n : Int) (h : max x y = n) :
    Sem.run P (Builtin.max_ ts t #[.int k x, .int k1 y]) w = .ok (.int k n) w := by
  have e : (if y > x then y else x) = n := by split <;> omega
  simp [Builtin.max_, Builtin.max2, e]
theorem run_min2 {P : Program} {w : World} (ts : Array TypeId) (t : TypeId) (k k1 : IntKind) (x y n : Int) (h : min x y = n) :
    Sem.run P (Builtin.min_ ts t #[.int k x, .int k1 y]) w = .ok (.int k n) w := by
  have e : (if y < x then y else x) = n := by split <;> omega
  simp [Builtin.min_, Builtin.min2, e]

set_option maxRecDepth 100000 in
set_option maxHeartbeats 1000000 in
theorem plus_any (va vb : Value) (a b : Nat) (w : World) (ha : Mag w va a) (hb : Mag w vb b) (la : (Im.grp a).length ≤ 400) (lb : (Im.grp b).length ≤ 400) :
    Calls Tryz.prog 55 #[va, vb] w (MagPost (a + b) w) := by
  obtain ⟨A, ca, rfl, hca1, hca2⟩ := ints_form ha
  obtain ⟨B, cb, rfl, hcb1, hcb2⟩ := ints_form hb
  obtain ⟨M, hM⟩ : ∃ M, max (Im.grp a).length (Im.grp b).length = M := ⟨_, rfl⟩
  have hlt := Im.plus_lt a b M (by omega) (by omega)
  obtain ⟨W, hrun, harr, hbW⟩ := copy_ints (Im.grp a) A ca (M + 1) w ha (by omega)
  have hst := Im.colI_start 1 a (M + 1) (Im.grp b) (by omega)
  have hgs := Im.grp_gs b
  have HV := Lib.hid (fun k hk => ints_at (hb.below hbW) k hk)
  have hcar := fun L v u hv hl hc hval hn => carried_any L (a + b) v u hv hl hc hval hn
  have hgb := Im.grp_val b
  obtain ⟨la', hla⟩ : ∃ n, (Im.grp a).length = n := ⟨_, rfl⟩
  obtain ⟨gb, hgbe⟩ : ∃ g, Im.grp b = g := ⟨_, rfl⟩
  rw [hgbe] at hM hgs hst HV hgb hcb1 lb ⊢
  rw [hla] at hrun harr hM hca1 la hst ⊢
  obtain ⟨N, hN⟩ : ∃ n, gb.length = n := ⟨_, rfl⟩
  rw [hN] at hM hcb1 lb ⊢
  have hmx := fun (w : World) => run_max2 (P := Tryz.prog) (w := w) #[3, 3] 3 .i64 .i64 la' N M (by omega)
  have hmk : ∀ w, (Instr.makeSlice 38 (.int .i64 ((M : Int) + 1)) (.int .i64 ((M : Int) + 1))).run Tryz.prog w = .ok (.slice (some ⟨w.heap.size, 0, none⟩) (M + 1) (M + 1)) (w.alloc (.cells (intRow (List.replicate (M + 1) 0)) 3)) := fun w => mk_int (M + 1) (M + 1) w (Nat.le_refl _) (by omega)
  obtain ⟨L0, hL0⟩ : ∃ L, Im.grp a ++ List.replicate (M + 1 - la') 0 = L := ⟨_, rfl⟩
  rw [hL0] at harr hst
  have HST := Lib.hid hst; have HARR := Lib.hid harr; have HB := Lib.hid hbW; have HGS := Lib.hid hgs; have HN := Lib.hid hN; have HLT := Lib.hid hlt; have HCAR := Lib.hid hcar; have HGB := Lib.hid hgb
  have hM2 : M ≤ 400 := by omega
  have hNM : N ≤ M := by omega
  clear hst harr hbW hgs hN hlt hcar hM hL0 ha hb hla hgbe hgb
  go_enter Tryz.func55, Tryz.ntmps55
  go_wp2
  clear hrun hmk hmx
  go_loopw [6, 7, 20] (fun _ _ i wr => ∃ (k : Nat) (L : List Int), k ≤ N ∧ i = .int .i64 (k : Int) ∧ Hid (Im.ColI 1 a gb (M + 1) k L) ∧ Hid (Arr wr w.heap.size L) ∧ Hid (Below w.heap.size w wr)) (fun _ _ i _ => N - (intOf i).toNat)
  case atStart => exact ⟨0, L0, by omega, rfl, HST, HARR, HB⟩
  case round =>
    obtain ⟨k, L, hk, rfl, HI, HA, HW⟩ := hrel
    by_cases hlt : k < N
    · have hkl : k < gb.length := by have := HN.out; omega
      obtain ⟨g, off, rfl, hg, hcell⟩ := HV.out k hkl
      have c0 : wr.cell? ⟨g, off + k, none⟩ = some (.int .i64 (gb.getD k 0)) := by
        have h1 := hcell k hkl
        rw [HB.out.cell (p := ⟨g, off + k, none⟩) hg] at h1
        exact (HW.out.cell (p := ⟨g, off + k, none⟩) hg).trans h1
      have hkL : k < L.length := by have := HI.out.len; omega
      have c1 := HA.out.cell k hkL
      have f1 := HA.out.free k
      have hgy := Im.gs_getD HGS.out k
      have hgx := HI.out.rest k (by omega) (Nat.le_refl _)
      have hstep := Im.colI_step HI.out (.inl rfl) HGS.out hkl (by omega)
      have hput := HA.out.put k hkL (L.getD k 0 + 1 * gb.getD k 0)
      rw [Int.one_mul] at hstep hput
      obtain ⟨x, hx⟩ : ∃ x, L.getD k 0 = x := ⟨_, rfl⟩
      obtain ⟨y, hy⟩ : ∃ x, gb.getD k 0 = x := ⟨_, rfl⟩
      rw [hx] at c1 hgx hstep hput; rw [hy] at c0 hgy hstep hput
      obtain ⟨gx1, gx2⟩ := hgx
      obtain ⟨gy1, gy2⟩ := hgy
      have HS := Lib.hid hstep; have HP := Lib.hid hput
      clear hstep hput hx hy hcell hkl hkL
      have i1 : (0 : Int) ≤ (k : Int) := by omega
      have i2 : (k : Int) < (N : Int) := by omega
      have i3 : (k : Int) < (M : Int) + 1 := by omega
      have i4 : (k : Int) < ((M + 1 : Nat) : Int) := by omega
      go_wp2
      go_roundw
      case rel => exact ⟨k + 1, L.set k (x + y), by omega, by go_num, HS, HP, Lib.hid (HW.out.setCell (by simp) _)⟩
      case measure => simp [intOf]; omega
    · obtain rfl : k = N := by omega
      have hI := HI.out
      have hv := hI.val
      rw [List.take_of_length_le (by have := HN.out; omega), HGB.out] at hv
      have hcr := HCAR.out L (.slice (some ⟨w.heap.size, 0, none⟩) (M + 1) (M + 1)) wr (by have := HA.out.ints (c := M + 1) (by rw [hI.len]; exact Nat.le_refl _) (by unfold maxLen; omega); rwa [hI.len] at this) (by rw [hI.len]; omega) (Im.colI_small hI) (by rw [hv]; omega)
        (by rw [hI.len]; exact Im.cast_lt HLT.out)
      have HC := Lib.hid hcr
      clear hI hv hcr hlt
      go_wp2_with (go_at_call 74; refine HC.out.mono ?_; unfold MagPost; rintro e w2 ⟨v2, rfl, hm2, hb2⟩)
      go_ret
      exact ⟨_, rfl, hm2, below_to HW.out hb2⟩
end Go.Proofs.YtflpfmkfjccmiaaGreatDoor
