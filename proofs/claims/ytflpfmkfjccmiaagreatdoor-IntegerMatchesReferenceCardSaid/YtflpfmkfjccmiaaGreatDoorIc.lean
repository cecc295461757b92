/- Contracts of fold with carried's function, and of carried. -/
import Derived.Test.YtflpfmkfjccmiaaGreatDoorIb
namespace Go.Proofs.YtflpfmkfjccmiaaGreatDoor
open Go.RowKit

theorem made_int (N : Nat) : madeCells #[.int .i64 0] N = intRow (List.replicate N 0) := by
  apply Array.ext
  · rw [size_madeCells, intRow_size, List.length_replicate]
  · intro i h1 h2
    simp [madeCells, intRow, Nat.mod_one]
def FoldPost (Bx base : Nat) (l : List Int) (w : World) (e : Ending) (w' : World) : Prop := (∃ c : Int, e = .returned (.int .i64 c)) ∧ OwnBox w' Bx base l ∧ Below base w w'

set_option maxRecDepth 100000 in
set_option maxHeartbeats 1000000 in
theorem foldc_any (cols : List Int) (v : Value) (Bx base : Nat) (w : World) (hv : Ints w base v cols) (hb : OwnBox w Bx base []) (hB : base ≤ Bx) (hBw : base ≤ w.heap.size) (hl : cols.length ≤ 1000)
    (hc : ∀ x ∈ cols, -1000000000000000 ≤ x ∧ x ≤ 1000000000000000) :
    Calls Tryz.prog 96 #[v, .int .i64 0, .func (.func 97) #[] #[.pointer (some ⟨Bx, 0, none⟩)]] w (FoldPost Bx base (Im.car cols 0).2 w) := by
  obtain ⟨A, c, rfl, hc1, hc2⟩ := ints_form hv
  obtain ⟨N, hN⟩ : ∃ N, cols.length = N := ⟨_, rfl⟩
  have HV := Lib.hid (fun k hk => ints_at hv k hk)
  have HN := Lib.hid hN
  have HC := Lib.hid hc
  rw [hN] at hc1 hl ⊢
  clear hv hN hc
  go_enter Tryz.func96, Tryz.ntmps96
  go_wp2
  go_loopw [1, 8, 11] (fun s _ i wr => ∃ k : Nat, k ≤ N ∧ i = .int .i64 (k : Int) ∧ s = .int .i64 (Im.car (cols.take k) 0).1 ∧ OwnBox wr Bx base (Im.car (cols.take k) 0).2 ∧ Below base w wr) (fun _ _ i _ => N - (intOf i).toNat)
  case atStart => exact ⟨0, by omega, rfl, rfl, hb, Below.refl _ _⟩
  case round =>
    obtain ⟨k, hk, rfl, rfl, hbx, hbw⟩ := hrel
    have hsm := Im.car_small (cols.take k) 0 1000000000000000 (fun x hx => HC.out x (List.mem_of_mem_take hx)) (by omega) (by omega) (by omega)
    have hln : (Im.car (cols.take k) 0).2.length ≤ 1000 := by rw [Im.car_len, List.length_take]; omega
    by_cases hlt : k < N
    · have hkl : k < cols.length := by have := HN.out; omega
      obtain ⟨g, off, rfl, hg, hcell⟩ := HV.out k hkl
      have c0 := (hbw.cell (p := ⟨g, off + k, none⟩) hg).trans (hcell k hkl)
      have hx := HC.out cols[k] (List.getElem_mem hkl)
      have hxe : cols.getD k 0 = cols[k] := by rw [List.getD_eq_getElem?_getD, List.getElem?_eq_getElem hkl]; rfl
      have htk : cols.take (k + 1) = cols.take k ++ [cols[k]] := List.take_succ_eq_append_getElem hkl
      have hsn := Im.car_snoc (cols.take k) 0 cols[k]
      rw [← htk] at hsn
      rw [hxe] at c0
      obtain ⟨x, hxx⟩ : ∃ x, cols[k] = x := ⟨_, rfl⟩
      rw [hxx] at c0 hx hsn
      obtain ⟨p, hp⟩ : ∃ p, Im.car (cols.take k) 0 = p := ⟨_, rfl⟩
      rw [hp] at hbx hsm hln hsn ⊢
      obtain ⟨cr, l⟩ := p
      dsimp only at hbx hsm hln hsn ⊢
      have hst := step_any cr x Bx base l wr hbx hB (by have := hbw.size; omega) hln (by omega) (by omega) hx.1 hx.2
      have ST := Lib.hid hst; have HSN := Lib.hid hsn; have HBW := Lib.hid hbw
      clear hst hsn hbw hbx hsm hln hcell hxe htk hxx hp hx
      have i1 : (0 : Int) ≤ (k : Int) := by omega
      have i2 : (k : Int) < (N : Int) := by omega
      go_wp2_with (go_at_call 97; refine ST.out.mono ?_; unfold StepPost; rintro e w1 ⟨rfl, hbx1, hb1⟩)
      go_roundw
      case rel => exact ⟨k + 1, by omega, by go_num, by rw [HSN.out], by rw [HSN.out]; exact hbx1, HBW.out.trans hb1⟩
      case measure => simp [intOf]; omega
    · have hta : cols.take k = cols := List.take_of_length_le (by have := HN.out; omega)
      rw [hta] at hbx
      have HBX := Lib.hid hbx
      clear hsm hln hta hbx
      go_wp2
      go_ret
      exact ⟨⟨_, rfl⟩, HBX.out, hbw⟩

theorem mk_int (len cap : Nat) (w : World) (hlc : len ≤ cap) (hc : cap ≤ 100000) : (Instr.makeSlice 38 (.int .i64 (len : Int)) (.int .i64 (cap : Int))).run Tryz.prog w = .ok (.slice (some ⟨w.heap.size, 0, none⟩) len cap) (w.alloc (.cells (intRow (List.replicate cap 0)) 3)) := by
  obtain ⟨i0, hi0, hz0, hz1, hz2⟩ := info_parts Tryz.infoInt
  have := run_make (P := Tryz.prog) w 38 3 i0 (.int .i64 0) Tryz.underlying38 hi0 hz0 .i64 .i64 (len : Int) (cap : Int) (by omega) (by omega) (by rw [hz2]; omega) (by omega)
  rw [hz1, Int.toNat_natCast, Int.toNat_natCast, Nat.mul_one, show (Value.int .i64 0).cells = #[.int .i64 0] from rfl, made_int] at this
  exact this
theorem made_own (w : World) (N : Nat) (hN : N ≤ 100000) : (w.alloc (.cells (intRow (List.replicate N 0)) 3)).ownsRow w.heap.size 3 1 (.slice (some ⟨w.heap.size, 0, none⟩) 0 N) 0 [] :=
  ⟨rfl, .inr ⟨w.heap.size, N, intRow (List.replicate N 0), rfl, Nat.le_refl _, heap_alloc_new w _, by omega, by unfold maxLen; omega, by simp [intRow], rfl⟩⟩

set_option maxRecDepth 100000 in
set_option maxHeartbeats 1000000 in
theorem carried_any (cols : List Int) (n : Nat) (v : Value) (w : World) (hv : Ints w w.heap.size v cols) (hl : cols.length ≤ 1000) (hc : ∀ x ∈ cols, -1000000000000000 ≤ x ∧ x ≤ 1000000000000000)
    (hval : Im.val cols = n) (hn : (n : Int) < 10000 ^ cols.length) :
    Calls Tryz.prog 74 #[v] w (MagPost n w) := by
  have hgr := Im.car_grp cols n hval hn
  have hgs := Im.car_gs cols 0
  have hcl := Im.car_len cols 0
  have hf := fun Bx W hb hw => foldc_any cols v Bx w.heap.size W hb hw
  obtain ⟨A, c, rfl, hc1, hc2⟩ := ints_form hv
  obtain ⟨N, hN⟩ : ∃ N, cols.length = N := ⟨_, rfl⟩
  rw [hN] at hc1 hl hcl hf ⊢
  have hmk : ∀ w, (Instr.makeSlice 38 (.int .i64 0) (.int .i64 (N : Int))).run Tryz.prog w = .ok (.slice (some ⟨w.heap.size, 0, none⟩) 0 N) (w.alloc (.cells (intRow (List.replicate N 0)) 3)) := fun w => mk_int 0 N w (by omega) (by omega)
  obtain ⟨W, hW⟩ : ∃ W, (w.alloc (.cells (intRow (List.replicate N 0)) 3)).alloc (.cells #[.slice (some ⟨w.heap.size, 0, none⟩) 0 N] 38) = W := ⟨_, rfl⟩
  have hb0 : Below w.heap.size w W := by rw [← hW]; exact ((Below.refl _ w).alloc (Nat.le_refl _) _).alloc (by simp) _
  have hsz : W.heap.size = w.heap.size + 2 := by rw [← hW]; simp
  have hbx : OwnBox W (w.heap.size + 1) w.heap.size [] := by
    rw [← hW]
    refine ⟨_, ?_, (made_own w N (by omega)).alloc _⟩
    have := Row.new (w.alloc (.cells (intRow (List.replicate N 0)) 3)) 38 #[.slice (some ⟨w.heap.size, 0, none⟩) 0 N]
    rw [World.size_alloc] at this; exact this
  have hff := hf (w.heap.size + 1) W (hN ▸ hv.below hb0) hbx (by omega) (by omega) hl hc
  have HF := Lib.hid hff; have HB0 := Lib.hid hb0; have HW := Lib.hid hW
  have HG := Lib.hid hgr; have HGS := Lib.hid hgs; have HCL := Lib.hid hcl; have HSZ := Lib.hid hsz
  clear hf hff hb0 hbx hW hgr hgs hcl hv hc hval hn hN hsz
  go_enter Tryz.func74, Tryz.ntmps74
  go_wp2_with (go_at_call 96; rw [HW.out]; refine HF.out.mono ?_; unfold FoldPost; rintro e w1 ⟨⟨c1, rfl⟩, ⟨vb, hbox, hrow⟩, hb1⟩; have hc0 := hbox.cell; have HROW := Lib.hid hrow; have HB1 := Lib.hid hb1; clear hrow hb1 hbox)
  have hii := ints_of_own HROW.out rfl
  obtain ⟨A1, cc, rfl⟩ := own_slice HROW.out
  have htr := trimmed_any _ A1 cc w1 hii
  have HII := Lib.hid hii
  have HT := Lib.hid htr
  clear hii htr
  go_wp2_with (go_at_call 67; refine HT.out.mono ?_; rintro e w2 ⟨rfl, rfl⟩)
  go_ret
  refine ⟨_, rfl, ?_, HB0.out.trans HB1.out⟩
  have := ints_pre HII.out _ (Im.trim_len_le _)
  rw [← Im.trim_take, HG.out] at this
  rw [HG.out]; exact this
end Go.Proofs.YtflpfmkfjccmiaaGreatDoor
