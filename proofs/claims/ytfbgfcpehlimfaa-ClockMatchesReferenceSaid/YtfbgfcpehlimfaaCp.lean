/- Contract of the reference's bounds. -/
import Derived.Test.YtfbgfcpehlimfaaCo
namespace Go.Proofs.Ytfbgfcpehlimfaa
open Go.RowKit

set_option maxRecDepth 100000 in
set_option maxHeartbeats 4000000 in
theorem rbounds_any (d t : Int) (rs : List Ca.R3) (v : Value) (w : World) (hv : Clk w v d rs) (hva : Ca.valid d rs = true) (ht : Ca.isT t = true) :
    Calls Try.prog 36 #[v, .int .i64 t] w fun e w' => e = .returned (.tuple #[.int .i64 (Ca.fst d t rs), .int .i64 (Ca.lst d t rs)]) ∧ Below w.heap.size w w' := by
  obtain ⟨A, c, rfl, hr⟩ := hv.form
  obtain ⟨-, hc1, hc2⟩ := recs_cap hr
  obtain ⟨⟨d1, d2⟩, h12, -⟩ := (Ca.valid_iff d rs).1 hva
  obtain ⟨t1, t2⟩ := (Ca.isT_iff t).1 ht
  have HV := Lib.hid (fun k hk => recs_at hr k hk)
  have HF := Lib.hid (Ca.valid_fair hva)
  obtain ⟨N, hN⟩ : ∃ N, rs.length = N := ⟨_, rfl⟩
  have HN := Lib.hid hN
  rw [hN] at hc1 h12 ⊢
  clear hv hr hN hva ht
  go_enter Try.func36, Try.ntmps36
  go_wp2
  go_loopw [6, 7, 8, 9, 10, 11, 12, 13, 14, 15] (fun a b i _ _ _ _ _ _ _ wr => ∃ k : Nat, k ≤ N ∧ i = .int .i64 (k : Int) ∧ a = .int .i64 (Ca.fst d t (rs.take k)) ∧ b = .int .i64 (Ca.lst d t (rs.take k)) ∧ Below w.heap.size w wr ∧ Row wr w.heap.size 24 #[.int .i64 d, .slice A N c]) (fun _ _ i _ _ _ _ _ _ _ _ => N - (intOf i).toNat)
  case atStart => exact ⟨0, by omega, rfl, rfl, rfl, (Below.refl _ _).alloc (by omega) _, Row.new _ _ _⟩
  case round =>
    obtain ⟨k, hk, rfl, rfl, rfl, hbw, hbox⟩ := hrel
    have hb0 := hbox.cell 0
    have hb1 := hbox.cell 1
    simp only [List.getElem?_toArray, List.getElem?_cons_zero, List.getElem?_cons_succ] at hb0 hb1
    have hsz := hbw.size
    have hsz2 : w.heap.size < wr.heap.size := hbox.lt
    by_cases hlt : k < N
    · have hkl : k < rs.length := by have := HN.out; omega
      obtain ⟨g, off, rfl, hg, hcell⟩ := HV.out k hkl
      obtain ⟨c0, c1, c2⟩ := cells3 hcell k hkl
      rw [← hbw.cell (p := ⟨g, off + k * 3, none⟩) hg] at c0
      rw [← hbw.cell (p := ⟨g, off + k * 3 + 1, none⟩) hg] at c1
      rw [← hbw.cell (p := ⟨g, off + k * 3 + 2, none⟩) hg] at c2
      have hfair := HF.out rs[k] (List.getElem_mem hkl)
      have htk : rs.take (k + 1) = rs.take k ++ [rs[k]] := List.take_succ_eq_append_getElem hkl
      have hfs := Ca.fst_snoc d t (rs.take k) rs[k]
      have hls := Ca.lst_snoc d t (rs.take k) rs[k]
      rw [← htk] at hfs hls
      obtain ⟨x, hx⟩ : ∃ x, rs[k] = x := ⟨_, rfl⟩
      rw [hx] at c0 c1 c2 hfair hfs hls
      obtain ⟨p, q, r⟩ := x
      obtain ⟨a1, a2, a3, a4, a5⟩ := hfair
      dsimp only at c0 c1 c2 a1 a2 a3 a4 a5
      obtain ⟨n, hn⟩ : ∃ n, max (t - p) (p - t) = n := ⟨_, rfl⟩
      have hsp := fun w => rspread_ok d n w d1 d2 (by omega) (by omega)
      have b1 := Ca.lo_nonneg d n d1 (by omega)
      have b2 := Ca.lo_hi d n d1 d2 (by omega)
      have b3 := Ca.hi_top d n d1 d2 (by omega) (by omega)
      obtain ⟨lo, hlo⟩ : ∃ lo, Ca.lo d n = lo := ⟨_, rfl⟩
      obtain ⟨hi, hhi⟩ : ∃ hi, Ca.hi d n = hi := ⟨_, rfl⟩
      rw [hlo, hhi] at hsp
      rw [hlo] at b1 b2
      rw [hhi] at b2 b3
      obtain ⟨fa, hfa⟩ : ∃ fa, Ca.fst d t (rs.take k) = fa := ⟨_, rfl⟩
      obtain ⟨la, hla⟩ : ∃ la, Ca.lst d t (rs.take k) = la := ⟨_, rfl⟩
      rw [hfa] at hfs ⊢
      rw [hla] at hls ⊢
      have HBW := Lib.hid hbw; have HBX := Lib.hid hbox; have HSP := Lib.hid hsp
      have i1 : (0 : Int) ≤ (k : Int) := by omega
      have i2 : (k : Int) < (N : Int) := by omega
      clear hbw hbox hsp hcell htk hx hfa hla
      rcases Int.lt_trichotomy p t with h | h | h
      · have e0 : n = t - p := by omega
        subst e0
        have hnf : Ca.F d t (p, q, r) = q + lo := by unfold Ca.F; rw [if_pos (show t > p by omega)]; dsimp only; first | rw [hlo] | rw [hhi]
        have hnl : Ca.U d t (p, q, r) = r + hi := by unfold Ca.U; rw [if_pos (show t > p by omega)]; dsimp only; first | rw [hlo] | rw [hhi]
        rw [hnf] at hfs
        rw [hnl] at hls
        obtain ⟨x1, hx1⟩ : ∃ x1, max fa (q + lo) = x1 := ⟨_, rfl⟩
        obtain ⟨x2, hx2⟩ : ∃ x2, min la (r + hi) = x2 := ⟨_, rfl⟩
        have hmx := fun (w : World) => run_max2 (P := Try.prog) (w := w) #[3, 3] 3 .i64 .i64 fa (q + lo) x1 hx1
        have hmn := fun (w : World) => run_min2 (P := Try.prog) (w := w) #[3, 3] 3 .i64 .i64 la (r + hi) x2 hx2
        rw [hx1] at hfs
        rw [hx2] at hls
        have HFS := Lib.hid hfs; have HLS := Lib.hid hls
        clear hfs hls hnf hnl hlo hhi hn hx1 hx2
        have h2 : p < t := h
        have h3 : (t == p) = false := by rw [beq_eq_false_iff_ne]; omega
        go_wp2_with (go_at_call 11; refine (HSP.out _).mono ?_; rintro e w2 ⟨rfl, rfl⟩)
        go_roundw
        case rel => exact ⟨k + 1, by omega, by go_num, by rw [HFS.out], by rw [HLS.out], HBW.out.alloc hsz _, HBX.out.alloc _⟩
        case measure => simp [intOf]; omega
      · have e0 : n = 0 := by omega
        subst e0
        have hnf : Ca.F d t (p, q, r) = q - hi := by unfold Ca.F; rw [if_neg (show ¬ t > p by omega), if_neg (show ¬ t < p by omega)]; dsimp only; rw [hhi]
        have hnl : Ca.U d t (p, q, r) = r + hi := by unfold Ca.U; rw [if_neg (show ¬ t > p by omega), if_neg (show ¬ t < p by omega)]; dsimp only; rw [hhi]
        rw [hnf] at hfs
        rw [hnl] at hls
        obtain ⟨x1, hx1⟩ : ∃ x1, max fa (q - hi) = x1 := ⟨_, rfl⟩
        obtain ⟨x2, hx2⟩ : ∃ x2, min la (r + hi) = x2 := ⟨_, rfl⟩
        have hmx := fun (w : World) => run_max2 (P := Try.prog) (w := w) #[3, 3] 3 .i64 .i64 fa (q - hi) x1 hx1
        have hmn := fun (w : World) => run_min2 (P := Try.prog) (w := w) #[3, 3] 3 .i64 .i64 la (r + hi) x2 hx2
        rw [hx1] at hfs
        rw [hx2] at hls
        have HFS := Lib.hid hfs; have HLS := Lib.hid hls
        clear hfs hls hnf hnl hlo hhi hn hx1 hx2
        have h3 : (t == p) = true := by rw [beq_iff_eq]; omega
        clear h
        go_wp2_with (go_at_call 11; refine (HSP.out _).mono ?_; rintro e w2 ⟨rfl, rfl⟩)
        go_roundw
        case rel => exact ⟨k + 1, by omega, by go_num, by rw [HFS.out], by rw [HLS.out], HBW.out.alloc hsz _, HBX.out.alloc _⟩
        case measure => simp [intOf]; omega
      · have e0 : n = p - t := by omega
        subst e0
        have hnf : Ca.F d t (p, q, r) = q - hi := by unfold Ca.F; rw [if_neg (show ¬ t > p by omega), if_pos (show t < p by omega)]; dsimp only; first | rw [hlo] | rw [hhi]
        have hnl : Ca.U d t (p, q, r) = r - lo := by unfold Ca.U; rw [if_neg (show ¬ t > p by omega), if_pos (show t < p by omega)]; dsimp only; first | rw [hlo] | rw [hhi]
        rw [hnf] at hfs
        rw [hnl] at hls
        obtain ⟨x1, hx1⟩ : ∃ x1, max fa (q - hi) = x1 := ⟨_, rfl⟩
        obtain ⟨x2, hx2⟩ : ∃ x2, min la (r - lo) = x2 := ⟨_, rfl⟩
        have hmx := fun (w : World) => run_max2 (P := Try.prog) (w := w) #[3, 3] 3 .i64 .i64 fa (q - hi) x1 hx1
        have hmn := fun (w : World) => run_min2 (P := Try.prog) (w := w) #[3, 3] 3 .i64 .i64 la (r - lo) x2 hx2
        rw [hx1] at hfs
        rw [hx2] at hls
        have HFS := Lib.hid hfs; have HLS := Lib.hid hls
        clear hfs hls hnf hnl hlo hhi hn hx1 hx2
        have h2 : ¬ p < t := by omega
        have h3 : (t == p) = false := by rw [beq_eq_false_iff_ne]; omega
        go_wp2_with (go_at_call 11; refine (HSP.out _).mono ?_; rintro e w2 ⟨rfl, rfl⟩)
        go_roundw
        case rel => exact ⟨k + 1, by omega, by go_num, by rw [HFS.out], by rw [HLS.out], HBW.out.alloc hsz _, HBX.out.alloc _⟩
        case measure => simp [intOf]; omega
    · have hta : rs.take k = rs := List.take_of_length_le (by have := HN.out; omega)
      rw [hta]
      have HBW := Lib.hid hbw
      obtain ⟨fa, hfa⟩ : ∃ fa, Ca.fst d t rs = fa := ⟨_, rfl⟩
      obtain ⟨la, hla⟩ : ∃ la, Ca.lst d t rs = la := ⟨_, rfl⟩
      rw [hfa, hla]
      have HFA := Lib.hid hfa; have HLA := Lib.hid hla
      clear hbw hta hbox hfa hla
      go_wp2
      go_ret2
      exact ⟨by rw [HFA.out, HLA.out]; rfl, HBW.out⟩
end Go.Proofs.Ytfbgfcpehlimfaa
