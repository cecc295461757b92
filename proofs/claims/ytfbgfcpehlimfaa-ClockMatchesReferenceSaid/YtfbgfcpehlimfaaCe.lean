/- Contracts of narrow, bound and showing. -/
import Derived.Test.YtfbgfcpehlimfaaCd
namespace Go.Proofs.Ytfbgfcpehlimfaa
open Go.RowKit

theorem run_max2 {P : Program} {w : World} (ts : Array TypeId) (t : TypeId) (k k1 : IntKind) (x y n : Int) (h : max x y = n) :
    Sem.run P (Builtin.max_ ts t #[.int k x, .int k1 y]) w = .ok (.int k n) w := by
  have e : (if y > x then y else x) = n := by rw [← h]; split <;> omega
  rw [run_max_int2, e]
theorem run_min2 {P : Program} {w : World} (ts : Array TypeId) (t : TypeId) (k k1 : IntKind) (x y n : Int) (h : min x y = n) :
    Sem.run P (Builtin.min_ ts t #[.int k x, .int k1 y]) w = .ok (.int k n) w := by
  have e : (if y < x then y else x) = n := by rw [← h]; split <;> omega
  rw [run_min_int2, e]

def NarrowPost (Bx : Nat) (a b : Int) (w : World) (e : Ending) (w' : World) : Prop := e = .returned (.tuple #[]) ∧ Row w' Bx 62 #[.int .i64 a, .int .i64 b] ∧ Below Bx w w' ∧ w'.heap.size = w.heap.size ∧ ∀ k, k ≠ Bx → w'.heap[k]? = w.heap[k]?
set_option maxHeartbeats 1000000 in
theorem narrow_any (Bx : Nat) (a b f l : Int) (w : World) (h : Row w Bx 62 #[.int .i64 a, .int .i64 b]) :
    Calls Try.prog 43 #[.pointer (some ⟨Bx, 0, none⟩), .int .i64 f, .int .i64 l] w (NarrowPost Bx (max a f) (min b l) w) := by
  obtain ⟨m, hm⟩ : ∃ m, max a f = m := ⟨_, rfl⟩
  obtain ⟨n, hn⟩ : ∃ n, min b l = n := ⟨_, rfl⟩
  have hmx := fun (w : World) => run_max2 (P := Try.prog) (w := w) #[3, 3] 3 .i64 .i64 a f m hm
  have hmn := fun (w : World) => run_min2 (P := Try.prog) (w := w) #[3, 3] 3 .i64 .i64 b l n hn
  have c0 := h.cell 0
  have c1 := h.cell 1
  have f0 := h.free 0
  have f1 := h.free 1
  simp only [List.getElem?_toArray, List.getElem?_cons_zero, List.getElem?_cons_succ] at c0 c1
  have HP : Hid (NarrowPost Bx m n w (.returned (.tuple #[])) ((w.setCell ⟨Bx, 0, none⟩ (.int .i64 m)).setCell ⟨Bx, 1, none⟩ (.int .i64 n))) := Lib.hid ⟨rfl, by
    have := (h.put 0 (.int .i64 m)).put 1 (.int .i64 n)
    simpa using this, ((Below.refl Bx w).setCell (Nat.le_refl _) _).setCell (Nat.le_refl _) _, by simp, fun k hk => (Below.heap_setCell _ _ _ k hk).trans (Below.heap_setCell _ _ _ k hk)⟩
  rw [hm, hn]
  clear h hm hn
  go_enter Try.func43, Try.ntmps43
  go_wp2
  go_end0
  exact HP.out

theorem kept3 {wr w2 : World} {t : TypeId} {p q r : Value} (hb : Below (wr.alloc (.cells #[p, q, r] t)).heap.size (wr.alloc (.cells #[p, q, r] t)) w2) :
    w2.cell? ⟨wr.heap.size, 0, none⟩ = some p ∧ w2.cell? ⟨wr.heap.size, 1, none⟩ = some q ∧ w2.cell? ⟨wr.heap.size, 2, none⟩ = some r ∧ Below wr.heap.size wr w2 ∧ wr.heap.size + 1 ≤ w2.heap.size := by
  have h := (Row.new wr t #[p, q, r]).below hb (by simp)
  have hs := hb.size
  rw [World.size_alloc] at hs
  exact ⟨h.cell 0, h.cell 1, h.cell 2, ((Below.refl _ wr).alloc (Nat.le_refl _) _).trans (hb.mono (by simp)), hs⟩

def BoundPost (Bx : Nat) (a b : Int) (w : World) (e : Ending) (w' : World) : Prop := e = .returned (.tuple #[]) ∧ Row w' Bx 62 #[.int .i64 a, .int .i64 b] ∧ Below Bx w w' ∧ w.heap.size ≤ w'.heap.size
set_option maxRecDepth 100000 in
set_option maxHeartbeats 4000000 in
theorem bound_any (d t : Int) (rs : List Ca.R3) (A : Option Addr) (c Bx : Nat) (w : World) (hv : Recs enc3 3 w Bx (.slice A rs.length c) rs) (hva : Ca.valid d rs = true) (ht : Ca.isT t = true) (hB : Row w Bx 62 #[.int .i64 0, .int .i64 10000000]) :
    Calls Try.prog 42 #[.agg #[.int .i64 d, .slice A rs.length c], .int .i64 t, .func (.func 43) #[.pointer (some ⟨Bx, 0, none⟩)] #[]] w (BoundPost Bx (Ca.fst d t rs) (Ca.lst d t rs) w) := by
  obtain ⟨-, hc1, hc2⟩ := recs_cap hv
  obtain ⟨⟨d1, d2⟩, h12, -⟩ := (Ca.valid_iff d rs).1 hva
  obtain ⟨t1, t2⟩ := (Ca.isT_iff t).1 ht
  have hD := (Ca.isD_iff d).2 ⟨d1, d2⟩
  have HV := Lib.hid (fun k hk => recs_at hv k hk)
  have HF := Lib.hid (Ca.valid_fair hva)
  have hBl := hB.lt
  obtain ⟨N, hN⟩ : ∃ N, rs.length = N := ⟨_, rfl⟩
  have HN := Lib.hid hN
  have HD := Lib.hid hD
  rw [hN] at hc1 h12 ⊢
  have HB0 := Lib.hid hB
  clear hv hN hva hD hB ht
  go_enter Try.func42, Try.ntmps42
  go_wp2
  go_loopw [7, 8, 9, 13] (fun _ _ _ i wr => ∃ k : Nat, k ≤ N ∧ i = .int .i64 (k : Int) ∧ Row wr Bx 62 #[.int .i64 (Ca.fst d t (rs.take k)), .int .i64 (Ca.lst d t (rs.take k))] ∧ Below Bx w wr ∧ Row wr w.heap.size 24 #[.int .i64 d, .slice A N c]) (fun _ _ _ i _ => N - (intOf i).toNat)
  case atStart => exact ⟨0, by omega, rfl, HB0.out.alloc _, (Below.refl _ _).alloc (by omega) _, Row.new _ _ _⟩
  case round =>
    obtain ⟨k, hk, rfl, hrow, hbw, hbox⟩ := hrel
    by_cases hlt : k < N
    · have hkl : k < rs.length := by have := HN.out; omega
      obtain ⟨g, off, rfl, hg, hcell⟩ := HV.out k hkl
      obtain ⟨c0, c1, c2⟩ := cells3 hcell k hkl
      rw [← hbw.cell (p := ⟨g, off + k * 3, none⟩) hg] at c0
      rw [← hbw.cell (p := ⟨g, off + k * 3 + 1, none⟩) hg] at c1
      rw [← hbw.cell (p := ⟨g, off + k * 3 + 2, none⟩) hg] at c2
      have hfair := HF.out rs[k] (List.getElem_mem hkl)
      have htk : rs.take (k + 1) = rs.take k ++ [rs[k]] := List.take_succ_eq_append_getElem hkl
      have hfs := Ca.fst_snoc d t (rs.take k) rs[k]
      have hls := Ca.lst_snoc d t (rs.take k) rs[k]
      rw [← htk] at hfs hls
      obtain ⟨x, hx⟩ : ∃ x, rs[k] = x := ⟨_, rfl⟩
      rw [hx] at c0 c1 c2 hfair hfs hls
      obtain ⟨p, q, r⟩ := x
      obtain ⟨a1, a2, a3, a4, a5⟩ := hfair
      dsimp only at c0 c1 c2 a1 a2 a3 a4 a5
      have hbc := hbox.cell 0
      simp only [List.getElem?_toArray, List.getElem?_cons_zero] at hbc
      obtain ⟨n, hn⟩ : ∃ n, max (t - p) (p - t) = n := ⟨_, rfl⟩
      have hmx := fun (w : World) => run_max2 (P := Try.prog) (w := w) #[3, 3] 3 .i64 .i64 (t - p) (p - t) n hn
      have hsp := fun w => spread_any d n w
      rw [spr_ok HD.out ((Ca.isT_iff n).2 (by omega))] at hsp
      dsimp only at hsp
      have b1 := Ca.lo_nonneg d n d1 (by omega)
      have b2 := Ca.lo_hi d n d1 d2 (by omega)
      have b3 := Ca.hi_top d n d1 d2 (by omega) (by omega)
      obtain ⟨lo, hlo⟩ : ∃ lo, Ca.lo d n = lo := ⟨_, rfl⟩
      obtain ⟨hi, hhi⟩ : ∃ hi, Ca.hi d n = hi := ⟨_, rfl⟩
      rw [hlo] at hsp b1 b2
      rw [hhi] at hsp b2 b3
      obtain ⟨fa, hfa⟩ : ∃ fa, Ca.fst d t (rs.take k) = fa := ⟨_, rfl⟩
      obtain ⟨la, hla⟩ : ∃ la, Ca.lst d t (rs.take k) = la := ⟨_, rfl⟩
      rw [hfa] at hrow hfs
      rw [hla] at hrow hls
      have HROW := Lib.hid hrow; have HBW := Lib.hid hbw; have HBX := Lib.hid hbox; have HSP := Lib.hid hsp
      have i1 : (0 : Int) ≤ (k : Int) := by omega
      have i2 : (k : Int) < (N : Int) := by omega
      have hsz := hbw.size
      have hsz2 : w.heap.size < wr.heap.size := hbox.lt
      rcases Int.lt_trichotomy p t with h | h | h
      · have e0 : n = t - p := by omega
        subst e0
        have hnf : Ca.F d t (p, q, r) = q + lo := by unfold Ca.F; rw [if_pos (show t > p by omega)]; dsimp only; first | rw [hlo] | rw [hhi]
        have hnl : Ca.U d t (p, q, r) = r + hi := by unfold Ca.U; rw [if_pos (show t > p by omega)]; dsimp only; first | rw [hlo] | rw [hhi]
        rw [hnf] at hfs
        rw [hnl] at hls
        have HFS := Lib.hid hfs; have HLS := Lib.hid hls
        clear hfs hls hnf hnl hlo hhi
        have h2 : p < t := h
        go_wp2_with (first | (go_at_call 10; refine (HSP.out _).mono ?_; rintro e w2 ⟨rfl, hb2⟩; obtain ⟨q0, q1, q2, hb3, hz3⟩ := kept3 hb2; have hr3 := HROW.out.below hb3 (by omega); have HB3 := Lib.hid hb3; clear hb2 hb3) | (go_at_call 43; refine (narrow_any Bx fa la _ _ _ hr3).mono ?_; unfold NarrowPost; rintro e w4 ⟨rfl, hr4, hb4, hs4, hk4⟩))
        go_roundw
        case rel => exact ⟨k + 1, by omega, by go_num, by rw [HFS.out, HLS.out]; exact hr4, HBW.out.trans ((HB3.out.mono (by omega)).trans hb4), (hk4 _ (by omega)).trans (HBX.out.below HB3.out (by omega))⟩
        case measure => simp [intOf]; omega
      · have e0 : n = 0 := by omega
        subst e0
        have hnf : Ca.F d t (p, q, r) = q - hi := by unfold Ca.F; rw [if_neg (show ¬ t > p by omega), if_neg (show ¬ t < p by omega)]; dsimp only; rw [hhi]
        have hnl : Ca.U d t (p, q, r) = r + hi := by unfold Ca.U; rw [if_neg (show ¬ t > p by omega), if_neg (show ¬ t < p by omega)]; dsimp only; rw [hhi]
        rw [hnf] at hfs
        rw [hnl] at hls
        have HFS := Lib.hid hfs; have HLS := Lib.hid hls
        clear hfs hls hnf hnl hlo hhi
        have h2 : ¬ p < t := by omega
        have h3 : ¬ t < p := by omega
        go_wp2_with (first | (go_at_call 10; refine (HSP.out _).mono ?_; rintro e w2 ⟨rfl, hb2⟩; obtain ⟨q0, q1, q2, hb3, hz3⟩ := kept3 hb2; have hr3 := HROW.out.below hb3 (by omega); have HB3 := Lib.hid hb3; clear hb2 hb3) | (go_at_call 43; refine (narrow_any Bx fa la _ _ _ hr3).mono ?_; unfold NarrowPost; rintro e w4 ⟨rfl, hr4, hb4, hs4, hk4⟩))
        go_roundw
        case rel => exact ⟨k + 1, by omega, by go_num, by rw [HFS.out, HLS.out]; exact hr4, HBW.out.trans ((HB3.out.mono (by omega)).trans hb4), (hk4 _ (by omega)).trans (HBX.out.below HB3.out (by omega))⟩
        case measure => simp [intOf]; omega
      · have e0 : n = p - t := by omega
        subst e0
        have hnf : Ca.F d t (p, q, r) = q - hi := by unfold Ca.F; rw [if_neg (show ¬ t > p by omega), if_pos (show t < p by omega)]; dsimp only; first | rw [hlo] | rw [hhi]
        have hnl : Ca.U d t (p, q, r) = r - lo := by unfold Ca.U; rw [if_neg (show ¬ t > p by omega), if_pos (show t < p by omega)]; dsimp only; first | rw [hlo] | rw [hhi]
        rw [hnf] at hfs
        rw [hnl] at hls
        have HFS := Lib.hid hfs; have HLS := Lib.hid hls
        clear hfs hls hnf hnl hlo hhi
        have h2 : ¬ p < t := by omega
        go_wp2_with (first | (go_at_call 10; refine (HSP.out _).mono ?_; rintro e w2 ⟨rfl, hb2⟩; obtain ⟨q0, q1, q2, hb3, hz3⟩ := kept3 hb2; have hr3 := HROW.out.below hb3 (by omega); have HB3 := Lib.hid hb3; clear hb2 hb3) | (go_at_call 43; refine (narrow_any Bx fa la _ _ _ hr3).mono ?_; unfold NarrowPost; rintro e w4 ⟨rfl, hr4, hb4, hs4, hk4⟩))
        go_roundw
        case rel => exact ⟨k + 1, by omega, by go_num, by rw [HFS.out, HLS.out]; exact hr4, HBW.out.trans ((HB3.out.mono (by omega)).trans hb4), (hk4 _ (by omega)).trans (HBX.out.below HB3.out (by omega))⟩
        case measure => simp [intOf]; omega
    · have hta : rs.take k = rs := List.take_of_length_le (by have := HN.out; omega)
      rw [hta] at hrow
      have HROW := Lib.hid hrow; have HBW := Lib.hid hbw
      clear hrow hbw hta hbox
      go_wp2
      go_end0
      exact ⟨rfl, HROW.out, HBW.out, HBW.out.size⟩

/-- What a clock may show: the clock's own readings, valid. -/
structure Clk (w : World) (v : Value) (d : Int) (rs : List Ca.R3) : Prop where
  form : ∃ A c, v = .agg #[.int .i64 d, .slice A rs.length c] ∧ Recs enc3 3 w w.heap.size (.slice A rs.length c) rs
theorem Clk.next {w w' : World} {v : Value} {d : Int} {rs : List Ca.R3} (h : Clk w v d rs) (hb : Below w.heap.size w w') : Clk w' v d rs := by
  obtain ⟨A, c, h1, h2⟩ := h.form
  exact ⟨A, c, h1, h2.next hb⟩
set_option maxRecDepth 100000 in
set_option maxHeartbeats 1000000 in
theorem showing_any (d t : Int) (rs : List Ca.R3) (v : Value) (w : World) (hv : Clk w v d rs) (hva : Ca.valid d rs = true) (ht : Ca.isT t = true) :
    Calls Try.prog 35 #[v, .int .i64 t] w fun e w' => e = .returned (.agg #[.int .i64 (Ca.fst d t rs), .int .i64 (Ca.lst d t rs)]) ∧ Below w.heap.size w w' := by
  obtain ⟨A, c, rfl, hr⟩ := hv.form
  obtain ⟨w0, hw0⟩ : ∃ w0, ((w.alloc (.cells #[.int .i64 d, .slice A rs.length c] 24)).alloc (.cells #[.int .i64 0, .int .i64 0] 62)).alloc (.cells #[.int .i64 0, .int .i64 10000000] 62) = w0 := ⟨_, rfl⟩
  have hs0 : w0.heap.size = w.heap.size + 1 + 1 + 1 := by rw [← hw0]; simp
  have hb0 : Below w.heap.size w w0 := by rw [← hw0]; exact (((Below.refl _ w).alloc (Nat.le_refl _) _).alloc (by simp) _).alloc (by simp; omega) _
  have hrow : Row w0 (w.heap.size + 1 + 1) 62 #[.int .i64 0, .int .i64 10000000] := by
    have := Row.new ((w.alloc (.cells #[.int .i64 d, .slice A rs.length c] 24)).alloc (.cells #[.int .i64 0, .int .i64 0] 62)) 62 #[.int .i64 0, .int .i64 10000000]
    rw [hw0] at this; simpa using this
  have hres : Row w0 (w.heap.size + 1) 62 #[.int .i64 0, .int .i64 0] := by
    have := (Row.new (w.alloc (.cells #[.int .i64 d, .slice A rs.length c] 24)) 62 #[.int .i64 0, .int .i64 0]).alloc (.cells #[.int .i64 0, .int .i64 10000000] 62)
    rw [hw0] at this; simpa using this
  have hbox : Row w0 w.heap.size 24 #[.int .i64 d, .slice A rs.length c] := by
    rw [← hw0]; exact ((Row.new w _ _).alloc _).alloc _
  have cb0 := hbox.cell 0
  have cb1 := hbox.cell 1
  simp only [List.getElem?_toArray, List.getElem?_cons_zero, List.getElem?_cons_succ] at cb0 cb1
  have hcb := bound_any d t rs A c (w.heap.size + 1 + 1) w0 ((hr.below hb0).more (by omega)) hva ht hrow
  obtain ⟨f, hf⟩ : ∃ f, Ca.fst d t rs = f := ⟨_, rfl⟩
  obtain ⟨l, hl⟩ : ∃ l, Ca.lst d t rs = l := ⟨_, rfl⟩
  rw [hf, hl] at hcb ⊢
  obtain ⟨N, hN⟩ : ∃ N, rs.length = N := ⟨_, rfl⟩
  rw [hN] at hcb hw0 cb1 ⊢
  have HCB := Lib.hid hcb; have HB0 := Lib.hid hb0; have HS0 := Lib.hid hs0; have HRES := Lib.hid hres
  clear hcb hr hv hva ht hf hl hN hb0 hrow hs0 hres hbox
  go_enter Try.func35, Try.ntmps35
  go_wp2_with (go_at_call 42; refine HCB.out.mono ?_; unfold BoundPost; rintro e w1 ⟨rfl, hr1, hb1, hs1⟩; have c0 := hr1.cell 0; have c1 := hr1.cell 1; simp only [List.getElem?_toArray, List.getElem?_cons_zero, List.getElem?_cons_succ] at c0 c1; have hq := HRES.out.below hb1 (by omega); have q0 := hq.free 0; have q1 := hq.free 1; have q2 := hq.cell 0; have q3 := hq.cell 1; simp only [List.getElem?_toArray, List.getElem?_cons_zero, List.getElem?_cons_succ] at q2 q3; have HQ := Lib.hid hq; have HB1 := Lib.hid hb1; clear hq hb1 hr1)
  have hfin : Row ((w1.setCell ⟨w.heap.size + 1, 0, none⟩ (.int .i64 f)).setCell ⟨w.heap.size + 1, 1, none⟩ (.int .i64 l)) (w.heap.size + 1) 62 #[.int .i64 f, .int .i64 l] := by
    have := (HQ.out.put 0 (.int .i64 f)).put 1 (.int .i64 l)
    simpa using this
  refine bodyPost_ret (results_cell_row rfl _ _ (w.heap.size + 1) 62 #[.int .i64 f, .int .i64 l] (0, 0) _ rfl hfin Try.underlying62 rfl (by kernel_rfl)) rfl ⟨rfl, ?_⟩
  exact (HB0.out.trans (HB1.out.mono (by omega))).trans (((Below.refl _ _).setCell (Nat.le_succ _) _).setCell (Nat.le_succ _) _)
end Go.Proofs.Ytfbgfcpehlimfaa
