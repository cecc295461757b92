/- Contract of Agree. -/
import Derived.Test.YtfbgfcpehlimfaaCj
import Derived.Laws.ResultCell
namespace Go.Proofs.Ytfbgfcpehlimfaa
open Go.RowKit

theorem results_ct {fn : Func} {p u : Tmp} (h : fn.results = #[.cell p 32, .tmp u]) (tmps : Array Value) (w : World) (g : Nat) (x y : Int)
    (hp : tmps.getD p undef = .pointer (some ⟨g, 0, none⟩)) (hg : Row w g 32 #[.int .i64 x, .int .i64 y]) :
    (results fn tmps).run Try.prog w = .ok (.tuple #[.agg #[.int .i64 x, .int .i64 y], tmps.getD u undef]) w := by
  have e := run_loadVar_row (P := Try.prog) w g 32 32 #[.int .i64 x, .int .i64 y] (0, 0) _ hg Try.underlying32 rfl (by kernel_rfl)
  rw [results_cell_tmp h, hp]
  simp [asAddr, Result.andThen, e]
def AgrPost (l : List (Int × Int)) (w : World) (e : Ending) (w' : World) : Prop :=
  ∃ f t k : Int, e = .returned (.tuple #[.agg #[.int .i64 f, .int .i64 t], .int .i64 k]) ∧ Cb.Agr l f t k ∧ 0 ≤ k ∧ k ≤ l.length ∧ Below w.heap.size w w'
/-- Between two rounds. -/
def AgI (o : List (Int × Int)) (k b : Nat) (w2 : World) (m : Int) (wr : World) : Prop :=
  ∃ f t : Int, Cb.Best o k f t m ∧ Row wr b 32 #[.int .i64 f, .int .i64 t] ∧ But b w2.heap.size w2 wr
set_option maxRecDepth 100000 in
set_option maxHeartbeats 4000000 in
theorem agree_any (l : List (Int × Int)) (v : Value) (w : World) (hv : Recs enc2 2 w w.heap.size v l) (hl : l.length ≤ 1000) :
    Calls Try.prog 12 #[v] w (AgrPost l w) := by
  obtain ⟨w0, hw0⟩ : ∃ w0, ((w.alloc (.cells #[.int .i64 0, .int .i64 0] 32)).alloc (.cells #[.int .i64 0, .int .i64 0] 32)) = w0 := ⟨_, rfl⟩
  have hs0 : w0.heap.size = w.heap.size + 1 + 1 := by rw [← hw0]; simp
  have hb0 : Below w.heap.size w w0 := by rw [← hw0]; exact ((Below.refl _ w).alloc (Nat.le_refl _) _).alloc (by simp) _
  have hrA : Row w0 w.heap.size 32 #[.int .i64 0, .int .i64 0] := by rw [← hw0]; exact (Row.new w _ _).alloc _
  have hrB : Row w0 (w.heap.size + 1) 32 #[.int .i64 0, .int .i64 0] := by
    have := Row.new (w.alloc (.cells #[.int .i64 0, .int .i64 0] 32)) 32 #[.int .i64 0, .int .i64 0]
    rw [hw0] at this; simpa using this
  have hlv := levels_any l v w0 ((hv.below hb0).more (by omega)) hl
  obtain ⟨A0, c0, rfl, -, -⟩ := recs_form hv
  obtain ⟨N0, hN0⟩ : ∃ N0, l.length = N0 := ⟨_, rfl⟩
  have HN0 := Lib.hid hN0
  have HLV := Lib.hid hlv; have HB0 := Lib.hid hb0; have HRA := Lib.hid hrA; have HRB := Lib.hid hrB
  rw [hN0] at HLV ⊢
  clear hlv hb0 hrA hrB hv hN0
  go_enter Try.func12, Try.ntmps12
  go_wp2_with (go_at_call 32; refine HLV.out.mono ?_; unfold LvPost; rintro e w2 ⟨u, c, o, rfl, hp, hlv, hr, hb, hge⟩; have hz := hb.size; have HLEN := Lib.hid hlv.len; have HCL := Lib.hid (Cb.chg_len l); have HPL := Lib.hid hp.length_eq; obtain ⟨A, cap, rfl, hc1, hc2⟩ := recs_form hr; have HR := Lib.hid (fun k hk => recs_at hr k hk); have HP := Lib.hid hp; have HL := Lib.hid hlv; have HB := Lib.hid hb; have HGE := Lib.hid hge; have HA2 := Lib.hid (HRA.out.below hb (by omega)); have HB2 := Lib.hid (HRB.out.below hb (by omega)); clear hp hlv hr hb hge; obtain ⟨N, hNN⟩ : ∃ N, o.length = N := ⟨_, rfl⟩; have HN := Lib.hid hNN; rw [hNN] at hc1; have hN2 : N ≤ 2000 := (by have := HLEN.out; have := HCL.out; have := HPL.out; have := HN0.out; omega); rw [hNN]; clear hNN)
  go_loopw [5, 7, 8, 13] (fun m _ _ i wr => ∃ (k : Nat) (x : Int), k ≤ N ∧ i = .int .i64 (k : Int) ∧ m = .int .i64 x ∧ Hid (AgI o k (w.heap.size + 1) w2 x wr)) (fun _ _ _ i _ => N - (intOf i).toNat)
  case atStart => exact ⟨0, 0, by omega, rfl, rfl, Lib.hid ⟨0, 0, Cb.Best.start o, HB2.out, But.refl _ _ _⟩⟩
  case round =>
    obtain ⟨k, m, hk, rfl, rfl, HI⟩ := hrel
    obtain ⟨f, t, hbest, hrow, hbut⟩ := HI.out
    have hsz2 : w2.heap.size ≤ wr.heap.size := hbut.2.2.2.1
    have hsz3 : w.heap.size + 1 < wr.heap.size := hrow.lt
    by_cases hlt : k < N
    · have hkl : k < o.length := by have := HN.out; omega
      obtain ⟨g, off, rfl, hg, hcell⟩ := HR.out k hkl
      have hgw : w.heap.size + 1 < g := by have := HGE.out g rfl; omega
      obtain ⟨c0, c1⟩ := cells2 hcell k hkl
      rw [← hbut.cell (p := ⟨g, off + k * 2, none⟩) (show g ≠ w.heap.size + 1 by omega) hg] at c0
      rw [← hbut.cell (p := ⟨g, off + k * 2 + 1, none⟩) (show g ≠ w.heap.size + 1 by omega) hg] at c1
      have hx : o[k]? = some o[k] := List.getElem?_eq_getElem hkl
      have hkeep := hbest.keep hx
      have hnew := fun (y : Int × Int) (hy : o[k + 1]? = some y) => hbest.new hx hy
      have hpos := hbest.pos
      have hnext : 0 < o[k].2 → k + 1 < N ∧ ∃ y, o[k + 1]? = some y ∧ wr.cell? ⟨g, off + (k + 1) * 2, none⟩ = some (.int .i64 y.1) := fun h => by
        have hk1 : k + 1 < o.length := HL.out.next (by rw [← Cb.tot_perm HP.out, Cb.tot_chg]) hx h
        have := (cells2 hcell (k + 1) hk1).1
        rw [← hbut.cell (p := ⟨g, off + (k + 1) * 2, none⟩) (show g ≠ w.heap.size + 1 by omega) hg] at this
        exact ⟨by have := HN.out; omega, o[k + 1], List.getElem?_eq_getElem hk1, this⟩
      obtain ⟨x, hxx⟩ : ∃ x, o[k] = x := ⟨_, rfl⟩
      rw [hxx] at c0 c1 hx hkeep hnew hnext
      obtain ⟨p, q⟩ := x
      dsimp only at c0 c1 hkeep hnew hnext
      have i1 : (0 : Int) ≤ (k : Int) := by omega
      have i2 : (k : Int) < (N : Int) := by omega
      have hgr : g < wr.heap.size := by omega
      have HROW := Lib.hid hrow; have HBUT := Lib.hid hbut
      by_cases hq : q > m
      · obtain ⟨hk1, ⟨y1, y2⟩, hy, cy⟩ := hnext (by omega)
        dsimp only at cy
        have HX := Lib.hid (hnew _ hy hq)
        have f0 := hrow.free 0
        have f1 := hrow.free 1
        have n0 := hrow.cell 0
        have n1 := hrow.cell 1
        simp only [List.getElem?_toArray, List.getElem?_cons_zero, List.getElem?_cons_succ] at n0 n1
        have j1 : (k : Int) + 1 < (N : Int) := by omega
        have s2 : IntKind.i64.wrap ((k : Int) + 1) = (k : Int) + 1 := IntWalk.i64_in _ (by omega)
        have hq2 : m < q := by omega
        clear hnext hnew hkeep hcell hx hxx hrow hbut hbest HI hy hq
        go_wp2
        go_region
        all_goals go_wp2
        all_goals go_roundw
        case rel =>
          have hfr : Row ((wr.setCell ⟨w.heap.size + 1, 0, none⟩ (.int .i64 p)).setCell ⟨w.heap.size + 1, 1, none⟩ (.int .i64 y1)) (w.heap.size + 1) 32 #[.int .i64 p, .int .i64 y1] := by
            have := (HROW.out.put 0 (.int .i64 p)).put 1 (.int .i64 y1)
            simpa using this
          have hfb : But (w.heap.size + 1) w2.heap.size wr ((wr.setCell ⟨w.heap.size + 1, 0, none⟩ (.int .i64 p)).setCell ⟨w.heap.size + 1, 1, none⟩ (.int .i64 y1)) :=
            (But.set _ w2.heap.size wr 0 _).then (But.set _ w2.heap.size _ 1 _) (Nat.le_refl _)
          exact ⟨k + 1, q, by omega, by go_num, rfl, Lib.hid ⟨p, y1, HX.out, hfr.alloc _, (HBUT.out.then hfb (Nat.le_refl _)).then (But.of_below (b := w.heap.size + 1) ((Below.refl w2.heap.size _).alloc (Nat.le_trans hsz2 hfb.2.2.2.1) _).drew (Nat.le_refl _)) (Nat.le_refl _)⟩⟩
        case measure => simp [intOf]; omega
      · have HX := Lib.hid (hkeep hq)
        have hq2 : ¬ m < q := by omega
        clear hnext hnew hkeep hcell hx hxx hrow hbut hbest HI hq
        go_wp2
        go_roundw
        case rel => exact ⟨k + 1, m, by omega, by go_num, rfl, Lib.hid ⟨f, t, HX.out, HROW.out.alloc _, HBUT.out.then (But.of_below (b := w.heap.size + 1) ((Below.refl wr.heap.size wr).alloc (Nat.le_refl _) _) hsz2) (Nat.le_refl _)⟩⟩
        case measure => simp [intOf]; omega
    · have hta : o.length = k := by have := HN.out; omega
      rw [← hta] at hbest
      have hag := Cb.agr_of HP.out HL.out hbest
      have HAG := Lib.hid hag; have HROW := Lib.hid hrow; have HBUT := Lib.hid hbut
      have hpos := hbest.pos
      have hA := (hbut.2.2.2.2 w.heap.size (by omega) (by omega)).trans HA2.out
      have HA : Hid (Row wr w.heap.size 32 #[.int .i64 0, .int .i64 0]) := Lib.hid hA
      have f0 := HA.out.free 0
      have f1 := HA.out.free 1
      have a0 := HA.out.cell 0
      have a1 := HA.out.cell 1
      have n0 := hrow.cell 0
      have n1 := hrow.cell 1
      simp only [List.getElem?_toArray, List.getElem?_cons_zero, List.getElem?_cons_succ] at n0 n1 a0 a1
      have hkl2 : m ≤ l.length := by
        rcases HAG.out with ⟨h0, -⟩ | ⟨_, h2, _, h4, _⟩
        · omega
        · have := h4 f (Int.le_refl _) h2; have := Cb.cnt_len l f; omega
      clear hag hrow hbut hbest HI hA
      have hfin : Row ((wr.setCell ⟨w.heap.size, 0, none⟩ (.int .i64 f)).setCell ⟨w.heap.size, 1, none⟩ (.int .i64 t)) w.heap.size 32 #[.int .i64 f, .int .i64 t] := by
        have := (HA.out.put 0 (.int .i64 f)).put 1 (.int .i64 t)
        simpa using this
      have HFIN := Lib.hid hfin
      clear hfin
      go_wp2
      refine bodyPost_ret (results_ct rfl _ _ w.heap.size f t rfl HFIN.out) rfl ⟨f, t, m, rfl, HAG.out, hpos, hkl2, ?_⟩
      exact (HB0.out.trans ((HB.out.mono (by omega)).trans ((HBUT.out.below (by omega)).mono (by omega)))).trans (((Below.refl w.heap.size _).setCell (Nat.le_refl w.heap.size) _).setCell (Nat.le_refl w.heap.size) _)
end Go.Proofs.Ytfbgfcpehlimfaa
