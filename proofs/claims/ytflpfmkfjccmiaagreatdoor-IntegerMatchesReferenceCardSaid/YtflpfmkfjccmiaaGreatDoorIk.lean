/- Contract of compare of magnitudes. -/
import Derived.Test.YtflpfmkfjccmiaaGreatDoorIj
namespace Go.Proofs.YtflpfmkfjccmiaaGreatDoor
open Go.RowKit Go.Shelf
attribute [local go_sem] Oper.semAt_some

/-- The sign of a difference. -/
def sg (x y : Int) : Int := if x < y then -1 else if y < x then 1 else 0
theorem sg_lt {x y : Int} (h : x < y) : sg x y = -1 := if_pos h
theorem sg_gt {x y : Int} (h : y < x) : sg x y = 1 := by unfold sg; rw [if_neg (by omega), if_pos h]
theorem sg_eq {x y : Int} (h : x = y) : sg x y = 0 := by unfold sg; rw [if_neg (by omega), if_neg (by omega)]

set_option maxHeartbeats 400000 in
theorem isNaN_any (x : Int) (w : World) : Calls Tryz.prog 98 #[.int .i64 x] w fun e w' => e = .returned (.bool false) ∧ w = w' := by
  have h : (x != x) = false := by simp
  go_enter Tryz.func98, Tryz.ntmps98
  go_wp2
  go_ret
  exact ⟨rfl, rfl⟩
set_option maxHeartbeats 400000 in
theorem cmp_any (x y : Int) (w : World) : Calls Tryz.prog 75 #[.int .i64 x, .int .i64 y] w fun e w' => e = .returned (.int .i64 (sg x y)) ∧ w = w' := by
  rcases Int.lt_trichotomy x y with h | h | h
  · rw [sg_lt h]
    go_enter Tryz.func75, Tryz.ntmps75
    go_wp2_with (go_at_call 98; refine (isNaN_any _ _).mono ?_; rintro e w' ⟨rfl, rfl⟩)
    go_ret
    exact ⟨rfl, rfl⟩
  · rw [sg_eq h]
    subst h
    have h1 : decide (x < x) = false := by simp
    go_enter Tryz.func75, Tryz.ntmps75
    go_wp2_with (go_at_call 98; refine (isNaN_any _ _).mono ?_; rintro e w' ⟨rfl, rfl⟩)
    go_ret
    exact ⟨rfl, rfl⟩
  · rw [sg_gt h]
    have h1 : decide (x < y) = false := by simp; omega
    go_enter Tryz.func75, Tryz.ntmps75
    go_wp2_with (go_at_call 98; refine (isNaN_any _ _).mono ?_; rintro e w' ⟨rfl, rfl⟩)
    go_ret
    exact ⟨rfl, rfl⟩

theorem sg_cast (a b : Nat) : sg (a : Int) (b : Int) = if a < b then -1 else if b < a then 1 else 0 := by unfold sg; split <;> split <;> first | rfl | omega
theorem grp_same_len {a b : Nat} (hl : (Im.grp a).length = (Im.grp b).length) (i : Nat) (hi : i < (Im.grp a).length) (he : (Im.grp a).drop (i + 1) = (Im.grp b).drop (i + 1)) (hne : (Im.grp a).getD i 0 ≠ (Im.grp b).getD i 0) :
    sg ((Im.grp a).getD i 0) ((Im.grp b).getD i 0) = sg (a : Int) (b : Int) := by
  have ha := Im.grp_val a; have hb := Im.grp_val b
  rcases Int.lt_trichotomy ((Im.grp a).getD i 0) ((Im.grp b).getD i 0) with h | h | h
  · have := Im.val_cmp _ _ i (Im.grp_gs a) (Im.grp_gs b) hl hi he h
    rw [sg_lt h, sg_lt (by omega)]
  · exact absurd h hne
  · have := Im.val_cmp _ _ i (Im.grp_gs b) (Im.grp_gs a) hl.symm (by omega) he.symm h
    rw [sg_gt h, sg_gt (by omega)]
theorem drop_eq_step {a b : List Int} (hl : a.length = b.length) (i : Nat) (hi : i < a.length) (he : a.drop (i + 1) = b.drop (i + 1)) (hx : a.getD i 0 = b.getD i 0) : a.drop i = b.drop i := by
  have hib : i < b.length := by omega
  rw [List.drop_eq_getElem_cons hi, List.drop_eq_getElem_cons hib, he]
  rw [List.getD_eq_getElem?_getD, List.getD_eq_getElem?_getD, List.getElem?_eq_getElem hi, List.getElem?_eq_getElem hib] at hx
  have hx' : a[i] = b[i] := by simpa using hx
  rw [hx']

theorem results_cell1 {fn : Func} {p : Tmp} (h : fn.results = #[.cell p 3]) (tmps : Array Value) (w : World) (a : Addr) (x : Int) (hp : tmps.getD p undef = .pointer (some a)) (hc : w.cell? a = some (.int .i64 x)) :
    (results fn tmps).run Tryz.prog w = .ok (.int .i64 x) w := by
  have hp' : tmps[p]?.getD undef = .pointer (some a) := by simpa using hp
  simp [results, h, hp', asAddr, go_sem, hc]

set_option maxRecDepth 100000 in
set_option maxHeartbeats 2000000 in
theorem compare_any (va vb : Value) (a b : Nat) (w : World) (ha : Mag w va a) (hb : Mag w vb b) :
    Calls Tryz.prog 56 #[va, vb] w fun e w' => e = .returned (.int .i64 (sg (a : Int) (b : Int))) ∧ Below w.heap.size w w' := by
  obtain ⟨A, ca, rfl, hca1, hca2⟩ := ints_form ha
  obtain ⟨B, cb, rfl, hcb1, hcb2⟩ := ints_form hb
  have hgl := Im.grp_len_lt a b; have hgl2 := Im.grp_len_lt b a
  have hfin := fun hl i hi he hne => grp_same_len (a := a) (b := b) hl i hi he hne
  have hinj := fun (h : Im.grp a = Im.grp b) => Im.grp_inj h
  obtain ⟨la, hla⟩ : ∃ l, Im.grp a = l := ⟨_, rfl⟩
  obtain ⟨lb, hlb⟩ : ∃ l, Im.grp b = l := ⟨_, rfl⟩
  unfold Mag at ha hb
  rw [hla] at ha hgl hgl2 hfin hinj hca1 ⊢; rw [hlb] at hb hgl hgl2 hfin hinj hcb1 ⊢
  obtain ⟨N, hN⟩ : ∃ n, la.length = n := ⟨_, rfl⟩
  obtain ⟨M, hM⟩ : ∃ n, lb.length = n := ⟨_, rfl⟩
  have HVA := Lib.hid ha; have HVB := Lib.hid hb; have HN := Lib.hid hN; have HM := Lib.hid hM
  rw [hN] at HVA hgl hgl2 hca1 ⊢; rw [hM] at HVB hgl hgl2 hcb1 ⊢
  have HFIN := Lib.hid hfin; have HINJ := Lib.hid hinj
  clear ha hb hN hM hla hlb hfin hinj
  refine (callsIn_wide (n := 3)).1 ?_
  refine callsIn_of_wp_marks Tryz.func56 rfl trivial ?_ rfl
  simp only [Tryz.ntmps56, List.size_toArray, List.length_cons, List.length_nil, Nat.reduceAdd, Nat.reduceSub, Array.replicate_succ, Array.replicate_zero, List.push_toArray, List.append_toArray, List.nil_append, List.cons_append]
  by_cases hne : N = M
  · subst hne
    clear hgl hgl2
    have d1 : ((N : Int) != (N : Int)) = false := by simp
    gi_wp2_with (refine ⟨trivial, ?_⟩; gi_at_call 76; refine (back_in _ _ _ _ _).mono ?_; rintro e w' ⟨rfl, rfl⟩)
    obtain ⟨W0, hW0⟩ : ∃ W0, ((w.alloc (.cells #[.slice B N cb] 45)).alloc (.cells #[.int .i64 0] 3)).alloc (.cells #[.slice A N ca] 45) = W0 := ⟨_, rfl⟩
    have hb0 : Below w.heap.size w W0 := by rw [← hW0]; exact (((Below.refl _ w).alloc (Nat.le_refl _) _).alloc (by simp) _).alloc (by simp; omega) _
    have hs0 : W0.heap.size = w.heap.size + 3 := by rw [← hW0]; simp
    have ro0 : Row W0 w.heap.size 45 #[.slice B N cb] := by rw [← hW0]; exact ((Row.new w _ _).alloc _).alloc _
    have rr0 : Row W0 (w.heap.size + 1) 3 #[.int .i64 0] := by
      rw [← hW0]
      have := (Row.new (w.alloc (.cells #[.slice B N cb] 45)) 3 #[.int .i64 0]).alloc (.cells #[.slice A N ca] 45)
      rw [World.size_alloc] at this; exact this
    have rb0 : Row W0 (w.heap.size + 1 + 1) 45 #[.slice A N ca] := by
      rw [← hW0]
      have := Row.new ((w.alloc (.cells #[.slice B N cb] 45)).alloc (.cells #[.int .i64 0] 3)) 45 #[.slice A N ca]
      rw [World.size_alloc, World.size_alloc] at this; exact this
    rw [hW0]
    clear hW0
    have hgv : GivesN Fence.wide (3 - 1) Tryz.prog 99 #[.pointer (some ⟨w.heap.size + 1 + 1, 0, none⟩)] (encB la) (fun X j => j = w.heap.size + 1 ∨ j = W0.heap.size ∨ j = W0.heap.size + 1) (fixB (w.heap.size + 1 + 1) A) la.length W0 :=
      back_gives (3 - 1) (w.heap.size + 1 + 1) ca A la _ W0 (by rw [HN.out]; exact rb0) (by rw [HN.out]; exact HVA.out.next hb0)
    have hAf : ∀ j, fixB (w.heap.size + 1 + 1) A j → j < W0.heap.size ∧ j ≠ w.heap.size + 1 := by
      rintro j (rfl | ⟨off, rfl⟩)
      · omega
      · obtain ⟨A', c', h1, _, _, h4⟩ := HVA.out
        injection h1 with e1 e2 e3
        subst e1
        rcases h4 with ⟨h4, _⟩ | ⟨g, o, h4, h5, _⟩
        · cases h4
        · injection h4 with h4
          injection h4 with h6 h7
          subst h6; omega
    have HAF := Lib.hid hAf
    clear hAf
    have HRR := Lib.hid rr0; have HB0 := Lib.hid hb0; have HRO := Lib.hid ro0
    rw [HN.out] at hgv
    refine rangeFunc_n (F := Fence.wide) rfl (by decide) (gf := 99) (lb := #[.pointer (some ⟨w.heap.size + 1 + 1, 0, none⟩)]) rfl trivial (enters_of Tryz.func99 (by kernel_rfl) rfl)
      (no := fun _ j => j = w.heap.size + 1) hgv
      (fun _ => rfl) (fun j h => (HAF.out j h).1)
      (fun k W => Row W w.heap.size 45 #[.slice B N cb] ∧ Row W (w.heap.size + 1) 3 #[.int .i64 0] ∧ Hid (la.drop (N - k) = lb.drop (N - k)) ∧ Below w.heap.size w W)
      (fun k X Y j h hb hj => by subst hj; exact ⟨rfl, h.2.1.lt, fun e => (HAF.out _ e).2 rfl, by omega, by omega⟩)
      (fun _ _ _ _ _ h => h)
      (fun c _ W => c = .ret ∧ Row W (w.heap.size + 1) 3 #[.int .i64 (sg (a : Int) (b : Int))] ∧ Below w.heap.size w W)
      (fun c k X r o hr _ h => ⟨h.1, (World.putObj_heap_other (by omega)).trans h.2.1, h.2.2.trans ⟨rfl, rfl, rfl, by simp, fun j hj => World.putObj_heap_other (by omega)⟩⟩)
      (fun k X Y h hb => ⟨h.1.below hb h.1.lt, h.2.1.below hb h.2.1.lt, h.2.2.1, h.2.2.2.trans (hb.mono h.2.2.2.size)⟩)
      (fun k X r o hr _ h => ⟨(World.putObj_heap_other (by omega)).trans h.1, (World.putObj_heap_other (by omega)).trans h.2.1, h.2.2.1, h.2.2.2.trans ⟨rfl, rfl, rfl, by simp, fun j hj => World.putObj_heap_other (by omega)⟩⟩)
      ⟨HRO.out, HRR.out, Lib.hid (by rw [Nat.sub_zero, List.drop_eq_nil_of_le (by rw [HN.out]; exact Nat.le_refl _), List.drop_eq_nil_of_le (by rw [HM.out]; exact Nat.le_refl _)]), HB0.out⟩
      (fun k a' _ => a' = { tmps := #[.slice A N ca, .slice B N cb, undef, .pointer (some ⟨w.heap.size, 0, none⟩), .pointer (some ⟨w.heap.size + 1, 0, none⟩), .int .i64 ((la.length : Int) - 1 - (k : Int)), .int .i64 (la.getD (la.length - 1 - k) 0), .slice A N ca, .int .i64 (N : Int), .slice B N cb, .int .i64 (N : Int), .bool false, undef, undef, undef, undef, undef, .slice A N ca,
        .func (.func 99) #[] #[.pointer (some ⟨w.heap.size + 1 + 1, 0, none⟩)], .int .i64 ((la.length : Int) - 1 - (k : Int)), .int .i64 (la.getD (la.length - 1 - k) 0), undef, undef, undef, undef, undef, undef, undef, undef, undef, undef, undef, undef], defers := [] })
      (fun _ _ _ _ _ _ _ h => h) ?assign ?body ?done ?stop
    case assign =>
      intro y k W K hkn hsz hI hK
      unfold encB
      have HK := Lib.hid hK
      clear hK
      gi_wp2
      exact HK.out _ _ (Below.refl _ _) rfl
    case body =>
      rintro y k a' W hkn hsz ⟨hro, hrr, HE, hbw⟩ rfl
      have co := hro.cell 0
      have cr := hrr.cell 0; have fr := hrr.free 0
      simp only [List.getElem?_toArray, List.getElem?_cons_zero] at co cr
      obtain ⟨g, off, hBe, hg, hcell⟩ := ints_at HVB.out (N - 1 - k) (by rw [HM.out]; omega)
      subst hBe
      have c0 := (hbw.cell (p := ⟨g, off + (N - 1 - k), none⟩) hg).trans (hcell (N - 1 - k) (by rw [HM.out]; omega))
      have he := HE.out
      rw [show N - k = N - 1 - k + 1 by omega] at he
      have hst := drop_eq_step (a := la) (b := lb) (by rw [HN.out, HM.out]) (N - 1 - k) (by rw [HN.out]; omega) he
      have hfn := HFIN.out (by rw [HN.out, HM.out]) (N - 1 - k) (by rw [HN.out]; omega) he
      rw [HN.out]
      obtain ⟨x, hx⟩ : ∃ x, la.getD (N - 1 - k) 0 = x := ⟨_, rfl⟩
      obtain ⟨z, hz⟩ : ∃ x, lb.getD (N - 1 - k) 0 = x := ⟨_, rfl⟩
      rw [hx, hz] at hst hfn; rw [hz] at c0; rw [hx]
      have i1 : (0 : Int) ≤ (N : Int) - 1 - (k : Int) := by omega
      have i2 : (N : Int) - 1 - (k : Int) < (N : Int) := by omega
      have i3 : ((N : Int) - 1 - (k : Int)).toNat = N - 1 - k := by omega
      have HRO2 := Lib.hid hro; have HRR2 := Lib.hid hrr; have HST := Lib.hid hst; have HFN := Lib.hid hfn
      clear hro hrr hst hfn he hx hz hcell
      by_cases hxz : x = z
      · have t1 : (x != z) = false := by simpa using hxz
        have HXZ := Lib.hid hxz
        clear hxz
        gi_wp2
        refine ⟨Keeps.refl _ _, HRO2.out, HRR2.out, Lib.hid ?_, hbw⟩
        rw [show N - (k + 1) = N - 1 - k by omega]; exact HST.out HXZ.out
      · have t1 : (x != z) = true := by simpa using hxz
        have hsg := HFN.out hxz
        have HSG := Lib.hid hsg
        clear hxz hsg
        gi_wp2_with (refine ⟨trivial, (CallsIn.inRound y (callsIn_wide.2 (cmp_any _ _ _))).mono ?_⟩; rintro e w' ⟨rfl, rfl⟩)
        refine ⟨Keeps.setCell (no := fun j => j = w.heap.size + 1) (p := ⟨w.heap.size + 1, 0, none⟩) rfl _, rfl, ?_, hbw.setCell (Nat.le_succ _) _⟩
        have := HRR2.out.put 0 (.int .i64 (sg x z))
        rw [← HSG.out]; exact this
    case done =>
      rintro D W hD ⟨hro, hrr, HE, hbw⟩ hK
      have cr := hrr.cell 0; have fr := hrr.free 0
      simp only [List.getElem?_toArray, List.getElem?_cons_zero] at cr
      have he := HE.out
      rw [Nat.sub_self, List.drop_zero, List.drop_zero] at he
      have hab := HINJ.out he
      have hsg : sg (a : Int) (b : Int) = 0 := sg_eq (by omega)
      have HSG := Lib.hid hsg; have HRR2 := Lib.hid hrr
      clear he hab hsg hrr
      gi_wp2
      have hK2 : (W.setCell ⟨w.heap.size + 1, 0, none⟩ (.int .i64 0)).heap[D]? = some (.deferred (some [])) := (Below.heap_setCell _ _ _ _ (by dsimp only; omega)).trans hK
      have hr2 := HRR2.out.put 0 (.int .i64 0)
      have hDs : D < (W.setCell ⟨w.heap.size + 1, 0, none⟩ (.int .i64 0)).heap.size := (Array.getElem?_eq_some_iff.1 hK2).1
      refine ⟨by simp, .inl ⟨_, _, rfl, run_takeDeferred hK2, ?_⟩⟩
      refine ⟨_, results_cell1 rfl _ _ ⟨w.heap.size + 1, 0, none⟩ 0 rfl (Row.cell (show Row _ (w.heap.size + 1) 3 _ from (World.putObj_heap_other (by omega)).trans hr2) 0), by rw [HSG.out], ?_⟩
      exact (hbw.setCell (Nat.le_succ _) _).trans (belowK_b (w := w) (Nat.le_refl _) _ D _ _ (by omega) hK2 rfl rfl)
    case stop =>
      rintro D c k W hD hkn ⟨rfl, hrr, hbw⟩ hK
      gi_wp2
      refine ⟨by simp, .inl ⟨_, _, rfl, run_takeDeferred hK, ?_⟩⟩
      refine ⟨_, results_cell1 rfl _ _ ⟨w.heap.size + 1, 0, none⟩ _ rfl (Row.cell (show Row _ (w.heap.size + 1) 3 _ from (World.putObj_heap_other (by omega)).trans hrr) 0), rfl, ?_⟩
      exact hbw.trans (belowK_b (w := w) (Nat.le_refl _) _ D _ _ (by omega) hK rfl rfl)
  · have hs : sg (N : Int) (M : Int) = sg (a : Int) (b : Int) := by
      rcases Nat.lt_or_ge N M with h | h
      · have := hgl h; rw [sg_lt (by omega), sg_lt (by omega)]
      · have := hgl2 (by omega); rw [sg_gt (by omega), sg_gt (by omega)]
    have d1 : ((N : Int) != (M : Int)) = true := by simp; omega
    have HS := Lib.hid hs
    clear hs hne
    gi_wp2_with (refine ⟨trivial, ?_⟩; gi_at_call 75; refine (callsIn_wide.2 (cmp_any _ _ _)).mono ?_; rintro e w' ⟨rfl, rfl⟩)
    refine ⟨_, results_cell1 rfl _ _ ⟨w.heap.size + 1, 0, none⟩ (sg (N : Int) (M : Int)) rfl ?_, by rw [HS.out], ((Below.refl _ w).alloc (Nat.le_refl _) _).alloc (by simp) _⟩
    have := Row.new (w.alloc (.cells #[.slice B M cb] 45)) 3 #[.int .i64 (sg (N : Int) (M : Int))]
    rw [World.size_alloc] at this
    exact this.cell 0
end Go.Proofs.YtflpfmkfjccmiaaGreatDoor
