/- The walk of DigestSplit: it returns true for every input. -/
import Derived.Test.YtnbhhhbmeafkaaaDoorL3
import Derived.Deep.RegionWith
import Derived.Deep.RegionHeld3
namespace Go.Proofs.YtnbhhhbmeafkaaaDoor
open Go.RowKit
attribute [local go_sem ↓] append_appN

/-- A row of strings is copied to a new one. -/
theorem copy_row {w1 : World} {base : Nat} {v : Value} {l : List (List UInt8)} {i0 : TypeInfo} (hi0 : Tryd.prog.info? 9 = some i0) (hz0 : i0.zero = some (.string ⟨#[]⟩)) (hz1 : i0.size = 1) (hz2 : i0.bytes = 16)
    (hrow : w1.ownsRow base 9 1 v l.length (strCells l)) (hn : l.length ≤ 1000) :
    ∃ v' w', Sem.run Tryd.prog (appN #[26, 26] 26 #[.slice (some ⟨w1.heap.size, 0, none⟩) 0 0, v]) (w1.alloc (.cells #[] 9)) = .ok v' w' ∧
      w'.ownsRow w1.heap.size 9 1 v' l.length (strCells l) ∧ Below w1.heap.size w1 w' := by
  have ho : (w1.alloc (.cells #[] 9)).ownsRow w1.heap.size 9 1 (.slice (some ⟨w1.heap.size, 0, none⟩) 0 0) 0 [] :=
    ⟨rfl, .inr ⟨w1.heap.size, 0, #[], rfl, Nat.le_refl _, heap_alloc_new w1 _, Nat.le_refl _, by decide, rfl, rfl⟩⟩
  rcases hrow.2 with ⟨rfl, h0⟩ | ⟨g, cap, cur, rfl, hg0, hg, h1, h2, h3, h4⟩
  · have : l = [] := List.eq_nil_of_length_eq_zero h0
    subst this
    exact ⟨_, _, run_append_owned_none (P := Tryd.prog) (w1.alloc (.cells #[] 9)) w1.heap.size 26 26 9 i0 1 Tryd.underlying26 hi0 _ 0 _ ho, ho, (Below.refl _ _).alloc (Nat.le_refl _) _⟩
  · obtain ⟨v', w', hrun, hown, hgr, _⟩ := run_append_own (P := Tryd.prog) (w1.alloc (.cells #[] 9)) w1.heap.size 26 26 9 i0 (.string ⟨#[]⟩) 1 16 Tryd.underlying26 hi0 hz0 hz1 hz2 rfl (by decide)
      _ 0 _ ho ⟨g, 0, none⟩ l.length cap (strCells l) (by rw [strCells_len, Nat.mul_one]) (fun j x hj => by
        have hjl : j < l.length := by have := (List.getElem?_eq_some_iff.1 hj).1; rwa [strCells_len] at this
        have := (hrow.alloc (.cells #[] 9)).cellAt j (by omega)
        rw [show (⟨g, 0, none⟩ : Addr).add j = ⟨g, j, none⟩ from by simp [Addr.add]; omega, this]; exact hj)
      (fun x hx => by obtain ⟨t, _, rfl⟩ := List.mem_map.1 hx; rfl) (by unfold maxLen; omega) (by omega) (by simp)
    rw [Nat.zero_add, List.nil_append] at hown
    exact ⟨v', w', hrun, hown, below_grown2 (Below.refl _ _) (Nat.le_refl _) hgr⟩
/-- A string is put behind the strings of a row. -/
theorem snoc_row {w w1 : World} {v : Value} {l : List (List UInt8)} {s : List UInt8} {i0 : TypeInfo} (hi0 : Tryd.prog.info? 9 = some i0) (hz0 : i0.zero = some (.string ⟨#[]⟩)) (hz1 : i0.size = 1) (hz2 : i0.bytes = 16)
    (hrow : w1.ownsRow w.heap.size 9 1 v l.length (strCells l)) (hb : Below w.heap.size w w1) (hn : l.length ≤ 1000) :
    ∃ v' w', Sem.run Tryd.prog (appN #[26, 26] 26 #[v, .slice (some ⟨w1.heap.size, 0, none⟩) 1 1]) (w1.alloc (.cells #[.string (bs s)] 9)) = .ok v' w' ∧
      w'.ownsRow w.heap.size 9 1 v' (l.length + 1) (strCells (l ++ [s])) ∧ Below w.heap.size w w' := by
  obtain ⟨v', w', hrun, hown, hgr, _⟩ := run_append_own (P := Tryd.prog) (w1.alloc (.cells #[.string (bs s)] 9)) w.heap.size 26 26 9 i0 (.string ⟨#[]⟩) 1 16 Tryd.underlying26 hi0 hz0 hz1 hz2 rfl (by decide)
    v l.length _ (hrow.alloc _) ⟨w1.heap.size, 0, none⟩ 1 1 [.string (bs s)] rfl (fun j u h => cell_one_new _ _ _ j u h) (by simp [Value.oneCell']) (by unfold maxLen; omega) (by omega) (by have := hb.size; simp; omega)
  refine ⟨v', w', hrun, ?_, below_grown hb hb.size hrow (Below.refl _ _) hgr⟩
  have e : strCells (l ++ [s]) = strCells l ++ [.string (bs s)] := by simp [strCells]
  rw [e]; exact hown

set_option maxRecDepth 100000 in
set_option maxHeartbeats 1000000 in
theorem split_walk (v1 : Value) (p : List (List UInt8)) (s : ByteArray) (w : World) (ht : TabOk w)
    (hp : StrsA w v1 p) (hlp : ∀ s ∈ p, s.length ≤ maxLen) (hs : s.size ≤ maxLen) :
    Calls Tryd.prog 11 #[v1, .string s] w (SanePost w) := by
  obtain ⟨i0, hi0, hz0, hz1, hz2⟩ := info_parts Tryd.infoStr
  have c1 := sane_any w ht
  have c2 := fun u (hu : Below w.heap.size w u) => few_in v1 p 40 u (hp.next hu) hlp (by decide)
  have hps := cut_small 40 p
  have hpl := cut_len 40 p
  obtain ⟨P, hP⟩ : ∃ P, cut 40 p = P := ⟨_, rfl⟩
  rw [hP] at c2 hps hpl
  have T := fun u (hu : Below w.heap.size w u) => ht.next hu
  have C1 := Lib.hid c1; have C2 := Lib.hid c2; have TT := Lib.hid T
  have HPS := Lib.hid (show ∀ s ∈ P, s.length ≤ 1000 from fun s hs => by have := hps s hs; omega)
  have e1 := str_cut s _ rfl
  have l1 := str_cut_len s
  obtain ⟨x, hx⟩ : ∃ x, s.data.toList.take 60 = x := ⟨_, rfl⟩
  rw [hx] at e1 l1
  obtain ⟨X, hX⟩ : ∃ X, bs x = X := ⟨_, rfl⟩
  rw [hX] at e1
  have HX := Lib.hid hX
  unfold maxLen at hs
  have m0 : (0 : Int) ≤ min (s.size : Int) 60 := by omega
  have m1 : min (s.size : Int) 60 ≤ (s.size : Int) := by omega
  obtain ⟨N, hN⟩ : ∃ N, P.length = N := ⟨_, rfl⟩
  have hn40 : N ≤ 40 := by omega
  have HN := Lib.hid hN
  have HMS := Lib.hid (show ∀ t ∈ P ++ [x], t.length ≤ 1000 from fun t ht => by
    rcases List.mem_append.1 ht with h | h
    · exact HPS.out t h
    · rw [List.mem_singleton.1 h]; omega)
  have hml : (P ++ [x]).length = N + 1 := by simp [hN]
  have hmt : (P ++ [x]).take N = P := by rw [← hN]; simp
  obtain ⟨M, hM⟩ : ∃ M, P ++ [x] = M := ⟨_, rfl⟩
  rw [hM] at hml hmt HMS
  have HM := Lib.hid hM; have HML := Lib.hid hml; have HMT := Lib.hid hmt
  clear c1 c2 T hps hpl hP hp hlp hx hX hN hM hml hmt
  go_enter Tryd.func11, Tryd.ntmps11
  go_wp2_with fail
  refine C1.out.mono ?_
  rintro e w1 ⟨rfl, k1⟩
  have K1 := Lib.hid k1
  clear k1
  go_wp2_with fail
  refine (C2.out _ K1.out).mono ?_
  rintro e w2 ⟨pv, rfl, hpo, b2⟩
  have sp := strs_of_own hpo rfl
  have HSP := Lib.hid (fun u (hu : Below w2.heap.size w2 u) => sp.next hu)
  have K2 := Lib.hid (below_to K1.out b2)
  obtain ⟨v3, w3, hrun1, ho3, b3⟩ := copy_row hi0 hz0 hz1 hz2 hpo (by have := HN.out; omega)
  obtain ⟨v4, w4, hrun2, ho4, b4⟩ := snoc_row (s := x) hi0 hz0 hz1 hz2 ho3 b3 (by have := HN.out; omega)
  rw [HX.out] at hrun2
  rw [HM.out, HN.out] at ho4
  have sm := strs_of_own ho4 HML.out
  obtain ⟨gm, cm, rfl⟩ : ∃ g c, v4 = .slice (some ⟨g, 0, none⟩) (N + 1) c := by
    rcases ho4.2 with ⟨_, h0⟩ | ⟨g, c, cur, h, _⟩
    · omega
    · exact ⟨g, c, h⟩
  obtain ⟨hcm1, hcm2⟩ : N + 1 ≤ cm ∧ cm ≤ maxLen := by
    rcases ho4.2 with ⟨h, _⟩ | ⟨g, c, cur, h, _, _, h1, h2, _⟩
    · cases h
    · injection h with _ _ h3
      subst h3
      exact ⟨h1, h2⟩
  unfold maxLen at hcm2
  have HSM := Lib.hid (fun u (hu : Below w4.heap.size w4 u) => sm.next hu)
  have K4 := Lib.hid (below_to K2.out b4)
  rw [HN.out] at hpo
  obtain ⟨Ap, cp, rfl⟩ := own_slice hpo
  have B4 := Lib.hid b4
  clear hpo b2 sp ho3 b3 ho4 b4 sm
  have xc := ext_ok M N (.slice (some ⟨gm, 0, none⟩) (N + 1) cm) w4 (HSM.out _ (Below.refl _ _)) HMS.out (by rw [HML.out]; omega) (by rw [HML.out]; omega) (TT.out _ K4.out)
  have hxs := extO_small M N
  have hvx := vex_of M N (by rw [HML.out]; omega) (by rw [HML.out]; omega)
  rw [show (if N = 0 then [] else extRow M N) = extO M N from rfl, HMT.out, HML.out] at hvx
  have r1 := fun u (hu : Below w4.heap.size w4 u) => root_any (.slice Ap N cp) P u (HSP.out u (below_to B4.out hu)) HPS.out (TT.out _ (below_to K4.out hu))
  have r2 := fun u (hu : Below w4.heap.size w4 u) => root_any (.slice (some ⟨gm, 0, none⟩) (N + 1) cm) M u (HSM.out u hu) HMS.out (TT.out _ (below_to K4.out hu))
  have n1 : (Dm.root P).length = 32 := Dm.root_len _
  have n2 : (Dm.root M).length = 32 := Dm.root_len _
  have hve := fun xv u (hx : Strs u u.heap.size xv (extO M N)) (hu : Below w4.heap.size w4 u) => hvx ▸ vex_any (Dm.root P) (Dm.root M) ((N + 1 : Nat) : Int) N xv (extO M N) u hx hxs (by omega) (by omega) (by omega) (TT.out _ (below_to K4.out hu))
  rw [show ((N + 1 : Nat) : Int) = (N : Int) + 1 from by omega] at hve
  have hz : N = 0 → P = [] ∧ M = [x] := fun h => by
    have : P = [] := List.eq_nil_of_length_eq_zero (by rw [HN.out]; exact h)
    exact ⟨this, by rw [← HM.out, this]; rfl⟩
  have ht2 : 1 ≤ N → Dm.root M = Dm.node (Dm.root (M.take (Dm.lft (N + 1)))) (Dm.root (M.drop (Dm.lft (N + 1)))) := fun h => by
    have := Dm.root_two M (by rw [HML.out]; omega)
    rw [HML.out] at this; exact this
  obtain ⟨RP, hRP⟩ : ∃ R, bs (Dm.root P) = R := ⟨_, rfl⟩
  obtain ⟨RM, hRM⟩ : ∃ R, bs (Dm.root M) = R := ⟨_, rfl⟩
  unfold strOf at r1 r2 hve
  rw [hRP] at r1 hve; rw [hRM] at r2 hve
  have XC := Lib.hid xc; have R1 := Lib.hid r1; have R2 := Lib.hid r2; have HVE := Lib.hid hve; have HZ := Lib.hid hz; have HT2 := Lib.hid ht2; have HRP := Lib.hid hRP; have HRM := Lib.hid hRM
  have HSS := Lib.hid (fun u (hu : Below w4.heap.size w4 u) => HSM.out u hu)
  clear xc hxs hvx r1 r2 n1 n2 hve hz ht2 hRP hRM
  go_wp2_with fail
  refine XC.out.mono ?_
  unfold TupOwn
  rintro e w5 ⟨xv, rfl, hxo, b5⟩
  have sx := strs_of_own hxo rfl
  have HSX := Lib.hid (fun u (hu : Below w5.heap.size w5 u) => sx.next hu)
  have D5 := Lib.hid b5
  clear hxo b5 sx
  go_wp2_with fail
  refine (R1.out _ D5.out).mono ?_
  rintro e w6 ⟨rfl, b6⟩
  have D6 := Lib.hid (below_to D5.out b6); have E6 := Lib.hid b6
  clear b6
  go_wp2_with fail
  refine (R2.out _ D6.out).mono ?_
  rintro e w7 ⟨rfl, b7⟩
  have D7 := Lib.hid (below_to D6.out b7); have E7 := Lib.hid (below_to E6.out b7)
  clear b7
  have hv7 := HVE.out xv w7 (HSX.out _ E7.out) D7.out
  unfold VexPost at hv7
  have HV7 := Lib.hid hv7
  clear hv7
  go_wp2_with fail
  refine HV7.out.mono ?_
  rintro e w8 ⟨rfl, b8⟩
  have D8 := Lib.hid (below_to D7.out b8)
  clear b8
  by_cases h0 : N = 0
  · obtain ⟨hp0, hm0⟩ := HZ.out h0
    have hlf := fun u (hu : Below w4.heap.size w4 u) => leaf_any x u (by omega) (TT.out _ (below_to K4.out hu))
    have hsm := fun u (hu : Below w4.heap.size w4 u) => sum_any [] u (by simp) (TT.out _ (below_to K4.out hu))
    have q1 : bs (Dm.sha (0 :: x)) = RM := by rw [← HRM.out, hm0, Dm.root_one]; rfl
    have q2 : bs (Dm.sha []) = RP := by rw [← HRP.out, hp0, Dm.root_nil]
    unfold strOf at hlf hsm
    rw [HX.out, q1] at hlf
    rw [q2] at hsm
    have HLF := Lib.hid hlf; have HSU := Lib.hid hsm
    clear hlf hsm q1 q2 hp0 hm0
    subst h0
    go_wp2_with fail
    refine (R2.out _ D8.out).mono ?_
    rintro e w9 ⟨rfl, b9⟩
    have D9 := Lib.hid (below_to D8.out b9)
    clear b9
    go_wp2_with fail
    refine (HLF.out _ D9.out).mono ?_
    rintro e w10 ⟨rfl, b10⟩
    have D10 := Lib.hid (below_to D9.out b10)
    clear b10
    go_wp2_with fail
    refine (R1.out _ D10.out).mono ?_
    rintro e w11 ⟨rfl, b11⟩
    have D11 := Lib.hid (below_to D10.out b11)
    clear b11
    go_wp2_with fail
    refine (HSU.out _ D11.out).mono ?_
    rintro e w12 ⟨rfl, b12⟩
    have D12 := Lib.hid (below_to D11.out b12)
    clear b12
    go_wp2_with fail
    go_ret
    exact ⟨rfl, below_to K4.out D12.out⟩
  · have hn1 : 1 ≤ N := by omega
    have hrt := HT2.out hn1
    have hlt := Dm.lft_lt (N + 1) (by omega)
    have hpos := Dm.lft_pos (N + 1)
    have hleft := fun w => left_any (N + 1) w (by omega) (by omega)
    obtain ⟨q, hq⟩ : ∃ q, Dm.lft (N + 1) = q := ⟨_, rfl⟩
    rw [hq] at hrt hlt hpos hleft
    rw [show ((N + 1 : Nat) : Int) = (N : Int) + 1 from by omega] at hleft
    have hsub : ∀ u, Below w4.heap.size w4 u → Strs u u.heap.size (.slice (some ⟨gm, 0, none⟩) q cm) (M.take q) ∧ Strs u u.heap.size (.slice (some ⟨gm, q, none⟩) (N + 1 - q) (cm - q)) (M.drop q) := fun u hu => by
      obtain ⟨A', c', e, h1, h2, h3⟩ := HSS.out u hu
      injection e with e1 e2 e3
      subst e3
      rcases h3 with ⟨h3, _⟩ | ⟨g', off', h3, hg, hc⟩
      · rw [h3] at e1; cases e1
      · rw [h3] at e1
        injection e1 with e1
        injection e1 with e4 e5
        subst e4; subst e5
        have s1 := strs_sub (B := u.heap.size) 0 q hg HML.out hc (by omega) (by omega) hcm1 (by unfold maxLen; omega)
        have s2 := strs_sub (B := u.heap.size) q (N + 1) hg HML.out hc (by omega) (by omega) hcm1 (by unfold maxLen; omega)
        rw [Nat.sub_zero, Nat.sub_zero, List.drop_zero, Nat.add_zero] at s1
        have e2 : (M.drop q).take (N + 1 - q) = M.drop q := List.take_of_length_le (by rw [List.length_drop, HML.out]; omega)
        rw [e2, Nat.zero_add] at s2
        exact ⟨s1, s2⟩
    have r3 := fun u (hu : Below w4.heap.size w4 u) => root_any _ (M.take q) u (hsub u hu).1 (fun s hs => HMS.out s (List.mem_of_mem_take hs)) (TT.out _ (below_to K4.out hu))
    have r4 := fun u (hu : Below w4.heap.size w4 u) => root_any _ (M.drop q) u (hsub u hu).2 (fun s hs => HMS.out s (List.mem_of_mem_drop hs)) (TT.out _ (below_to K4.out hu))
    have nd := fun u (hu : Below w4.heap.size w4 u) => node_any (Dm.root (M.take q)) (Dm.root (M.drop q)) u (by rw [Dm.root_len, Dm.root_len]; omega) (TT.out _ (below_to K4.out hu))
    have q1 : bs (Dm.sha (1 :: (Dm.root (M.take q) ++ Dm.root (M.drop q)))) = RM := by rw [← HRM.out, hrt]; rfl
    obtain ⟨S1, hS1⟩ : ∃ R, bs (Dm.root (M.take q)) = R := ⟨_, rfl⟩
    obtain ⟨S2, hS2⟩ : ∃ R, bs (Dm.root (M.drop q)) = R := ⟨_, rfl⟩
    unfold strOf at r3 r4 nd
    rw [hS1] at r3 nd; rw [hS2] at r4 nd; rw [q1] at nd
    have r3' := fun u (hu : Below w4.heap.size w4 u) => calls_on hu (r3 u hu)
    have r4' := fun u (hu : Below w4.heap.size w4 u) => calls_on hu (r4 u hu)
    have nd' := fun u (hu : Below w4.heap.size w4 u) => calls_on hu (nd u hu)
    have r2' := fun u (hu : Below w4.heap.size w4 u) => calls_on hu (R2.out u hu)
    have R2' := Lib.hid r2'; have R3 := Lib.hid r3'; have R4 := Lib.hid r4'; have ND := Lib.hid nd'; have HLQ := Lib.hid hleft
    clear hsub r2' r3 r4 nd q1 hS1 hS2 hrt hq r3' r4' nd' hleft
    have i1 : (0 : Int) ≤ (q : Int) := by omega
    have i2 : (q : Int) ≤ (cm : Int) := by omega
    have i3 : (q : Int) ≤ (N : Int) + 1 := by omega
    have i4 : ¬ cm = q := by omega
    have i5 : ((N : Int) == 0) = false := by rw [beq_eq_false_iff_ne]; omega
    clear h0
    go_wp2_with (go_at_call 38; refine (HLQ.out _).mono ?_; rintro e w' ⟨rfl, rfl⟩)
    have hb0 : Below w4.heap.size w4 w8 := D8.out
    clear XC R1 R2 HVE HZ HT2 HRP HRM HSS HSX HV7 D5 D6 D7 D8 E6 E7 C1 C2 HSP HPS HMS HSM HML HMT HM HN HLQ K1 K2 B4
    go_region_held3 (fun w' => Below w4.heap.size w4 w') (first | assumption | exact Below.drew (by assumption)) (first | (go_at_call 27; ((with_reducible refine Calls.mono (R2'.out _ ?hb1) ?_); (case hb1 => (first | assumption | exact Below.drew (by assumption))); rintro e w10 ⟨rfl, b5⟩)) | (go_at_call 27; ((with_reducible refine Calls.mono (R3.out _ ?hb1) ?_); (case hb1 => (first | assumption | exact Below.drew (by assumption))); rintro e w10 ⟨rfl, b5⟩)) | (go_at_call 27; ((with_reducible refine Calls.mono (R4.out _ ?hb1) ?_); (case hb1 => (first | assumption | exact Below.drew (by assumption))); rintro e w10 ⟨rfl, b5⟩)) | (go_at_call 17; ((with_reducible refine Calls.mono (ND.out _ ?hb1) ?_); (case hb1 => (first | assumption | exact Below.drew (by assumption))); rintro e w10 ⟨rfl, b5⟩)))
    all_goals
      go_wp2
      go_ret
      exact ⟨rfl, below_to K4.out (by assumption)⟩
end Go.Proofs.YtnbhhhbmeafkaaaDoor
