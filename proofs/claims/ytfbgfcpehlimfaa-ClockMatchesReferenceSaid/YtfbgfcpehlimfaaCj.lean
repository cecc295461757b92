/- Contract of levels. -/
import Derived.Test.YtfbgfcpehlimfaaCi
namespace Go.Proofs.Ytfbgfcpehlimfaa
open Go.RowKit
attribute [local go_sem ↓] append_appN

/-- All blocks below B are as they were, but for one. -/
def But (b B : Nat) (w w' : World) : Prop := w'.os = w.os ∧ w'.tape = w.tape ∧ w'.output = w.output ∧ w.heap.size ≤ w'.heap.size ∧ ∀ k, k ≠ b → k < B → w'.heap[k]? = w.heap[k]?
theorem But.refl (b B : Nat) (w : World) : But b B w w := ⟨rfl, rfl, rfl, Nat.le_refl _, fun _ _ _ => rfl⟩
theorem But.then {b B B' : Nat} {w w1 w2 : World} (h : But b B w w1) (g : But b B' w1 w2) (hB : B ≤ B') : But b B w w2 :=
  ⟨g.1.trans h.1, g.2.1.trans h.2.1, g.2.2.1.trans h.2.2.1, Nat.le_trans h.2.2.2.1 g.2.2.2.1, fun k h1 h2 => (g.2.2.2.2 k h1 (by omega)).trans (h.2.2.2.2 k h1 h2)⟩
theorem But.of_below {b B B' : Nat} {w w' : World} (h : Below B' w w') (hB : B ≤ B') : But b B w w' := ⟨h.os, h.tape, h.output, h.size, fun k _ hk => h.block k (by omega)⟩
theorem But.set (b B : Nat) (w : World) (o : Nat) (u : Value) : But b B w (w.setCell ⟨b, o, none⟩ u) := ⟨rfl, rfl, rfl, by simp, fun k hk _ => Below.heap_setCell _ _ _ k hk⟩
theorem But.drewN {b B : Nat} {w w' : World} (h : But b B w w') (n : Nat) : But b B w (w'.drewN n) := h
theorem But.cell {b B : Nat} {w w' : World} (h : But b B w w') {p : Addr} (h1 : p.block ≠ b) (h2 : p.block < B) : w'.cell? p = w.cell? p := World.cell?_of_block (h.2.2.2.2 _ h1 h2)
theorem But.below {b B : Nat} {w w' : World} (h : But b B w w') (hB : b ≤ B) : Below b w w' := ⟨h.1, h.2.1, h.2.2.1, h.2.2.2.1, fun k hk => h.2.2.2.2 k (by omega) (by omega)⟩
theorem own_but {w w' : World} {base b B : Nat} {e : TypeId} {size : Nat} {v : Value} {n : Nat} {xs : List Value} (h : w.ownsRow base e size v n xs) (hb : But b B w w') (h1 : b < base) (h2 : w.heap.size ≤ B) : w'.ownsRow base e size v n xs :=
  own_keep h fun k hk => hb.2.2.2.2 k (by have := own_ge h k hk; omega) (by have := own_lt h k hk; omega)
theorem flat2_one (a b : Int) : flat2 [(a, b)] = [.int .i64 a, .int .i64 b] := rfl
/-- What levels returns: the levels of some changes in order. -/
def LvPost (l : List (Int × Int)) (w : World) (e : Ending) (w' : World) : Prop :=
  ∃ v c o, e = .returned v ∧ (Cb.chg l).Perm c ∧ Cb.Lv c c.length o ∧ Recs enc2 2 w' w'.heap.size v o ∧ Below w.heap.size w w' ∧ (∀ k, v.ownBlock = some k → w.heap.size ≤ k)
/-- Between two rounds: the first k changes are done. -/
def LvI (c : List (Int × Int)) (k b : Nat) (w2 : World) (u : Value) (wr : World) : Prop :=
  ∃ o, Cb.Lv c k o ∧ wr.ownsRow w2.heap.size 58 2 u o.length (flat2 o) ∧ (∃ f, Row wr b 58 #[.int .i64 f, .int .i64 (Cb.tot (c.take k))]) ∧ But b w2.heap.size w2 wr
set_option maxRecDepth 100000 in
set_option maxHeartbeats 4000000 in
theorem levels_any (l : List (Int × Int)) (v : Value) (w : World) (hv : Recs enc2 2 w w.heap.size v l) (hl : l.length ≤ 1000) :
    Calls Try.prog 32 #[v] w (LvPost l w) := by
  have hch := changes_any l v (w.alloc (.cells #[.int .i64 0, .int .i64 0] 58)) ((hv.below ((Below.refl _ w).alloc (Nat.le_refl _) _)).more (by simp)) hl
  have HCH := Lib.hid hch
  obtain ⟨A0, c0, rfl, -, -⟩ := recs_form hv
  obtain ⟨N0, hN0⟩ : ∃ N0, l.length = N0 := ⟨_, rfl⟩
  rw [hN0] at HCH ⊢
  clear hch hv
  go_enter Try.func32, Try.ntmps32
  go_wp2_with (go_at_call 41; refine HCH.out.mono ?_; unfold ChgPost; rintro e w2 ⟨u, c, rfl, hp, ha, hr, hb, hge⟩; have hz := hb.size; rw [World.size_alloc] at hz; have hnow := (Row.new w 58 #[.int .i64 0, .int .i64 0]).below hb (by simp); obtain ⟨A, cap, rfl, hc1, hc2⟩ := recs_form hr; have HR := Lib.hid (fun k hk => recs_at hr k hk); have HP := Lib.hid hp; have HA := Lib.hid ha; have HB := Lib.hid hb; have HGE := Lib.hid hge; have hN := hp.length_eq; have hcl := Cb.chg_len l; clear hp ha hr hb hge; obtain ⟨N, hNN⟩ : ∃ N, c.length = N := ⟨_, rfl⟩; have HN := Lib.hid hNN; rw [hNN] at hc1 hN; have hN2 : N ≤ 2000 := (by omega); have HNOW := Lib.hid hnow; rw [hNN]; clear hnow hNN hN hcl)
  go_loopw [3, 6, 7, 13] (fun u _ _ i wr => ∃ k : Nat, k ≤ N ∧ i = .int .i64 (k : Int) ∧ Hid (LvI c k w.heap.size w2 u wr)) (fun _ _ _ i _ => N - (intOf i).toNat)
  case atStart => exact ⟨0, by omega, rfl, Lib.hid ⟨[], Cb.Lv.start HA.out, ⟨rfl, .inl ⟨rfl, rfl⟩⟩, ⟨0, HNOW.out⟩, But.refl _ _ _⟩⟩
  case round =>
    obtain ⟨k, hk, rfl, HI⟩ := hrel
    obtain ⟨o, hlv, hrow, ⟨f0, hnow⟩, hbut⟩ := HI.out
    by_cases hlt : k < N
    · have hkl : k < c.length := by have := HN.out; omega
      obtain ⟨g, off, rfl, hg, hcell⟩ := HR.out k hkl
      have hgw : w.heap.size < g := by have := HGE.out g rfl; rw [World.size_alloc] at this; omega
      obtain ⟨c0, c1⟩ := cells2 hcell k hkl
      rw [← hbut.cell (p := ⟨g, off + k * 2, none⟩) (show g ≠ w.heap.size by omega) hg] at c0
      rw [← hbut.cell (p := ⟨g, off + k * 2 + 1, none⟩) (show g ≠ w.heap.size by omega) hg] at c1
      have hx : c[k]? = some c[k] := List.getElem?_eq_getElem hkl
      have hone : ∀ y ∈ c, y.2 = 1 ∨ y.2 = -1 := fun y hy => Cb.chg_one l y (HP.out.mem_iff.2 hy)
      have hx1 := hone c[k] (List.getElem_mem hkl)
      have htb := Cb.tot_bound (c.take k) (fun y hy => hone y (List.mem_of_mem_take hy))
      rw [List.length_take] at htb
      have htt := Cb.take_tot hx
      have hsteps := Cb.Lv.step HA.out hlv hx
      have hsame := fun y hy he => Cb.Lv.same hlv (y := y) hx hy he
      have hnext : k + 1 < N → ∃ y, c[k + 1]? = some y ∧ wr.cell? ⟨g, off + (k + 1) * 2, none⟩ = some (.int .i64 y.1) := fun h => by
        have hk1 : k + 1 < c.length := by have := HN.out; omega
        have := (cells2 hcell (k + 1) hk1).1
        rw [← hbut.cell (p := ⟨g, off + (k + 1) * 2, none⟩) (show g ≠ w.heap.size by omega) hg] at this
        exact ⟨c[k + 1], List.getElem?_eq_getElem hk1, this⟩
      have hnone : ¬ k + 1 < N → ∀ y, c[k + 1]? = some y → False := fun h y hy => by
        have := (List.getElem?_eq_some_iff.1 hy).1; have := HN.out; omega
      obtain ⟨x, hxx⟩ : ∃ x, c[k] = x := ⟨_, rfl⟩
      rw [hxx] at c0 c1 hx hx1 htt hsteps hsame
      obtain ⟨p, q⟩ := x
      dsimp only at c0 c1 hx1 htt hsteps hsame
      obtain ⟨t0, ht0⟩ : ∃ t0, Cb.tot (c.take k) = t0 := ⟨_, rfl⟩
      rw [ht0] at hnow htb htt
      rw [htt] at hsteps
      have n0 := hnow.cell 0
      have n1 := hnow.cell 1
      have m0 := hnow.free 0
      have m1 := hnow.free 1
      simp only [List.getElem?_toArray, List.getElem?_cons_zero, List.getElem?_cons_succ] at n0 n1
      have hwz : g < wr.heap.size := by have := hbut.2.2.2.1; omega
      have hwn : w.heap.size < wr.heap.size := hnow.lt
      have i1 : (0 : Int) ≤ (k : Int) := by omega
      have i2 : (k : Int) < (N : Int) := by omega
      have s1 : IntKind.i64.wrap (t0 + q) = t0 + q := IntWalk.i64_in _ (by omega)
      have s2 : IntKind.i64.wrap ((k : Int) + 1) = (k : Int) + 1 := IntWalk.i64_in _ (by omega)
      have hsz2 : w2.heap.size ≤ wr.heap.size := hbut.2.2.2.1
      have tb1 : -3000 ≤ t0 := by omega
      have tb2 : t0 ≤ 3000 := by omega
      have tb3 : -1 ≤ q := by omega
      have tb4 : q ≤ 1 := by omega
      have hnow2 : Row ((((wr.setCell ⟨w.heap.size, 0, none⟩ (.int .i64 p)).setCell ⟨w.heap.size, 1, none⟩ (.int .i64 (t0 + q))).alloc (.cells #[.int .i64 p, .int .i64 q] 69))) w.heap.size 58 #[.int .i64 p, .int .i64 (t0 + q)] := by
        have := (hnow.put 0 (.int .i64 p)).put 1 (.int .i64 (t0 + q))
        exact Row.alloc (by simpa using this) _
      have hb2 : But w.heap.size wr.heap.size wr (((wr.setCell ⟨w.heap.size, 0, none⟩ (.int .i64 p)).setCell ⟨w.heap.size, 1, none⟩ (.int .i64 (t0 + q))).alloc (.cells #[.int .i64 p, .int .i64 q] 69)) :=
        ((But.set _ wr.heap.size wr 0 _).then (But.set _ wr.heap.size _ 1 _) (Nat.le_refl _)).then (But.of_below ((Below.refl wr.heap.size _).alloc (by simp) _) (Nat.le_refl _)) (Nat.le_refl _)
      have hrow2 := own_but hrow hb2 (by omega) (Nat.le_refl _)
      have hbut2 : But w.heap.size w2.heap.size w2 (((wr.setCell ⟨w.heap.size, 0, none⟩ (.int .i64 p)).setCell ⟨w.heap.size, 1, none⟩ (.int .i64 (t0 + q))).alloc (.cells #[.int .i64 p, .int .i64 q] 69)) := hbut.then hb2 hsz2
      obtain ⟨w4, hw4⟩ : ∃ w4, (((wr.setCell ⟨w.heap.size, 0, none⟩ (.int .i64 p)).setCell ⟨w.heap.size, 1, none⟩ (.int .i64 (t0 + q))).alloc (.cells #[.int .i64 p, .int .i64 q] 69)) = w4 := ⟨_, rfl⟩
      rw [hw4] at hnow2 hrow2 hbut2 hb2
      have hrc : Row w4 wr.heap.size 69 #[.int .i64 p, .int .i64 q] := by
        rw [← hw4]
        have := Row.new ((wr.setCell ⟨w.heap.size, 0, none⟩ (.int .i64 p)).setCell ⟨w.heap.size, 1, none⟩ (.int .i64 (t0 + q))) 69 #[.int .i64 p, .int .i64 q]
        simpa using this
      have r0 := hrc.cell 0
      have r1 := hnow2.cell 1
      have r2 := hnow2.cell 0
      simp only [List.getElem?_toArray, List.getElem?_cons_zero, List.getElem?_cons_succ] at r0 r1 r2
      have hrc2 := recs_of_own hrow2 rfl
      obtain ⟨A3, c3, hu, hc3, hc4, hA3⟩ := own_slice hrow2
      subst hu
      have hc5 : c3 ≤ 9223372036854775807 := by unfold maxLen at hc4; omega
      have hz4 : wr.heap.size + 1 = w4.heap.size := by rw [← hw4]; simp
      have holen := hlv.len
      have HSTEPS := Lib.hid hsteps; have HSAME := Lib.hid hsame; have HNOW2 := Lib.hid hnow2; have HROW2 := Lib.hid hrow2; have HBUT2 := Lib.hid hbut2; have HTT := Lib.hid htt
      have HNONE := Lib.hid hnone
      have hnx : k + 1 < N → ∃ y, c[k + 1]? = some y ∧ w4.cell? ⟨g, off + (k + 1) * 2, none⟩ = some (.int .i64 y.1) := fun h => by
        obtain ⟨y, hy, hc⟩ := hnext h
        exact ⟨y, hy, (hb2.cell (p := ⟨g, off + (k + 1) * 2, none⟩) (show g ≠ w.heap.size by omega) hwz).trans hc⟩
      have hlast : o = [] ∨ ∃ o' z g3, o = o' ++ [z] ∧ A3 = some ⟨g3, 0, none⟩ ∧ w4.cell? ⟨g3, o'.length * 2 + 1, none⟩ = some (.int .i64 z.2) := by
        rcases List.eq_nil_or_concat o with h | ⟨o', z, h⟩
        · exact .inl h
        · rw [List.concat_eq_append] at h
          subst h
          obtain ⟨g3, off3, e3, hg3, hcc⟩ := recs_at hrc2 o'.length (by simp)
          rcases hA3 with ⟨_, h0⟩ | ⟨g3', e4, _⟩
          · simp at h0
          · rw [e4] at e3
            injection e3 with e3
            injection e3 with e5 e6
            subst e5; subst e6
            refine .inr ⟨o', z, g3', rfl, e4, ?_⟩
            have := hcc o'.length z (by simp) 1 _ rfl
            simpa using this
      have hgl : ∀ z, o.getLast? = some z → ∃ o', o = o' ++ [z] := fun z hz => List.getLast?_eq_some_iff.1 hz
      clear hsteps hsame hnow2 hrow2 hbut2 hb2 hnext hnone htt hnow hbut hrow hcell hrc hrc2 hA3 hxx ht0 htb hx1 hone HI
      by_cases hn : k + 1 < N
      · obtain ⟨y, hy, cy⟩ := hnx hn
        obtain ⟨y1, y2⟩ := y
        dsimp only at cy
        have j1 : (k : Int) + 1 < (N : Int) := by omega
        by_cases he : y1 = p
        · have e1 : (y1 == p) = true := by simpa using he
          have HL := Lib.hid (HSAME.out _ hy he)
          clear hnx hlast hgl
          go_wp2
          go_quiet (fail)
          go_wp2
          go_roundw
          case rel => exact ⟨k + 1, by omega, by go_num, Lib.hid ⟨o, HL.out, HROW2.out, ⟨_, by rw [HTT.out]; exact HNOW2.out⟩, HBUT2.out⟩⟩
          case measure => simp [intOf]; omega
        · have e1 : (y1 == p) = false := by simpa using he
          have hne : ∀ z, c[k + 1]? = some z → z.1 ≠ p := fun z hz => by rw [hy] at hz; cases hz; exact he
          clear hnx hy
          rcases hlast with ho | ⟨o', z, g3, ho, hA3, hzc⟩
          · subst ho
            have HL := Lib.hid ((HSTEPS.out hne).2 (fun z hz => by simp at hz))
            clear hgl
            go_wp2
            go_quiet (fail)
            rename Nat => n1
            go_wp2
            go_quiet (fail)
            have hr5 : ((w4.drewN n1).drewN nq).ownsRow w2.heap.size 58 2 _ _ (flat2 []) := HROW2.out
            obtain ⟨v', w1, hrun, hown, hgr⟩ := snoc_pairs [(p, t0 + q)] Try.underlying55 infoLevel hr5 (by first | (simp; done) | (simp; omega)) (by simp) (show w2.heap.size ≤ w4.heap.size by omega)
            have hbl0 := own_below_grown hr5 (show w2.heap.size ≤ w4.heap.size by omega) hgr
            have hbl : Below w2.heap.size w4 w1 := ⟨hbl0.os, hbl0.tape, hbl0.output, hbl0.size, hbl0.block⟩
            rw [flat2_one] at hrun
            simp only [List.length_cons, List.length_nil, Nat.zero_add, World.heap_drewN, World.drewN_drewN] at hrun hown
            have HX : Hid (LvI c (k + 1) w.heap.size w2 v' w1) := Lib.hid ⟨[] ++ [(p, t0 + q)], HL.out, by simp only [List.length_cons, List.length_nil, Nat.zero_add, List.length_append] ; exact hown, ⟨p, by rw [HTT.out]; exact (hbl.block w.heap.size (by omega)).trans HNOW2.out⟩, HBUT2.out.then (But.of_below (b := w.heap.size) hbl (Nat.le_refl _)) (Nat.le_refl _)⟩
            obtain ⟨A', c', hv', -, -, -⟩ := own_slice hown
            subst hv'
            clear hown hgr hbl hbl0 hr5
            go_wp2
            go_roundw
            case rel => exact ⟨k + 1, by omega, by go_num, HX⟩
            case measure => simp [intOf]; omega
          · subst ho
            subst hA3
            obtain ⟨z1, z2⟩ := z
            dsimp only at hzc
            simp only [List.length_append, List.length_cons, List.length_nil, Nat.zero_add] at hc3 holen ⊢
            have e2 : (o'.length : Int) + 1 - 1 = (o'.length : Int) := by omega
            have i5 : (0 : Int) ≤ (o'.length : Int) := by omega
            have i6 : (o'.length : Int) < (o'.length : Int) + 1 := by omega
            have i7 : ¬ (o'.length : Int) + 1 = 0 := by omega
            have i8 : ((o'.length : Int) + 1 == 0) = false := by rw [beq_eq_false_iff_ne]; omega
            by_cases hzn : z2 = t0 + q
            · have HL := Lib.hid ((HSTEPS.out hne).1 (z1, z2) (by simp) hzn)
              have e3 : (z2 == t0 + q) = true := by simpa using hzn
              clear hgl hzn
              go_wp2
              go_quiet (fail)
              go_wp2
              go_quiet (fail)
              go_wp2
              go_roundw
              case rel => exact ⟨k + 1, by omega, by go_num, Lib.hid ⟨_, HL.out, by have := HROW2.out; simp only [List.length_append, List.length_cons, List.length_nil, Nat.zero_add] at this ⊢; exact this, ⟨_, by rw [HTT.out]; exact HNOW2.out⟩, HBUT2.out⟩⟩
              case measure => simp [intOf]; omega
            · have HL := Lib.hid ((HSTEPS.out hne).2 (fun u hu => by simp at hu; rw [← hu]; exact hzn))
              have e3 : (z2 == t0 + q) = false := by simpa using hzn
              clear hgl
              go_wp2
              go_quiet (fail)
              rename Nat => n1
              go_wp2
              go_quiet (fail)
              have hr5 : ((w4.drewN n1).drewN nq).ownsRow w2.heap.size 58 2 _ _ (flat2 (o' ++ [(z1, z2)])) := HROW2.out
              obtain ⟨v', w1, hrun, hown, hgr⟩ := snoc_pairs [(p, t0 + q)] Try.underlying55 infoLevel hr5 (by first | (simp; done) | (simp; omega)) (by simp) (show w2.heap.size ≤ w4.heap.size by omega)
              have hbl0 := own_below_grown hr5 (show w2.heap.size ≤ w4.heap.size by omega) hgr
              have hbl : Below w2.heap.size w4 w1 := ⟨hbl0.os, hbl0.tape, hbl0.output, hbl0.size, hbl0.block⟩
              rw [flat2_one] at hrun
              simp only [List.length_cons, List.length_nil, Nat.zero_add, World.heap_drewN, World.drewN_drewN, List.length_append] at hrun hown
              have HX : Hid (LvI c (k + 1) w.heap.size w2 v' w1) := Lib.hid ⟨(o' ++ [(z1, z2)]) ++ [(p, t0 + q)], HL.out, by simp only [List.length_cons, List.length_nil, Nat.zero_add, List.length_append] ; exact hown, ⟨p, by rw [HTT.out]; exact (hbl.block w.heap.size (by omega)).trans HNOW2.out⟩, HBUT2.out.then (But.of_below (b := w.heap.size) hbl (Nat.le_refl _)) (Nat.le_refl _)⟩
              obtain ⟨A', c', hv', -, -, -⟩ := own_slice hown
              subst hv'
              clear hown hgr hbl hbl0 hr5
              go_wp2
              go_roundw
              case rel => exact ⟨k + 1, by omega, by go_num, HX⟩
              case measure => simp [intOf]; omega
      · have j1 : decide ((k : Int) + 1 < (N : Int)) = false := decide_eq_false (by omega)
        have hne : ∀ z, c[k + 1]? = some z → z.1 ≠ p := fun z hz => (HNONE.out hn z hz).elim
        clear hnx
        rcases hlast with ho | ⟨o', z, g3, ho, hA3, hzc⟩
        · subst ho
          have HL := Lib.hid ((HSTEPS.out hne).2 (fun z hz => by simp at hz))
          clear hgl
          go_wp2
          go_quiet (fail)
          rename Nat => n1
          go_wp2
          go_quiet (fail)
          have hr5 : ((w4.drewN n1).drewN nq).ownsRow w2.heap.size 58 2 _ _ (flat2 []) := HROW2.out
          obtain ⟨v', w1, hrun, hown, hgr⟩ := snoc_pairs [(p, t0 + q)] Try.underlying55 infoLevel hr5 (by first | (simp; done) | (simp; omega)) (by simp) (show w2.heap.size ≤ w4.heap.size by omega)
          have hbl0 := own_below_grown hr5 (show w2.heap.size ≤ w4.heap.size by omega) hgr
          have hbl : Below w2.heap.size w4 w1 := ⟨hbl0.os, hbl0.tape, hbl0.output, hbl0.size, hbl0.block⟩
          rw [flat2_one] at hrun
          simp only [List.length_cons, List.length_nil, Nat.zero_add, World.heap_drewN, World.drewN_drewN] at hrun hown
          have HX : Hid (LvI c (k + 1) w.heap.size w2 v' w1) := Lib.hid ⟨[] ++ [(p, t0 + q)], HL.out, by simp only [List.length_cons, List.length_nil, Nat.zero_add, List.length_append] ; exact hown, ⟨p, by rw [HTT.out]; exact (hbl.block w.heap.size (by omega)).trans HNOW2.out⟩, HBUT2.out.then (But.of_below (b := w.heap.size) hbl (Nat.le_refl _)) (Nat.le_refl _)⟩
          obtain ⟨A', c', hv', -, -, -⟩ := own_slice hown
          subst hv'
          clear hown hgr hbl hbl0 hr5
          go_wp2
          go_roundw
          case rel => exact ⟨k + 1, by omega, by go_num, HX⟩
          case measure => simp [intOf]; omega
        · subst ho
          subst hA3
          obtain ⟨z1, z2⟩ := z
          dsimp only at hzc
          simp only [List.length_append, List.length_cons, List.length_nil, Nat.zero_add] at hc3 holen ⊢
          have e2 : (o'.length : Int) + 1 - 1 = (o'.length : Int) := by omega
          have i5 : (0 : Int) ≤ (o'.length : Int) := by omega
          have i6 : (o'.length : Int) < (o'.length : Int) + 1 := by omega
          have i7 : ¬ (o'.length : Int) + 1 = 0 := by omega
          have i8 : ((o'.length : Int) + 1 == 0) = false := by rw [beq_eq_false_iff_ne]; omega
          by_cases hzn : z2 = t0 + q
          · have HL := Lib.hid ((HSTEPS.out hne).1 (z1, z2) (by simp) hzn)
            have e3 : (z2 == t0 + q) = true := by simpa using hzn
            clear hgl hzn
            go_wp2
            go_quiet (fail)
            go_wp2
            go_quiet (fail)
            go_wp2
            go_roundw
            case rel => exact ⟨k + 1, by omega, by go_num, Lib.hid ⟨_, HL.out, by have := HROW2.out; simp only [List.length_append, List.length_cons, List.length_nil, Nat.zero_add] at this ⊢; exact this, ⟨_, by rw [HTT.out]; exact HNOW2.out⟩, HBUT2.out⟩⟩
            case measure => simp [intOf]; omega
          · have HL := Lib.hid ((HSTEPS.out hne).2 (fun u hu => by simp at hu; rw [← hu]; exact hzn))
            have e3 : (z2 == t0 + q) = false := by simpa using hzn
            clear hgl
            go_wp2
            go_quiet (fail)
            rename Nat => n1
            go_wp2
            go_quiet (fail)
            have hr5 : ((w4.drewN n1).drewN nq).ownsRow w2.heap.size 58 2 _ _ (flat2 (o' ++ [(z1, z2)])) := HROW2.out
            obtain ⟨v', w1, hrun, hown, hgr⟩ := snoc_pairs [(p, t0 + q)] Try.underlying55 infoLevel hr5 (by first | (simp; done) | (simp; omega)) (by simp) (show w2.heap.size ≤ w4.heap.size by omega)
            have hbl0 := own_below_grown hr5 (show w2.heap.size ≤ w4.heap.size by omega) hgr
            have hbl : Below w2.heap.size w4 w1 := ⟨hbl0.os, hbl0.tape, hbl0.output, hbl0.size, hbl0.block⟩
            rw [flat2_one] at hrun
            simp only [List.length_cons, List.length_nil, Nat.zero_add, World.heap_drewN, World.drewN_drewN, List.length_append] at hrun hown
            have HX : Hid (LvI c (k + 1) w.heap.size w2 v' w1) := Lib.hid ⟨(o' ++ [(z1, z2)]) ++ [(p, t0 + q)], HL.out, by simp only [List.length_cons, List.length_nil, Nat.zero_add, List.length_append] ; exact hown, ⟨p, by rw [HTT.out]; exact (hbl.block w.heap.size (by omega)).trans HNOW2.out⟩, HBUT2.out.then (But.of_below (b := w.heap.size) hbl (Nat.le_refl _)) (Nat.le_refl _)⟩
            obtain ⟨A', c', hv', -, -, -⟩ := own_slice hown
            subst hv'
            clear hown hgr hbl hbl0 hr5
            go_wp2
            go_roundw
            case rel => exact ⟨k + 1, by omega, by go_num, HX⟩
            case measure => simp [intOf]; omega
    · have hta : c.length = k := by have := HN.out; omega
      rw [← hta] at hlv
      have hre := recs_of_own hrow rfl
      have hge2 := own_ge hrow
      have hbb := hbut.below (show w.heap.size ≤ w2.heap.size by omega)
      have HL := Lib.hid hlv; have HRE := Lib.hid hre; have HG2 := Lib.hid hge2; have HBB := Lib.hid hbb
      clear hlv hrow hnow hbut hta hre hge2 hbb HI
      go_wp2
      go_ret
      exact ⟨_, c, o, rfl, HP.out, HL.out, HRE.out, ((Below.refl _ w).alloc (Nat.le_refl _) _).trans ((HB.out.mono (by simp)).trans HBB.out), fun j hj => Nat.le_trans (by omega) (HG2.out j hj)⟩
end Go.Proofs.Ytfbgfcpehlimfaa
