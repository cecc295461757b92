/- accounts' appear. -/
import Derived.Test.YtinhjobjlpkflaaEg
import Derived.Deep.RegionHeld3
namespace Go.Proofs.Ytinhjobjlpkflaa
open Go.RowKit
attribute [local go_sem ↓] append_appN

/-- A claim more behind those of one candidate. -/
theorem AcS.push {w : World} {g n : Nat} {s : Ac} {xs : List Value} {wr : World} (h : AcS w g n s xs wr) {j : Nat} (hj : j < 8) {v : Value} (hv : xs[j]? = some v) {L : List Cl} (hL : s.op[j]? = some L) (hl : L.length ≤ 1000) (q : Cl) {cs : Array Value} (hcs : (encC q).toArray = cs) :
    ∃ A c w', Sem.run Try.prog (appN #[31, 31] 31 #[v, .slice (some ⟨wr.heap.size, 0, none⟩) 1 1]) (wr.alloc (.cells cs 39)).drew = .ok (.slice A (L.length + 1) c) w' ∧ Below w.heap.size wr w' ∧ g < w'.heap.size ∧ w'.cell? ⟨g, 9 + j, none⟩ = some v ∧ w'.frozen? ⟨g, 9 + j, none⟩ = false ∧
      AcS w g n ⟨s.had, s.op.set j (L ++ [q])⟩ (xs.set j (.slice A (L.length + 1) c)) (w'.setCell ⟨g, 9 + j, none⟩ (.slice A (L.length + 1) c)) ∧ (∀ k, k < wr.heap.size → k < w.heap.size ∨ v.ownBlock ≠ some k → w'.heap[k]? = wr.heap[k]?) ∧ (∀ p, p < wr.heap.size → Nb p xs → Nb p (xs.set j (.slice A (L.length + 1) c))) := by
  have ho := h.own j v L hv hL
  have hbs := h.b.size
  obtain ⟨A, c, w', hrun, hown, hgr, hloc⟩ := snoc_claim (w := wr.drew) q ho (by omega) (by exact hbs) hcs
  have hz := hgr.size
  rw [World.size_alloc] at hz
  have hz2 : wr.heap.size + 1 ≤ w'.heap.size := hz
  have hblk : ∀ k, k < wr.heap.size → v.ownBlock ≠ some k → w'.heap[k]? = wr.heap[k]? := fun k hk hne => (hgr.block k (by rw [World.size_alloc]; exact Nat.lt_succ_of_lt hk) (fun e => hne e.symm)).trans (Below.heap_alloc wr.drew _ k hk)
  have hlow : ∀ k, v.ownBlock = some k → w.heap.size ≤ k := own_ge ho
  have hbw : Below w.heap.size wr w' := ((Below.refl _ wr).drew.alloc hbs (.cells cs 39)).grown hgr (by rw [World.size_alloc]; exact Nat.le_succ_of_le hbs) (fun r x => by have := hlow r x; omega)
  have hg := h.row.lt
  have hrow : Row w' g 68 (acCells n s.had xs).toArray := (hblk g hg (h.ng j v hv)).trans h.row
  refine ⟨A, c, w', hrun, hbw, hrow.lt, ?_, hrow.free _, ?_, fun k hk hor => ?_, fun p hp hN => hN.set j (fun e => ?_)⟩
  · rw [hrow.cell, List.getElem?_toArray]; exact acCells_sl h.lh hv
  · refine AcS.setS hrow h.lx h.lh h.lo (h.b.trans hbw) h.hg hj (fun i x M hi hx hM => ?_) (fun i k x y q hik _ _ hx hy e => h.ap i k x y q hik hx hy e) (fun i x _ hx => h.ng i x hx) ?_ (fun i x r hi hx e e2 => ?_) (fun e => ?_)
    · have hox := h.own i x M hx hM
      exact own_keep hox fun r e => hblk r (own_lt hox r e) fun e2 => h.ap i j x v r hi hx hv e e2
    · rw [List.length_append, List.length_singleton]; exact hown
    · rcases hloc with h1 | h1
      · exact h.ap j i v x r (fun e => hi e.symm) hv hx (h1.symm.trans e) e2
      · have hM : i < s.op.length := by rw [h.lo, ← h.lx]; exact (List.getElem?_eq_some_iff.1 hx).1
        have := own_lt (h.own i x _ hx (List.getElem?_eq_getElem hM)) r e2
        have e3 : wr.heap.size + 1 = r := Option.some.inj (h1.symm.trans e)
        omega
    · rcases hloc with h1 | h1
      · exact h.ng j v hv (h1.symm.trans e)
      · have e3 : wr.heap.size + 1 = g := Option.some.inj (h1.symm.trans e)
        omega
  · rcases hor with h1 | h1
    · exact hbw.block k h1
    · exact hblk k hk h1
  · rcases hloc with h1 | h1
    · exact hN j v hv (h1.symm.trans e)
    · have e3 : wr.heap.size + 1 = p := Option.some.inj (h1.symm.trans e)
      omega
set_option maxRecDepth 100000 in
set_option maxHeartbeats 16000000 in
theorem appear_any (w : World) (g n : Nat) (s : Ac) (xs : List Value) (w0 : World) (h : AcS w g n s xs w0) (idx : Nat) (x : Ap) (hn8 : n ≤ 8) (hx : okAp (n : Int) x = true) (hh : ∀ j, j < n → 0 ≤ s.had.getD j 0 ∧ s.had.getD j 0 ≤ 100000000) (hp : ∀ j, ∀ d ∈ s.op.getD j [], 0 < d.rest ∧ d.rest ≤ 100000) (hl : ∀ j, (s.op.getD j []).length ≤ 100) :
    Calls Try.prog 39 #[pt g, .int .i64 (idx : Int), .agg #[.int .i64 x.cand, .int .i64 x.at_, .int .i64 x.secs, .int .i64 x.weight]] w0 fun e w' => e = .returned (.tuple #[]) ∧ ∃ xs', AcS w g n (apStep n idx x s) xs' w' := by
  obtain ⟨p1, p2, p3, p4, p5, p6, p7, p8⟩ := okAp_parts hx
  obtain ⟨w1, w2⟩ := worth_bound hx
  obtain ⟨c, hcn⟩ : ∃ c, x.cand.toNat = c := ⟨_, rfl⟩
  have hcc : x.cand = (c : Int) := by omega
  have hc8 : c < 8 := by omega
  obtain ⟨wt, hwt⟩ : ∃ wt, worth x = wt := ⟨_, rfl⟩
  have hwt2 : x.secs * x.weight = wt := hwt
  have hw1 : 1 ≤ wt := by omega
  have hw2 : wt ≤ 36000 := by omega
  have HAD := Lib.hid (fun w1 (hs : AcS w g n s xs w1) => add_any w g n s xs w1 hs c hc8 wt (hh c (by omega)) (by omega))
  have HSV := Lib.hid (fun w1 (hs : AcS w g n ⟨s.had.set c (s.had.getD c 0 + wt), s.op⟩ xs w1) => serve_any w g n ⟨s.had.set c (s.had.getD c 0 + wt), s.op⟩ xs w1 hs c hc8 wt (hp c) (Nat.le_trans (hl c) (by decide)) (by omega))
  obtain ⟨R, hR⟩ : ∃ R, serveL (s.op.getD c []) wt = R := ⟨_, rfl⟩
  obtain ⟨a1, a2, a3, _, _, a6⟩ := serve_is (l := s.op.getD c []) (w := wt) (fun d hd => (hp c d hd).1) (by omega)
  rw [hR] at a1 a2 a3 a6
  have HST := Lib.hid (show apStep n idx x s = ⟨s.had.set c (s.had.getD c 0 + wt), if R.2 = 0 then s.op.set c R.1 else addAll n idx x R.2 (s.op.set c R.1)⟩ by
    unfold apStep
    dsimp only
    rw [hcn, hwt, hR])
  have HSV := Lib.hid (show ∀ w1, AcS w g n ⟨s.had.set c (s.had.getD c 0 + wt), s.op⟩ xs w1 → Calls Try.prog 47 #[pt g, .int .i64 (c : Int), .int .i64 wt] w1 fun e w' => e = .returned (.int .i64 R.2) ∧ (∃ xs', AcS w g n ⟨s.had.set c (s.had.getD c 0 + wt), s.op.set c R.1⟩ xs' w' ∧ ∀ p, p < w1.heap.size → Nb p xs → Nb p xs') ∧ FarG g w1 w' from fun w1 hs => by have h := HSV.out w1 hs; rw [show (⟨s.had.set c (s.had.getD c 0 + wt), s.op⟩ : Ac).op = s.op from rfl, hR] at h; exact h)
  obtain ⟨had', hhad⟩ : ∃ had', s.had.set c (s.had.getD c 0 + wt) = had' := ⟨_, rfl⟩
  rw [hhad] at HAD HSV HST
  have HOL := Lib.hid (show ∀ j, ((s.op.set c R.1).getD j []).length ≤ 101 from fun j => by
    rw [getD_setL (by rw [h.lo]; exact hc8)]
    split
    · have := hl c; omega
    · have := hl j; omega)
  obtain ⟨op', hop⟩ : ∃ op', s.op.set c R.1 = op' := ⟨_, rfl⟩
  rw [hop] at HSV HST HOL
  have HOP := Lib.hid (show op'.length = 8 by rw [← hop, List.length_set]; exact h.lo)
  have hbx := (Below.refl w0.heap.size w0).alloc (Nat.le_refl _) (.cells #[.int .i64 x.cand, .int .i64 x.at_, .int .i64 x.secs, .int .i64 x.weight] 49)
  have hrx := Row.new w0 49 #[.int .i64 x.cand, .int .i64 x.at_, .int .i64 x.secs, .int .i64 x.weight]
  have hS1 := h.next hbx
  obtain ⟨W1, hW1⟩ : ∃ W, w0.alloc (.cells #[.int .i64 x.cand, .int .i64 x.at_, .int .i64 x.secs, .int .i64 x.weight] 49) = W := ⟨_, rfl⟩
  obtain ⟨gX, hgX⟩ : ∃ gX, w0.heap.size = gX := ⟨_, rfl⟩
  rw [hW1] at hrx hS1
  rw [hgX] at hrx
  obtain ⟨z0, z1, z2, z3⟩ := x
  dsimp only at hcc hwt2 p3 p4 p5 p6 p7 p8 hrx hW1 ⊢
  subst hcc
  have HS1 := Lib.hid hS1
  have RX := Lib.hid hrx
  have hgx := hrx.lt
  have y0 := hrx.cell 0; have y1 := hrx.cell 1; have y2 := hrx.cell 2; have y3 := hrx.cell 3
  simp only [List.getElem?_toArray, List.getElem?_cons_zero, List.getElem?_cons_succ] at y0 y1 y2 y3
  have HNX := Lib.hid (show Nb gX xs from fun i v hv e => by
    have hi : i < s.op.length := by rw [h.lo, ← h.lx]; exact (List.getElem?_eq_some_iff.1 hv).1
    have := own_lt (h.own i v _ hv (List.getElem?_eq_getElem hi)) gX e
    omega)
  have HGW := Lib.hid (show g ≠ gX ∧ w.heap.size ≤ gX from ⟨by have := h.row.lt; omega, by have := h.b.size; omega⟩)
  have c0 : (0 : Int) ≤ (c : Int) := by omega
  have c1 : (c : Int) < (n : Int) := by omega
  clear hrx hS1 hbx h hop hhad hR hcn hwt hx hh hp hl w1 w2 p1 p2
  go_enter Try.func39, Try.ntmps39
  go_upto_region 2 with fail
  clear y0 y1 y2 y3
  have y0 := RX.out.cell 0; have y1 := RX.out.cell 1
  simp only [List.getElem?_toArray, List.getElem?_cons_zero, List.getElem?_cons_succ] at y0 y1
  go_still_tail 6, (by kernel_rfl)
  change wpList _ _ _ _ _ W1.drew
  go_upto_region 4 with (first | (go_at_call 46; (with_reducible refine Calls.mono (HAD.out _ (HS1.out.next (Below.refl _ _).drew)) ?_); rintro r u1 ⟨rfl, hs, hf⟩; have HS2 := Lib.hid hs; have RX := Lib.hid (hf.row (show Row W1.drew gX _ _ from RX.out) HGW.out.1.symm); clear hs hf y0 y1 hgx; have y0 := RX.out.cell 0; have y1 := RX.out.cell 1; have hgx := RX.out.lt; simp only [List.getElem?_toArray, List.getElem?_cons_zero, List.getElem?_cons_succ] at y0 y1) | (go_at_call 47; (with_reducible refine Calls.mono (HSV.out _ HS2.out) ?_); rintro r u2 ⟨rfl, ⟨xs2, hs, hnb⟩, hf⟩; have HS3 := Lib.hid hs; have HNB := Lib.hid (hnb gX hgx HNX.out); have RX := Lib.hid (hf.row RX.out HGW.out.1.symm); clear hs hnb hf y0 y1 hgx; have y0 := RX.out.cell 0; have y1 := RX.out.cell 1; have hgx := RX.out.lt; simp only [List.getElem?_toArray, List.getElem?_cons_zero, List.getElem?_cons_succ] at y0 y1))
  clear HAD HSV HS2
  obtain ⟨u, hu⟩ : ∃ u, R.2 = u := ⟨_, rfl⟩
  rw [hu] at a2 a3 HST ⊢
  clear hu a1 a6
  by_cases hu0 : u = 0
  · have e0 : (u == 0) = true := by rw [hu0]; rfl
    have HE := Lib.hid (show apStep n idx ⟨(c : Int), z1, z2, z3⟩ s = ⟨had', op'⟩ by rw [HST.out, if_pos hu0])
    clear hu0
    go_wp2
    (try simp only [Exit.inBlock, Exit.then])
    refine bodyPost_ret (results_none rfl _ _ _) rfl ?_
    exact ⟨rfl, _, by rw [HE.out]; exact HS3.out⟩
  · have e0 : (u == 0) = false := by rw [beq_eq_false_iff_ne]; exact hu0
    have HE := Lib.hid (show apStep n idx ⟨(c : Int), z1, z2, z3⟩ s = ⟨had', addAll n idx ⟨(c : Int), z1, z2, z3⟩ u op'⟩ by rw [HST.out, if_neg hu0])
    have n8 := HS3.out.cellN
    have lg := HS3.out.row.lt
    clear hu0
    go_upto_region 6 with fail
    clear n8 lg y0 y1 hgx
    go_loopw [8, 32] (fun _ z wr => ∃ (k : Nat) (xs : List Value), z = .int .i64 (k : Int) ∧ k ≤ n ∧ Hid (AcS w g n ⟨had', addAll k idx ⟨(c : Int), z1, z2, z3⟩ u op'⟩ xs wr) ∧ Hid (Nb gX xs) ∧ Hid (Row wr gX 49 #[.int .i64 (c : Int), .int .i64 z1, .int .i64 z2, .int .i64 z3])) (fun _ z _ => n - (intOf z).toNat)
    case atStart => exact ⟨0, _, rfl, Nat.zero_le _, HS3, HNB, RX⟩
    case round =>
      obtain ⟨k, xs, rfl, hk, HS, HNB, RX⟩ := hrel
      have k0 : (0 : Int) ≤ (k : Int) := by omega
      have e7 : IntKind.i64.wrap ((k : Int) + 1) = (k : Int) + 1 := IntWalk.i64_in _ (by omega)
      have y0 := RX.out.cell 0; have y1 := RX.out.cell 1; have hgx := RX.out.lt
      simp only [List.getElem?_toArray, List.getElem?_cons_zero, List.getElem?_cons_succ] at y0 y1
      by_cases hlt : k < n
      · have k1 : (k : Int) < (n : Int) := by omega
        have k8 : (k : Int) < 8 := by omega
        have HSU := Lib.hid (addAll_succ k idx ⟨(c : Int), z1, z2, z3⟩ u op')
        by_cases hkc : k = c
        · have e1 : ((k : Int) != (c : Int)) = false := by rw [hkc]; simp
          have HN := Lib.hid (show addAll (k + 1) idx ⟨(c : Int), z1, z2, z3⟩ u op' = addAll k idx ⟨(c : Int), z1, z2, z3⟩ u op' by rw [HSU.out]; unfold addOne; rw [if_pos (by dsimp only; omega)])
          clear hkc
          go_wp2
          go_roundw
          case rel => exact ⟨k + 1, xs, by go_num, by omega, by rw [HN.out]; exact HS, HNB, RX⟩
          case measure => simp [intOf]; omega
        · have e1 : ((k : Int) != (c : Int)) = true := by rw [bne_iff_ne]; omega
          obtain ⟨o, ho⟩ : ∃ o, addAll k idx ⟨(c : Int), z1, z2, z3⟩ u op' = o := ⟨_, rfl⟩
          have HN := Lib.hid (show addAll (k + 1) idx ⟨(c : Int), z1, z2, z3⟩ u op' = o.set k (o.getD k [] ++ [⟨(k : Int), (idx : Int), u, z1 + 604800⟩]) by rw [HSU.out, ho]; unfold addOne; rw [if_neg (by dsimp only; omega)])
          have HLL := Lib.hid (show (o.getD k []).length ≤ 102 by
            rw [← ho, (addAll_get (idx := idx) (x := ⟨(c : Int), z1, z2, z3⟩) (left := u) (o := op') k (by rw [HOP.out]; omega)).2, if_neg (fun h => by omega)]
            have := HOL.out k
            omega)
          rw [ho] at HS
          obtain ⟨v, hv⟩ : ∃ v, xs[k]? = some v := ⟨_, List.getElem?_eq_getElem (by rw [HS.out.lx]; omega)⟩
          have hL := op_get HS.out.lo (show k < 8 by omega)
          obtain ⟨L, hLe⟩ : ∃ L, o.getD k [] = L := ⟨_, rfl⟩
          dsimp only at hL
          rw [hLe] at hL HN HLL
          obtain ⟨Av, cv, rfl, -⟩ := own_slice (HS.out.own k v L hv hL)
          have t0 := HS.out.cellS hv
          have tg := HS.out.row.lt
          obtain ⟨A6, c6, w6, hrun, hb6, hg6, t6, f6, hs6, hfar, hnb6⟩ := HS.out.push (show k < 8 by omega) hv hL (by have := HLL.out; omega) ⟨(k : Int), (idx : Int), u, z1 + 604800⟩ (cs := #[.int .i64 (k : Int), .int .i64 (idx : Int), .int .i64 u, .int .i64 (z1 + 604800)]) rfl
          have HS6 := Lib.hid hs6
          have HNB6 := Lib.hid (hnb6 gX hgx HNB.out)
          have RX6 := Lib.hid (show Row w6 gX 49 #[.int .i64 (c : Int), .int .i64 z1, .int .i64 z2, .int .i64 z3] from (hfar gX hgx (by have h1 := HGW.out.2; exact .inr (HNB.out k _ hv))).trans RX.out)
          clear hv hL hLe ho hs6 hb6 hfar hnb6
          go_upto_region 9 with fail
          go_region
          go_wp2
          go_roundw
          case rel => exact ⟨k + 1, _, by go_num, by omega, by rw [HN.out]; exact HS6, HNB6, Lib.hid ((Below.heap_setCell w6 ⟨g, 9 + k, none⟩ _ gX HGW.out.1.symm).trans RX6)⟩
          case measure => simp [intOf]; omega
      · have k1 : ¬ (k : Int) < (n : Int) := by omega
        obtain rfl : k = n := by omega
        go_wp2
        go_end0
        exact ⟨rfl, xs, by rw [HE.out]; exact HS.out⟩
end Go.Proofs.Ytinhjobjlpkflaa
