/- ItemMatchesReference: its walk. -/
import Derived.Test.YtnmhigjannihgaaLr
import Derived.Deep.CutBlock
namespace Go.Proofs.Ytnmhigjannihgaa
open Go.RowKit Go.Shelf

theorem emod_leq {q n : Int} (h : 0 ≤ q) (hn : 0 < n) : q % n ≤ q := by
  obtain ⟨a, rfl⟩ := Int.eq_ofNat_of_zero_le h
  obtain ⟨b, rfl⟩ := Int.eq_ofNat_of_zero_le (Int.le_of_lt hn)
  exact_mod_cast Nat.mod_le a b
set_option maxHeartbeats 1000000 in
theorem pickx_any (c n : Int) (hn : 0 < n) (h0 : -9223372036854775808 ≤ c) (h1 : c ≤ 9223372036854775807) (w : World) :
    Calls Try.prog 19 #[.int .i64 c, .int .i64 n] w fun e w' => e = .returned (.int .i64 (pickI c n)) ∧ w = w' := by
  obtain ⟨q, hq⟩ : ∃ q : Int, (if c < 0 then -(c + 1) else c) = q := ⟨_, rfl⟩
  have hq0 : 0 ≤ q := by rw [← hq]; split <;> omega
  have hqm : q ≤ 9223372036854775807 := by rw [← hq]; split <;> omega
  have e1 : q.tmod n = pickI c n := by
    unfold pickI
    rw [hq, Int.tmod_eq_emod_of_nonneg hq0]
  have hlt := pickI_lt c n hn
  obtain ⟨k, hk⟩ : ∃ k, pickI c n = k := ⟨_, rfl⟩
  have hkm : pickI c n ≤ q := by unfold pickI; rw [hq]; exact emod_leq hq0 hn
  rw [hk] at e1 hlt hkm ⊢
  have e2 : IntKind.i64.wrap k = k := IntWalk.i64_in _ (by omega)
  have e3 : (n == 0) = false := by rw [beq_eq_false_iff_ne]; omega
  have e4 : ¬ n = 0 := by omega
  clear hk hkm
  by_cases hc : c < 0
  · rw [if_pos hc] at hq
    have s1 : IntKind.i64.wrap (c + 1) = c + 1 := IntWalk.i64_in _ (by omega)
    have s2 : IntKind.i64.wrap (-(c + 1)) = q := by rw [hq]; exact IntWalk.i64_in _ (by omega)
    clear hq
    go_enter Try.func19, Try.ntmps19
    go_wp2
    go_ret
    exact ⟨rfl, rfl⟩
  · rw [if_neg hc] at hq
    subst hq
    have hc2 : 0 ≤ c := by omega
    go_enter Try.func19, Try.ntmps19
    go_wp2
    go_ret
    exact ⟨rfl, rfl⟩
theorem hold8m {u y : World} {g : Nat} {v0 v1 v2 v3 v4 v5 v6 v7 : Value} (hr : Row u g 24 #[v0, v1, v2, v3, v4, v5, v6, v7]) (h : Below u.heap.size u y) : Below u.heap.size u y ∧ y.cell? ⟨g, 0, none⟩ = some v0 ∧ y.cell? ⟨g, 1, none⟩ = some v1 ∧ y.cell? ⟨g, 2, none⟩ = some v2 ∧ y.cell? ⟨g, 3, none⟩ = some v3 ∧ y.cell? ⟨g, 4, none⟩ = some v4 ∧ y.cell? ⟨g, 5, none⟩ = some v5 ∧ y.cell? ⟨g, 6, none⟩ = some v6 ∧ y.cell? ⟨g, 7, none⟩ = some v7 :=
  have k := hr.below h hr.lt
  ⟨h, k.cell 0, k.cell 1, k.cell 2, k.cell 3, k.cell 4, k.cell 5, k.cell 6, k.cell 7⟩
theorem pick_small {c n : Int} (h0 : 0 ≤ c) (h1 : c < n) : pickI c n = c := by
  unfold pickI
  rw [if_neg (by omega), Int.emod_eq_of_lt h0 h1]
theorem hold1m {u y : World} {g : Nat} {v0 v1 v2 v3 v4 v5 v6 v7 : Value} (hr : Row u g 24 #[v0, v1, v2, v3, v4, v5, v6, v7]) (h : Below u.heap.size u y) : Below u.heap.size u y ∧ y.cell? ⟨g, 2, none⟩ = some v2 := ⟨h, (hr.below h hr.lt).cell 2⟩
theorem hold16 {u y : World} {g g2 : Nat} {v0 v1 v2 v3 v4 v5 v6 v7 z0 z1 z2 z3 z4 z5 z6 z7 : Value} (hr : Row u g 24 #[v0, v1, v2, v3, v4, v5, v6, v7]) (hy : Row u g2 24 #[z0, z1, z2, z3, z4, z5, z6, z7]) (h : Below u.heap.size u y) : Below u.heap.size u y ∧ y.cell? ⟨g, 0, none⟩ = some v0 ∧ y.cell? ⟨g, 1, none⟩ = some v1 ∧ y.cell? ⟨g, 2, none⟩ = some v2 ∧ y.cell? ⟨g, 3, none⟩ = some v3 ∧ y.cell? ⟨g, 4, none⟩ = some v4 ∧ y.cell? ⟨g, 5, none⟩ = some v5 ∧ y.cell? ⟨g, 6, none⟩ = some v6 ∧ y.cell? ⟨g, 7, none⟩ = some v7 ∧ y.cell? ⟨g2, 0, none⟩ = some z0 ∧ y.cell? ⟨g2, 1, none⟩ = some z1 ∧ y.cell? ⟨g2, 2, none⟩ = some z2 ∧ y.cell? ⟨g2, 3, none⟩ = some z3 ∧ y.cell? ⟨g2, 4, none⟩ = some z4 ∧ y.cell? ⟨g2, 5, none⟩ = some z5 ∧ y.cell? ⟨g2, 6, none⟩ = some z6 ∧ y.cell? ⟨g2, 7, none⟩ = some z7 :=
  have k := hr.below h hr.lt
  have j := hy.below h hy.lt
  ⟨h, k.cell 0, k.cell 1, k.cell 2, k.cell 3, k.cell 4, k.cell 5, k.cell 6, k.cell 7, j.cell 0, j.cell 1, j.cell 2, j.cell 3, j.cell 4, j.cell 5, j.cell 6, j.cell 7⟩
structure StM (w : World) (i : ItemP) (A1 : Option Addr) (n1 c1 : Nat) (A2 : Option Addr) (n2 c2 : Nat) (h : ItemP) (D1 : Option Addr) (l1 p1 : Nat) (D2 : Option Addr) (l2 p2 : Nat) (r : ItemP) (R1 : Option Addr) (m1 f1 : Nat) (R2 : Option Addr) (m2 f2 : Nat) (O : Option Addr) (on oc : Nat) (odd : List Int) (gS : Nat) (wr : World) : Prop where
  it : ItAt i A1 n1 c1 A2 n2 c2 wr.heap.size wr
  ih : ItAt h D1 l1 p1 D2 l2 p2 wr.heap.size wr
  ir : ItAt ⟨r.id, r.kind, r.len, r.trims.take m1, r.talks.take m2, r.artist, r.tempo, r.lang⟩ R1 m1 f1 R2 m2 f2 wr.heap.size wr
  odd : Recs enc1 1 wr wr.heap.size (.slice O on oc) odd
  row : Row wr gS 24 #[.int .i64 i.id, .int .i64 i.kind, .int .i64 i.len, .slice A1 n1 c1, .slice A2 n2 c2, .int .i64 i.artist, .int .i64 i.tempo, .int .i64 i.lang, .int .i64 h.id, .int .i64 h.kind, .int .i64 h.len, .slice D1 l1 p1, .slice D2 l2 p2, .int .i64 h.artist, .int .i64 h.tempo, .int .i64 h.lang, .int .i64 r.id, .int .i64 r.kind, .int .i64 r.len, .slice R1 m1 f1, .slice R2 m2 f2, .int .i64 r.artist, .int .i64 r.tempo, .int .i64 r.lang]
  b : Below w.heap.size w wr
  sm : n1 ≤ 6 ∧ l1 ≤ 6 ∧ m1 ≤ 6
theorem StM.next {w : World} {i : ItemP} {A1 : Option Addr} {n1 c1 : Nat} {A2 : Option Addr} {n2 c2 : Nat} {h : ItemP} {D1 : Option Addr} {l1 p1 : Nat} {D2 : Option Addr} {l2 p2 : Nat} {r : ItemP} {R1 : Option Addr} {m1 f1 : Nat} {R2 : Option Addr} {m2 f2 : Nat} {O : Option Addr} {on oc : Nat} {odd : List Int} {gS : Nat} {wr wr' : World} (s : StM w i A1 n1 c1 A2 n2 c2 h D1 l1 p1 D2 l2 p2 r R1 m1 f1 R2 m2 f2 O on oc odd gS wr) (hb : Below wr.heap.size wr wr') : StM w i A1 n1 c1 A2 n2 c2 h D1 l1 p1 D2 l2 p2 r R1 m1 f1 R2 m2 f2 O on oc odd gS wr' :=
  ⟨s.it.next hb, s.ih.next hb, s.ir.next hb, s.odd.next hb, s.row.below hb s.row.lt, below_to s.b hb, s.sm⟩
theorem StM.at_ {w : World} {i : ItemP} {A1 : Option Addr} {n1 c1 : Nat} {A2 : Option Addr} {n2 c2 : Nat} {h : ItemP} {D1 : Option Addr} {l1 p1 : Nat} {D2 : Option Addr} {l2 p2 : Nat} {r : ItemP} {R1 : Option Addr} {m1 f1 : Nat} {R2 : Option Addr} {m2 f2 : Nat} {O : Option Addr} {on oc : Nat} {odd : List Int} {gS : Nat} {wr : World} (s : StM w i A1 n1 c1 A2 n2 c2 h D1 l1 p1 D2 l2 p2 r R1 m1 f1 R2 m2 f2 O on oc odd gS wr) {K : Nat} (hK : K < 3) :
    ∃ (p : ItemP) (P1 P2 : Option Addr) (a1 b1 a2 b2 : Nat), ItAt p P1 a1 b1 P2 a2 b2 wr.heap.size wr ∧ wr.cell? ⟨gS, K * 8, none⟩ = some (.int .i64 p.id) ∧ wr.cell? ⟨gS, K * 8 + 1, none⟩ = some (.int .i64 p.kind) ∧ wr.cell? ⟨gS, K * 8 + 2, none⟩ = some (.int .i64 p.len) ∧ wr.cell? ⟨gS, K * 8 + 3, none⟩ = some (.slice P1 a1 b1) ∧ wr.cell? ⟨gS, K * 8 + 4, none⟩ = some (.slice P2 a2 b2) ∧ wr.cell? ⟨gS, K * 8 + 5, none⟩ = some (.int .i64 p.artist) ∧ wr.cell? ⟨gS, K * 8 + 6, none⟩ = some (.int .i64 p.tempo) ∧ wr.cell? ⟨gS, K * 8 + 7, none⟩ = some (.int .i64 p.lang) ∧ a1 ≤ 6 := by
  have h3 : K = 0 ∨ K = 1 ∨ K = 2 := by omega
  rcases h3 with rfl | rfl | rfl
  · exact ⟨_, _, _, _, _, _, _, s.it, s.row.cell 0, s.row.cell 1, s.row.cell 2, s.row.cell 3, s.row.cell 4, s.row.cell 5, s.row.cell 6, s.row.cell 7, s.sm.1⟩
  · exact ⟨_, _, _, _, _, _, _, s.ih, s.row.cell 8, s.row.cell 9, s.row.cell 10, s.row.cell 11, s.row.cell 12, s.row.cell 13, s.row.cell 14, s.row.cell 15, s.sm.2.1⟩
  · exact ⟨_, _, _, _, _, _, _, s.ir, s.row.cell 16, s.row.cell 17, s.row.cell 18, s.row.cell 19, s.row.cell 20, s.row.cell 21, s.row.cell 22, s.row.cell 23, s.sm.2.2⟩
set_option maxRecDepth 100000 in
set_option maxHeartbeats 16000000 in
theorem match_true (r : ItemP) (R1 R2 : Option Addr) (e1 f1 e2 f2 : Nat) (id x0 x1 x2 x3 x4 x5 how n at_ set : Int) (O : Option Addr) (on oc : Nat) (odd : List Int) (length second : Int) (hid : I64 id) (hx6 : ∀ x ∈ [x0, x1, x2, x3, x4, x5], I64 x) (hhow : I64 how) (hat : I64 at_) (hset : I64 set) (hlen : I64 length) (hsec : I64 second) (w : World) (hr : ItAt r R1 e1 f1 R2 e2 f2 w.heap.size w) (ho : Recs enc1 1 w w.heap.size (.slice O on oc) odd) :
    Calls Try.prog 3 #[.agg #[.int .i64 r.id, .int .i64 r.kind, .int .i64 r.len, .slice R1 e1 f1, .slice R2 e2 f2, .int .i64 r.artist, .int .i64 r.tempo, .int .i64 r.lang], .int .i64 id, .agg #[.int .i64 x0, .int .i64 x1, .int .i64 x2, .int .i64 x3, .int .i64 x4, .int .i64 x5], .int .i64 how, .int .i64 n, .int .i64 at_, .int .i64 set, .slice O on oc, .int .i64 length, .int .i64 second] w fun e w' => e = .returned (.bool true) ∧ Below w.heap.size w w' := by
  obtain ⟨m1, hm1⟩ : ∃ m, min e1 6 = m := ⟨_, rfl⟩
  obtain ⟨m2, hm2⟩ : ∃ m, min e2 6 = m := ⟨_, rfl⟩
  have q1 : min (e1 : Int) 6 = (m1 : Int) := by omega
  have q2 : min (e2 : Int) 6 = (m2 : Int) := by omega
  have HRT := Lib.hid (ItAt.mk (i := ⟨r.id, r.kind, r.len, r.trims.take m1, r.talks.take m2, r.artist, r.tempo, r.lang⟩) (recs_take hr.t m1 (by omega)) (recs_take hr.k m2 (by omega)))
  have hcr := (recs_cap hr.t).2
  have hck := (recs_cap hr.k).2
  have hl := hr.lens
  have q3 : (m1 : Int) ≤ (f1 : Int) := by omega
  have q4 : (m2 : Int) ≤ (f2 : Int) := by omega
  have q5 : m1 ≤ f1 := by omega
  have q6 : m2 ≤ f2 := by omega
  have q7 : (0 : Int) ≤ (m1 : Int) := by omega
  have q8 : (0 : Int) ≤ (m2 : Int) := by omega
  have q9 : e1 ≤ 9223372036854775807 := by omega
  have q10 : e2 ≤ 9223372036854775807 := by omega
  have HO := Lib.hid ho
  have HM1 := Lib.hid (show m1 ≤ 6 by omega)
  clear hm1 hm2 hcr hck hl hr ho
  go_enter Try.func3, Try.ntmps3
  have BR := Row.new w 24 #[.int .i64 r.id, .int .i64 r.kind, .int .i64 r.len, .slice R1 e1 f1, .slice R2 e2 f2, .int .i64 r.artist, .int .i64 r.tempo, .int .i64 r.lang]
  go_upto_region 4 with (first | (go_at_call 9; (with_reducible refine Calls.mono (sane_any _) ?_); rintro r9 u1 ⟨rfl, hb⟩; have HB1 := Lib.hid (below_to (((Below.refl _ w).alloc (Nat.le_refl _) (.cells #[.int .i64 r.id, .int .i64 r.kind, .int .i64 r.len, .slice R1 e1 f1, .slice R2 e2 f2, .int .i64 r.artist, .int .i64 r.tempo, .int .i64 r.lang] 24)).alloc (by simp) (.cells #[.int .i64 x0, .int .i64 x1, .int .i64 x2, .int .i64 x3, .int .i64 x4, .int .i64 x5] 25)) hb); have RR := Lib.hid ((BR.alloc (.cells #[.int .i64 x0, .int .i64 x1, .int .i64 x2, .int .i64 x3, .int .i64 x4, .int .i64 x5] 25)).below hb (BR.alloc _).lt); have RX := Lib.hid ((Row.new (w.alloc (.cells #[.int .i64 r.id, .int .i64 r.kind, .int .i64 r.len, .slice R1 e1 f1, .slice R2 e2 f2, .int .i64 r.artist, .int .i64 r.tempo, .int .i64 r.lang] 24)) 25 #[.int .i64 x0, .int .i64 x1, .int .i64 x2, .int .i64 x3, .int .i64 x4, .int .i64 x5]).below hb (Row.new (w.alloc (.cells #[.int .i64 r.id, .int .i64 r.kind, .int .i64 r.len, .slice R1 e1 f1, .slice R2 e2 f2, .int .i64 r.artist, .int .i64 r.tempo, .int .i64 r.lang] 24)) 25 #[.int .i64 x0, .int .i64 x1, .int .i64 x2, .int .i64 x3, .int .i64 x4, .int .i64 x5]).lt); have c3 := RR.out.cell 3; have c4 := RR.out.cell 4; have f3 := RR.out.free 3; have f4 := RR.out.free 4; have lr := RR.out.lt; clear hb))
  rw [World.size_alloc] at RX
  have RR2 := Lib.hid ((RR.out.put 3 (.slice R1 m1 f1)).put 4 (.slice R2 m2 f2))
  have RX2 := Lib.hid ((RX.out.far (p := ⟨w.heap.size, 3, none⟩) (by dsimp only; omega) (.slice R1 m1 f1)).far (p := ⟨w.heap.size, 4, none⟩) (by dsimp only; omega) (.slice R2 m2 f2))
  have HB2 := Lib.hid ((HB1.out.setCell (p := ⟨w.heap.size, 3, none⟩) (by dsimp only; omega) (.slice R1 m1 f1)).setCell (p := ⟨w.heap.size, 4, none⟩) (by dsimp only; omega) (.slice R2 m2 f2))
  obtain ⟨u2, hu2⟩ : ∃ v, (u1.setCell ⟨w.heap.size, 3, none⟩ (.slice R1 m1 f1)).setCell ⟨w.heap.size, 4, none⟩ (.slice R2 m2 f2) = v := ⟨_, rfl⟩
  rw [hu2] at RR2 RX2 HB2 ⊢
  clear hu2 c3 c4 f3 f4 lr RR RX HB1 BR q1 q2 q3 q4 q5 q6 q7 q8 q9 q10
  have X_0 := RX2.out.cell 0
  have X_1 := RX2.out.cell 1
  have X_2 := RX2.out.cell 2
  have X_3 := RX2.out.cell 3
  have X_4 := RX2.out.cell 4
  have X_5 := RX2.out.cell 5
  have lx := RX2.out.lt
  go_upto_region 5 with (first | (go_at_call 10; (with_reducible refine Calls.mono (rmade_any id x0 x1 x2 x3 x4 x5 hid hx6 _) ?_); rintro r9 u3 ⟨i, A1, A2, n1, c1, n2, c2, rfl, hok, hit, hb⟩; have HIT := Lib.hid hit; have HOK := Lib.hid hok; have HB3 := Lib.hid (below_to HB2.out hb); have RR3 := Lib.hid (RR2.out.below hb RR2.out.lt); have sz3 := HB3.out.size; have lr3 := RR3.out.lt; clear hit hok hb))
  obtain ⟨u4, hu4⟩ : ∃ v, u3.alloc (.cells #[.int .i64 i.id, .int .i64 i.kind, .int .i64 i.len, .slice A1 n1 c1, .slice A2 n2 c2, .int .i64 i.artist, .int .i64 i.tempo, .int .i64 i.lang] 24) = v := ⟨_, rfl⟩
  have RI := Lib.hid (show Row u4 u3.heap.size 24 #[.int .i64 i.id, .int .i64 i.kind, .int .i64 i.len, .slice A1 n1 c1, .slice A2 n2 c2, .int .i64 i.artist, .int .i64 i.tempo, .int .i64 i.lang] by rw [← hu4]; exact Row.new _ _ _)
  have RR4 := Lib.hid (show Row u4 w.heap.size 24 #[.int .i64 r.id, .int .i64 r.kind, .int .i64 r.len, .slice R1 m1 f1, .slice R2 m2 f2, .int .i64 r.artist, .int .i64 r.tempo, .int .i64 r.lang] by rw [← hu4]; exact RR3.out.alloc _)
  have h34 : Below u3.heap.size u3 u4 := by rw [← hu4]; exact (Below.refl _ _).alloc (Nat.le_refl _) _
  have HB4 := Lib.hid (below_to HB3.out h34)
  have HIT := Lib.hid (HIT.out.next h34)
  have HN := Lib.hid (show n1 ≤ 1000 ∧ n2 ≤ 1000 by have := HIT.out.lens; have := HOK.out.n1; have := HOK.out.n2; omega)
  have HM6 := Lib.hid (show m1 ≤ 6 ∧ n1 ≤ 6 ∧ n1 ≤ 4 from ⟨HM1.out, by have := HIT.out.lens; have := HOK.out.n1; omega, by have := HIT.out.lens; have := HOK.out.n1; omega⟩)
  have HBE := Lib.hid (fun u (hu : Below u4.heap.size u4 u) => rbent_x i how n at_ hhow hat A1 A2 n1 c1 n2 c2 HN.out u (HIT.out.next hu))
  have HRR := Lib.hid (HRT.out.next HB4.out)
  have HO4 := Lib.hid (HO.out.next HB4.out)
  rw [hu4]
  clear hu4 h34 HN HOK HB3 RR3 RR2 RX2 HB2 sz3 lr3 HRT HO X_0 X_1 X_2 X_3 X_4 X_5 lx
  go_cut [87, 88, 89] from 80 to 90 (fun s l z wx => ∃ (h : ItemP) (D1 D2 : Option Addr) (l1 p1 l2 p2 gS : Nat), s = .slice (some ⟨gS, 0, none⟩) 3 3 ∧ l = .int .i64 3 ∧ z = .int .i64 0 ∧ Hid (StM w i A1 n1 c1 A2 n2 c2 h D1 l1 p1 D2 l2 p2 r R1 m1 f1 R2 m2 f2 O on oc odd gS wx))
  case first =>
    go_region_held3 (fun y => Below u4.heap.size u4 y ∧ y.cell? ⟨u3.heap.size, 0, none⟩ = some (.int .i64 i.id) ∧ y.cell? ⟨u3.heap.size, 1, none⟩ = some (.int .i64 i.kind) ∧ y.cell? ⟨u3.heap.size, 2, none⟩ = some (.int .i64 i.len) ∧ y.cell? ⟨u3.heap.size, 3, none⟩ = some (.slice A1 n1 c1) ∧ y.cell? ⟨u3.heap.size, 4, none⟩ = some (.slice A2 n2 c2) ∧ y.cell? ⟨u3.heap.size, 5, none⟩ = some (.int .i64 i.artist) ∧ y.cell? ⟨u3.heap.size, 6, none⟩ = some (.int .i64 i.tempo) ∧ y.cell? ⟨u3.heap.size, 7, none⟩ = some (.int .i64 i.lang) ∧ y.cell? ⟨w.heap.size, 0, none⟩ = some (.int .i64 r.id) ∧ y.cell? ⟨w.heap.size, 1, none⟩ = some (.int .i64 r.kind) ∧ y.cell? ⟨w.heap.size, 2, none⟩ = some (.int .i64 r.len) ∧ y.cell? ⟨w.heap.size, 3, none⟩ = some (.slice R1 m1 f1) ∧ y.cell? ⟨w.heap.size, 4, none⟩ = some (.slice R2 m2 f2) ∧ y.cell? ⟨w.heap.size, 5, none⟩ = some (.int .i64 r.artist) ∧ y.cell? ⟨w.heap.size, 6, none⟩ = some (.int .i64 r.tempo) ∧ y.cell? ⟨w.heap.size, 7, none⟩ = some (.int .i64 r.lang)) (first | assumption | (exact hold16 RI.out RR4.out (Below.refl _ _).drew) | (exact hold16 RI.out RR4.out (Below.alloc (‹Below u4.heap.size u4 _ ∧ _›).1 (Below.size (‹Below u4.heap.size u4 _ ∧ _›).1) _))) (first | (go_at_call 11; ((with_reducible refine Calls.mono (HBE.out _ (‹Below u4.heap.size u4 _ ∧ _›).1) ?_); rintro r9 w7 ⟨h, D1, D2, l1, p1, l2, p2, rfl, hit7, hb7, hl7⟩; have hB7 := below_to (‹Below u4.heap.size u4 _ ∧ _›).1 hb7; have hS7 := hold16 RI.out RR4.out hB7)))
    all_goals (
      go_wp2
      go_meet
      exact ⟨h, D1, D2, l1, p1, l2, p2, _, rfl, rfl, rfl, Lib.hid ⟨HIT.out.next (‹Below u4.heap.size u4 _ ∧ _›).1, hit7.next ((Below.refl _ _).alloc (Nat.le_refl _) _), HRR.out.next (‹Below u4.heap.size u4 _ ∧ _›).1, HO4.out.next (‹Below u4.heap.size u4 _ ∧ _›).1, Row.new _ _ _, below_to HB4.out (‹Below u4.heap.size u4 _ ∧ _›).1, HM6.out.2.1, by have := HM6.out.2.2; omega, HM6.out.1⟩⟩)
  case rest =>
    obtain ⟨h, D1, D2, l1, p1, l2, p2, gS, rfl, rfl, rfl, HS⟩ := hcut
    clear HIT HBE HRR HO4 RI RR4 HB4 HM6 HM1
    go_wp2
    go_loopw [89] (fun z wr => ∃ K : Nat, z = .int .i64 (K : Int) ∧ K ≤ 3 ∧ Hid (StM w i A1 n1 c1 A2 n2 c2 h D1 l1 p1 D2 l2 p2 r R1 m1 f1 R2 m2 f2 O on oc odd gS wr)) (fun z _ => 3 - (intOf z).toNat)
    case atStart => exact ⟨0, rfl, by omega, HS⟩
    case round =>
      clear HS
      obtain ⟨K, rfl, hK, HS⟩ := hrel
      have K_0 : (0 : Int) ≤ (K : Int) := by omega
      by_cases hK3 : K < 3
      · have K_1 : (K : Int) < 3 := by omega
        obtain ⟨p, P1, P2, a1, b1, a2, b2, hp, t0, t1, t2, t3, t4, t5, t6, t7, a6⟩ := HS.out.at_ hK3
        have HA6 := Lib.hid a6
        have lg := HS.out.row.lt
        obtain ⟨V, hV⟩ : ∃ V, validI p = V := ⟨_, rfl⟩
        obtain ⟨L, hL⟩ : ∃ L, lensV p = L := ⟨_, rfl⟩
        obtain ⟨E1, hE1⟩ : ∃ E, (if V then (0 : Int) else 70) = E := ⟨_, rfl⟩
        obtain ⟨S, hS⟩ : ∃ S, encodeV p = S := ⟨_, rfl⟩
        obtain ⟨S1, S2⟩ := S
        rw [← hV] at hE1
        have HV := Lib.hid hV
        have HL := Lib.hid hL
        have HE := Lib.hid hE1
        have HSE := Lib.hid hS
        clear hV hL hE1 hS a6
        go_upto_region 8 with fail
        obtain ⟨V1, hV1⟩ : ∃ V, wr.alloc (.cells #[.int .i64 p.id, .int .i64 p.kind, .int .i64 p.len, .slice P1 a1 b1, .slice P2 a2 b2, .int .i64 p.artist, .int .i64 p.tempo, .int .i64 p.lang] 24) = V := ⟨_, rfl⟩
        have RB := Lib.hid (show Row V1 wr.heap.size 24 #[.int .i64 p.id, .int .i64 p.kind, .int .i64 p.len, .slice P1 a1 b1, .slice P2 a2 b2, .int .i64 p.artist, .int .i64 p.tempo, .int .i64 p.lang] by rw [← hV1]; exact Row.new _ _ _)
        have h1 : Below wr.heap.size wr V1 := by rw [← hV1]; exact (Below.refl _ _).alloc (Nat.le_refl _) _
        have HS1 := Lib.hid (HS.out.next h1)
        have HP := Lib.hid (hp.next h1)
        rw [hV1]
        obtain ⟨gB, hg⟩ : ∃ g, wr.heap.size = g := ⟨_, rfl⟩
        rw [hg] at RB ⊢
        clear hV1 hg h1 hp HS t0 t1 t2 t3 t4 t5 t6 t7 lg
        go_cut [97] from 93 to 98 (fun b wx => b = .bool false ∧ Hid (Below V1.heap.size V1 wx))
        case first =>
          as_aux_lemma =>
            go_region_held3 (fun y => Below V1.heap.size V1 y ∧ y.cell? ⟨gB, 0, none⟩ = some (.int .i64 p.id) ∧ y.cell? ⟨gB, 1, none⟩ = some (.int .i64 p.kind) ∧ y.cell? ⟨gB, 2, none⟩ = some (.int .i64 p.len) ∧ y.cell? ⟨gB, 3, none⟩ = some (.slice P1 a1 b1) ∧ y.cell? ⟨gB, 4, none⟩ = some (.slice P2 a2 b2) ∧ y.cell? ⟨gB, 5, none⟩ = some (.int .i64 p.artist) ∧ y.cell? ⟨gB, 6, none⟩ = some (.int .i64 p.tempo) ∧ y.cell? ⟨gB, 7, none⟩ = some (.int .i64 p.lang)) (first | assumption | (exact hold8m RB.out (Below.drew (Below.refl _ _)))) (first | (go_at_call 12; ((with_reducible refine Calls.mono (val_at HV.out (HP.out.next (‹Below V1.heap.size V1 _ ∧ _›).1)) ?_); rintro r w9 ⟨rfl, hb9⟩; have hB9 := below_to (‹Below V1.heap.size V1 _ ∧ _›).1 hb9; have hS9 := hold8m RB.out hB9)) | (go_at_call 13; ((with_reducible refine Calls.mono (rvalid_at HV.out (HP.out.next (‹Below V1.heap.size V1 _ ∧ _›).1)) ?_); rintro r w8 ⟨rfl, hb8⟩; have hB8 := below_to (‹Below V1.heap.size V1 _ ∧ _›).1 hb8; have hS8 := hold8m RB.out hB8)))
            all_goals (
              have HX := Lib.hid (‹Below V1.heap.size V1 _ ∧ _›).1
              go_wp2_with fail
              go_meet
              exact ⟨by simp, HX⟩)
        case rest =>
          obtain ⟨rfl, HX⟩ := hcut
          obtain ⟨V2, rfl⟩ : ∃ V, V = wc := ⟨_, rfl⟩
          have RB := Lib.hid (RB.out.below HX.out RB.out.lt)
          have HS1 := Lib.hid (HS1.out.next HX.out)
          have HP := Lib.hid (HP.out.next HX.out)
          clear HX
          have B_0 : V2.cell? ⟨gB, 0, none⟩ = some (.int .i64 p.id) := RB.out.cell 0
          have B_1 : V2.cell? ⟨gB, 1, none⟩ = some (.int .i64 p.kind) := RB.out.cell 1
          have B_2 : V2.cell? ⟨gB, 2, none⟩ = some (.int .i64 p.len) := RB.out.cell 2
          have B_3 : V2.cell? ⟨gB, 3, none⟩ = some (.slice P1 a1 b1) := RB.out.cell 3
          have B_4 : V2.cell? ⟨gB, 4, none⟩ = some (.slice P2 a2 b2) := RB.out.cell 4
          have B_5 : V2.cell? ⟨gB, 5, none⟩ = some (.int .i64 p.artist) := RB.out.cell 5
          have B_6 : V2.cell? ⟨gB, 6, none⟩ = some (.int .i64 p.tempo) := RB.out.cell 6
          have B_7 : V2.cell? ⟨gB, 7, none⟩ = some (.int .i64 p.lang) := RB.out.cell 7
          have lB := RB.out.lt
          go_upto_if 140 with (first | (go_at_call 14; (with_reducible refine Calls.mono (plens_at HL.out HE.out HP.out) ?_); rintro r u51 ⟨A5, n5, c5, rfl, hr, hb⟩; have Bc := Lib.hid (hb); have sz := Bc.out.size; have sc51 := Nat.le_trans (Nat.le_refl V2.heap.size) (hb).size; have RB := Lib.hid (RB.out.below hb RB.out.lt); clear B_0 B_1 B_2 B_3 B_4 B_5 B_6 B_7 lB; have B_0 := RB.out.cell 0; have B_1 := RB.out.cell 1; have B_2 := RB.out.cell 2; have B_3 := RB.out.cell 3; have B_4 := RB.out.cell 4; have B_5 := RB.out.cell 5; have B_6 := RB.out.cell 6; have B_7 := RB.out.cell 7; have lB := RB.out.lt; have HP := Lib.hid (HP.out.next hb); have HS1 := Lib.hid (HS1.out.next hb); have HRA := Lib.hid hr; clear hr; clear hb) | (go_at_call 15; (with_reducible refine Calls.mono (rlens_at HL.out HE.out HP.out) ?_); rintro r u52 ⟨A6, n6, c6, rfl, hr, hb⟩; have Bc := Lib.hid (below_to Bc.out hb); have sz := Bc.out.size; have sc52 := Nat.le_trans (Nat.le_refl u51.heap.size) (hb).size; have RB := Lib.hid (RB.out.below hb RB.out.lt); clear B_0 B_1 B_2 B_3 B_4 B_5 B_6 B_7 lB; have B_0 := RB.out.cell 0; have B_1 := RB.out.cell 1; have B_2 := RB.out.cell 2; have B_3 := RB.out.cell 3; have B_4 := RB.out.cell 4; have B_5 := RB.out.cell 5; have B_6 := RB.out.cell 6; have B_7 := RB.out.cell 7; have lB := RB.out.lt; have HP := Lib.hid (HP.out.next hb); have HS1 := Lib.hid (HS1.out.next hb); have HRA := Lib.hid (HRA.out.next hb); have HRB := Lib.hid hr; clear hr; clear hb) | (go_at_call 16; (with_reducible refine Calls.mono (enc_at HSE.out HP.out) ?_); rintro r u53 ⟨rfl, hb⟩; have Bc := Lib.hid (below_to Bc.out hb); have sz := Bc.out.size; have sc53 := Nat.le_trans (Nat.le_refl u52.heap.size) (hb).size; have RB := Lib.hid (RB.out.below hb RB.out.lt); clear B_0 B_1 B_2 B_3 B_4 B_5 B_6 B_7 lB; have B_0 := RB.out.cell 0; have B_1 := RB.out.cell 1; have B_2 := RB.out.cell 2; have B_3 := RB.out.cell 3; have B_4 := RB.out.cell 4; have B_5 := RB.out.cell 5; have B_6 := RB.out.cell 6; have B_7 := RB.out.cell 7; have lB := RB.out.lt; have HP := Lib.hid (HP.out.next hb); have HS1 := Lib.hid (HS1.out.next hb); have HRA := Lib.hid (HRA.out.next hb); have HRB := Lib.hid (HRB.out.next hb); clear hb) | (go_at_call 17; (with_reducible refine Calls.mono (rencode_at HSE.out HP.out) ?_); rintro r u54 ⟨rfl, hb⟩; have Bc := Lib.hid (below_to Bc.out hb); have sz := Bc.out.size; have sc54 := Nat.le_trans (Nat.le_refl u53.heap.size) (hb).size; have RB := Lib.hid (RB.out.below hb RB.out.lt); clear B_0 B_1 B_2 B_3 B_4 B_5 B_6 B_7 lB; have B_0 := RB.out.cell 0; have B_1 := RB.out.cell 1; have B_2 := RB.out.cell 2; have B_3 := RB.out.cell 3; have B_4 := RB.out.cell 4; have B_5 := RB.out.cell 5; have B_6 := RB.out.cell 6; have B_7 := RB.out.cell 7; have lB := RB.out.lt; have HP := Lib.hid (HP.out.next hb); have HS1 := Lib.hid (HS1.out.next hb); have HRA := Lib.hid (HRA.out.next hb); have HRB := Lib.hid (HRB.out.next hb); clear hb) | (go_at_call 18; (with_reducible refine Calls.mono (rints_eq _ _ _ _ _ _ _ _ HRA.out HRB.out) ?_); rintro r u55 ⟨rfl, hb⟩; have Bc := Lib.hid (below_to Bc.out hb); have sz := Bc.out.size; have sc55 := Nat.le_trans (Nat.le_refl u54.heap.size) (hb).size; have RB := Lib.hid (RB.out.below hb RB.out.lt); clear B_0 B_1 B_2 B_3 B_4 B_5 B_6 B_7 lB; have B_0 := RB.out.cell 0; have B_1 := RB.out.cell 1; have B_2 := RB.out.cell 2; have B_3 := RB.out.cell 3; have B_4 := RB.out.cell 4; have B_5 := RB.out.cell 5; have B_6 := RB.out.cell 6; have B_7 := RB.out.cell 7; have lB := RB.out.lt; have HP := Lib.hid (HP.out.next hb); have HS1 := Lib.hid (HS1.out.next hb); have HRA := Lib.hid (HRA.out.next hb); have HRB := Lib.hid (HRB.out.next hb); clear hb))
          clear B_0 B_1 B_2 B_3 B_4 B_5 B_6 B_7 lB
          have hn6 := (recs_cap HRB.out).1
          go_cut [33] from 137 to 148 (fun x wx => ∃ kw : Int, x = .int .i64 kw ∧ Hid (Below u55.heap.size u55 wx))
          case first =>
            as_aux_lemma =>
              have HN6 := Lib.hid hn6
              clear hn6
              by_cases h60 : (0 : Int) < (n6 : Int)
              · have hlt := pickI_lt length n6 h60
                have hcap := recs_cap HRB.out
                obtain ⟨kp, hkp⟩ : ∃ k, (pickI length n6).toNat = k := ⟨_, rfl⟩
                have hkp2 : pickI length n6 = (kp : Int) := by omega
                have HPK := Lib.hid (fun u => pick_at hkp2 h60 (by omega) hlen u)
                obtain ⟨g6, o6, hA6, hg6, hcell⟩ := recs_at HRB.out kp (by have := HN6.out; omega)
                subst hA6
                have hc6 := cells1 hcell kp (by have := HN6.out; omega)
                obtain ⟨kw, hkw⟩ : ∃ kw, L[kp]'(by have := HN6.out; omega) = kw := ⟨_, rfl⟩
                rw [hkw] at hc6
                have p0 : (0 : Int) ≤ (kp : Int) := by omega
                have p1 : (kp : Int) < (n6 : Int) := by omega
                clear hlt hcap hkp hkp2 hcell hkw
                go_wp2_with (go_at_call 19; (with_reducible refine Calls.mono (HPK.out _) ?_); rintro r w9 ⟨rfl, rfl⟩)
                go_meet
                exact ⟨kw, rfl, Lib.hid (Below.refl _ _)⟩
              · go_wp2_with fail
                go_meet
                exact ⟨length, rfl, Lib.hid (Below.refl _ _)⟩
          case rest =>
            obtain ⟨V3, rfl⟩ : ∃ V, V = wc := ⟨_, rfl⟩
            obtain ⟨kw, rfl, HX⟩ := hcut
            have RB := Lib.hid (RB.out.below HX.out RB.out.lt)
            have HS1 := Lib.hid (HS1.out.next HX.out)
            have HP := Lib.hid (HP.out.next HX.out)
            clear HX HRA HRB hn6 Bc sz
            go_upto_block 2 with fail
            obtain ⟨V4, hV4⟩ : ∃ V, V3.alloc (.cells #[.int .i64 length, .int .i64 kw] 3) = V := ⟨_, rfl⟩
            have h4 : Below V3.heap.size V3 V4 := by rw [← hV4]; exact (Below.refl _ _).alloc (Nat.le_refl _) _
            have RK := Lib.hid (show Row V4 V3.heap.size 3 #[.int .i64 length, .int .i64 kw] by rw [← hV4]; exact Row.new _ _ _)
            have RB := Lib.hid (RB.out.below h4 RB.out.lt)
            have HS1 := Lib.hid (HS1.out.next h4)
            have HP := Lib.hid (HP.out.next h4)
            rw [hV4]
            obtain ⟨gK, hgK⟩ : ∃ g, V3.heap.size = g := ⟨_, rfl⟩
            rw [hgK] at RK ⊢
            have HK : Hid (∀ j, j < 2 → ∃ q : Int, V4.cell? ⟨gK, j, none⟩ = some (.int .i64 q)) := Lib.hid (fun j hj => by
              rcases (by omega : j = 0 ∨ j = 1) with rfl | rfl
              · exact ⟨_, RK.out.cell 0⟩
              · exact ⟨_, RK.out.cell 1⟩)
            have LK := Lib.hid RK.out.lt
            clear hV4 hgK h4 RK
            go_cut [152] from 152 to 178 (fun _ wx => Hid (Below V4.heap.size V4 wx))
            case first =>
              as_aux_lemma =>
                go_wp2_with fail
                go_loopw [152] (fun z wr => ∃ j : Nat, z = .int .i64 (j : Int) ∧ j ≤ 2 ∧ Hid (Below V4.heap.size V4 wr)) (fun z _ => 2 - (intOf z).toNat)
                case atStart => exact ⟨0, rfl, by omega, Lib.hid (Below.refl _ _)⟩
                case round =>
                  obtain ⟨j, rfl, hj, HB⟩ := hrel
                  by_cases hj2 : j < 2
                  · obtain ⟨q, cq⟩ := HK.out j hj2
                    replace cq := (HB.out.cell (p := ⟨gK, j, none⟩) LK.out).trans cq
                    have lgK := Nat.lt_of_lt_of_le LK.out HB.out.size
                    have RB := Lib.hid (RB.out.below HB.out RB.out.lt)
                    have HP := Lib.hid (HP.out.next HB.out)
                    obtain ⟨LC, hLC⟩ : ∃ LC, zi ((cutV p q).getD []) = LC := ⟨_, rfl⟩
                    obtain ⟨EC, hEC⟩ : ∃ EC, (if (cutV p q).isSome then (0 : Int) else 70) = EC := ⟨_, rfl⟩
                    have HLC := Lib.hid hLC
                    have HEC := Lib.hid hEC
                    clear hLC hEC
                    have j1 : (0 : Int) ≤ (j : Int) := by omega
                    have j2 : (j : Int) < 2 := by omega
                    have B_0 : wr.cell? ⟨gB, 0, none⟩ = some (.int .i64 p.id) := RB.out.cell 0
                    have B_1 : wr.cell? ⟨gB, 1, none⟩ = some (.int .i64 p.kind) := RB.out.cell 1
                    have B_2 : wr.cell? ⟨gB, 2, none⟩ = some (.int .i64 p.len) := RB.out.cell 2
                    have B_3 : wr.cell? ⟨gB, 3, none⟩ = some (.slice P1 a1 b1) := RB.out.cell 3
                    have B_4 : wr.cell? ⟨gB, 4, none⟩ = some (.slice P2 a2 b2) := RB.out.cell 4
                    have B_5 : wr.cell? ⟨gB, 5, none⟩ = some (.int .i64 p.artist) := RB.out.cell 5
                    have B_6 : wr.cell? ⟨gB, 6, none⟩ = some (.int .i64 p.tempo) := RB.out.cell 6
                    have B_7 : wr.cell? ⟨gB, 7, none⟩ = some (.int .i64 p.lang) := RB.out.cell 7
                    have lB := RB.out.lt
                    go_wp2_with (first | (go_at_call 20; (with_reducible refine Calls.mono (pcut_at HLC.out HEC.out HP.out) ?_); rintro r u61 ⟨A5, n5, c5, rfl, hr, hb⟩; have Bc := Lib.hid (hb); have sz := Bc.out.size; have sc61 := Nat.le_trans (Nat.le_refl wr.heap.size) (hb).size; have RB := Lib.hid (RB.out.below hb RB.out.lt); clear B_0 B_1 B_2 B_3 B_4 B_5 B_6 B_7 lB; have B_0 := RB.out.cell 0; have B_1 := RB.out.cell 1; have B_2 := RB.out.cell 2; have B_3 := RB.out.cell 3; have B_4 := RB.out.cell 4; have B_5 := RB.out.cell 5; have B_6 := RB.out.cell 6; have B_7 := RB.out.cell 7; have lB := RB.out.lt; have HP := Lib.hid (HP.out.next hb); have HRA := Lib.hid hr; clear hr; clear hb) | (go_at_call 21; (with_reducible refine Calls.mono (rcutv_at HLC.out HEC.out HP.out) ?_); rintro r u62 ⟨A6, n6, c6, rfl, hr, hb⟩; have Bc := Lib.hid (below_to Bc.out hb); have sz := Bc.out.size; have sc62 := Nat.le_trans (Nat.le_refl u61.heap.size) (hb).size; have RB := Lib.hid (RB.out.below hb RB.out.lt); clear B_0 B_1 B_2 B_3 B_4 B_5 B_6 B_7 lB; have B_0 := RB.out.cell 0; have B_1 := RB.out.cell 1; have B_2 := RB.out.cell 2; have B_3 := RB.out.cell 3; have B_4 := RB.out.cell 4; have B_5 := RB.out.cell 5; have B_6 := RB.out.cell 6; have B_7 := RB.out.cell 7; have lB := RB.out.lt; have HP := Lib.hid (HP.out.next hb); have HRA := Lib.hid (HRA.out.next hb); have HRB := Lib.hid hr; clear hr; clear hb) | (go_at_call 18; (with_reducible refine Calls.mono (rints_eq _ _ _ _ _ _ _ _ HRA.out HRB.out) ?_); rintro r u63 ⟨rfl, hb⟩; have Bc := Lib.hid (below_to Bc.out hb); have sz := Bc.out.size; have sc63 := Nat.le_trans (Nat.le_refl u62.heap.size) (hb).size; have RB := Lib.hid (RB.out.below hb RB.out.lt); clear B_0 B_1 B_2 B_3 B_4 B_5 B_6 B_7 lB; have B_0 := RB.out.cell 0; have B_1 := RB.out.cell 1; have B_2 := RB.out.cell 2; have B_3 := RB.out.cell 3; have B_4 := RB.out.cell 4; have B_5 := RB.out.cell 5; have B_6 := RB.out.cell 6; have B_7 := RB.out.cell 7; have lB := RB.out.lt; have HP := Lib.hid (HP.out.next hb); have HRA := Lib.hid (HRA.out.next hb); have HRB := Lib.hid (HRB.out.next hb); clear hb))
                    go_roundw
                    case rel => exact ⟨j + 1, by go_num, by omega, Lib.hid (below_to HB.out Bc.out)⟩
                    case measure => simp [intOf]; omega
                  · have jx : ¬ (j : Int) < 2 := by omega
                    go_wp2_with fail
                    go_meet
                    exact HB
            case rest =>
              obtain ⟨V5, rfl⟩ : ∃ V, V = wc := ⟨_, rfl⟩
              have RB := Lib.hid (RB.out.below hcut.out RB.out.lt)
              have HS1 := Lib.hid (HS1.out.next hcut.out)
              have HP := Lib.hid (HP.out.next hcut.out)
              clear hcut HK LK
              have B_0 : V5.cell? ⟨gB, 0, none⟩ = some (.int .i64 p.id) := RB.out.cell 0
              have B_1 : V5.cell? ⟨gB, 1, none⟩ = some (.int .i64 p.kind) := RB.out.cell 1
              have B_2 : V5.cell? ⟨gB, 2, none⟩ = some (.int .i64 p.len) := RB.out.cell 2
              have B_3 : V5.cell? ⟨gB, 3, none⟩ = some (.slice P1 a1 b1) := RB.out.cell 3
              have B_4 : V5.cell? ⟨gB, 4, none⟩ = some (.slice P2 a2 b2) := RB.out.cell 4
              have B_5 : V5.cell? ⟨gB, 5, none⟩ = some (.int .i64 p.artist) := RB.out.cell 5
              have B_6 : V5.cell? ⟨gB, 6, none⟩ = some (.int .i64 p.tempo) := RB.out.cell 6
              have B_7 : V5.cell? ⟨gB, 7, none⟩ = some (.int .i64 p.lang) := RB.out.cell 7
              have lB := RB.out.lt
              go_upto_block 4 with (first | (go_at_call 22; (with_reducible refine Calls.mono (cutOf_any set hset p.id p.kind p.len p.artist p.tempo p.lang P1 P2 a1 b1 a2 b2 (by have := HA6.out; omega) _) ?_); rintro r u71 ⟨A7, n7, c7, rfl, hr, hb⟩; have Bc := Lib.hid (hb); have sz := Bc.out.size; have sc71 := Nat.le_trans (Nat.le_refl V5.heap.size) (hb).size; have RB := Lib.hid (RB.out.below hb RB.out.lt); clear B_0 B_1 B_2 B_3 B_4 B_5 B_6 B_7 lB; have B_0 := RB.out.cell 0; have B_1 := RB.out.cell 1; have B_2 := RB.out.cell 2; have B_3 := RB.out.cell 3; have B_4 := RB.out.cell 4; have B_5 := RB.out.cell 5; have B_6 := RB.out.cell 6; have B_7 := RB.out.cell 7; have lB := RB.out.lt; have HP := Lib.hid (HP.out.next hb); have HS1 := Lib.hid (HS1.out.next hb); have HC := Lib.hid hr; clear hr; clear hb) | (go_at_call 23; (with_reducible refine Calls.mono (few_any odd O on oc _ HS1.out.odd) ?_); rintro r w9 ⟨rfl, rfl⟩))
              obtain ⟨V6, hV6⟩ : ∃ V, u71.alloc (.cells #[.slice A7 n7 c7, .slice O (min on 6) oc] 26) = V := ⟨_, rfl⟩
              have h6 : Below u71.heap.size u71 V6 := by rw [← hV6]; exact (Below.refl _ _).alloc (Nat.le_refl _) _
              have RK := Lib.hid (show Row V6 u71.heap.size 26 #[.slice A7 n7 c7, .slice O (min on 6) oc] by rw [← hV6]; exact Row.new _ _ _)
              have RB := Lib.hid (RB.out.below h6 RB.out.lt)
              have HS1 := Lib.hid (HS1.out.next h6)
              have HP := Lib.hid (HP.out.next h6)
              have HC := Lib.hid (HC.out.next h6)
              have HO := Lib.hid (recs_take HS1.out.odd (min on 6) (by omega))
              rw [hV6]
              obtain ⟨gK, hgK⟩ : ∃ g, u71.heap.size = g := ⟨_, rfl⟩
              rw [hgK] at RK ⊢
              have HK : Hid (∀ j, j < 2 → ∃ (A3 : Option Addr) (n3 c3 : Nat) (C : List Int), V6.cell? ⟨gK, j, none⟩ = some (.slice A3 n3 c3) ∧ Recs enc1 1 V6 V6.heap.size (.slice A3 n3 c3) C) := Lib.hid (fun j hj => by
                rcases (by omega : j = 0 ∨ j = 1) with rfl | rfl
                · exact ⟨_, _, _, _, RK.out.cell 0, HC.out⟩
                · exact ⟨_, _, _, _, RK.out.cell 1, HO.out⟩)
              have LK := Lib.hid RK.out.lt
              clear hV6 hgK h6 RK HC HO Bc sz B_0 B_1 B_2 B_3 B_4 B_5 B_6 B_7 lB
              go_wp2_with fail
              go_loopw [185] (fun z wr => ∃ j : Nat, z = .int .i64 (j : Int) ∧ j ≤ 2 ∧ Hid (Below V6.heap.size V6 wr)) (fun z _ => 2 - (intOf z).toNat)
              case atStart => exact ⟨0, rfl, by omega, Lib.hid (Below.refl _ _)⟩
              case round =>
                obtain ⟨j, rfl, hj, HB⟩ := hrel
                by_cases hj2 : j < 2
                · obtain ⟨A3, n3, c3, C, cq, hC⟩ := HK.out j hj2
                  replace cq := (HB.out.cell (p := ⟨gK, j, none⟩) LK.out).trans cq
                  have lgK := Nat.lt_of_lt_of_le LK.out HB.out.size
                  have RB := Lib.hid (RB.out.below HB.out RB.out.lt)
                  have HP := Lib.hid (HP.out.next HB.out)
                  have HC := Lib.hid (hC.next HB.out)
                  obtain ⟨la, lb, hla⟩ : ∃ a b, lengthV p C = (a, b) := ⟨_, _, rfl⟩
                  obtain ⟨T, tb, hT⟩ : ∃ a b, talkV p C = (a, b) := ⟨_, _, rfl⟩
                  have HLA := Lib.hid hla
                  have HTA := Lib.hid hT
                  clear hla hT hC
                  have j1 : (0 : Int) ≤ (j : Int) := by omega
                  have j2 : (j : Int) < 2 := by omega
                  have B_0 : wr.cell? ⟨gB, 0, none⟩ = some (.int .i64 p.id) := RB.out.cell 0
                  have B_1 : wr.cell? ⟨gB, 1, none⟩ = some (.int .i64 p.kind) := RB.out.cell 1
                  have B_2 : wr.cell? ⟨gB, 2, none⟩ = some (.int .i64 p.len) := RB.out.cell 2
                  have B_3 : wr.cell? ⟨gB, 3, none⟩ = some (.slice P1 a1 b1) := RB.out.cell 3
                  have B_4 : wr.cell? ⟨gB, 4, none⟩ = some (.slice P2 a2 b2) := RB.out.cell 4
                  have B_5 : wr.cell? ⟨gB, 5, none⟩ = some (.int .i64 p.artist) := RB.out.cell 5
                  have B_6 : wr.cell? ⟨gB, 6, none⟩ = some (.int .i64 p.tempo) := RB.out.cell 6
                  have B_7 : wr.cell? ⟨gB, 7, none⟩ = some (.int .i64 p.lang) := RB.out.cell 7
                  have lB := RB.out.lt
                  go_upto_region 36 with (first | (go_at_call 24; (with_reducible refine Calls.mono (length_at HLA.out HP.out HC.out) ?_); rintro r u81 ⟨rfl, hb⟩; have Bc := Lib.hid (hb); have sz := Bc.out.size; have sc81 := Nat.le_trans (Nat.le_refl wr.heap.size) (hb).size; have RB := Lib.hid (RB.out.below hb RB.out.lt); clear B_0 B_1 B_2 B_3 B_4 B_5 B_6 B_7 lB; have B_0 := RB.out.cell 0; have B_1 := RB.out.cell 1; have B_2 := RB.out.cell 2; have B_3 := RB.out.cell 3; have B_4 := RB.out.cell 4; have B_5 := RB.out.cell 5; have B_6 := RB.out.cell 6; have B_7 := RB.out.cell 7; have lB := RB.out.lt; have HP := Lib.hid (HP.out.next hb); have HC := Lib.hid (HC.out.next hb); clear hb) | (go_at_call 25; (with_reducible refine Calls.mono (rlength_at HLA.out HP.out HC.out) ?_); rintro r u82 ⟨rfl, hb⟩; have Bc := Lib.hid (below_to Bc.out hb); have sz := Bc.out.size; have sc82 := Nat.le_trans (Nat.le_refl u81.heap.size) (hb).size; have RB := Lib.hid (RB.out.below hb RB.out.lt); clear B_0 B_1 B_2 B_3 B_4 B_5 B_6 B_7 lB; have B_0 := RB.out.cell 0; have B_1 := RB.out.cell 1; have B_2 := RB.out.cell 2; have B_3 := RB.out.cell 3; have B_4 := RB.out.cell 4; have B_5 := RB.out.cell 5; have B_6 := RB.out.cell 6; have B_7 := RB.out.cell 7; have lB := RB.out.lt; have HP := Lib.hid (HP.out.next hb); have HC := Lib.hid (HC.out.next hb); clear hb) | (go_at_call 26; (with_reducible refine Calls.mono (ptalk_at HTA.out HP.out HC.out) ?_); rintro r u83 ⟨A5, n5, c5, rfl, hr, hb⟩; have Bc := Lib.hid (below_to Bc.out hb); have sz := Bc.out.size; have sc83 := Nat.le_trans (Nat.le_refl u82.heap.size) (hb).size; have RB := Lib.hid (RB.out.below hb RB.out.lt); clear B_0 B_1 B_2 B_3 B_4 B_5 B_6 B_7 lB; have B_0 := RB.out.cell 0; have B_1 := RB.out.cell 1; have B_2 := RB.out.cell 2; have B_3 := RB.out.cell 3; have B_4 := RB.out.cell 4; have B_5 := RB.out.cell 5; have B_6 := RB.out.cell 6; have B_7 := RB.out.cell 7; have lB := RB.out.lt; have HP := Lib.hid (HP.out.next hb); have HC := Lib.hid (HC.out.next hb); have HRA := Lib.hid hr; clear hr; clear hb) | (go_at_call 27; (with_reducible refine Calls.mono (rtalk_at HTA.out HP.out HC.out) ?_); rintro r u84 ⟨A6, n6, c6, rfl, hr, hb⟩; have Bc := Lib.hid (below_to Bc.out hb); have sz := Bc.out.size; have sc84 := Nat.le_trans (Nat.le_refl u83.heap.size) (hb).size; have RB := Lib.hid (RB.out.below hb RB.out.lt); clear B_0 B_1 B_2 B_3 B_4 B_5 B_6 B_7 lB; have B_0 := RB.out.cell 0; have B_1 := RB.out.cell 1; have B_2 := RB.out.cell 2; have B_3 := RB.out.cell 3; have B_4 := RB.out.cell 4; have B_5 := RB.out.cell 5; have B_6 := RB.out.cell 6; have B_7 := RB.out.cell 7; have lB := RB.out.lt; have HP := Lib.hid (HP.out.next hb); have HC := Lib.hid (HC.out.next hb); have HRA := Lib.hid (HRA.out.next hb); have HRB := Lib.hid hr; clear hr; clear hb) | (go_at_call 28; (with_reducible refine Calls.mono (rsame_eq _ _ _ _ _ _ _ _ HRA.out HRB.out) ?_); rintro r u85 ⟨rfl, hb⟩; have Bc := Lib.hid (below_to Bc.out hb); have sz := Bc.out.size; have sc85 := Nat.le_trans (Nat.le_refl u84.heap.size) (hb).size; have RB := Lib.hid (RB.out.below hb RB.out.lt); clear B_0 B_1 B_2 B_3 B_4 B_5 B_6 B_7 lB; have B_0 := RB.out.cell 0; have B_1 := RB.out.cell 1; have B_2 := RB.out.cell 2; have B_3 := RB.out.cell 3; have B_4 := RB.out.cell 4; have B_5 := RB.out.cell 5; have B_6 := RB.out.cell 6; have B_7 := RB.out.cell 7; have lB := RB.out.lt; have HP := Lib.hid (HP.out.next hb); have HC := Lib.hid (HC.out.next hb); have HRA := Lib.hid (HRA.out.next hb); have HRB := Lib.hid (HRB.out.next hb); clear hb))
                  clear B_0 B_1 B_2 B_3 B_4 B_5 B_6 B_7 lB cq lgK
                  have HBZ := Lib.hid (below_to HB.out Bc.out)
                  obtain ⟨V7, rfl⟩ : ∃ V, V = u85 := ⟨_, rfl⟩
                  clear HRA HRB Bc sz HB
                  obtain ⟨mx1, hmx1⟩ : ∃ m, max 1 la = m := ⟨_, rfl⟩
                  obtain ⟨mx2, hmx2⟩ : ∃ m, max 1 p.len = m := ⟨_, rfl⟩
                  have hm1 : 0 < mx1 := by omega
                  have hm2 : 0 < mx2 := by omega
                  have M1 := fun w : World => run_max2 (P := Try.prog) (w := w) #[3, 3] 3 .i64 .i64 1 la mx1 hmx1
                  have M2 := fun w : World => run_max2 (P := Try.prog) (w := w) #[3, 3] 3 .i64 .i64 1 p.len mx2 hmx2
                  have PK1 := Lib.hid (fun u => pickx_any second mx1 hm1 hsec.1 hsec.2 u)
                  have PK2 := Lib.hid (fun u => pickx_any second mx2 hm2 hsec.1 hsec.2 u)
                  obtain ⟨y1, hy1⟩ : ∃ y, pickI second mx1 = y := ⟨_, rfl⟩
                  obtain ⟨y2, hy2⟩ : ∃ y, pickI second mx2 = y := ⟨_, rfl⟩
                  rw [hy1] at PK1
                  rw [hy2] at PK2
                  clear hmx1 hmx2 hm1 hm2 hy1 hy2
                  go_cut [242, 243, 244] from 232 to 245 (fun s l z wx => ∃ g', s = .slice (some ⟨g', 0, none⟩) 3 3 ∧ l = .int .i64 3 ∧ z = .int .i64 0 ∧ Hid (Row wx g' 3 #[.int .i64 second, .int .i64 y1, .int .i64 y2]) ∧ Hid (Below V7.heap.size V7 wx))
                  case first =>
                    as_aux_lemma =>
                      have B_2 : V7.cell? ⟨gB, 2, none⟩ = some (.int .i64 p.len) := RB.out.cell 2
                      have lB := RB.out.lt
                      go_region_held3 (fun y => Below V7.heap.size V7 y ∧ y.cell? ⟨gB, 2, none⟩ = some (.int .i64 p.len)) (first | assumption | (exact hold1m RB.out (Below.drew (Below.refl _ _))) | (exact hold1m RB.out (Below.drew (Below.alloc (Below.refl _ _) (Nat.le_refl _) _))) | (exact hold1m RB.out (Below.alloc (‹Below V7.heap.size V7 _ ∧ _›).1 (Below.size (‹Below V7.heap.size V7 _ ∧ _›).1) _))) (first | (go_at_call 19; ((first | (with_reducible refine Calls.mono (PK1.out _) ?_) | (with_reducible refine Calls.mono (PK2.out _) ?_)); rintro r w9 ⟨rfl, rfl⟩)))
                      all_goals (
                        have HX := Lib.hid (‹Below V7.heap.size V7 _ ∧ _›).1
                        go_wp2_with fail
                        go_meet
                        exact ⟨_, rfl, rfl, rfl, Lib.hid (Row.new _ _ _), HX⟩)
                  case rest =>
                    obtain ⟨g', rfl, rfl, rfl, RZ, HX⟩ := hcut
                    obtain ⟨V8, rfl⟩ : ∃ V, V = wc := ⟨_, rfl⟩
                    have RB := Lib.hid (RB.out.below HX.out RB.out.lt)
                    have HP := Lib.hid (HP.out.next HX.out)
                    have HC := Lib.hid (HC.out.next HX.out)
                    have HBZ := Lib.hid (below_to HBZ.out HX.out)
                    have HZ : Hid (∀ j, j < 3 → ∃ q : Int, V8.cell? ⟨g', j, none⟩ = some (.int .i64 q)) := Lib.hid (fun j hj => by
                      rcases (by omega : j = 0 ∨ j = 1 ∨ j = 2) with rfl | rfl | rfl
                      · exact ⟨_, RZ.out.cell 0⟩
                      · exact ⟨_, RZ.out.cell 1⟩
                      · exact ⟨_, RZ.out.cell 2⟩)
                    have LZ := Lib.hid RZ.out.lt
                    clear RZ HX M1 M2 PK1 PK2
                    go_wp2_with fail
                    go_loopw [244] (fun z wr => ∃ j : Nat, z = .int .i64 (j : Int) ∧ j ≤ 3 ∧ Hid (Below V8.heap.size V8 wr)) (fun z _ => 3 - (intOf z).toNat)
                    case atStart => exact ⟨0, rfl, by omega, Lib.hid (Below.refl _ _)⟩
                    case round =>
                      obtain ⟨i3, rfl, hi3, HB⟩ := hrel
                      by_cases hi4 : i3 < 3
                      · obtain ⟨q, cq⟩ := HZ.out i3 hi4
                        replace cq := (HB.out.cell (p := ⟨g', i3, none⟩) LZ.out).trans cq
                        have lgZ := Nat.lt_of_lt_of_le LZ.out HB.out.size
                        have RB := Lib.hid (RB.out.below HB.out RB.out.lt)
                        have HP := Lib.hid (HP.out.next HB.out)
                        have HC := Lib.hid (HC.out.next HB.out)
                        obtain ⟨pa, pb, hpa⟩ : ∃ a b, placeV p C q = (a, b) := ⟨_, _, rfl⟩
                        obtain ⟨ha, hd, hha⟩ : ∃ a b, heardV p C q = (a, b) := ⟨_, _, rfl⟩
                        have HPA := Lib.hid hpa
                        have HHA := Lib.hid hha
                        clear hpa hha
                        have j1 : (0 : Int) ≤ (i3 : Int) := by omega
                        have j2 : (i3 : Int) < 3 := by omega
                        have B_0 : wr.cell? ⟨gB, 0, none⟩ = some (.int .i64 p.id) := RB.out.cell 0
                        have B_1 : wr.cell? ⟨gB, 1, none⟩ = some (.int .i64 p.kind) := RB.out.cell 1
                        have B_2 : wr.cell? ⟨gB, 2, none⟩ = some (.int .i64 p.len) := RB.out.cell 2
                        have B_3 : wr.cell? ⟨gB, 3, none⟩ = some (.slice P1 a1 b1) := RB.out.cell 3
                        have B_4 : wr.cell? ⟨gB, 4, none⟩ = some (.slice P2 a2 b2) := RB.out.cell 4
                        have B_5 : wr.cell? ⟨gB, 5, none⟩ = some (.int .i64 p.artist) := RB.out.cell 5
                        have B_6 : wr.cell? ⟨gB, 6, none⟩ = some (.int .i64 p.tempo) := RB.out.cell 6
                        have B_7 : wr.cell? ⟨gB, 7, none⟩ = some (.int .i64 p.lang) := RB.out.cell 7
                        have lB := RB.out.lt
                        go_wp2_with (first | (go_at_call 29; (with_reducible refine Calls.mono (place_at HPA.out HP.out HC.out) ?_); rintro r u91 ⟨rfl, hb⟩; have Bc := Lib.hid (hb); have sz := Bc.out.size; have sc91 := Nat.le_trans (Nat.le_refl wr.heap.size) (hb).size; have RB := Lib.hid (RB.out.below hb RB.out.lt); clear B_0 B_1 B_2 B_3 B_4 B_5 B_6 B_7 lB; have B_0 := RB.out.cell 0; have B_1 := RB.out.cell 1; have B_2 := RB.out.cell 2; have B_3 := RB.out.cell 3; have B_4 := RB.out.cell 4; have B_5 := RB.out.cell 5; have B_6 := RB.out.cell 6; have B_7 := RB.out.cell 7; have lB := RB.out.lt; have HP := Lib.hid (HP.out.next hb); have HC := Lib.hid (HC.out.next hb); clear hb) | (go_at_call 30; (with_reducible refine Calls.mono (rplace_at HPA.out HP.out HC.out) ?_); rintro r u92 ⟨rfl, hb⟩; have Bc := Lib.hid (below_to Bc.out hb); have sz := Bc.out.size; have sc92 := Nat.le_trans (Nat.le_refl u91.heap.size) (hb).size; have RB := Lib.hid (RB.out.below hb RB.out.lt); clear B_0 B_1 B_2 B_3 B_4 B_5 B_6 B_7 lB; have B_0 := RB.out.cell 0; have B_1 := RB.out.cell 1; have B_2 := RB.out.cell 2; have B_3 := RB.out.cell 3; have B_4 := RB.out.cell 4; have B_5 := RB.out.cell 5; have B_6 := RB.out.cell 6; have B_7 := RB.out.cell 7; have lB := RB.out.lt; have HP := Lib.hid (HP.out.next hb); have HC := Lib.hid (HC.out.next hb); clear hb) | (go_at_call 31; (with_reducible refine Calls.mono (heard_at HHA.out HP.out HC.out) ?_); rintro r u93 ⟨rfl, hb⟩; have Bc := Lib.hid (below_to Bc.out hb); have sz := Bc.out.size; have sc93 := Nat.le_trans (Nat.le_refl u92.heap.size) (hb).size; have RB := Lib.hid (RB.out.below hb RB.out.lt); clear B_0 B_1 B_2 B_3 B_4 B_5 B_6 B_7 lB; have B_0 := RB.out.cell 0; have B_1 := RB.out.cell 1; have B_2 := RB.out.cell 2; have B_3 := RB.out.cell 3; have B_4 := RB.out.cell 4; have B_5 := RB.out.cell 5; have B_6 := RB.out.cell 6; have B_7 := RB.out.cell 7; have lB := RB.out.lt; have HP := Lib.hid (HP.out.next hb); have HC := Lib.hid (HC.out.next hb); clear hb) | (go_at_call 32; (with_reducible refine Calls.mono (rheard_at HHA.out HP.out HC.out) ?_); rintro r u94 ⟨rfl, hb⟩; have Bc := Lib.hid (below_to Bc.out hb); have sz := Bc.out.size; have sc94 := Nat.le_trans (Nat.le_refl u93.heap.size) (hb).size; have RB := Lib.hid (RB.out.below hb RB.out.lt); clear B_0 B_1 B_2 B_3 B_4 B_5 B_6 B_7 lB; have B_0 := RB.out.cell 0; have B_1 := RB.out.cell 1; have B_2 := RB.out.cell 2; have B_3 := RB.out.cell 3; have B_4 := RB.out.cell 4; have B_5 := RB.out.cell 5; have B_6 := RB.out.cell 6; have B_7 := RB.out.cell 7; have lB := RB.out.lt; have HP := Lib.hid (HP.out.next hb); have HC := Lib.hid (HC.out.next hb); clear hb))
                        go_roundw
                        case rel => exact ⟨i3 + 1, by go_num, by omega, Lib.hid (below_to HB.out Bc.out)⟩
                        case measure => simp [intOf]; omega
                      · have jx : ¬ (i3 : Int) < 3 := by omega
                        have HBZ := Lib.hid (below_to HBZ.out HB.out)
                        clear HB HZ LZ RB HP HC
                        go_wp2_with fail
                        go_roundw
                        case rel => exact ⟨j + 1, by go_num, by omega, HBZ⟩
                        case measure => simp [intOf]; omega
                · have jx : ¬ (j : Int) < 2 := by omega
                  have HS1 := Lib.hid (HS1.out.next HB.out)
                  clear HK LK RB HP HB
                  go_wp2_with fail
                  go_roundw
                  case rel => exact ⟨K + 1, by go_num, by omega, HS1⟩
                  case measure => simp [intOf]; omega
      · have K_1 : ¬ (K : Int) < 3 := by omega
        go_wp2
        go_ret
        exact ⟨rfl, HS.out.b⟩
end Go.Proofs.Ytnmhigjannihgaa
