/- Contract of mix: where the table of the words k reads as the program's text lays it, mix returns the state that the plain function mix of Dm says. -/
import Derived.Test.YtnbhhhbmeafkaaaDoorDb
namespace Go.Proofs.YtnbhhhbmeafkaaaDoor
open Go.RowKit

/-- The table's cells. -/
def TabOk (w : World) : Prop := ∀ i, i < 64 → w.cell? ⟨0, i, none⟩ = some (.int .u32 ((Dm.K.getD i 0 : Nat) : Int))
theorem TabOk.below {w w' : World} {B : Nat} (h : TabOk w) (hb : Below B w w') (hB : 0 < B) : TabOk w' := fun i hi => (hb.cell (p := ⟨0, i, none⟩) hB).trans (h i hi)
theorem TabOk.pos {w : World} (h : TabOk w) : 0 < w.heap.size := by
  have h0 := h 0 (by decide)
  unfold World.cell? at h0
  by_cases hz : 0 < w.heap.size
  · exact hz
  · rw [Array.getElem?_eq_none (by show w.heap.size ≤ 0; omega)] at h0; simp at h0
theorem TabOk.next {w w' : World} (h : TabOk w) (hb : Below w.heap.size w w') : TabOk w' := h.below hb h.pos

def stA (s : Dm.St) : Array Value := #[.int .u32 (s.a : Int), .int .u32 (s.b : Int), .int .u32 (s.c : Int), .int .u32 (s.d : Int), .int .u32 (s.e : Int), .int .u32 (s.f : Int), .int .u32 (s.g : Int), .int .u32 (s.h : Int)]

theorem e1_eqs (v : Nat) (h : v < 4294967296) : ∃ r q t s : Nat, Dm.rotr v 6 = r ∧ Dm.rotr v 11 = q ∧ Dm.rotr v 25 = t ∧ bits .xor .u32 (r : Int) (q : Int) = (s : Int) ∧ bits .xor .u32 (s : Int) (t : Int) = ((Dm.e1 v : Nat) : Int) :=
  ⟨_, _, _, _, rfl, rfl, rfl, xor_u32 _ _ (Dm.rotr_lt _ _ h) (Dm.rotr_lt _ _ h), xor_u32 _ _ (Dm.xor_lt _ _ (Dm.rotr_lt _ _ h) (Dm.rotr_lt _ _ h)) (Dm.rotr_lt _ _ h)⟩
theorem e0_eqs (v : Nat) (h : v < 4294967296) : ∃ r q t s : Nat, Dm.rotr v 2 = r ∧ Dm.rotr v 13 = q ∧ Dm.rotr v 22 = t ∧ bits .xor .u32 (r : Int) (q : Int) = (s : Int) ∧ bits .xor .u32 (s : Int) (t : Int) = ((Dm.e0 v : Nat) : Int) :=
  ⟨_, _, _, _, rfl, rfl, rfl, xor_u32 _ _ (Dm.rotr_lt _ _ h) (Dm.rotr_lt _ _ h), xor_u32 _ _ (Dm.xor_lt _ _ (Dm.rotr_lt _ _ h) (Dm.rotr_lt _ _ h)) (Dm.rotr_lt _ _ h)⟩
theorem not_eq (x : Nat) (hx : x < 4294967296) : bits .xor .u32 IntKind.u32.max (x : Int) = ((Dm.not32 x : Nat) : Int) := by
  have hm : IntKind.u32.max = ((4294967295 : Nat) : Int) := by decide
  rw [hm, xor_u32 _ _ (by decide) hx]; rfl
theorem ch_eqs (e f g : Nat) (he : e < 4294967296) (hf : f < 4294967296) (hg : g < 4294967296) : ∃ p n q : Nat, bits .and .u32 (e : Int) (f : Int) = (p : Int) ∧ bits .xor .u32 IntKind.u32.max (e : Int) = (n : Int) ∧
    bits .and .u32 (n : Int) (g : Int) = (q : Int) ∧ bits .xor .u32 (p : Int) (q : Int) = ((Dm.ch e f g : Nat) : Int) :=
  ⟨_, _, _, and_u32 _ _ he hf, not_eq _ he, and_u32 _ _ (Dm.not_lt _ he) hg, xor_u32 _ _ (Dm.and_lt _ _ he) (Dm.and_lt _ _ (Dm.not_lt _ he))⟩
theorem maj_eqs (a b c : Nat) (ha : a < 4294967296) (hb : b < 4294967296) (hc : c < 4294967296) : ∃ p q r s : Nat, bits .and .u32 (a : Int) (b : Int) = (p : Int) ∧ bits .and .u32 (a : Int) (c : Int) = (q : Int) ∧
    bits .xor .u32 (p : Int) (q : Int) = (s : Int) ∧ bits .and .u32 (b : Int) (c : Int) = (r : Int) ∧ bits .xor .u32 (s : Int) (r : Int) = ((Dm.maj a b c : Nat) : Int) :=
  ⟨_, _, _, _, and_u32 _ _ ha hb, and_u32 _ _ ha hc, xor_u32 _ _ (Dm.and_lt _ _ ha) (Dm.and_lt _ _ ha), and_u32 _ _ hb hc,
    xor_u32 _ _ (Dm.xor_lt _ _ (Dm.and_lt _ _ ha) (Dm.and_lt _ _ ha)) (Dm.and_lt _ _ hb)⟩

theorem stA_all (s : Dm.St) : (stA s).all (·.oneCell') = true := by simp [stA, Value.oneCell']
/-- A whole row is stored into a block that has just been made: the world is named anew. -/
theorem store_fresh {P : Program} {w : World} {ops : Array Oper} {rest : List Oper} {o : Oper} {a : Act} {Q : Exit → Act → World → Prop} (hgd : o.guard = none) (ty : TypeId) (x y : Operand) (ho : o.op = .store ty x y)
    (cells : Array Value) (hx : a.eval x = .pointer (some ⟨w.heap.size, 0, none⟩)) (hy : a.eval y = .agg cells)
    (t : TypeId) (old : Array Value) (hi : (P.info? ty).map (·.size) = some cells.size)
    (hold : old.size = cells.size) (h1 : cells.all (·.oneCell') = true)
    (h : ∀ w2, Row w2 w.heap.size t cells → Below w.heap.size w w2 → w.heap.size + 1 = w2.heap.size → wpList P ops Q rest (a.put o.dst undef) w2) : wpList P ops Q (o :: rest) a (w.alloc (.cells old t)) :=
  wpList_store_row hgd ty x y ho w.heap.size cells hx hy t old (heap_alloc_new w _) hi hold h1
    (h _ (setRow_heap _ _ _ _ _ _ (heap_alloc_new w _)) (belowRow ((Below.refl _ _).alloc (Nat.le_refl _) _) (Nat.le_refl _) _) (by rw [setRow_size, World.size_alloc]))

set_option maxRecDepth 100000 in
set_option maxHeartbeats 2000000 in
theorem mix_any (s : Dm.St) (hs : s.ok) (b : List UInt8) (hb : b.length = 64) (w : World) (ht : TabOk w) :
    Calls Tryd.prog 58 #[.agg (stA s), .agg (u8row b)] w fun e w' => e = .returned (.agg (stA (Dm.mix s b))) ∧ Below w.heap.size w w' := by
  have hbs : (u8row b).size = 64 := by rw [u8row_size, hb]
  have hsch := fun w => sched_any b hb w
  obtain ⟨sa, hsa⟩ : ∃ x, stA s = x := ⟨_, rfl⟩
  obtain ⟨bs, hbs'⟩ : ∃ x, u8row b = x := ⟨_, rfl⟩
  obtain ⟨fs, hfs⟩ : ∃ x, u32row (Dm.full b) = x := ⟨_, rfl⟩
  have hfl : fs.size = 64 := by rw [← hfs, u32row_size, Dm.full_len]
  have hall : fs.all (·.oneCell') = true := by
    rw [← hfs, Array.all_eq_true_iff_forall_mem]; intro x hx; simp [u32row] at hx; obtain ⟨y, _, rfl⟩ := hx; rfl
  have hif : (Tryd.prog.info? 89).map (·.size) = some fs.size := by rw [hfl]; kernel_rfl
  rw [hbs', hfs] at hsch; rw [hbs'] at hbs; rw [hbs', hsa]
  have hib : (Tryd.prog.info? 77).map (·.size) = some bs.size := by rw [hbs]; kernel_rfl
  have HSC := Lib.hid hsch; have HIF := Lib.hid hif; have HIB := Lib.hid hib; have HFL := Lib.hid hfl; have HALL := Lib.hid hall; have HFS := Lib.hid hfs; have HSA := Lib.hid hsa; have HS := Lib.hid hs; have HT := Lib.hid ht
  clear hsch hif hib hfl hall hfs hsa hbs hbs' hs ht
  have r0 := Lib.hid (((Row.new w 73 sa).alloc (.cells bs 77)).alloc (.cells #[.int .u32 0, .int .u32 0, .int .u32 0, .int .u32 0, .int .u32 0, .int .u32 0, .int .u32 0, .int .u32 0] 73))
  have r1 := Lib.hid ((Row.new (w.alloc (.cells sa 73)) 77 bs).alloc (.cells #[.int .u32 0, .int .u32 0, .int .u32 0, .int .u32 0, .int .u32 0, .int .u32 0, .int .u32 0, .int .u32 0] 73))
  have r4 := Lib.hid (Row.new ((w.alloc (.cells sa 73)).alloc (.cells bs 77)) 73 #[.int .u32 0, .int .u32 0, .int .u32 0, .int .u32 0, .int .u32 0, .int .u32 0, .int .u32 0, .int .u32 0])
  rw [World.size_alloc, World.size_alloc] at r4
  rw [World.size_alloc] at r1
  go_enter Tryd.func58, Tryd.ntmps58
  go_wp2_with (first | (refine wpList_load_row rfl 77 (.tmp 3) rfl (w.heap.size + 1) rfl 77 bs (0, 0) _ r1.out Tryd.underlying77 rfl HIB.out ?_) | (go_at_call 70; refine (HSC.out _).mono ?_; rintro e w1 ⟨rfl, hb1⟩; have R0 := Lib.hid (r0.out.below hb1 (by simp; omega)); have R4 := Lib.hid (r4.out.below hb1 (by simp only [World.size_alloc]; omega))) | (refine store_fresh rfl 89 (.tmp 5) (.tmp 18) rfl fs rfl rfl 89 _ HIF.out HFL.out.symm HALL.out ?_; intro w2 R2 hb2 hz2))
  have q0 : Row w2 w.heap.size 73 sa := R0.out.below hb2 (by have := hb1.size; simp at this; omega)
  have q4 : Row w2 (w.heap.size + 1 + 1) 73 #[.int .u32 0, .int .u32 0, .int .u32 0, .int .u32 0, .int .u32 0, .int .u32 0, .int .u32 0, .int .u32 0] := R4.out.below hb2 (by have := hb1.size; simp at this; omega)
  have hw2 : Below w.heap.size w w2 := ((((Below.refl _ w).alloc (Nat.le_refl _) _).alloc (by simp) _).alloc (by simp; omega) _).trans (hb1.mono (by simp; omega)) |>.trans (hb2.mono (by have := hb1.size; simp at this; omega))
  have qt : TabOk w2 := HT.out.next hw2
  have hz1 : w.heap.size + 1 + 1 + 1 ≤ w1.heap.size := by have := hb1.size; simp at this; omega
  rw [← HSA.out] at q0
  have c0 := q0.cell 0; have c1 := q0.cell 1; have c2 := q0.cell 2; have c3 := q0.cell 3; have c4 := q0.cell 4; have c5 := q0.cell 5; have c6 := q0.cell 6; have c7 := q0.cell 7
  simp only [stA, List.getElem?_toArray, List.getElem?_cons_zero, List.getElem?_cons_succ] at c0 c1 c2 c3 c4 c5 c6 c7
  have Q0 := Lib.hid q0; have Q4 := Lib.hid q4; have QT := Lib.hid qt; have QW := Lib.hid hw2; have Q2 := Lib.hid R2; have HB2 := Lib.hid hb2; have HB1 := Lib.hid hb1; have HZ := Lib.hid hz1
  clear q0 q4 qt hw2 R2 hb2 hb1 R0 R4 r0 r1 hz1 hz2
  go_quiet (fail)
  go_wp2
  go_loopw [6, 7, 8, 9, 10, 11, 12, 13, 14, 15, 16, 35] (fun va vb vc vd ve vf vg vh _ _ _ i wr => ∃ (k : Nat) (S : Dm.St), k ≤ 64 ∧ S.ok ∧ Dm.rounds (Dm.full b) k 0 s = S ∧ i = .int .i64 k ∧
      va = .int .u32 (S.a : Int) ∧ vb = .int .u32 (S.b : Int) ∧ vc = .int .u32 (S.c : Int) ∧ vd = .int .u32 (S.d : Int) ∧ ve = .int .u32 (S.e : Int) ∧ vf = .int .u32 (S.f : Int) ∧ vg = .int .u32 (S.g : Int) ∧ vh = .int .u32 (S.h : Int) ∧
      Row wr w.heap.size 73 (stA s) ∧ Row wr (w.heap.size + 1 + 1) 73 #[.int .u32 0, .int .u32 0, .int .u32 0, .int .u32 0, .int .u32 0, .int .u32 0, .int .u32 0, .int .u32 0] ∧
      Row wr w1.heap.size 89 fs ∧ TabOk wr ∧ Below w.heap.size w wr) (fun _ _ _ _ _ _ _ _ _ _ _ i _ => 64 - (intOf i).toNat)
  case atStart =>
    exact ⟨0, s, by omega, HS.out, Dm.rounds_zero _ _ _, rfl, rfl, rfl, rfl, rfl, rfl, rfl, rfl, rfl, Q0.out.drewN _, Q4.out.drewN _, Q2.out.drewN _, QT.out, belowN QW.out _⟩
  case round =>
    obtain ⟨k, S, hk, hS, hrd, rfl, rfl, rfl, rfl, rfl, rfl, rfl, rfl, rfl, x0, x4, x2, xt, xw⟩ := hrel
    have X0 := Lib.hid x0; have X4 := Lib.hid x4; have X2 := Lib.hid x2; have XT := Lib.hid xt; have XW := Lib.hid xw; have HR := Lib.hid hrd; have HSS := Lib.hid hS
    clear x0 x4 x2 xt xw hrd c0 c1 c2 c3 c4 c5 c6 c7
    obtain ⟨ba, bb, bc, bd, be, bf, bg, bh⟩ := hS
    obtain ⟨va, hva⟩ : ∃ x, S.a = x := ⟨_, rfl⟩
    obtain ⟨vb, hvb⟩ : ∃ x, S.b = x := ⟨_, rfl⟩
    obtain ⟨vc, hvc⟩ : ∃ x, S.c = x := ⟨_, rfl⟩
    obtain ⟨vd, hvd⟩ : ∃ x, S.d = x := ⟨_, rfl⟩
    obtain ⟨ve, hve⟩ : ∃ x, S.e = x := ⟨_, rfl⟩
    obtain ⟨vf, hvf⟩ : ∃ x, S.f = x := ⟨_, rfl⟩
    obtain ⟨vg, hvg⟩ : ∃ x, S.g = x := ⟨_, rfl⟩
    obtain ⟨vh, hvh⟩ : ∃ x, S.h = x := ⟨_, rfl⟩
    have hSe : S = ⟨va, vb, vc, vd, ve, vf, vg, vh⟩ := by cases S; simp_all
    rw [hva] at ba; rw [hvb] at bb; rw [hvc] at bc; rw [hvd] at bd; rw [hve] at be; rw [hvf] at bf; rw [hvg] at bg; rw [hvh] at bh
    rw [hva, hvb, hvc, hvd, hve, hvf, hvg, hvh]
    have HSE := Lib.hid hSe
    clear hva hvb hvc hvd hve hvf hvg hvh hSe
    by_cases hlt : k < 64
    · have ck := XT.out k hlt
      have cw := (X2.out.cell k)
      rw [← HFS.out, u32row_get _ _ (by rw [Dm.full_len]; omega)] at cw
      have lk := Dm.K_lt k
      have lw := Dm.full_lt b k
      generalize hkk : Dm.K.getD k 0 = kk at ck lk
      generalize hww : (Dm.full b).getD k 0 = ww at cw lw
      obtain ⟨r6, r11, r25, xs1, h6, h11, h25, xe1, xe2⟩ := e1_eqs ve be
      obtain ⟨r2, r13, r22, xs2, h2, h13, h22, ye1, ye2⟩ := e0_eqs va ba
      obtain ⟨cp, cn, cq, ce1, ce2, ce3, ce4⟩ := ch_eqs ve vf vg be bf bg
      obtain ⟨mp, mq, mr, ms, me1, me2, me3, me4, me5⟩ := maj_eqs va vb vc ba bb bc
      have K6 := Lib.hid (fun w => rot_q ve 6 w be (by decide) (by decide))
      have K11 := Lib.hid (fun w => rot_q ve 11 w be (by decide) (by decide))
      have K25 := Lib.hid (fun w => rot_q ve 25 w be (by decide) (by decide))
      have K2 := Lib.hid (fun w => rot_q va 2 w ba (by decide) (by decide))
      have K13 := Lib.hid (fun w => rot_q va 13 w ba (by decide) (by decide))
      have K22 := Lib.hid (fun w => rot_q va 22 w ba (by decide) (by decide))
      rw [h6] at K6; rw [h11] at K11; rw [h25] at K25; rw [h2] at K2; rw [h13] at K13; rw [h22] at K22
      clear h6 h11 h25 h2 h13 h22
      have l1 := Dm.e1_lt ve be
      have l0 := Dm.e0_lt va ba
      have lc := Dm.ch_lt ve vf vg be
      have lm := Dm.maj_lt va vb vc ba bb
      obtain ⟨E1, hE1⟩ : ∃ x, Dm.e1 ve = x := ⟨_, rfl⟩
      obtain ⟨E0, hE0⟩ : ∃ x, Dm.e0 va = x := ⟨_, rfl⟩
      obtain ⟨CH, hCH⟩ : ∃ x, Dm.ch ve vf vg = x := ⟨_, rfl⟩
      obtain ⟨MJ, hMJ⟩ : ∃ x, Dm.maj va vb vc = x := ⟨_, rfl⟩
      rw [hE1] at xe2 l1; rw [hE0] at ye2 l0; rw [hCH] at ce4 lc; rw [hMJ] at me5 lm
      obtain ⟨p1, hp1⟩ : ∃ y, Dm.add vh E1 = y := ⟨_, rfl⟩
      obtain ⟨p2, hp2⟩ : ∃ y, Dm.add p1 CH = y := ⟨_, rfl⟩
      obtain ⟨p3, hp3⟩ : ∃ y, Dm.add p2 kk = y := ⟨_, rfl⟩
      obtain ⟨p4, hp4⟩ : ∃ y, Dm.add p3 ww = y := ⟨_, rfl⟩
      obtain ⟨u1, hu1⟩ : ∃ y, Dm.add E0 MJ = y := ⟨_, rfl⟩
      obtain ⟨na, hna⟩ : ∃ y, Dm.add p4 u1 = y := ⟨_, rfl⟩
      obtain ⟨ne, hne⟩ : ∃ y, Dm.add vd p4 = y := ⟨_, rfl⟩
      have z1 := add_u32 _ _ _ hp1
      have z2 := add_u32 _ _ _ hp2
      have z3 := add_u32 _ _ _ hp3
      have z4 := add_u32 _ _ _ hp4
      have z5 := add_u32 _ _ _ hu1
      have z6 := add_u32 _ _ _ hna
      have z7 := add_u32 _ _ _ hne
      have hnew : Dm.round S (Dm.K.getD k 0) ((Dm.full b).getD k 0) = ⟨na, va, vb, vc, ne, ve, vf, vg⟩ := by
        rw [HSE.out, hkk, hww]; unfold Dm.round Dm.t1 Dm.t2; dsimp only; rw [hE1, hE0, hCH, hMJ, hp1, hp2, hp3, hp4, hu1, hna, hne]
      have HNW := Lib.hid hnew
      clear hp1 hp2 hp3 hp4 hu1 hna hne hE1 hE0 hCH hMJ hkk hww hnew
      have sg : IntKind.u32.signed = false := rfl
      have kz : (0 : Int) ≤ (k : Int) := by omega
      have kl : (k : Int) < 64 := by omega
      go_wp2
      go_quiet (first | (go_at_call 71; (with_reducible refine Calls.quiet_of_same (K6.out _))) | (go_at_call 71; (with_reducible refine Calls.quiet_of_same (K11.out _))) | (go_at_call 71; (with_reducible refine Calls.quiet_of_same (K25.out _))))
      go_wp2_with (first | (go_at_call 71; refine (K2.out _).mono ?_; rintro e w' ⟨rfl, rfl⟩) | (go_at_call 71; refine (K13.out _).mono ?_; rintro e w' ⟨rfl, rfl⟩) | (go_at_call 71; refine (K22.out _).mono ?_; rintro e w' ⟨rfl, rfl⟩))
      go_roundw
      case rel =>
        exact ⟨k + 1, ⟨na, va, vb, vc, ne, ve, vf, vg⟩, by omega, HNW.out ▸ Dm.round_ok HSS.out _ _, (by rw [Dm.rounds_snoc, HR.out, Nat.zero_add, HNW.out]), by go_num, rfl, rfl, rfl, rfl, rfl, rfl, rfl, rfl,
          X0.out.drewN _, X4.out.drewN _, X2.out.drewN _, XT.out, belowN XW.out _⟩
      case measure => simp [intOf]; omega
    · have hk64 : k = 64 := by omega
      have hm : Dm.mix s b = Dm.plus s ⟨va, vb, vc, vd, ve, vf, vg, vh⟩ := by
        unfold Dm.mix; rw [← hk64, HR.out, HSE.out]
      obtain ⟨fa, hfa⟩ : ∃ y, Dm.add s.a va = y := ⟨_, rfl⟩
      obtain ⟨fb, hfb⟩ : ∃ y, Dm.add s.b vb = y := ⟨_, rfl⟩
      obtain ⟨fc, hfc⟩ : ∃ y, Dm.add s.c vc = y := ⟨_, rfl⟩
      obtain ⟨fd, hfd⟩ : ∃ y, Dm.add s.d vd = y := ⟨_, rfl⟩
      obtain ⟨fe, hfe⟩ : ∃ y, Dm.add s.e ve = y := ⟨_, rfl⟩
      obtain ⟨ff, hff⟩ : ∃ y, Dm.add s.f vf = y := ⟨_, rfl⟩
      obtain ⟨fg, hfg⟩ : ∃ y, Dm.add s.g vg = y := ⟨_, rfl⟩
      obtain ⟨fh, hfh⟩ : ∃ y, Dm.add s.h vh = y := ⟨_, rfl⟩
      have z1 := add_u32 _ _ _ hfa
      have z2 := add_u32 _ _ _ hfb
      have z3 := add_u32 _ _ _ hfc
      have z4 := add_u32 _ _ _ hfd
      have z5 := add_u32 _ _ _ hfe
      have z6 := add_u32 _ _ _ hff
      have z7 := add_u32 _ _ _ hfg
      have z8 := add_u32 _ _ _ hfh
      have hm2 : stA (Dm.mix s b) = #[.int .u32 (fa : Int), .int .u32 (fb : Int), .int .u32 (fc : Int), .int .u32 (fd : Int), .int .u32 (fe : Int), .int .u32 (ff : Int), .int .u32 (fg : Int), .int .u32 (fh : Int)] := by
        rw [hm]; unfold Dm.plus stA; dsimp only; rw [hfa, hfb, hfc, hfd, hfe, hff, hfg, hfh]
      clear hm hfa hfb hfc hfd hfe hff hfg hfh hk64
      have c0 := X0.out.cell 0; have c1 := X0.out.cell 1; have c2 := X0.out.cell 2; have c3 := X0.out.cell 3; have c4 := X0.out.cell 4; have c5 := X0.out.cell 5; have c6 := X0.out.cell 6; have c7 := X0.out.cell 7
      simp only [stA, List.getElem?_toArray, List.getElem?_cons_zero, List.getElem?_cons_succ] at c0 c1 c2 c3 c4 c5 c6 c7
      have hi8 : (Tryd.prog.info? 73).map (·.size) = some 8 := by kernel_rfl
      have hal := stA_all (Dm.mix s b)
      rw [hm2] at hal
      have HI8 := Lib.hid hi8; have HAL := Lib.hid hal; have HM := Lib.hid hm2
      clear hi8 hal hm2
      go_wp2_with (refine wpList_store_row rfl 73 (.tmp 4) (.tmp 130) rfl (w.heap.size + 1 + 1) #[.int .u32 (fa : Int), .int .u32 (fb : Int), .int .u32 (fc : Int), .int .u32 (fd : Int), .int .u32 (fe : Int), .int .u32 (ff : Int), .int .u32 (fg : Int), .int .u32 (fh : Int)] rfl rfl 73 _ X4.out HI8.out rfl HAL.out ?_)
      rw [HM.out]
      refine bodyPost_ret (results_cell_row rfl _ _ (w.heap.size + 1 + 1) 73 _ (0, 0) _ rfl (setRow_heap _ _ _ _ _ _ X4.out) Tryd.underlying73 rfl HI8.out) rfl ⟨rfl, belowRow XW.out (by omega) _⟩
end Go.Proofs.YtnbhhhbmeafkaaaDoor
