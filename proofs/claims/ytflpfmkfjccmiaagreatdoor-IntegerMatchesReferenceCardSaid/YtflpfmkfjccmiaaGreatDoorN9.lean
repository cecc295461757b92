/- The walk of IntegerMatchesReference. -/
import Derived.Test.YtflpfmkfjccmiaaGreatDoorRA
namespace Go.Proofs.YtflpfmkfjccmiaaGreatDoor
open Go.RowKit

theorem itoa_len300 (z : Int) (hz : okz z = true) : (Lib.itoa z).length ≤ 300 := by
  have h2 : (Lib.decDigits z.natAbs).length ≤ 200 := (Im.dd_len _ 200 (by decide)).2 (of_decide_eq_true hz)
  by_cases hn : z < 0
  · rw [neg_itoa hn, List.length_cons]; omega
  · rw [pos_itoa hn]; omega
theorem ok_int64 (n : Int) (h0 : -9223372036854775808 ≤ n) (h1 : n ≤ 9223372036854775807) : okz n = true := decide_eq_true (by
  have : (9223372036854775809 : Nat) ≤ 10 ^ 200 := by decide +kernel
  omega)
/-- What the round of the law carries: its pair's box, and memory as before. -/
def PairAt (w wr : World) (U V : ByteArray) (u : World) : Prop := Row u wr.heap.size 23 #[.string U, .string V] ∧ wr.heap.size < u.heap.size ∧ Below w.heap.size w u ∧ Below wr.heap.size wr u
theorem PairAt.next {w wr u u' : World} {U V : ByteArray} (h : PairAt w wr U V u) (hb : Below u.heap.size u u') : PairAt w wr U V u' :=
  ⟨h.1.below hb h.2.1, Nat.lt_of_lt_of_le h.2.1 hb.size, h.2.2.1.trans (hb.mono h.2.2.1.size), h.2.2.2.trans (hb.mono h.2.2.2.size)⟩
theorem PairAt.bel {w wr u : World} {U V : ByteArray} (h : PairAt w wr U V u) : Below w.heap.size w u := h.2.2.1
theorem PairAt.belr {w wr u : World} {U V : ByteArray} (h : PairAt w wr U V u) : Below wr.heap.size wr u := h.2.2.2
theorem PairAt.lt {w wr u : World} {U V : ByteArray} (h : PairAt w wr U V u) : wr.heap.size < u.heap.size := h.2.1
theorem PairAt.c0 {w wr u : World} {U V : ByteArray} (h : PairAt w wr U V u) : u.cell? ⟨wr.heap.size, 0, none⟩ = some (.string U) := h.1.cell 0
theorem PairAt.c1 {w wr u : World} {U V : ByteArray} (h : PairAt w wr U V u) : u.cell? ⟨wr.heap.size, 1, none⟩ = some (.string V) := h.1.cell 1
theorem PairAt.new {w wr : World} (U V : ByteArray) (h : Below w.heap.size w wr) : PairAt w wr U V (wr.alloc (.cells #[.string U, .string V] 23)) :=
  ⟨Row.new wr _ _, by simp, h.trans (((Below.refl wr.heap.size wr).alloc (Nat.le_refl _) _).mono h.size), (Below.refl wr.heap.size wr).alloc (Nat.le_refl _) _⟩
/-- Both sides answer alike at two strings. -/
def Alike (U V : ByteArray) : Prop :=
  (∃ (s : ByteArray) (e : Int), CallT 7 #[.string U, .string V] (.tuple #[.string s, .int .i64 e]) ∧ CallT 8 #[.string U, .string V] (.tuple #[.string s, .int .i64 e])) ∧
  (∃ (s : ByteArray) (e : Int), CallT 9 #[.string U, .string V] (.tuple #[.string s, .int .i64 e]) ∧ CallT 10 #[.string U, .string V] (.tuple #[.string s, .int .i64 e])) ∧
  (∃ (s : ByteArray) (e : Int), CallT 11 #[.string U, .string V] (.tuple #[.string s, .int .i64 e]) ∧ CallT 12 #[.string U, .string V] (.tuple #[.string s, .int .i64 e])) ∧
  (∃ (s t : ByteArray) (e : Int), CallT 13 #[.string U, .string V] (.tuple #[.string s, .string t, .int .i64 e]) ∧ CallT 14 #[.string U, .string V] (.tuple #[.string s, .string t, .int .i64 e])) ∧
  (∃ (s : ByteArray) (e : Int), CallT 15 #[.string U, .string V] (.tuple #[.string s, .int .i64 e]) ∧ CallT 16 #[.string U, .string V] (.tuple #[.string s, .int .i64 e])) ∧
  (∃ (s : ByteArray) (e : Int), CallT 17 #[.string U] (.tuple #[.string s, .int .i64 e]) ∧ CallT 18 #[.string U] (.tuple #[.string s, .int .i64 e])) ∧
  (∃ (x e : Int), (∀ u, ErrP u → Calls Tryz.prog 19 #[.string U] u fun e' w' => e' = .returned (.tuple #[.int .i64 x, .int .i64 e]) ∧ Below u.heap.size u w') ∧ CallT 20 #[.string U] (.tuple #[.int .i64 x, .int .i64 e])) ∧
  (∃ x : Bool, CallT 21 #[.string U] (.bool x) ∧ CallT 22 #[.string U] (.bool x)) ∧
  (∃ e : Int, CallT 23 #[.string U, .string V] (.int .i64 e) ∧ CallT 24 #[.string U, .string V] (.int .i64 e))
theorem alike_of (l r : List UInt8) (hl : l.length ≤ 9223372036854775000) (hr : r.length ≤ 9223372036854775000) : Alike (bs l) (bs r) :=
  ⟨same_Add l r hl hr, same_Sub l r hl hr, same_Mul l r hl hr, same_Div l r hl hr, same_Gcd l r hl hr, same_Root l hl, same_ToInt l hl, same_Valid l hl, same_Compare l r hl hr⟩

set_option maxRecDepth 100000 in
set_option maxHeartbeats 40000000 in
theorem ref_walk (s t : ByteArray) (n : Int) (w : World) (ht : TabP w) (he : ErrP w) (h0 : -9223372036854775808 ≤ n) (h1 : n ≤ 9223372036854775807) : Calls Tryz.prog 3 #[.string s, .string t, .int .i64 n] w fun e w' => e = .returned (.bool true) ∧ Below w.heap.size w w' := by
  obtain ⟨k, hk⟩ : ∃ k, min s.size 210 = k := ⟨_, rfl⟩
  obtain ⟨j, hj⟩ : ∃ k, min t.size 210 = k := ⟨_, rfl⟩
  obtain ⟨l, hl⟩ : ∃ l, (s.extract 0 k).data.toList = l := ⟨_, rfl⟩
  obtain ⟨m, hm⟩ : ∃ l, (t.extract 0 j).data.toList = l := ⟨_, rfl⟩
  have hp : s.extract 0 k = bs l := by rw [← hl, bs_of]
  have hq : t.extract 0 j = bs m := by rw [← hm, bs_of]
  have ll : l.length ≤ 300 := by
    have := congrArg ByteArray.size hp
    rw [bs_size, ByteArray.size_extract] at this; omega
  have lm : m.length ≤ 300 := by
    have := congrArg ByteArray.size hq
    rw [bs_size, ByteArray.size_extract] at this; omega
  have hmn := fun (w : World) => run_min2 (P := Tryz.prog) (w := w) #[3, 3] 3 .i64 .i64 (s.size : Int) 210 (k : Int) (by omega)
  have hmn2 := fun (w : World) => run_min2 (P := Tryz.prog) (w := w) #[3, 3] 3 .i64 .i64 (t.size : Int) 210 (j : Int) (by omega)
  have hsl : ∀ w, (Instr.slice 9 (.string s) none (some (.int .i64 (k : Int))) none).run Tryz.prog w = .ok (.string (bs l)) w := fun w => by
    rw [run_slice_string_h (P := Tryz.prog) w 9 s Tryz.underlying9 .i64 (k : Int) (by omega) (by omega), Int.toNat_natCast, hp]
  have hsl2 : ∀ w, (Instr.slice 9 (.string t) none (some (.int .i64 (j : Int))) none).run Tryz.prog w = .ok (.string (bs m)) w := fun w => by
    rw [run_slice_string_h (P := Tryz.prog) w 9 t Tryz.underlying9 .i64 (j : Int) (by omega) (by omega), Int.toNat_natCast, hq]
  have S0 : Hid (CallT 4 #[] (.bool true)) := Lib.hid (sane_c)
  obtain ⟨fz, hfz⟩ : ∃ fz, Lib.itoa n = fz := ⟨_, rfl⟩
  have lz : fz.length ≤ 300 := hfz ▸ itoa_len300 n (ok_int64 n h0 h1)
  have F1 : Hid (CallT 6 #[.int .i64 n] (strOf fz)) := Lib.hid (by rw [← hfz]; exact fun u _ => rFromInt_ok n u h0 h1)
  have F0 : Hid (CallT 25 #[.int .i64 n] (strOf fz)) := Lib.hid (by rw [← hfz]; exact fun u hu => fromInt_ok n u hu h0 h1)
  have HT := Lib.hid ht
  have HE := Lib.hid he
  have HB := Lib.hid (Below.refl w.heap.size w)
  have M1 : Hid (∀ m : Nat, m ≤ 200 → ∀ x : ByteArray, ∃ q : List UInt8, q.length ≤ 300 ∧ CallT 5 #[.string x, .int .i64 (m : Int)] (strOf q)) := Lib.hid (fun m hm x => ⟨_, itoa_len300 _ ((made_B x m).ok hm), made_c x m hm⟩)
  obtain ⟨q1, l1, hq1⟩ := M1.out 70 (by omega) (bs l)
  obtain ⟨q2, l2, hq2⟩ := M1.out 30 (by omega) (bs m)
  obtain ⟨q3, l3, hq3⟩ := M1.out 12 (by omega) (bs l)
  have Q1 := Lib.hid hq1; have Q2 := Lib.hid hq2; have Q3 := Lib.hid hq3
  have K1 := Lib.hid (alike_of l m (by omega) (by omega))
  have K2 := Lib.hid (alike_of q1 q2 (by omega) (by omega))
  have K3 := Lib.hid (alike_of q3 fz (by omega) (by omega))
  unfold strOf at *
  clear ht he h0 h1 hk hj hl hm hp hq hq1 hq2 hq3 hfz M1 ll lm lz l1 l2 l3
  generalize bs l = L at *
  generalize bs m = R at *
  generalize bs q1 = D1 at *
  generalize bs q2 = D2 at *
  generalize bs q3 = D3 at *
  generalize bs fz = D4 at *
  go_enter Tryz.func3, Tryz.ntmps3
  go_wp2_with (first | (go_at_call 4; (with_reducible refine Calls.mono (S0.out _ (HT.out.next HB.out)) ?_); rintro e w1 ⟨rfl, hb⟩; replace HB := Lib.hid (HB.out.trans (hb.mono HB.out.size)); clear hb) | (go_at_call 5; (with_reducible refine Calls.mono (Q1.out _ (HT.out.next HB.out)) ?_); rintro e w1 ⟨rfl, hb⟩; replace HB := Lib.hid (HB.out.trans (hb.mono HB.out.size)); clear hb) | (go_at_call 5; (with_reducible refine Calls.mono (Q2.out _ (HT.out.next HB.out)) ?_); rintro e w1 ⟨rfl, hb⟩; replace HB := Lib.hid (HB.out.trans (hb.mono HB.out.size)); clear hb) | (go_at_call 5; (with_reducible refine Calls.mono (Q3.out _ (HT.out.next HB.out)) ?_); rintro e w1 ⟨rfl, hb⟩; replace HB := Lib.hid (HB.out.trans (hb.mono HB.out.size)); clear hb) | (go_at_call 6; (with_reducible refine Calls.mono (F1.out _ (HT.out.next HB.out)) ?_); rintro e w1 ⟨rfl, hb⟩; replace HB := Lib.hid (HB.out.trans (hb.mono HB.out.size)); clear hb))
  go_loopw [50] (fun i wr => ∃ k : Nat, k ≤ 3 ∧ i = .int .i64 (k : Int) ∧ Hid (Row wr w1.heap.size 23 #[.string L, .string R, .string D1, .string D2, .string D3, .string D4]) ∧ Hid (Below w.heap.size w wr)) (fun i _ => (3 - intOf i).toNat)
  case atStart => exact ⟨0, by omega, by go_num, Lib.hid (Row.new w1 _ _), Lib.hid (HB.out.trans (((Below.refl w1.heap.size w1).alloc (Nat.le_refl _) _).mono HB.out.size))⟩
  case round =>
    obtain ⟨k, hk, rfl, HR, HW⟩ := hrel
    by_cases hlt : k < 3
    · obtain ⟨U, V, d0, d1, HA⟩ : ∃ U V, wr.cell? ⟨w1.heap.size, k * 2, none⟩ = some (.string U) ∧ wr.cell? ⟨w1.heap.size, k * 2 + 1, none⟩ = some (.string V) ∧ Hid (Alike U V) := by
        rw [HR.out.cell, HR.out.cell]
        rcases (by omega : k = 0 ∨ k = 1 ∨ k = 2) with rfl | rfl | rfl
        · exact ⟨_, _, rfl, rfl, K1⟩
        · exact ⟨_, _, rfl, rfl, K2⟩
        · exact ⟨_, _, rfl, rfl, K3⟩
      obtain ⟨⟨s1, e1, A1p, A1r⟩, ⟨s2, e2, A2p, A2r⟩, ⟨s3, e3, A3p, A3r⟩, ⟨s4, t4, e4, A4p, A4r⟩, ⟨s5, e5, A5p, A5r⟩, ⟨s6, e6, A6p, A6r⟩, ⟨x7, e7, A7p, A7r⟩, ⟨x8, A8p, A8r⟩, ⟨x9, A9p, A9r⟩⟩ := HA.out
      replace A1p := Lib.hid A1p; replace A1r := Lib.hid A1r
      replace A2p := Lib.hid A2p; replace A2r := Lib.hid A2r
      replace A3p := Lib.hid A3p; replace A3r := Lib.hid A3r
      replace A4p := Lib.hid A4p; replace A4r := Lib.hid A4r
      replace A5p := Lib.hid A5p; replace A5r := Lib.hid A5r
      replace A6p := Lib.hid A6p; replace A6r := Lib.hid A6r
      replace A7p := Lib.hid A7p; replace A7r := Lib.hid A7r
      replace A8p := Lib.hid A8p; replace A8r := Lib.hid A8r
      replace A9p := Lib.hid A9p; replace A9r := Lib.hid A9r
      have HS := Lib.hid (PairAt.new U V HW.out)
      have c0 := HS.out.c0
      have c1 := HS.out.c1
      clear HA K1 K2 K3
      go_wp2_with (first | (go_at_call 7; (with_reducible refine Calls.mono (A1p.out _ (HT.out.next HS.out.bel)) ?_); rintro e w2 ⟨rfl, hb⟩; replace HS := Lib.hid (HS.out.next hb); clear c0 c1; have c0 := HS.out.c0; have c1 := HS.out.c1; clear hb) | (go_at_call 8; (with_reducible refine Calls.mono (A1r.out _ (HT.out.next HS.out.bel)) ?_); rintro e w2 ⟨rfl, hb⟩; replace HS := Lib.hid (HS.out.next hb); clear c0 c1; have c0 := HS.out.c0; have c1 := HS.out.c1; clear hb) | (go_at_call 9; (with_reducible refine Calls.mono (A2p.out _ (HT.out.next HS.out.bel)) ?_); rintro e w2 ⟨rfl, hb⟩; replace HS := Lib.hid (HS.out.next hb); clear c0 c1; have c0 := HS.out.c0; have c1 := HS.out.c1; clear hb) | (go_at_call 10; (with_reducible refine Calls.mono (A2r.out _ (HT.out.next HS.out.bel)) ?_); rintro e w2 ⟨rfl, hb⟩; replace HS := Lib.hid (HS.out.next hb); clear c0 c1; have c0 := HS.out.c0; have c1 := HS.out.c1; clear hb) | (go_at_call 11; (with_reducible refine Calls.mono (A3p.out _ (HT.out.next HS.out.bel)) ?_); rintro e w2 ⟨rfl, hb⟩; replace HS := Lib.hid (HS.out.next hb); clear c0 c1; have c0 := HS.out.c0; have c1 := HS.out.c1; clear hb) | (go_at_call 12; (with_reducible refine Calls.mono (A3r.out _ (HT.out.next HS.out.bel)) ?_); rintro e w2 ⟨rfl, hb⟩; replace HS := Lib.hid (HS.out.next hb); clear c0 c1; have c0 := HS.out.c0; have c1 := HS.out.c1; clear hb) | (go_at_call 13; (with_reducible refine Calls.mono (A4p.out _ (HT.out.next HS.out.bel)) ?_); rintro e w2 ⟨rfl, hb⟩; replace HS := Lib.hid (HS.out.next hb); clear c0 c1; have c0 := HS.out.c0; have c1 := HS.out.c1; clear hb) | (go_at_call 14; (with_reducible refine Calls.mono (A4r.out _ (HT.out.next HS.out.bel)) ?_); rintro e w2 ⟨rfl, hb⟩; replace HS := Lib.hid (HS.out.next hb); clear c0 c1; have c0 := HS.out.c0; have c1 := HS.out.c1; clear hb) | (go_at_call 15; (with_reducible refine Calls.mono (A5p.out _ (HT.out.next HS.out.bel)) ?_); rintro e w2 ⟨rfl, hb⟩; replace HS := Lib.hid (HS.out.next hb); clear c0 c1; have c0 := HS.out.c0; have c1 := HS.out.c1; clear hb) | (go_at_call 16; (with_reducible refine Calls.mono (A5r.out _ (HT.out.next HS.out.bel)) ?_); rintro e w2 ⟨rfl, hb⟩; replace HS := Lib.hid (HS.out.next hb); clear c0 c1; have c0 := HS.out.c0; have c1 := HS.out.c1; clear hb) | (go_at_call 17; (with_reducible refine Calls.mono (A6p.out _ (HT.out.next HS.out.bel)) ?_); rintro e w2 ⟨rfl, hb⟩; replace HS := Lib.hid (HS.out.next hb); clear c0 c1; have c0 := HS.out.c0; have c1 := HS.out.c1; clear hb) | (go_at_call 18; (with_reducible refine Calls.mono (A6r.out _ (HT.out.next HS.out.bel)) ?_); rintro e w2 ⟨rfl, hb⟩; replace HS := Lib.hid (HS.out.next hb); clear c0 c1; have c0 := HS.out.c0; have c1 := HS.out.c1; clear hb) | (go_at_call 19; (with_reducible refine Calls.mono (A7p.out _ (HE.out.next HS.out.bel)) ?_); rintro e w2 ⟨rfl, hb⟩; replace HS := Lib.hid (HS.out.next hb); clear c0 c1; have c0 := HS.out.c0; have c1 := HS.out.c1; clear hb) | (go_at_call 20; (with_reducible refine Calls.mono (A7r.out _ (HT.out.next HS.out.bel)) ?_); rintro e w2 ⟨rfl, hb⟩; replace HS := Lib.hid (HS.out.next hb); clear c0 c1; have c0 := HS.out.c0; have c1 := HS.out.c1; clear hb) | (go_at_call 21; (with_reducible refine Calls.mono (A8p.out _ (HT.out.next HS.out.bel)) ?_); rintro e w2 ⟨rfl, hb⟩; replace HS := Lib.hid (HS.out.next hb); clear c0 c1; have c0 := HS.out.c0; have c1 := HS.out.c1; clear hb) | (go_at_call 22; (with_reducible refine Calls.mono (A8r.out _ (HT.out.next HS.out.bel)) ?_); rintro e w2 ⟨rfl, hb⟩; replace HS := Lib.hid (HS.out.next hb); clear c0 c1; have c0 := HS.out.c0; have c1 := HS.out.c1; clear hb) | (go_at_call 23; (with_reducible refine Calls.mono (A9p.out _ (HT.out.next HS.out.bel)) ?_); rintro e w2 ⟨rfl, hb⟩; replace HS := Lib.hid (HS.out.next hb); clear c0 c1; have c0 := HS.out.c0; have c1 := HS.out.c1; clear hb) | (go_at_call 24; (with_reducible refine Calls.mono (A9r.out _ (HT.out.next HS.out.bel)) ?_); rintro e w2 ⟨rfl, hb⟩; replace HS := Lib.hid (HS.out.next hb); clear c0 c1; have c0 := HS.out.c0; have c1 := HS.out.c1; clear hb))
      have V1 := Lib.hid (fun u (hu : Below w2.heap.size w2 u) => A8p.out u (HT.out.next (below_to HS.out.bel hu)))
      have V2 := Lib.hid (fun u (hu : Below w2.heap.size w2 u) => A8r.out u (HT.out.next (below_to HS.out.bel hu)))
      have V3 := Lib.hid (fun u (hu : Below w2.heap.size w2 u) => A9p.out u (HT.out.next (below_to HS.out.bel hu)))
      have V4 := Lib.hid (fun u (hu : Below w2.heap.size w2 u) => A9r.out u (HT.out.next (below_to HS.out.bel hu)))
      have hlt2 := HS.out.lt
      clear A1p A1r A2p A2r A3p A3r A4p A4r A5p A5r A6p A6r A7p A7r A8p A8r A9p A9r Q1 Q2 Q3 S0
      go_region_held3 (fun u => Below w2.heap.size w2 u ∧ u.cell? ⟨wr.heap.size, 0, none⟩ = some (.string U) ∧ u.cell? ⟨wr.heap.size, 1, none⟩ = some (.string V)) (first | assumption | (exact ⟨Below.drew (Below.refl _ _), c0, c1⟩) | (exact hold2 (by assumption) b5 hlt2 hlt2)) (first | (go_at_call 21; ((with_reducible refine Calls.mono (V1.out _ ?h1) ?_); (case h1 => exact (‹Below w2.heap.size w2 _ ∧ _ ∧ _›).1); rintro e w7 ⟨rfl, b5⟩)) | (go_at_call 22; ((with_reducible refine Calls.mono (V2.out _ ?h1) ?_); (case h1 => exact (‹Below w2.heap.size w2 _ ∧ _ ∧ _›).1); rintro e w7 ⟨rfl, b5⟩)) | (go_at_call 23; ((with_reducible refine Calls.mono (V3.out _ ?h1) ?_); (case h1 => exact (‹Below w2.heap.size w2 _ ∧ _ ∧ _›).1); rintro e w7 ⟨rfl, b5⟩)) | (go_at_call 24; ((with_reducible refine Calls.mono (V4.out _ ?h1) ?_); (case h1 => exact (‹Below w2.heap.size w2 _ ∧ _ ∧ _›).1); rintro e w7 ⟨rfl, b5⟩)))
      all_goals
        have HF := Lib.hid (‹Below w2.heap.size w2 _ ∧ _ ∧ _›).1
        go_wp2
        go_roundw
        case rel => exact ⟨k + 1, by omega, by go_num, Lib.hid (HR.out.below (below_to HS.out.belr HF.out) HR.out.lt), Lib.hid (below_to HS.out.bel HF.out)⟩
        case measure => simp [intOf]; omega
    · obtain rfl : k = 3 := by omega
      have HB2 := Lib.hid HW.out
      clear HB HW
      have HB := HB2
      clear HB2
      go_wp2_with (first | (go_at_call 25; (with_reducible refine Calls.mono (F0.out _ (HT.out.next HB.out)) ?_); rintro e w1 ⟨rfl, hb⟩; replace HB := Lib.hid (HB.out.trans (hb.mono HB.out.size)); clear hb) | (go_at_call 6; (with_reducible refine Calls.mono (F1.out _ (HT.out.next HB.out)) ?_); rintro e w1 ⟨rfl, hb⟩; replace HB := Lib.hid (HB.out.trans (hb.mono HB.out.size)); clear hb))
      go_ret
      exact ⟨rfl, HB.out⟩
end Go.Proofs.YtflpfmkfjccmiaaGreatDoor
