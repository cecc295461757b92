/- Contracts of the reference's extended, Sum, Leaf, Node, Chain and Left. -/
import Derived.Test.YtnbhhhbmeafkaaaDoorL6
import Derived.Test.YtnbhhhbmeafkaaaDoorDe
import Derived.Test.YtnbhhhbmeafkaaaDoorE14
namespace Go.Proofs.YtnbhhhbmeafkaaaDoor
section
open Go.RowKit
attribute [local go_sem ↓] append_appN

theorem snoc_u8 {w w1 : World} {v : Value} {l : List UInt8} {n : Nat} {b : UInt8} {x : Int} {i0 : TypeInfo} (hi0 : Tryd.prog.info? 5 = some i0) (hz0 : i0.zero = some (.int .u8 0)) (hz1 : i0.size = 1) (hz2 : i0.bytes = 1)
    (hrow : w1.ownsRow w.heap.size 5 1 v n (byteCells l)) (hb : Below w.heap.size w w1) (hn : n ≤ 100000) (hx : x = (b.toNat : Int)) :
    ∃ v' w', Sem.run Tryd.prog (appN #[43, 43] 43 #[v, .slice (some ⟨w1.heap.size, 0, none⟩) 1 1]) (w1.alloc (.cells #[.int .u8 x] 5)) = .ok v' w' ∧
      w'.ownsRow w.heap.size 5 1 v' (n + 1) (byteCells (l ++ [b])) ∧ Below w.heap.size w w' := by
  subst hx
  obtain ⟨v', w', hrun, hown, hgr, _⟩ := run_append_own (P := Tryd.prog) (w1.alloc (.cells #[.int .u8 (b.toNat : Int)] 5)) w.heap.size 43 43 5 i0 (.int .u8 0) 1 1 Tryd.underlying43 hi0 hz0 hz1 hz2 rfl (by decide)
    v n _ (hrow.alloc _) ⟨w1.heap.size, 0, none⟩ 1 1 [.int .u8 (b.toNat : Int)] rfl (fun j u h => cell_one_new _ _ _ j u h) (by simp [Value.oneCell']) (by unfold maxLen; omega) (by omega) (by have := hb.size; simp; omega)
  refine ⟨v', w', hrun, ?_, below_grown hb hb.size hrow (Below.refl _ _) hgr⟩
  rw [byteCells_snoc]; exact hown
def lenV : Value → Nat
  | .slice _ m _ => m
  | _ => 0
def extAt (l : List UInt8) (j : Nat) : List UInt8 := l ++ [128] ++ List.replicate j 0
theorem extAt_snoc (l : List UInt8) (j : Nat) : extAt l j ++ [0] = extAt l (j + 1) := by
  unfold extAt; rw [List.replicate_succ', List.append_assoc]
theorem len8_snoc (n k : Nat) (h : k < 8) : (Dm.len8 n).take k ++ [UInt8.ofNat (8 * n / 256 ^ (7 - k) % 256)] = (Dm.len8 n).take (k + 1) := by
  have hi : k < (Dm.len8 n).length := by rw [Dm.len8_len]; exact h
  rw [List.take_succ_eq_append_getElem hi]
  simp only [Dm.len8, List.getElem_map, List.getElem_range]

set_option maxRecDepth 100000 in
set_option maxHeartbeats 1000000 in
theorem extended_any (l : List UInt8) (w : World) (hl : l.length ≤ 10000) :
    Calls Tryd.prog 41 #[strOf l] w fun e w' => ∃ v, e = .returned v ∧ w'.ownsRow w.heap.size 5 1 v (Dm.ext l).length (byteCells (Dm.ext l)) ∧ Below w.heap.size w w' := by
  obtain ⟨i0, hi0, hz0, hz1, hz2⟩ := info_parts Tryd.infoU8
  obtain ⟨s, hs⟩ : ∃ s, bs l = s := ⟨_, rfl⟩
  have hz : s.size = l.length := by rw [← hs, bs_size]
  obtain ⟨n, hn⟩ : ∃ n, l.length = n := ⟨_, rfl⟩
  rw [hn] at hz hl
  obtain ⟨z, hzz⟩ : ∃ z, Dm.zeros n = z := ⟨_, rfl⟩
  have hzl : z < 64 := by rw [← hzz]; unfold Dm.zeros; exact Nat.mod_lt _ (by decide)
  have hzm : ∀ j, j ≤ z → ((n + 1 + j) % 64 = 56 ↔ j = z) := fun j hj => by rw [← hzz] at hj ⊢; unfold Dm.zeros at hj ⊢; omega
  unfold strOf
  rw [hs]
  have HS := Lib.hid hs; have HN := Lib.hid hn; have HZZ := Lib.hid hzz; have HZM := Lib.hid hzm; have HZ := Lib.hid hz
  have hzs : s.size ≤ 10000 := by omega
  clear hs hn hzz hzm hz
  go_enter Tryd.func41, Tryd.ntmps41
  go_wp2
  go_loopw [3, 4] (fun b i wr => ∃ k : Nat, k ≤ s.size ∧ i = .int .i64 (k : Int) ∧ wr.ownsRow w.heap.size 5 1 b k (byteCells (l.take k)) ∧ Below w.heap.size w wr) (fun _ i _ => s.size - (intOf i).toNat)
  case atStart => exact ⟨0, by omega, rfl, World.ownsRow_nil _ _ _ _, Below.refl _ _⟩
  case round =>
    obtain ⟨k, hk, rfl, hown, hbw⟩ := hrel
    by_cases hlt : k < s.size
    · have hkl : k < l.length := by have := HZ.out; have := HN.out; omega
      have hgk : s[k].toNat = l[k].toNat := by
        have := bs_get l k (by rw [HS.out]; exact hlt)
        rw [← this]
        congr 2 <;> first | exact HS.out.symm | (simp [HS.out])
      have htk : l.take (k + 1) = l.take k ++ [l[k]] := List.take_succ_eq_append_getElem hkl
      obtain ⟨q, hq⟩ : ∃ q, l[k] = q := ⟨_, rfl⟩
      rw [hq] at hgk htk
      obtain ⟨v2, w2, hrun, hown2, hb2⟩ := snoc_u8 (b := q) (x := (q.toNat : Int)) hi0 hz0 hz1 hz2 hown hbw (by omega) rfl
      have HT := Lib.hid htk; have HO := Lib.hid hown2; have HB := Lib.hid hb2
      clear htk hq hown2 hb2 hown hbw
      go_wp2
      go_roundw
      case rel => exact ⟨k + 1, by omega, by go_num, by rw [HT.out]; exact HO.out, HB.out⟩
      case measure => simp [intOf]; omega
    · have hta : l.take k = l := List.take_of_length_le (by have := HZ.out; have := HN.out; omega)
      have hkn : k = n := by have := HZ.out; omega
      rw [hta, hkn] at hown
      obtain ⟨v2, w2, hrun, hown2, hb2⟩ := snoc_u8 (b := 128) (x := 128) hi0 hz0 hz1 hz2 hown hbw (by omega) rfl
      have HO := Lib.hid hown2; have HB := Lib.hid hb2
      clear hown2 hb2 hown hbw hta hkn
      go_wp2
      obtain ⟨w2', hw2⟩ : ∃ x : World, x = w2 := ⟨_, rfl⟩
      go_loopw [3] (fun b wr => ∃ j m : Nat, j ≤ z ∧ m = n + 1 + j ∧ (∃ A c, b = .slice A m c) ∧ wr.ownsRow w.heap.size 5 1 b m (byteCells (extAt l j)) ∧ Below w.heap.size w wr) (fun b _ => n + 1 + z - lenV b)
      case atStart => exact ⟨0, n + 1, by omega, by omega, own_slice HO.out, by simpa [extAt] using HO.out, HB.out⟩
      case round =>
        obtain ⟨j, m, hj, hm, ⟨A, c, rfl⟩, hown, hbw⟩ := hrel
        have hzj := HZM.out j hj
        rw [← hm] at hzj
        have HM := Lib.hid hm
        have hm1 : m ≤ 10100 := by omega
        by_cases hjz : j = z
        · have t1 : (((m : Nat) : Int) % 64 != 56) = false := by have := hzj.2 hjz; simp; omega
          have hm2 : m = n + 1 + z := by omega
          have hex : Dm.ext l = extAt l z ++ Dm.len8 n := by unfold Dm.ext Dm.pad extAt; rw [HN.out, HZZ.out]; simp [List.append_assoc]
          have hxn : (Dm.ext l).length = n + 1 + z + 8 := by rw [hex, List.length_append, Dm.len8_len]; unfold extAt; simp [HN.out]; omega
          rw [hjz] at hown
          have HO := Lib.hid hown; have HB := Lib.hid hbw; have HX := Lib.hid hex; have HXN := Lib.hid hxn; have HM2 := Lib.hid hm2
          clear hzj hm hjz hown hbw hex hxn hm2
          go_wp2
          go_loopw [3, 5] (fun b i wr => ∃ x : Int, i = .int .i64 x ∧ -1 ≤ x ∧ x ≤ 7 ∧ wr.ownsRow w.heap.size 5 1 b (m + (7 - x).toNat) (byteCells (extAt l z ++ (Dm.len8 n).take (7 - x).toNat)) ∧ Below w.heap.size w wr) (fun _ i _ => (intOf i + 1).toNat)
          case atStart => exact ⟨7, rfl, by omega, by omega, by simpa using HO.out, HB.out⟩
          case round =>
            obtain ⟨x, rfl, hx1, hx2, hown, hbw⟩ := hrel
            by_cases hx0 : 0 ≤ x
            · obtain ⟨d, rfl⟩ := Int.eq_ofNat_of_zero_le hx0
              have hd : d ≤ 7 := by omega
              have hsn := len8_snoc n (7 - d) (by omega)
              rw [show 7 - (7 - d) = d by omega, show 7 - d + 1 = 8 - d by omega] at hsn
              obtain ⟨q, hq⟩ : ∃ q, 8 * n / 256 ^ d % 256 = q := ⟨_, rfl⟩
              have hq2 : q < 256 := by omega
              have hv : IntKind.u8.wrap (8 * (s.size : Int) / 2 ^ (8 * d)) = (q : Int) := by
                rw [IntKind.wrap_u8, HZ.out, ← hq]; exact shr_pow n d
              rw [hq] at hsn
              have ht : (8 * (d : Int)).toNat = 8 * d := by omega
              have htn : (7 - (d : Int)).toNat = 7 - d := by omega
              rw [htn] at hown
              obtain ⟨v3, w3, hrun, hown3, hb3⟩ := snoc_u8 (b := UInt8.ofNat q) (x := (q : Int)) hi0 hz0 hz1 hz2 hown hbw (by omega) (by rw [u8_ofNat q hq2])
              rw [List.append_assoc, hsn] at hown3
              have HO3 := Lib.hid hown3; have HB3 := Lib.hid hb3
              have hx3 : (d : Int) ≤ 7 := by omega
              clear hq hsn hown3 hb3 hown hbw htn hx0
              go_wp2
              go_roundw
              case rel =>
                refine ⟨(d : Int) - 1, rfl, by omega, by omega, ?_, HB3.out⟩
                have := HO3.out
                rw [show (7 - ((d : Int) - 1)).toNat = 8 - d by omega, show m + (8 - d) = m + (7 - d) + 1 by omega]; exact this
              case measure => simp [intOf]
            · have hxm : x = -1 := by omega
              subst hxm
              have h8 : (Dm.len8 n).take 8 = Dm.len8 n := List.take_of_length_le (by rw [Dm.len8_len]; omega)
              rw [show (7 - (-1 : Int)).toNat = 8 from rfl, h8, ← HX.out, HM2.out, ← HXN.out] at hown
              have HO3 := Lib.hid hown; have HB3 := Lib.hid hbw
              clear hown hbw h8 hx0
              go_wp2
              go_ret
              exact ⟨_, rfl, HO3.out, HB3.out⟩
        · have t1 : (((m : Nat) : Int) % 64 != 56) = true := by
            have : ¬ m % 64 = 56 := fun h => hjz (hzj.1 h)
            simp; omega
          have hjl : j < z := by omega
          obtain ⟨v3, w3, hrun, hown3, hb3⟩ := snoc_u8 (b := 0) (x := 0) hi0 hz0 hz1 hz2 hown hbw (by omega) rfl
          rw [extAt_snoc] at hown3
          have hsl := own_slice hown3
          have HO3 := Lib.hid hown3; have HB3 := Lib.hid hb3; have HSL := Lib.hid hsl
          clear hzj hm hjz hown3 hb3 hown hbw hsl
          go_wp2
          go_roundw
          case rel => exact ⟨j + 1, m + 1, by omega, by have := HM.out; omega, HSL.out, HO3.out, HB3.out⟩
          case measure => obtain ⟨A3, c3, e3⟩ := HSL.out; have := HM.out; subst e3; simp [lenV]; omega
end

section
open Go.RowKit
attribute [local go_sem ↓] append_appN

theorem run_app4 {w w1 : World} {v : Value} {l : List UInt8} {n q0 q1 q2 q3 x : Nat} {i0 : TypeInfo} (hi0 : Tryd.prog.info? 5 = some i0) (hz0 : i0.zero = some (.int .u8 0)) (hz1 : i0.size = 1) (hz2 : i0.bytes = 1)
    (hrow : w1.ownsRow w.heap.size 5 1 v n (byteCells l)) (hb : Below w.heap.size w w1) (hn : n ≤ 100000)
    (hq : byteCells (Dm.bytes4 x) = [.int .u8 (q0 : Int), .int .u8 (q1 : Int), .int .u8 (q2 : Int), .int .u8 (q3 : Int)]) :
    ∃ v' w', Sem.run Tryd.prog (appN #[43, 43] 43 #[v, .slice (some ⟨w1.heap.size, 0, none⟩) 4 4]) (w1.alloc (.cells #[.int .u8 (q0 : Int), .int .u8 (q1 : Int), .int .u8 (q2 : Int), .int .u8 (q3 : Int)] 5)) = .ok v' w' ∧
      w'.ownsRow w.heap.size 5 1 v' (n + 4) (byteCells (l ++ Dm.bytes4 x)) ∧ Below w.heap.size w w' := by
  obtain ⟨v', w', hrun, hown, hgr, _⟩ := run_append_own (P := Tryd.prog) (w1.alloc (.cells #[.int .u8 (q0 : Int), .int .u8 (q1 : Int), .int .u8 (q2 : Int), .int .u8 (q3 : Int)] 5)) w.heap.size 43 43 5 i0 (.int .u8 0) 1 1 Tryd.underlying43 hi0 hz0 hz1 hz2 rfl (by decide)
    v n _ (hrow.alloc _) ⟨w1.heap.size, 0, none⟩ 4 4 [.int .u8 (q0 : Int), .int .u8 (q1 : Int), .int .u8 (q2 : Int), .int .u8 (q3 : Int)] rfl (cells_new _ _ _) (by simp [Value.oneCell']) (by unfold maxLen; omega) (by omega) (by have := hb.size; simp; omega)
  refine ⟨v', w', hrun, ?_, below_grown hb hb.size hrow (Below.refl _ _) hgr⟩
  rw [byteCells_append, hq]; exact hown
theorem byte_cell {w : World} {base g n c : Nat} {l : List UInt8} (h : w.ownsRow base 5 1 (.slice (some ⟨g, 0, none⟩) n c) n (byteCells l)) (i : Nat) (hi : i < n) : w.cell? ⟨g, i, none⟩ = some (.int .u8 ((l.getD i 0).toNat : Int)) := by
  have hl : l.length = n := by have := h.1; rwa [byteCells_len, Nat.mul_one] at this
  rw [h.cellAt i (by omega)]
  simp [byteCells, List.getElem?_eq_getElem (show i < l.length by omega)]
theorem byte_slice {w : World} {base n : Nat} {v : Value} {xs : List Value} (h : w.ownsRow base 5 1 v n xs) (h0 : 0 < n) : ∃ g c, v = .slice (some ⟨g, 0, none⟩) n c ∧ g < w.heap.size ∧ base ≤ g ∧ n ≤ c ∧ c ≤ maxLen := by
  rcases h.2 with ⟨_, h1⟩ | ⟨g, cap, cur, e2, h1, h2, h3, h4, _⟩
  · omega
  · exact ⟨g, cap, e2, (Array.getElem?_eq_some_iff.1 h2).1, h1, h3, h4⟩
def h0A : Array Value := #[.int .u32 1779033703, .int .u32 3144134277, .int .u32 1013904242, .int .u32 2773480762, .int .u32 1359893119, .int .u32 2600822924, .int .u32 528734635, .int .u32 1541459225]
theorem h0_cell (w : World) (i : Nat) (h : i < 8) : (w.alloc (.cells h0A 48)).cell? ⟨w.heap.size, i, none⟩ = some (.int .u32 ((Dm.init.l.getD i 0 : Nat) : Int)) := by
  refine Eq.trans ((Row.new w 48 h0A).cell i) ?_
  have : i = 0 ∨ i = 1 ∨ i = 2 ∨ i = 3 ∨ i = 4 ∨ i = 5 ∨ i = 6 ∨ i = 7 := by omega
  rcases this with rfl | rfl | rfl | rfl | rfl | rfl | rfl | rfl <;> rfl
theorem blk_getD (e : List UInt8) (k i : Nat) (h : i < 64) : ((e.drop (64 * k)).take 64).getD i 0 = e.getD (64 * k + i) 0 := by
  simp [List.getD_eq_getElem?_getD, h]

set_option maxRecDepth 100000 in
set_option maxHeartbeats 2000000 in
theorem refSum_any (l : List UInt8) (w : World) (hl : l.length ≤ 10000) :
    Calls Tryd.prog 14 #[strOf l] w fun e w' => e = .returned (strOf (Dm.sha l)) ∧ Below w.heap.size w w' := by
  obtain ⟨i0, hi0, hz0, hz1, hz2⟩ := info_parts Tryd.infoU8
  have hx := Lib.hid (fun w => extended_any l w hl)
  obtain ⟨E, hE⟩ : ∃ E, Dm.ext l = E := ⟨_, rfl⟩
  have hel := Dm.ext_len l
  have hz : Dm.zeros l.length < 64 := by unfold Dm.zeros; exact Nat.mod_lt _ (by decide)
  have hel2 : (Dm.ext l).length ≤ 20000 := by unfold Dm.ext; rw [List.length_append, Dm.pad_len]; omega
  have hel3 : 0 < (Dm.ext l).length := by unfold Dm.ext; rw [List.length_append, Dm.pad_len]; omega
  obtain ⟨M, hM⟩ : ∃ M, (Dm.ext l).length / 64 = M := ⟨_, rfl⟩
  have hsha : Dm.sha l = Dm.out (Dm.mixes M Dm.init E) := by unfold Dm.sha; rw [hM, hE]
  have hEM : E.length = 64 * M := by rw [← hE]; omega
  rw [hsha]
  rw [hE] at hx hel2 hel3
  rw [hEM] at hel2 hel3 hx
  have hM2 : M ≤ 1000 := by omega
  have hM0 : 0 < M := by omega
  have HEM := Lib.hid hEM
  clear hel hz hM hsha hE hEM hel2 hel3
  obtain ⟨w0, hw0⟩ : ∃ x, w.alloc (.cells h0A 48) = x := ⟨_, rfl⟩
  have hb0 : Below w.heap.size w w0 := by rw [← hw0]; exact (Below.refl _ w).alloc (Nat.le_refl _) _
  have hs0 : w.heap.size < w0.heap.size := by rw [← hw0]; simp
  have hc0 : ∀ i, i < 8 → w0.cell? ⟨w.heap.size, i, none⟩ = some (.int .u32 ((Dm.init.l.getD i 0 : Nat) : Int)) := fun i hi => by rw [← hw0]; exact h0_cell w i hi
  have HC0 := Lib.hid hc0; have HB0 := Lib.hid hb0; have HW0 := Lib.hid hw0
  clear hc0 hb0 hw0
  go_enter Tryd.func14, Tryd.ntmps14
  go_wp2_with (go_at_call 41; rw [show w.alloc (.cells #[.int .u32 1779033703, .int .u32 3144134277, .int .u32 1013904242, .int .u32 2773480762, .int .u32 1359893119, .int .u32 2600822924, .int .u32 528734635, .int .u32 1541459225] 48) = w0 from HW0.out]; refine (hx.out _).mono ?_; rintro e W ⟨v, rfl, hown, hbw⟩; obtain ⟨gb, cb, rfl, hgb1, hgb2, hcb1, hcb2⟩ := byte_slice hown (by omega))
  have HCB := Lib.hid (fun i hi => byte_cell hown i hi)
  have HBW := Lib.hid hbw
  unfold maxLen at hcb2
  have hWs : w.heap.size < W.heap.size := by have := hbw.size; omega
  have HCI := Lib.hid (fun i (hi : i < 8) => (hbw.cell (p := ⟨w.heap.size, i, none⟩) hs0).trans (HC0.out i hi))
  clear hown hbw hx
  go_loopw [3, 5] (fun h i wr => ∃ (k gh ch : Nat), k ≤ M ∧ i = .int .i64 ((64 * k : Nat) : Int) ∧ h = .slice (some ⟨gh, 0, none⟩) 8 ch ∧ 8 ≤ ch ∧ ch ≤ 9223372036854775807 ∧ gh < wr.heap.size ∧
    Hid (∀ r, r < 8 → wr.cell? ⟨gh, r, none⟩ = some (.int .u32 (((Dm.mixes k Dm.init E).l.getD r 0 : Nat) : Int))) ∧ Below W.heap.size W wr) (fun _ i _ => 64 * M - (intOf i).toNat)
  case atStart => exact ⟨0, w.heap.size, 8, by omega, rfl, rfl, by omega, by decide, hWs, HCI, Below.refl _ _⟩
  case round =>
    obtain ⟨k, gh, ch, hk, rfl, rfl, hch1, hch2, hgh, HC, hbr⟩ := hrel
    by_cases hlt : k < M
    · have hok := Dm.mixes_ok k Dm.init E Dm.init_ok
      have hsn := Dm.mixes_snoc k Dm.init E
      have hbk : ((E.drop (64 * k)).take 64).length = 64 := by have := HEM.out; rw [List.length_take, List.length_drop]; omega
      have hcb := fun i (hi : i < 64) => (hbr.cell (p := ⟨gb, 64 * k + i, none⟩) hgb1).trans (HCB.out (64 * k + i) (by omega))
      obtain ⟨S, hS⟩ : ∃ S, Dm.mixes k Dm.init E = S := ⟨_, rfl⟩
      rw [hS] at hok hsn HC
      have hcb' : ∀ i, i < 64 → wr.cell? ⟨gb, 64 * k + i, none⟩ = some (.int .u8 ((((E.drop (64 * k)).take 64).getD i 0).toNat : Int)) := fun i hi => by rw [blk_getD E k i hi]; exact hcb i hi
      have hblk := fun c => refBlock_any S hok _ hbk gh ch gb (64 * k) c wr hgh (by have := hbr.size; omega) hcb' HC.out
      rw [← hsn] at hblk
      have HBK := Lib.hid hblk; have HBR := Lib.hid hbr
      clear hok hsn hbk hcb hcb' hblk hbr hS HC
      have t0 : (((64 * k : Nat) : Int)).toNat = 64 * k := by omega
      have i1 : (0 : Int) ≤ ((64 * k : Nat) : Int) := by omega
      have i2 : ((64 * k : Nat) : Int) < (64 * M : Nat) := by omega
      have i3 : ((64 * k : Nat) : Int) + 64 ≤ (cb : Int) := by omega
      have i5 : ((64 * k : Nat) : Int) ≤ ((64 * k : Nat) : Int) + 64 := by omega
      have i4 : ¬ cb = 64 * k := by omega
      have i6 : 0 ≤ ((64 * k : Nat) : Int) + 64 := by omega
      have w1 : IntKind.i64.wrap (((64 * k : Nat) : Int) + 64) = ((64 * k : Nat) : Int) + 64 := IntWalk.i64_in _ (by omega)
      have t1 : (((64 * k : Nat) : Int) + 64).toNat = 64 * k + 64 := by omega
      have t2 : 64 * k + 64 - 64 * k = 64 := by omega
      go_wp2_with (go_at_call 42; refine (HBK.out _).mono ?_; rintro e w2 ⟨v2, rfl, hown2, hb2⟩; obtain ⟨g2, c2, rfl, hg1, hg2, hg3, hg4⟩ := word_slice hown2 (by omega))
      unfold maxLen at hg4
      have HO2 := Lib.hid hown2; have HB2 := Lib.hid hb2
      clear hown2 hb2
      go_wp2
      go_roundw
      case rel => exact ⟨k + 1, g2, c2, by omega, by go_num, rfl, by omega, by omega, hg1, Lib.hid fun r hr => word_cell HO2.out r hr, HBR.out.trans (HB2.out.mono HBR.out.size)⟩
      case measure => simp [intOf]; omega
    · obtain rfl : k = M := by omega
      have hok := Dm.mixes_ok k Dm.init E Dm.init_ok
      obtain ⟨S, hS⟩ : ∃ S, Dm.mixes k Dm.init E = S := ⟨_, rfl⟩
      rw [hS] at hok HC
      have HOK := Lib.hid hok; have HSS := Lib.hid hS
      obtain ⟨we, hwe⟩ : ∃ we : World, we = wr := ⟨_, rfl⟩
      subst hwe
      have HBE := Lib.hid (show Below w.heap.size w we from HB0.out.trans ((HBW.out.trans (hbr.mono HBW.out.size)).mono HB0.out.size))
      clear hok hS hbr hlt
      have i2 : ¬ ((64 * k : Nat) : Int) < (64 * k : Nat) := by omega
      go_wp2
      go_loopw [6, 7] (fun o i wr => ∃ j : Nat, j ≤ 8 ∧ i = .int .i64 (j : Int) ∧ wr.ownsRow we.heap.size 5 1 o (4 * j) (byteCells ((S.l.take j).flatMap Dm.bytes4)) ∧ Below we.heap.size we wr) (fun _ i _ => 8 - (intOf i).toNat)
      case atStart => exact ⟨0, by omega, rfl, World.ownsRow_nil _ _ _ _, Below.refl _ _⟩
      case round =>
        obtain ⟨j, hj, rfl, hown, hbj⟩ := hrel
        by_cases hj8 : j < 8
        · have cv := (hbj.cell (p := ⟨gh, j, none⟩) hgh).trans (HC.out j hj8)
          have hlt := l_lt HOK.out j
          have hot := out_take S j hj8
          obtain ⟨x, hx⟩ : ∃ x, S.l.getD j 0 = x := ⟨_, rfl⟩
          rw [hx] at cv hlt hot
          obtain ⟨q0, hq0⟩ : ∃ q, x / 16777216 = q := ⟨_, rfl⟩
          obtain ⟨m1, hm1⟩ : ∃ q, x / 65536 = q := ⟨_, rfl⟩
          obtain ⟨m2, hm2⟩ : ∃ q, x / 256 = q := ⟨_, rfl⟩
          obtain ⟨q1, hq1⟩ : ∃ q, m1 % 256 = q := ⟨_, rfl⟩
          obtain ⟨q2, hq2⟩ : ∃ q, m2 % 256 = q := ⟨_, rfl⟩
          obtain ⟨q3, hq3⟩ : ∃ q, x % 256 = q := ⟨_, rfl⟩
          have d0 : (x : Int) / 16777216 = (q0 : Int) := by omega
          have d1 : (x : Int) / 65536 = (m1 : Int) := by omega
          have d2 : (x : Int) / 256 = (m2 : Int) := by omega
          have w0' : IntKind.u8.wrap (q0 : Int) = (q0 : Int) := by rw [IntKind.wrap_u8]; omega
          have w1 : IntKind.u8.wrap (m1 : Int) = (q1 : Int) := by rw [IntKind.wrap_u8]; omega
          have w2 : IntKind.u8.wrap (m2 : Int) = (q2 : Int) := by rw [IntKind.wrap_u8]; omega
          have w3 : IntKind.u8.wrap (x : Int) = (q3 : Int) := by rw [IntKind.wrap_u8]; omega
          have hb4 : byteCells (Dm.bytes4 x) = [.int .u8 (q0 : Int), .int .u8 (q1 : Int), .int .u8 (q2 : Int), .int .u8 (q3 : Int)] := by
            unfold byteCells Dm.bytes4
            rw [hq0, hm1, hm2, hq1, hq2, hq3, List.map_cons, List.map_cons, List.map_cons, List.map_cons, List.map_nil, u8_ofNat _ (by omega), u8_ofNat _ (by omega), u8_ofNat _ (by omega), u8_ofNat _ (by omega), Nat.mod_eq_of_lt (by omega)]
          obtain ⟨v5, w5, hrun, hown5, hb5⟩ := run_app4 (w := we) (w1 := wr.drew) hi0 hz0 hz1 hz2 hown.drew hbj.drew (by omega) hb4
          have hrun2 : Sem.run Tryd.prog (appN #[43, 43] 43 #[_, .slice (some ⟨wr.heap.size, 0, none⟩) 4 4]) (wr.alloc (.cells #[.int .u8 (q0 : Int), .int .u8 (q1 : Int), .int .u8 (q2 : Int), .int .u8 (q3 : Int)] 5)).drew = .ok v5 w5 := hrun
          rw [← hot] at hown5
          have HO5 := Lib.hid hown5; have HB6 := Lib.hid hb5
          clear hrun hown5 hb5 hown hbj hot hx hb4 hq0 hm1 hm2 hq1 hq2 hq3
          have j1 : (j : Int) < 8 := by omega
          have j2 : (0 : Int) ≤ (j : Int) := by omega
          go_wp2
          go_region
          go_wp2
          go_roundw
          case rel => exact ⟨j + 1, by omega, by go_num, by rw [Nat.mul_add]; exact HO5.out, HB6.out⟩
          case measure => simp [intOf]; omega
        · obtain rfl : j = 8 := by omega
          obtain ⟨g5, c5, rfl, _, _, _, _⟩ := byte_slice hown (by omega)
          have hcv := own_string (Dm.out S) hown (by rw [Dm.out_len]) (by rfl)
          have HBF := Lib.hid (HBE.out.trans (hbj.mono HBE.out.size))
          clear hown hbj
          go_wp2
          go_ret
          exact ⟨by rw [HSS.out]; rfl, HBF.out⟩
end
end Go.Proofs.YtnbhhhbmeafkaaaDoor
