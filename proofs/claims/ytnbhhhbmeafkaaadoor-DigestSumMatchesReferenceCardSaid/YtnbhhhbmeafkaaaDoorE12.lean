/- Contract of the reference's extended. -/
import Derived.Test.YtnbhhhbmeafkaaaDoorL6
import Derived.Test.YtnbhhhbmeafkaaaDoorDe
namespace Go.Proofs.YtnbhhhbmeafkaaaDoor
open Go.RowKit
attribute [local go_sem ↓] append_appN

theorem snoc_u8 {w w1 : World} {v : Value} {l : List UInt8} {n : Nat} {b : UInt8} {x : Int} {i0 : TypeInfo} (hi0 : Tryd.prog.info? 5 = some i0) (hz0 : i0.zero = some (.int .u8 0)) (hz1 : i0.size = 1) (hz2 : i0.bytes = 1)
    (hrow : w1.ownsRow w.heap.size 5 1 v n (byteCells l)) (hb : Below w.heap.size w w1) (hn : n ≤ 100000) (hx : x = (b.toNat : Int)) :
    ∃ v' w', Sem.run Tryd.prog (appN #[43, 43] 43 #[v, .slice (some ⟨w1.heap.size, 0, none⟩) 1 1]) (w1.alloc (.cells #[.int .u8 x] 5)) = .ok v' w' ∧
      w'.ownsRow w.heap.size 5 1 v' (n + 1) (byteCells (l ++ [b])) ∧ Below w.heap.size w w' := by
  subst hx
  obtain ⟨v', w', hrun, hown, hgr, _⟩ := run_append_own (P := Tryd.prog) (w1.alloc (.cells #[.int .u8 (b.toNat : Int)] 5)) w.heap.size 43 43 5 i0 (.int .u8 0) 1 1 Tryd.underlying43 hi0 hz0 hz1 hz2 rfl (by decide)
    v n _ (hrow.alloc _) ⟨w1.heap.size, 0, none⟩ 1 1 [.int .u8 (b.toNat : Int)] rfl (fun j u h => cell_one_new _ _ _ j u h) (by simp [Value.oneCell']) (by unfold maxLen; omega) (by omega) (by have := hb.size; simp; omega)
  refine ⟨v', w', hrun, ?_, below_grown hb hb.size hrow (Below.refl _ _) hgr⟩
  rw [byteCells_snoc]; exact hown
def lenV : Value → Nat
  | .slice _ m _ => m
  | _ => 0
def extAt (l : List UInt8) (j : Nat) : List UInt8 := l ++ [128] ++ List.replicate j 0
theorem extAt_snoc (l : List UInt8) (j : Nat) : extAt l j ++ [0] = extAt l (j + 1) := by
  unfold extAt; rw [List.replicate_succ', List.append_assoc]
theorem len8_snoc (n k : Nat) (h : k < 8) : (Dm.len8 n).take k ++ [UInt8.ofNat (8 * n / 256 ^ (7 - k) % 256)] = (Dm.len8 n).take (k + 1) := by
  have hi : k < (Dm.len8 n).length := by rw [Dm.len8_len]; exact h
  rw [List.take_succ_eq_append_getElem hi]
  simp only [Dm.len8, List.getElem_map, List.getElem_range]

set_option maxRecDepth 100000 in
set_option maxHeartbeats 1000000 in
theorem extended_any (l : List UInt8) (w : World) (hl : l.length ≤ 10000) :
    Calls Tryd.prog 41 #[strOf l] w fun e w' => ∃ v, e = .returned v ∧ w'.ownsRow w.heap.size 5 1 v (Dm.ext l).length (byteCells (Dm.ext l)) ∧ Below w.heap.size w w' := by
  obtain ⟨i0, hi0, hz0, hz1, hz2⟩ := info_parts Tryd.infoU8
  obtain ⟨s, hs⟩ : ∃ s, bs l = s := ⟨_, rfl⟩
  have hz : s.size = l.length := by rw [← hs, bs_size]
  obtain ⟨n, hn⟩ : ∃ n, l.length = n := ⟨_, rfl⟩
  rw [hn] at hz hl
  obtain ⟨z, hzz⟩ : ∃ z, Dm.zeros n = z := ⟨_, rfl⟩
  have hzl : z < 64 := by rw [← hzz]; unfold Dm.zeros; exact Nat.mod_lt _ (by decide)
  have hzm : ∀ j, j ≤ z → ((n + 1 + j) % 64 = 56 ↔ j = z) := fun j hj => by rw [← hzz] at hj ⊢; unfold Dm.zeros at hj ⊢; omega
  unfold strOf
  rw [hs]
  have HS := Lib.hid hs; have HN := Lib.hid hn; have HZZ := Lib.hid hzz; have HZM := Lib.hid hzm; have HZ := Lib.hid hz
  have hzs : s.size ≤ 10000 := by omega
  clear hs hn hzz hzm hz
  go_enter Tryd.func41, Tryd.ntmps41
  go_wp2
  go_loopw [3, 4] (fun b i wr => ∃ k : Nat, k ≤ s.size ∧ i = .int .i64 (k : Int) ∧ wr.ownsRow w.heap.size 5 1 b k (byteCells (l.take k)) ∧ Below w.heap.size w wr) (fun _ i _ => s.size - (intOf i).toNat)
  case atStart => exact ⟨0, by omega, rfl, World.ownsRow_nil _ _ _ _, Below.refl _ _⟩
  case round =>
    obtain ⟨k, hk, rfl, hown, hbw⟩ := hrel
    by_cases hlt : k < s.size
    · have hkl : k < l.length := by have := HZ.out; have := HN.out; omega
      have hgk : s[k].toNat = l[k].toNat := by
        have := bs_get l k (by rw [HS.out]; exact hlt)
        rw [← this]
        congr 2 <;> first | exact HS.out.symm | (simp [HS.out])
      have htk : l.take (k + 1) = l.take k ++ [l[k]] := List.take_succ_eq_append_getElem hkl
      obtain ⟨q, hq⟩ : ∃ q, l[k] = q := ⟨_, rfl⟩
      rw [hq] at hgk htk
      obtain ⟨v2, w2, hrun, hown2, hb2⟩ := snoc_u8 (b := q) (x := (q.toNat : Int)) hi0 hz0 hz1 hz2 hown hbw (by omega) rfl
      have HT := Lib.hid htk; have HO := Lib.hid hown2; have HB := Lib.hid hb2
      clear htk hq hown2 hb2 hown hbw
      go_wp2
      go_roundw
      case rel => exact ⟨k + 1, by omega, by go_num, by rw [HT.out]; exact HO.out, HB.out⟩
      case measure => simp [intOf]; omega
    · have hta : l.take k = l := List.take_of_length_le (by have := HZ.out; have := HN.out; omega)
      have hkn : k = n := by have := HZ.out; omega
      rw [hta, hkn] at hown
      obtain ⟨v2, w2, hrun, hown2, hb2⟩ := snoc_u8 (b := 128) (x := 128) hi0 hz0 hz1 hz2 hown hbw (by omega) rfl
      have HO := Lib.hid hown2; have HB := Lib.hid hb2
      clear hown2 hb2 hown hbw hta hkn
      go_wp2
      obtain ⟨w2', hw2⟩ : ∃ x : World, x = w2 := ⟨_, rfl⟩
      go_loopw [3] (fun b wr => ∃ j m : Nat, j ≤ z ∧ m = n + 1 + j ∧ (∃ A c, b = .slice A m c) ∧ wr.ownsRow w.heap.size 5 1 b m (byteCells (extAt l j)) ∧ Below w.heap.size w wr) (fun b _ => n + 1 + z - lenV b)
      case atStart => exact ⟨0, n + 1, by omega, by omega, own_slice HO.out, by simpa [extAt] using HO.out, HB.out⟩
      case round =>
        obtain ⟨j, m, hj, hm, ⟨A, c, rfl⟩, hown, hbw⟩ := hrel
        have hzj := HZM.out j hj
        rw [← hm] at hzj
        have HM := Lib.hid hm
        have hm1 : m ≤ 10100 := by omega
        by_cases hjz : j = z
        · have t1 : (((m : Nat) : Int) % 64 != 56) = false := by have := hzj.2 hjz; simp; omega
          have hm2 : m = n + 1 + z := by omega
          have hex : Dm.ext l = extAt l z ++ Dm.len8 n := by unfold Dm.ext Dm.pad extAt; rw [HN.out, HZZ.out]; simp [List.append_assoc]
          have hxn : (Dm.ext l).length = n + 1 + z + 8 := by rw [hex, List.length_append, Dm.len8_len]; unfold extAt; simp [HN.out]; omega
          rw [hjz] at hown
          have HO := Lib.hid hown; have HB := Lib.hid hbw; have HX := Lib.hid hex; have HXN := Lib.hid hxn; have HM2 := Lib.hid hm2
          clear hzj hm hjz hown hbw hex hxn hm2
          go_wp2
          go_loopw [3, 5] (fun b i wr => ∃ x : Int, i = .int .i64 x ∧ -1 ≤ x ∧ x ≤ 7 ∧ wr.ownsRow w.heap.size 5 1 b (m + (7 - x).toNat) (byteCells (extAt l z ++ (Dm.len8 n).take (7 - x).toNat)) ∧ Below w.heap.size w wr) (fun _ i _ => (intOf i + 1).toNat)
          case atStart => exact ⟨7, rfl, by omega, by omega, by simpa using HO.out, HB.out⟩
          case round =>
            obtain ⟨x, rfl, hx1, hx2, hown, hbw⟩ := hrel
            by_cases hx0 : 0 ≤ x
            · obtain ⟨d, rfl⟩ := Int.eq_ofNat_of_zero_le hx0
              have hd : d ≤ 7 := by omega
              have hsn := len8_snoc n (7 - d) (by omega)
              rw [show 7 - (7 - d) = d by omega, show 7 - d + 1 = 8 - d by omega] at hsn
              obtain ⟨q, hq⟩ : ∃ q, 8 * n / 256 ^ d % 256 = q := ⟨_, rfl⟩
              have hq2 : q < 256 := by omega
              have hv : IntKind.u8.wrap (8 * (s.size : Int) / 2 ^ (8 * d)) = (q : Int) := by
                rw [IntKind.wrap_u8, HZ.out, ← hq]; exact shr_pow n d
              rw [hq] at hsn
              have ht : (8 * (d : Int)).toNat = 8 * d := by omega
              have htn : (7 - (d : Int)).toNat = 7 - d := by omega
              rw [htn] at hown
              obtain ⟨v3, w3, hrun, hown3, hb3⟩ := snoc_u8 (b := UInt8.ofNat q) (x := (q : Int)) hi0 hz0 hz1 hz2 hown hbw (by omega) (by rw [u8_ofNat q hq2])
              rw [List.append_assoc, hsn] at hown3
              have HO3 := Lib.hid hown3; have HB3 := Lib.hid hb3
              have hx3 : (d : Int) ≤ 7 := by omega
              clear hq hsn hown3 hb3 hown hbw htn hx0
              go_wp2
              go_roundw
              case rel =>
                refine ⟨(d : Int) - 1, rfl, by omega, by omega, ?_, HB3.out⟩
                have := HO3.out
                rw [show (7 - ((d : Int) - 1)).toNat = 8 - d by omega, show m + (8 - d) = m + (7 - d) + 1 by omega]; exact this
              case measure => simp [intOf]
            · have hxm : x = -1 := by omega
              subst hxm
              have h8 : (Dm.len8 n).take 8 = Dm.len8 n := List.take_of_length_le (by rw [Dm.len8_len]; omega)
              rw [show (7 - (-1 : Int)).toNat = 8 from rfl, h8, ← HX.out, HM2.out, ← HXN.out] at hown
              have HO3 := Lib.hid hown; have HB3 := Lib.hid hbw
              clear hown hbw h8 hx0
              go_wp2
              go_ret
              exact ⟨_, rfl, HO3.out, HB3.out⟩
        · have t1 : (((m : Nat) : Int) % 64 != 56) = true := by
            have : ¬ m % 64 = 56 := fun h => hjz (hzj.1 h)
            simp; omega
          have hjl : j < z := by omega
          obtain ⟨v3, w3, hrun, hown3, hb3⟩ := snoc_u8 (b := 0) (x := 0) hi0 hz0 hz1 hz2 hown hbw (by omega) rfl
          rw [extAt_snoc] at hown3
          have hsl := own_slice hown3
          have HO3 := Lib.hid hown3; have HB3 := Lib.hid hb3; have HSL := Lib.hid hsl
          clear hzj hm hjz hown3 hb3 hown hbw hsl
          go_wp2
          go_roundw
          case rel => exact ⟨j + 1, m + 1, by omega, by have := HM.out; omega, HSL.out, HO3.out, HB3.out⟩
          case measure => obtain ⟨A3, c3, e3⟩ := HSL.out; have := HM.out; subst e3; simp [lenV]; omega
end Go.Proofs.YtnbhhhbmeafkaaaDoor
