/- Contracts of left, binary and hex. -/
import Derived.Test.YtnbhhhbmeafkaaaDoorDu
import Derived.Test.YtnbhhhbmeafkaaaDoorM1
import Derived.Deep.QuietTactic
import Derived.BigQuiet
namespace Go.Proofs.YtnbhhhbmeafkaaaDoor
open Go.RowKit

theorem ret_i64 {a b : Int} (h : a = b) : Ending.returned (.int .i64 a) = .returned (.int .i64 b) := by rw [h]

set_option maxHeartbeats 400000 in
theorem left_any (n : Nat) (w : World) (h2 : 2 ≤ n) (hn : n ≤ 9223372036854775807) :
    Calls Tryd.prog 38 #[.int .i64 (n : Int)] w fun e w' => e = .returned (.int .i64 ((Dm.lft n : Nat) : Int)) ∧ w = w' := by
  go_enter Tryd.func38, Tryd.ntmps38
  go_wp2
  go_loop [3] (fun k => ∃ j x : Nat, k = .int .i64 (x : Int) ∧ Hid (x = 2 ^ j) ∧ x < n ∧ 1 ≤ x) (fun k => n - (intOf k).toNat)
  case atStart => exact ⟨0, 1, rfl, Lib.hid rfl, by omega, by omega⟩
  case round =>
    obtain ⟨j, x, rfl, hx, hlt, h1⟩ := hrel
    by_cases hc : (x : Int) < (n : Int) - (x : Int)
    · go_wp2
      go_round
      case rel => exact ⟨j + 1, 2 * x, by go_num, Lib.hid (by rw [hx.out, Nat.pow_succ]; omega), by omega, by omega⟩
      case measure => simp [intOf]; omega
    · have hl : Dm.lft n = x := by rw [Dm.lft_uniq n j (by rw [← hx.out]; omega) (by rw [Nat.pow_succ, ← hx.out]; omega), hx.out]
      have HL := Lib.hid hl
      clear hl
      go_wp2
      go_ret
      exact ⟨ret_i64 (by rw [HL.out]), rfl⟩

set_option maxHeartbeats 400000 in
theorem binary_any (n : Nat) (w : World) (hn : n ≤ 9223372036854775807) :
    Calls Tryd.prog 33 #[.int .i64 (n : Int)] w fun e w' => e = .returned (.int .i64 ((Dm.bin n : Nat) : Int)) ∧ w = w' := by
  have hb : Dm.bin n ≤ 63 := by
    unfold Dm.bin
    split
    · omega
    · have : Nat.log2 n < 63 := (Nat.log2_lt (by omega)).2 (by omega)
      omega
  go_enter Tryd.func33, Tryd.ntmps33
  go_wp2
  go_loop [0, 3] (fun m k => ∃ x y : Nat, m = .int .i64 (x : Int) ∧ k = .int .i64 (y : Int) ∧ Hid (y + Dm.bin x = Dm.bin n) ∧ x ≤ 9223372036854775807 ∧ y ≤ 63) (fun m _ => (intOf m).toNat)
  case atStart => exact ⟨n, 0, rfl, rfl, Lib.hid (by omega), by omega, by omega⟩
  case round =>
    obtain ⟨x, y, rfl, rfl, hx, hx1, hy⟩ := hrel
    by_cases hc : 0 < x
    · have hd := Dm.bin_div x (by omega)
      have hs := hx.out
      have hy2 : y + 1 ≤ 63 := by omega
      have HN : Hid (y + 1 + Dm.bin (x / 2) = Dm.bin n) := Lib.hid (by omega)
      clear hd hs hx
      go_wp2
      go_round
      case rel => exact ⟨x / 2, y + 1, by go_num, by go_num, HN, by omega, by omega⟩
      case measure => simp [intOf]; omega
    · obtain rfl : x = 0 := by omega
      have hs := hx.out
      have : Dm.bin 0 = 0 := rfl
      have HN := Lib.hid (show Dm.bin n = y by omega)
      clear this hs hx
      go_wp2
      go_ret
      exact ⟨ret_i64 (by rw [HN.out]), rfl⟩

/-- A string in hexadecimal. -/
def hexD : List UInt8 := [48, 49, 50, 51, 52, 53, 54, 55, 56, 57, 97, 98, 99, 100, 101, 102]
def hexL (l : List UInt8) : List UInt8 := l.flatMap fun b => [hexD.getD (b.toNat / 16) 0, hexD.getD (b.toNat % 16) 0]
theorem hex_cut (x : Nat) (h : x < 16) : (⟨#[48, 49, 50, 51, 52, 53, 54, 55, 56, 57, 97, 98, 99, 100, 101, 102]⟩ : ByteArray).extract x (x + 1) = bs [hexD.getD x 0] := by
  have : x = 0 ∨ x = 1 ∨ x = 2 ∨ x = 3 ∨ x = 4 ∨ x = 5 ∨ x = 6 ∨ x = 7 ∨ x = 8 ∨ x = 9 ∨ x = 10 ∨ x = 11 ∨ x = 12 ∨ x = 13 ∨ x = 14 ∨ x = 15 := by omega
  rcases this with rfl | rfl | rfl | rfl | rfl | rfl | rfl | rfl | rfl | rfl | rfl | rfl | rfl | rfl | rfl | rfl <;> decide +kernel
theorem hexL_snoc (l : List UInt8) (k : Nat) (h : k < l.length) : bs (hexL (l.take k)) ++ bs [hexD.getD (l[k].toNat / 16) 0] ++ bs [hexD.getD (l[k].toNat % 16) 0] = bs (hexL (l.take (k + 1))) := by
  rw [List.take_succ_eq_append_getElem h, bs_append, bs_append]
  unfold hexL
  rw [List.flatMap_append, List.flatMap_singleton, List.append_assoc]; rfl
theorem hexL_len (l : List UInt8) : (hexL l).length = 2 * l.length := by
  induction l with
  | nil => rfl
  | cons a l ih =>
    have : hexL (a :: l) = [hexD.getD (a.toNat / 16) 0, hexD.getD (a.toNat % 16) 0] ++ hexL l := rfl
    rw [this, List.length_append, ih]; simp; omega
theorem bs_get (l : List UInt8) (k : Nat) (h : k < (bs l).size) : (bs l)[k] = l[k]'(by rw [bs_size] at h; exact h) := by
  show (bs l).data[k] = _
  simp [bs]
set_option maxRecDepth 100000 in
set_option maxHeartbeats 1000000 in
theorem hex_any (l : List UInt8) (w : World) (hl : l.length ≤ 1000) :
    Calls Tryd.prog 39 #[strOf l] w fun e w' => e = .returned (strOf (hexL l)) ∧ ∃ n, w' = w.drewN n := by
  obtain ⟨s, hs⟩ : ∃ s, bs l = s := ⟨_, rfl⟩
  have hz : s.size = l.length := by rw [← hs, bs_size]
  have hz2 : s.size ≤ 1000 := by omega
  unfold strOf
  rw [hs]
  have HS := Lib.hid hs; have HZ := Lib.hid hz
  clear hs hz
  go_enter Tryd.func39, Tryd.ntmps39
  go_wp2
  go_loopw [3, 4] (fun o i wr => ∃ k : Nat, k ≤ s.size ∧ i = .int .i64 (k : Int) ∧ o = .string (bs (hexL (l.take k))) ∧ ∃ n, wr = w.drewN n) (fun _ i _ => s.size - (intOf i).toNat)
  case atStart => exact ⟨0, by omega, rfl, rfl, 0, rfl⟩
  case round =>
    obtain ⟨k, hk, rfl, rfl, m, rfl⟩ := hrel
    by_cases hlt : k < s.size
    · have hkl : k < l.length := by have := HZ.out; omega
      have hsn := hexL_snoc l k hkl
      have hgk : s[k].toNat = l[k].toNat := by
        have := bs_get l k (by rw [HS.out]; exact hlt)
        rw [← this]
        congr 2 <;> first | exact HS.out.symm | (simp [HS.out])
      rw [← hgk] at hsn
      obtain ⟨b, hb⟩ : ∃ b, s[k].toNat = b := ⟨_, rfl⟩
      have hb2 : b < 256 := by rw [← hb]; exact s[k].toNat_lt
      rw [hb] at hsn
      clear hgk
      have i1 : (0 : Int) ≤ (k : Int) := by omega
      have i2 : (k : Int) < (s.size : Int) := by omega
      obtain ⟨q, hq⟩ : ∃ q, b / 16 = q := ⟨_, rfl⟩
      obtain ⟨r, hr⟩ : ∃ r, b % 16 = r := ⟨_, rfl⟩
      rw [hq, hr] at hsn
      have hq2 : q < 16 := by omega
      have hr2 : r < 16 := by omega
      have w1 : (b : Int) / 16 = (q : Int) := by omega
      have w2 : IntKind.u8.wrap (q : Int) = (q : Int) := by rw [IntKind.wrap_u8]; omega
      have w3 : IntKind.u8.wrap ((q : Int) + 1) = (q : Int) + 1 := by rw [IntKind.wrap_u8]; omega
      have w4 : (b : Int).tmod 16 = (r : Int) := by rw [Int.tmod_eq_emod_of_nonneg (by omega)]; omega
      have w5 : IntKind.u8.wrap (r : Int) = (r : Int) := by rw [IntKind.wrap_u8]; omega
      have w6 : IntKind.u8.wrap ((r : Int) + 1) = (r : Int) + 1 := by rw [IntKind.wrap_u8]; omega
      have w7 : (q : Int) ≤ (q : Int) + 1 := by omega
      have w8 : (r : Int) ≤ (r : Int) + 1 := by omega
      have w9 : (q : Int) + 1 ≤ 16 := by omega
      have w10 : (r : Int) + 1 ≤ 16 := by omega
      have w11 : (0 : Int) ≤ (q : Int) := by omega
      have w12 : (0 : Int) ≤ (r : Int) := by omega
      have e1 := hex_cut q hq2
      have e2 := hex_cut r hr2
      clear hq hr
      have hz0 : (hexL (l.take k)).length ≤ 2000 := by
        have h := hexL_len (l.take k)
        rw [List.length_take] at h; omega
      obtain ⟨O, hO⟩ : ∃ O, bs (hexL (l.take k)) = O := ⟨_, rfl⟩
      obtain ⟨X, hX⟩ : ∃ X, bs [hexD.getD q 0] = X := ⟨_, rfl⟩
      obtain ⟨Y, hY⟩ : ∃ Y, bs [hexD.getD r 0] = Y := ⟨_, rfl⟩
      have z1 : O.size ≤ 2000 := by rw [← hO, bs_size]; exact hz0
      have z2 : X.size = 1 := by rw [← hX, bs_size]; rfl
      have z3 : Y.size = 1 := by rw [← hY, bs_size]; rfl
      have z4 : (O ++ X).size ≤ 2001 := by rw [ByteArray.size_append]; omega
      rw [hX] at e1 hsn; rw [hY] at e2 hsn; rw [hO] at hsn ⊢
      have HSN := Lib.hid hsn
      clear hsn hX hY hO hz0
      go_wp2
      go_quiet (fail)
      go_wp2
      go_roundw
      case rel => exact ⟨k + 1, by omega, by go_num, by rw [HSN.out], _, rfl⟩
      case measure => simp [intOf]; omega
    · have ht : l.take k = l := List.take_of_length_le (by have := HZ.out; omega)
      rw [ht]
      clear ht
      go_wp2
      go_ret
      exact ⟨rfl, _, rfl⟩
end Go.Proofs.YtnbhhhbmeafkaaaDoor
