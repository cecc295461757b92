/- Contract of Sum: where the table reads as the program's text lays it, Sum returns the checksum that the plain function crc of Wm says, for every string. -/
import Derived.Test.YtihifbhfgdifeaaDoorWa
namespace Go.Proofs.YtihifbhfgdifeaaDoor
open Go.RowKit

/-- The table's cells. -/
def TabOk (w : World) : Prop := ∀ i, i < 16 → w.cell? ⟨0, i, none⟩ = some (.int .u32 ((Wm.tab.getD i 0 : Nat) : Int))

theorem xor_u32 (x b : Nat) (hx : x < 4294967296) (hb : b < 4294967296) : bits .xor .u32 (x : Int) (b : Int) = ((x ^^^ b : Nat) : Int) := by
  rw [u32_xor _ _ (by omega) (by omega) (by omega) (by omega)]; simp
theorem and15_u32 (x : Nat) (hx : x < 4294967296) : bits .and .u32 (x : Int) 15 = ((x % 16 : Nat) : Int) := by
  rw [u32_and _ _ (by omega) (by omega) (by omega) (by omega)]
  simp only [Int.toNat_natCast]
  congr 1
  have : (15 : Int).toNat = 2 ^ 4 - 1 := by decide
  rw [this, Nat.and_two_pow_sub_one_eq_mod]

theorem not_u32 (x : Nat) (hx : x < 4294967296) : wrap64 (bits .xor .u32 IntKind.u32.max (x : Int)) = ((4294967295 ^^^ x : Nat) : Int) := by
  have hm : IntKind.u32.max = ((4294967295 : Nat) : Int) := by decide
  have hl : 4294967295 ^^^ x < 4294967296 := Nat.xor_lt_two_pow (n := 32) (by omega) (by omega)
  rw [hm, xor_u32 _ _ (by omega) hx]
  exact IntWalk.wrap64_in _ ⟨by omega, by omega⟩

set_option maxRecDepth 100000 in
set_option maxHeartbeats 400000 in
theorem sum_any (s : ByteArray) (w : World) (hs : s.size ≤ maxLen) (ht : TabOk w) :
    Calls Tryd.prog 21 #[.string s] w fun e w' => e = .returned (.int .i64 ((Wm.crc s.data.toList : Nat) : Int)) ∧ w = w' := by
  unfold maxLen at hs
  go_enter Tryd.func21, Tryd.ntmps21
  go_wp2
  go_loop [3, 4] (fun r i => ∃ (k x : Nat), k ≤ s.size ∧ x < 4294967296 ∧ i = .int .i64 k ∧ r = .int .u32 x ∧ Wm.reg 4294967295 s.data.toList = Wm.reg x (s.data.toList.drop k)) (fun _ i => s.size - (intOf i).toNat)
  case atStart => exact ⟨0, 4294967295, by omega, by decide, rfl, rfl, rfl⟩
  case round =>
    obtain ⟨k, x, hk, hx, rfl, rfl, hd⟩ := hrel
    have HD := Lib.hid hd; clear hd
    have HT := Lib.hid ht; clear ht
    by_cases hlt : k < s.size
    · obtain ⟨b, hb⟩ : ∃ b, s[k].toNat = b := ⟨_, rfl⟩
      have hb2 : b < 256 := by rw [← hb]; exact s[k].toNat_lt
      have e0 := xor_u32 x b hx (by omega)
      have hy : x ^^^ b < 4294967296 := Nat.xor_lt_two_pow (n := 32) (by omega) (by omega)
      obtain ⟨y, hyy⟩ : ∃ y, x ^^^ b = y := ⟨_, rfl⟩
      rw [hyy] at e0 hy
      have HY := Lib.hid hyy; clear hyy
      have e1 := and15_u32 y hy
      have c1 := HT.out (y % 16) (by omega)
      have hi1 : y % 16 < 16 := by omega
      have ht1 := Wm.tab_lt (y % 16)
      obtain ⟨t1, hu1⟩ : ∃ t1, Wm.tab.getD (y % 16) 0 = t1 := ⟨_, rfl⟩
      rw [hu1] at c1 ht1
      have e2 : bits .xor .u32 ((y : Int) / 16) (t1 : Int) = ((y / 16 ^^^ t1 : Nat) : Int) := xor_u32 (y / 16) t1 (by omega) ht1
      have hz : y / 16 ^^^ t1 < 4294967296 := Nat.xor_lt_two_pow (n := 32) (by omega) (by omega)
      have e3 := and15_u32 (y / 16 ^^^ t1) hz
      have c2 := HT.out ((y / 16 ^^^ t1) % 16) (by omega)
      have hi2 : (y / 16 ^^^ t1) % 16 < 16 := by omega
      have ht2 := Wm.tab_lt ((y / 16 ^^^ t1) % 16)
      obtain ⟨t2, hu2⟩ : ∃ t2, Wm.tab.getD ((y / 16 ^^^ t1) % 16) 0 = t2 := ⟨_, rfl⟩
      rw [hu2] at c2 ht2
      have e4 : bits .xor .u32 (((y / 16 ^^^ t1 : Nat) : Int) / 16) (t2 : Int) = (((y / 16 ^^^ t1) / 16 ^^^ t2 : Nat) : Int) := xor_u32 ((y / 16 ^^^ t1) / 16) t2 (by omega) ht2
      have hv : (y / 16 ^^^ t1) / 16 ^^^ t2 < 4294967296 := Nat.xor_lt_two_pow (n := 32) (by omega) (by omega)
      have e5 : Wm.Tn 8 y = (y / 16 ^^^ t1) / 16 ^^^ t2 := by rw [Wm.T8_tab, hu1, hu2]
      clear hu1 hu2
      obtain ⟨i1, hi⟩ : ∃ i, y % 16 = i := ⟨_, rfl⟩
      rw [hi] at e1 c1 hi1
      clear hi
      obtain ⟨z, hzz⟩ : ∃ z, y / 16 ^^^ t1 = z := ⟨_, rfl⟩
      rw [hzz] at e2 hz e3 c2 hi2 e4 hv e5
      clear hzz
      obtain ⟨i2, hi⟩ : ∃ i, z % 16 = i := ⟨_, rfl⟩
      rw [hi] at e3 c2 hi2
      clear hi
      obtain ⟨v, hvv⟩ : ∃ v, z / 16 ^^^ t2 = v := ⟨_, rfl⟩
      rw [hvv] at e4 hv e5
      clear hvv
      have HE := Lib.hid e5; clear e5
      go_wp2
      go_round
      case rel =>
        refine ⟨k + 1, v, by omega, hv, by go_num, rfl, ?_⟩
        have e : s.data.toList.drop k = s[k] :: s.data.toList.drop (k + 1) := List.drop_eq_getElem_cons (by simpa using hlt)
        rw [HD.out, e, Wm.reg, hb, HY.out, HE.out]
      case measure => simp [intOf]; omega
    · have hf : Wm.reg 4294967295 s.data.toList = x := by
        rw [HD.out, List.drop_eq_nil_of_le (by simp; omega)]; rfl
      have HF := Lib.hid hf; clear hf
      go_wp2
      go_ret
      exact ⟨ret_int' (by unfold Wm.crc; rw [HF.out]; exact not_u32 x hx), rfl⟩

set_option maxRecDepth 100000 in
set_option maxHeartbeats 400000 in
theorem refSum_any (s : ByteArray) (w : World) (hs : s.size ≤ maxLen) :
    Calls Tryd.prog 22 #[.string s] w fun e w' => e = .returned (.int .i64 ((Wm.crc s.data.toList : Nat) : Int)) ∧ w = w' := by
  unfold maxLen at hs
  go_enter Tryd.func22, Tryd.ntmps22
  go_wp2
  go_loop [3, 4, 5, 6] (fun r i _ _ => ∃ (k x : Nat), k ≤ s.size ∧ x < 4294967296 ∧ i = .int .i64 k ∧ r = .int .u32 x ∧ Wm.reg 4294967295 s.data.toList = Wm.reg x (s.data.toList.drop k)) (fun _ i _ _ => s.size - (intOf i).toNat)
  case atStart => exact ⟨0, 4294967295, by omega, by decide, rfl, rfl, rfl⟩
  case round =>
    obtain ⟨k, x, hk, hx, rfl, rfl, hd⟩ := hrel
    have HD := Lib.hid hd; clear hd
    by_cases hlt : k < s.size
    · obtain ⟨b, hb⟩ : ∃ b, s[k].toNat = b := ⟨_, rfl⟩
      have hb2 : b < 256 := by rw [← hb]; exact s[k].toNat_lt
      have e0 := xor_u32 x b hx (by omega)
      have hy : x ^^^ b < 4294967296 := Nat.xor_lt_two_pow (n := 32) (by omega) (by omega)
      obtain ⟨y, hyy⟩ : ∃ y, x ^^^ b = y := ⟨_, rfl⟩
      rw [hyy] at e0 hy
      have HY := Lib.hid hyy; clear hyy
      go_wp2
      go_loop [3, 5, 6] (fun r j _ => ∃ (m q : Nat), m ≤ 8 ∧ q < 4294967296 ∧ j = .int .i64 m ∧ r = .int .u32 q ∧ Wm.Tn 8 y = Wm.Tn (8 - m) q) (fun _ j _ => 8 - (intOf j).toNat)
      case atStart => exact ⟨0, y, by omega, hy, rfl, rfl, rfl⟩
      case round =>
        obtain ⟨m, q, hm, hq, rfl, rfl, hd⟩ := hrel
        have HQ := Lib.hid hd; clear hd
        by_cases hm8 : m < 8
        · have hs8 : 8 - m = (8 - (m + 1)) + 1 := by omega
          have ht1 := Wm.T1_lt q hq
          by_cases ho : q % 2 = 1
          · have hb1 : (((q : Int) % 2) == 1) = true := by rw [beq_iff_eq]; omega
            have e1 : bits .xor .u32 ((q : Int) / 2) 2197175160 = ((Wm.T1 q : Nat) : Int) := by
              have := xor_u32 (q / 2) 2197175160 (by omega) (by omega)
              unfold Wm.T1; rw [ho, Nat.one_mul]; exact this
            have H8 := Lib.hid hs8; clear hs8
            clear ho
            go_wp2
            go_round
            case rel => exact ⟨m + 1, Wm.T1 q, by omega, ht1, by go_num, rfl, by rw [HQ.out, H8.out]; rfl⟩
            case measure => simp [intOf]; omega
          · have hb1 : (((q : Int) % 2) == 1) = false := by rw [beq_eq_false_iff_ne]; omega
            have e1 : Wm.T1 q = q / 2 := by
              unfold Wm.T1; rw [show q % 2 = 0 from by omega, Nat.zero_mul, Nat.xor_zero]
            have H8 := Lib.hid hs8; clear hs8
            have H9 := Lib.hid e1; clear e1
            clear ho
            go_wp2
            go_round
            case rel => exact ⟨m + 1, q / 2, by omega, by omega, by go_num, by go_num, by rw [HQ.out, H8.out, Wm.Tn, H9.out]⟩
            case measure => simp [intOf]; omega
        · obtain rfl : m = 8 := by omega
          go_wp2
          go_round
          case rel =>
            refine ⟨k + 1, q, by omega, hq, by go_num, rfl, ?_⟩
            have e : s.data.toList.drop k = s[k] :: s.data.toList.drop (k + 1) := List.drop_eq_getElem_cons (by simpa using hlt)
            rw [HD.out, e, Wm.reg, hb, HY.out, HQ.out]; rfl
          case measure => simp [intOf]; omega
    · have hf : Wm.reg 4294967295 s.data.toList = x := by
        rw [HD.out, List.drop_eq_nil_of_le (by simp; omega)]; rfl
      have HF := Lib.hid hf; clear hf
      go_wp2
      go_ret
      exact ⟨ret_int' (by unfold Wm.crc; rw [HF.out]; exact not_u32 x hx), rfl⟩
end Go.Proofs.YtihifbhfgdifeaaDoor
