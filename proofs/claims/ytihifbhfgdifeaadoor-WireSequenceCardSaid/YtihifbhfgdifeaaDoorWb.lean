/- Contract of collect: it returns what the plain function dec of Wm says, for every string. -/
import Derived.Test.YtihifbhfgdifeaaDoorWa
namespace Go.Proofs.YtihifbhfgdifeaaDoor
open Go.RowKit

theorem and127_u8 (b : Nat) (hb : b < 256) : bits .and .u8 (b : Int) 127 = ((b % 128 : Nat) : Int) := by
  have h : ∀ n : Fin 256, bits .and .u8 ((n.val : Nat) : Int) 127 = ((n.val % 128 : Nat) : Int) := by decide +kernel
  exact h ⟨b, hb⟩
theorem or_disj (k x g : Nat) (hx : x < 128 ^ k) (hk : k < 9) (hg : g < 128) : bits .or .u64 (x : Int) ((g * 128 ^ k : Nat) : Int) = ((x + g * 128 ^ k : Nat) : Int) := by
  have e : 128 ^ k = 2 ^ (7 * k) := by rw [Nat.pow_mul]
  have hle : 128 ^ k ≤ 128 ^ 8 := Nat.pow_le_pow_right (by decide) (by omega)
  have h8 : (128 : Nat) ^ 8 = 72057594037927936 := by decide
  have hg2 : g * 128 ^ k ≤ 127 * 72057594037927936 := Nat.mul_le_mul (by omega) (by omega)
  rw [u64_or _ _ (by omega) (by omega) (by omega) (by omega)]
  simp only [Int.toNat_natCast]
  congr 1
  rw [e] at hx ⊢
  rw [Nat.mul_comm g, Nat.or_comm, ← Nat.two_pow_add_eq_or_of_lt hx, Nat.add_comm]
theorem wrap_shl (k g : Nat) (hk : k < 9) (hg : g < 128) : IntKind.u64.wrap ((g : Int) * 2 ^ (7 * k)) = ((g * 128 ^ k : Nat) : Int) := by
  have e : 128 ^ k = 2 ^ (7 * k) := by rw [Nat.pow_mul]
  have hle : 128 ^ k ≤ 128 ^ 8 := Nat.pow_le_pow_right (by decide) (by omega)
  have h8 : (128 : Nat) ^ 8 = 72057594037927936 := by decide
  have hg2 : g * 128 ^ k ≤ 127 * 72057594037927936 := Nat.mul_le_mul (by omega) (by omega)
  rw [IntKind.wrap_u64]
  have : ((g : Int) * 2 ^ (7 * k)) = ((g * 128 ^ k : Nat) : Int) := by rw [e]; push_cast; rfl
  rw [this]; omega

theorem dec_drop (s : ByteArray) (k x b g y : Nat) (h : k < s.size) (h9 : k < 9) (hb : s[k].toNat = b) (hg : b % 128 = g) (hy : g * 128 ^ k = y) :
    Wm.dec k x (s.data.toList.drop k) = if b < 128 then (if b = 0 ∧ 0 < k then (0, 0) else (x + y, k + 1)) else Wm.dec (k + 1) (x + y) (s.data.toList.drop (k + 1)) := by
  have e : s.data.toList.drop k = s[k] :: s.data.toList.drop (k + 1) := List.drop_eq_getElem_cons (by simpa using h)
  rw [e, Wm.dec, if_neg (by omega), hb, hg, hy]
theorem ret2_int {k1 k2 : IntKind} {a b c d : Int} (h1 : a = b) (h2 : c = d) : Ending.returned (.tuple #[.int k1 a, .int k2 c]) = .returned (.tuple #[.int k1 b, .int k2 d]) := by rw [h1, h2]
theorem lt_pow_succ (k x g y : Nat) (hx : x < 128 ^ k) (hg : g < 128) (hy : g * 128 ^ k = y) : x + y < 128 ^ (k + 1) := by
  subst hy
  rw [Nat.pow_succ]
  have : g * 128 ^ k + 128 ^ k ≤ 128 ^ k * 128 := by
    rw [show g * 128 ^ k + 128 ^ k = (g + 1) * 128 ^ k from by rw [Nat.add_mul, Nat.one_mul], Nat.mul_comm]
    exact Nat.mul_le_mul_left _ (by omega)
  omega

set_option maxRecDepth 100000 in
set_option maxHeartbeats 400000 in
theorem collect_any (s : ByteArray) (w : World) (hs : s.size ≤ maxLen) :
    Calls Tryd.prog 26 #[.string s] w fun e w' => e = .returned (.tuple #[.int .u64 ((Wm.dec 0 0 s.data.toList).1 : Nat), .int .i64 ((Wm.dec 0 0 s.data.toList).2 : Nat)]) ∧ w = w' := by
  unfold maxLen at hs
  go_enter Tryd.func26, Tryd.ntmps26
  go_wp2
  go_loop [4, 5, 6] (fun z i g => ∃ (k x : Nat), k ≤ s.size ∧ k ≤ 9 ∧ x < 128 ^ k ∧ i = .int .i64 k ∧ z = .int .u64 x ∧ Wm.dec 0 0 s.data.toList = Wm.dec k x (s.data.toList.drop k)) (fun _ i _ => s.size - (intOf i).toNat)
  case atStart => exact ⟨0, 0, by omega, by omega, by decide, rfl, rfl, rfl⟩
  case round =>
    obtain ⟨k, x, hk, hk9, hx, rfl, rfl, hd⟩ := hrel
    have HD := Lib.hid hd; clear hd
    have HX := Lib.hid hx; clear hx
    by_cases hlt : k < s.size
    · by_cases h9 : k < 9
      · obtain ⟨b, hb⟩ : ∃ b, s[k].toNat = b := ⟨_, rfl⟩
        have hb2 : b < 256 := by rw [← hb]; exact s[k].toNat_lt
        have ha := and127_u8 b hb2
        obtain ⟨g, hg⟩ : ∃ g, b % 128 = g := ⟨_, rfl⟩
        have hg2 : g < 128 := by omega
        rw [hg] at ha
        have h1 := wrap_shl k g h9 hg2
        have h2 := or_disj k x g HX.out h9 hg2
        obtain ⟨y, hy⟩ : ∃ y, g * 128 ^ k = y := ⟨_, rfl⟩
        rw [hy] at h1 h2
        have HY := Lib.hid hy; clear hy
        have HG := Lib.hid hg; clear hg
        have ht : (7 * (k : Int)).toNat = 7 * k := by omega
        go_wp2
        · go_ret2
          have hk0 : 0 < k := by assumption
          have hg0 : g = 0 := by assumption
          have hlb : (b : Int) < 128 := by assumption
          have e := dec_drop s k x b g y hlt h9 hb HG.out HY.out
          rw [if_pos (by omega), if_pos (by have := HG.out; omega)] at e
          exact ⟨ret2_int (by rw [HD.out, e]; rfl) (by rw [HD.out, e]; rfl), rfl⟩
        · go_ret2
          have hk0 : ¬ 0 < k := by assumption
          have hlb : (b : Int) < 128 := by assumption
          have e := dec_drop s k x b g y hlt h9 hb HG.out HY.out
          rw [if_pos (by omega), if_neg (by omega)] at e
          exact ⟨ret2_int (by rw [HD.out, e]; simp) (by rw [HD.out, e]; simp), rfl⟩
        · go_ret2
          have hg0 : ¬ g = 0 := by assumption
          have hlb : (b : Int) < 128 := by assumption
          have e := dec_drop s k x b g y hlt h9 hb HG.out HY.out
          rw [if_pos (by omega), if_neg (by have := HG.out; omega)] at e
          exact ⟨ret2_int (by rw [HD.out, e]; simp) (by rw [HD.out, e]; simp), rfl⟩
        · have hlb : 128 ≤ (b : Int) := by assumption
          have e := dec_drop s k x b g y hlt h9 hb HG.out HY.out
          rw [if_neg (by omega)] at e
          have hlt2 := lt_pow_succ k x g y HX.out hg2 HY.out
          go_round
          case rel => exact ⟨k + 1, x + y, by omega, by omega, hlt2, by go_num, by go_num, by rw [HD.out, e]⟩
          case measure => simp [intOf]; omega
      · go_wp2
        go_ret2
        have e : Wm.dec k x (s.data.toList.drop k) = (0, 0) := by
          have e : s.data.toList.drop k = s[k] :: s.data.toList.drop (k + 1) := List.drop_eq_getElem_cons (by simpa using hlt)
          rw [e, Wm.dec, if_pos (by omega)]
        exact ⟨ret2_int (by rw [HD.out, e]; rfl) (by rw [HD.out, e]; rfl), rfl⟩
    · go_wp2
      go_ret2
      have e : Wm.dec k x (s.data.toList.drop k) = (0, 0) := by
        rw [List.drop_eq_nil_of_le (by simp; omega)]; rfl
      exact ⟨ret2_int (by rw [HD.out, e]; rfl) (by rw [HD.out, e]; rfl), rfl⟩
end Go.Proofs.YtihifbhfgdifeaaDoor
